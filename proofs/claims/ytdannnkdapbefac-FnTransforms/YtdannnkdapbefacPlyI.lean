/- What the project's functions on polynomials answer, over the loaded program. -/
import Derived.Test.YtdannnkdapbefacLawPly
import Derived.Test.YtdannnkdapbefacLawPly1
import Derived.Test.YtdannnkdapbefacPlyA
import Derived.Test.YtdannnkdapbefacPlyB
import Derived.Test.YtdannnkdapbefacPlyC
import Derived.Test.YtdannnkdapbefacPlyD
import Derived.Test.YtdannnkdapbefacPlyE
import Derived.Test.YtdannnkdapbefacPlyF
