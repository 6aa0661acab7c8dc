/- What the project's functions on polynomials answer, over the loaded program. -/
import Derived.Test.YtdannnkdapbefadLawPly
import Derived.Test.YtdannnkdapbefadLawPly1
import Derived.Test.YtdannnkdapbefadPlyA
import Derived.Test.YtdannnkdapbefadPlyB
import Derived.Test.YtdannnkdapbefadPlyC
import Derived.Test.YtdannnkdapbefadPlyD
import Derived.Test.YtdannnkdapbefadPlyE
import Derived.Test.YtdannnkdapbefadPlyF
