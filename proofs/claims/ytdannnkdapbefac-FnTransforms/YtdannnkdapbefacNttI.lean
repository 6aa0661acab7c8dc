/- What the project's transforms answer, over the loaded program. -/
import Derived.Test.YtdannnkdapbefacLawNtt
import Derived.Test.YtdannnkdapbefacNttC
import Derived.Test.YtdannnkdapbefacNttE
