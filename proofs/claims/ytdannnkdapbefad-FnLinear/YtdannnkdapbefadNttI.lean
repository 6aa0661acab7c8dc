/- What the project's transforms answer, over the loaded program. -/
import Derived.Test.YtdannnkdapbefadLawNtt
import Derived.Test.YtdannnkdapbefadNttC
import Derived.Test.YtdannnkdapbefadNttE
