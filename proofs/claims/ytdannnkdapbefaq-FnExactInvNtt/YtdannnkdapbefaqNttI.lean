/- What the project's transforms answer, over the loaded program. -/
import Derived.Test.YtdannnkdapbefaqLawNtt
import Derived.Test.YtdannnkdapbefaqNttC
import Derived.Test.YtdannnkdapbefaqNttE
