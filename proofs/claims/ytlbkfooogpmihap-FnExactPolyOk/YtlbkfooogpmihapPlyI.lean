/- What the project's functions on polynomials answer, over the loaded program. -/
import Derived.Test.YtlbkfooogpmihapLawPly
import Derived.Test.YtlbkfooogpmihapLawPly1
import Derived.Test.YtlbkfooogpmihapPlyA
import Derived.Test.YtlbkfooogpmihapPlyB
import Derived.Test.YtlbkfooogpmihapPlyC
import Derived.Test.YtlbkfooogpmihapPlyD
import Derived.Test.YtlbkfooogpmihapPlyE
import Derived.Test.YtlbkfooogpmihapPlyF
