/- What the project's functions on polynomials answer, over the loaded program. -/
import Derived.Test.YtlbkfooogpmihacLawPly
import Derived.Test.YtlbkfooogpmihacLawPly1
import Derived.Test.YtlbkfooogpmihacPlyA
import Derived.Test.YtlbkfooogpmihacPlyB
import Derived.Test.YtlbkfooogpmihacPlyC
import Derived.Test.YtlbkfooogpmihacPlyD
import Derived.Test.YtlbkfooogpmihacPlyE
import Derived.Test.YtlbkfooogpmihacPlyF
