/- What the project's functions on polynomials answer, over the loaded program. -/
import Derived.Test.YtlbkfooogpmihaqLawPly
import Derived.Test.YtlbkfooogpmihaqLawPly1
import Derived.Test.YtlbkfooogpmihaqPlyA
import Derived.Test.YtlbkfooogpmihaqPlyB
import Derived.Test.YtlbkfooogpmihaqPlyC
import Derived.Test.YtlbkfooogpmihaqPlyD
import Derived.Test.YtlbkfooogpmihaqPlyE
import Derived.Test.YtlbkfooogpmihaqPlyF
