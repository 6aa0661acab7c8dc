/- What laws.eqFile, eqFileS, eqDisk come to where both are the same. -/
import Derived.Test.YtfplbkcgeeamhaaTo
namespace Go.Proofs.Ytfplbkcgeeamhaa
open Go.RowKit

end Go.Proofs.Ytfplbkcgeeamhaa
