/- What laws.toFile, toFileS, toDisk come to: a copy of the call's own. -/
import Derived.Test.YtfplbkcgeeamhaaSz
namespace Go.Proofs.Ytfplbkcgeeamhaa
open Go.RowKit

theorem infoFile : (Try.prog.info? 36).map (fun i => (i.zero, i.size, i.bytes)) = some (some (flv flz), 3, 40) := by kernel_rfl


end Go.Proofs.Ytfplbkcgeeamhaa
