/- The law of DiskOk, walked. -/
import Derived.Test.YtfglljollonnfalDiskI
import Derived.Test.YtfglljollonnfalDiskS
namespace Go.Proofs.Ytfglljollonnfal
open Go.RowKit

theorem bd_of {fs : List Fl} {m : Nat} (h : m + fs.length + flsSz fs = 1048576) : Bd fs ∧ fs.length ≤ 1048576 := by
  refine ⟨fun f hf => ?_, by omega⟩
  have := flsSz_mem hf
  unfold flSz at this
  omega

end Go.Proofs.Ytfglljollonnfal
