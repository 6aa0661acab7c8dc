/- Polynomials by the given model: how far two are apart; sums and differences, over the loaded program. -/
import Derived.Test.YtecononlghjepawPly1
import Derived.Deep.RegionHeld3
import Derived.Deep.QuietTactic
import Derived.BigQuiet
namespace Go.Proofs.Ytecononlghjepaw
open Go.RowKit
theorem bothP_no1 {a b : List Int} (h : okPl a = false) : bothP a b = false := by unfold bothP; rw [h]; rfl
theorem bothP_no2 {a b : List Int} (h : okPl b = false) : bothP a b = false := by unfold bothP; rw [h]; exact Bool.and_false _
end Go.Proofs.Ytecononlghjepaw
