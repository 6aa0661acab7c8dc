/- Polynomials by the project: whether one is right, over the loaded program. -/
import Derived.Test.YtkiocjbooegajaqDoorPly2
import Derived.Shelf.Abstract
namespace Go.Proofs.YtkiocjbooegajaqDoor
open Go.RowKit Go.Shelf
def wrongN (x : Int) : Bool := decide (x < 0) || decide (3329 ≤ x)
theorem wrongN_no (x : Int) : wrongN x = false ↔ 0 ≤ x ∧ x ≤ 3328 := by
  unfold wrongN
  rw [Bool.or_eq_false_iff, decide_eq_false_iff_not, decide_eq_false_iff_not]
  omega
end Go.Proofs.YtkiocjbooegajaqDoor
