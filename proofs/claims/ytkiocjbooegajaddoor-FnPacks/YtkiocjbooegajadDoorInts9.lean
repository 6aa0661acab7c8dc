/- Rows of numbers marked and held, over the loaded program. -/
import Derived.Test.YtkiocjbooegajadDoorInts
namespace Go.Proofs.YtkiocjbooegajadDoor
open Go.RowKit
theorem mkI_at (k n i : Nat) (h : i < n) : (mkI k n)[i]? = some (.int .i64 ((k + i : Nat) : Int)) := by
  unfold mkI
  rw [List.getElem?_map, List.getElem?_range h]
  rfl
end Go.Proofs.YtkiocjbooegajadDoor
