/- Streams taken from, by impl, over the loaded program: what is given. -/
import Derived.Test.YtkidgllmhdfgaanDoorSpg12
import Derived.Test.YtkidgllmhdfgaanDoorRnd
namespace Go.Proofs.YtkidgllmhdfgaanDoor
open Go.RowKit
theorem LnAt.sb {w : World} {g h k : Nat} {T : TypeId} {l : List Nat} (hA : LnAt w g T l) (v : Value) (hne : g ≠ h) : LnAt (w.setCell ⟨h, k, none⟩ v) g T l := hA.set_other hne v
def endS (st : ByteArray) (p n : Nat) : Gv := gvEnd n ⟨lanesS st, p, []⟩
end Go.Proofs.YtkidgllmhdfgaanDoor
