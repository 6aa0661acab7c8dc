/- Streams taken from, by impl, over the loaded program. -/
import Derived.Test.YtkidgllmhdfgaanDoorSpg11
namespace Go.Proofs.YtkidgllmhdfgaanDoor
open Go.RowKit
theorem take_joinA (w W w5 : World) (st : ByteArray) (p : Int) (T : TypeId) (hB : SB W w.heap.size T ⟨st, p⟩) (hR : SB W (w.heap.size + 1) T s0) (hb : Below w.heap.size w W) (hlt : w.heap.size + 1 < W.heap.size) (hb5 : Below W.drew.heap.size W.drew w5) :
    ∃ b w6, SB w6 b T ⟨st, p⟩ ∧ SB w6 w.heap.size T ⟨st, p⟩ ∧ SB w6 (w.heap.size + 1) T s0 ∧ Below w.heap.size w w6 ∧ w.heap.size + 1 < b ∧ w5.heap.size = b ∧ w5.alloc (.cells #[.string st, .int .i64 p] T) = w6 := by
  have hB5 : SB w5 w.heap.size T ⟨st, p⟩ := SB.step (w := W.drew) (by exact hB) hb5
  have hR5 : SB w5 (w.heap.size + 1) T s0 := SB.step (w := W.drew) (by exact hR) hb5
  have hs : W.heap.size ≤ w5.heap.size := hb5.size
  have hb0 : Below w.heap.size w w5 := (Below.drew hb).trans (hb5.mono (show w.heap.size ≤ W.heap.size by omega))
  exact ⟨_, _, heap_alloc_new w5 _, hB5.alloc _, hR5.alloc _, hb0.alloc (by omega) _, by omega, rfl, rfl⟩
theorem take_joinB (w W w5 : World) (st : ByteArray) (p : Int) (T : TypeId) (hB : SB W w.heap.size T ⟨st, p⟩) (hR : SB W (w.heap.size + 1) T s0) (hb : Below w.heap.size w W) (hlt : w.heap.size + 1 < W.heap.size) (hb5 : Below (W.alloc (.cells #[.string ⟨#[]⟩, .int .i64 0] T)).drew.heap.size (W.alloc (.cells #[.string ⟨#[]⟩, .int .i64 0] T)).drew w5) :
    ∃ b w6, SB w6 b T ⟨st, p⟩ ∧ SB w6 w.heap.size T ⟨st, p⟩ ∧ SB w6 (w.heap.size + 1) T s0 ∧ Below w.heap.size w w6 ∧ w.heap.size + 1 < b ∧ W.heap.size = b ∧ (w5.setCell ⟨W.heap.size, 0, none⟩ (.string st)).setCell ⟨W.heap.size, 1, none⟩ (.int .i64 p) = w6 := by
  have hB5 : SB w5 w.heap.size T ⟨st, p⟩ := SB.step (w := (W.alloc (.cells #[.string ⟨#[]⟩, .int .i64 0] T)).drew) (by exact hB.alloc _) hb5
  have hR5 : SB w5 (w.heap.size + 1) T s0 := SB.step (w := (W.alloc (.cells #[.string ⟨#[]⟩, .int .i64 0] T)).drew) (by exact hR.alloc _) hb5
  have hN5 : SB w5 W.heap.size T s0 := SB.step (w := (W.alloc (.cells #[.string ⟨#[]⟩, .int .i64 0] T)).drew) (by exact heap_alloc_new W _) hb5
  have hs : (W.alloc (.cells #[.string ⟨#[]⟩, .int .i64 0] T)).heap.size ≤ w5.heap.size := hb5.size
  have hsa : (W.alloc (.cells #[.string ⟨#[]⟩, .int .i64 0] T)).heap.size = W.heap.size + 1 := by simp
  have hb0 : Below w.heap.size w w5 := (Below.drew (hb.alloc (by omega) _)).trans (hb5.mono (show w.heap.size ≤ (W.alloc (.cells #[.string ⟨#[]⟩, .int .i64 0] T)).heap.size by omega))
  exact ⟨_, _, hN5.set2 ⟨st, p⟩, (hB5.set_other (by omega) _).set_other (by omega) _, (hR5.set_other (by omega) _).set_other (by omega) _, (hb0.setCell (p := ⟨W.heap.size, 0, none⟩) (by show w.heap.size ≤ W.heap.size; omega) _).setCell (p := ⟨W.heap.size, 1, none⟩) (by show w.heap.size ≤ W.heap.size; omega) _, by omega, rfl, rfl⟩
end Go.Proofs.YtkidgllmhdfgaanDoor
