/- The laws FnExactPack, FnExactUnpack, FnExactPolyBytes, FnExactPolyFrom, walked over the loaded program; what the project's function answers is a premise. -/
import Derived.Test.YtkiocjbooegajadDoorPck5
import Derived.Test.YtkiocjbooegajadDoorInts9
namespace Go.Proofs.YtkiocjbooegajadDoor
open Go.RowKit
theorem OwnV.loP {w : World} {base : Nat} {e : TypeId} {v : Value} {xs : List Value} (h : OwnV w base e v xs) : ∀ k, v.ownBlock = some k → base ≤ k ∧ k < w.heap.size := fun k hk => World.ownsRow.lt h k hk
theorem upL_len (s : ByteArray) (bits n : Int) : (upL s bits n).length ≤ 1000 := by
  unfold upL
  by_cases h : upOk s bits n = true
  · rw [if_pos h, List.length_map]
    unfold upN
    rw [dig_len]
    unfold upOk at h
    simp only [Bool.and_eq_true, decide_eq_true_iff] at h
    omega
  · rw [if_neg h]; exact Nat.zero_le _
theorem pfL_len (s : ByteArray) : (pfL s).length ≤ 1000 := by
  unfold pfL
  split
  · exact upL_len s 12 256
  · exact Nat.zero_le _
end Go.Proofs.YtkiocjbooegajadDoor
