/- More text comes, by impl, over the loaded program. -/
import Derived.Test.YtecbpplocokedaaShaD
import Derived.Test.YtecbpplocokedaaShelf
namespace Go.Proofs.Ytecbpplocokedaa
open Go.RowKit
def moreT (a : Hs) (s : ByteArray) : ByteArray := a.rs ++ s
def moreH (a : Hs) (s : ByteArray) : Hs := ⟨(blocksW (stOf a.st) (moreT a s) 0 ((moreT a s).size / 64)).text, (moreT a s).extract (64 * ((moreT a s).size / 64)) (moreT a s).size, a.ct + (s.size : Int)⟩
theorem two_hash (w : World) (a b : Hs) (T U : TypeId) : ∃ W, (w.alloc (.cells #[.string a.st, .string a.rs, .int .i64 a.ct] T)).alloc (.cells #[.string b.st, .string b.rs, .int .i64 b.ct] U) = W ∧ HB W w.heap.size T a ∧ HB W (w.heap.size + 1) U b ∧ Below w.heap.size w W ∧ w.heap.size + 1 < W.heap.size := by
  obtain ⟨W1, hW1, hB1, hb1, hl1⟩ := one_hash w a T
  obtain ⟨W2, hW2, hB2, hb2, hl2⟩ := one_hash W1 b U
  have hsz : W1.heap.size = w.heap.size + 1 := by rw [← hW1]; simp
  refine ⟨W2, by rw [hW1]; exact hW2, hB1.below hb2 (by omega), by rw [← hsz]; exact hB2, hb1.trans (hb2.mono (by omega)), by omega⟩
theorem keep3 {w : World} {g h : Nat} {u x y z : Value} (hc : w.cell? ⟨g, 2, none⟩ = some u) (hne : g < h) : (((w.setCell ⟨h, 0, none⟩ x).setCell ⟨h, 1, none⟩ y).setCell ⟨h, 2, none⟩ z).cell? ⟨g, 2, none⟩ = some u :=
  (((((Below.refl h w).setCell (p := ⟨h, 0, none⟩) (Nat.le_refl _) x).setCell (p := ⟨h, 1, none⟩) (Nat.le_refl _) y).setCell (p := ⟨h, 2, none⟩) (Nat.le_refl _) z).cell (p := ⟨g, 2, none⟩) hne).trans hc
theorem clone_any (s : ByteArray) (w : World) (h : s.size ≤ 281474976710656) :
    Calls Try.prog 38 #[.string s] w fun e w' => e = .returned (.string s) ∧ Below w.heap.size w w' := by
  go_enter Try.func38, Try.ntmps38
  go_wp2_with (go_at_call 52; refine (Try.stringslite_Clone _ _ h).mono ?_; rintro e w2 ⟨rfl, hb2⟩)
  go_ret
  exact ⟨rfl, hb2⟩
end Go.Proofs.Ytecbpplocokedaa
