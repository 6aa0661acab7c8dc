/- The law of Unhex, walked: at every text the two answers are the same. -/
import Derived.Test.YtoghcmcphfmcbajUnhexI
namespace Go.Proofs.Ytoghcmcphfmcbaj
open Go.RowKit

set_option maxHeartbeats 400000 in
theorem specUnhex_no (s : ByteArray) (w : World) (h : (40000 : Int) < (s.size : Int) ∨ (s.size : Int) % 2 ≠ 0) :
    Calls Try.prog 11 #[.string s] w fun e w' => e = .returned (uhTup none) ∧ w' = w := by
  by_cases h0 : (40000 : Int) < (s.size : Int)
  · clear h
    go_enter Try.func11, Try.ntmps11
    go_wp2
    go_ret2
    exact ⟨rfl, rfl⟩
  · have h1 : ((s.size : Int) % 2 == 0) = false := by rw [beq_eq_false_iff_ne]; omega
    clear h
    go_enter Try.func11, Try.ntmps11
    go_wp2
    go_ret2
    exact ⟨rfl, rfl⟩

set_option maxHeartbeats 400000 in
theorem implUnhex_no (s : ByteArray) (w : World) (h : (40000 : Int) < (s.size : Int) ∨ (s.size : Int) % 2 ≠ 0) :
    Calls Try.prog 12 #[.string s] w fun e w' => e = .returned (uhTup none) ∧ w' = w := by
  by_cases h1 : (s.size : Int) % 2 = 0
  · have h2 : ((s.size : Int) % 2 == 0) = true := by rw [beq_iff_eq]; omega
    have h0 : decide ((40000 : Int) < (s.size : Int)) = true := by rw [decide_eq_true_iff]; omega
    clear h
    go_enter Try.func12, Try.ntmps12
    go_wp2
    go_step3
    go_wp2
    try rw [Exit.noGoto_ret]
    go_ret2
    exact ⟨rfl, rfl⟩
  · have h2 : ((s.size : Int) % 2 == 0) = false := by rw [beq_eq_false_iff_ne]; omega
    clear h
    go_enter Try.func12, Try.ntmps12
    go_wp2
    go_step3
    go_wp2
    try rw [Exit.noGoto_ret]
    go_ret2
    exact ⟨rfl, rfl⟩

set_option maxHeartbeats 400000 in
theorem lawUH_of (s : ByteArray) (w : World) (v : Value) (x : ByteArray) (b : Bool) (hv : v = .tuple #[.string x, .bool b]) (hs : ¬ (1048576 : Int) < (s.size : Int))
    (C1 : Hid (∀ W, Calls Try.prog 11 #[.string s] W fun e w' => e = .returned v ∧ Below W.heap.size W w'))
    (C2 : Hid (∀ W, Calls Try.prog 12 #[.string s] W fun e w' => e = .returned v ∧ Below W.heap.size W w')) :
    Calls Try.prog 5 #[.string s] w fun e w' => e = .returned (.bool true) ∧ Below w.heap.size w w' := by
  subst hv
  go_enter Try.func5, Try.ntmps5
  go_wp2_with (first
    | (go_at_call 11; refine ((unhide C1) _).mono ?_; rintro e w1 ⟨rfl, hb1⟩)
    | (go_at_call 12; refine ((unhide C2) _).mono ?_; rintro e w2 ⟨rfl, hb2⟩))
  go_ret
  exact ⟨rfl, hb1.trans (hb2.mono hb1.size)⟩

set_option maxHeartbeats 400000 in
theorem lawUnhex_any (s : ByteArray) (w : World) :
    Calls Try.prog 5 #[.string s] w fun e w' => e = .returned (.bool true) ∧ Below w.heap.size w w' := by
  by_cases hl : (1048576 : Int) < (s.size : Int)
  · go_enter Try.func5, Try.ntmps5
    go_wp2
    go_ret
    exact ⟨rfl, Below.refl _ _⟩
  · by_cases h : (40000 : Int) < (s.size : Int) ∨ (s.size : Int) % 2 ≠ 0
    · refine lawUH_of s w (uhTup none) _ _ rfl hl (hide fun W => (specUnhex_no s W h).mono ?_) (hide fun W => (implUnhex_no s W h).mono ?_)
      · rintro e w' ⟨rfl, rfl⟩; exact ⟨rfl, Below.refl _ _⟩
      · rintro e w' ⟨rfl, rfl⟩; exact ⟨rfl, Below.refl _ _⟩
    · have c1 := fun W => specUnhex_any s W (by omega) (by omega)
      have c2 := fun W => implUnhex_any s W (by omega) (by omega)
      generalize unhexB s.data.toList = r at c1 c2
      cases r with
      | none => exact lawUH_of s w (uhTup none) _ _ rfl hl (hide c1) (hide c2)
      | some l => exact lawUH_of s w (uhTup (some l)) _ _ rfl hl (hide c1) (hide c2)
end Go.Proofs.Ytoghcmcphfmcbaj
