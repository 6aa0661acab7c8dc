/- A pool as an argument; whether it is right, by the given model, over the loaded program. -/
import Derived.Test.YtanianfealalgacHsh
namespace Go.Proofs.Ytanianfealalgac
open Go.RowKit
def okP (a : Hs) : Bool := decide (a.st.size = 32) && (decide (a.rs.size = 32) && (decide (0 ≤ a.ct) && decide (a.ct ≤ 20)))
theorem okP_yes {a : Hs} (h : okP a = true) : a.st.size = 32 ∧ a.rs.size = 32 ∧ 0 ≤ a.ct ∧ a.ct ≤ 20 := by
  simpa [okP] using h
theorem okP_no1 {a : Hs} (h : ¬ (a.st.size : Int) = 32) : okP a = false := by
  simp [okP]; omega
theorem okP_no2 {a : Hs} (h : ¬ (a.rs.size : Int) = 32) : okP a = false := by
  simp [okP]; omega
theorem okP_is {a : Hs} (h1 : (a.st.size : Int) = 32) (h2 : (a.rs.size : Int) = 32) : okP a = (decide (0 ≤ a.ct) && decide (a.ct ≤ 20)) := by
  have h1' : a.st.size = 32 := by omega
  have h2' : a.rs.size = 32 := by omega
  simp [okP, h1', h2']
theorem inb8 (x lo hi : Int) (w : World) :
    Calls Try.prog 17 #[.int .i64 x, .int .i64 lo, .int .i64 hi] w fun e w' => e = .returned (.bool (decide (lo ≤ x ∧ x ≤ hi))) ∧ w' = w := by
  by_cases h1 : lo ≤ x
  · by_cases h2 : x ≤ hi
    · have H := hide (show decide (lo ≤ x ∧ x ≤ hi) = true by rw [decide_eq_true_iff]; omega)
      rw [unhide H]
      go_enter Try.func17, Try.ntmps17
      go_wp2
      go_ret
      exact ⟨by simp, rfl⟩
    · have H := hide (show decide (lo ≤ x ∧ x ≤ hi) = false by rw [decide_eq_false_iff_not]; omega)
      rw [unhide H]
      go_enter Try.func17, Try.ntmps17
      go_wp2
      go_ret
      exact ⟨by simp, rfl⟩
  · have H := hide (show decide (lo ≤ x ∧ x ≤ hi) = false by rw [decide_eq_false_iff_not]; omega)
    rw [unhide H]
    go_enter Try.func17, Try.ntmps17
    go_wp2
    go_ret
    exact ⟨rfl, rfl⟩
set_option maxRecDepth 20000 in
set_option maxHeartbeats 800000 in
theorem specPoolOk_any (a : Hs) (w : World) (_h1 : a.st.size ≤ maxLen) (_h2 : a.rs.size ≤ maxLen) :
    Calls Try.prog 9 #[hsv a] w fun e w' => e = .returned (.bool (okP a)) ∧ Below w.heap.size w w' := by
  unfold maxLen at _h1 _h2
  unfold hsv
  by_cases c1 : (a.st.size : Int) = 32
  · by_cases c2 : (a.rs.size : Int) = 32
    · go_enter Try.func9, Try.ntmps9
      go_wp2_with (go_at_call 17; refine (inb8 _ _ _ _).mono ?_; rintro e w1 ⟨rfl, rfl⟩)
      go_ret
      exact ⟨by rw [okP_is c1 c2]; rfl, (Below.refl _ _).alloc (Nat.le_refl _) _⟩
    · go_enter Try.func9, Try.ntmps9
      go_wp2
      go_ret
      exact ⟨by rw [okP_no2 c2]; rfl, (Below.refl _ _).alloc (Nat.le_refl _) _⟩
  · go_enter Try.func9, Try.ntmps9
    go_wp2
    go_ret
    exact ⟨by rw [okP_no1 c1]; rfl, (Below.refl _ _).alloc (Nat.le_refl _) _⟩
end Go.Proofs.Ytanianfealalgac
