/- A pool as an argument; whether it is right, by the given model, over the loaded program. -/
import Derived.Test.YtanianfealalgaoHsh
namespace Go.Proofs.Ytanianfealalgao
open Go.RowKit
def okP (a : Hs) : Bool := decide (a.st.size = 32) && (decide (a.rs.size = 32) && (decide (0 ≤ a.ct) && decide (a.ct ≤ 20)))
theorem okP_yes {a : Hs} (h : okP a = true) : a.st.size = 32 ∧ a.rs.size = 32 ∧ 0 ≤ a.ct ∧ a.ct ≤ 20 := by
  simpa [okP] using h
theorem okP_no1 {a : Hs} (h : ¬ (a.st.size : Int) = 32) : okP a = false := by
  simp [okP]; omega
theorem okP_no2 {a : Hs} (h : ¬ (a.rs.size : Int) = 32) : okP a = false := by
  simp [okP]; omega
theorem okP_is {a : Hs} (h1 : (a.st.size : Int) = 32) (h2 : (a.rs.size : Int) = 32) : okP a = (decide (0 ≤ a.ct) && decide (a.ct ≤ 20)) := by
  have h1' : a.st.size = 32 := by omega
  have h2' : a.rs.size = 32 := by omega
  simp [okP, h1', h2']
set_option maxRecDepth 20000 in
set_option maxHeartbeats 400000 in
theorem szPool_any (a : Hs) (l : Nat) (w : World) (h1 : a.st.size ≤ maxLen) (h2 : a.rs.size ≤ maxLen) (hl : l ≤ 1048576) :
    Calls Try.prog 10 #[hsv a, .int .i64 l] w fun e w' => (∃ r : Int, e = .returned (.int .i64 r) ∧ (r = -1 ∨ ∃ m : Nat, r = m ∧ m + a.st.size + a.rs.size = l)) ∧ Below w.heap.size w w' := by
  unfold maxLen at h1 h2
  unfold hsv
  by_cases c1 : (l : Int) - a.st.size < 0
  · go_enter Try.func10, Try.ntmps10
    go_wp2
    go_ret
    exact ⟨⟨_, rfl, .inl rfl⟩, (Below.refl _ _).alloc (Nat.le_refl _) _⟩
  · by_cases c2 : (l : Int) - a.st.size - a.rs.size < 0
    · go_enter Try.func10, Try.ntmps10
      go_wp2
      go_ret
      exact ⟨⟨_, rfl, .inl rfl⟩, (Below.refl _ _).alloc (Nat.le_refl _) _⟩
    · go_enter Try.func10, Try.ntmps10
      go_wp2
      go_ret
      exact ⟨⟨_, rfl, .inr ⟨l - a.st.size - a.rs.size, by omega, by omega⟩⟩, (Below.refl _ _).alloc (Nat.le_refl _) _⟩
set_option maxRecDepth 20000 in
set_option maxHeartbeats 400000 in
theorem toPool_any (a : Hs) (w : World) :
    Calls Try.prog 12 #[hsv a] w fun e w' => e = .returned (hsv a) ∧ Below w.heap.size w w' := by
  unfold hsv
  go_enter Try.func12, Try.ntmps12
  go_wp2
  refine bodyPost_ret (v := .agg #[.string a.st, .string a.rs, .int .i64 a.ct]) (by simp [results, Try.results12, go_sem]) rfl ⟨rfl, ?_⟩
  exact (((Below.refl _ _).alloc (Nat.le_refl _) _).alloc (by simp) _).alloc (by simp; omega) _
set_option maxRecDepth 20000 in
set_option maxHeartbeats 400000 in
theorem eqPool_any (a : Hs) (w : World) :
    Calls Try.prog 9 #[hsv a, hsv a] w fun e w' => e = .returned (.bool true) ∧ Below w.heap.size w w' := by
  unfold hsv
  go_enter Try.func9, Try.ntmps9
  go_wp2
  go_ret
  exact ⟨rfl, ((Below.refl _ _).alloc (Nat.le_refl _) _).alloc (by simp) _⟩
theorem inb8 (x lo hi : Int) (w : World) :
    Calls Try.prog 22 #[.int .i64 x, .int .i64 lo, .int .i64 hi] w fun e w' => e = .returned (.bool (decide (lo ≤ x ∧ x ≤ hi))) ∧ w' = w := by
  by_cases h1 : lo ≤ x
  · by_cases h2 : x ≤ hi
    · have H := hide (show decide (lo ≤ x ∧ x ≤ hi) = true by rw [decide_eq_true_iff]; omega)
      rw [unhide H]
      go_enter Try.func22, Try.ntmps22
      go_wp2
      go_ret
      exact ⟨by simp, rfl⟩
    · have H := hide (show decide (lo ≤ x ∧ x ≤ hi) = false by rw [decide_eq_false_iff_not]; omega)
      rw [unhide H]
      go_enter Try.func22, Try.ntmps22
      go_wp2
      go_ret
      exact ⟨by simp, rfl⟩
  · have H := hide (show decide (lo ≤ x ∧ x ≤ hi) = false by rw [decide_eq_false_iff_not]; omega)
    rw [unhide H]
    go_enter Try.func22, Try.ntmps22
    go_wp2
    go_ret
    exact ⟨rfl, rfl⟩
set_option maxRecDepth 20000 in
set_option maxHeartbeats 800000 in
theorem specPoolOk_any (a : Hs) (w : World) (_h1 : a.st.size ≤ maxLen) (_h2 : a.rs.size ≤ maxLen) :
    Calls Try.prog 11 #[hsv a] w fun e w' => e = .returned (.bool (okP a)) ∧ Below w.heap.size w w' := by
  unfold maxLen at _h1 _h2
  unfold hsv
  by_cases c1 : (a.st.size : Int) = 32
  · by_cases c2 : (a.rs.size : Int) = 32
    · go_enter Try.func11, Try.ntmps11
      go_wp2_with (go_at_call 22; refine (inb8 _ _ _ _).mono ?_; rintro e w1 ⟨rfl, rfl⟩)
      go_ret
      exact ⟨by rw [okP_is c1 c2]; rfl, (Below.refl _ _).alloc (Nat.le_refl _) _⟩
    · go_enter Try.func11, Try.ntmps11
      go_wp2
      go_ret
      exact ⟨by rw [okP_no2 c2]; rfl, (Below.refl _ _).alloc (Nat.le_refl _) _⟩
  · go_enter Try.func11, Try.ntmps11
    go_wp2
    go_ret
    exact ⟨by rw [okP_no1 c1]; rfl, (Below.refl _ _).alloc (Nat.le_refl _) _⟩
end Go.Proofs.Ytanianfealalgao
