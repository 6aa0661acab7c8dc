/- Packing by the project: its smallest functions, over the loaded program. -/
import Derived.Test.YtkiocjbooegajarPbt
namespace Go.Proofs.Ytkiocjbooegajar
open Go.RowKit
theorem inBits_any (z : Int) (b : Nat) (hb : b ≤ 12) (w : World) : Calls Try.prog 12 #[.int .i64 z, .int .i64 (b : Int)] w fun e w' => e = .returned (.bool (decide (0 ≤ z ∧ z ≤ ((2 ^ b : Nat) : Int) - 1))) ∧ w' = w := by
  have hb0 : (0 : Int) ≤ (b : Int) := by omega
  have hb1 : (b : Int) ≤ 64 := by omega
  obtain ⟨p, hp⟩ : ∃ p : Nat, p = 2 ^ b := ⟨_, rfl⟩
  have hw := wrap_two b p (by omega) hp
  rw [← hp]
  replace hp := hide hp
  by_cases h1 : 0 ≤ z
  · by_cases h2 : z < (p : Int)
    · rw [decide_eq_true (show 0 ≤ z ∧ z ≤ (p : Int) - 1 by omega)]
      go_enter Try.func12, Try.ntmps12
      go_wp2
      go_ret
      exact ⟨by simp, rfl⟩
    · rw [decide_eq_false (show ¬ (0 ≤ z ∧ z ≤ (p : Int) - 1) by omega)]
      go_enter Try.func12, Try.ntmps12
      go_wp2
      go_ret
      exact ⟨by simp, rfl⟩
  · rw [decide_eq_false (show ¬ (0 ≤ z ∧ z ≤ (p : Int) - 1) by omega)]
    go_enter Try.func12, Try.ntmps12
    go_wp2
    go_ret
    exact ⟨by simp, rfl⟩
theorem squeezeBitsOk_any (z : Int) (w : World) : Calls Try.prog 11 #[.int .i64 z] w fun e w' => e = .returned (.bool (decide (1 ≤ z ∧ z ≤ 11))) ∧ w' = w := by
  by_cases h1 : 1 ≤ z
  · by_cases h2 : z ≤ 11
    · rw [decide_eq_true (show 1 ≤ z ∧ z ≤ 11 from ⟨h1, h2⟩)]
      go_enter Try.func11, Try.ntmps11
      go_wp2
      go_ret
      exact ⟨by simp, rfl⟩
    · rw [decide_eq_false (show ¬ (1 ≤ z ∧ z ≤ 11) by omega)]
      go_enter Try.func11, Try.ntmps11
      go_wp2
      go_ret
      exact ⟨by simp, rfl⟩
  · rw [decide_eq_false (show ¬ (1 ≤ z ∧ z ≤ 11) by omega)]
    go_enter Try.func11, Try.ntmps11
    go_wp2
    go_ret
    exact ⟨by simp, rfl⟩
end Go.Proofs.Ytkiocjbooegajar
