/- Packing by the project: its smallest functions, over the loaded program. -/
import Derived.Test.YtkiocjbooegajaqDoorPbt
namespace Go.Proofs.YtkiocjbooegajaqDoor
open Go.RowKit
theorem packBitsOk_any (z : Int) (w : World) : Calls Tryd.prog 15 #[.int .i64 z] w fun e w' => e = .returned (.bool (decide (1 ≤ z ∧ z ≤ 12))) ∧ w' = w := by
  by_cases h1 : 1 ≤ z
  · by_cases h2 : z ≤ 12
    · rw [decide_eq_true (show 1 ≤ z ∧ z ≤ 12 from ⟨h1, h2⟩)]
      go_enter Tryd.func15, Tryd.ntmps15
      go_wp2
      go_ret
      exact ⟨by simp, rfl⟩
    · rw [decide_eq_false (show ¬ (1 ≤ z ∧ z ≤ 12) by omega)]
      go_enter Tryd.func15, Tryd.ntmps15
      go_wp2
      go_ret
      exact ⟨by simp, rfl⟩
  · rw [decide_eq_false (show ¬ (1 ≤ z ∧ z ≤ 12) by omega)]
    go_enter Tryd.func15, Tryd.ntmps15
    go_wp2
    go_ret
    exact ⟨by simp, rfl⟩
theorem inBits_any (z : Int) (b : Nat) (hb : b ≤ 12) (w : World) : Calls Tryd.prog 17 #[.int .i64 z, .int .i64 (b : Int)] w fun e w' => e = .returned (.bool (decide (0 ≤ z ∧ z ≤ ((2 ^ b : Nat) : Int) - 1))) ∧ w' = w := by
  have hb0 : (0 : Int) ≤ (b : Int) := by omega
  have hb1 : (b : Int) ≤ 64 := by omega
  obtain ⟨p, hp⟩ : ∃ p : Nat, p = 2 ^ b := ⟨_, rfl⟩
  have hw := wrap_two b p (by omega) hp
  rw [← hp]
  replace hp := hide hp
  by_cases h1 : 0 ≤ z
  · by_cases h2 : z < (p : Int)
    · rw [decide_eq_true (show 0 ≤ z ∧ z ≤ (p : Int) - 1 by omega)]
      go_enter Tryd.func17, Tryd.ntmps17
      go_wp2
      go_ret
      exact ⟨by simp, rfl⟩
    · rw [decide_eq_false (show ¬ (0 ≤ z ∧ z ≤ (p : Int) - 1) by omega)]
      go_enter Tryd.func17, Tryd.ntmps17
      go_wp2
      go_ret
      exact ⟨by simp, rfl⟩
  · rw [decide_eq_false (show ¬ (0 ≤ z ∧ z ≤ (p : Int) - 1) by omega)]
    go_enter Tryd.func17, Tryd.ntmps17
    go_wp2
    go_ret
    exact ⟨by simp, rfl⟩
theorem packedSize_any (n b : Nat) (hn : n ≤ 1048576) (hb : b ≤ 12) (w : World) : Calls Tryd.prog 19 #[.int .i64 (n : Int), .int .i64 (b : Int)] w fun e w' => e = .returned (.int .i64 (byN n b : Int)) ∧ w' = w := by
  have hm : n * b ≤ 1048576 * 12 := Nat.mul_le_mul hn hb
  unfold byN
  have e0 : (n : Int) * (b : Int) = ((n * b : Nat) : Int) := (Int.natCast_mul n b).symm
  generalize n * b = m at *
  obtain ⟨q, hq⟩ : ∃ q : Nat, q = (m + 7) / 8 := ⟨_, rfl⟩
  rw [← hq]
  have u1 : IntKind.i64.wrap ((n : Int) * (b : Int)) = (m : Int) := by rw [e0, IntKind.wrap_i64]; omega
  have u2 : IntKind.i64.wrap ((m : Int) + 8) = ((m + 8 : Nat) : Int) := by rw [IntKind.wrap_i64]; omega
  have u3 : IntKind.i64.wrap (((m + 8 : Nat) : Int) - 1) = ((m + 7 : Nat) : Int) := by rw [IntKind.wrap_i64]; omega
  have u4 : ((m + 7 : Nat) : Int).tdiv 8 = (q : Int) := by rw [Int.tdiv_eq_ediv_of_nonneg (by omega)]; omega
  have u5 : ((m : Int) + 8 - 1) / 8 = (q : Int) := by omega
  go_enter Tryd.func19, Tryd.ntmps19
  go_wp2
  go_ret
  refine ⟨?_, rfl⟩
  show Ending.returned (Value.int .i64 (((m : Int) + 8 - 1) / 8)) = _
  rw [u5]
end Go.Proofs.YtkiocjbooegajaqDoor
