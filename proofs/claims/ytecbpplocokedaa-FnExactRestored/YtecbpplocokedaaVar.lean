/- What spec.l01Var and impl.VarText come to, over the loaded program: the bytes of a number. -/
import Derived.Test.YtecbpplocokedaaChecked
import Derived.Test.YtecbpplocokedaaBase
namespace Go.Proofs.Ytecbpplocokedaa
open Go.RowKit

theorem Try.infoB : (Try.prog.info? 5).map (fun i => (i.zero, i.size, i.bytes)) = some (some (.int .u8 0), 1, 1) := by kernel_rfl

theorem cs_one {c : Int} {b : UInt8} (h : c = (b.toNat : Int)) : (#[Value.int .u8 c] : Array Value).toList = [b].map bv := by simp [bv, h]

theorem var_hi (m : Nat) : (m : Int) % 128 + 128 = ((byteOf (m % 128 + 128)).toNat : Int) := by rw [byteOf_toNat (by omega)]; omega
theorem var_lo {m : Nat} (h : m ≤ 127) : (m : Int) = ((byteOf m).toNat : Int) := by rw [byteOf_toNat (by omega)]

theorem var_step {n m : Nat} {pre : List UInt8} (h : pre ++ varB m = varB n) (hm : 127 < m) :
    (pre ++ [byteOf (m % 128 + 128)]) ++ varB (m / 128) = varB n ∧ (pre ++ [byteOf (m % 128 + 128)]).length ≤ n := by
  rw [varB_big (by omega)] at h
  have h1 : (pre ++ [byteOf (m % 128 + 128)]) ++ varB (m / 128) = varB n := by rw [← h]; simp
  refine ⟨h1, ?_⟩
  have := congrArg List.length h1
  have := varB_len n
  have := varB_len (m / 128)
  simp only [List.length_append] at *
  omega
theorem var_end {n m : Nat} {pre : List UInt8} (h : pre ++ varB m = varB n) (hm : ¬ 127 < m) : pre ++ [byteOf m] = varB n := by
  rw [varB_small (by omega)] at h; exact h


/-! spec.VarText -/
theorem l01In_any (x a b : Int) (w : World) : Calls Try.prog 30 #[.int .i64 x, .int .i64 a, .int .i64 b] w fun e w' => e = .returned (.bool (decide (a ≤ x) && decide (x ≤ b))) ∧ w' = w := by
  by_cases h0 : a ≤ x
  · by_cases h1 : x ≤ b
    all_goals
      go_enter Try.func30, Try.ntmps30
      go_wp2
      go_ret
      exact ⟨by simp [h0, h1], rfl⟩
  · go_enter Try.func30, Try.ntmps30
    go_wp2
    go_ret
    exact ⟨by simp; omega, rfl⟩

theorem l01In_yes (x a b : Int) (w : World) (h1 : a ≤ x) (h2 : x ≤ b) : Calls Try.prog 30 #[.int .i64 x, .int .i64 a, .int .i64 b] w fun e w' => e = .returned (.bool true) ∧ w' = w := by
  refine (l01In_any x a b w).mono ?_
  rintro e w' ⟨rfl, rfl⟩
  exact ⟨by simp [h1, h2], rfl⟩

theorem l01In_no (x a b : Int) (w : World) (h : x < a ∨ b < x) : Calls Try.prog 30 #[.int .i64 x, .int .i64 a, .int .i64 b] w fun e w' => e = .returned (.bool false) ∧ w' = w := by
  refine (l01In_any x a b w).mono ?_
  rintro e w' ⟨rfl, rfl⟩
  refine ⟨?_, rfl⟩
  have : (decide (a ≤ x) && decide (x ≤ b)) = false := by simp; omega
  rw [this]

end Go.Proofs.Ytecbpplocokedaa
