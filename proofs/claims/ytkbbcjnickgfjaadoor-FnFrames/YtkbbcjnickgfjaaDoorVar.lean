/- What spec.l01Var and impl.VarText come to, over the loaded program: the bytes of a number. -/
import Derived.Test.YtkbbcjnickgfjaaDoorChecked
import Derived.Test.YtkbbcjnickgfjaaDoorBase
namespace Go.Proofs.YtkbbcjnickgfjaaDoor
open Go.RowKit

theorem Tryd.infoB : (Tryd.prog.info? 5).map (fun i => (i.zero, i.size, i.bytes)) = some (some (.int .u8 0), 1, 1) := by kernel_rfl

theorem cs_one {c : Int} {b : UInt8} (h : c = (b.toNat : Int)) : (#[Value.int .u8 c] : Array Value).toList = [b].map bv := by simp [bv, h]

theorem var_hi (m : Nat) : (m : Int) % 128 + 128 = ((byteOf (m % 128 + 128)).toNat : Int) := by rw [byteOf_toNat (by omega)]; omega
theorem var_lo {m : Nat} (h : m ≤ 127) : (m : Int) = ((byteOf m).toNat : Int) := by rw [byteOf_toNat (by omega)]

theorem var_step {n m : Nat} {pre : List UInt8} (h : pre ++ varB m = varB n) (hm : 127 < m) :
    (pre ++ [byteOf (m % 128 + 128)]) ++ varB (m / 128) = varB n ∧ (pre ++ [byteOf (m % 128 + 128)]).length ≤ n := by
  rw [varB_big (by omega)] at h
  have h1 : (pre ++ [byteOf (m % 128 + 128)]) ++ varB (m / 128) = varB n := by rw [← h]; simp
  refine ⟨h1, ?_⟩
  have := congrArg List.length h1
  have := varB_len n
  have := varB_len (m / 128)
  simp only [List.length_append] at *
  omega
theorem var_end {n m : Nat} {pre : List UInt8} (h : pre ++ varB m = varB n) (hm : ¬ 127 < m) : pre ++ [byteOf m] = varB n := by
  rw [varB_small (by omega)] at h; exact h

set_option maxRecDepth 20000 in
set_option maxHeartbeats 400000 in
theorem l01Var_any (n : Nat) (w : World) (hn : n ≤ 1000000000) :
    Calls Tryd.prog 33 #[.int .i64 n] w fun e w' => e = .returned (.string ⟨(varB n).toArray⟩) ∧ Below w.heap.size w w' := by
  obtain ⟨i0, hi, hz0, hz1, hz2⟩ := info_parts Tryd.infoB
  go_enter Tryd.func33, Tryd.ntmps33
  go_wp2
  go_loopw [0, 3] (fun i v wr => ∃ (m : Nat) (pre : List UInt8), m ≤ 1000000000 ∧ i = .int .i64 m ∧ Hid (pre ++ varB m = varB n) ∧ pre.length ≤ n ∧ OwnB wr w.heap.size 5 v pre ∧ Below w.heap.size w wr)
    (fun i _ _ => (intOf i).toNat)
  case atStart => exact ⟨n, [], hn, rfl, rfl, by simp, World.ownsRow_made w #[] 0 (Nat.le_refl _) (by decide) (by simp), (Below.refl _ _).alloc (Nat.le_refl _) _⟩
  case round =>
    obtain ⟨m, pre, hm, rfl, hpre, hpl, hown, hb⟩ := hrel
    have hsz := hb.size
    by_cases hlt : 127 < m
    · go_wp2_with (at_builtin; refine wpList_append_bytes rfl (.tmp 7) (.tmp 12) 22 rfl w.heap.size w.heap.size 5 i0 Tryd.underlying22 hi hz0 hz1 hz2 _ pre rfl hown _ [byteOf (m % 128 + 128)] (cs_one (var_hi m)) 1 1 rfl rfl (by omega) (Nat.le_refl _) hsz hb ?_; intro v' w1 hown' hb')
      have R := var_step hpre hlt
      clear hown hb hpre
      go_wp2
      go_roundw
      case rel => exact ⟨m / 128, _, by omega, by go_num, R.1, R.2, hown', hb'⟩
      case measure => simp [intOf]; omega
    · go_wp2_with (at_builtin; refine wpList_append_bytes rfl (.tmp 16) (.tmp 19) 22 rfl w.heap.size w.heap.size 5 i0 Tryd.underlying22 hi hz0 hz1 hz2 _ pre rfl hown _ [byteOf m] (cs_one (var_lo (by omega))) 1 1 rfl rfl (by omega) (Nat.le_refl _) hsz hb ?_; intro v' w1 hown' hb'; rw [var_end hpre hlt] at hown'; have hc := run_string_owned (P := Tryd.prog) w1 22 9 5 w.heap.size v' (varB n) Tryd.underlying22 Tryd.underlying5 Tryd.underlying9 hown')
      go_ret
      exact ⟨rfl, hb'⟩

/-! impl.VarText -/
set_option maxRecDepth 20000 in
set_option maxHeartbeats 400000 in
theorem implVar_yes (n : Nat) (w : World) (hn : n ≤ 1000000000) :
    Calls Tryd.prog 21 #[.int .i64 n] w fun e w' => e = .returned (.tuple #[.string ⟨(varB n).toArray⟩, .bool true]) ∧ Below w.heap.size w w' := by
  obtain ⟨i0, hi, hz0, hz1, hz2⟩ := info_parts Tryd.infoB
  have h0 : ¬ (n : Int) < 0 := by omega
  have h1 : ¬ (1000000000 : Int) < (n : Int) := by omega
  go_enter Tryd.func21, Tryd.ntmps21
  go_wp2
  go_loopw [0, 4] (fun i v wr => ∃ (m : Nat) (pre : List UInt8), m ≤ 1000000000 ∧ i = .int .i64 m ∧ Hid (pre ++ varB m = varB n) ∧ pre.length ≤ n ∧ OwnB wr w.heap.size 5 v pre ∧ Below w.heap.size w wr)
    (fun i _ _ => (intOf i).toNat)
  case atStart => exact ⟨n, [], hn, rfl, rfl, by simp, World.ownsRow_nil _ _ _ _, Below.refl _ _⟩
  case round =>
    obtain ⟨m, pre, hm, rfl, hpre, hpl, hown, hb⟩ := hrel
    have hsz := hb.size
    by_cases hlt : 127 < m
    · go_wp2_with (at_builtin; refine wpList_append_bytes rfl (.tmp 15) (.tmp 20) 22 rfl w.heap.size w.heap.size 5 i0 Tryd.underlying22 hi hz0 hz1 hz2 _ pre rfl hown _ [byteOf (m % 128 + 128)] (cs_one (var_hi m)) 1 1 rfl rfl (by omega) (Nat.le_refl _) hsz hb ?_; intro v' w1 hown' hb')
      have R := var_step hpre hlt
      clear hown hb hpre
      go_wp2
      go_roundw
      case rel => exact ⟨m / 128, _, by omega, by go_num, R.1, R.2, hown', hb'⟩
      case measure => simp [intOf]; omega
    · go_wp2_with (at_builtin; refine wpList_append_bytes rfl (.tmp 22) (.tmp 25) 22 rfl w.heap.size w.heap.size 5 i0 Tryd.underlying22 hi hz0 hz1 hz2 _ pre rfl hown _ [byteOf m] (cs_one (var_lo (by omega))) 1 1 rfl rfl (by omega) (Nat.le_refl _) hsz hb ?_; intro v' w1 hown' hb'; rw [var_end hpre hlt] at hown'; have hc := run_string_owned (P := Tryd.prog) w1 22 9 5 w.heap.size v' (varB n) Tryd.underlying22 Tryd.underlying5 Tryd.underlying9 hown')
      go_ret2
      exact ⟨rfl, hb'⟩

set_option maxRecDepth 20000 in
set_option maxHeartbeats 400000 in
theorem implVar_no (n : Int) (w : World) (hn : n < 0 ∨ 1000000000 < n) :
    Calls Tryd.prog 21 #[.int .i64 n] w fun e w' => e = .returned (.tuple #[.string ⟨#[]⟩, .bool false]) ∧ w' = w := by
  by_cases h0 : n < 0
  · go_enter Tryd.func21, Tryd.ntmps21
    go_wp2
    go_ret2
    exact ⟨rfl, rfl⟩
  · have h1 : 1000000000 < n := by omega
    go_enter Tryd.func21, Tryd.ntmps21
    go_wp2
    go_ret2
    exact ⟨rfl, rfl⟩

/-! spec.VarText -/
theorem l01In_any (x a b : Int) (w : World) : Calls Tryd.prog 32 #[.int .i64 x, .int .i64 a, .int .i64 b] w fun e w' => e = .returned (.bool (decide (a ≤ x) && decide (x ≤ b))) ∧ w' = w := by
  by_cases h0 : a ≤ x
  · by_cases h1 : x ≤ b
    all_goals
      go_enter Tryd.func32, Tryd.ntmps32
      go_wp2
      go_ret
      exact ⟨by simp [h0, h1], rfl⟩
  · go_enter Tryd.func32, Tryd.ntmps32
    go_wp2
    go_ret
    exact ⟨by simp; omega, rfl⟩

theorem l01In_yes (x a b : Int) (w : World) (h1 : a ≤ x) (h2 : x ≤ b) : Calls Tryd.prog 32 #[.int .i64 x, .int .i64 a, .int .i64 b] w fun e w' => e = .returned (.bool true) ∧ w' = w := by
  refine (l01In_any x a b w).mono ?_
  rintro e w' ⟨rfl, rfl⟩
  exact ⟨by simp [h1, h2], rfl⟩

theorem l01In_no (x a b : Int) (w : World) (h : x < a ∨ b < x) : Calls Tryd.prog 32 #[.int .i64 x, .int .i64 a, .int .i64 b] w fun e w' => e = .returned (.bool false) ∧ w' = w := by
  refine (l01In_any x a b w).mono ?_
  rintro e w' ⟨rfl, rfl⟩
  refine ⟨?_, rfl⟩
  have : (decide (a ≤ x) && decide (x ≤ b)) = false := by simp; omega
  rw [this]

end Go.Proofs.YtkbbcjnickgfjaaDoor
