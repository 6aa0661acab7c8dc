/- The small functions of impl's digest, over the loaded program. -/
import Derived.Test.YtecbpplocokedaaProg
import Derived.Test.YtecbpplocokedaaChecked
import Derived.Test.YtecbpplocokedaaSha
import Derived.Deep.RegionWith
import Derived.Deep.RegionHeld3
namespace Go.Proofs.Ytecbpplocokedaa
open Go.RowKit

theorem max_xor (x : Nat) (hx : x < 4294967296) : bits .xor .u32 IntKind.u32.max (x : Int) = ((4294967295 - x : Nat) : Int) := by
  have e : (4294967295 : Nat) ^^^ x = 4294967295 - x := by
    apply Nat.eq_of_testBit_eq
    intro i
    rw [Nat.testBit_xor, not_bit hx, show (4294967295 : Nat) = 2 ^ 32 - 1 by rfl, Nat.testBit_two_pow_sub_one]
    by_cases h : i < 32
    · simp [h]
    · have : x.testBit i = false := Nat.testBit_lt_two_pow (Nat.lt_of_lt_of_le hx (Nat.pow_le_pow_right (n := 2) (by omega) (show 32 ≤ i by omega)))
      simp [h, this]
  rw [← e]
  exact u32_xor_nat 4294967295 x (by omega) hx
theorem rotl_any (x k : Nat) (hx : x < 4294967296) (hk : 1 ≤ k) (hk2 : k ≤ 31) (w : World) :
    Calls Try.prog 76 #[.int .u32 (x : Int), .int .i64 (-(k : Int))] w fun e w' => e = .returned (.int .u32 (rot k x : Int)) ∧ ∃ n, w' = w.drewN n := by
  go_enter Try.func76, Try.ntmps76
  have e1 : IntKind.u64.wrap (-(k : Int)) = ((18446744073709551616 - k : Nat) : Int) := by rw [IntKind.wrap_u64]; omega
  have e2 : bits .and .u64 ((18446744073709551616 - k : Nat) : Int) 31 = ((32 - k : Nat) : Int) := by
    rw [show (31 : Int) = ((31 : Nat) : Int) by rfl, u64_and_nat _ _ (by omega) (by omega), nat_mask5]; omega
  go_wp2
  go_ret
  refine ⟨?_, 0, rfl⟩
  show Ending.returned (.int .u32 (bits .or .u32 ((x : Int) * 2 ^ (32 - k) % 4294967296) ((x : Int) / 2 ^ (32 - (32 - k))))) = _
  have e3 : (x : Int) * 2 ^ (32 - k) % 4294967296 = ((x * 2 ^ (32 - k) % 4294967296 : Nat) : Int) := by
    rw [Int.natCast_emod, Int.natCast_mul, Int.natCast_pow]; rfl
  have e4 : (x : Int) / 2 ^ (32 - (32 - k)) = ((x / 2 ^ k : Nat) : Int) := by
    rw [show 32 - (32 - k) = k by omega, Int.natCast_ediv, Int.natCast_pow]; rfl
  rw [e3, e4, u32_or_nat _ _ (Nat.mod_lt _ (by decide)) (Nat.lt_of_le_of_lt (Nat.div_le_self _ _) hx), rot_or (by omega) hx]
theorem implRot_any (x k : Nat) (hx : x < 4294967296) (hk : 1 ≤ k) (hk2 : k ≤ 31) (w : World) :
    Calls Try.prog 72 #[.int .u32 (x : Int), .int .i64 (k : Int)] w fun e w' => e = .returned (.int .u32 (rot k x : Int)) ∧ ∃ n, w' = w.drewN n := by
  go_enter Try.func72, Try.ntmps72
  have e1 : IntKind.i64.wrap (-(k : Int)) = -(k : Int) := by rw [IntKind.wrap_i64]; omega
  go_wp2_with (go_at_call 76; refine (rotl_any x k hx hk hk2 _).mono ?_; rintro e w1 ⟨rfl, n1, rfl⟩)
  go_ret
  exact ⟨rfl, _, rfl⟩
theorem implCh_any (x y z : Nat) (hx : x < 4294967296) (hy : y < 4294967296) (hz : z < 4294967296) (w : World) :
    Calls Try.prog 60 #[.int .u32 (x : Int), .int .u32 (y : Int), .int .u32 (z : Int)] w fun e w' => e = .returned (.int .u32 (chN x y z : Int)) ∧ ∃ n, w' = w.drewN n := by
  go_enter Try.func60, Try.ntmps60
  go_wp2
  go_ret
  refine ⟨?_, 0, rfl⟩
  show Ending.returned (.int .u32 (bits .or .u32 (bits .and .u32 (x : Int) (y : Int)) (bits .and .u32 (bits .xor .u32 IntKind.u32.max (x : Int)) (z : Int)))) = _
  rw [max_xor x hx, u32_and_nat x y hx hy, u32_and_nat _ z (by omega) hz, u32_or_nat _ _ (and32 hx) (and32 (by omega)), ch_or hx]
theorem implMaj_any (x y z : Nat) (hx : x < 4294967296) (hy : y < 4294967296) (hz : z < 4294967296) (w : World) :
    Calls Try.prog 61 #[.int .u32 (x : Int), .int .u32 (y : Int), .int .u32 (z : Int)] w fun e w' => e = .returned (.int .u32 (majN x y z : Int)) ∧ ∃ n, w' = w.drewN n := by
  go_enter Try.func61, Try.ntmps61
  go_wp2
  go_ret
  refine ⟨?_, 0, rfl⟩
  show Ending.returned (.int .u32 (bits .or .u32 (bits .or .u32 (bits .and .u32 (x : Int) (y : Int)) (bits .and .u32 (x : Int) (z : Int))) (bits .and .u32 (y : Int) (z : Int)))) = _
  rw [u32_and_nat x y hx hy, u32_and_nat x z hx hz, u32_and_nat y z hy hz, u32_or_nat _ _ (and32 hx) (and32 hx), u32_or_nat _ _ (or32 (and32 hx) (and32 hx)) (and32 hy), maj_or]
theorem specRight_any (x k : Nat) (A H : Int) (hx : x < 4294967296) (hk : 1 ≤ k) (hk2 : k ≤ 31) (hA : A = ((2 ^ k : Nat) : Int)) (hH : H = ((2 ^ (32 - k) : Nat) : Int)) (w : World) :
    Calls Try.prog 77 #[.int .u32 (x : Int), .int .u32 A, .int .u32 H] w fun e w' => e = .returned (.int .u32 (rot k x : Int)) ∧ ∃ n, w' = w.drewN n := by
  have HP := hide (rot_parts (show k ≤ 32 by omega) hx)
  have HT := hide (two_split (show k ≤ 32 by omega))
  have HR : Hid (rot k x = x / 2 ^ k + x % 2 ^ k * 2 ^ (32 - k)) := hide rfl
  have ha : 0 < 2 ^ k := Nat.two_pow_pos k
  have hh : 0 < 2 ^ (32 - k) := Nat.two_pow_pos _
  have ha2 : 2 ^ k < 4294967296 := Nat.lt_of_lt_of_le (Nat.pow_lt_pow_right (a := 2) (m := k) (n := 32) (by omega) (by omega)) (by decide)
  have hh2 : 2 ^ (32 - k) < 4294967296 := Nat.lt_of_lt_of_le (Nat.pow_lt_pow_right (a := 2) (m := 32 - k) (n := 32) (by omega) (by omega)) (by decide)
  generalize 2 ^ k = a at hA ha ha2 HP HT HR
  generalize 2 ^ (32 - k) = h at hH hh hh2 HP HT HR
  subst hA hH
  have f1 : (x : Int).tdiv (a : Int) = ((x / a : Nat) : Int) := by rw [Int.tdiv_eq_ediv_of_nonneg (by omega)]; rfl
  have f2 : (x : Int).tmod (a : Int) = ((x % a : Nat) : Int) := by rw [Int.tmod_eq_emod_of_nonneg (by omega)]; rfl
  go_enter Try.func77, Try.ntmps77
  go_wp2
  go_region
  go_wp2
  go_ret
  refine ⟨?_, 1, rfl⟩
  show Ending.returned (.int .u32 (((x : Int) / (a : Int) % 4294967296 + (x : Int) % (a : Int) * (h : Int) % 4294967296) % 4294967296)) = _
  rw [unhide HR]
  have hp := unhide HP
  congr 2
  have g1 : (x : Int) / (a : Int) = ((x / a : Nat) : Int) := rfl
  have g2 : (x : Int) % (a : Int) * (h : Int) = ((x % a * h : Nat) : Int) := by rw [Int.natCast_mul]; rfl
  rw [g1, g2]
  generalize x / a = p at hp
  generalize x % a * h = q at hp
  omega
theorem specS_a (x : Nat) (hx : x < 4294967296) (w : World) :
    Calls Try.prog 75 #[.int .u32 (x : Int), .int .u32 131072, .int .u32 524288, .int .u32 1024, .bool true] w fun e w' => e = .returned (.int .u32 (sg2 17 19 10 x : Int)) ∧ ∃ n, w' = w.drewN n := by
  go_enter Try.func75, Try.ntmps75
  go_wp2_with (first | (go_at_call 77; refine (specRight_any x 17 _ _ hx (by decide) (by decide) (by decide) (by decide) _).mono ?_; rintro e w1 ⟨rfl, n1, rfl⟩) | (go_at_call 77; refine (specRight_any x 19 _ _ hx (by decide) (by decide) (by decide) (by decide) _).mono ?_; rintro e w1 ⟨rfl, n1, rfl⟩))
  go_ret
  refine ⟨?_, _, rfl⟩
  show Ending.returned (.int .u32 (bits .xor .u32 (bits .xor .u32 (rot 17 x : Int) (rot 19 x : Int)) ((x : Int) / 1024))) = _
  rw [show (x : Int) / 1024 = ((x / 1024 : Nat) : Int) from rfl]
  rw [u32_xor_nat _ _ (rot_lt (by decide) hx) (rot_lt (by decide) hx), u32_xor_nat _ _ (xor32 (rot_lt (by decide) hx) (rot_lt (by decide) hx)) (Nat.lt_of_le_of_lt (Nat.div_le_self _ _) hx)]
  rfl
theorem specS_b (x : Nat) (hx : x < 4294967296) (w : World) :
    Calls Try.prog 75 #[.int .u32 (x : Int), .int .u32 128, .int .u32 262144, .int .u32 8, .bool true] w fun e w' => e = .returned (.int .u32 (sg2 7 18 3 x : Int)) ∧ ∃ n, w' = w.drewN n := by
  go_enter Try.func75, Try.ntmps75
  go_wp2_with (first | (go_at_call 77; refine (specRight_any x 7 _ _ hx (by decide) (by decide) (by decide) (by decide) _).mono ?_; rintro e w1 ⟨rfl, n1, rfl⟩) | (go_at_call 77; refine (specRight_any x 18 _ _ hx (by decide) (by decide) (by decide) (by decide) _).mono ?_; rintro e w1 ⟨rfl, n1, rfl⟩))
  go_ret
  refine ⟨?_, _, rfl⟩
  show Ending.returned (.int .u32 (bits .xor .u32 (bits .xor .u32 (rot 7 x : Int) (rot 18 x : Int)) ((x : Int) / 8))) = _
  rw [show (x : Int) / 8 = ((x / 8 : Nat) : Int) from rfl]
  rw [u32_xor_nat _ _ (rot_lt (by decide) hx) (rot_lt (by decide) hx), u32_xor_nat _ _ (xor32 (rot_lt (by decide) hx) (rot_lt (by decide) hx)) (Nat.lt_of_le_of_lt (Nat.div_le_self _ _) hx)]
  rfl
theorem specS_c (x : Nat) (hx : x < 4294967296) (w : World) :
    Calls Try.prog 75 #[.int .u32 (x : Int), .int .u32 64, .int .u32 2048, .int .u32 33554432, .bool false] w fun e w' => e = .returned (.int .u32 (sg3 6 11 25 x : Int)) ∧ ∃ n, w' = w.drewN n := by
  go_enter Try.func75, Try.ntmps75
  go_wp2_with (first | (go_at_call 77; refine (specRight_any x 6 _ _ hx (by decide) (by decide) (by decide) (by decide) _).mono ?_; rintro e w1 ⟨rfl, n1, rfl⟩) | (go_at_call 77; refine (specRight_any x 11 _ _ hx (by decide) (by decide) (by decide) (by decide) _).mono ?_; rintro e w1 ⟨rfl, n1, rfl⟩) | (go_at_call 77; refine (specRight_any x 25 _ _ hx (by decide) (by decide) (by decide) (by decide) _).mono ?_; rintro e w1 ⟨rfl, n1, rfl⟩))
  go_ret
  refine ⟨?_, _, rfl⟩
  show Ending.returned (.int .u32 (bits .xor .u32 (bits .xor .u32 (rot 6 x : Int) (rot 11 x : Int)) (rot 25 x : Int))) = _
  rw [u32_xor_nat _ _ (rot_lt (by decide) hx) (rot_lt (by decide) hx), u32_xor_nat _ _ (xor32 (rot_lt (by decide) hx) (rot_lt (by decide) hx)) (rot_lt (by decide) hx)]
  rfl
theorem specS_d (x : Nat) (hx : x < 4294967296) (w : World) :
    Calls Try.prog 75 #[.int .u32 (x : Int), .int .u32 4, .int .u32 8192, .int .u32 4194304, .bool false] w fun e w' => e = .returned (.int .u32 (sg3 2 13 22 x : Int)) ∧ ∃ n, w' = w.drewN n := by
  go_enter Try.func75, Try.ntmps75
  go_wp2_with (first | (go_at_call 77; refine (specRight_any x 2 _ _ hx (by decide) (by decide) (by decide) (by decide) _).mono ?_; rintro e w1 ⟨rfl, n1, rfl⟩) | (go_at_call 77; refine (specRight_any x 13 _ _ hx (by decide) (by decide) (by decide) (by decide) _).mono ?_; rintro e w1 ⟨rfl, n1, rfl⟩) | (go_at_call 77; refine (specRight_any x 22 _ _ hx (by decide) (by decide) (by decide) (by decide) _).mono ?_; rintro e w1 ⟨rfl, n1, rfl⟩))
  go_ret
  refine ⟨?_, _, rfl⟩
  show Ending.returned (.int .u32 (bits .xor .u32 (bits .xor .u32 (rot 2 x : Int) (rot 13 x : Int)) (rot 22 x : Int))) = _
  rw [u32_xor_nat _ _ (rot_lt (by decide) hx) (rot_lt (by decide) hx), u32_xor_nat _ _ (xor32 (rot_lt (by decide) hx) (rot_lt (by decide) hx)) (rot_lt (by decide) hx)]
  rfl
set_option maxRecDepth 20000 in
set_option maxHeartbeats 1000000 in
theorem implWord_any (s : ByteArray) (i : Nat) (hi : i + 4 ≤ s.size) (hs : s.size ≤ 10000000) (w : World) :
    Calls Try.prog 70 #[.string s, .int .i64 (i : Int)] w fun e w' => e = .returned (.int .u32 (wAt s i : Int)) ∧ ∃ n, w' = w.drewN n := by
  have i1 : IntKind.i64.wrap ((i : Int) + 1) = (i : Int) + 1 := by rw [IntKind.wrap_i64]; omega
  have i2 : IntKind.i64.wrap ((i : Int) + 2) = (i : Int) + 2 := by rw [IntKind.wrap_i64]; omega
  have i3 : IntKind.i64.wrap ((i : Int) + 3) = (i : Int) + 3 := by rw [IntKind.wrap_i64]; omega
  have h0 : (i : Int) < (s.size : Int) := by omega
  have h1 : (i : Int) + 1 < (s.size : Int) := by omega
  have h2 : (i : Int) + 2 < (s.size : Int) := by omega
  have h3 : (i : Int) + 3 < (s.size : Int) := by omega
  have n1 : 0 ≤ (i : Int) + 1 := by omega
  have n2 : 0 ≤ (i : Int) + 2 := by omega
  have n3 : 0 ≤ (i : Int) + 3 := by omega
  have t1 : ((i : Int) + 1).toNat = i + 1 := by omega
  have t2 : ((i : Int) + 2).toNat = i + 2 := by omega
  have t3 : ((i : Int) + 3).toNat = i + 3 := by omega
  have b0 := hide (byteAt_eq s i (by omega))
  have b1 := hide (byteAt_eq s (i + 1) (by omega))
  have b2 := hide (byteAt_eq s (i + 2) (by omega))
  have b3 := hide (byteAt_eq s (i + 3) (by omega))
  have z0 := hide (byteAt_lt s i)
  have z1 := hide (byteAt_lt s (i + 1))
  have z2 := hide (byteAt_lt s (i + 2))
  have z3 := hide (byteAt_lt s (i + 3))
  go_enter Try.func70, Try.ntmps70
  go_wp2
  go_region
  go_wp2
  go_ret
  refine ⟨?_, 1, rfl⟩
  have b0 := unhide b0; have b1 := unhide b1; have b2 := unhide b2; have b3 := unhide b3
  have z0 := unhide z0; have z1 := unhide z1; have z2 := unhide z2; have z3 := unhide z3
  show Ending.returned (.int .u32 (bits .or .u32 (bits .or .u32 (bits .or .u32 ((s[i].toNat : Int) % 4294967296 * 16777216 % 4294967296) ((s[i + 1].toNat : Int) % 4294967296 * 65536 % 4294967296)) ((s[i + 2].toNat : Int) % 4294967296 * 256 % 4294967296)) ((s[i + 3].toNat : Int) % 4294967296))) = _
  rw [← b0, ← b1, ← b2, ← b3]
  unfold wAt
  generalize byteAt s i = p0 at z0
  generalize byteAt s (i + 1) = p1 at z1
  generalize byteAt s (i + 2) = p2 at z2
  generalize byteAt s (i + 3) = p3 at z3
  rw [show (p0 : Int) % 4294967296 * 16777216 % 4294967296 = ((p0 * 16777216 : Nat) : Int) by omega, show (p1 : Int) % 4294967296 * 65536 % 4294967296 = ((p1 * 65536 : Nat) : Int) by omega,
    show (p2 : Int) % 4294967296 * 256 % 4294967296 = ((p2 * 256 : Nat) : Int) by omega, show (p3 : Int) % 4294967296 = ((p3 : Nat) : Int) by omega]
  have o1 := or32 (show p0 * 16777216 < 4294967296 by omega) (show p1 * 65536 < 4294967296 by omega)
  have o2 := or32 o1 (show p2 * 256 < 4294967296 by omega)
  rw [u32_or_nat _ _ (by omega) (by omega), u32_or_nat _ _ o1 (by omega), u32_or_nat _ _ o2 (by omega), word_or z0 z1 z2 z3]
set_option maxRecDepth 20000 in
set_option maxHeartbeats 1000000 in
theorem specWord_any (s : ByteArray) (i : Nat) (hi : i + 4 ≤ s.size) (hs : s.size ≤ 10000000) (w : World) :
    Calls Try.prog 74 #[.string s, .int .i64 (i : Int)] w fun e w' => e = .returned (.int .u32 (wAt s i : Int)) ∧ ∃ n, w' = w.drewN n := by
  have i1 : IntKind.i64.wrap ((i : Int) + 1) = (i : Int) + 1 := by rw [IntKind.wrap_i64]; omega
  have i2 : IntKind.i64.wrap ((i : Int) + 2) = (i : Int) + 2 := by rw [IntKind.wrap_i64]; omega
  have i3 : IntKind.i64.wrap ((i : Int) + 3) = (i : Int) + 3 := by rw [IntKind.wrap_i64]; omega
  have h0 : (i : Int) < (s.size : Int) := by omega
  have h1 : (i : Int) + 1 < (s.size : Int) := by omega
  have h2 : (i : Int) + 2 < (s.size : Int) := by omega
  have h3 : (i : Int) + 3 < (s.size : Int) := by omega
  have n1 : 0 ≤ (i : Int) + 1 := by omega
  have n2 : 0 ≤ (i : Int) + 2 := by omega
  have n3 : 0 ≤ (i : Int) + 3 := by omega
  have t1 : ((i : Int) + 1).toNat = i + 1 := by omega
  have t2 : ((i : Int) + 2).toNat = i + 2 := by omega
  have t3 : ((i : Int) + 3).toNat = i + 3 := by omega
  have b0 := hide (byteAt_eq s i (by omega))
  have b1 := hide (byteAt_eq s (i + 1) (by omega))
  have b2 := hide (byteAt_eq s (i + 2) (by omega))
  have b3 := hide (byteAt_eq s (i + 3) (by omega))
  have z0 := hide (byteAt_lt s i)
  have z1 := hide (byteAt_lt s (i + 1))
  have z2 := hide (byteAt_lt s (i + 2))
  have z3 := hide (byteAt_lt s (i + 3))
  go_enter Try.func74, Try.ntmps74
  go_wp2
  go_region
  go_wp2
  go_ret
  refine ⟨?_, 1, rfl⟩
  have b0 := unhide b0; have b1 := unhide b1; have b2 := unhide b2; have b3 := unhide b3
  have z0 := unhide z0; have z1 := unhide z1; have z2 := unhide z2; have z3 := unhide z3
  show Ending.returned (.int .u32 ((((s[i].toNat : Int) % 4294967296 * 16777216 + (s[i + 1].toNat : Int) % 4294967296 * 65536 + (s[i + 2].toNat : Int) % 4294967296 * 256) % 4294967296 + (s[i + 3].toNat : Int) % 4294967296) % 4294967296)) = _
  rw [← b0, ← b1, ← b2, ← b3]
  unfold wAt wordN
  congr 2
  omega
set_option maxRecDepth 20000 in
set_option maxHeartbeats 1000000 in
theorem implThree_any (x a b c : Nat) (hx : x < 4294967296) (ha : 1 ≤ a) (ha2 : a ≤ 31) (hb : 1 ≤ b) (hb2 : b ≤ 31) (hc : 1 ≤ c) (hc2 : c ≤ 31) (w : World) :
    Calls Try.prog 59 #[.int .u32 (x : Int), .int .i64 (a : Int), .int .i64 (b : Int), .int .i64 (c : Int)] w fun e w' => e = .returned (.int .u32 (sg3 a b c x : Int)) ∧ ∃ n, w' = w.drewN n := by
  go_enter Try.func59, Try.ntmps59
  go_wp2_with (go_at_call 72; refine (implRot_any x _ hx (by first | exact ha | exact hb | exact hc) (by first | exact ha2 | exact hb2 | exact hc2) _).mono ?_; rintro e w1 ⟨rfl, n1, rfl⟩)
  go_ret
  refine ⟨?_, _, rfl⟩
  show Ending.returned (.int .u32 (bits .xor .u32 (bits .xor .u32 (rot a x : Int) (rot b x : Int)) (rot c x : Int))) = _
  rw [u32_xor_nat _ _ (rot_lt (by omega) hx) (rot_lt (by omega) hx), u32_xor_nat _ _ (xor32 (rot_lt (by omega) hx) (rot_lt (by omega) hx)) (rot_lt (by omega) hx)]
  rfl
set_option maxRecDepth 20000 in
set_option maxHeartbeats 1000000 in
theorem implTwo_any (x a b c : Nat) (hx : x < 4294967296) (ha : 1 ≤ a) (ha2 : a ≤ 31) (hb : 1 ≤ b) (hb2 : b ≤ 31) (hc : 1 ≤ c) (hc2 : c ≤ 31) (w : World) :
    Calls Try.prog 71 #[.int .u32 (x : Int), .int .i64 (a : Int), .int .i64 (b : Int), .int .i64 (c : Int)] w fun e w' => e = .returned (.int .u32 (sg2 a b c x : Int)) ∧ ∃ n, w' = w.drewN n := by
  go_enter Try.func71, Try.ntmps71
  go_wp2
  go_region_held3 (fun _ => True) (trivial) (first | (go_at_call 72; refine (implRot_any x _ hx (by first | exact ha | exact hb | exact hc) (by first | exact ha2 | exact hb2 | exact hc2) _).mono ?_; rintro e w1 ⟨rfl, n1, rfl⟩))
  go_wp2
  go_ret
  refine ⟨?_, _, rfl⟩
  show Ending.returned (.int .u32 (bits .xor .u32 (bits .xor .u32 (rot a x : Int) (rot b x : Int)) ((x : Int) / 2 ^ c))) = _
  rw [show (x : Int) / 2 ^ c = ((x / 2 ^ c : Nat) : Int) by rw [Int.natCast_ediv, Int.natCast_pow]; rfl]
  rw [u32_xor_nat _ _ (rot_lt (by omega) hx) (rot_lt (by omega) hx), u32_xor_nat _ _ (xor32 (rot_lt (by omega) hx) (rot_lt (by omega) hx)) (Nat.lt_of_le_of_lt (Nat.div_le_self _ _) hx)]
  rfl
end Go.Proofs.Ytecbpplocokedaa
