/- The small functions of impl's sponge, over the loaded program. -/
import Derived.Test.YtkidgllmhdfgaanDoorProg
import Derived.Test.YtkidgllmhdfgaanDoorChecked
import Derived.Test.YtkidgllmhdfgaanDoorSha
import Derived.Test.YtkidgllmhdfgaanDoorLan
import Derived.Deep.RegionWith
import Derived.Deep.RegionHeld3
import Derived.Deep.QuietTactic
import Derived.BigQuiet
import Derived.Laws.DeepStrings4
namespace Go.Proofs.YtkidgllmhdfgaanDoor
open Go.RowKit
theorem or_add {a b k : Nat} (h : a < 2 ^ k) : a ||| (b * 2 ^ k) = a + b * 2 ^ k := by
  rw [Nat.or_comm, ← Nat.shiftLeft_eq, ← Nat.shiftLeft_add_eq_or_of_lt h, Nat.add_comm]
theorem or64 {a b : Nat} (ha : a < 18446744073709551616) (hb : b < 18446744073709551616) : a ||| b < 18446744073709551616 := Nat.or_lt_two_pow (n := 64) ha hb
theorem rol_or {n x : Nat} (hn : n < 64) (hn0 : n ≠ 0) (hx : x < M64) : (x * 2 ^ n % M64) ||| (x / 2 ^ (64 - n)) = rol n x := by
  have e : 2 ^ n * 2 ^ (64 - n) = M64 := by rw [← Nat.pow_add, show n + (64 - n) = 64 by omega]; rfl
  have d1 : x / 2 ^ (64 - n) < 2 ^ n := Nat.div_lt_of_lt_mul (by rw [Nat.mul_comm, e]; exact hx)
  rw [rol_eq hn hn0, ← e, Nat.mul_comm (2 ^ n) (2 ^ (64 - n)), Nat.mul_mod_mul_right, Nat.or_comm, or_add d1, Nat.add_comm]
def lane8 (b0 b1 b2 b3 b4 b5 b6 b7 : Nat) : Nat := b0 + b1 * 256 + b2 * 65536 + b3 * 16777216 + b4 * 4294967296 + b5 * 1099511627776 + b6 * 281474976710656 + b7 * 72057594037927936
theorem lane8_or {b0 b1 b2 b3 b4 b5 b6 b7 : Nat} (h0 : b0 < 256) (h1 : b1 < 256) (h2 : b2 < 256) (h3 : b3 < 256) (h4 : b4 < 256) (h5 : b5 < 256) (h6 : b6 < 256) :
    (((((((b0 ||| b1 * 256) ||| b2 * 65536) ||| b3 * 16777216) ||| b4 * 4294967296) ||| b5 * 1099511627776) ||| b6 * 281474976710656) ||| b7 * 72057594037927936) = lane8 b0 b1 b2 b3 b4 b5 b6 b7 := by
  have e1 := or_add (a := b0) (b := b1) (k := 8) (by omega)
  have e2 := or_add (a := b0 + b1 * 256) (b := b2) (k := 16) (by omega)
  have e3 := or_add (a := b0 + b1 * 256 + b2 * 65536) (b := b3) (k := 24) (by omega)
  have e4 := or_add (a := b0 + b1 * 256 + b2 * 65536 + b3 * 16777216) (b := b4) (k := 32) (by omega)
  have e5 := or_add (a := b0 + b1 * 256 + b2 * 65536 + b3 * 16777216 + b4 * 4294967296) (b := b5) (k := 40) (by omega)
  have e6 := or_add (a := b0 + b1 * 256 + b2 * 65536 + b3 * 16777216 + b4 * 4294967296 + b5 * 1099511627776) (b := b6) (k := 48) (by omega)
  have e7 := or_add (a := b0 + b1 * 256 + b2 * 65536 + b3 * 16777216 + b4 * 4294967296 + b5 * 1099511627776 + b6 * 281474976710656) (b := b7) (k := 56) (by omega)
  simp only [Nat.reducePow] at e1 e2 e3 e4 e5 e6 e7
  rw [e1, e2, e3, e4, e5, e6, e7]
  rfl
theorem lane8_lt {b0 b1 b2 b3 b4 b5 b6 b7 : Nat} (h0 : b0 < 256) (h1 : b1 < 256) (h2 : b2 < 256) (h3 : b3 < 256) (h4 : b4 < 256) (h5 : b5 < 256) (h6 : b6 < 256) (h7 : b7 < 256) : lane8 b0 b1 b2 b3 b4 b5 b6 b7 < M64 := by
  unfold lane8 M64; omega
def lAt (s : ByteArray) (i : Nat) : Nat := lane8 (byteAt s i) (byteAt s (i + 1)) (byteAt s (i + 2)) (byteAt s (i + 3)) (byteAt s (i + 4)) (byteAt s (i + 5)) (byteAt s (i + 6)) (byteAt s (i + 7))
theorem lAt_lt (s : ByteArray) (i : Nat) : lAt s i < M64 := lane8_lt (byteAt_lt _ _) (byteAt_lt _ _) (byteAt_lt _ _) (byteAt_lt _ _) (byteAt_lt _ _) (byteAt_lt _ _) (byteAt_lt _ _) (byteAt_lt _ _)
theorem byteAt_cut (s : ByteArray) (a b i : Nat) (h : a + i < b) (hb : b ≤ s.size) : byteAt (s.extract a b) i = byteAt s (a + i) := by
  rw [byteAt_eq (s.extract a b) i (by rw [ByteArray.size_extract]; omega), byteAt_eq s (a + i) (by omega)]
  rw [ByteArray.getElem_extract]
theorem cut_lh (T : ByteArray) (i j : Nat) (w : World) (h1 : i ≤ j) (h2 : j ≤ T.size) : (Instr.slice 9 (.string T) (some (.int .i64 (i : Int))) (some (.int .i64 (j : Int))) none).run Tryd.prog w = .ok (.string (T.extract i j)) w := by
  rw [run_slice_string_if w 9 T .i64 .i64 (i : Int) (j : Int) Tryd.underlying9, if_pos (by omega), if_pos (by omega)]
  rfl
set_option maxRecDepth 20000 in
theorem rotl64_any (x k : Nat) (hx : x < M64) (hk : k % 64 ≠ 0) (hk2 : k < 1000000) (w : World) :
    Calls Tryd.prog 40 #[.int .u64 (x : Int), .int .i64 (k : Int)] w fun e w' => e = .returned (.int .u64 (rol (k % 64) x : Int)) ∧ ∃ n, w' = w.drewN n := by
  have HR := hide (rol_or (Nat.mod_lt k (by decide)) hk hx)
  have e1 : IntKind.u64.wrap (k : Int) = (k : Int) := by rw [IntKind.wrap_u64]; omega
  have e2 : bits .and .u64 (k : Int) 63 = ((k % 64 : Nat) : Int) := by
    rw [show (63 : Int) = ((63 : Nat) : Int) by rfl, u64_and_nat _ _ (by omega) (by omega), nat_mask6]
  have hm : k % 64 < 64 := Nat.mod_lt _ (by decide)
  generalize k % 64 = m at *
  unfold M64 at hx HR
  go_enter Tryd.func40, Tryd.ntmps40
  go_wp2
  go_ret
  refine ⟨?_, 0, rfl⟩
  have e3 : (x : Int) * 2 ^ m % 18446744073709551616 = ((x * 2 ^ m % 18446744073709551616 : Nat) : Int) := by
    rw [Int.natCast_emod, Int.natCast_mul, Int.natCast_pow]; rfl
  have e4 : (x : Int) / 2 ^ (64 - m) = ((x / 2 ^ (64 - m) : Nat) : Int) := by
    rw [Int.natCast_ediv, Int.natCast_pow]; rfl
  show Ending.returned (.int .u64 (bits .or .u64 ((x : Int) * 2 ^ m % 18446744073709551616) ((x : Int) / 2 ^ (64 - m)))) = _
  rw [e3, e4, u64_or_nat _ _ (Nat.mod_lt _ (by decide)) (Nat.lt_of_le_of_lt (Nat.div_le_self _ _) hx), unhide HR]
set_option maxRecDepth 20000 in
set_option maxHeartbeats 1000000 in
theorem implLane_any (s : ByteArray) (i : Nat) (hi : i + 8 ≤ s.size) (hs : s.size ≤ 10000000) (w : World) :
    Calls Tryd.prog 39 #[.string s, .int .i64 (i : Int)] w fun e w' => e = .returned (.int .u64 (lAt s i : Int)) ∧ ∃ n, w' = w.drewN n := by
  obtain ⟨j, hj⟩ : ∃ j, j = i + 8 := ⟨_, rfl⟩
  have i8 : IntKind.i64.wrap ((i : Int) + 8) = (j : Int) := by rw [IntKind.wrap_i64]; omega
  have hsl := cut_lh s i j w (by omega) (by omega)
  have HL : Hid (lAt s i = lAt (s.extract i (i + 8)) 0) := hide (by
    unfold lAt
    rw [byteAt_cut s i (i + 8) 0 (by omega) hi, byteAt_cut s i (i + 8) (0 + 1) (by omega) hi, byteAt_cut s i (i + 8) (0 + 2) (by omega) hi, byteAt_cut s i (i + 8) (0 + 3) (by omega) hi, byteAt_cut s i (i + 8) (0 + 4) (by omega) hi, byteAt_cut s i (i + 8) (0 + 5) (by omega) hi, byteAt_cut s i (i + 8) (0 + 6) (by omega) hi, byteAt_cut s i (i + 8) (0 + 7) (by omega) hi]
    simp only [Nat.add_zero, Nat.zero_add])
  have hz : (s.extract i (i + 8)).size = 8 := by rw [ByteArray.size_extract]; omega
  rw [← hj] at HL hz
  replace hj := hide hj
  go_enter Tryd.func39, Tryd.ntmps39
  go_wp2
  clear hsl
  generalize s.extract i j = t at *
  obtain ⟨p0, hp0⟩ : ∃ p, p = byteAt t 0 := ⟨_, rfl⟩
  have z0 : p0 < 256 := hp0 ▸ byteAt_lt t 0
  have b0 : t[0].toNat = p0 := by rw [hp0, byteAt_eq t 0 (by omega)]
  replace hp0 := hide hp0
  have w0 : IntKind.u64.wrap (p0 : Int) = (p0 : Int) := by rw [IntKind.wrap_u64]; omega
  obtain ⟨p1, hp1⟩ : ∃ p, p = byteAt t 1 := ⟨_, rfl⟩
  have z1 : p1 < 256 := hp1 ▸ byteAt_lt t 1
  have b1 : t[1].toNat = p1 := by rw [hp1, byteAt_eq t 1 (by omega)]
  replace hp1 := hide hp1
  have w1 : IntKind.u64.wrap (p1 : Int) = (p1 : Int) := by rw [IntKind.wrap_u64]; omega
  obtain ⟨q1, hq1⟩ : ∃ q, q = p1 * 256 := ⟨_, rfl⟩
  have s1 : IntKind.u64.wrap ((p1 : Int) * 256) = (q1 : Int) := by rw [IntKind.wrap_u64]; omega
  have y1 : q1 < 18446744073709551616 := by omega
  obtain ⟨p2, hp2⟩ : ∃ p, p = byteAt t 2 := ⟨_, rfl⟩
  have z2 : p2 < 256 := hp2 ▸ byteAt_lt t 2
  have b2 : t[2].toNat = p2 := by rw [hp2, byteAt_eq t 2 (by omega)]
  replace hp2 := hide hp2
  have w2 : IntKind.u64.wrap (p2 : Int) = (p2 : Int) := by rw [IntKind.wrap_u64]; omega
  obtain ⟨q2, hq2⟩ : ∃ q, q = p2 * 65536 := ⟨_, rfl⟩
  have s2 : IntKind.u64.wrap ((p2 : Int) * 65536) = (q2 : Int) := by rw [IntKind.wrap_u64]; omega
  have y2 : q2 < 18446744073709551616 := by omega
  obtain ⟨p3, hp3⟩ : ∃ p, p = byteAt t 3 := ⟨_, rfl⟩
  have z3 : p3 < 256 := hp3 ▸ byteAt_lt t 3
  have b3 : t[3].toNat = p3 := by rw [hp3, byteAt_eq t 3 (by omega)]
  replace hp3 := hide hp3
  have w3 : IntKind.u64.wrap (p3 : Int) = (p3 : Int) := by rw [IntKind.wrap_u64]; omega
  obtain ⟨q3, hq3⟩ : ∃ q, q = p3 * 16777216 := ⟨_, rfl⟩
  have s3 : IntKind.u64.wrap ((p3 : Int) * 16777216) = (q3 : Int) := by rw [IntKind.wrap_u64]; omega
  have y3 : q3 < 18446744073709551616 := by omega
  obtain ⟨p4, hp4⟩ : ∃ p, p = byteAt t 4 := ⟨_, rfl⟩
  have z4 : p4 < 256 := hp4 ▸ byteAt_lt t 4
  have b4 : t[4].toNat = p4 := by rw [hp4, byteAt_eq t 4 (by omega)]
  replace hp4 := hide hp4
  have w4 : IntKind.u64.wrap (p4 : Int) = (p4 : Int) := by rw [IntKind.wrap_u64]; omega
  obtain ⟨q4, hq4⟩ : ∃ q, q = p4 * 4294967296 := ⟨_, rfl⟩
  have s4 : IntKind.u64.wrap ((p4 : Int) * 4294967296) = (q4 : Int) := by rw [IntKind.wrap_u64]; omega
  have y4 : q4 < 18446744073709551616 := by omega
  obtain ⟨p5, hp5⟩ : ∃ p, p = byteAt t 5 := ⟨_, rfl⟩
  have z5 : p5 < 256 := hp5 ▸ byteAt_lt t 5
  have b5 : t[5].toNat = p5 := by rw [hp5, byteAt_eq t 5 (by omega)]
  replace hp5 := hide hp5
  have w5 : IntKind.u64.wrap (p5 : Int) = (p5 : Int) := by rw [IntKind.wrap_u64]; omega
  obtain ⟨q5, hq5⟩ : ∃ q, q = p5 * 1099511627776 := ⟨_, rfl⟩
  have s5 : IntKind.u64.wrap ((p5 : Int) * 1099511627776) = (q5 : Int) := by rw [IntKind.wrap_u64]; omega
  have y5 : q5 < 18446744073709551616 := by omega
  obtain ⟨p6, hp6⟩ : ∃ p, p = byteAt t 6 := ⟨_, rfl⟩
  have z6 : p6 < 256 := hp6 ▸ byteAt_lt t 6
  have b6 : t[6].toNat = p6 := by rw [hp6, byteAt_eq t 6 (by omega)]
  replace hp6 := hide hp6
  have w6 : IntKind.u64.wrap (p6 : Int) = (p6 : Int) := by rw [IntKind.wrap_u64]; omega
  obtain ⟨q6, hq6⟩ : ∃ q, q = p6 * 281474976710656 := ⟨_, rfl⟩
  have s6 : IntKind.u64.wrap ((p6 : Int) * 281474976710656) = (q6 : Int) := by rw [IntKind.wrap_u64]; omega
  have y6 : q6 < 18446744073709551616 := by omega
  obtain ⟨p7, hp7⟩ : ∃ p, p = byteAt t 7 := ⟨_, rfl⟩
  have z7 : p7 < 256 := hp7 ▸ byteAt_lt t 7
  have b7 : t[7].toNat = p7 := by rw [hp7, byteAt_eq t 7 (by omega)]
  replace hp7 := hide hp7
  have w7 : IntKind.u64.wrap (p7 : Int) = (p7 : Int) := by rw [IntKind.wrap_u64]; omega
  obtain ⟨q7, hq7⟩ : ∃ q, q = p7 * 72057594037927936 := ⟨_, rfl⟩
  have s7 : IntKind.u64.wrap ((p7 : Int) * 72057594037927936) = (q7 : Int) := by rw [IntKind.wrap_u64]; omega
  have y7 : q7 < 18446744073709551616 := by omega
  obtain ⟨r1, hr1⟩ : ∃ r, r = p0 ||| q1 := ⟨_, rfl⟩
  have o1 : bits .or .u64 (p0 : Int) (q1 : Int) = (r1 : Int) := by rw [hr1, u64_or_nat _ _ (by omega) y1]
  have x1 : r1 < 18446744073709551616 := by rw [hr1]; exact or64 (by omega) y1
  obtain ⟨r2, hr2⟩ : ∃ r, r = r1 ||| q2 := ⟨_, rfl⟩
  have o2 : bits .or .u64 (r1 : Int) (q2 : Int) = (r2 : Int) := by rw [hr2, u64_or_nat _ _ x1 y2]
  have x2 : r2 < 18446744073709551616 := by rw [hr2]; exact or64 x1 y2
  obtain ⟨r3, hr3⟩ : ∃ r, r = r2 ||| q3 := ⟨_, rfl⟩
  have o3 : bits .or .u64 (r2 : Int) (q3 : Int) = (r3 : Int) := by rw [hr3, u64_or_nat _ _ x2 y3]
  have x3 : r3 < 18446744073709551616 := by rw [hr3]; exact or64 x2 y3
  obtain ⟨r4, hr4⟩ : ∃ r, r = r3 ||| q4 := ⟨_, rfl⟩
  have o4 : bits .or .u64 (r3 : Int) (q4 : Int) = (r4 : Int) := by rw [hr4, u64_or_nat _ _ x3 y4]
  have x4 : r4 < 18446744073709551616 := by rw [hr4]; exact or64 x3 y4
  obtain ⟨r5, hr5⟩ : ∃ r, r = r4 ||| q5 := ⟨_, rfl⟩
  have o5 : bits .or .u64 (r4 : Int) (q5 : Int) = (r5 : Int) := by rw [hr5, u64_or_nat _ _ x4 y5]
  have x5 : r5 < 18446744073709551616 := by rw [hr5]; exact or64 x4 y5
  obtain ⟨r6, hr6⟩ : ∃ r, r = r5 ||| q6 := ⟨_, rfl⟩
  have o6 : bits .or .u64 (r5 : Int) (q6 : Int) = (r6 : Int) := by rw [hr6, u64_or_nat _ _ x5 y6]
  have x6 : r6 < 18446744073709551616 := by rw [hr6]; exact or64 x5 y6
  obtain ⟨r7, hr7⟩ : ∃ r, r = r6 ||| q7 := ⟨_, rfl⟩
  have o7 : bits .or .u64 (r6 : Int) (q7 : Int) = (r7 : Int) := by rw [hr7, u64_or_nat _ _ x6 y7]
  have x7 : r7 < 18446744073709551616 := by rw [hr7]; exact or64 x6 y7
  have HF := hide (lane8_or (b7 := p7) z0 z1 z2 z3 z4 z5 z6)
  rw [← hq1, ← hq2, ← hq3, ← hq4, ← hq5, ← hq6, ← hq7, ← hr1, ← hr2, ← hr3, ← hr4, ← hr5, ← hr6, ← hr7] at HF
  replace hq1 := hide hq1; replace hr1 := hide hr1
  replace hq2 := hide hq2; replace hr2 := hide hr2
  replace hq3 := hide hq3; replace hr3 := hide hr3
  replace hq4 := hide hq4; replace hr4 := hide hr4
  replace hq5 := hide hq5; replace hr5 := hide hr5
  replace hq6 := hide hq6; replace hr6 := hide hr6
  replace hq7 := hide hq7; replace hr7 := hide hr7
  have HL2 : Hid (lAt s i = r7) := hide (by rw [unhide HL, unhide HF]; unfold lAt; simp only [Nat.zero_add]; rw [← unhide hp0, ← unhide hp1, ← unhide hp2, ← unhide hp3, ← unhide hp4, ← unhide hp5, ← unhide hp6, ← unhide hp7])
  clear HL HF y1 x1 y2 x2 y3 x3 y4 x4 y5 x5 y6 x6 y7 x7
  go_quiet (fail)
  go_wp2
  go_ret
  exact ⟨by rw [unhide HL2]; rfl, _, rfl⟩
theorem Tryd.infoByte : (Tryd.prog.info? 5).map (fun i => (i.zero, i.size, i.bytes)) = some (some (.int .u8 0), 1, 1) := by kernel_rfl
theorem cs_lane (x : Nat) (hx : x < M64) : (#[Value.int .u8 ((x : Int) % 256), .int .u8 ((x : Int) / 256 % 256), .int .u8 ((x : Int) / 65536 % 256), .int .u8 ((x : Int) / 16777216 % 256), .int .u8 ((x : Int) / 4294967296 % 256), .int .u8 ((x : Int) / 1099511627776 % 256), .int .u8 ((x : Int) / 281474976710656 % 256), .int .u8 ((x : Int) / 72057594037927936)] : Array Value).toList = (laneB x 8).map bv := by
  unfold M64 at hx
  simp only [laneB, List.map_cons, List.map_nil, bv, Nat.div_div_eq_div_mul, Nat.reduceMul]
  rw [byteOf_toNat (by omega), byteOf_toNat (by omega), byteOf_toNat (by omega), byteOf_toNat (by omega), byteOf_toNat (by omega), byteOf_toNat (by omega), byteOf_toNat (by omega), byteOf_toNat (by omega)]
  simp only [List.cons.injEq, Value.int.injEq, true_and, and_true]
  refine ⟨?_, ?_, ?_, ?_, ?_, ?_, ?_, ?_⟩ <;> omega
set_option maxRecDepth 20000 in
set_option maxHeartbeats 400000 in
theorem withLane_any (x : Nat) (hx : x < M64) (v : Value) (l : List UInt8) (base : Nat) (w : World) (hown : OwnB w base 5 v l) (hl : l.length ≤ 10000) (hbase : base ≤ w.heap.size) :
    Calls Tryd.prog 34 #[v, .int .u64 (x : Int)] w fun e w' => (∃ v', e = .returned v' ∧ OwnB w' base 5 v' (l ++ laneB x 8)) ∧ Below base w w' := by
  obtain ⟨i0, hi, hz0, hz1, hz2⟩ := info_parts Tryd.infoByte
  have HC := hide (cs_lane x hx)
  have hln : (laneB x 8).length = 8 := laneB_len x 8
  unfold M64 at hx
  go_enter Tryd.func34, Tryd.ntmps34
  go_wp2_with (at_builtin; refine wpList_append_bytes rfl (.tmp 5) (.tmp 29) 48 rfl base base 5 i0 Tryd.underlying48 hi hz0 hz1 hz2 _ l rfl hown _ (laneB x 8) (by exact unhide HC) 8 8 rfl rfl (by omega) (Nat.le_refl _) hbase (Below.refl _ w) ?_; intro v' w1 hown' hb')
  go_ret
  exact ⟨⟨_, rfl, hown'⟩, hb'⟩
end Go.Proofs.YtkidgllmhdfgaanDoor
