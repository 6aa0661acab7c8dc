/- The given model's lanes: turned, out of bytes, and their bytes, over the loaded program. -/
import Derived.Test.YtkidgllmhdfgaanDoorRnd
import Derived.Test.YtkidgllmhdfgaanDoorBar
import Derived.Deep.OwnRows
namespace Go.Proofs.YtkidgllmhdfgaanDoor
open Go.RowKit
theorem Tryd.infoLane : (Tryd.prog.info? 31).map (fun i => (i.zero, i.size, i.bytes)) = some (some (.int .u64 0), 1, 8) := by kernel_rfl
set_option maxRecDepth 20000 in
set_option maxHeartbeats 400000 in
theorem left_any (x n : Nat) (hx : x < M64) (hn : n < 64) (w : World) :
    Calls Tryd.prog 38 #[.int .u64 (x : Int), .int .i64 (n : Int)] w fun e w' => e = .returned (.int .u64 (rol n x : Int)) ∧ ∃ m, w' = w.drewN m := by
  have hx' : x < 18446744073709551616 := hx
  go_enter Tryd.func38, Tryd.ntmps38
  go_wp2
  go_loopw [5, 6] (fun tl ti wr => ∃ k l : Nat, k ≤ n ∧ ti = .int .i64 (k : Int) ∧ tl = .int .u64 (l : Int) ∧ Hid (l = 2 ^ k) ∧ wr = w) (fun _ ti _ => n - (intOf ti).toNat)
  case atStart => exact ⟨0, 1, by omega, rfl, rfl, hide rfl, rfl⟩
  case round =>
    obtain ⟨k, l, hk, rfl, rfl, HP, rfl⟩ := hrel
    by_cases hlt : k < n
    · have hlt' : (k : Int) < (n : Int) := by omega
      have hl : l ≤ 4611686018427387904 := by rw [unhide HP]; exact Nat.pow_le_pow_right (show 0 < 2 by decide) (show k ≤ 62 by omega)
      have w2 : IntKind.u64.wrap ((l : Int) * 2) = ((l * 2 : Nat) : Int) := by rw [IntKind.wrap_u64]; omega
      have HQ : Hid (l * 2 = 2 ^ (k + 1)) := hide (by rw [unhide HP, Nat.pow_succ])
      obtain ⟨l2, hl2⟩ : ∃ l2, l2 = l * 2 := ⟨_, rfl⟩
      rw [← hl2] at w2 HQ
      go_wp2
      go_roundw
      all_goals first | exact ⟨k + 1, l2, by omega, by go_num, by first | rfl | (congr 1; omega), HQ, by trivial⟩ | (simp [intOf]; omega)
    · have hlt' : ¬ (k : Int) < (n : Int) := by omega
      have hkn : k = n := by omega
      by_cases h0 : n = 0
      · have h0' : (n : Int) = 0 := by omega
        have HR : Hid (rol 0 x = x) := hide (by unfold rol; rw [if_pos rfl])
        go_wp2
        go_ret
        exact ⟨by rw [unhide HR]; rfl, 0, rfl⟩
      · have h0' : ¬ (n : Int) = 0 := by omega
        have hP : l = 2 ^ n := by rw [← hkn]; exact unhide HP
        obtain ⟨q, hq⟩ : ∃ q, q = 2 ^ (63 - n) := ⟨_, rfl⟩
        obtain ⟨d, hd⟩ : ∃ d, d = 2 ^ (64 - n) := ⟨_, rfl⟩
        have hlq : 9223372036854775808 = q * l := by
          rw [hq, hP, ← Nat.pow_add, show 63 - n + n = 63 by omega]
        have hqd : q * 2 = d := by rw [hq, hd, show 64 - n = (63 - n) + 1 by omega, Nat.pow_succ]
        have hl0 : 0 < l := by rw [hP]; exact Nat.two_pow_pos n
        have hd0 : 0 < d := by rw [hd]; exact Nat.two_pow_pos _
        have hdb : d ≤ 9223372036854775808 := by rw [hd]; exact Nat.pow_le_pow_right (show 0 < 2 by decide) (show 64 - n ≤ 63 by omega)
        have e1 : (9223372036854775808 : Int).tdiv (l : Int) = (q : Int) := by
          rw [Int.tdiv_eq_ediv_of_nonneg (by omega), show (9223372036854775808 : Int) = ((q * l : Nat) : Int) by rw [← hlq]; rfl, Int.natCast_mul, Int.mul_ediv_cancel _ (by omega)]
        have e1' : (9223372036854775808 : Int) / (l : Int) = (q : Int) := by
          rw [show (9223372036854775808 : Int) = ((q * l : Nat) : Int) by rw [← hlq]; rfl, Int.natCast_mul, Int.mul_ediv_cancel _ (by omega)]
        have wq : IntKind.u64.wrap (q : Int) = (q : Int) := by rw [IntKind.wrap_u64]; omega
        have e2 : IntKind.u64.wrap ((q : Int) * 2) = (d : Int) := by rw [IntKind.wrap_u64]; omega
        have e3 : (x : Int).tdiv (d : Int) = ((x / d : Nat) : Int) := by rw [Int.tdiv_eq_ediv_of_nonneg (by omega)]; rfl
        have e3' : (x : Int) / (d : Int) = ((x / d : Nat) : Int) := rfl
        have hxd : x / d ≤ x := Nat.div_le_self _ _
        have wd : IntKind.u64.wrap ((x / d : Nat) : Int) = ((x / d : Nat) : Int) := by
          rw [IntKind.wrap_u64]
          generalize x / d = v at *
          omega
        have e4 : IntKind.u64.wrap ((x : Int) * (l : Int)) = ((x * l % 18446744073709551616 : Nat) : Int) := by rw [IntKind.wrap_u64, ← Int.natCast_mul]; rfl
        have hro : rol n x = x * l % 18446744073709551616 + x / d := by unfold rol; rw [if_neg h0, hP, hd]; rfl
        have hrl := rol_lt hn hx
        rw [hro] at hrl
        have e5 : IntKind.u64.wrap (((x * l % 18446744073709551616 : Nat) : Int) + ((x / d : Nat) : Int)) = ((x * l % 18446744073709551616 + x / d : Nat) : Int) := by
          rw [IntKind.wrap_u64]
          unfold M64 at hrl
          generalize x * l % 18446744073709551616 = u at *
          generalize x / d = v at *
          omega
        have HR := hide hro
        have hl1 : ¬ (l : Int) = 0 := by omega
        have hd1 : ¬ (d : Int) = 0 := by omega
        generalize x * l % 18446744073709551616 = u at *
        generalize x / d = v at *
        obtain ⟨s, hs⟩ : ∃ s, s = u + v := ⟨_, rfl⟩
        rw [← hs] at e5 HR
        replace hs := hide hs
        clear hq hd hlq hqd hro hrl hP hkn HP hxd
        go_wp2
        go_ret
        exact ⟨by rw [unhide HR]; rfl, 0, rfl⟩
/- the bytes of a lane, the last one first -/
def lpart (s : ByteArray) (i : Nat) : Nat → Nat
  | 0 => 0
  | c + 1 => lpart s i c * 256 + byteAt s (i + (7 - c))
theorem lpart_lt (s : ByteArray) (i c : Nat) : lpart s i c < 256 ^ c := by
  induction c with
  | zero => exact Nat.zero_lt_one
  | succ c ih =>
    have hb := byteAt_lt s (i + (7 - c))
    have e : lpart s i (c + 1) = lpart s i c * 256 + byteAt s (i + (7 - c)) := rfl
    rw [Nat.pow_succ, e]
    generalize byteAt s (i + (7 - c)) = b at *
    generalize lpart s i c = q at *
    generalize 256 ^ c = P at *
    omega
theorem lpart_s (s : ByteArray) (i c : Nat) : lpart s i (c + 1) = lpart s i c * 256 + byteAt s (i + (7 - c)) := rfl
theorem lpart_all (s : ByteArray) (i : Nat) : lpart s i 8 = lAt s i := by
  have e0 : lpart s i 0 = 0 := rfl
  have e1 := lpart_s s i 0
  have e2 := lpart_s s i 1
  have e3 := lpart_s s i 2
  have e4 := lpart_s s i 3
  have e5 := lpart_s s i 4
  have e6 := lpart_s s i 5
  have e7 := lpart_s s i 6
  have e8 := lpart_s s i 7
  simp only [Nat.reduceSub, Nat.reduceAdd, Nat.add_zero] at e1 e2 e3 e4 e5 e6 e7 e8
  unfold lAt lane8
  generalize byteAt s i = b0 at *
  generalize byteAt s (i + 1) = b1 at *
  generalize byteAt s (i + 2) = b2 at *
  generalize byteAt s (i + 3) = b3 at *
  generalize byteAt s (i + 4) = b4 at *
  generalize byteAt s (i + 5) = b5 at *
  generalize byteAt s (i + 6) = b6 at *
  generalize byteAt s (i + 7) = b7 at *
  generalize lpart s i 8 = l8 at *
  generalize lpart s i 7 = l7 at *
  generalize lpart s i 6 = l6 at *
  generalize lpart s i 5 = l5 at *
  generalize lpart s i 4 = l4 at *
  generalize lpart s i 3 = l3 at *
  generalize lpart s i 2 = l2 at *
  generalize lpart s i 1 = l1 at *
  generalize lpart s i 0 = l0 at *
  subst e0 e1 e2 e3 e4 e5 e6 e7 e8
  omega
def lanesR (s : ByteArray) (n : Nat) : List Nat := (List.range n).map fun i => lAt s (8 * i)
theorem lanesR_len (s : ByteArray) (n : Nat) : (lanesR s n).length = n := by simp [lanesR]
theorem lanesR_succ (s : ByteArray) (n : Nat) : lanesR s (n + 1) = lanesR s n ++ [lAt s (8 * n)] := by simp [lanesR, List.range_succ]
theorem lanesR_lt (s : ByteArray) (n : Nat) : ∀ x ∈ lanesR s n, x < M64 := by
  intro x hx
  unfold lanesR at hx
  obtain ⟨i, _, rfl⟩ := List.mem_map.mp hx
  exact lAt_lt _ _
theorem ln_map (f : Nat → Nat) (n i : Nat) (hi : i < n) : ln ((List.range n).map f) i = f i := by
  unfold ln
  rw [List.getD_eq_getElem?_getD, List.getElem?_map, List.getElem?_range hi]
  rfl
theorem lanesR_ln (s : ByteArray) (n i : Nat) (h : i < n) : ln (lanesR s n) i = lAt s (8 * i) := ln_map (fun i => lAt s (8 * i)) n i h
theorem lanesR_S (s : ByteArray) (h : s.size = 200) : lanesR s 25 = lanesS s := by
  apply lanes_ext (lanesR_len _ _) (lanesS_ok s).1
  intro i hi
  rw [lanesR_ln s 25 i hi, lanesS_ln s h i hi]
set_option maxRecDepth 20000 in
set_option maxHeartbeats 400000 in
theorem specLanes_any (s : ByteArray) (n : Nat) (hs : s.size = 8 * n) (hn : n ≤ 25) (w : World) :
    Calls Tryd.prog 14 #[.string s] w fun e w' => (∃ a c, e = .returned (.slice a n c) ∧ OwnV w' w.heap.size 31 (.slice a n c) ((lanesR s n).map u64v)) ∧ Below w.heap.size w w' := by
  obtain ⟨i0, hi, hz0, hz1, hz2⟩ := info_parts Tryd.infoLane
  go_enter Tryd.func14, Tryd.ntmps14
  go_wp2
  go_loopw [3, 4] (fun tv ti wr => ∃ k : Nat, k ≤ n ∧ ti = .int .i64 ((8 * k : Nat) : Int) ∧ Hid (OwnV wr w.heap.size 31 tv ((lanesR s k).map u64v)) ∧ Below w.heap.size w wr) (fun _ ti _ => 8 * n - (intOf ti).toNat)
  case atStart => exact ⟨0, by omega, rfl, hide (World.ownsRow_made w #[] 0 (Nat.le_refl _) (by decide) (by simp)), (Below.refl _ _).alloc (Nat.le_refl _) _⟩
  case round =>
    obtain ⟨k, hk, rfl, HO, hb⟩ := hrel
    obtain ⟨i, hi8⟩ : ∃ i, i = 8 * k := ⟨_, rfl⟩
    rw [← hi8]
    have HW := hide (lanesR_succ s k)
    have hib : i ≤ 1000 := by omega
    have hwl := lanesR_len s k
    by_cases hlt : k < n
    · have h4 : (i : Int) + 8 ≤ (s.size : Int) := by omega
      have hsz := hb.size
      have hln : ((lanesR s k).map u64v).length = k := by rw [List.length_map]; exact hwl
      rw [← hi8] at HW
      have hm1 : Hid (((lanesR s k).map u64v).length + 1 ≤ maxLen) := hide (by rw [hln]; unfold maxLen; omega)
      have hm2 : Hid ((((lanesR s k).map u64v).length + 1) * 8 ≤ 140737488355328) := hide (by rw [hln]; omega)
      have hi8s := hide (show i + 8 ≤ s.size by omega)
      have HA := hide (lpart_all s i)
      replace hi8 := hide hi8
      clear hwl hln
      go_wp2
      go_loopw [5, 6] (fun tx tk wq => ∃ c x : Nat, c ≤ 8 ∧ tk = .int .i64 (7 - (c : Int)) ∧ tx = .int .u64 (x : Int) ∧ Hid (x = lpart s i c) ∧ wq = wr) (fun _ tk _ => (intOf tk + 1).toNat)
      case atStart => exact ⟨0, 0, by omega, rfl, rfl, hide rfl, rfl⟩
      case round =>
        obtain ⟨c, x, hc, rfl, rfl, HX, rfl⟩ := hrel
        by_cases hlc : c < 8
        · have hge : 0 ≤ 7 - (c : Int) := by omega
          have hxl : x ≤ 72057594037927935 := by
            have h1 := lpart_lt s i c
            have h2 : 256 ^ c ≤ 256 ^ 7 := Nat.pow_le_pow_right (show 0 < 256 by decide) (show c ≤ 7 by omega)
            rw [← unhide HX] at h1
            have h3 : 256 ^ 7 = 72057594037927936 := rfl
            omega
          obtain ⟨j, hj⟩ : ∃ j, j = i + (7 - c) := ⟨_, rfl⟩
          have ej : IntKind.i64.wrap ((i : Int) + (7 - (c : Int))) = (j : Int) := by rw [IntKind.wrap_i64]; omega
          have hjs : j < s.size := by have := unhide hi8s; omega
          have hjs' : (j : Int) < (s.size : Int) := by omega
          have hbj := byteAt_eq s j hjs
          have hbl := byteAt_lt s j
          have HN : Hid (lpart s i (c + 1) = x * 256 + byteAt s j) := hide (by rw [unhide HX, hj]; rfl)
          obtain ⟨b, hbb⟩ : ∃ b, b = byteAt s j := ⟨_, rfl⟩
          rw [← hbb] at hbj hbl HN
          have hbj' : s[j].toNat = b := hbj.symm
          have wb : IntKind.u64.wrap (b : Int) = (b : Int) := by rw [IntKind.wrap_u64]; omega
          have wx : IntKind.u64.wrap ((x : Int) * 256) = (x : Int) * 256 := by rw [IntKind.wrap_u64]; omega
          have ws : IntKind.u64.wrap ((x : Int) * 256 + (b : Int)) = ((x * 256 + b : Nat) : Int) := by rw [IntKind.wrap_u64]; omega
          obtain ⟨x2, hx2⟩ : ∃ x2, x2 = x * 256 + b := ⟨_, rfl⟩
          rw [← hx2] at ws HN
          replace hj := hide hj; replace hbb := hide hbb
          clear hbj
          go_wp2
          go_roundw
          all_goals first | exact ⟨c + 1, x2, by omega, by first | go_num | (congr 1; omega), by first | rfl | (congr 1; omega), hide (unhide HN).symm, by trivial⟩ | (simp [intOf]; omega)
        · have hc8 : c = 8 := by omega
          have hge : ¬ 0 ≤ 7 - (c : Int) := by omega
          have HX2 : Hid (x = lAt s i) := hide (by rw [unhide HX, hc8]; exact unhide HA)
          replace hc8 := hide hc8
          rw [← unhide HX2] at HW
          have hown := unhide HO
          go_wp2_with (first
            | (at_builtin; refine wpList_append_vals rfl (.tmp 28) (.tmp 30) 28 rfl w.heap.size w.heap.size 31 i0 (.int .u64 0) 8 Tryd.underlying28 hi hz0 hz1 hz2 rfl _ _ rfl (by exact hown) _ [.int .u64 (x : Int)] rfl (by intro u hu; simp only [List.mem_singleton] at hu; subst hu; rfl) 1 1 rfl rfl (unhide hm1) (unhide hm2) (Nat.le_refl _) hsz hb ?_; intro v' w2 hown2 hb2))
          have hown3 : Hid (OwnV w2 w.heap.size 31 v' ((lanesR s (k + 1)).map u64v)) := hide (by rw [unhide HW, List.map_append]; exact hown2)
          clear hown2 hown
          go_roundw
          all_goals first | exact ⟨k + 1, by omega, by have := unhide hi8; go_num, hown3, hb2⟩ | (have := unhide hi8; simp [intOf]; omega)
    · have hkn : k = n := by omega
      have h4 : ¬ (i : Int) + 8 ≤ (s.size : Int) := by omega
      have hown := unhide HO
      rw [hkn] at hown
      obtain ⟨a, c, hv⟩ := hown.shape
      rw [List.length_map, lanesR_len] at hv
      replace hi8 := hide hi8
      replace hkn := hide hkn
      clear hwl
      subst hv
      replace hown := hide hown
      go_wp2
      go_ret
      exact ⟨⟨_, _, rfl, unhide hown⟩, hb⟩
end Go.Proofs.YtkidgllmhdfgaanDoor
