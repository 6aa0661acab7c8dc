/- Merged: PckE, PckF, KmA, PlyB, PckG, Cbx, KmB. -/
import Derived.Test.YthjgmpfdjhegfasDoorMga1
import Derived.Test.YthjgmpfdjhegfasDoorMga2
import Derived.Test.YthjgmpfdjhegfasDoorMga3
import Derived.Test.YthjgmpfdjhegfasDoorMga4
import Derived.Test.YthjgmpfdjhegfasDoorMga5
import Derived.Test.YthjgmpfdjhegfasDoorMga6
import Derived.Deep.RegionHeld3
import Derived.Shelf.Abstract
import Derived.Laws.Rows
import Derived.Laws.ResultCell
/- Packing by the project: Unpack, Squeeze, Stretch, over the loaded program. -/
namespace Go.Proofs.YthjgmpfdjhegfasDoor
open Go.RowKit
set_option maxRecDepth 20000 in
set_option maxHeartbeats 400000 in
theorem implUnpack_any (s : ByteArray) (bits n : Int) (_ : s.size ≤ 1048576) (w : World) (hL : LaidB w) :
    Calls Tryd.prog 42 #[.string s, .int .i64 bits, .int .i64 n] w fun e w' => (∃ v, e = .returned (.tuple #[v, .bool (upOk s bits n)]) ∧ OwnV w' w.heap.size 3 v ((upL s bits n).map iv)) ∧ Below w.heap.size w w' := by
  have C1 := hide (fun W => packBitsOk_any bits W)
  have E2 := hide (show upOk s bits n = false → upL s bits n = [] from fun h => by unfold upL; rw [h]; rfl)
  have hR := Below.refl w.heap.size w
  by_cases hb : 1 ≤ bits ∧ bits ≤ 12
  · rw [decide_eq_true hb] at C1
    by_cases hn0 : n < 0
    · have E1 := hide (show upOk s bits n = false by unfold upOk; rw [decide_eq_false (show ¬ (0 ≤ n ∧ n ≤ 1000) by omega), Bool.false_and, Bool.and_false])
      go_enter Tryd.func42, Tryd.ntmps42
      go_wp2_with fail
      refine (unhide C1 _).mono ?_
      rintro e w2 ⟨rfl, hw2⟩
      have hw3 := hw2.symm
      subst hw3
      clear hw2
      go_wp2
      refine bodyPost_ret (v := .tuple #[.slice none 0 0, .bool false]) (by simp [results, Tryd.results42, go_sem]) rfl ⟨⟨_, by rw [unhide E1], by rw [unhide E2 (unhide E1)]; exact OwnV.nil _ _ _⟩, hR⟩
    · by_cases hn1 : 1000 < n
      · have E1 := hide (show upOk s bits n = false by unfold upOk; rw [decide_eq_false (show ¬ (0 ≤ n ∧ n ≤ 1000) by omega), Bool.false_and, Bool.and_false])
        go_enter Tryd.func42, Tryd.ntmps42
        go_wp2_with fail
        refine (unhide C1 _).mono ?_
        rintro e w2 ⟨rfl, hw2⟩
        have hw3 := hw2.symm
        subst hw3
        clear hw2
        go_wp2
        refine bodyPost_ret (v := .tuple #[.slice none 0 0, .bool false]) (by simp [results, Tryd.results42, go_sem]) rfl ⟨⟨_, by rw [unhide E1], by rw [unhide E2 (unhide E1)]; exact OwnV.nil _ _ _⟩, hR⟩
      · obtain ⟨b, rfl⟩ : ∃ b : Nat, bits = (b : Int) := ⟨bits.toNat, by omega⟩
        obtain ⟨k, rfl⟩ : ∃ k : Nat, n = (k : Int) := ⟨n.toNat, by omega⟩
        have hb1 : 1 ≤ b ∧ b ≤ 12 := by omega
        have hk1 : k ≤ 1000 := by omega
        have C2 := hide (fun W => packedSize_any k b (by omega) hb1.2 W)
        obtain ⟨m, hm⟩ : ∃ m, m = byN k b := ⟨_, rfl⟩
        rw [← hm] at C2
        by_cases hs : s.size = m
        · have CI := hide (numbersIn_any s b k hb1 hk1 (by rw [hs, hm]) w hL)
          have hs' : (s.size : Int) = (m : Int) := by omega
          generalize upOk s (b : Int) (k : Int) = ok at *
          generalize upL s (b : Int) (k : Int) = ls at *
          replace hm := hide hm; replace hs := hide hs
          go_enter Tryd.func42, Tryd.ntmps42
          go_wp2_with fail
          refine (unhide C1 _).mono ?_
          rintro e w2 ⟨rfl, hw2⟩
          have hw3 := hw2.symm
          subst hw3
          clear hw2
          go_wp2_with fail
          refine (unhide C2 _).mono ?_
          rintro e w2 ⟨rfl, hw2⟩
          have hw3 := hw2.symm
          subst hw3
          clear hw2
          go_wp2_with fail
          refine (unhide CI).mono ?_
          rintro e w2 ⟨⟨v, rfl, hO⟩, hB⟩
          replace hO := hide hO
          clear CI
          go_wp2
          refine bodyPost_ret (v := .tuple #[v, .bool ok]) (by simp [results, Tryd.results42, go_sem]) rfl ⟨⟨_, rfl, unhide hO⟩, hB⟩
        · have E1 := hide (show upOk s (b : Int) (k : Int) = false by unfold upOk; rw [Int.toNat_natCast, Int.toNat_natCast, ← hm, decide_eq_false hs, Bool.false_and, Bool.and_false, Bool.and_false])
          have hs' : ((s.size : Int) != (m : Int)) = true := by rw [bne_iff_ne]; omega
          have hk2 : ¬ (k : Int) < 0 := by omega
          have hk3 : ¬ 1000 < (k : Int) := by omega
          replace hm := hide hm
          go_enter Tryd.func42, Tryd.ntmps42
          go_wp2_with fail
          refine (unhide C1 _).mono ?_
          rintro e w2 ⟨rfl, hw2⟩
          have hw3 := hw2.symm
          subst hw3
          clear hw2
          go_wp2_with fail
          refine (unhide C2 _).mono ?_
          rintro e w2 ⟨rfl, hw2⟩
          have hw3 := hw2.symm
          subst hw3
          clear hw2
          go_wp2
          refine bodyPost_ret (v := .tuple #[.slice none 0 0, .bool false]) (by simp [results, Tryd.results42, go_sem]) rfl ⟨⟨_, by rw [unhide E1], by rw [unhide E2 (unhide E1)]; exact OwnV.nil _ _ _⟩, hR⟩
  · rw [decide_eq_false hb] at C1
    have E1 := hide (show upOk s bits n = false by unfold upOk; rw [decide_eq_false hb, Bool.false_and])
    go_enter Tryd.func42, Tryd.ntmps42
    go_wp2_with fail
    refine (unhide C1 _).mono ?_
    rintro e w2 ⟨rfl, hw2⟩
    have hw3 := hw2.symm
    subst hw3
    clear hw2
    go_wp2
    refine bodyPost_ret (v := .tuple #[.slice none 0 0, .bool false]) (by simp [results, Tryd.results42, go_sem]) rfl ⟨⟨_, by rw [unhide E1], by rw [unhide E2 (unhide E1)]; exact OwnV.nil _ _ _⟩, hR⟩
end Go.Proofs.YthjgmpfdjhegfasDoor

/- Squeezing and stretching by the project, over the loaded program. -/
namespace Go.Proofs.YthjgmpfdjhegfasDoor
open Go.RowKit
set_option maxRecDepth 20000 in
theorem implSqueeze_any (x d : Int) (w : World) :
    Calls Tryd.prog 36 #[.int .i64 x, .int .i64 d] w fun e w' => e = .returned (.int .i64 (sqzZ x d)) ∧ Below w.heap.size w w' := by
  have C1 := hide (fun W => squeezeBitsOk_any d W)
  have hR := Below.refl w.heap.size w
  by_cases hd : 1 ≤ d ∧ d ≤ 11
  · rw [decide_eq_true hd] at C1
    by_cases h0 : x < 0
    · have E := hide (show sqzZ x d = 0 by unfold sqzZ; rw [if_neg (by omega)])
      go_enter Tryd.func36, Tryd.ntmps36
      go_wp2_with fail
      refine (unhide C1 _).mono ?_
      rintro e w2 ⟨rfl, hw2⟩
      have hw3 := hw2.symm
      subst hw3
      clear hw2
      go_wp2
      go_ret
      exact ⟨by rw [unhide E]; rfl, hR⟩
    · by_cases h1 : 3329 ≤ x
      · have E := hide (show sqzZ x d = 0 by unfold sqzZ; rw [if_neg (by omega)])
        go_enter Tryd.func36, Tryd.ntmps36
        go_wp2_with fail
        refine (unhide C1 _).mono ?_
        rintro e w2 ⟨rfl, hw2⟩
        have hw3 := hw2.symm
        subst hw3
        clear hw2
        go_wp2
        go_ret
        exact ⟨by rw [unhide E]; rfl, hR⟩
      · obtain ⟨n, rfl⟩ : ∃ n : Nat, x = (n : Int) := ⟨x.toNat, by omega⟩
        obtain ⟨k, rfl⟩ : ∃ k : Nat, d = (k : Int) := ⟨d.toNat, by omega⟩
        have E := hide (show sqzZ (n : Int) (k : Int) = (sqz n k : Int) by unfold sqzZ; rw [if_pos (by omega), Int.toNat_natCast, Int.toNat_natCast])
        obtain ⟨p, hp⟩ : ∃ p : Nat, p = 2 ^ k := ⟨_, rfl⟩
        have hpb : 1 ≤ p ∧ p ≤ 2048 := by rw [hp]; exact ⟨Nat.pow_pos (by omega), Nat.pow_le_pow_right (n := 2) (by omega) (show k ≤ 11 by omega)⟩
        have hw := wrap_two k p (by omega) hp
        have hm : n * p ≤ 3328 * 2048 := Nat.mul_le_mul (by omega) hpb.2
        obtain ⟨y, hy⟩ : ∃ y : Nat, y = n * p := ⟨_, rfl⟩
        rw [← hy] at hm
        have hy2 : (n : Int) * 2 ^ k = (y : Int) := by
          rw [hy, Int.natCast_mul, hp, Int.natCast_pow]; rfl
        have hw1 : RowKit.wrap64 ((n : Int) * 2 ^ k) = (y : Int) := by rw [hy2, IntWalk.wrap64_in _ (by omega)]
        obtain ⟨q, hq⟩ : ∃ q : Nat, q = (y + 1664) / 3329 := ⟨_, rfl⟩
        obtain ⟨r, hr⟩ : ∃ r : Nat, r = q % p := ⟨_, rfl⟩
        have ER := hide (show sqz n k = r by unfold sqz; rw [hr, hq, hy, hp, Nat.mul_comm])
        have v1' : ((y : Int) + 1664) / 3329 = (q : Int) := by omega
        have v1 : ((y : Int) + 1664).tdiv 3329 = (q : Int) := by rw [Int.tdiv_eq_ediv_of_nonneg (by omega)]; omega
        have v2' : (q : Int) % (p : Int) = (r : Int) := by rw [hr]; exact (Int.natCast_emod q p).symm
        have v2 : (q : Int).tmod (p : Int) = (r : Int) := by rw [Int.tmod_eq_emod_of_nonneg (by omega)]; exact v2'
        have hp0 : ¬ (p : Int) = 0 := by omega
        have hk0 : (0 : Int) ≤ (k : Int) := by omega
        have hk6 : (k : Int) ≤ 64 := by omega
        have hqb : q ≤ 4000 := by omega
        have hrb : r ≤ 4000 := by rw [hr]; exact Nat.le_trans (Nat.mod_le _ _) hqb
        rw [unhide E, unhide ER]
        replace hp := hide hp; replace hy := hide hy; replace hq := hide hq; replace hr := hide hr
        go_enter Tryd.func36, Tryd.ntmps36
        go_wp2_with fail
        refine (unhide C1 _).mono ?_
        rintro e w2 ⟨rfl, hw2⟩
        have hw3 := hw2.symm
        subst hw3
        clear hw2
        go_wp2
        go_region
        all_goals go_wp2
        all_goals go_ret
        all_goals exact ⟨rfl, hR.drew⟩
  · rw [decide_eq_false hd] at C1
    have E := hide (show sqzZ x d = 0 by unfold sqzZ; rw [if_neg (fun h => hd h.2)])
    go_enter Tryd.func36, Tryd.ntmps36
    go_wp2_with fail
    refine (unhide C1 _).mono ?_
    rintro e w2 ⟨rfl, hw2⟩
    have hw3 := hw2.symm
    subst hw3
    clear hw2
    go_wp2
    go_ret
    exact ⟨by rw [unhide E]; rfl, hR⟩
set_option maxRecDepth 20000 in
theorem implStretch_any (y d : Int) (w : World) :
    Calls Tryd.prog 43 #[.int .i64 y, .int .i64 d] w fun e w' => e = .returned (.int .i64 (strZ y d)) ∧ Below w.heap.size w w' := by
  have C1 := hide (fun W => squeezeBitsOk_any d W)
  have hR := Below.refl w.heap.size w
  by_cases hd : 1 ≤ d ∧ d ≤ 11
  · rw [decide_eq_true hd] at C1
    obtain ⟨k, rfl⟩ : ∃ k : Nat, d = (k : Int) := ⟨d.toNat, by omega⟩
    have C2 := hide (fun W => inBits_any y k (by omega) W)
    have hpe : ((2 ^ k : Nat) : Int) = (2 : Int) ^ k := by rw [Int.natCast_pow]; rfl
    by_cases h0 : 0 ≤ y ∧ y ≤ ((2 ^ k : Nat) : Int) - 1
    · rw [decide_eq_true h0] at C2
      obtain ⟨n, rfl⟩ : ∃ n : Nat, y = (n : Int) := ⟨y.toNat, by omega⟩
      have E := hide (show strZ (n : Int) (k : Int) = (str n k : Int) by unfold strZ; rw [if_pos (by rw [Int.toNat_natCast, ← hpe]; exact ⟨hd, h0⟩), Int.toNat_natCast, Int.toNat_natCast])
      obtain ⟨p, hp⟩ : ∃ p : Nat, p = 2 ^ k := ⟨_, rfl⟩
      rw [← hp] at h0 hpe
      have hpb : 1 ≤ p ∧ p ≤ 2048 := by rw [hp]; exact ⟨Nat.pow_pos (by omega), Nat.pow_le_pow_right (n := 2) (by omega) (show k ≤ 11 by omega)⟩
      obtain ⟨k1, hk1⟩ : ∃ k1 : Nat, k1 = k - 1 := ⟨_, rfl⟩
      obtain ⟨p1, hp1⟩ : ∃ p1 : Nat, p1 = 2 ^ k1 := ⟨_, rfl⟩
      have hp1b : 1 ≤ p1 ∧ p1 ≤ 2048 := by rw [hp1]; exact ⟨Nat.pow_pos (by omega), Nat.pow_le_pow_right (n := 2) (by omega) (show k1 ≤ 11 by omega)⟩
      have hw := wrap_two k1 p1 (by omega) hp1
      have v0 : IntKind.i64.wrap ((k : Int) - 1) = (k1 : Int) := by rw [IntKind.wrap_i64]; omega
      have v0' : (k : Int) - 1 = (k1 : Int) := by omega
      obtain ⟨q, hq⟩ : ∃ q : Nat, q = (3329 * n + p1) / p := ⟨_, rfl⟩
      have ER := hide (show str n k = q by unfold str; rw [hq, hp, hp1, hk1])
      have v1 : ((3329 : Int) * (n : Int) + (p1 : Int)) / 2 ^ k = (q : Int) := by
        rw [← hpe, hq]
        rw [show (3329 : Int) * (n : Int) + (p1 : Int) = ((3329 * n + p1 : Nat) : Int) by omega]
        exact (Int.natCast_ediv _ p).symm
      have hk0 : (0 : Int) ≤ (k : Int) := by omega
      have hk6 : (k : Int) ≤ 64 := by omega
      have hk10 : (0 : Int) ≤ (k1 : Int) := by omega
      have hk16 : (k1 : Int) ≤ 64 := by omega
      rw [unhide E, unhide ER]
      replace hp := hide hp; replace hp1 := hide hp1; replace hq := hide hq; replace hk1 := hide hk1; replace hpe := hide hpe
      go_enter Tryd.func43, Tryd.ntmps43
      go_wp2_with fail
      refine (unhide C1 _).mono ?_
      rintro e w2 ⟨rfl, hw2⟩
      have hw3 := hw2.symm
      subst hw3
      clear hw2
      go_wp2_with fail
      refine (unhide C2 _).mono ?_
      rintro e w2 ⟨rfl, hw2⟩
      have hw3 := hw2.symm
      subst hw3
      clear hw2
      go_wp2
      go_ret
      exact ⟨rfl, hR⟩
    · rw [decide_eq_false h0] at C2
      have E := hide (show strZ y (k : Int) = 0 by unfold strZ; rw [if_neg (fun h => h0 (by rw [hpe]; rw [Int.toNat_natCast] at h; exact h.2))])
      replace hpe := hide hpe
      go_enter Tryd.func43, Tryd.ntmps43
      go_wp2_with fail
      refine (unhide C1 _).mono ?_
      rintro e w2 ⟨rfl, hw2⟩
      have hw3 := hw2.symm
      subst hw3
      clear hw2
      go_wp2_with fail
      refine (unhide C2 _).mono ?_
      rintro e w2 ⟨rfl, hw2⟩
      have hw3 := hw2.symm
      subst hw3
      clear hw2
      go_wp2
      go_ret
      exact ⟨by rw [unhide E]; rfl, hR⟩
  · rw [decide_eq_false hd] at C1
    have E := hide (show strZ y d = 0 by unfold strZ; rw [if_neg (fun h => hd h.1)])
    go_enter Tryd.func43, Tryd.ntmps43
    go_wp2_with fail
    refine (unhide C1 _).mono ?_
    rintro e w2 ⟨rfl, hw2⟩
    have hw3 := hw2.symm
    subst hw3
    clear hw2
    go_wp2
    go_ret
    exact ⟨by rw [unhide E]; rfl, hR⟩
end Go.Proofs.YthjgmpfdjhegfasDoor

/- A secret handed over, by the project: texts of few bits a number, over the loaded program. -/
namespace Go.Proofs.YthjgmpfdjhegfasDoor
open Go.RowKit
/-- A row whose first k numbers are squeezed; the rest is 0. -/
def sqT (l : List Int) (d : Int) (k : Nat) : List Int := (List.range l.length).map fun i => if i < k then sqzZ (cAt l i) d else 0
theorem sqT_len (l : List Int) (d : Int) (k : Nat) : (sqT l d k).length = l.length := by unfold sqT; rw [List.length_map, List.length_range]
theorem sqT_get (l : List Int) (d : Int) (k i : Nat) (h : i < l.length) : (sqT l d k)[i]? = some (if i < k then sqzZ (cAt l i) d else 0) := by
  unfold sqT
  rw [List.getElem?_map, List.getElem?_range h]
  rfl
theorem sqT_zero (l : List Int) (d : Int) : sqT l d 0 = List.replicate l.length 0 := by
  apply List.ext_getElem?
  intro i
  by_cases h : i < l.length
  · rw [sqT_get l d 0 i h, if_neg (by omega), List.getElem?_replicate, if_pos h]
  · rw [List.getElem?_eq_none (by rw [sqT_len]; omega), List.getElem?_eq_none (by rw [List.length_replicate]; omega)]
theorem sqT_end (l : List Int) (d : Int) : sqT l d l.length = sqzL l d := by
  unfold sqzL
  apply List.ext_getElem?
  intro i
  by_cases h : i < l.length
  · rw [sqT_get l d _ i h, if_pos h, List.getElem?_map, List.getElem?_eq_getElem h, cAt_lt h]
    rfl
  · rw [List.getElem?_eq_none (by rw [sqT_len]; omega), List.getElem?_eq_none (by rw [List.length_map]; omega)]
theorem sqT_set (l : List Int) (d : Int) (k : Nat) (h : k < l.length) : (sqT l d k).set k (sqzZ (cAt l k) d) = sqT l d (k + 1) := by
  apply List.ext_getElem?
  intro i
  rw [List.getElem?_set]
  by_cases hi : i < l.length
  · rw [sqT_get l d (k + 1) i hi]
    by_cases e : k = i
    · subst e
      rw [if_pos rfl, if_pos (by rw [sqT_len]; exact h), if_pos (by omega)]
    · rw [if_neg e, sqT_get l d k i hi]
      by_cases h2 : i < k
      · rw [if_pos h2, if_pos (by omega)]
      · rw [if_neg h2, if_neg (by omega)]
  · rw [if_neg (by omega), List.getElem?_eq_none (by rw [sqT_len]; omega), List.getElem?_eq_none (by rw [sqT_len]; omega)]
set_option maxRecDepth 20000 in
set_option maxHeartbeats 800000 in
theorem roughPoly_any (s : ByteArray) (d : Int) (hs : s.size ≤ 1048576) (w : World) (hL : LaidB w) :
    Calls Tryd.prog 21 #[.string s, .int .i64 d] w fun e w' => (∃ v, e = .returned v ∧ OwnV w' w.heap.size 3 v ((strL s d).map iv)) ∧ Below w.heap.size w w' := by
  have CU := hide (implUnpack_any s d 256 hs w hL)
  have CS := hide (fun x W => implStretch_any x d W)
  have hul : (upL s d 256).length ≤ 1000000 := upL13 s d
  have EL := hide (show strL s d = strT (upL s d 256) d (upL s d 256).length by rw [strT_end]; rfl)
  generalize strL s d = L at *
  generalize upL s d 256 = l at *
  generalize upOk s d 256 = ok at *
  clear hL
  go_enter Tryd.func21, Tryd.ntmps21
  go_wp2_with fail
  refine (unhide CU).mono ?_
  rintro e w1 ⟨⟨v, rfl, ov⟩, hb1⟩
  obtain ⟨a, c, rfl⟩ := ov.shape
  rw [List.length_map] at ov ⊢
  replace ov : OwnV w1 w.heap.size 3 (.slice a l.length c) ((strT l d 0).map iv) := by rw [strT_zero]; exact ov
  obtain ⟨n, hn⟩ : ∃ n, l.length = n := ⟨_, rfl⟩
  rw [hn] at ov EL hul ⊢
  have O0 := hide ov
  clear ov CU
  replace hn := hide hn
  go_wp2
  go_loopw [17] (fun ti wr => ∃ k : Nat, k ≤ n ∧ ti = .int .i64 (k : Int) ∧ Hid (OwnV wr w.heap.size 3 (.slice a n c) ((strT l d k).map iv)) ∧ Below w.heap.size w wr) (fun ti _ => n - (intOf ti).toNat)
  case atStart => exact ⟨0, by omega, rfl, O0, hb1⟩
  case round =>
    clear O0 hb1
    obtain ⟨k, hk, rfl, HO, hB⟩ := hrel
    by_cases hlt : k < n
    · have hk' : (k : Int) < (n : Int) := by omega
      have hci : (0 : Int) ≤ (k : Int) := by omega
      have hkl : k < l.length := by rw [unhide hn]; exact hlt
      obtain ⟨g, rfl, hg1, hg2⟩ := (unhide HO).some13 (by omega)
      have cu := (unhide HO).cell (get_iv _ k (by rw [strT_len]; exact hkl))
      rw [strT_at l d k hkl] at cu
      have hst := strT_set l d k hkl
      have C := hide (fun W => unhide CS (cAt l k) W)
      obtain ⟨z, hz⟩ : ∃ z, z = strZ (cAt l k) d := ⟨_, rfl⟩
      rw [← hz] at C hst
      generalize cAt l k = x at cu C
      replace hz := hide hz; replace hst := hide hst
      clear CS
      have hsz := hB.size
      go_wp2_with fail
      refine (unhide C wr).mono ?_
      rintro e w2 ⟨rfl, hb2⟩
      have hO2 := (unhide HO).below hb2
      have hB2 := hB.trans (hb2.mono hsz)
      have cz := hO2.frozen k
      have cu2 := hO2.cell (get_iv _ k (by rw [strT_len]; exact hkl))
      have hO3 := hide (show OwnV (w2.setCell ⟨g, k, none⟩ (.int .i64 z)) w.heap.size 3 (.slice (some ⟨g, 0, none⟩) n c) ((strT l d (k + 1)).map iv) by
        have h := OwnV.set hO2 k (.int .i64 z)
        rw [set_iv, unhide hst] at h
        exact h)
      have hB3 := hide (hB2.setCell (p := ⟨g, k, none⟩) hg1 (.int .i64 z))
      clear HO hB hO2 hB2 hb2 cu C
      go_wp2
      exact ⟨⟨k + 1, by omega, by go_num, hide (unhide hO3), unhide hB3⟩, by simp [intOf]; omega⟩
    · have hk' : ¬ (k : Int) < (n : Int) := by omega
      have hke : k = n := by omega
      have hown : OwnV wr w.heap.size 3 (.slice a n c) (L.map iv) := by
        have h := unhide HO
        rw [show strT l d k = L by rw [hke]; exact (unhide EL).symm] at h
        exact h
      replace hown := hide hown
      replace hke := hide hke
      clear HO
      go_wp2
      go_ret
      exact ⟨⟨_, rfl, unhide hown⟩, hB⟩
set_option maxRecDepth 20000 in
set_option maxHeartbeats 800000 in
theorem roughText_any (l : List Int) (d : Int) (v : Value) (hl : l.length ≤ 1048576) (w : World) (hL : LaidB w) (r : RdV w v (l.map iv)) :
    Calls Tryd.prog 17 #[v, .int .i64 d] w fun e w' => e = .returned (.string (sqzB l d)) ∧ Below w.heap.size w w' := by
  have CS := hide (fun x W => implSqueeze_any x d W)
  have CP := hide (fun u W (hB : Below w.heap.size w W) (r : RdV W u ((sqzL l d).map iv)) => implPack_any (sqzL l d) d u (by unfold sqzL; rw [List.length_map]; exact hl) W (hL.below hB) r)
  obtain ⟨i0, hi, hz0, hz1, hz2⟩ := info_parts infoInt
  have EB := hide (show sqzB l d = pkB (sqzL l d) d from rfl)
  have EL := hide (show sqzL l d = sqT l d l.length from (sqT_end l d).symm)
  rw [unhide EB]
  generalize pkB (sqzL l d) d = B at *
  generalize pkOk (sqzL l d) d = ok at *
  generalize sqzL l d = L at *
  obtain ⟨av, cv, rfl, hc⟩ := r.open
  rw [List.length_map] at *
  obtain ⟨n, hn⟩ : ∃ n, l.length = n := ⟨_, rfl⟩
  rw [hn] at EL hl ⊢
  have DA := hide (show ∀ k, k < n → ∃ g o, av = some ⟨g, o, none⟩ ∧ g < w.heap.size ∧ w.cell? ⟨g, o + k, none⟩ = some (.int .i64 (cAt l k)) from fun k hk => by
    obtain ⟨g', o', he, h1, hd⟩ := hc k _ (get_iv l k (by omega))
    exact ⟨g', o', he, h1, hd⟩)
  clear r hc hL EB
  replace hn := hide hn
  go_enter Tryd.func17, Tryd.ntmps17
  go_wp2_with (at_make; refine wpList_make_full _ rfl _ _ 31 rfl w.heap.size 3 i0 (.int .i64 0) 1 Tryd.underlying31 hi hz0 hz1 _ _ _ _ n rfl rfl rfl rfl (by rw [hz2]; omega) (by unfold maxLen; omega) (Nat.le_refl _) ?_; intro w1 hown1 hgrow1)
  have hb0 : Below w.heap.size w w1 := (Below.refl w.heap.size w).grown hgrow1 (Nat.le_refl _) (fun k hk => by cases hk)
  have hr0 : OwnV w1 w.heap.size 3 (.slice (some ⟨w.heap.size, 0, none⟩) n n) ((sqT l d 0).map iv) := by
    rw [madeI] at hown1
    rw [sqT_zero, unhide hn]
    unfold OwnV
    simpa [iv] using hown1
  replace hr0 := hide hr0
  clear hown1 hgrow1
  go_wp2
  go_loopw [15] (fun ti wr => ∃ k : Nat, k ≤ n ∧ ti = .int .i64 (k : Int) ∧ Hid (OwnV wr w.heap.size 3 (.slice (some ⟨w.heap.size, 0, none⟩) n n) ((sqT l d k).map iv)) ∧ Below w.heap.size w wr) (fun ti _ => n - (intOf ti).toNat)
  case atStart => exact ⟨0, by omega, rfl, hr0, hb0⟩
  case round =>
    clear hr0 hb0
    obtain ⟨k, hk, rfl, HO, hB⟩ := hrel
    by_cases hlt : k < n
    · have hk' : (k : Int) < (n : Int) := by omega
      have hci : (0 : Int) ≤ (k : Int) := by omega
      have hkl : k < l.length := by rw [unhide hn]; exact hlt
      obtain ⟨g, o, rfl, hg, hcw⟩ := unhide DA k hlt
      have cu : wr.cell? ⟨g, o + k, none⟩ = some (.int .i64 (cAt l k)) := by rw [hB.cell hg]; exact hcw
      have hst := sqT_set l d k hkl
      have C := hide (fun W => unhide CS (cAt l k) W)
      obtain ⟨z, hz⟩ : ∃ z, z = sqzZ (cAt l k) d := ⟨_, rfl⟩
      rw [← hz] at C hst
      clear hcw
      generalize cAt l k = x at cu C
      replace hz := hide hz; replace hst := hide hst
      clear CS
      have hsz := hB.size
      go_wp2_with fail
      refine (unhide C wr).mono ?_
      rintro e w2 ⟨rfl, hb2⟩
      have hO2 := (unhide HO).below hb2
      have hB2 := hB.trans (hb2.mono hsz)
      have cz := hO2.frozen k
      have cu2 := hO2.cell (get_iv _ k (by rw [sqT_len]; exact hkl))
      have hO3 := hide (show OwnV (w2.setCell ⟨w.heap.size, k, none⟩ (.int .i64 z)) w.heap.size 3 (.slice (some ⟨w.heap.size, 0, none⟩) n n) ((sqT l d (k + 1)).map iv) by
        have h := OwnV.set hO2 k (.int .i64 z)
        rw [set_iv, unhide hst] at h
        exact h)
      have hB3 := hide (hB2.setCell (p := ⟨w.heap.size, k, none⟩) (Nat.le_refl _) (.int .i64 z))
      clear HO hB hO2 hB2 hb2 cu C
      go_wp2
      exact ⟨⟨k + 1, by omega, by go_num, hide (unhide hO3), unhide hB3⟩, by simp [intOf]; omega⟩
    · have hk' : ¬ (k : Int) < (n : Int) := by omega
      have hke : k = n := by omega
      have hown : OwnV wr w.heap.size 3 (.slice (some ⟨w.heap.size, 0, none⟩) n n) (L.map iv) := by
        have h := unhide HO
        rw [show sqT l d k = L by rw [hke]; exact (unhide EL).symm] at h
        exact h
      have hsz := hB.size
      have C := hide (unhide CP _ wr hB hown.rdv)
      replace hke := hide hke
      clear HO CP hown
      go_wp2_with fail
      refine (unhide C).mono ?_
      rintro e w2 ⟨rfl, hb2⟩
      have hT := hB.trans (hb2.mono hsz)
      clear C
      go_wp2
      go_ret
      exact ⟨rfl, hT⟩
end Go.Proofs.YthjgmpfdjhegfasDoor

/- Polynomials by the project: whether one is right, over the loaded program. -/
namespace Go.Proofs.YthjgmpfdjhegfasDoor
open Go.RowKit Go.Shelf
def wrongN (x : Int) : Bool := decide (x < 0) || decide (3329 ≤ x)
theorem wrongN_no (x : Int) : wrongN x = false ↔ 0 ≤ x ∧ x ≤ 3328 := by
  unfold wrongN
  rw [Bool.or_eq_false_iff, decide_eq_false_iff_not, decide_eq_false_iff_not]
  omega
theorem wrong_any (x : Int) (w : World) :
    Calls Tryd.prog 75 #[.int .i64 x] w fun e w' => e = .returned (.bool (wrongN x)) ∧ w' = w := by
  by_cases h1 : x < 0
  · have H := hide (show wrongN x = true by unfold wrongN; rw [Bool.or_eq_true_iff]; left; exact decide_eq_true h1)
    rw [unhide H]
    go_enter Tryd.func75, Tryd.ntmps75
    go_wp2
    go_ret
    exact ⟨rfl, rfl⟩
  · by_cases h2 : 3329 ≤ x
    · have H := hide (show wrongN x = true by unfold wrongN; rw [Bool.or_eq_true_iff]; right; exact decide_eq_true h2)
      rw [unhide H]
      go_enter Tryd.func75, Tryd.ntmps75
      go_wp2
      go_ret
      exact ⟨by simp, rfl⟩
    · have H := hide (show wrongN x = false by rw [wrongN_no]; omega)
      rw [unhide H]
      go_enter Tryd.func75, Tryd.ntmps75
      go_wp2
      go_ret
      exact ⟨by simp, rfl⟩
set_option maxRecDepth 20000 in
set_option maxHeartbeats 400000 in
theorem indexWrong_any (a : List Int) (v : Value) (w : World) (hl : a.length = 256) (hr : RdV w v (a.map iv)) :
    Calls Tryd.prog 83 #[v, .func (.func 75) #[] #[]] w fun e w' =>
      (∃ z : Int, e = .returned (.int .i64 z) ∧ (z < 0 ↔ okPl a = true)) ∧ ∃ q, w' = w.drewN q := by
  have eg : ∀ args w, (callFunc 75 args).run Tryd.prog w = .ok (.enter 75 args) w := enters_of Tryd.func75 (by kernel_rfl) rfl
  obtain ⟨s, c, rfl, hc⟩ := hr.open
  rw [List.length_map, hl]
  clear hr
  replace hl := hide hl
  go_enter Tryd.func83, Tryd.ntmps83
  go_wp2
  go_loopw [5, 8] (fun _ ti wr => ∃ k q : Nat, k ≤ 256 ∧ ti = .int .i64 (k : Int) ∧ wr = w.drewN q ∧ Hid (∀ j, j < k → 0 ≤ cAt a j ∧ cAt a j ≤ 3328)) (fun _ ti _ => 256 - (intOf ti).toNat)
  case atStart => exact ⟨0, 0, by omega, rfl, rfl, hide (fun j hj => absurd hj (by omega))⟩
  case round =>
    obtain ⟨k, q, hk, rfl, rfl, HK⟩ := hrel
    by_cases hlt : k < 256
    · have hk' : (k : Int) < 256 := by omega
      have hci : (0 : Int) ≤ (k : Int) := by omega
      have hkl : k < a.length := by rw [unhide hl]; exact hlt
      obtain ⟨g, o, rfl, hg, d1⟩ := hc k _ (get_iv a k hkl)
      have CI := hide (fun W => wrong_any (cAt a k) W)
      cases hx : wrongN (cAt a k) with
      | true =>
        rw [hx] at CI
        have E := hide (show okPl a = false from okPl_no k hkl (fun h => by rw [(wrongN_no _).2 h] at hx; cases hx))
        generalize cAt a k = told at d1 CI
        clear hc HK hx
        go_wp2_with (go_at_fn 75; refine (unhide CI _).mono ?_; rintro e w1 ⟨rfl, rfl⟩)
        go_ret
        exact ⟨⟨_, rfl, by rw [unhide E]; simp⟩, _, rfl⟩
      | false =>
        rw [hx] at CI
        have HK2 := hide (show ∀ j, j < k + 1 → 0 ≤ cAt a j ∧ cAt a j ≤ 3328 from fun j hj => by
          by_cases e : j = k
          · rw [e]; exact (wrongN_no _).1 hx
          · exact unhide HK j (by omega))
        generalize cAt a k = told at d1 CI
        clear hc HK hx
        go_wp2_with (go_at_fn 75; refine (unhide CI _).mono ?_; rintro e w1 ⟨rfl, rfl⟩)
        exact ⟨⟨k + 1, _, by omega, by go_num, by first | rfl | rw [World.drewN_drewN], HK2⟩, by simp [intOf]; omega⟩
    · have hk' : ¬ (k : Int) < 256 := by omega
      have hke : k = 256 := by omega
      have E := hide (show okPl a = true from okPl_of (unhide hl) (fun i hi => unhide HK i (by omega)))
      replace hke := hide hke
      clear hc HK
      go_wp2
      go_ret
      exact ⟨⟨_, rfl, by rw [unhide E]; simp⟩, _, rfl⟩
theorem anyWrong_any (a : List Int) (v : Value) (w : World) (hl : a.length = 256) (hr : RdV w v (a.map iv)) :
    Calls Tryd.prog 76 #[v, .func (.func 75) #[] #[]] w fun e w' =>
      e = .returned (.bool (!okPl a)) ∧ ∃ q, w' = w.drewN q := by
  have CI := hide (indexWrong_any a v w hl hr)
  clear hr
  generalize okPl a = ok at *
  go_enter Tryd.func76, Tryd.ntmps76
  go_wp2_with fail
  refine (unhide CI).mono ?_
  rintro e w1 ⟨⟨z, rfl, hz⟩, q, rfl⟩
  clear CI
  cases ok with
  | true =>
    have h1 : z < 0 := hz.2 rfl
    have h2 : ¬ 0 ≤ z := by omega
    clear hz
    go_wp2
    go_ret
    exact ⟨by simp; omega, q, rfl⟩
  | false =>
    have h1 : ¬ z < 0 := fun h => by cases hz.1 h
    have h2 : 0 ≤ z := by omega
    clear hz
    go_wp2
    go_ret
    exact ⟨by simp, q, rfl⟩
theorem ok_any (a : List Int) (v : Value) (w : World) (hr : RdV w v (a.map iv)) :
    Calls Tryd.prog 62 #[v] w fun e w' => e = .returned (.bool (okPl a)) ∧ ∃ q, w' = w.drewN q := by
  by_cases hl : a.length = 256
  · have CI := hide (anyWrong_any a v w hl hr)
    obtain ⟨s, c, rfl, hc⟩ := hr.open
    rw [List.length_map, hl] at CI ⊢
    clear hr hc
    generalize okPl a = b at *
    go_enter Tryd.func62, Tryd.ntmps62
    go_wp2_with fail
    refine (unhide CI).mono ?_
    rintro e w1 ⟨rfl, q, rfl⟩
    go_wp2
    go_ret
    exact ⟨by simp, q, rfl⟩
  · have E := hide (okPl_len hl)
    rw [unhide E]
    obtain ⟨s, c, rfl, hc⟩ := hr.open
    rw [List.length_map]
    have hl2 : ¬ (a.length : Int) = 256 := by omega
    clear hr hc
    go_enter Tryd.func62, Tryd.ntmps62
    go_wp2
    go_ret
    exact ⟨by simp, 0, rfl⟩
theorem implPolyOk_q (a : List Int) (ua : Value) (W : World) (r : RdV W ua (a.map iv)) :
    Calls Tryd.prog 40 #[ua] W fun x w' => x = .returned (.bool (okPl a)) ∧ ∃ q, w' = W.drewN q := by
  have CI := hide (ok_any a ua W r)
  obtain ⟨s, c, rfl⟩ := r.shape
  rw [List.length_map] at CI ⊢
  clear r
  generalize okPl a = b at *
  go_enter Tryd.func40, Tryd.ntmps40
  go_wp2_with fail
  refine (unhide CI).mono ?_
  rintro e w1 ⟨rfl, q, rfl⟩
  go_wp2
  go_ret
  exact ⟨rfl, q, rfl⟩
theorem implPolyOk_any (a : List Int) (ua : Value) (_ : a.length ≤ 1048576) (W : World) (r : RdV W ua (a.map iv)) :
    Calls Tryd.prog 40 #[ua] W fun x w' => x = .returned (.bool (okPl a)) ∧ Below W.heap.size W w' :=
  (implPolyOk_q a ua W r).mono fun _ _ ⟨h1, q, h2⟩ => ⟨h1, by rw [h2]; exact bDN (Below.refl _ _) q⟩
end Go.Proofs.YthjgmpfdjhegfasDoor

/- Packing by the project: polynomials, over the loaded program. -/
namespace Go.Proofs.YthjgmpfdjhegfasDoor
open Go.RowKit
set_option maxRecDepth 20000 in
theorem implPolyFrom_any (s : ByteArray) (hs : s.size ≤ 1048576) (w : World) (hL : LaidB w) :
    Calls Tryd.prog 65 #[.string s] w fun e w' => (∃ v, e = .returned (.tuple #[v, .bool (pfOk s)]) ∧ OwnV w' w.heap.size 3 v ((pfL s).map iv)) ∧ Below w.heap.size w w' := by
  have C1 := hide (implUnpack_any s 12 256 hs w hL)
  have C2 := hide (fun (W : World) (v : Value) (r : RdV W v ((upL s 12 256).map iv)) => implPolyOk_q (upL s 12 256) v W r)
  have EO : Hid (pfOk s = (upOk s 12 256 && okPl (upL s 12 256))) := hide rfl
  have EL : Hid (pfL s = if pfOk s = true then upL s 12 256 else []) := hide rfl
  generalize upL s 12 256 = ls at *
  cases ho : upOk s 12 256 with
  | false =>
    rw [ho] at C1 EO
    have E1 := hide (show pfOk s = false by rw [unhide EO]; rfl)
    have E2 := hide (show pfL s = [] by rw [unhide EL, unhide E1]; rfl)
    replace ho := hide ho
    go_enter Tryd.func65, Tryd.ntmps65
    go_wp2_with fail
    refine (unhide C1).mono ?_
    rintro e w2 ⟨⟨v, rfl, hO⟩, hB⟩
    replace hO := hide hO
    go_wp2
    refine bodyPost_ret (v := .tuple #[.slice none 0 0, .bool false]) (by simp [results, Tryd.results65, go_sem]) rfl ⟨⟨_, by rw [unhide E1], by rw [unhide E2]; exact OwnV.nil _ _ _⟩, hB⟩
  | true =>
    rw [ho] at C1 EO
    cases hp : okPl ls with
    | false =>
      rw [hp] at C2 EO
      have E1 := hide (show pfOk s = false by rw [unhide EO]; rfl)
      have E2 := hide (show pfL s = [] by rw [unhide EL, unhide E1]; rfl)
      replace ho := hide ho; replace hp := hide hp
      go_enter Tryd.func65, Tryd.ntmps65
      go_wp2_with fail
      refine (unhide C1).mono ?_
      rintro e w2 ⟨⟨v, rfl, hO⟩, hB⟩
      have hr := hide hO.rdv
      replace hO := hide hO
      go_wp2_with fail
      refine (unhide C2 _ _ (unhide hr)).mono ?_
      rintro e w3 ⟨rfl, q, rfl⟩
      have hB2 := bDN hB q
      go_wp2
      refine bodyPost_ret (v := .tuple #[.slice none 0 0, .bool false]) (by simp [results, Tryd.results65, go_sem]) rfl ⟨⟨_, by rw [unhide E1], by rw [unhide E2]; exact OwnV.nil _ _ _⟩, hB2⟩
    | true =>
      rw [hp] at C2 EO
      have E1 := hide (show pfOk s = true by rw [unhide EO]; rfl)
      have E2 := hide (show pfL s = ls by rw [unhide EL, unhide E1]; rfl)
      replace ho := hide ho; replace hp := hide hp
      go_enter Tryd.func65, Tryd.ntmps65
      go_wp2_with fail
      refine (unhide C1).mono ?_
      rintro e w2 ⟨⟨v, rfl, hO⟩, hB⟩
      have hr := hide hO.rdv
      replace hO := hide hO
      go_wp2_with fail
      refine (unhide C2 _ _ (unhide hr)).mono ?_
      rintro e w3 ⟨rfl, q, rfl⟩
      have hB2 := bDN hB q
      have hO2 : Hid (OwnV (w2.drewN q) w.heap.size 3 v (ls.map iv)) := hide (unhide hO)
      go_wp2
      refine bodyPost_ret (v := .tuple #[v, .bool true]) (by simp [results, Tryd.results65, go_sem]) rfl ⟨⟨_, by rw [unhide E1], by rw [unhide E2]; exact unhide hO2⟩, hB2⟩
end Go.Proofs.YthjgmpfdjhegfasDoor

/- Laws of no program: a block that holds a variable of several cells. -/
namespace Go.Proofs.YthjgmpfdjhegfasDoor
open Go.RowKit
/-- Block g is a variable that holds these cells. -/
def CB (w : World) (g : Nat) (T : TypeId) (cs : Array Value) : Prop := w.heap[g]? = some (.cells cs T (0, 0))
theorem CB.lt {w : World} {g : Nat} {T : TypeId} {cs : Array Value} (h : CB w g T cs) : g < w.heap.size := by
  rcases Nat.lt_or_ge g w.heap.size with h1 | h1
  · exact h1
  · unfold CB at h
    rw [Array.getElem?_eq_none h1] at h; cases h
theorem CB.below {w w' : World} {g B : Nat} {T : TypeId} {cs : Array Value} (h : CB w g T cs) (hb : Below B w w') (hg : g < B) : CB w' g T cs := by
  unfold CB at h ⊢
  rw [hb.block g hg]; exact h
theorem CB.step {w w' : World} {g : Nat} {T : TypeId} {cs : Array Value} (h : CB w g T cs) (hb : Below w.heap.size w w') : CB w' g T cs := h.below hb h.lt
theorem CB.grown {w w' : World} {g : Nat} {r : Option Nat} {T : TypeId} {cs : Array Value} (hA : CB w g T cs) (hG : w.grownBy w' r) (hne : r ≠ some g) : CB w' g T cs := by
  have h := hG.block g hA.lt (fun e => hne e.symm)
  unfold CB at hA ⊢
  rw [h]
  exact hA
theorem CB.cell {w : World} {g : Nat} {T : TypeId} {cs : Array Value} (h : CB w g T cs) (k : Nat) {v : Value} (hv : cs[k]? = some v) : w.cell? ⟨g, k, none⟩ = some v := by
  rw [cell_of_row w g k _ T (0, 0) h]
  exact hv
theorem CB.frozen {w : World} {g : Nat} {T : TypeId} {cs : Array Value} (h : CB w g T cs) (k : Nat) : w.frozen? ⟨g, k, none⟩ = false := frozen_of_row w g k _ T h
theorem CB.set {w : World} {g : Nat} {T : TypeId} {cs : Array Value} (h : CB w g T cs) (k : Nat) (v : Value) : CB (w.setCell ⟨g, k, none⟩ v) g T (cs.setIfInBounds k v) := by
  unfold CB
  rw [heap_setCell_same w g k _ T v h]
theorem CB.set_other {w : World} {g h k : Nat} {T : TypeId} {cs : Array Value} (hA : CB w g T cs) (hne : g ≠ h) (v : Value) : CB (w.setCell ⟨h, k, none⟩ v) g T cs := by
  unfold CB at hA ⊢
  rw [Below.heap_setCell _ _ _ g hne]
  exact hA
theorem CB.alloc {w : World} {g : Nat} {T : TypeId} {cs : Array Value} (h : CB w g T cs) (o : Obj) : CB (w.alloc o) g T cs := by
  have hl := h.lt
  unfold CB at h ⊢
  rw [heap_alloc_old w o hl]
  exact h
theorem CB.new (w : World) (cs : Array Value) (T : TypeId) : CB (w.alloc (.cells cs T)) w.heap.size T cs := by
  unfold CB
  exact heap_alloc_new w _
theorem CB.off {w : World} {g base : Nat} {T e : TypeId} {cs : Array Value} {v : Value} {xs : List Value} (hA : CB w g T cs) (ho : OwnV w base e v xs) (hT : T ≠ e) : v.ownBlock ≠ some g := by
  intro hv
  rcases ho.2 with ⟨h1, _⟩ | ⟨g', cap, cur, h1, _, h3, _⟩
  · rw [h1] at hv; cases hv
  · rw [h1] at hv
    have hv' : (some g' : Option Nat) = some g := hv
    have hg : g' = g := Option.some.inj hv'
    subst hg
    unfold CB at hA
    rw [hA] at h3
    have h4 := Option.some.inj h3
    injection h4 with h5 h6
    exact hT h6
theorem tS0 (w : World) (g o : Nat) (u : Value) : w.grownBy (w.setCell ⟨g, o, none⟩ u) (some g) := ⟨rfl, rfl, rfl, by simp, fun k _ hk => RowKit.Below.heap_setCell _ _ _ _ (fun e => hk (by rw [e]))⟩
theorem OwnV.setO {w : World} {base : Nat} {e : TypeId} {v : Value} {xs : List Value} (h : OwnV w base e v xs) (g k : Nat) (u : Value) (hne : v.ownBlock ≠ some g) : OwnV (w.setCell ⟨g, k, none⟩ u) base e v xs := h.grown (tS0 w g k u) fun j hj e => hne (by rw [hj, e])
theorem results_cb {P : Program} {fn : Func} {p : Tmp} {ty : TypeId} (h : fn.results = #[.cell p ty]) (tmps : Array Value) (w : World) (g : Nat) (T : TypeId) (cs : Array Value) (fs : Array Field)
    (hp : tmps.getD p undef = .pointer (some ⟨g, 0, none⟩)) (hA : CB w g T cs) (hu : P.underlying ty = some (.struct fs)) (hi : (P.info? ty).map (·.size) = some cs.size) :
    (results fn tmps).run P w = .ok (.agg cs) w :=
  results_cell_row h tmps w g T _ (0, 0) _ hp hA hu rfl hi
theorem results_cb_tmp {P : Program} {fn : Func} {p u : Tmp} {ty : TypeId} (h : fn.results = #[.cell p ty, .tmp u]) (tmps : Array Value) (w : World) (g : Nat) (T : TypeId) (cs : Array Value) (fs : Array Field)
    (hp : tmps.getD p undef = .pointer (some ⟨g, 0, none⟩)) (hA : CB w g T cs) (hu : P.underlying ty = some (.struct fs)) (hi : (P.info? ty).map (·.size) = some cs.size) :
    (results fn tmps).run P w = .ok (.tuple #[.agg cs, tmps.getD u undef]) w := by
  rw [results_cell_tmp h, hp]
  simp [asAddr, Result.andThen, run_loadVar_row w g T ty cs (0, 0) (.struct fs) hA hu rfl hi]
theorem one_cb (w : World) (c1 : Array Value) (T1 : TypeId) : ∃ W, w.alloc (.cells c1 T1) = W ∧ CB W w.heap.size T1 c1 ∧ Below w.heap.size w W ∧ w.heap.size < W.heap.size := by
  refine ⟨_, rfl, CB.new w c1 T1, (Below.refl _ w).alloc (Nat.le_refl _) _, by simp⟩
theorem two_cb (w : World) (c1 c2 : Array Value) (T1 T2 : TypeId) : ∃ W, (w.alloc (.cells c1 T1)).alloc (.cells c2 T2) = W ∧ CB W w.heap.size T1 c1 ∧ CB W (w.heap.size + 1) T2 c2 ∧ Below w.heap.size w W ∧ w.heap.size + 1 < W.heap.size := by
  obtain ⟨W, hW, hA, hb, hlt⟩ := one_cb w c1 T1
  rw [hW]
  have hs : W.heap.size = w.heap.size + 1 := by rw [← hW]; simp
  refine ⟨_, rfl, hA.alloc _, ?_, hb.alloc (by omega) _, by simp; omega⟩
  have h := CB.new W c2 T2
  rw [hs] at h
  exact h
theorem three_cb (w : World) (c1 c2 c3 : Array Value) (T1 T2 T3 : TypeId) : ∃ W, ((w.alloc (.cells c1 T1)).alloc (.cells c2 T2)).alloc (.cells c3 T3) = W ∧ CB W w.heap.size T1 c1 ∧ CB W (w.heap.size + 1) T2 c2 ∧ CB W (w.heap.size + 1 + 1) T3 c3 ∧ Below w.heap.size w W ∧ w.heap.size + 1 + 1 < W.heap.size := by
  obtain ⟨W, hW, hA, hA2, hb, hlt⟩ := two_cb w c1 c2 T1 T2
  rw [hW]
  have hs : W.heap.size = w.heap.size + 1 + 1 := by rw [← hW]; simp
  refine ⟨_, rfl, hA.alloc _, hA2.alloc _, ?_, hb.alloc (by omega) _, by simp; omega⟩
  have h := CB.new W c3 T3
  rw [hs] at h
  exact h
end Go.Proofs.YthjgmpfdjhegfasDoor

/- A secret handed over, by the project: rows of polynomials out of texts, over the loaded program. -/
namespace Go.Proofs.YthjgmpfdjhegfasDoor
open Go.RowKit
theorem results_arr_tmp {P : Program} {fn : Func} {p u : Tmp} {ty : TypeId} (h : fn.results = #[.cell p ty, .tmp u]) (tmps : Array Value) (w : World) (g : Nat) (T : TypeId) (cs : Array Value) (n : Nat) (e : TypeId)
    (hp : tmps.getD p undef = .pointer (some ⟨g, 0, none⟩)) (hA : CB w g T cs) (hu : P.underlying ty = some (.array n e)) (hi : (P.info? ty).map (·.size) = some cs.size) :
    (results fn tmps).run P w = .ok (.tuple #[.agg cs, tmps.getD u undef]) w := by
  rw [results_cell_tmp h, hp]
  simp [asAddr, Result.andThen, run_loadVar_row w g T ty cs (0, 0) (.array n e) hA hu rfl hi]
theorem results_arr1 {P : Program} {fn : Func} {p : Tmp} {ty : TypeId} (h : fn.results = #[.cell p ty]) (tmps : Array Value) (w : World) (g : Nat) (T : TypeId) (cs : Array Value) (n : Nat) (e : TypeId)
    (hp : tmps.getD p undef = .pointer (some ⟨g, 0, none⟩)) (hA : CB w g T cs) (hu : P.underlying ty = some (.array n e)) (hi : (P.info? ty).map (·.size) = some cs.size) :
    (results fn tmps).run P w = .ok (.agg cs) w :=
  results_cell_row h tmps w g T _ (0, 0) _ hp hA hu rfl hi
/-- Two rows of numbers of the call's own. -/
def Own2 (w : World) (base : Nat) (v0 v1 : Value) (A : Nat → List Int) : Prop := OwnV w base 3 v0 ((A 0).map iv) ∧ OwnV w base 3 v1 ((A 1).map iv)
theorem Own2.below {w w' : World} {base : Nat} {v0 v1 : Value} {A : Nat → List Int} (h : Own2 w base v0 v1 A) (hb : Below w.heap.size w w') : Own2 w' base v0 v1 A := ⟨h.1.below hb, h.2.below hb⟩
theorem Own2.low {w : World} {base base' : Nat} {v0 v1 : Value} {A : Nat → List Int} (h : Own2 w base v0 v1 A) (hb : base' ≤ base) : Own2 w base' v0 v1 A := ⟨h.1.low hb, h.2.low hb⟩
def rowsOf (s : ByteArray) (i : Nat) : List Int := pfL (pieceB s 384 i)
set_option maxRecDepth 20000 in
set_option maxHeartbeats 800000 in
theorem rowIn_any (s : ByteArray) (h768 : 768 ≤ s.size) (hs : s.size ≤ 1048576) (w : World) (hL : LaidB w) :
    Calls Tryd.prog 45 #[.string s] w fun e w' => (∃ v0 v1, e = .returned (.tuple #[.agg #[v0, v1], .bool (plsOk s)]) ∧ (plsOk s = true → Own2 w' w.heap.size v0 v1 (rowsOf s)) ∧ (plsOk s = false → v0 = .slice none 0 0 ∧ v1 = .slice none 0 0)) ∧ Below w.heap.size w w' := by
  have CF := hide (fun (k : Nat) (hk : k < 2) W (hB : Below w.heap.size w W) => implPolyFrom_any (pieceB s 384 k) (by unfold pieceB; rw [ByteArray.size_extract]; omega) W (hL.below hB))
  have EP := hide (show plsOk s = (pfOk (pieceB s 384 0) && pfOk (pieceB s 384 1)) from rfl)
  have HSl := hide (fun (k : Nat) (hk : k < 2) W => cut13 s (k * 384) ((k + 1) * 384) W (by omega) (by omega))
  have ER := hide (show ∀ i, rowsOf s i = pfL (pieceB s 384 i) from fun i => rfl)
  generalize rowsOf s = R at *
  obtain ⟨P, hP⟩ : ∃ P : Nat → ByteArray, P = pieceB s 384 := ⟨_, rfl⟩
  have HSl2 := hide (show ∀ k, k < 2 → ∀ W, (Instr.slice 9 (.string s) (some (.int .i64 ((k * 384 : Nat) : Int))) (some (.int .i64 (((k + 1) * 384 : Nat) : Int))) none).run Tryd.prog W = .ok (.string (P k)) W from fun k hk W => by rw [hP]; exact unhide HSl k hk W)
  rw [← hP] at EP CF ER
  generalize plsOk s = ok at *
  clear HSl hP hL
  obtain ⟨g1, hg1⟩ : ∃ g, g = w.heap.size + 1 := ⟨_, rfl⟩
  go_enter Tryd.func45, Tryd.ntmps45
  go_wp2
  obtain ⟨W, hW, hA, hA2, hb, hlt⟩ := two_cb w #[.slice none 0 0, .slice none 0 0] #[.slice none 0 0, .slice none 0 0] 33 33
  rw [hW]
  rw [← hg1] at hA2 hlt
  have hg0 : w.heap.size < g1 := by omega
  rw [show w.heap.size + 1 = g1 from hg1.symm]
  replace hg1 := hide hg1
  clear hW
  go_loopw [8] (fun ti wr => ∃ (k : Nat) (c0 c1 : Value), k ≤ 2 ∧ ti = .int .i64 (k : Int) ∧ Hid (CB wr g1 33 #[c0, c1]) ∧ Hid (CB wr w.heap.size 33 #[.slice none 0 0, .slice none 0 0]) ∧ Hid (0 < k → OwnV wr w.heap.size 3 c0 ((R 0).map iv) ∧ pfOk (P 0) = true) ∧ Hid (1 < k → OwnV wr w.heap.size 3 c1 ((R 1).map iv) ∧ pfOk (P 1) = true) ∧ Below w.heap.size w wr) (fun ti _ => 2 - (intOf ti).toNat)
  case atStart => exact ⟨0, _, _, by omega, rfl, hide hA2, hide hA, hide (fun h => absurd h (by omega)), hide (fun h => absurd h (by omega)), hb⟩
  case round =>
    clear hA hA2 hb
    obtain ⟨k, c0, c1, hk, rfl, HA, HR, H0, H1, hB⟩ := hrel
    have hsz := hB.size
    by_cases hlt2 : k < 2
    · have hk' : (k : Int) < 2 := by omega
      have hci : (0 : Int) ≤ (k : Int) := by omega
      obtain ⟨m, hm⟩ : ∃ m, m = k * 384 := ⟨_, rfl⟩
      obtain ⟨m2, hm2⟩ : ∃ m, m = (k + 1) * 384 := ⟨_, rfl⟩
      have t1 : IntKind.i64.wrap ((k : Int) * 384) = (m : Int) := by rw [IntKind.wrap_i64]; omega
      obtain ⟨k1, hk1⟩ : ∃ m, m = k + 1 := ⟨_, rfl⟩
      have t2 : IntKind.i64.wrap ((k : Int) + 1) = (k1 : Int) := by rw [IntKind.wrap_i64]; omega
      have t3 : IntKind.i64.wrap ((k1 : Int) * 384) = (m2 : Int) := by rw [IntKind.wrap_i64]; omega
      have hsl := unhide HSl2 k hlt2
      rw [← hm, ← hm2] at hsl
      have C := hide (unhide CF k hlt2 wr hB)
      obtain ⟨b, hbk⟩ : ∃ b, b = pfOk (P k) := ⟨_, rfl⟩
      rw [← hbk, ← unhide ER k] at C
      obtain ⟨p, hp⟩ : ∃ p, p = P k := ⟨_, rfl⟩
      rw [← hp] at hsl C
      obtain ⟨pl, hpl⟩ : ∃ l, l = R k := ⟨_, rfl⟩
      rw [← hpl] at C
      replace hm := hide hm; replace hm2 := hide hm2; replace hk1 := hide hk1; replace hp := hide hp; replace hpl := hide hpl
      clear CF HSl2
      go_wp2_with fail
      refine (unhide C).mono ?_
      rintro e w1 ⟨⟨v, rfl, ov⟩, hb1⟩
      have hB1 := hB.trans (hb1.mono hsz)
      have ov1 := hide (ov.low hsz)
      have hA1 := (unhide HA).step hb1
      have hR1 := (unhide HR).step hb1
      have h01 := hide (show 0 < k → OwnV w1 w.heap.size 3 c0 ((R 0).map iv) ∧ pfOk (P 0) = true from fun h => ⟨(unhide H0 h).1.below hb1, (unhide H0 h).2⟩)
      have hsz1 := hB1.size
      clear ov hb1 HA HR hB C
      cases b with
      | false =>
        have E := hide (show ok = false by
          rw [unhide EP]
          have h2 : k = 0 ∨ k = 1 := by omega
          rcases h2 with rfl | rfl
          · rw [← hbk]; rfl
          · rw [← hbk, Bool.and_false])
        have r0 := hR1.cell 0 rfl
        have r1 := hR1.cell 1 rfl
        have z0 := hR1.frozen 0
        have z1 := hR1.frozen 1
        have hR2 := hide ((hR1.set 0 (.slice none 0 0)).set 1 (.slice none 0 0))
        have hB2 := hide ((hB1.setCell (p := ⟨w.heap.size, 0, none⟩) (Nat.le_refl _) (.slice none 0 0)).setCell (p := ⟨w.heap.size, 1, none⟩) (Nat.le_refl _) (.slice none 0 0))
        replace hbk := hide hbk
        clear hsl hA1 hR1 ov1 h01 H0 H1 hB1
        go_wp2
        exact bodyPost_ret (results_arr_tmp (by exact Tryd.results45) _ _ _ _ _ _ _ rfl (unhide hR2) Tryd.underlying33 (by kernel_rfl)) rfl ⟨⟨_, _, by rw [unhide E]; rfl, fun h => (by rw [unhide E] at h; cases h), fun _ => ⟨rfl, rfl⟩⟩, unhide hB2⟩
      | true =>
        have hcell : ∃ c, w1.cell? ⟨g1, k, none⟩ = some c := by
          have h2 : k = 0 ∨ k = 1 := by omega
          rcases h2 with rfl | rfl
          · exact ⟨_, hA1.cell 0 rfl⟩
          · exact ⟨_, hA1.cell 1 rfl⟩
        obtain ⟨c, hc⟩ := hcell
        have hz := hA1.frozen k
        obtain ⟨av, cv, rfl⟩ := (unhide ov1).shape
        rw [List.length_map] at ov1 ⊢
        obtain ⟨V, hV⟩ : ∃ V, V = Value.slice av pl.length cv := ⟨_, rfl⟩
        have hne : ∀ u xs, OwnV w1 w.heap.size 3 u xs → u.ownBlock ≠ some g1 := fun u xs h => hA1.off h (by decide)
        have hA3 := hide (show ∃ d0 d1, CB (w1.setCell ⟨g1, k, none⟩ (.slice av pl.length cv)) g1 33 #[d0, d1] ∧ (0 < k + 1 → OwnV (w1.setCell ⟨g1, k, none⟩ (.slice av pl.length cv)) w.heap.size 3 d0 ((R 0).map iv) ∧ pfOk (P 0) = true) ∧ (1 < k + 1 → OwnV (w1.setCell ⟨g1, k, none⟩ (.slice av pl.length cv)) w.heap.size 3 d1 ((R 1).map iv) ∧ pfOk (P 1) = true) from by
          have hown := (unhide ov1).setO g1 k (.slice av pl.length cv) (hne _ _ (unhide ov1))
          have hmap : (R k).map iv = pl.map iv := by rw [unhide hpl]
          have h3 := hA1.set k (.slice av pl.length cv)
          have h2 : k = 0 ∨ k = 1 := by omega
          rcases h2 with rfl | rfl
          · exact ⟨_, _, h3, fun _ => ⟨(by rw [hmap]; exact hown), hbk.symm⟩, fun h => absurd h (by omega)⟩
          · exact ⟨_, _, h3, fun _ => ⟨(unhide h01 (by omega)).1.setO g1 1 _ (hne _ _ (unhide h01 (by omega)).1), (unhide h01 (by omega)).2⟩, fun _ => ⟨(by rw [hmap]; exact hown), hbk.symm⟩⟩)
        have hR3 := hide (hR1.set_other (Nat.ne_of_lt hg0) (k := k) (.slice av pl.length cv))
        have hB3 := hide (hB1.setCell (p := ⟨g1, k, none⟩) (Nat.le_of_lt hg0) (.slice av pl.length cv))
        replace hbk := hide hbk
        clear hsl hA1 hR1 hne h01 H0 H1 hB1 ov1
        go_wp2
        obtain ⟨d0, d1, q1, q2, q3⟩ := unhide hA3
        exact ⟨⟨k + 1, d0, d1, by omega, by first | go_num | (rw [← unhide hk1]), hide q1, hide (unhide hR3), hide q2, hide q3, unhide hB3⟩, by have := unhide hk1; simp [intOf]; omega⟩
    · have hk' : ¬ (k : Int) < 2 := by omega
      have hke : k = 2 := by omega
      obtain ⟨o0, p0⟩ := unhide H0 (by omega)
      obtain ⟨o1, p1⟩ := unhide H1 (by omega)
      have E := hide (show ok = true by rw [unhide EP, p0, p1]; rfl)
      obtain ⟨a0, n0, q0, rfl⟩ : ∃ a n q, c0 = .slice a n q := by obtain ⟨a, q, h⟩ := o0.shape; exact ⟨a, _, q, h⟩
      obtain ⟨a1, n1, q1, rfl⟩ : ∃ a n q, c1 = .slice a n q := by obtain ⟨a, q, h⟩ := o1.shape; exact ⟨a, _, q, h⟩
      have hR1 := unhide HR
      have hA1 := unhide HA
      have r0 := hR1.cell 0 rfl
      have r1 := hR1.cell 1 rfl
      have z0 := hR1.frozen 0
      have z1 := hR1.frozen 1
      have ac0 := hA1.cell 0 rfl
      have ac1 := hA1.cell 1 rfl
      have hR2 := hide ((hR1.set 0 (.slice a0 n0 q0)).set 1 (.slice a1 n1 q1))
      have hB2 := hide ((hB.setCell (p := ⟨w.heap.size, 0, none⟩) (Nat.le_refl _) (.slice a0 n0 q0)).setCell (p := ⟨w.heap.size, 1, none⟩) (Nat.le_refl _) (.slice a1 n1 q1))
      have hO2 := hide (show Own2 ((wr.setCell ⟨w.heap.size, 0, none⟩ (.slice a0 n0 q0)).setCell ⟨w.heap.size, 1, none⟩ (.slice a1 n1 q1)) w.heap.size (.slice a0 n0 q0) (.slice a1 n1 q1) R from
        ⟨(o0.setO _ _ _ (hR1.off o0 (by decide))).setO _ _ _ (hR1.off o0 (by decide)), (o1.setO _ _ _ (hR1.off o1 (by decide))).setO _ _ _ (hR1.off o1 (by decide))⟩)
      replace hke := hide hke
      clear HA HR H0 H1 CF HSl2 hR1 hA1 hB o0 o1
      go_wp2
      exact bodyPost_ret (results_arr_tmp (by exact Tryd.results45) _ _ _ _ _ _ _ rfl (unhide hR2) Tryd.underlying33 (by kernel_rfl)) rfl ⟨⟨_, _, by rw [unhide E]; rfl, fun _ => unhide hO2, fun h => (by rw [unhide E] at h; cases h)⟩, unhide hB2⟩
end Go.Proofs.YthjgmpfdjhegfasDoor

