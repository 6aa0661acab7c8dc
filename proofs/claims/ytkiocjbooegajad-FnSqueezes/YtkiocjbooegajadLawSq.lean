/- The law FnSqueezes, walked over the loaded program. -/
import Derived.Test.YtkiocjbooegajadDrawY
import Derived.Test.YtkiocjbooegajadPck1
import Derived.Test.YtkiocjbooegajadPckI
namespace Go.Proofs.Ytkiocjbooegajad
open Go.RowKit
theorem sqz_facts (x d : Nat) (hx : x < 3329) (h1 : 1 ≤ d) (h2 : d ≤ 11) : sqz x d < 2 ^ d ∧ str (sqz x d) d < 3329 ∧ farN x (str (sqz x d) d) ≤ (3329 + 2 ^ d) / (2 * 2 ^ d) := by
  obtain ⟨e, rfl⟩ : ∃ e, d = e + 1 := ⟨d - 1, by omega⟩
  have h := allN_at (allN_at sqz_all e (by omega)) x hx
  simpa using h
theorem str_facts (y d : Nat) (h1 : 1 ≤ d) (h2 : d ≤ 11) (hy : y < 2 ^ d) : sqz (str y d) d = y ∧ str y d < 3329 := by
  obtain ⟨e, rfl⟩ : ∃ e, d = e + 1 := ⟨d - 1, by omega⟩
  have h := allN_at (allN_at str_all e (by omega)) y hy
  simpa using h
theorem sqzZ_nat (x d : Nat) (hx : x < 3329) (h1 : 1 ≤ d) (h2 : d ≤ 11) : sqzZ (x : Int) (d : Int) = (sqz x d : Int) := by
  unfold sqzZ
  rw [if_pos ⟨by omega, by omega⟩, Int.toNat_natCast, Int.toNat_natCast]
theorem strZ_nat (y d : Nat) (h1 : 1 ≤ d) (h2 : d ≤ 11) (hy : y < 2 ^ d) : strZ (y : Int) (d : Int) = (str y d : Int) := by
  unfold strZ
  rw [Int.toNat_natCast, Int.toNat_natCast, if_pos ⟨by omega, by omega, by rw [show (2 : Int) ^ d = ((2 ^ d : Nat) : Int) by rw [Int.natCast_pow]; rfl]; generalize 2 ^ d = P at *; omega⟩]
set_option maxRecDepth 20000 in
set_option maxHeartbeats 1000000 in
theorem lawSqueezes_any (w : World) (o : Option Addr) (n c : Nat) (hs : Src w w.heap.size o n) :
    Calls Try.prog 4 #[.slice o n c] w fun e w' => e = .returned (.bool true) ∧ Below w.heap.size w w' := by
  have HS := hide hs
  clear hs
  by_cases hbig : (1048576 : Int) < (n : Int)
  · have hd : decide ((1048576 : Int) < (n : Int)) = true := by rw [decide_eq_true_iff]; exact hbig
    go_enter Try.func4, Try.ntmps4
    go_wp2_with (go_at_call 5; refine (big_any w o n c).mono ?_; rintro e w1 ⟨rfl, rfl⟩)
    go_ret
    exact ⟨rfl, Below.refl _ _⟩
  have hd : decide ((1048576 : Int) < (n : Int)) = false := by rw [decide_eq_false_iff_not]; exact hbig
  have hn : n ≤ 1048576 := by omega
  go_enter Try.func4, Try.ntmps4
  go_wp2_with fail
  refine (big_any w o n c).mono ?_
  rintro e w0 ⟨rfl, hw0⟩
  have hw0' := hw0.symm
  subst hw0'
  clear hw0
  go_wp2_with fail
  refine (drawPlaces_any w o n c (unhide HS) hn).mono ?_
  rintro e w1 ⟨v, xs, hxl, hxb, rfl, hO, HT1⟩
  clear HS
  obtain ⟨av, cv, hav⟩ := hO.shape
  rw [show (ints xs).length = 12 by unfold ints; rw [List.length_map, hxl]] at hav
  subst hav
  obtain ⟨gg, rfl, _, hgl⟩ := hO.some9 (by omega)
  have hat : ∀ k, (hk : k < 12) → (ints xs)[k]? = some (.int .i64 ((xs[k]'(by omega) : Nat) : Int)) := fun k hk => by
    unfold ints
    rw [List.getElem?_map, List.getElem?_eq_getElem (by omega)]; rfl
  have q0 := hO.cell (hat 0 (by omega))
  have q1 := hO.cell (hat 1 (by omega))
  have q2 := hO.cell (hat 2 (by omega))
  have l0 := hxb _ (List.getElem_mem (show 0 < xs.length by omega))
  have l1 := hxb _ (List.getElem_mem (show 1 < xs.length by omega))
  have l2 := hxb _ (List.getElem_mem (show 2 < xs.length by omega))
  generalize xs[0]'(by omega) = p0 at *
  generalize xs[1]'(by omega) = p1 at *
  generalize xs[2]'(by omega) = p2 at *
  clear hat hxb hxl hO
  obtain ⟨x, hx⟩ : ∃ x : Nat, x = p0 % 3329 := ⟨_, rfl⟩
  obtain ⟨r1, hr1⟩ : ∃ r : Nat, r = p1 % 11 := ⟨_, rfl⟩
  obtain ⟨d, hdd⟩ : ∃ d : Nat, d = 1 + r1 := ⟨_, rfl⟩
  obtain ⟨P, hP⟩ : ∃ P : Nat, P = 2 ^ d := ⟨_, rfl⟩
  have hPb : 2 ≤ P ∧ P ≤ 2048 := by rw [hP]; exact ⟨two_le 1 d (by omega), two_le d 11 (by omega)⟩
  obtain ⟨f1, f2, f3⟩ := sqz_facts x d (by omega) (by omega) (by omega)
  have C1 := hide (fun W => implSqueeze_any (x : Int) (d : Int) W)
  have C3 := hide (fun W => specSqueeze_any (x : Int) (d : Int) W)
  rw [sqzZ_nat x d (by omega) (by omega) (by omega)] at C1 C3
  have C2 := hide (fun W => implStretch_any ((sqz x d : Nat) : Int) (d : Int) W)
  rw [strZ_nat (sqz x d) d (by omega) (by omega) f1] at C2
  obtain ⟨y, hy⟩ : ∃ y, y = sqz x d := ⟨_, rfl⟩
  rw [← hy] at C1 C2 C3 f1 f2 f3
  obtain ⟨z, hz⟩ : ∃ z, z = str y d := ⟨_, rfl⟩
  rw [← hz] at C2 f2 f3
  rw [← hP] at f1 f3
  obtain ⟨v2, hv2⟩ : ∃ v2 : Nat, v2 = p2 % P := ⟨_, rfl⟩
  have hv2b : v2 < P := by rw [hv2]; exact Nat.mod_lt _ (by omega)
  obtain ⟨f4, f5⟩ := str_facts v2 d (by omega) (by omega) (by rw [← hP]; exact hv2b)
  have C4 := hide (fun W => implStretch_any (v2 : Int) (d : Int) W)
  rw [strZ_nat v2 d (by omega) (by omega) (by rw [← hP]; exact hv2b)] at C4
  obtain ⟨z2, hz2⟩ : ∃ z, z = str v2 d := ⟨_, rfl⟩
  rw [← hz2] at C4 f4 f5
  have C5 := hide (fun W => implSqueeze_any (z2 : Int) (d : Int) W)
  rw [sqzZ_nat z2 d f5 (by omega) (by omega), f4] at C5
  obtain ⟨s1, hs1⟩ : ∃ s : Int, s = (x : Int) - (z : Int) := ⟨_, rfl⟩
  obtain ⟨s2, hs2⟩ : ∃ s : Int, s = s1 + 3329 := ⟨_, rfl⟩
  obtain ⟨fr, hfr⟩ : ∃ f : Int, f = s2 % 3329 := ⟨_, rfl⟩
  obtain ⟨f', hf'⟩ : ∃ f : Int, f = 3329 - fr := ⟨_, rfl⟩
  obtain ⟨t1, ht1⟩ : ∃ t : Nat, t = 3329 + P := ⟨_, rfl⟩
  obtain ⟨t2, ht2⟩ : ∃ t : Nat, t = 2 * P := ⟨_, rfl⟩
  obtain ⟨t3, ht3⟩ : ∃ t : Nat, t = t1 / t2 := ⟨_, rfl⟩
  rw [← ht1, ← ht2, ← ht3] at f3
  have hfar : (if f' < fr then f' else fr) ≤ (t3 : Int) := by
    unfold farN at f3
    have e1 : fr = (((x + 3329 - z) % 3329 : Nat) : Int) := by omega
    dsimp only at f3
    generalize (x + 3329 - z) % 3329 = F at *
    by_cases h : 3329 - F < F
    · rw [if_pos h] at f3
      rw [if_pos (by omega)]
      omega
    · rw [if_neg h] at f3
      rw [if_neg (by omega)]
      omega
  have ht3b : t3 ≤ t1 := by rw [ht3]; exact Nat.div_le_self _ _
  have a0 : (p0 : Int).tmod 3329 = (x : Int) := by rw [Int.tmod_eq_emod_of_nonneg (by omega)]; omega
  have a0' : (p0 : Int) % 3329 = (x : Int) := by omega
  have a1 : IntKind.i64.wrap (x : Int) = (x : Int) := by rw [IntKind.wrap_i64]; omega
  have a2 : (p1 : Int).tmod 11 = (r1 : Int) := by rw [Int.tmod_eq_emod_of_nonneg (by omega)]; omega
  have a2' : (p1 : Int) % 11 = (r1 : Int) := by omega
  have a3 : IntKind.i64.wrap (r1 : Int) = (r1 : Int) := by rw [IntKind.wrap_i64]; omega
  have a4 : IntKind.i64.wrap (1 + (r1 : Int)) = (d : Int) := by rw [IntKind.wrap_i64]; omega
  have a5 : IntKind.i64.wrap ((x : Int) - (z : Int)) = s1 := by rw [IntKind.wrap_i64]; omega
  have a6 : IntKind.i64.wrap (s1 + 3329) = s2 := by rw [IntKind.wrap_i64]; omega
  have a7 : s2.tmod 3329 = fr := by rw [Int.tmod_eq_emod_of_nonneg (by omega)]; omega
  have a7' : s2 % 3329 = fr := hfr.symm
  have a8 : IntKind.i64.wrap fr = fr := by rw [IntKind.wrap_i64]; omega
  have a9 : IntKind.i64.wrap (3329 - fr) = f' := by rw [IntKind.wrap_i64]; omega
  have a10' : (p2 : Int) % (P : Int) = (v2 : Int) := by rw [hv2]; exact (Int.natCast_emod p2 P).symm
  have a10 : (p2 : Int).tmod (P : Int) = (v2 : Int) := by rw [Int.tmod_eq_emod_of_nonneg (by omega)]; exact a10'
  have a11 : IntKind.i64.wrap (v2 : Int) = (v2 : Int) := by rw [IntKind.wrap_i64]; omega
  have a12 : IntKind.i64.wrap (3329 + (P : Int)) = (t1 : Int) := by rw [IntKind.wrap_i64]; omega
  have a13 : IntKind.i64.wrap (2 * (P : Int)) = (t2 : Int) := by rw [IntKind.wrap_i64]; omega
  have a14' : (t1 : Int) / (t2 : Int) = (t3 : Int) := by rw [ht3]; exact (Int.natCast_ediv t1 t2).symm
  have a14 : (t1 : Int).tdiv (t2 : Int) = (t3 : Int) := by rw [Int.tdiv_eq_ediv_of_nonneg (by omega)]; exact a14'
  have a15 : IntKind.i64.wrap (t3 : Int) = (t3 : Int) := by rw [IntKind.wrap_i64]; omega
  have n1 : ¬ (P : Int) = 0 := by omega
  have n2 : ¬ (t2 : Int) = 0 := by omega
  have g1 : (0 : Int) ≤ (y : Int) := by omega
  have g2 : (y : Int) < (P : Int) := by omega
  have g3 : (z : Int) < 3329 := by omega
  have hdb : d ≤ 11 := by omega
  replace hx := hide hx; replace hr1 := hide hr1; replace hdd := hide hdd; replace hP := hide hP; replace hy := hide hy; replace hz := hide hz; replace hv2 := hide hv2; replace hz2 := hide hz2; replace hs1 := hide hs1; replace hs2 := hide hs2; replace hfr := hide hfr; replace hf' := hide hf'; replace ht1 := hide ht1; replace ht2 := hide ht2; replace ht3 := hide ht3; replace f3 := hide f3; replace f4 := hide f4
  go_wp2_with fail
  refine ((unhide C1) w1).mono ?_
  rintro e w2 ⟨rfl, hb2⟩
  go_wp2_with fail
  refine ((unhide C2) w2).mono ?_
  rintro e w3 ⟨rfl, hb3⟩
  have hb13 := hb2.trans (hb3.mono hb2.size)
  have q2' := (hb13.cell (p := ⟨gg, 2, none⟩) hgl).trans q2
  have HT3 := HT1.trans (hb13.mono HT1.size)
  clear hb2 hb3 hb13 q0 q1 q2 HT1
  go_wp2
  go_loopw [8, 9] (fun tq ti wr => ∃ k p : Nat, k ≤ d ∧ Hid (p = 2 ^ k) ∧ tq = .int .i64 (p : Int) ∧ ti = .int .i64 (k : Int) ∧ wr = w3) (fun _ ti _ => d - (intOf ti).toNat)
  case atStart => exact ⟨0, 1, by omega, hide rfl, rfl, rfl, rfl⟩
  case round =>
    obtain ⟨k, p, hk, hp, rfl, rfl, hw⟩ := hrel
    have hw' := hw.symm
    subst hw'
    clear hw
    by_cases hlt : k < d
    · have hk' : (k : Int) < (d : Int) := by omega
      have hb : p ≤ 2 ^ 11 := by rw [unhide hp]; exact two_le k 11 (by omega)
      obtain ⟨pp, hpp⟩ : ∃ p2 : Nat, p2 = 2 * p := ⟨_, rfl⟩
      have ww : IntKind.i64.wrap (2 * (p : Int)) = (pp : Int) := by rw [IntKind.wrap_i64]; omega
      have hn2 := hide (show pp = 2 ^ (k + 1) by rw [hpp, unhide hp, Nat.pow_succ]; omega)
      replace hpp := hide hpp
      clear hb
      go_wp2
      exact ⟨⟨k + 1, pp, by omega, hn2, by first | rfl | trivial, by go_num, by first | rfl | trivial⟩, by simp [intOf]; omega⟩
    · have hk' : ¬ (k : Int) < (d : Int) := by omega
      have hke : k = d := by omega
      have hpe : p = P := by rw [unhide hp, hke, unhide hP]
      subst hpe
      replace hke := hide hke
      by_cases cf : f' < fr
      · rw [if_pos cf] at hfar
        go_wp2_with fail
        refine ((unhide C3) w3).mono ?_
        rintro e w4 ⟨rfl, hw4⟩
        have hw4' := hw4.symm
        subst hw4'
        clear hw4
        go_wp2_with fail
        refine ((unhide C4) w3).mono ?_
        rintro e w5 ⟨rfl, hb5⟩
        have HT5 := HT3.trans (hb5.mono HT3.size)
        clear hb5
        go_wp2_with fail
        refine ((unhide C5) w5).mono ?_
        rintro e w6 ⟨rfl, hb6⟩
        have HT6 := HT5.trans (hb6.mono HT5.size)
        clear hb6
        go_wp2
        go_ret
        exact ⟨rfl, HT6⟩
      · rw [if_neg cf] at hfar
        go_wp2_with fail
        refine ((unhide C3) w3).mono ?_
        rintro e w4 ⟨rfl, hw4⟩
        have hw4' := hw4.symm
        subst hw4'
        clear hw4
        go_wp2_with fail
        refine ((unhide C4) w3).mono ?_
        rintro e w5 ⟨rfl, hb5⟩
        have HT5 := HT3.trans (hb5.mono HT3.size)
        clear hb5
        go_wp2_with fail
        refine ((unhide C5) w5).mono ?_
        rintro e w6 ⟨rfl, hb6⟩
        have HT6 := HT5.trans (hb6.mono HT5.size)
        clear hb6
        go_wp2
        go_ret
        exact ⟨rfl, HT6⟩
end Go.Proofs.Ytkiocjbooegajad
