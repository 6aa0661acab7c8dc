/- The law FnPowers, walked over the loaded program. -/
import Derived.Test.YtlbkfooogpmihacDrawY
import Derived.Test.YtlbkfooogpmihacPly5
import Derived.Test.YtlbkfooogpmihacPlyI
import Derived.Deep.RegionHeld3
namespace Go.Proofs.Ytlbkfooogpmihac
open Go.RowKit
theorem powQ_in {b e : Int} (hb : 0 ≤ b) (hb2 : b ≤ 3328) (h0 : 0 ≤ e) (h1 : e ≤ 1000000000) : powQ b e = powM b e.toNat := by
  unfold powQ
  rw [if_pos ⟨h0, h1⟩, show b % 3329 = b by omega]
theorem powM_rng (b : Int) (e : Nat) : 0 ≤ powM b e ∧ powM b e ≤ 3328 := by unfold powM; omega
theorem powQ_ferm {b : Int} (h1 : 1 ≤ b) (h2 : b ≤ 3328) : powQ b 3328 = 1 := by
  rw [powQ_in (by omega) h2 (by omega) (by omega)]
  exact ferm b _ rfl h1 h2
theorem powQ_neg (b : Int) : powQ b (-1) = 0 := by unfold powQ; rw [if_neg (by omega)]
theorem powQ_17 : powQ 17 128 = 3328 := by
  rw [powQ_in (by omega) (by omega) (by omega) (by omega)]
  exact powM_17
theorem turn_lt {z : Int} (h0 : 0 ≤ z) (h1 : z < 128) : turnZ (turnZ z) = z := by
  unfold turnZ
  have e1 : (z % 128).toNat = z.toNat := by omega
  rw [e1]
  have h2 := t7_lt z.toNat
  have e2 : (((t7 z.toNat : Nat) : Int) % 128).toNat = t7 z.toNat := by omega
  rw [e2, t7_t7 _ (by omega)]
  omega
set_option maxRecDepth 20000 in
set_option maxHeartbeats 800000 in
theorem lawPowers_any (w : World) (o : Option Addr) (n c : Nat) (hs : Src w w.heap.size o n) :
    Calls Try.prog 6 #[.slice o n c] w fun e w' => e = .returned (.bool true) ∧ Below w.heap.size w w' := by
  have HS := hide hs
  clear hs
  by_cases hbig : (1048576 : Int) < (n : Int)
  · have hd : decide ((1048576 : Int) < (n : Int)) = true := by rw [decide_eq_true_iff]; exact hbig
    go_enter Try.func6, Try.ntmps6
    go_wp2_with (go_at_call 8; refine (big_any w o n c).mono ?_; rintro e w1 ⟨rfl, rfl⟩)
    go_ret
    exact ⟨rfl, Below.refl _ _⟩
  have hd : decide ((1048576 : Int) < (n : Int)) = false := by rw [decide_eq_false_iff_not]; exact hbig
  have hn : n ≤ 1048576 := by omega
  go_enter Try.func6, Try.ntmps6
  go_wp2_with fail
  refine (big_any w o n c).mono ?_
  rintro e w0 ⟨rfl, hw0⟩
  have hw0' := hw0.symm
  subst hw0'
  clear hw0
  go_wp2_with fail
  refine (drawPlaces_any w o n c (unhide HS) hn).mono ?_
  rintro e w1 ⟨v, xs, hxl, hxb, rfl, hO, HT1⟩
  clear HS
  obtain ⟨av, cv, hav⟩ := hO.shape
  rw [show (ints xs).length = 12 by unfold ints; rw [List.length_map, hxl]] at hav
  subst hav
  obtain ⟨gg, rfl, _, hgl⟩ := hO.some9 (by omega)
  have hat : ∀ k, (hk : k < 12) → (ints xs)[k]? = some (.int .i64 ((xs[k]'(by omega) : Nat) : Int)) := fun k hk => by
    unfold ints
    rw [List.getElem?_map, List.getElem?_eq_getElem (by omega)]; rfl
  have q0 := hO.cell (hat 0 (by omega))
  have q1 := hO.cell (hat 1 (by omega))
  have q2 := hO.cell (hat 2 (by omega))
  have q3 := hO.cell (hat 3 (by omega))
  have l0 := hxb _ (List.getElem_mem (show 0 < xs.length by omega))
  have l1 := hxb _ (List.getElem_mem (show 1 < xs.length by omega))
  have l2 := hxb _ (List.getElem_mem (show 2 < xs.length by omega))
  have l3 := hxb _ (List.getElem_mem (show 3 < xs.length by omega))
  generalize xs[0]'(by omega) = p0 at *
  generalize xs[1]'(by omega) = p1 at *
  generalize xs[2]'(by omega) = p2 at *
  generalize xs[3]'(by omega) = p3 at *
  clear hat hxb hxl hO
  obtain ⟨r0, hr0⟩ : ∃ r : Int, r = (p0 : Int) % 3328 := ⟨_, rfl⟩
  obtain ⟨B, hB⟩ : ∃ B : Int, B = 1 + r0 := ⟨_, rfl⟩
  obtain ⟨s, hs⟩ : ∃ s : Int, s = (p1 : Int) + (p2 : Int) := ⟨_, rfl⟩
  obtain ⟨m, hm⟩ : ∃ m : Int, m = (p3 : Int) % 128 := ⟨_, rfl⟩
  have v1 : (p0 : Int).tmod 3328 = r0 := by rw [Int.tmod_eq_emod_of_nonneg (by omega)]; omega
  have v1' : (p0 : Int) % 3328 = r0 := hr0.symm
  have v2 : IntKind.i64.wrap r0 = r0 := by rw [IntKind.wrap_i64]; omega
  have v3 : IntKind.i64.wrap (1 + r0) = B := by rw [IntKind.wrap_i64]; omega
  have v4 : IntKind.i64.wrap ((p1 : Int) + (p2 : Int)) = s := by rw [IntKind.wrap_i64]; omega
  have v5 : (p3 : Int).tmod 128 = m := by rw [Int.tmod_eq_emod_of_nonneg (by omega)]; omega
  have v5' : (p3 : Int) % 128 = m := hm.symm
  have v6 : IntKind.i64.wrap m = m := by rw [IntKind.wrap_i64]; omega
  have hB1 : 1 ≤ B ∧ B ≤ 3328 := by omega
  have hmb : 0 ≤ m ∧ m < 128 := by omega
  have C1 := hide (fun W => implPowQ_any B s W)
  have CP := hide (fun z W => implPowQ_any B z W)
  have C4 := hide (fun W => implPowQ_any B 3328 W)
  have C5 := hide (fun W => implTurn7_any m W)
  have C6 := hide (fun W => implTurn7_any (turnZ m) W)
  have C7 := hide (fun W => specTurn7_any m W)
  have C8 := hide (fun W => implPowQ_any B (-1) W)
  have C9 := hide (fun W => implPowQ_any 17 128 W)
  rw [powQ_ferm hB1.1 hB1.2] at C4
  rw [powQ_neg] at C8
  rw [powQ_17] at C9
  rw [turn_lt hmb.1 hmb.2] at C6
  have e1 := powQ_in (b := B) (e := s) (by omega) (by omega) (by omega) (by omega)
  have e2 := powQ_in (b := B) (e := (p1 : Int)) (by omega) (by omega) (by omega) (by omega)
  have e3 := powQ_in (b := B) (e := (p2 : Int)) (by omega) (by omega) (by omega) (by omega)
  rw [Int.toNat_natCast] at e2 e3
  rw [show s.toNat = p1 + p2 by omega, powM_add] at e1
  rw [e1] at C1
  rw [← e2, ← e3] at C1
  have g1 := powM_rng B p1
  have g2 := powM_rng B p2
  rw [← e2] at g1
  rw [← e3] at g2
  clear e1 e2 e3
  obtain ⟨F, hF⟩ : ∃ F : Int → Int, F = powQ B := ⟨_, rfl⟩
  rw [← hF] at CP C1 g1 g2
  obtain ⟨y1, hy1⟩ : ∃ y, F (p1 : Int) = y := ⟨_, rfl⟩
  obtain ⟨y2, hy2⟩ : ∃ y, F (p2 : Int) = y := ⟨_, rfl⟩
  rw [hy1, hy2] at C1
  rw [hy1] at g1
  rw [hy2] at g2
  clear hF
  generalize turnZ m = tz at *
  have hp1 : 0 ≤ y1 * y2 := Int.mul_nonneg g1.1 g2.1
  have hp2 : y1 * y2 ≤ 3328 * 3328 := Int.mul_le_mul g1.2 g2.2 g2.1 (by omega)
  obtain ⟨P, hP⟩ : ∃ P, P = y1 * y2 := ⟨_, rfl⟩
  rw [← hP] at hp1 hp2 C1
  obtain ⟨R, hR⟩ : ∃ R, R = P % 3329 := ⟨_, rfl⟩
  rw [← hR] at C1
  have u1 : IntKind.i64.wrap (y1 * y2) = P := by rw [← hP, IntKind.wrap_i64]; omega
  have u2 : P.tmod 3329 = R := by rw [Int.tmod_eq_emod_of_nonneg (by omega)]; omega
  have u2' : P % 3329 = R := hR.symm
  have u3 : IntKind.i64.wrap R = R := by rw [IntKind.wrap_i64]; omega
  replace hr0 := hide hr0; replace hB := hide hB; replace hs := hide hs; replace hm := hide hm; replace hP := hide hP; replace hR := hide hR
  have KS := hide (fun (W : World) (h : Below w1.heap.size w1 W) => (⟨(h.cell (p := ⟨gg, 1, none⟩) hgl).trans q1, (h.cell (p := ⟨gg, 2, none⟩) hgl).trans q2, (h.cell (p := ⟨gg, 3, none⟩) hgl).trans q3⟩ : W.cell? ⟨gg, 1, none⟩ = some (.int .i64 (p1 : Int)) ∧ W.cell? ⟨gg, 2, none⟩ = some (.int .i64 (p2 : Int)) ∧ W.cell? ⟨gg, 3, none⟩ = some (.int .i64 (p3 : Int))))
  go_wp2
  go_region_held3 (fun W => W.cell? ⟨gg, 1, none⟩ = some (.int .i64 (p1 : Int)) ∧ W.cell? ⟨gg, 2, none⟩ = some (.int .i64 (p2 : Int)) ∧ W.cell? ⟨gg, 3, none⟩ = some (.int .i64 (p3 : Int))) (first | exact ⟨q1, q2, q3⟩ | exact (unhide KS) _ hB2 | fail) (first
    | (go_at_call 24; refine ((unhide C1) _).mono ?_; rintro e w2 ⟨rfl, hb2⟩; have hB2 : Below w1.heap.size w1 w2 := (Below.refl _ w1).drew.trans hb2)
    | fail)
  obtain ⟨t1, t2, t3⟩ := (unhide KS) _ hB2
  clear q0 q1 q2 q3 hb2
  go_wp2
  go_region_held3 (fun W => W.cell? ⟨gg, 1, none⟩ = some (.int .i64 (p1 : Int)) ∧ W.cell? ⟨gg, 2, none⟩ = some (.int .i64 (p2 : Int)) ∧ W.cell? ⟨gg, 3, none⟩ = some (.int .i64 (p3 : Int))) (first | exact ⟨t1, t2, t3⟩ | exact (unhide KS) _ hB3 | exact (unhide KS) _ hB4 | fail) (first
    | (go_at_call 24; have hB3' := hB3; refine ((unhide CP) _ _).mono ?_; rintro e w4 ⟨rfl, hb4⟩; have hB4 : Below w1.heap.size w1 w4 := hB3.trans (hb4.mono hB3.size))
    | (go_at_call 24; refine ((unhide CP) _ _).mono ?_; rintro e w3 ⟨rfl, hb3⟩; have hB3 : Below w1.heap.size w1 w3 := hB2.drew.trans (hb3.mono hB2.size))
    | fail)
  obtain ⟨s1, s2, s3⟩ := (unhide KS) _ hB4
  have HT4 := HT1.trans (hB4.mono HT1.size)
  clear t1 t2 t3 hb3 hb4 hB2 hB3 hB4 KS
  go_wp2_with fail
  refine ((unhide C4) w4).mono ?_
  rintro e w5 ⟨rfl, hb5⟩
  have HT5 := HT4.trans (hb5.mono HT4.size)
  clear s1 s2 s3 hb5
  go_wp2_with fail
  refine ((unhide C5) w5).mono ?_
  rintro e w6 ⟨rfl, hb6⟩
  have HT6 := HT5.trans (hb6.mono HT5.size)
  clear hb6
  go_wp2_with fail
  refine ((unhide C6) w6).mono ?_
  rintro e w7 ⟨rfl, hb7⟩
  have HT7 := HT6.trans (hb7.mono HT6.size)
  clear hb7
  go_wp2_with fail
  refine ((unhide C5) w7).mono ?_
  rintro e w8 ⟨rfl, hb8⟩
  have HT8 := HT7.trans (hb8.mono HT7.size)
  clear hb8
  go_wp2_with fail
  refine ((unhide C7) w8).mono ?_
  rintro e w9 ⟨rfl, hw9⟩
  have hw9' := hw9.symm
  subst hw9'
  clear hw9
  go_wp2_with fail
  refine ((unhide C8) w8).mono ?_
  rintro e w10 ⟨rfl, hb10⟩
  have HT10 := HT8.trans (hb10.mono HT8.size)
  clear hb10
  go_wp2_with fail
  refine ((unhide C9) w10).mono ?_
  rintro e w11 ⟨rfl, hb11⟩
  have HT11 := HT10.trans (hb11.mono HT10.size)
  clear hb11
  go_wp2
  go_ret
  exact ⟨rfl, HT11⟩
end Go.Proofs.Ytlbkfooogpmihac
