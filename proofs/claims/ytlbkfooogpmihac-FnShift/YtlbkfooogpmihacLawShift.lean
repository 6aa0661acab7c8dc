/- The law FnShift, walked over the loaded program. -/
import Derived.Test.YtlbkfooogpmihacDrawZ
import Derived.Test.YtlbkfooogpmihacPlyI
import Derived.Deep.RegionHeld3
namespace Go.Proofs.Ytlbkfooogpmihac
open Go.RowKit
theorem OwnV.lo9 {w : World} {base : Nat} {e : TypeId} {v : Value} {xs : List Value} (h : OwnV w base e v xs) : ∀ k, v.ownBlock = some k → base ≤ k ∧ k < w.heap.size := fun k hk => World.ownsRow.lt h k hk
theorem set_row (d : Nat) : (List.replicate 256 (Value.int .i64 0)).set d (.int .i64 1) = (unitL d).map iv := by
  unfold unitL
  rw [List.map_set, List.map_replicate]
  rfl
theorem zero_row : List.replicate 256 (Value.int .i64 0) = zeroL.map iv := by
  unfold zeroL
  rw [List.map_replicate]
  rfl
theorem len_unit (d : Nat) : (unitL d).length ≤ 1048576 := by rw [unitL_len]; omega
theorem len_ok {l : List Int} (h : okPl l = true) : l.length ≤ 1048576 := by rw [(okPl_yes h).1]; omega
theorem own9 {w : World} {base : Nat} {v : Value} {e : TypeId} (h : w.ownsRow base e 1 v 256 (madeCells (Value.int .i64 0).cells (256 * 1)).toList) : OwnV w base e v (List.replicate 256 (.int .i64 0)) := by
  rw [madeI] at h
  unfold OwnV
  rw [List.length_replicate]
  exact h
theorem ne9 {a b n c : Nat} (hab : a ≠ b) : ∀ k, (Value.slice (some ⟨a, 0, none⟩) n c).ownBlock = some k → (some b : Option Nat) ≠ some k := by
  intro k hk h
  have hk' : (some a : Option Nat) = some k := hk
  exact hab (Option.some.inj (hk'.trans h.symm))
theorem rep_at (k : Nat) (h : k < 256) : (List.replicate 256 (Value.int .i64 0))[k]? = some (.int .i64 0) := by rw [List.getElem?_replicate, if_pos h]
theorem below9 {w w' : World} (h : w.grownBy w' none) : Below w.heap.size w w' := (Below.refl w.heap.size w).grown h (Nat.le_refl _) (fun k hk => by cases hk)
set_option maxRecDepth 20000 in
set_option maxHeartbeats 800000 in
theorem lawShift_any (w : World) (o : Option Addr) (n c : Nat) (hs : Src w w.heap.size o n) :
    Calls Try.prog 5 #[.slice o n c] w fun e w' => e = .returned (.bool true) ∧ Below w.heap.size w w' := by
  obtain ⟨i0, hi, hz0, hz1, hz2⟩ := info_parts infoInt
  have HS := hide hs
  clear hs
  by_cases hbig : (1048576 : Int) < (n : Int)
  · have hd : decide ((1048576 : Int) < (n : Int)) = true := by rw [decide_eq_true_iff]; exact hbig
    go_enter Try.func5, Try.ntmps5
    go_wp2_with (go_at_call 8; refine (big_any w o n c).mono ?_; rintro e w1 ⟨rfl, rfl⟩)
    go_ret
    exact ⟨rfl, Below.refl _ _⟩
  have hd : decide ((1048576 : Int) < (n : Int)) = false := by rw [decide_eq_false_iff_not]; exact hbig
  have hn : n ≤ 1048576 := by omega
  go_enter Try.func5, Try.ntmps5
  go_wp2_with fail
  refine (big_any w o n c).mono ?_
  rintro e w0 ⟨rfl, hw0⟩
  have hw0' := hw0.symm
  subst hw0'
  clear hw0
  go_wp2_with fail
  refine (drawPolys_any w o n c (unhide HS) hn).mono ?_
  rintro e w1 ⟨la, lb, lc, va, vb, vc, oka, okb, okc, rfl, rA1, rB1, rC1, hcap, HT1⟩
  clear HS rB1 rC1 okb okc
  go_wp2_with (first
    | (at_make; have hq := hg4; fail)
    | (at_make; have hq := hg3; refine wpList_make_full _ rfl _ _ 33 rfl w4.heap.size 3 i0 (.int .i64 0) 1 Try.underlying33 hi hz0 hz1 _ _ _ _ 256 rfl rfl rfl rfl (by rw [hz2]; omega) (by unfold maxLen; omega) (Nat.le_refl _) ?_; intro w5 ho4 hg4; have m1 := below9 hg1; have m2 := below9 hg2; have m3 := below9 hg3; have m4 := below9 hg4; have x1 := (((own9 ho1).below m2).below m3).below m4; have x2 := ((own9 ho2).below m3).below m4; have x3 := (own9 ho3).below m4; have x4 := own9 ho4; have c1 := x1.cell (rep_at 1 (by omega)); have c2 := x2.cell (rep_at 128 (by omega)); have c3 := x3.cell (rep_at 0 (by omega)); have z1 := x1.frozen 1; have z2 := x2.frozen 128; have z3 := x3.frozen 0; have y1 := (x1.lo9 _ rfl).2; have y2 := (x2.lo9 _ rfl).2; have y3 := (x3.lo9 _ rfl).2; have y12 := Nat.lt_of_lt_of_le ((own9 ho1).lo9 _ rfl).2 (Nat.le_refl _); have y23 := ((own9 ho2).lo9 _ rfl).2; have y34 := ((own9 ho3).lo9 _ rfl).2)
    | (at_make; have hq := hg2; refine wpList_make_full _ rfl _ _ 33 rfl w3.heap.size 3 i0 (.int .i64 0) 1 Try.underlying33 hi hz0 hz1 _ _ _ _ 256 rfl rfl rfl rfl (by rw [hz2]; omega) (by unfold maxLen; omega) (Nat.le_refl _) ?_; intro w4 ho3 hg3)
    | (at_make; have hq := hg1; refine wpList_make_full _ rfl _ _ 33 rfl w2.heap.size 3 i0 (.int .i64 0) 1 Try.underlying33 hi hz0 hz1 _ _ _ _ 256 rfl rfl rfl rfl (by rw [hz2]; omega) (by unfold maxLen; omega) (Nat.le_refl _) ?_; intro w3 ho2 hg2)
    | (at_make; refine wpList_make_full _ rfl _ _ 33 rfl w1.heap.size 3 i0 (.int .i64 0) 1 Try.underlying33 hi hz0 hz1 _ _ _ _ 256 rfl rfl rfl rfl (by rw [hz2]; omega) (by unfold maxLen; omega) (Nat.le_refl _) ?_; intro w2 ho1 hg1)
    | fail)
  have g1 := gS w5 w1.heap.size 1 (.int .i64 1)
  have g2 := gS (w5.setCell ⟨w1.heap.size, 1, none⟩ (.int .i64 1)) w2.heap.size 128 (.int .i64 1)
  have g3 := gS ((w5.setCell ⟨w1.heap.size, 1, none⟩ (.int .i64 1)).setCell ⟨w2.heap.size, 128, none⟩ (.int .i64 1)) w3.heap.size 0 (.int .i64 1)
  have o1 := ((x1.set 1 (.int .i64 1)).grown g2 (ne9 (by omega))).grown g3 (ne9 (by omega))
  have o2 := (((x2.grown g1 (ne9 (by omega)))).set 128 (.int .i64 1)).grown g3 (ne9 (by omega))
  have o3 := (((x3.grown g1 (ne9 (by omega)))).grown g2 (ne9 (by omega))).set 0 (.int .i64 1)
  have o4 := ((x4.grown g1 (ne9 (by omega))).grown g2 (ne9 (by omega))).grown g3 (ne9 (by omega))
  rw [set_row] at o1 o2 o3
  rw [zero_row] at o4
  have b15 := ((m1.trans (m2.mono m1.size)).trans (m3.mono (by omega))).trans (m4.mono (by omega))
  have b16 := ((b15.setCell (p := ⟨w1.heap.size, 1, none⟩) (Nat.le_refl _) (.int .i64 1)).setCell (p := ⟨w2.heap.size, 128, none⟩) (by show w1.heap.size ≤ w2.heap.size; omega) (.int .i64 1)).setCell (p := ⟨w3.heap.size, 0, none⟩) (by show w1.heap.size ≤ w3.heap.size; omega) (.int .i64 1)
  have rX6 := o1.rdv
  have rH6 := o2.rdv
  have rO6 := o3.rdv
  have rZ6 := o4.rdv
  have rA6 := rA1.below b16
  have HT6 := HT1.trans (b16.mono HT1.size)
  generalize ((w5.setCell ⟨w1.heap.size, 1, none⟩ (.int .i64 1)).setCell ⟨w2.heap.size, 128, none⟩ (.int .i64 1)).setCell ⟨w3.heap.size, 0, none⟩ (.int .i64 1) = w6 at *
  clear g1 g2 g3 o1 o2 o3 o4 x1 x2 x3 x4 c1 c2 c3 z1 z2 z3 b15 b16 m1 m2 m3 m4 rA1 HT1 ho1 ho2 ho3 ho4 hg1 hg2 hg3 hg4 y1 y2 y3 y12 y23 y34
  refine (implPolyMul_any la (unitL 128) _ _ (len_ok oka) (len_unit _) w6 rA6 rH6 (capv_lit (Nat.le_refl _))).mono ?_
  rintro e w7 ⟨⟨v7, rfl, o7⟩, hb7⟩
  have ok7 := mulL_ok oka (unitL_ok 128)
  have rX7 := rX6.below hb7
  have rH7 := rH6.below hb7
  have rO7 := rO6.below hb7
  have rZ7 := rZ6.below hb7
  have rA7 := rA6.below hb7
  have r7 := o7.rdv
  have HT7 := HT6.trans (hb7.mono HT6.size)
  clear rX6 rH6 rO6 rZ6 rA6 HT6 hb7 o7
  go_wp2_with fail
  refine (implPolyMul_any (mulL la (unitL 128)) (unitL 128) _ _ (len_ok ok7) (len_unit _) w7 r7 rH7 (capv_lit (Nat.le_refl _))).mono ?_
  rintro e w8 ⟨⟨v8, rfl, o8⟩, hb8⟩
  have ok8 := mulL_ok ok7 (unitL_ok 128)
  rw [pl_mul_half oka] at o8 ok8
  have rX8 := rX7.below hb8
  have rO8 := rO7.below hb8
  have rZ8 := rZ7.below hb8
  have rA8 := rA7.below hb8
  have r8 := o8.rdv
  have HT8 := HT7.trans (hb8.mono HT7.size)
  clear rX7 rH7 rO7 rZ7 rA7 HT7 hb8 o8 r7 ok7
  go_wp2_with fail
  refine (implPolyMul_any la (unitL 1) _ _ (len_ok oka) (len_unit _) w8 rA8 rX8 (capv_lit (Nat.le_refl _))).mono ?_
  rintro e w9 ⟨⟨v9, rfl, o9⟩, hb9⟩
  have ok9 := mulL_ok oka (unitL_ok 1)
  have F1 := hide (fun i hi => pl_mul_x oka i hi)
  have F0 := pl_mul_x0 oka
  have l9 := (okPl_yes ok9).1
  have l8 := (okPl_yes ok8).1
  have lA := (okPl_yes oka).1
  have vA := (okPl_yes oka).2 255 (by omega)
  generalize mulL la (unitL 1) = L at *
  have rO9 := rO8.below hb9
  have rZ9 := rZ8.below hb9
  have rA9 := rA8.below hb9
  have r89 := r8.below hb9
  have r9 := o9.rdv
  have HT9 := HT8.trans (hb9.mono HT8.size)
  clear rX8 rO8 rZ8 rA8 HT8 hb9 o9 r8 ok9
  obtain ⟨a9, c9, rfl, hc9⟩ := r9.open
  obtain ⟨a8, c8, hv8, _⟩ := r89.open
  obtain ⟨aA, cA, hvA, hcA⟩ := rA9.open
  rw [List.length_map, l9] at r9 ⊢
  rw [List.length_map, l8] at hv8
  rw [List.length_map, lA] at hvA
  subst hv8 hvA
  obtain ⟨gc, oc, rfl, hgc, dc0⟩ := hc9 0 _ (get_iv L 0 (by omega))
  obtain ⟨ga, oa, rfl, hga, da0⟩ := hcA 255 _ (get_iv la 255 (by omega))
  have DC := hide (show ∀ k, k < 256 → w9.cell? ⟨gc, oc + k, none⟩ = some (.int .i64 (cAt L k)) from fun k hk => by
    obtain ⟨g', o', he, _, hd⟩ := hc9 k _ (get_iv L k (by omega))
    cases he
    exact hd)
  have DA := hide (show ∀ k, k < 256 → w9.cell? ⟨ga, oa + k, none⟩ = some (.int .i64 (cAt la k)) from fun k hk => by
    obtain ⟨g', o', he, _, hd⟩ := hcA k _ (get_iv la k (by omega))
    cases he
    exact hd)
  clear hc9 hcA dc0 da0 l9 l8 lA
  replace rO9 := hide rO9; replace rZ9 := hide rZ9; replace rA9 := hide rA9; replace r89 := hide r89; replace r9 := hide r9
  go_wp2
  go_loopw [12] (fun ti wr => ∃ k q : Nat, k ≤ 255 ∧ ti = .int .i64 (k : Int) ∧ wr = w9.drewN q) (fun ti _ => 256 - (intOf ti).toNat)
  case atStart => exact ⟨0, 0, by omega, rfl, rfl⟩
  case round =>
    obtain ⟨k, q, hk, rfl, rfl⟩ := hrel
    have hw1 : IntKind.i64.wrap ((k : Int) + 1) = ((k + 1 : Nat) : Int) := by rw [IntKind.wrap_i64]; omega
    by_cases hlt : k < 255
    · obtain ⟨k1, hk1⟩ : ∃ k1, k1 = k + 1 := ⟨_, rfl⟩
      rw [← hk1] at hw1
      have hk' : (k1 : Int) < 256 := by omega
      have hi0 : (0 : Int) ≤ (k1 : Int) := by omega
      have hi1 : (k : Int) < 256 := by omega
      have hi2 : (0 : Int) ≤ (k : Int) := by omega
      have d1 := unhide DC k1 (by omega)
      have d2 := unhide DA k (by omega)
      rw [show cAt L k1 = cAt la k by rw [hk1]; exact unhide F1 k (by omega)] at d1
      generalize cAt la k = y at d1 d2
      have hk1' := hide hk1
      clear hk1
      go_wp2
      go_quiet (fail)
      go_wp2
      refine ⟨⟨k1, _, by omega, by first | rfl | trivial, rfl⟩, ?_⟩
      have := unhide hk1'
      simp [intOf]
      omega
    · have hke : k = 255 := by omega
      have hw2 : IntKind.i64.wrap ((k : Int) + 1) = 256 := by rw [hw1, hke]; rfl
      have CSub := hide (fun (W : World) (h : Below w9.heap.size w9 W) => implPolySub_any zeroL la _ _ (by decide) (len_ok oka) W ((unhide rZ9).below h) ((unhide rA9).below h))
      have CMul := hide (fun (W : World) (h : Below w9.heap.size w9 W) => implPolyMul_any la (unitL 0) _ _ (len_ok oka) (len_unit 0) W ((unhide rA9).below h) ((unhide rO9).below h) (capv_lit (Nat.le_refl _)))
      rw [pl_mul_one oka] at CMul
      have S1 := hide (fun (W : World) (u : Value) (h : Below w9.heap.size w9 W) (r : RdV W u ((subL zeroL la).map iv)) => sameInts_any (subL zeroL la) (subL zeroL la) (Nat.le_trans (len_ok ok8) (by omega)) _ u W ((unhide r89).below h) r)
      have S2 := hide (fun (W : World) (u : Value) (h : Below w9.heap.size w9 W) (r : RdV W u (la.map iv)) => sameInts_any la la (Nat.le_trans (len_ok oka) (by omega)) u _ W r ((unhide rA9).below h))
      rw [show decide (subL zeroL la = subL zeroL la) = true from decide_eq_true rfl] at S1
      rw [show decide (la = la) = true from decide_eq_true rfl] at S2
      have d0 := unhide DC 0 (by omega)
      have d255 := unhide DA 255 (by omega)
      rw [F0] at d0
      rw [Nat.add_zero] at d0
      generalize cAt la 255 = y at *
      obtain ⟨y2, hy2⟩ : ∃ y2, y2 = 3329 - y := ⟨_, rfl⟩
      obtain ⟨y3, hy3⟩ : ∃ y3, y3 = y2 % 3329 := ⟨_, rfl⟩
      rw [← hy2, ← hy3] at d0
      have u1 : IntKind.i64.wrap (3329 - y) = y2 := by rw [IntKind.wrap_i64]; omega
      have u2 : y2.tmod 3329 = y3 := by rw [Int.tmod_eq_emod_of_nonneg (by omega)]; omega
      have u2' : y2 % 3329 = y3 := hy3.symm
      have u3 : IntKind.i64.wrap y3 = y3 := by rw [IntKind.wrap_i64]; omega
      replace hy2 := hide hy2; replace hy3 := hide hy3; replace hke := hide hke
      have hB0 := bDN (Below.refl w9.heap.size w9) q
      have KS := hide (fun (W : World) (h : Below w9.heap.size w9 W) => (⟨(h.cell (p := ⟨gc, oc, none⟩) hgc).trans d0, (h.cell (p := ⟨ga, oa + 255, none⟩) hga).trans d255⟩ : W.cell? ⟨gc, oc, none⟩ = some (.int .i64 y3) ∧ W.cell? ⟨ga, oa + 255, none⟩ = some (.int .i64 y)))
      clear DC DA F1 F0 d0 d255 hw1 r9
      go_wp2
      go_region_held3 (fun W => W.cell? ⟨gc, oc, none⟩ = some (.int .i64 y3) ∧ W.cell? ⟨ga, oa + 255, none⟩ = some (.int .i64 y)) (first | exact (unhide KS) _ hB0 | exact (unhide KS) _ hB0.drew | exact (unhide KS) _ hB1 | exact (unhide KS) _ hB2 | exact (unhide KS) _ hB3 | exact (unhide KS) _ hB4 | fail) (first
        | (go_at_call 21; have hq3 := hB3; refine ((unhide S2) _ _ hB3 r3).mono ?_; rintro e wz ⟨rfl, hb4⟩; have hB4 : Below w9.heap.size w9 wz := hB3.trans (hb4.mono hB3.size))
        | (go_at_call 21; refine ((unhide S1) _ _ hB1 r1).mono ?_; rintro e wy ⟨rfl, hb2⟩; have hB2 : Below w9.heap.size w9 wy := hB1.trans (hb2.mono hB1.size))
        | (go_at_call 22; refine ((unhide CSub) _ hB0.drew).mono ?_; rintro e wx ⟨⟨vx, rfl, ox⟩, hb1⟩; have r1 := ox.rdv; have hB1 : Below w9.heap.size w9 wx := hB0.drew.trans (hb1.mono hB0.size))
        | (go_at_call 19; refine ((unhide CMul) _ hB2).mono ?_; rintro e wv ⟨⟨vv, rfl, ov⟩, hb3⟩; have r3 := ov.rdv; have hB3 : Below w9.heap.size w9 wv := hB2.trans (hb3.mono hB2.size))
        | fail)
      have HTz := HT9.trans (hB4.mono HT9.size)
      go_wp2
      go_ret
      exact ⟨rfl, HTz⟩
end Go.Proofs.Ytlbkfooogpmihac
