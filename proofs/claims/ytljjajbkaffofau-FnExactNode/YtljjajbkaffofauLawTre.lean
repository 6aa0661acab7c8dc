/- The laws FnExactNode, LevelUp, RootOf, PathOf, RootBy, walked over the loaded program; what the project's function answers is a premise. -/
import Derived.Test.YtljjajbkaffofauTre2
namespace Go.Proofs.Ytljjajbkaffofau
open Go.RowKit
theorem OwnV.loT {w : World} {base : Nat} {e : TypeId} {v : Value} {xs : List Value} (h : OwnV w base e v xs) : ∀ k, v.ownBlock = some k → base ≤ k ∧ k < w.heap.size := fun k hk => World.ownsRow.lt h k hk
theorem lvL_len9 (level : Int) (l : List ByteArray) (h : l.length + sumS l ≤ 1048576) : (lvL level l).length ≤ 1048576 := by rw [lvL_len]; omega
theorem pathL_len9 (l : List ByteArray) (leaf : Int) : (pathL l leaf).length ≤ 1000 := by
  unfold pathL
  split
  · rw [List.length_map, List.length_range]; omega
  · exact Nat.zero_le _
set_option maxRecDepth 20000 in
set_option maxHeartbeats 1000000 in
theorem lawNode_any (level : Int) (place : Int) (a : ByteArray) (b : ByteArray) (w : World) (CI : a.size ≤ 1048576 → b.size ≤ 1048576 → ∀ W : World, Below w.heap.size w W → Calls Try.prog 21 #[.int .i64 level, .int .i64 place, .string a, .string b] W fun e w' => e = .returned (.string (nodeB level place a b)) ∧ Below W.heap.size W w') :
    Calls Try.prog 6 #[.int .i64 level, .int .i64 place, .string a, .string b] w fun e w' => e = .returned (.bool true) ∧ Below w.heap.size w w' := by
  by_cases hs0 : (1048576 : Int) < (a.size : Int)
  · go_enter Try.func6, Try.ntmps6
    go_wp2
    go_ret
    exact ⟨rfl, Below.refl _ _⟩
  have ns0 : a.size ≤ 1048576 := by omega
  by_cases hs1 : (1048576 : Int) < (b.size : Int)
  · go_enter Try.func6, Try.ntmps6
    go_wp2
    go_ret
    exact ⟨rfl, Below.refl _ _⟩
  have ns1 : b.size ≤ 1048576 := by omega
  have CS := hide (fun W => specNode_any level place a b ns0 ns1 W)
  replace CI := hide (CI ns0 ns1)
  have _hx := True.intro
  generalize nodeB level place a b = xs at *
  have HT0 := Below.refl w.heap.size w
  go_enter Try.func6, Try.ntmps6
  have HT1 := HT0
  go_wp2_with fail
  refine ((unhide CS) w).mono ?_
  rintro e w3 ⟨rfl, hb3⟩
  have HT3 := HT1.trans (hb3.mono HT1.size)
  clear hb3 HT1 CS
  go_wp2_with fail
  refine ((unhide CI) w3 HT3).mono ?_
  rintro e w6 ⟨rfl, hb6⟩
  have HT6 := HT3.trans (hb6.mono HT3.size)
  clear hb6
  go_wp2
  go_ret
  exact ⟨rfl, HT6⟩
set_option maxRecDepth 20000 in
set_option maxHeartbeats 1000000 in
theorem lawLevelUp_any (level : Int) (l : List ByteArray) (va : Value) (w : World) (CI : l.length + sumS l ≤ 1048576 → ∀ W : World, Below w.heap.size w W → ∀ (ua : Value), RdV W ua (l.map sv) → Calls Try.prog 23 #[.int .i64 level, ua] W fun e w' => (∃ v, e = .returned v ∧ OwnV w' W.heap.size 9 v ((lvL level l).map sv)) ∧ Below W.heap.size W w') (ra : RdV w va (l.map sv)) (hbx : ∀ x ∈ l, x.size ≤ maxLen) (hlx : l.length ≤ maxLen) :
    Calls Try.prog 7 #[.int .i64 level, va] w fun e w' => e = .returned (.bool true) ∧ Below w.heap.size w w' := by
  have CZ := hide (szStrS_any l va w ra hbx hlx)
  have RA := hide (fun (W : World) (h : Below w.heap.size w W) => ra.below h)
  obtain ⟨a1, c1, rfl⟩ := ra.shape
  clear ra hbx hlx
  rw [List.length_map] at RA CZ ⊢
  by_cases hz : l.length + sumS l ≤ 1048576
  rotate_left
  · obtain ⟨n1, hn1⟩ : ∃ n, l.length = n := ⟨_, rfl⟩
    rw [hn1] at CZ ⊢
    clear RA CI
    go_enter Try.func7, Try.ntmps7
    go_wp2_with fail
    refine (unhide CZ).mono ?_
    rintro e w1 ⟨⟨z, rfl, hzz⟩, hw1⟩
    have hw1' := hw1.symm
    subst hw1'
    clear hw1
    have hz0 : z < 0 := hzz.elim id (fun h => absurd h.2 (by rw [hn1] at hz; exact hz))
    go_wp2
    go_ret
    exact ⟨rfl, Below.refl _ _⟩
  have CS := hide (fun (W : World) (ua : Value) (h1 : RdV W ua (l.map sv)) => specLevelUp_any level l ua W h1 (sumS_le l _ (by omega)) (by omega))
  replace CI := hide (CI hz)
  have hxl : (lvL level l).length ≤ 1048576 := lvL_len9 level l hz
  generalize lvL level l = xs at *
  have nl : l.length ≤ 1048576 := by omega
  obtain ⟨n1, hn1⟩ : ∃ n, l.length = n := ⟨_, rfl⟩
  have TA := hide (fun (W : World) (h : Below w.heap.size w W) => toStrS_any l _ W (unhide RA W h) nl)
  rw [hn1] at TA CZ nl ⊢
  clear RA
  replace hz := hide hz
  have HT0 := Below.refl w.heap.size w
  go_enter Try.func7, Try.ntmps7
  go_wp2_with fail
  refine (unhide CZ).mono ?_
  rintro e w1 ⟨⟨z, rfl, hzz⟩, hw1⟩
  have hw1' := hw1.symm
  subst hw1'
  clear hw1 CZ
  by_cases hz0 : z < 0
  · clear hzz
    go_wp2
    go_ret
    exact ⟨rfl, Below.refl _ _⟩
  clear hzz
  go_wp2_with fail
  refine ((unhide TA) w HT0).mono ?_
  rintro e w1 ⟨⟨p1, q1, rfl, o1⟩, hb1⟩
  have HT1 := HT0.trans (hb1.mono HT0.size)
  clear hb1
  go_wp2_with fail
  refine ((unhide CS) w1 _ o1.rdv).mono ?_
  rintro e w3 ⟨⟨vS, rfl, oS⟩, hb3⟩
  have HT3 := HT1.trans (hb3.mono HT1.size)
  have rS3 := oS.rdv
  have bS := fun k hk => (oS.loT k hk).2
  clear o1 oS hb3 HT1 CS
  go_wp2_with fail
  refine ((unhide TA) w3 HT3).mono ?_
  rintro e w4 ⟨⟨p4, q4, rfl, oX4⟩, hb4⟩
  have HT4 := HT3.trans (hb4.mono HT3.size)
  have bX := fun k hk => oX4.loT k hk
  have rS4 := rS3.below hb4
  have z34 := hb4.size
  clear rS3 hb4
  go_wp2_with fail
  refine ((unhide CI) w4 HT4 _ oX4.rdv).mono ?_
  rintro e w6 ⟨⟨vG, rfl, oG6⟩, hb6⟩
  have HT6 := HT4.trans (hb6.mono HT4.size)
  have bG := fun k hk => (oG6.loT k hk).1
  have rS6 := rS4.below hb6
  have oX6 := oX4.below hb6
  have z46 := hb6.size
  clear rS4 oX4 hb6
  go_wp2_with fail
  refine (eqStrS_any xs _ _ w6 oG6.rdv rS6 (by omega)).mono ?_
  rintro e w7 ⟨rfl, hb7⟩
  have HT7 := HT6.trans (hb7.mono HT6.size)
  have rS7 := rS6.below hb7
  have oX7 := oX6.below hb7
  have oG7 := oG6.below hb7
  clear rS6 oX6 oG6 hb7
  go_wp2_with fail
  refine ((unhide TA) w7 HT7).mono ?_
  rintro e w8 ⟨⟨p8, q8, rfl, o8⟩, hb8⟩
  have HT8 := HT7.trans (hb8.mono HT7.size)
  have rS8 := rS7.below hb8
  have oX8 := oX7.below hb8
  have oG8 := oG7.below hb8
  clear rS7 oX7 oG7 hb8
  go_wp2_with fail
  refine (eqStrS_any l _ _ w8 oX8.rdv o8.rdv (by omega)).mono ?_
  rintro e w11 ⟨rfl, hb11⟩
  have HT11 := HT8.trans (hb11.mono HT8.size)
  have rS11 := rS8.below hb11
  have oX11 := oX8.below hb11
  have oG11 := oG8.below hb11
  clear rS8 oX8 oG8 hb11 o8
  obtain ⟨M1, hM1⟩ : ∃ M, M = 1 + (l.map sv).length := ⟨_, rfl⟩
  have hM1' := hM1
  rw [List.length_map, hn1] at hM1'
  have hm1 : M1 ≤ 2000000 := by omega
  have hm10 : ¬ (M1 : Int) < 0 := by omega
  replace hM1' := hide hM1'
  have K1 := hide (markStrS_own _ w3.heap.size 1 M1 _ w11 hM1 (by rw [List.length_map, hn1]; omega) (by omega) (by omega) oX11)
  rw [show ((1 : Nat) : Int) = 1 from rfl] at K1
  replace hM1 := hide hM1
  go_wp2_with fail
  refine (unhide K1).mono ?_
  rintro e w12 ⟨rfl, _, hg12⟩
  have rS12 := rS11.grown hg12 (fun k hk h => by have h1 := bS k hk; have h2 := bX k h; omega)
  have oG12 := oG11.grown hg12 (fun k hk h => by have h1 := bX k h; have h2 := bG k hk; omega)
  have HT12 := HT11.grown hg12 HT11.size (fun k hk => by have h2 := bX k hk; have := HT3.size; omega)
  clear rS11 oX11 oG11 hg12 K1
  go_wp2_with fail
  refine (eqStrS_any xs _ _ w12 oG12.rdv rS12 (by omega)).mono ?_
  rintro e w14 ⟨rfl, hb14⟩
  have HT14 := HT12.trans (hb14.mono HT12.size)
  have rS14 := rS12.below hb14
  have oG14 := oG12.below hb14
  clear rS12 oG12 hb14
  obtain ⟨nx, hnx⟩ : ∃ n, xs.length = n := ⟨_, rfl⟩
  rw [hnx] at hxl
  obtain ⟨M3, hM3⟩ : ∃ M, M = 1 + (xs.map sv).length := ⟨_, rfl⟩
  have hM3' := hM3
  rw [List.length_map, hnx] at hM3'
  have hm3 : M3 ≤ 2000000 := by omega
  have hm30 : ¬ (M3 : Int) < 0 := by omega
  have K3 := hide (markStrS_own _ w4.heap.size 1 M3 _ w14 hM3 (by rw [List.length_map, hnx]; omega) (by omega) (by omega) oG14)
  rw [show ((1 : Nat) : Int) = 1 from rfl] at K3
  rw [List.length_map, hnx] at K3
  have K4 := hide (fun (W : World) (h : RdV W vG (mkT 1 nx)) => heldStrS_any vG 1 nx M3 W hM3' (by omega) (by omega) (by omega) h)
  rw [show ((1 : Nat) : Int) = 1 from rfl] at K4
  replace hM3 := hide hM3; replace hM3' := hide hM3'; replace hnx := hide hnx
  go_wp2_with fail
  refine (unhide K3).mono ?_
  rintro e w15 ⟨rfl, oG15, hg15⟩
  have rS15 := rS14.grown hg15 (fun k hk h => by have h1 := bS k hk; have h2 := bG k h; omega)
  have HT15 := HT14.grown hg15 HT14.size (fun k hk => by have h2 := bG k hk; have := HT3.size; omega)
  clear rS14 oG14 hg15 K3
  go_wp2_with fail
  refine ((unhide K4) w15 oG15.rdv).mono ?_
  rintro e w16 ⟨rfl, hb16⟩
  have HT16 := HT15.trans (hb16.mono HT15.size)
  have rS16 := rS15.below hb16
  have oG16 := oG15.below hb16
  clear rS15 oG15 hb16
  go_wp2_with fail
  refine ((unhide TA) w16 HT16).mono ?_
  rintro e w17 ⟨⟨p17, q17, rfl, oU17⟩, hb17⟩
  have HT17 := HT16.trans (hb17.mono HT16.size)
  have rS17 := rS16.below hb17
  have oG17 := oG16.below hb17
  clear rS16 oG16 hb17
  go_wp2_with fail
  refine ((unhide CI) w17 HT17 _ oU17.rdv).mono ?_
  rintro e w19 ⟨⟨vH, rfl, oH19⟩, hb19⟩
  have HT19 := HT17.trans (hb19.mono HT17.size)
  have rS19 := rS17.below hb19
  have oG19 := oG17.below hb19
  clear rS17 oG17 hb19 oU17
  go_wp2_with fail
  refine (eqStrS_any xs _ _ w19 oH19.rdv rS19 (by rw [unhide hnx]; omega)).mono ?_
  rintro e w20 ⟨rfl, hb20⟩
  have HT20 := HT19.trans (hb20.mono HT19.size)
  have oG20 := oG19.below hb20
  clear rS19 oG19 hb20 oH19
  go_wp2_with fail
  refine ((unhide K4) w20 oG20.rdv).mono ?_
  rintro e w21 ⟨rfl, hb21⟩
  have HT21 := HT20.trans (hb21.mono HT20.size)
  go_wp2
  go_ret
  exact ⟨rfl, HT21⟩
set_option maxRecDepth 20000 in
set_option maxHeartbeats 1000000 in
theorem lawRootOf_any (l : List ByteArray) (va : Value) (w : World) (CI : l.length + sumS l ≤ 1048576 → ∀ W : World, Below w.heap.size w W → ∀ (ua : Value), RdV W ua (l.map sv) → Calls Try.prog 25 #[ua] W fun e w' => e = .returned (.string (rootB l)) ∧ Below W.heap.size W w') (ra : RdV w va (l.map sv)) (hbx : ∀ x ∈ l, x.size ≤ maxLen) (hlx : l.length ≤ maxLen) :
    Calls Try.prog 8 #[va] w fun e w' => e = .returned (.bool true) ∧ Below w.heap.size w w' := by
  have CZ := hide (szStrS_any l va w ra hbx hlx)
  have RA := hide (fun (W : World) (h : Below w.heap.size w W) => ra.below h)
  obtain ⟨a1, c1, rfl⟩ := ra.shape
  clear ra hbx hlx
  rw [List.length_map] at RA CZ ⊢
  by_cases hz : l.length + sumS l ≤ 1048576
  rotate_left
  · obtain ⟨n1, hn1⟩ : ∃ n, l.length = n := ⟨_, rfl⟩
    rw [hn1] at CZ ⊢
    clear RA CI
    go_enter Try.func8, Try.ntmps8
    go_wp2_with fail
    refine (unhide CZ).mono ?_
    rintro e w1 ⟨⟨z, rfl, hzz⟩, hw1⟩
    have hw1' := hw1.symm
    subst hw1'
    clear hw1
    have hz0 : z < 0 := hzz.elim id (fun h => absurd h.2 (by rw [hn1] at hz; exact hz))
    go_wp2
    go_ret
    exact ⟨rfl, Below.refl _ _⟩
  have CS := hide (fun (W : World) (ua : Value) (h1 : RdV W ua (l.map sv)) => specRootOf_any l ua W h1 (sumS_le l _ (by omega)))
  replace CI := hide (CI hz)
  have _hx := True.intro
  generalize rootB l = xs at *
  have nl : l.length ≤ 1048576 := by omega
  obtain ⟨n1, hn1⟩ : ∃ n, l.length = n := ⟨_, rfl⟩
  have TA := hide (fun (W : World) (h : Below w.heap.size w W) => toStrS_any l _ W (unhide RA W h) nl)
  rw [hn1] at TA CZ nl ⊢
  clear RA
  replace hz := hide hz
  have HT0 := Below.refl w.heap.size w
  go_enter Try.func8, Try.ntmps8
  go_wp2_with fail
  refine (unhide CZ).mono ?_
  rintro e w1 ⟨⟨z, rfl, hzz⟩, hw1⟩
  have hw1' := hw1.symm
  subst hw1'
  clear hw1 CZ
  by_cases hz0 : z < 0
  · clear hzz
    go_wp2
    go_ret
    exact ⟨rfl, Below.refl _ _⟩
  clear hzz
  go_wp2_with fail
  refine ((unhide TA) w HT0).mono ?_
  rintro e w1 ⟨⟨p1, q1, rfl, o1⟩, hb1⟩
  have HT1 := HT0.trans (hb1.mono HT0.size)
  clear hb1
  go_wp2_with fail
  refine ((unhide CS) w1 _ o1.rdv).mono ?_
  rintro e w3 ⟨rfl, hb3⟩
  have HT3 := HT1.trans (hb3.mono HT1.size)
  clear o1 hb3 HT1 CS
  go_wp2_with fail
  refine ((unhide TA) w3 HT3).mono ?_
  rintro e w4 ⟨⟨p4, q4, rfl, oX4⟩, hb4⟩
  have HT4 := HT3.trans (hb4.mono HT3.size)
  have bX := fun k hk => oX4.loT k hk
  have z34 := hb4.size
  clear hb4
  go_wp2_with fail
  refine ((unhide CI) w4 HT4 _ oX4.rdv).mono ?_
  rintro e w6 ⟨rfl, hb6⟩
  have HT6 := HT4.trans (hb6.mono HT4.size)
  have oX6 := oX4.below hb6
  clear oX4 hb6
  go_wp2_with fail
  refine ((unhide TA) w6 HT6).mono ?_
  rintro e w8 ⟨⟨p8, q8, rfl, o8⟩, hb8⟩
  have HT8 := HT6.trans (hb8.mono HT6.size)
  have oX8 := oX6.below hb8
  clear oX6 hb8
  go_wp2_with fail
  refine (eqStrS_any l _ _ w8 oX8.rdv o8.rdv (by omega)).mono ?_
  rintro e w11 ⟨rfl, hb11⟩
  have HT11 := HT8.trans (hb11.mono HT8.size)
  have oX11 := oX8.below hb11
  clear oX8 hb11 o8
  go_wp2
  go_ret
  exact ⟨rfl, HT11⟩
end Go.Proofs.Ytljjajbkaffofau
