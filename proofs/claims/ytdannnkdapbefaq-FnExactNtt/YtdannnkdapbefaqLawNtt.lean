/- The laws FnExactNtt, FnExactInvNtt, FnExactMulNtt, walked over the loaded program; what the project's function answers is a premise. -/
import Derived.Test.YtdannnkdapbefaqNtp5
import Derived.Test.YtdannnkdapbefaqNtp6
import Derived.Test.YtdannnkdapbefaqInts9
namespace Go.Proofs.Ytdannnkdapbefaq
open Go.RowKit
theorem OwnV.loN {w : World} {base : Nat} {e : TypeId} {v : Value} {xs : List Value} (h : OwnV w base e v xs) : ∀ k, v.ownBlock = some k → base ≤ k ∧ k < w.heap.size := fun k hk => World.ownsRow.lt h k hk
theorem ok_le {l : List Int} (h : okPl l = true) : l.length ≤ 256 := by rw [(okPl_yes h).1]; exact Nat.le_refl _
theorem nttL_len (a : List Int) : (nttL a).length ≤ 256 := by
  by_cases h : okPl a = true
  · exact ok_le (nttL_ok h)
  · unfold nttL; rw [if_neg h]; exact Nat.zero_le _
theorem invL_len (a : List Int) : (invL a).length ≤ 256 := by
  by_cases h : okPl a = true
  · exact ok_le (invL_ok h)
  · unfold invL; rw [if_neg h]; exact Nat.zero_le _
theorem mnL_len (a b : List Int) : (mnL a b).length ≤ 256 := by
  by_cases h : bothP a b = true
  · exact ok_le (mnL_ok (bothP_yes h).1 (bothP_yes h).2)
  · unfold mnL; rw [if_neg h]; exact Nat.zero_le _
set_option maxRecDepth 20000 in
set_option maxHeartbeats 1000000 in
theorem lawNtt_any (a : List Int) (va : Value) (CI : a.length ≤ 1048576 → ∀ (W : World) (ua : Value), RdV W ua (a.map iv) → Calls Try.prog 12 #[ua] W fun e w' => (∃ v, e = .returned v ∧ OwnV w' W.heap.size 3 v ((nttL a).map iv)) ∧ Below W.heap.size W w') (w : World) (ra : RdV w va (a.map iv)) :
    Calls Try.prog 4 #[va] w fun e w' => e = .returned (.bool true) ∧ Below w.heap.size w w' := by
  have CS := hide (fun (W : World) (ua : Value) (h1 : RdV W ua (a.map iv)) => specNtt_any a ua W h1)
  have hxl := nttL_len a
  generalize nttL a = xs at *
  have RA := hide (fun (W : World) (h : Below w.heap.size w W) => ra.below h)
  obtain ⟨a1, c1, rfl⟩ := ra.shape
  clear ra
  rw [List.length_map] at RA ⊢
  by_cases h1 : (1048576 : Int) < (a.length : Int)
  · go_enter Try.func4, Try.ntmps4
    go_wp2
    go_ret
    exact ⟨rfl, Below.refl _ _⟩
  have na : a.length ≤ 1048576 := by omega
  replace CI := hide (CI na)
  obtain ⟨n1, hn1⟩ : ∃ n, a.length = n := ⟨_, rfl⟩
  have TA := hide (fun (W : World) (h : Below w.heap.size w W) => toIntS_any a _ W (unhide RA W h) na)
  rw [hn1] at TA h1 na ⊢
  clear RA
  have HT0 := Below.refl w.heap.size w
  go_enter Try.func4, Try.ntmps4
  go_wp2_with fail
  refine ((unhide TA) w HT0).mono ?_
  rintro e w1 ⟨⟨p1, q1, rfl, o1⟩, hb1⟩
  have HT1 := HT0.trans (hb1.mono HT0.size)
  clear hb1
  go_wp2_with fail
  refine ((unhide CS) w1 _ o1.rdv).mono ?_
  rintro e w3 ⟨⟨vS, rfl, oS⟩, hb3⟩
  have HT3 := HT1.trans (hb3.mono HT1.size)
  have rS3 := oS.rdv
  have bS := fun k hk => (oS.loN k hk).2
  clear o1 oS hb3 HT1 CS
  go_wp2_with fail
  refine ((unhide TA) w3 HT3).mono ?_
  rintro e w4 ⟨⟨p4, q4, rfl, oX4⟩, hb4⟩
  have HT4 := HT3.trans (hb4.mono HT3.size)
  have bX := fun k hk => oX4.loN k hk
  have rS4 := rS3.below hb4
  have z34 := hb4.size
  clear rS3 hb4
  go_wp2_with fail
  refine ((unhide CI) w4 _ oX4.rdv).mono ?_
  rintro e w6 ⟨⟨vG, rfl, oG6⟩, hb6⟩
  have HT6 := HT4.trans (hb6.mono HT4.size)
  have bG := fun k hk => (oG6.loN k hk).1
  have rS6 := rS4.below hb6
  have oX6 := oX4.below hb6
  have z46 := hb6.size
  clear rS4 oX4 hb6
  go_wp2_with fail
  refine (eqIntS_any xs _ _ w6 oG6.rdv rS6 (by omega)).mono ?_
  rintro e w7 ⟨rfl, hb7⟩
  have HT7 := HT6.trans (hb7.mono HT6.size)
  have rS7 := rS6.below hb7
  have oX7 := oX6.below hb7
  have oG7 := oG6.below hb7
  clear rS6 oX6 oG6 hb7
  go_wp2_with fail
  refine ((unhide TA) w7 HT7).mono ?_
  rintro e w8 ⟨⟨p8, q8, rfl, o8⟩, hb8⟩
  have HT8 := HT7.trans (hb8.mono HT7.size)
  have rS8 := rS7.below hb8
  have oX8 := oX7.below hb8
  have oG8 := oG7.below hb8
  clear rS7 oX7 oG7 hb8
  go_wp2_with fail
  refine (eqIntS_any a _ _ w8 oX8.rdv o8.rdv (by omega)).mono ?_
  rintro e w11 ⟨rfl, hb11⟩
  have HT11 := HT8.trans (hb11.mono HT8.size)
  have rS11 := rS8.below hb11
  have oX11 := oX8.below hb11
  have oG11 := oG8.below hb11
  clear rS8 oX8 oG8 hb11 o8
  obtain ⟨M1, hM1⟩ : ∃ M, M = 1 + (a.map iv).length := ⟨_, rfl⟩
  have hM1' := hM1
  rw [List.length_map, hn1] at hM1'
  have hm1 : M1 ≤ 2000000 := by omega
  have hm10 : ¬ (M1 : Int) < 0 := by omega
  replace hM1' := hide hM1'
  have K1 := hide (markIntS_own _ w3.heap.size 1 M1 _ w11 hM1 (by rw [List.length_map, hn1]; omega) (by omega) oX11)
  rw [show ((1 : Nat) : Int) = 1 from rfl] at K1
  replace hM1 := hide hM1
  go_wp2_with fail
  refine (unhide K1).mono ?_
  rintro e w12 ⟨rfl, _, hg12⟩
  have rS12 := rS11.grown hg12 (fun k hk h => by have h1 := bS k hk; have h2 := bX k h; omega)
  have oG12 := oG11.grown hg12 (fun k hk h => by have h1 := bX k h; have h2 := bG k hk; omega)
  have HT12 := HT11.grown hg12 HT11.size (fun k hk => by have h2 := bX k hk; have := HT3.size; omega)
  clear rS11 oX11 oG11 hg12 K1
  go_wp2_with fail
  refine (eqIntS_any xs _ _ w12 oG12.rdv rS12 (by omega)).mono ?_
  rintro e w14 ⟨rfl, hb14⟩
  have HT14 := HT12.trans (hb14.mono HT12.size)
  have rS14 := rS12.below hb14
  have oG14 := oG12.below hb14
  clear rS12 oG12 hb14
  obtain ⟨nx, hnx⟩ : ∃ n, xs.length = n := ⟨_, rfl⟩
  rw [hnx] at hxl
  obtain ⟨M3, hM3⟩ : ∃ M, M = 1 + (xs.map iv).length := ⟨_, rfl⟩
  have hM3' := hM3
  rw [List.length_map, hnx] at hM3'
  have hm3 : M3 ≤ 1000 := by omega
  have hm30 : ¬ (M3 : Int) < 0 := by omega
  have K3 := hide (markIntS_own _ w4.heap.size 1 M3 _ w14 hM3 (by rw [List.length_map, hnx]; omega) (by omega) oG14)
  rw [show ((1 : Nat) : Int) = 1 from rfl] at K3
  rw [List.length_map, hnx] at K3
  have K4 := hide (fun (W : World) (h : RdV W vG (mkI 1 nx)) => heldIntS_any vG 1 nx M3 W hM3' (by omega) (by omega) h)
  rw [show ((1 : Nat) : Int) = 1 from rfl] at K4
  replace hM3 := hide hM3; replace hM3' := hide hM3'; replace hnx := hide hnx
  go_wp2_with fail
  refine (unhide K3).mono ?_
  rintro e w15 ⟨rfl, oG15, hg15⟩
  have rS15 := rS14.grown hg15 (fun k hk h => by have h1 := bS k hk; have h2 := bG k h; omega)
  have HT15 := HT14.grown hg15 HT14.size (fun k hk => by have h2 := bG k hk; have := HT3.size; omega)
  clear rS14 oG14 hg15 K3
  go_wp2_with fail
  refine ((unhide K4) w15 oG15.rdv).mono ?_
  rintro e w16 ⟨rfl, hw16⟩
  have hw16' := hw16.symm
  subst hw16'
  clear hw16
  go_wp2_with fail
  refine ((unhide TA) w15 HT15).mono ?_
  rintro e w17 ⟨⟨p17, q17, rfl, oU17⟩, hb17⟩
  have HT17 := HT15.trans (hb17.mono HT15.size)
  have rS17 := rS15.below hb17
  have oG17 := oG15.below hb17
  clear rS15 oG15 hb17
  go_wp2_with fail
  refine ((unhide CI) w17 _ oU17.rdv).mono ?_
  rintro e w19 ⟨⟨vH, rfl, oH19⟩, hb19⟩
  have HT19 := HT17.trans (hb19.mono HT17.size)
  have rS19 := rS17.below hb19
  have oG19 := oG17.below hb19
  clear rS17 oG17 hb19 oU17
  go_wp2_with fail
  refine (eqIntS_any xs _ _ w19 oH19.rdv rS19 (by rw [unhide hnx]; omega)).mono ?_
  rintro e w20 ⟨rfl, hb20⟩
  have HT20 := HT19.trans (hb20.mono HT19.size)
  have oG20 := oG19.below hb20
  clear rS19 oG19 hb20 oH19
  go_wp2_with fail
  refine ((unhide K4) w20 oG20.rdv).mono ?_
  rintro e w21 ⟨rfl, hw21⟩
  have hw21' := hw21.symm
  subst hw21'
  clear hw21
  go_wp2
  go_ret
  exact ⟨rfl, HT20⟩
set_option maxRecDepth 20000 in
set_option maxHeartbeats 1000000 in
theorem lawInvNtt_any (a : List Int) (va : Value) (CI : a.length ≤ 1048576 → ∀ (W : World) (ua : Value), RdV W ua (a.map iv) → Calls Try.prog 16 #[ua] W fun e w' => (∃ v, e = .returned v ∧ OwnV w' W.heap.size 3 v ((invL a).map iv)) ∧ Below W.heap.size W w') (w : World) (ra : RdV w va (a.map iv)) :
    Calls Try.prog 5 #[va] w fun e w' => e = .returned (.bool true) ∧ Below w.heap.size w w' := by
  have CS := hide (fun (W : World) (ua : Value) (h1 : RdV W ua (a.map iv)) => specInvNtt_any a ua W h1)
  have hxl := invL_len a
  generalize invL a = xs at *
  have RA := hide (fun (W : World) (h : Below w.heap.size w W) => ra.below h)
  obtain ⟨a1, c1, rfl⟩ := ra.shape
  clear ra
  rw [List.length_map] at RA ⊢
  by_cases h1 : (1048576 : Int) < (a.length : Int)
  · go_enter Try.func5, Try.ntmps5
    go_wp2
    go_ret
    exact ⟨rfl, Below.refl _ _⟩
  have na : a.length ≤ 1048576 := by omega
  replace CI := hide (CI na)
  obtain ⟨n1, hn1⟩ : ∃ n, a.length = n := ⟨_, rfl⟩
  have TA := hide (fun (W : World) (h : Below w.heap.size w W) => toIntS_any a _ W (unhide RA W h) na)
  rw [hn1] at TA h1 na ⊢
  clear RA
  have HT0 := Below.refl w.heap.size w
  go_enter Try.func5, Try.ntmps5
  go_wp2_with fail
  refine ((unhide TA) w HT0).mono ?_
  rintro e w1 ⟨⟨p1, q1, rfl, o1⟩, hb1⟩
  have HT1 := HT0.trans (hb1.mono HT0.size)
  clear hb1
  go_wp2_with fail
  refine ((unhide CS) w1 _ o1.rdv).mono ?_
  rintro e w3 ⟨⟨vS, rfl, oS⟩, hb3⟩
  have HT3 := HT1.trans (hb3.mono HT1.size)
  have rS3 := oS.rdv
  have bS := fun k hk => (oS.loN k hk).2
  clear o1 oS hb3 HT1 CS
  go_wp2_with fail
  refine ((unhide TA) w3 HT3).mono ?_
  rintro e w4 ⟨⟨p4, q4, rfl, oX4⟩, hb4⟩
  have HT4 := HT3.trans (hb4.mono HT3.size)
  have bX := fun k hk => oX4.loN k hk
  have rS4 := rS3.below hb4
  have z34 := hb4.size
  clear rS3 hb4
  go_wp2_with fail
  refine ((unhide CI) w4 _ oX4.rdv).mono ?_
  rintro e w6 ⟨⟨vG, rfl, oG6⟩, hb6⟩
  have HT6 := HT4.trans (hb6.mono HT4.size)
  have bG := fun k hk => (oG6.loN k hk).1
  have rS6 := rS4.below hb6
  have oX6 := oX4.below hb6
  have z46 := hb6.size
  clear rS4 oX4 hb6
  go_wp2_with fail
  refine (eqIntS_any xs _ _ w6 oG6.rdv rS6 (by omega)).mono ?_
  rintro e w7 ⟨rfl, hb7⟩
  have HT7 := HT6.trans (hb7.mono HT6.size)
  have rS7 := rS6.below hb7
  have oX7 := oX6.below hb7
  have oG7 := oG6.below hb7
  clear rS6 oX6 oG6 hb7
  go_wp2_with fail
  refine ((unhide TA) w7 HT7).mono ?_
  rintro e w8 ⟨⟨p8, q8, rfl, o8⟩, hb8⟩
  have HT8 := HT7.trans (hb8.mono HT7.size)
  have rS8 := rS7.below hb8
  have oX8 := oX7.below hb8
  have oG8 := oG7.below hb8
  clear rS7 oX7 oG7 hb8
  go_wp2_with fail
  refine (eqIntS_any a _ _ w8 oX8.rdv o8.rdv (by omega)).mono ?_
  rintro e w11 ⟨rfl, hb11⟩
  have HT11 := HT8.trans (hb11.mono HT8.size)
  have rS11 := rS8.below hb11
  have oX11 := oX8.below hb11
  have oG11 := oG8.below hb11
  clear rS8 oX8 oG8 hb11 o8
  obtain ⟨M1, hM1⟩ : ∃ M, M = 1 + (a.map iv).length := ⟨_, rfl⟩
  have hM1' := hM1
  rw [List.length_map, hn1] at hM1'
  have hm1 : M1 ≤ 2000000 := by omega
  have hm10 : ¬ (M1 : Int) < 0 := by omega
  replace hM1' := hide hM1'
  have K1 := hide (markIntS_own _ w3.heap.size 1 M1 _ w11 hM1 (by rw [List.length_map, hn1]; omega) (by omega) oX11)
  rw [show ((1 : Nat) : Int) = 1 from rfl] at K1
  replace hM1 := hide hM1
  go_wp2_with fail
  refine (unhide K1).mono ?_
  rintro e w12 ⟨rfl, _, hg12⟩
  have rS12 := rS11.grown hg12 (fun k hk h => by have h1 := bS k hk; have h2 := bX k h; omega)
  have oG12 := oG11.grown hg12 (fun k hk h => by have h1 := bX k h; have h2 := bG k hk; omega)
  have HT12 := HT11.grown hg12 HT11.size (fun k hk => by have h2 := bX k hk; have := HT3.size; omega)
  clear rS11 oX11 oG11 hg12 K1
  go_wp2_with fail
  refine (eqIntS_any xs _ _ w12 oG12.rdv rS12 (by omega)).mono ?_
  rintro e w14 ⟨rfl, hb14⟩
  have HT14 := HT12.trans (hb14.mono HT12.size)
  have rS14 := rS12.below hb14
  have oG14 := oG12.below hb14
  clear rS12 oG12 hb14
  obtain ⟨nx, hnx⟩ : ∃ n, xs.length = n := ⟨_, rfl⟩
  rw [hnx] at hxl
  obtain ⟨M3, hM3⟩ : ∃ M, M = 1 + (xs.map iv).length := ⟨_, rfl⟩
  have hM3' := hM3
  rw [List.length_map, hnx] at hM3'
  have hm3 : M3 ≤ 1000 := by omega
  have hm30 : ¬ (M3 : Int) < 0 := by omega
  have K3 := hide (markIntS_own _ w4.heap.size 1 M3 _ w14 hM3 (by rw [List.length_map, hnx]; omega) (by omega) oG14)
  rw [show ((1 : Nat) : Int) = 1 from rfl] at K3
  rw [List.length_map, hnx] at K3
  have K4 := hide (fun (W : World) (h : RdV W vG (mkI 1 nx)) => heldIntS_any vG 1 nx M3 W hM3' (by omega) (by omega) h)
  rw [show ((1 : Nat) : Int) = 1 from rfl] at K4
  replace hM3 := hide hM3; replace hM3' := hide hM3'; replace hnx := hide hnx
  go_wp2_with fail
  refine (unhide K3).mono ?_
  rintro e w15 ⟨rfl, oG15, hg15⟩
  have rS15 := rS14.grown hg15 (fun k hk h => by have h1 := bS k hk; have h2 := bG k h; omega)
  have HT15 := HT14.grown hg15 HT14.size (fun k hk => by have h2 := bG k hk; have := HT3.size; omega)
  clear rS14 oG14 hg15 K3
  go_wp2_with fail
  refine ((unhide K4) w15 oG15.rdv).mono ?_
  rintro e w16 ⟨rfl, hw16⟩
  have hw16' := hw16.symm
  subst hw16'
  clear hw16
  go_wp2_with fail
  refine ((unhide TA) w15 HT15).mono ?_
  rintro e w17 ⟨⟨p17, q17, rfl, oU17⟩, hb17⟩
  have HT17 := HT15.trans (hb17.mono HT15.size)
  have rS17 := rS15.below hb17
  have oG17 := oG15.below hb17
  clear rS15 oG15 hb17
  go_wp2_with fail
  refine ((unhide CI) w17 _ oU17.rdv).mono ?_
  rintro e w19 ⟨⟨vH, rfl, oH19⟩, hb19⟩
  have HT19 := HT17.trans (hb19.mono HT17.size)
  have rS19 := rS17.below hb19
  have oG19 := oG17.below hb19
  clear rS17 oG17 hb19 oU17
  go_wp2_with fail
  refine (eqIntS_any xs _ _ w19 oH19.rdv rS19 (by rw [unhide hnx]; omega)).mono ?_
  rintro e w20 ⟨rfl, hb20⟩
  have HT20 := HT19.trans (hb20.mono HT19.size)
  have oG20 := oG19.below hb20
  clear rS19 oG19 hb20 oH19
  go_wp2_with fail
  refine ((unhide K4) w20 oG20.rdv).mono ?_
  rintro e w21 ⟨rfl, hw21⟩
  have hw21' := hw21.symm
  subst hw21'
  clear hw21
  go_wp2
  go_ret
  exact ⟨rfl, HT20⟩
set_option maxRecDepth 20000 in
set_option maxHeartbeats 1000000 in
theorem lawMulNtt_any (a b : List Int) (va vb : Value) (CI : a.length ≤ 1048576 → b.length ≤ 1048576 → ∀ (W : World) (ua ub : Value), RdV W ua (a.map iv) → RdV W ub (b.map iv) → CapV ua → CapV ub → Calls Try.prog 18 #[ua, ub] W fun e w' => (∃ v, e = .returned v ∧ OwnV w' W.heap.size 3 v ((mnL a b).map iv)) ∧ Below W.heap.size W w') (w : World) (ra : RdV w va (a.map iv)) (rb : RdV w vb (b.map iv)) :
    Calls Try.prog 6 #[va, vb] w fun e w' => e = .returned (.bool true) ∧ Below w.heap.size w w' := by
  have CS := hide (fun (W : World) (ua ub : Value) (h1 : RdV W ua (a.map iv)) (h2 : RdV W ub (b.map iv)) => specMulNtt_any a b ua ub W h1 h2)
  have hxl := mnL_len a b
  generalize mnL a b = xs at *
  have RA := hide (fun (W : World) (h : Below w.heap.size w W) => ra.below h)
  have RB := hide (fun (W : World) (h : Below w.heap.size w W) => rb.below h)
  obtain ⟨a1, c1, rfl⟩ := ra.shape
  obtain ⟨a2, c2, rfl⟩ := rb.shape
  clear ra rb
  rw [List.length_map] at RA ⊢
  rw [List.length_map] at RB ⊢
  by_cases h1 : (1048576 : Int) < (a.length : Int)
  · go_enter Try.func6, Try.ntmps6
    go_wp2
    go_ret
    exact ⟨rfl, Below.refl _ _⟩
  by_cases h2 : (1048576 : Int) < (b.length : Int)
  · go_enter Try.func6, Try.ntmps6
    go_wp2
    go_ret
    exact ⟨rfl, Below.refl _ _⟩
  have na : a.length ≤ 1048576 := by omega
  have nb : b.length ≤ 1048576 := by omega
  replace CI := hide (CI na nb)
  obtain ⟨n1, hn1⟩ : ∃ n, a.length = n := ⟨_, rfl⟩
  obtain ⟨n2, hn2⟩ : ∃ n, b.length = n := ⟨_, rfl⟩
  have TA := hide (fun (W : World) (h : Below w.heap.size w W) => toIntS_any a _ W (unhide RA W h) na)
  have TB := hide (fun (W : World) (h : Below w.heap.size w W) => toIntS_any b _ W (unhide RB W h) nb)
  rw [hn1] at TA h1 na ⊢
  rw [hn2] at TB h2 nb ⊢
  clear RA RB
  go_enter Try.func6, Try.ntmps6
  have HT0 := Below.refl w.heap.size w
  go_wp2_with fail
  refine ((unhide TA) w HT0).mono ?_
  rintro e w1 ⟨⟨pw1, qw1, rfl, ow1⟩, hbw1⟩
  have HTw1 := HT0.trans (hbw1.mono HT0.size)
  go_wp2_with fail
  refine ((unhide TB) w1 HTw1).mono ?_
  rintro e w2 ⟨⟨pw2, qw2, rfl, ow2⟩, hbw2⟩
  have HTw2 := HTw1.trans (hbw2.mono HTw1.size)
  have o1 := ow1.below hbw2
  go_wp2_with fail
  refine ((unhide CS) w2 _ _ o1.rdv ow2.rdv).mono ?_
  rintro e w3 ⟨⟨vS, rfl, oS⟩, hbw3⟩
  have HTw3 := HTw2.trans (hbw3.mono HTw2.size)
  have rS3 := oS.rdv
  have bS := fun k hk => (oS.loN k hk).2
  clear ow1 ow2 o1 oS hbw1 hbw2 hbw3 HTw1 HTw2 CS
  go_wp2_with fail
  refine ((unhide TA) w3 HTw3).mono ?_
  rintro e w4 ⟨⟨pw4, qw4, rfl, ow4⟩, hbw4⟩
  have HTw4 := HTw3.trans (hbw4.mono HTw3.size)
  have bX := fun k hk => ow4.loN k hk
  have rS4 := rS3.below hbw4
  have z34 := hbw4.size
  clear rS3 hbw4
  go_wp2_with fail
  refine ((unhide TB) w4 HTw4).mono ?_
  rintro e w5 ⟨⟨pw5, qw5, rfl, ow5⟩, hbw5⟩
  have HTw5 := HTw4.trans (hbw5.mono HTw4.size)
  have bY := fun k hk => ow5.loN k hk
  have rS5 := rS4.below hbw5
  have oX5 := ow4.below hbw5
  have z45 := hbw5.size
  clear rS4 ow4 hbw5
  go_wp2_with fail
  refine ((unhide CI) w5 _ _ oX5.rdv ow5.rdv oX5.capv ow5.capv).mono ?_
  rintro e w6 ⟨⟨vG, rfl, oG6⟩, hbw6⟩
  have HTw6 := HTw5.trans (hbw6.mono HTw5.size)
  have bG := fun k hk => (oG6.loN k hk).1
  have rS6 := rS5.below hbw6
  have oX6 := oX5.below hbw6
  have oY6 := ow5.below hbw6
  have z56 := hbw6.size
  clear rS5 oX5 ow5 hbw6
  go_wp2_with fail
  refine (eqIntS_any xs _ _ w6 oG6.rdv rS6 (by omega)).mono ?_
  rintro e w7 ⟨rfl, hbw7⟩
  have HTw7 := HTw6.trans (hbw7.mono HTw6.size)
  have rS7 := rS6.below hbw7
  have oX7 := oX6.below hbw7
  have oY7 := oY6.below hbw7
  have oG7 := oG6.below hbw7
  clear rS6 oX6 oY6 oG6 hbw7
  go_wp2_with fail
  refine ((unhide TA) w7 HTw7).mono ?_
  rintro e w8 ⟨⟨pw8, qw8, rfl, ow8⟩, hbw8⟩
  have HTw8 := HTw7.trans (hbw8.mono HTw7.size)
  have rS8 := rS7.below hbw8
  have oX8 := oX7.below hbw8
  have oY8 := oY7.below hbw8
  have oG8 := oG7.below hbw8
  clear rS7 oX7 oY7 oG7 hbw8
  go_wp2_with fail
  refine (eqIntS_any a _ _ w8 oX8.rdv ow8.rdv (by omega)).mono ?_
  rintro e w9 ⟨rfl, hbw9⟩
  have HTw9 := HTw8.trans (hbw9.mono HTw8.size)
  have rS9 := rS8.below hbw9
  have oX9 := oX8.below hbw9
  have oY9 := oY8.below hbw9
  have oG9 := oG8.below hbw9
  clear rS8 oX8 oY8 oG8 hbw9 ow8
  go_wp2_with fail
  refine ((unhide TB) w9 HTw9).mono ?_
  rintro e w10 ⟨⟨pw10, qw10, rfl, ow10⟩, hbw10⟩
  have HTw10 := HTw9.trans (hbw10.mono HTw9.size)
  have rS10 := rS9.below hbw10
  have oX10 := oX9.below hbw10
  have oY10 := oY9.below hbw10
  have oG10 := oG9.below hbw10
  clear rS9 oX9 oY9 oG9 hbw10
  go_wp2_with fail
  refine (eqIntS_any b _ _ w10 oY10.rdv ow10.rdv (by omega)).mono ?_
  rintro e w11 ⟨rfl, hbw11⟩
  have HTw11 := HTw10.trans (hbw11.mono HTw10.size)
  have rS11 := rS10.below hbw11
  have oX11 := oX10.below hbw11
  have oY11 := oY10.below hbw11
  have oG11 := oG10.below hbw11
  clear rS10 oX10 oY10 oG10 hbw11 ow10
  obtain ⟨M1, hM1⟩ : ∃ M, M = 1 + (a.map iv).length := ⟨_, rfl⟩
  have hM1' := hM1
  rw [List.length_map, hn1] at hM1'
  have hm1 : M1 ≤ 2000000 := by omega
  replace hM1' := hide hM1'
  have K1 := hide (markIntS_own _ w3.heap.size 1 M1 _ w11 hM1 (by rw [List.length_map, hn1]; omega) (by omega) oX11)
  rw [show ((1 : Nat) : Int) = 1 from rfl] at K1
  replace hM1 := hide hM1
  go_wp2_with fail
  refine (unhide K1).mono ?_
  rintro e w12 ⟨rfl, _, hg12⟩
  have rS12 := rS11.grown hg12 (fun k hk h => by have h1 := bS k hk; have h2 := bX k h; omega)
  have oY12 := oY11.grown hg12 (fun k hk h => by have h1 := bX k h; have h2 := bY k hk; omega)
  have oG12 := oG11.grown hg12 (fun k hk h => by have h1 := bX k h; have h2 := bG k hk; omega)
  have HTw12 := HTw11.grown hg12 HTw11.size (fun k hk => by have h2 := bX k hk; have := HTw3.size; omega)
  clear rS11 oX11 oY11 oG11 hg12 K1
  obtain ⟨M2, hM2⟩ : ∃ M, M = M1 + (b.map iv).length := ⟨_, rfl⟩
  have hM2' := hM2
  rw [List.length_map, hn2] at hM2'
  have hm2 : M2 ≤ 4000000 := by omega
  have hm20 : ¬ (M2 : Int) < 0 := by omega
  replace hM2' := hide hM2'
  have K2 := hide (markIntS_own _ w4.heap.size M1 M2 _ w12 hM2 (by rw [List.length_map, hn2]; omega) (by omega) oY12)
  replace hM2 := hide hM2
  go_wp2_with fail
  refine (unhide K2).mono ?_
  rintro e w13 ⟨rfl, _, hg13⟩
  have rS13 := rS12.grown hg13 (fun k hk h => by have h1 := bS k hk; have h2 := bY k h; omega)
  have oG13 := oG12.grown hg13 (fun k hk h => by have h1 := bY k h; have h2 := bG k hk; omega)
  have HTw13 := HTw12.grown hg13 HTw12.size (fun k hk => by have h2 := bY k hk; have := HTw3.size; omega)
  clear rS12 oY12 oG12 hg13 K2
  go_wp2_with fail
  refine (eqIntS_any xs _ _ w13 oG13.rdv rS13 (by omega)).mono ?_
  rintro e w14 ⟨rfl, hbw14⟩
  have HTw14 := HTw13.trans (hbw14.mono HTw13.size)
  have rS14 := rS13.below hbw14
  have oG14 := oG13.below hbw14
  clear rS13 oG13 hbw14
  obtain ⟨nx, hnx⟩ : ∃ n, xs.length = n := ⟨_, rfl⟩
  rw [hnx] at hxl
  obtain ⟨M3, hM3⟩ : ∃ M, M = 1 + (xs.map iv).length := ⟨_, rfl⟩
  have hM3' := hM3
  rw [List.length_map, hnx] at hM3'
  have hm3 : M3 ≤ 1000 := by omega
  have hm30 : ¬ (M3 : Int) < 0 := by omega
  have K3 := hide (markIntS_own _ w5.heap.size 1 M3 _ w14 hM3 (by rw [List.length_map, hnx]; omega) (by omega) oG14)
  rw [show ((1 : Nat) : Int) = 1 from rfl] at K3
  rw [List.length_map, hnx] at K3
  have K4 := hide (fun (W : World) (h : RdV W vG (mkI 1 nx)) => heldIntS_any vG 1 nx M3 W hM3' (by omega) (by omega) h)
  rw [show ((1 : Nat) : Int) = 1 from rfl] at K4
  replace hM3 := hide hM3; replace hM3' := hide hM3'; replace hnx := hide hnx
  go_wp2_with fail
  refine (unhide K3).mono ?_
  rintro e w15 ⟨rfl, oG15, hg15⟩
  have rS15 := rS14.grown hg15 (fun k hk h => by have h1 := bS k hk; have h2 := bG k h; omega)
  have HTw15 := HTw14.grown hg15 HTw14.size (fun k hk => by have h2 := bG k hk; have := HTw3.size; omega)
  clear rS14 oG14 hg15 K3
  go_wp2_with fail
  refine ((unhide K4) w15 oG15.rdv).mono ?_
  rintro e w16 ⟨rfl, hw16⟩
  have hw16' := hw16.symm
  subst hw16'
  clear hw16
  go_wp2_with fail
  refine ((unhide TA) w15 HTw15).mono ?_
  rintro e w17 ⟨⟨pw17, qw17, rfl, ow17⟩, hbw17⟩
  have HTw17 := HTw15.trans (hbw17.mono HTw15.size)
  have rS17 := rS15.below hbw17
  have oG17 := oG15.below hbw17
  clear rS15 oG15 hbw17
  go_wp2_with fail
  refine ((unhide TB) w17 HTw17).mono ?_
  rintro e w18 ⟨⟨pw18, qw18, rfl, ow18⟩, hbw18⟩
  have HTw18 := HTw17.trans (hbw18.mono HTw17.size)
  have rS18 := rS17.below hbw18
  have oG18 := oG17.below hbw18
  have oU18 := ow17.below hbw18
  clear rS17 oG17 hbw18 ow17
  go_wp2_with fail
  refine ((unhide CI) w18 _ _ oU18.rdv ow18.rdv oU18.capv ow18.capv).mono ?_
  rintro e w19 ⟨⟨vH, rfl, oH19⟩, hbw19⟩
  have HTw19 := HTw18.trans (hbw19.mono HTw18.size)
  have rS19 := rS18.below hbw19
  have oG19 := oG18.below hbw19
  clear rS18 oG18 hbw19 oU18 ow18
  go_wp2_with fail
  refine (eqIntS_any xs _ _ w19 oH19.rdv rS19 (by rw [unhide hnx]; omega)).mono ?_
  rintro e w20 ⟨rfl, hbw20⟩
  have HTw20 := HTw19.trans (hbw20.mono HTw19.size)
  have oG20 := oG19.below hbw20
  clear rS19 oG19 hbw20 oH19
  go_wp2_with fail
  refine ((unhide K4) w20 oG20.rdv).mono ?_
  rintro e w21 ⟨rfl, hw21⟩
  have hw21' := hw21.symm
  subst hw21'
  clear hw21
  go_wp2
  go_ret
  exact ⟨rfl, HTw20⟩
end Go.Proofs.Ytdannnkdapbefaq
