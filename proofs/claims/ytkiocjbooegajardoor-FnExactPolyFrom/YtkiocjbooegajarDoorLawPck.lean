/- The laws FnExactPack, FnExactUnpack, FnExactPolyBytes, FnExactPolyFrom, walked over the loaded program; what the project's function answers is a premise. -/
import Derived.Test.YtkiocjbooegajarDoorPck5
import Derived.Test.YtkiocjbooegajarDoorInts9
namespace Go.Proofs.YtkiocjbooegajarDoor
open Go.RowKit
theorem OwnV.loP {w : World} {base : Nat} {e : TypeId} {v : Value} {xs : List Value} (h : OwnV w base e v xs) : ∀ k, v.ownBlock = some k → base ≤ k ∧ k < w.heap.size := fun k hk => World.ownsRow.lt h k hk
theorem upL_len (s : ByteArray) (bits n : Int) : (upL s bits n).length ≤ 1000 := by
  unfold upL
  by_cases h : upOk s bits n = true
  · rw [if_pos h, List.length_map]
    unfold upN
    rw [dig_len]
    unfold upOk at h
    simp only [Bool.and_eq_true, decide_eq_true_iff] at h
    omega
  · rw [if_neg h]; exact Nat.zero_le _
theorem pfL_len (s : ByteArray) : (pfL s).length ≤ 1000 := by
  unfold pfL
  split
  · exact upL_len s 12 256
  · exact Nat.zero_le _
set_option maxRecDepth 20000 in
set_option maxHeartbeats 1000000 in
theorem lawPolyBytes_any (a : List Int) (va : Value) (w : World) (CI : a.length ≤ 1048576 → ∀ (W : World), Below w.heap.size w W → ∀ (ua : Value), RdV W ua (a.map iv) → Calls Tryd.prog 7 #[ua] W fun e w' => e = .returned (.string (polB a)) ∧ Below W.heap.size W w') (ra : RdV w va (a.map iv)) :
    Calls Tryd.prog 3 #[va] w fun e w' => e = .returned (.bool true) ∧ Below w.heap.size w w' := by
  have RA := hide (fun (W : World) (h : Below w.heap.size w W) => ra.below h)
  obtain ⟨a1, c1, rfl⟩ := ra.shape
  clear ra
  rw [List.length_map] at RA ⊢
  by_cases h1 : (1048576 : Int) < (a.length : Int)
  · go_enter Tryd.func3, Tryd.ntmps3
    go_wp2
    go_ret
    exact ⟨rfl, Below.refl _ _⟩
  have na : a.length ≤ 1048576 := by omega
  have CS := hide (fun (W : World) (ua : Value) (h1 : RdV W ua (a.map iv)) => specPolyBytes_any a ua W h1)
  replace CI := hide (CI na)
  generalize polB a = rs at *
  obtain ⟨n1, hn1⟩ : ∃ n, a.length = n := ⟨_, rfl⟩
  have TA := hide (fun (W : World) (h : Below w.heap.size w W) => toIntS_any a _ W (unhide RA W h) na)
  rw [hn1] at TA h1 na ⊢
  clear RA
  have HT0 := Below.refl w.heap.size w
  go_enter Tryd.func3, Tryd.ntmps3
  go_wp2_with fail
  refine ((unhide TA) w HT0).mono ?_
  rintro e w1 ⟨⟨p1, q1, rfl, o1⟩, hb1⟩
  have HT1 := HT0.trans (hb1.mono HT0.size)
  clear hb1
  go_wp2_with fail
  refine ((unhide CS) w1 _ o1.rdv).mono ?_
  rintro e w3 ⟨rfl, hb3⟩
  have HT3 := HT1.trans (hb3.mono HT1.size)
  clear o1 hb3 HT1 CS
  go_wp2_with fail
  refine ((unhide TA) w3 HT3).mono ?_
  rintro e w4 ⟨⟨p4, q4, rfl, oX4⟩, hb4⟩
  have HT4 := HT3.trans (hb4.mono HT3.size)
  clear hb4
  go_wp2_with fail
  refine ((unhide CI) w4 HT4 _ oX4.rdv).mono ?_
  rintro e w6 ⟨rfl, hb6⟩
  have HT6 := HT4.trans (hb6.mono HT4.size)
  have oX6 := oX4.below hb6
  clear oX4 hb6
  go_wp2_with fail
  refine ((unhide TA) w6 HT6).mono ?_
  rintro e w8 ⟨⟨p8, q8, rfl, o8⟩, hb8⟩
  have HT8 := HT6.trans (hb8.mono HT6.size)
  have oX8 := oX6.below hb8
  clear oX6 hb8
  go_wp2_with fail
  refine (eqIntS_any a _ _ w8 oX8.rdv o8.rdv (by omega)).mono ?_
  rintro e w11 ⟨rfl, hb11⟩
  have HT11 := HT8.trans (hb11.mono HT8.size)
  clear oX8 hb11 o8
  go_wp2
  go_ret
  exact ⟨rfl, HT11⟩
set_option maxRecDepth 20000 in
set_option maxHeartbeats 1000000 in
theorem lawPolyFrom_any (s : ByteArray) (w : World) (CI : s.size ≤ 1048576 → ∀ W : World, Below w.heap.size w W → Calls Tryd.prog 10 #[.string s] W fun e w' => (∃ v, e = .returned (.tuple #[v, .bool (pfOk s)]) ∧ OwnV w' W.heap.size 3 v ((pfL s).map iv)) ∧ Below W.heap.size W w') :
    Calls Tryd.prog 4 #[.string s] w fun e w' => e = .returned (.bool true) ∧ Below w.heap.size w w' := by
  by_cases h1 : (1048576 : Int) < (s.size : Int)
  · go_enter Tryd.func4, Tryd.ntmps4
    go_wp2
    go_ret
    exact ⟨rfl, Below.refl _ _⟩
  have hs : s.size ≤ 1048576 := by omega
  have CS := hide (fun W => specPolyFrom_any s hs W)
  replace CI := hide (CI hs)
  have hxl := pfL_len s
  generalize pfL s = xs at *
  generalize pfOk s = q at *
  have HT0 := Below.refl w.heap.size w
  go_enter Tryd.func4, Tryd.ntmps4
  go_wp2_with fail
  refine ((unhide CS) w).mono ?_
  rintro e w3 ⟨⟨vS, rfl, oS⟩, hb3⟩
  have HT3 := HT0.trans (hb3.mono HT0.size)
  have rS3 := oS.rdv
  have bS := fun k hk => (oS.loP k hk).2
  clear oS hb3 CS
  go_wp2_with fail
  refine ((unhide CI) w3 HT3).mono ?_
  rintro e w6 ⟨⟨vG, rfl, oG6⟩, hb6⟩
  have HT6 := HT3.trans (hb6.mono HT3.size)
  have bG := fun k hk => (oG6.loP k hk).1
  have rS6 := rS3.below hb6
  clear rS3 hb6
  go_wp2_with fail
  refine (eqIntS_any xs _ _ w6 oG6.rdv rS6 (by omega)).mono ?_
  rintro e w14 ⟨rfl, hb14⟩
  have HT14 := HT6.trans (hb14.mono HT6.size)
  have rS14 := rS6.below hb14
  have oG14 := oG6.below hb14
  clear rS6 oG6 hb14
  obtain ⟨nx, hnx⟩ : ∃ n, xs.length = n := ⟨_, rfl⟩
  rw [hnx] at hxl
  obtain ⟨M3, hM3⟩ : ∃ M, M = 1 + (xs.map iv).length := ⟨_, rfl⟩
  have hM3' := hM3
  rw [List.length_map, hnx] at hM3'
  have hm3 : M3 ≤ 1001 := by omega
  have hm30 : ¬ (M3 : Int) < 0 := by omega
  have K3 := hide (markIntS_own _ w3.heap.size 1 M3 _ w14 hM3 (by rw [List.length_map, hnx]; omega) (by omega) oG14)
  rw [show ((1 : Nat) : Int) = 1 from rfl] at K3
  rw [List.length_map, hnx] at K3
  have K4 := hide (fun (W : World) (h : RdV W vG (mkI 1 nx)) => heldIntS_any vG 1 nx M3 W hM3' (by omega) (by omega) h)
  rw [show ((1 : Nat) : Int) = 1 from rfl] at K4
  replace hM3 := hide hM3; replace hM3' := hide hM3'; replace hnx := hide hnx
  go_wp2_with fail
  refine (unhide K3).mono ?_
  rintro e w15 ⟨rfl, oG15, hg15⟩
  have rS15 := rS14.grown hg15 (fun k hk h => by have h1 := bS k hk; have h2 := bG k h; omega)
  have HT15 := HT14.grown hg15 HT14.size (fun k hk => by have h2 := bG k hk; have := HT3.size; omega)
  clear rS14 oG14 hg15 K3
  go_wp2_with fail
  refine ((unhide K4) w15 oG15.rdv).mono ?_
  rintro e w16 ⟨rfl, hw16⟩
  have hw16' := hw16.symm
  subst hw16'
  clear hw16
  go_wp2_with fail
  refine ((unhide CI) w15 HT15).mono ?_
  rintro e w19 ⟨⟨vH, rfl, oH19⟩, hb19⟩
  have HT19 := HT15.trans (hb19.mono HT15.size)
  have rS19 := rS15.below hb19
  have oG19 := oG15.below hb19
  clear rS15 oG15 hb19
  go_wp2_with fail
  refine (eqIntS_any xs _ _ w19 oH19.rdv rS19 (by rw [unhide hnx]; omega)).mono ?_
  rintro e w20 ⟨rfl, hb20⟩
  have HT20 := HT19.trans (hb20.mono HT19.size)
  have oG20 := oG19.below hb20
  clear rS19 oG19 hb20 oH19
  go_wp2_with fail
  refine ((unhide K4) w20 oG20.rdv).mono ?_
  rintro e w21 ⟨rfl, hw21⟩
  have hw21' := hw21.symm
  subst hw21'
  clear hw21
  go_wp2
  go_ret
  exact ⟨rfl, HT20⟩
end Go.Proofs.YtkiocjbooegajarDoor
