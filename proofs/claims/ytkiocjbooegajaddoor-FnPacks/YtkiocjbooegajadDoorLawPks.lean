/- The law FnPacks, walked over the loaded program. -/
import Derived.Test.YtkiocjbooegajadDoorDrawU
import Derived.Test.YtkiocjbooegajadDoorDrawZ
import Derived.Test.YtkiocjbooegajadDoorPck6
import Derived.Test.YtkiocjbooegajadDoorPckG
import Derived.Test.YtkiocjbooegajadDoorLawPck
namespace Go.Proofs.YtkiocjbooegajadDoor
open Go.RowKit
set_option maxRecDepth 20000 in
set_option maxHeartbeats 800000 in
theorem lawPacks_any (w : World) (o : Option Addr) (n c : Nat) (hs : Src w w.heap.size o n) (hL : LaidB w) :
    Calls Tryd.prog 3 #[.slice o n c] w fun e w' => e = .returned (.bool true) ∧ Below w.heap.size w w' := by
  have HS := hide hs
  have HL := hide (fun (W : World) (h : Below w.heap.size w W) => hL.below h)
  clear hs hL
  by_cases hbig : (1048576 : Int) < (n : Int)
  · have hd : decide ((1048576 : Int) < (n : Int)) = true := by rw [decide_eq_true_iff]; exact hbig
    go_enter Tryd.func3, Tryd.ntmps3
    go_wp2_with (go_at_call 4; refine (big_any w o n c).mono ?_; rintro e w1 ⟨rfl, rfl⟩)
    go_ret
    exact ⟨rfl, Below.refl _ _⟩
  have hd : decide ((1048576 : Int) < (n : Int)) = false := by rw [decide_eq_false_iff_not]; exact hbig
  have hn : n ≤ 1048576 := by omega
  go_enter Tryd.func3, Tryd.ntmps3
  go_wp2_with fail
  refine (big_any w o n c).mono ?_
  rintro e w0 ⟨rfl, hw0⟩
  have hw0' := hw0.symm
  subst hw0'
  clear hw0
  go_wp2_with fail
  refine (drawPack_any w o n c (unhide HS) hn).mono ?_
  rintro e w1 ⟨l, m, v, hl, hm, rfl, hr, HT1⟩
  have HS1 := hide (((unhide HS).below HT1 (Nat.le_refl _)).up HT1.size)
  have hps := pkB_size9 l m hl hm
  obtain ⟨av, cv, hav, _⟩ := hr.open
  rw [List.length_map] at hav
  subst hav
  clear HS
  go_wp2_with fail
  refine (implPack_any l (m : Int) _ (by omega) w1 (unhide HL _ HT1) hr).mono ?_
  rintro e w2 ⟨rfl, hb2⟩
  have hr2 := hr.below hb2
  have HT2 := HT1.trans (hb2.mono HT1.size)
  have HS2 := hide (((unhide HS1).below hb2 (Nat.le_refl _)).up hb2.size)
  clear hr hb2 HT1 HS1
  have UP := hide (fun (h : pkOk l (m : Int) = true) => upOk_pkB h (show l.length ≤ 1000 by omega))
  have CP := hide (fun W va r => specPack_any l (m : Int) (by omega) va W r)
  generalize pkOk l (m : Int) = ok at *
  generalize pkB l (m : Int) = s at *
  go_wp2_with fail
  refine (implUnpack_any s (m : Int) (l.length : Int) (by omega) w2 (unhide HL _ HT2)).mono ?_
  rintro e w3 ⟨⟨vB, rfl, oB⟩, hb3⟩
  have rB3 := oB.rdv
  have hr3 := hr2.below hb3
  have HT3 := HT2.trans (hb3.mono HT2.size)
  have HS3 := hide (((unhide HS2).below hb3 (Nat.le_refl _)).up hb3.size)
  clear hr2 hb3 HT2 HS2 oB
  go_wp2_with fail
  refine (unhide CP w3 _ hr3).mono ?_
  rintro e w4 ⟨rfl, hb4⟩
  have rB4 := rB3.below hb4
  have hr4 := hr3.below hb4
  have HT4 := HT3.trans (hb4.mono HT3.size)
  have HS4 := hide (((unhide HS3).below hb4 (Nat.le_refl _)).up hb4.size)
  clear hr3 rB3 hb4 HT3 HS3 CP
  cases ok with
  | true =>
    obtain ⟨U1, U2⟩ := unhide UP rfl
    rw [U2] at rB4
    rw [U1]
    clear U1 U2 UP
    go_wp2_with fail
    refine (sameInts_any l l (by omega) _ _ w4 rB4 hr4).mono ?_
    rintro e w5 ⟨rfl, hb5⟩
    rw [show decide (l = l) = true by rw [decide_eq_true_iff]]
    have HT5 := HT4.trans (hb5.mono HT4.size)
    have HS5 := hide (((unhide HS4).below hb5 (Nat.le_refl _)).up hb5.size)
    clear HT4 HS4 hb5
    clear hr4 rB4
    go_wp2_with fail
    refine (drawUnpack_any w5 o n c (unhide HS5) hn).mono ?_
    rintro e w6 ⟨t, b, k, ht, rfl, hb6⟩
    have HT6 := HT5.trans (hb6.mono HT5.size)
    have HS6 := hide (((unhide HS5).below hb6 (Nat.le_refl _)).up hb6.size)
    clear HT5 HS5 hb6
    go_wp2_with fail
    refine (implUnpack_any t (b : Int) k (by omega) w6 (unhide HL _ HT6)).mono ?_
    rintro e w7 ⟨⟨vX, rfl, oX⟩, hb7⟩
    have rX := oX.rdv
    have hlx := upL_len t (b : Int) k
    have HT7 := HT6.trans (hb7.mono HT6.size)
    have HS7 := hide (((unhide HS6).below hb7 (Nat.le_refl _)).up hb7.size)
    clear HT6 HS6 hb7 oX
    have PU := hide (fun (h : upOk t (b : Int) k = true) => (pkB_upL h).2)
    have CU := hide (fun W => specUnpack_any t (b : Int) k (by omega) W)
    generalize upL t (b : Int) k = lx at *
    generalize upOk t (b : Int) k = may at *
    go_wp2_with fail
    refine (implPack_any lx (b : Int) _ (by omega) w7 (unhide HL _ HT7) rX).mono ?_
    rintro e w8 ⟨rfl, hb8⟩
    have HT8 := HT7.trans (hb8.mono HT7.size)
    have HS8 := hide (((unhide HS7).below hb8 (Nat.le_refl _)).up hb8.size)
    clear HT7 HS7 hb8 rX
    generalize pkB lx (b : Int) = again at *
    generalize pkOk lx (b : Int) = q2 at *
    go_wp2_with fail
    refine (unhide CU w8).mono ?_
    rintro e w9 ⟨⟨vY, rfl, _⟩, hb9⟩
    have HT9 := HT8.trans (hb9.mono HT8.size)
    have HS9 := hide (((unhide HS8).below hb9 (Nat.le_refl _)).up hb9.size)
    clear HT8 HS8 hb9 CU
    go_wp2_with fail
    refine (drawPolys_any w9 o n c (unhide HS9) hn).mono ?_
    rintro e w10 ⟨la, lb, lc, va, vb, vc, oka, _, _, rfl, rA, _, _, _, hb10⟩
    have HT10 := HT9.trans (hb10.mono HT9.size)
    clear HT9 HS9 hb10
    have hla : la.length = 256 := (okPl_yes oka).1
    obtain ⟨F1, F2, F3⟩ := pf_polB oka
    have CB := hide (fun W (h : Below w.heap.size w W) r => implPolyBytes_any la va (by omega) W (unhide HL W h) r)
    have CF := hide (fun W (h : Below w.heap.size w W) => implPolyFrom_any (polB la) (by omega) W (unhide HL W h))
    rw [F1, F2] at CF
    clear F1 F2
    generalize polB la = pb at *
    go_wp2_with fail
    refine (unhide CB w10 HT10 rA).mono ?_
    rintro e w11 ⟨rfl, hb11⟩
    have rA11 := rA.below hb11
    have HT11 := HT10.trans (hb11.mono HT10.size)
    clear HT10 hb11 rA
    go_wp2_with fail
    refine (unhide CF w11 HT11).mono ?_
    rintro e w12 ⟨⟨vp, rfl, oP⟩, hb12⟩
    have rP12 := oP.rdv
    have rA12 := rA11.below hb12
    have HT12 := HT11.trans (hb12.mono HT11.size)
    clear HT11 hb12 rA11 oP CF
    have CS := hide (sameInts_any la la (by omega) vp va w12 rP12 rA12)
    rw [show decide (la = la) = true by rw [decide_eq_true_iff]] at CS
    have CB2 := hide (fun W (h : Below w12.heap.size w12 W) => unhide CB W (HT12.trans (h.mono HT12.size)) (rA12.below h))
    have F3' : (pb.size : Int) = 384 := by omega
    cases may with
    | true =>
      have PU2 := unhide PU rfl
      subst PU2
      clear PU CB rP12 rA12
      go_wp2_with fail
      refine (unhide CS).mono ?_
      rintro e w13 ⟨rfl, hb13⟩
      have CB3 := hide (unhide CB2 w13 hb13)
      have HT13 := HT12.trans (hb13.mono HT12.size)
      clear HT12 hb13 CB2 CS
      go_wp2_with fail
      refine (unhide CB3).mono ?_
      rintro e w14 ⟨rfl, hb14⟩
      have HT14 := hide (HT13.trans (hb14.mono HT13.size))
      clear HT13 hb14 CB3
      go_wp2
      go_ret
      exact ⟨rfl, unhide HT14⟩
    | false =>
      clear PU CB rP12 rA12
      go_wp2_with fail
      refine (unhide CS).mono ?_
      rintro e w13 ⟨rfl, hb13⟩
      have CB3 := hide (unhide CB2 w13 hb13)
      have HT13 := HT12.trans (hb13.mono HT12.size)
      clear HT12 hb13 CB2 CS
      go_wp2_with fail
      refine (unhide CB3).mono ?_
      rintro e w14 ⟨rfl, hb14⟩
      have HT14 := hide (HT13.trans (hb14.mono HT13.size))
      clear HT13 hb14 CB3
      go_wp2
      go_ret
      exact ⟨rfl, unhide HT14⟩
  | false =>
    clear hr4 rB4 UP
    go_wp2_with fail
    refine (drawUnpack_any w4 o n c (unhide HS4) hn).mono ?_
    rintro e w6 ⟨t, b, k, ht, rfl, hb6⟩
    have HT6 := HT4.trans (hb6.mono HT4.size)
    have HS6 := hide (((unhide HS4).below hb6 (Nat.le_refl _)).up hb6.size)
    clear HT4 HS4 hb6
    go_wp2_with fail
    refine (implUnpack_any t (b : Int) k (by omega) w6 (unhide HL _ HT6)).mono ?_
    rintro e w7 ⟨⟨vX, rfl, oX⟩, hb7⟩
    have rX := oX.rdv
    have hlx := upL_len t (b : Int) k
    have HT7 := HT6.trans (hb7.mono HT6.size)
    have HS7 := hide (((unhide HS6).below hb7 (Nat.le_refl _)).up hb7.size)
    clear HT6 HS6 hb7 oX
    have PU := hide (fun (h : upOk t (b : Int) k = true) => (pkB_upL h).2)
    have CU := hide (fun W => specUnpack_any t (b : Int) k (by omega) W)
    generalize upL t (b : Int) k = lx at *
    generalize upOk t (b : Int) k = may at *
    go_wp2_with fail
    refine (implPack_any lx (b : Int) _ (by omega) w7 (unhide HL _ HT7) rX).mono ?_
    rintro e w8 ⟨rfl, hb8⟩
    have HT8 := HT7.trans (hb8.mono HT7.size)
    have HS8 := hide (((unhide HS7).below hb8 (Nat.le_refl _)).up hb8.size)
    clear HT7 HS7 hb8 rX
    generalize pkB lx (b : Int) = again at *
    generalize pkOk lx (b : Int) = q2 at *
    go_wp2_with fail
    refine (unhide CU w8).mono ?_
    rintro e w9 ⟨⟨vY, rfl, _⟩, hb9⟩
    have HT9 := HT8.trans (hb9.mono HT8.size)
    have HS9 := hide (((unhide HS8).below hb9 (Nat.le_refl _)).up hb9.size)
    clear HT8 HS8 hb9 CU
    go_wp2_with fail
    refine (drawPolys_any w9 o n c (unhide HS9) hn).mono ?_
    rintro e w10 ⟨la, lb, lc, va, vb, vc, oka, _, _, rfl, rA, _, _, _, hb10⟩
    have HT10 := HT9.trans (hb10.mono HT9.size)
    clear HT9 HS9 hb10
    have hla : la.length = 256 := (okPl_yes oka).1
    obtain ⟨F1, F2, F3⟩ := pf_polB oka
    have CB := hide (fun W (h : Below w.heap.size w W) r => implPolyBytes_any la va (by omega) W (unhide HL W h) r)
    have CF := hide (fun W (h : Below w.heap.size w W) => implPolyFrom_any (polB la) (by omega) W (unhide HL W h))
    rw [F1, F2] at CF
    clear F1 F2
    generalize polB la = pb at *
    go_wp2_with fail
    refine (unhide CB w10 HT10 rA).mono ?_
    rintro e w11 ⟨rfl, hb11⟩
    have rA11 := rA.below hb11
    have HT11 := HT10.trans (hb11.mono HT10.size)
    clear HT10 hb11 rA
    go_wp2_with fail
    refine (unhide CF w11 HT11).mono ?_
    rintro e w12 ⟨⟨vp, rfl, oP⟩, hb12⟩
    have rP12 := oP.rdv
    have rA12 := rA11.below hb12
    have HT12 := HT11.trans (hb12.mono HT11.size)
    clear HT11 hb12 rA11 oP CF
    have CS := hide (sameInts_any la la (by omega) vp va w12 rP12 rA12)
    rw [show decide (la = la) = true by rw [decide_eq_true_iff]] at CS
    have CB2 := hide (fun W (h : Below w12.heap.size w12 W) => unhide CB W (HT12.trans (h.mono HT12.size)) (rA12.below h))
    have F3' : (pb.size : Int) = 384 := by omega
    cases may with
    | true =>
      have PU2 := unhide PU rfl
      subst PU2
      clear PU CB rP12 rA12
      go_wp2_with fail
      refine (unhide CS).mono ?_
      rintro e w13 ⟨rfl, hb13⟩
      have CB3 := hide (unhide CB2 w13 hb13)
      have HT13 := HT12.trans (hb13.mono HT12.size)
      clear HT12 hb13 CB2 CS
      go_wp2_with fail
      refine (unhide CB3).mono ?_
      rintro e w14 ⟨rfl, hb14⟩
      have HT14 := hide (HT13.trans (hb14.mono HT13.size))
      clear HT13 hb14 CB3
      go_wp2
      go_ret
      exact ⟨rfl, unhide HT14⟩
    | false =>
      clear PU CB rP12 rA12
      go_wp2_with fail
      refine (unhide CS).mono ?_
      rintro e w13 ⟨rfl, hb13⟩
      have CB3 := hide (unhide CB2 w13 hb13)
      have HT13 := HT12.trans (hb13.mono HT12.size)
      clear HT12 hb13 CB2 CS
      go_wp2_with fail
      refine (unhide CB3).mono ?_
      rintro e w14 ⟨rfl, hb14⟩
      have HT14 := hide (HT13.trans (hb14.mono HT13.size))
      clear HT13 hb14 CB3
      go_wp2
      go_ret
      exact ⟨rfl, unhide HT14⟩
end Go.Proofs.YtkiocjbooegajadDoor
