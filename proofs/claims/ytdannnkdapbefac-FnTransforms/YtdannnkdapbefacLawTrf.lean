/- The law FnTransforms, walked over the loaded program. -/
import Derived.Test.YtdannnkdapbefacDrawZ
import Derived.Test.YtdannnkdapbefacPlyI
import Derived.Test.YtdannnkdapbefacNttI
namespace Go.Proofs.Ytdannnkdapbefac
open Go.RowKit
theorem ok_lenT {l : List Int} (h : okPl l = true) : okPl l = true ∧ l.length ≤ 1048576 := ⟨h, by have := (okPl_yes h).1; omega⟩
set_option maxRecDepth 20000 in
set_option maxHeartbeats 800000 in
theorem lawTransforms_any (w : World) (o : Option Addr) (n c : Nat) (hs : Src w w.heap.size o n) :
    Calls Try.prog 8 #[.slice o n c] w fun e w' => e = .returned (.bool true) ∧ Below w.heap.size w w' := by
  have HS := hide hs
  clear hs
  by_cases hbig : (1048576 : Int) < (n : Int)
  · have hd : decide ((1048576 : Int) < (n : Int)) = true := by rw [decide_eq_true_iff]; exact hbig
    go_enter Try.func8, Try.ntmps8
    go_wp2_with (go_at_call 9; refine (big_any w o n c).mono ?_; rintro e w1 ⟨rfl, rfl⟩)
    go_ret
    exact ⟨rfl, Below.refl _ _⟩
  have hd : decide ((1048576 : Int) < (n : Int)) = false := by rw [decide_eq_false_iff_not]; exact hbig
  have hn : n ≤ 1048576 := by omega
  go_enter Try.func8, Try.ntmps8
  go_wp2_with fail
  refine (big_any w o n c).mono ?_
  rintro e w0 ⟨rfl, hw0⟩
  have hw0' := hw0.symm
  subst hw0'
  clear hw0
  go_wp2_with fail
  refine (drawPolys_any w o n c (unhide HS) hn).mono ?_
  rintro e w1 ⟨la, lb, lc, va, vb, vc, oka, okb, okc, rfl, rA1, rB1, rC1, hcap, HT1⟩
  have kA := ok_lenT oka
  have kB := ok_lenT okb
  have kC := ok_lenT okc
  clear HS
  clear rC1
  go_wp2_with fail
  refine (implNtt_any la _ kA.2 w1 rA1).mono ?_
  rintro e w2 ⟨⟨vX, rfl, oX⟩, hb2⟩
  have kX := ok_lenT (nttL_ok kA.1)
  have rX2 := oX.rdv
  have cX := hide oX.capv
  clear oX
  have HT2 := HT1.trans (hb2.mono HT1.size)
  have rA2 := rA1.below hb2
  have rB2 := rB1.below hb2
  clear rA1 rB1 hb2 HT1
  go_wp2_with fail
  refine (implNtt_any lb _ kB.2 w2 rB2).mono ?_
  rintro e w3 ⟨⟨vY, rfl, oY⟩, hb3⟩
  have kY := ok_lenT (nttL_ok kB.1)
  have rY3 := oY.rdv
  have cY := hide oY.capv
  clear oY
  have HT3 := HT2.trans (hb3.mono HT2.size)
  have rA3 := rA2.below hb3
  have rB3 := rB2.below hb3
  have rX3 := rX2.below hb3
  clear rA2 rB2 rX2 hb3 HT2
  go_wp2_with fail
  refine (implPolyOk_any (nttL la) _ kX.2 w3 rX3).mono ?_
  rintro e w4 ⟨rfl, hb4⟩
  rw [kX.1]
  have HT4 := HT3.trans (hb4.mono HT3.size)
  have rA4 := rA3.below hb4
  have rB4 := rB3.below hb4
  have rX4 := rX3.below hb4
  have rY4 := rY3.below hb4
  clear rA3 rB3 rX3 rY3 hb4 HT3
  go_wp2_with fail
  refine (implInvNtt_any (nttL la) _ kX.2 w4 rX4).mono ?_
  rintro e w5 ⟨⟨vT1, rfl, oT1⟩, hb5⟩
  have kT1 := ok_lenT (invL_ok kX.1)
  have rT15 := oT1.rdv
  clear oT1
  have HT5 := HT4.trans (hb5.mono HT4.size)
  have rA5 := rA4.below hb5
  have rB5 := rB4.below hb5
  have rX5 := rX4.below hb5
  have rY5 := rY4.below hb5
  clear rA4 rB4 rX4 rY4 hb5 HT4
  go_wp2_with fail
  refine (sameInts_any (invL (nttL la)) la (Nat.le_trans kA.2 (by omega)) _ _ w5 rT15 rA5).mono ?_
  rintro e w6 ⟨rfl, hb6⟩
  rw [show decide ((invL (nttL la)) = la) = true from decide_eq_true_iff.2 (inv_ntt oka)]
  have HT6 := HT5.trans (hb6.mono HT5.size)
  have rA6 := rA5.below hb6
  have rB6 := rB5.below hb6
  have rX6 := rX5.below hb6
  have rY6 := rY5.below hb6
  have rT16 := rT15.below hb6
  clear rA5 rB5 rX5 rY5 rT15 hb6 HT5
  clear rT16
  go_wp2_with fail
  refine (implInvNtt_any la _ kA.2 w6 rA6).mono ?_
  rintro e w7 ⟨⟨vT2, rfl, oT2⟩, hb7⟩
  have kT2 := ok_lenT (invL_ok kA.1)
  have rT27 := oT2.rdv
  clear oT2
  have HT7 := HT6.trans (hb7.mono HT6.size)
  have rA7 := rA6.below hb7
  have rB7 := rB6.below hb7
  have rX7 := rX6.below hb7
  have rY7 := rY6.below hb7
  clear rA6 rB6 rX6 rY6 hb7 HT6
  go_wp2_with fail
  refine (implNtt_any (invL la) _ kT2.2 w7 rT27).mono ?_
  rintro e w8 ⟨⟨vT3, rfl, oT3⟩, hb8⟩
  have kT3 := ok_lenT (nttL_ok kT2.1)
  have rT38 := oT3.rdv
  clear oT3
  have HT8 := HT7.trans (hb8.mono HT7.size)
  have rA8 := rA7.below hb8
  have rB8 := rB7.below hb8
  have rX8 := rX7.below hb8
  have rY8 := rY7.below hb8
  have rT28 := rT27.below hb8
  clear rA7 rB7 rX7 rY7 rT27 hb8 HT7
  go_wp2_with fail
  refine (sameInts_any (nttL (invL la)) la (Nat.le_trans kA.2 (by omega)) _ _ w8 rT38 rA8).mono ?_
  rintro e w9 ⟨rfl, hb9⟩
  rw [show decide ((nttL (invL la)) = la) = true from decide_eq_true_iff.2 (ntt_inv oka)]
  have HT9 := HT8.trans (hb9.mono HT8.size)
  have rA9 := rA8.below hb9
  have rB9 := rB8.below hb9
  have rX9 := rX8.below hb9
  have rY9 := rY8.below hb9
  have rT29 := rT28.below hb9
  have rT39 := rT38.below hb9
  clear rA8 rB8 rX8 rY8 rT28 rT38 hb9 HT8
  clear rT29
  clear rT39
  go_wp2_with fail
  refine (implMulNtt_any (nttL la) (nttL lb) _ _ kX.2 kY.2 w9 rX9 rY9 (unhide cX) (unhide cY)).mono ?_
  rintro e w10 ⟨⟨vT4, rfl, oT4⟩, hb10⟩
  have kT4 := ok_lenT (mnL_ok kX.1 kY.1)
  have rT410 := oT4.rdv
  clear oT4
  have HT10 := HT9.trans (hb10.mono HT9.size)
  have rA10 := rA9.below hb10
  have rB10 := rB9.below hb10
  have rX10 := rX9.below hb10
  have rY10 := rY9.below hb10
  clear rA9 rB9 rX9 rY9 hb10 HT9
  go_wp2_with fail
  refine (implInvNtt_any (mnL (nttL la) (nttL lb)) _ kT4.2 w10 rT410).mono ?_
  rintro e w11 ⟨⟨vT5, rfl, oT5⟩, hb11⟩
  have kT5 := ok_lenT (invL_ok kT4.1)
  have rT511 := oT5.rdv
  clear oT5
  have HT11 := HT10.trans (hb11.mono HT10.size)
  have rA11 := rA10.below hb11
  have rB11 := rB10.below hb11
  have rX11 := rX10.below hb11
  have rY11 := rY10.below hb11
  have rT411 := rT410.below hb11
  clear rA10 rB10 rX10 rY10 rT410 hb11 HT10
  clear rT411
  go_wp2_with fail
  refine (implPolyMul_any la lb _ _ kA.2 kB.2 w11 rA11 rB11 (unhide hcap).2.1).mono ?_
  rintro e w12 ⟨⟨vT6, rfl, oT6⟩, hb12⟩
  have kT6 := ok_lenT (mulL_ok kA.1 kB.1)
  have rT612 := oT6.rdv
  clear oT6
  have HT12 := HT11.trans (hb12.mono HT11.size)
  have rA12 := rA11.below hb12
  have rB12 := rB11.below hb12
  have rX12 := rX11.below hb12
  have rY12 := rY11.below hb12
  have rT512 := rT511.below hb12
  clear rA11 rB11 rX11 rY11 rT511 hb12 HT11
  go_wp2_with fail
  refine (sameInts_any (invL (mnL (nttL la) (nttL lb))) (mulL la lb) (Nat.le_trans kT6.2 (by omega)) _ _ w12 rT512 rT612).mono ?_
  rintro e w13 ⟨rfl, hb13⟩
  rw [show decide ((invL (mnL (nttL la) (nttL lb))) = (mulL la lb)) = true from decide_eq_true_iff.2 (inv_mul oka okb)]
  have HT13 := HT12.trans (hb13.mono HT12.size)
  have rA13 := rA12.below hb13
  have rB13 := rB12.below hb13
  have rX13 := rX12.below hb13
  have rY13 := rY12.below hb13
  have rT513 := rT512.below hb13
  have rT613 := rT612.below hb13
  clear rA12 rB12 rX12 rY12 rT512 rT612 hb13 HT12
  go_wp2
  go_ret
  exact ⟨rfl, HT13⟩
end Go.Proofs.Ytdannnkdapbefac
