/- The law FnLinear, walked over the loaded program. -/
import Derived.Test.YtdannnkdapbefadDrawZ
import Derived.Test.YtdannnkdapbefadPlyI
import Derived.Test.YtdannnkdapbefadNttI
namespace Go.Proofs.Ytdannnkdapbefad
open Go.RowKit
theorem ok_lenL {l : List Int} (h : okPl l = true) : okPl l = true ∧ l.length ≤ 1048576 := ⟨h, by have := (okPl_yes h).1; omega⟩
set_option maxRecDepth 20000 in
set_option maxHeartbeats 800000 in
theorem lawLinear_any (w : World) (o : Option Addr) (n c : Nat) (hs : Src w w.heap.size o n) :
    Calls Try.prog 3 #[.slice o n c] w fun e w' => e = .returned (.bool true) ∧ Below w.heap.size w w' := by
  have HS := hide hs
  clear hs
  by_cases hbig : (1048576 : Int) < (n : Int)
  · have hd : decide ((1048576 : Int) < (n : Int)) = true := by rw [decide_eq_true_iff]; exact hbig
    go_enter Try.func3, Try.ntmps3
    go_wp2_with (go_at_call 4; refine (big_any w o n c).mono ?_; rintro e w1 ⟨rfl, rfl⟩)
    go_ret
    exact ⟨rfl, Below.refl _ _⟩
  have hd : decide ((1048576 : Int) < (n : Int)) = false := by rw [decide_eq_false_iff_not]; exact hbig
  have hn : n ≤ 1048576 := by omega
  go_enter Try.func3, Try.ntmps3
  go_wp2_with fail
  refine (big_any w o n c).mono ?_
  rintro e w0 ⟨rfl, hw0⟩
  have hw0' := hw0.symm
  subst hw0'
  clear hw0
  go_wp2_with fail
  refine (drawPolys_any w o n c (unhide HS) hn).mono ?_
  rintro e w1 ⟨la, lb, lc, va, vb, vc, oka, okb, okc, rfl, rA1, rB1, rC1, hcap, HT1⟩
  have kA := ok_lenL oka
  have kB := ok_lenL okb
  have kC := ok_lenL okc
  clear HS
  go_wp2_with fail
  refine (implPolyAdd_any la lb _ _ kA.2 kB.2 w1 rA1 rB1).mono ?_
  rintro e w2 ⟨⟨vT0, rfl, oT0⟩, hb2⟩
  have kT0 := ok_lenL (addL_ok kA.1 kB.1)
  have rT02 := oT0.rdv
  clear oT0
  have HT2 := HT1.trans (hb2.mono HT1.size)
  have rA2 := rA1.below hb2
  have rB2 := rB1.below hb2
  have rC2 := rC1.below hb2
  clear rA1 rB1 rC1 hb2 HT1
  go_wp2_with fail
  refine (implNtt_any (addL la lb) _ kT0.2 w2 rT02).mono ?_
  rintro e w3 ⟨⟨vS, rfl, oS⟩, hb3⟩
  have kS := ok_lenL (nttL_ok kT0.1)
  have rS3 := oS.rdv
  clear oS
  have HT3 := HT2.trans (hb3.mono HT2.size)
  have rA3 := rA2.below hb3
  have rB3 := rB2.below hb3
  have rC3 := rC2.below hb3
  have rT03 := rT02.below hb3
  clear rA2 rB2 rC2 rT02 hb3 HT2
  clear rT03
  obtain ⟨saS, scS, shS⟩ := rS3.shape
  rw [List.length_map, (okPl_yes kS.1).1] at shS
  subst shS
  go_wp2_with fail
  refine (implNtt_any la _ kA.2 w3 rA3).mono ?_
  rintro e w4 ⟨⟨vU1, rfl, oU1⟩, hb4⟩
  have kU1 := ok_lenL (nttL_ok kA.1)
  have rU14 := oU1.rdv
  clear oU1
  have HT4 := HT3.trans (hb4.mono HT3.size)
  have rA4 := rA3.below hb4
  have rB4 := rB3.below hb4
  have rC4 := rC3.below hb4
  have rS4 := rS3.below hb4
  clear rA3 rB3 rC3 rS3 hb4 HT3
  go_wp2_with fail
  refine (implNtt_any lb _ kB.2 w4 rB4).mono ?_
  rintro e w5 ⟨⟨vU2, rfl, oU2⟩, hb5⟩
  have kU2 := ok_lenL (nttL_ok kB.1)
  have rU25 := oU2.rdv
  clear oU2
  have HT5 := HT4.trans (hb5.mono HT4.size)
  have rA5 := rA4.below hb5
  have rB5 := rB4.below hb5
  have rC5 := rC4.below hb5
  have rS5 := rS4.below hb5
  have rU15 := rU14.below hb5
  clear rA4 rB4 rC4 rS4 rU14 hb5 HT4
  go_wp2_with fail
  refine (implPolyAdd_any (nttL la) (nttL lb) _ _ kU1.2 kU2.2 w5 rU15 rU25).mono ?_
  rintro e w6 ⟨⟨vT, rfl, oT⟩, hb6⟩
  have kT := ok_lenL (addL_ok kU1.1 kU2.1)
  have rT6 := oT.rdv
  clear oT
  have HT6 := HT5.trans (hb6.mono HT5.size)
  have rA6 := rA5.below hb6
  have rB6 := rB5.below hb6
  have rC6 := rC5.below hb6
  have rS6 := rS5.below hb6
  have rU16 := rU15.below hb6
  have rU26 := rU25.below hb6
  clear rA5 rB5 rC5 rS5 rU15 rU25 hb6 HT5
  clear rU16
  clear rU26
  go_wp2_with fail
  refine (implPolyAdd_any la lb _ _ kA.2 kB.2 w6 rA6 rB6).mono ?_
  rintro e w7 ⟨⟨vV0, rfl, oV0⟩, hb7⟩
  have kV0 := ok_lenL (addL_ok kA.1 kB.1)
  have rV07 := oV0.rdv
  have cV0 := hide oV0.capv
  clear oV0
  have HT7 := HT6.trans (hb7.mono HT6.size)
  have rA7 := rA6.below hb7
  have rB7 := rB6.below hb7
  have rC7 := rC6.below hb7
  have rS7 := rS6.below hb7
  have rT7 := rT6.below hb7
  clear rA6 rB6 rC6 rS6 rT6 hb7 HT6
  go_wp2_with fail
  refine (implMulNtt_any (addL la lb) lc _ _ kV0.2 kC.2 w7 rV07 rC7 (unhide cV0) (unhide hcap).2.2).mono ?_
  rintro e w8 ⟨⟨vM, rfl, oM⟩, hb8⟩
  have kM := ok_lenL (mnL_ok kV0.1 kC.1)
  have rM8 := oM.rdv
  clear oM
  have HT8 := HT7.trans (hb8.mono HT7.size)
  have rA8 := rA7.below hb8
  have rB8 := rB7.below hb8
  have rC8 := rC7.below hb8
  have rS8 := rS7.below hb8
  have rT8 := rT7.below hb8
  have rV08 := rV07.below hb8
  clear rA7 rB7 rC7 rS7 rT7 rV07 hb8 HT7
  clear rV08
  obtain ⟨saM, scM, shM⟩ := rM8.shape
  rw [List.length_map, (okPl_yes kM.1).1] at shM
  subst shM
  go_wp2_with fail
  refine (implMulNtt_any la lc _ _ kA.2 kC.2 w8 rA8 rC8 (unhide hcap).1 (unhide hcap).2.2).mono ?_
  rintro e w9 ⟨⟨vN1, rfl, oN1⟩, hb9⟩
  have kN1 := ok_lenL (mnL_ok kA.1 kC.1)
  have rN19 := oN1.rdv
  clear oN1
  have HT9 := HT8.trans (hb9.mono HT8.size)
  have rA9 := rA8.below hb9
  have rB9 := rB8.below hb9
  have rC9 := rC8.below hb9
  have rS9 := rS8.below hb9
  have rT9 := rT8.below hb9
  have rM9 := rM8.below hb9
  clear rA8 rB8 rC8 rS8 rT8 rM8 hb9 HT8
  go_wp2_with fail
  refine (implMulNtt_any lb lc _ _ kB.2 kC.2 w9 rB9 rC9 (unhide hcap).2.1 (unhide hcap).2.2).mono ?_
  rintro e w10 ⟨⟨vN2, rfl, oN2⟩, hb10⟩
  have kN2 := ok_lenL (mnL_ok kB.1 kC.1)
  have rN210 := oN2.rdv
  clear oN2
  have HT10 := HT9.trans (hb10.mono HT9.size)
  have rA10 := rA9.below hb10
  have rB10 := rB9.below hb10
  have rC10 := rC9.below hb10
  have rS10 := rS9.below hb10
  have rT10 := rT9.below hb10
  have rM10 := rM9.below hb10
  have rN110 := rN19.below hb10
  clear rA9 rB9 rC9 rS9 rT9 rM9 rN19 hb10 HT9
  go_wp2_with fail
  refine (implPolyAdd_any (mnL la lc) (mnL lb lc) _ _ kN1.2 kN2.2 w10 rN110 rN210).mono ?_
  rintro e w11 ⟨⟨vN, rfl, oN⟩, hb11⟩
  have kN := ok_lenL (addL_ok kN1.1 kN2.1)
  have rN11 := oN.rdv
  clear oN
  have HT11 := HT10.trans (hb11.mono HT10.size)
  have rA11 := rA10.below hb11
  have rB11 := rB10.below hb11
  have rC11 := rC10.below hb11
  have rS11 := rS10.below hb11
  have rT11 := rT10.below hb11
  have rM11 := rM10.below hb11
  have rN111 := rN110.below hb11
  have rN211 := rN210.below hb11
  clear rA10 rB10 rC10 rS10 rT10 rM10 rN110 rN210 hb11 HT10
  clear rN111
  clear rN211
  go_wp2_with fail
  refine (sameInts_any (nttL (addL la lb)) (addL (nttL la) (nttL lb)) (Nat.le_trans kT.2 (by omega)) _ _ w11 rS11 rT11).mono ?_
  rintro e w12 ⟨rfl, hb12⟩
  rw [show decide ((nttL (addL la lb)) = (addL (nttL la) (nttL lb))) = true from decide_eq_true_iff.2 (ntt_add oka okb)]
  have HT12 := HT11.trans (hb12.mono HT11.size)
  have rA12 := rA11.below hb12
  have rB12 := rB11.below hb12
  have rC12 := rC11.below hb12
  have rS12 := rS11.below hb12
  have rT12 := rT11.below hb12
  have rM12 := rM11.below hb12
  have rN12 := rN11.below hb12
  clear rA11 rB11 rC11 rS11 rT11 rM11 rN11 hb12 HT11
  go_wp2_with fail
  refine (sameInts_any (mnL (addL la lb) lc) (addL (mnL la lc) (mnL lb lc)) (Nat.le_trans kN.2 (by omega)) _ _ w12 rM12 rN12).mono ?_
  rintro e w13 ⟨rfl, hb13⟩
  rw [show decide ((mnL (addL la lb) lc) = (addL (mnL la lc) (mnL lb lc))) = true from decide_eq_true_iff.2 (mn_add oka okb okc)]
  have HT13 := HT12.trans (hb13.mono HT12.size)
  have rA13 := rA12.below hb13
  have rB13 := rB12.below hb13
  have rC13 := rC12.below hb13
  have rS13 := rS12.below hb13
  have rT13 := rT12.below hb13
  have rM13 := rM12.below hb13
  have rN13 := rN12.below hb13
  clear rA12 rB12 rC12 rS12 rT12 rM12 rN12 hb13 HT12
  clear rS13
  clear rT13
  clear rN13
  go_wp2_with fail
  refine (implMulNtt_any la lc _ _ kA.2 kC.2 w13 rA13 rC13 (unhide hcap).1 (unhide hcap).2.2).mono ?_
  rintro e w14 ⟨⟨vR1, rfl, oR1⟩, hb14⟩
  have kR1 := ok_lenL (mnL_ok kA.1 kC.1)
  have rR114 := oR1.rdv
  clear oR1
  have HT14 := HT13.trans (hb14.mono HT13.size)
  have rA14 := rA13.below hb14
  have rB14 := rB13.below hb14
  have rC14 := rC13.below hb14
  have rM14 := rM13.below hb14
  clear rA13 rB13 rC13 rM13 hb14 HT13
  go_wp2_with fail
  refine (implMulNtt_any lc la _ _ kC.2 kA.2 w14 rC14 rA14 (unhide hcap).2.2 (unhide hcap).1).mono ?_
  rintro e w15 ⟨⟨vR2, rfl, oR2⟩, hb15⟩
  have kR2 := ok_lenL (mnL_ok kC.1 kA.1)
  have rR215 := oR2.rdv
  clear oR2
  have HT15 := HT14.trans (hb15.mono HT14.size)
  have rA15 := rA14.below hb15
  have rB15 := rB14.below hb15
  have rC15 := rC14.below hb15
  have rM15 := rM14.below hb15
  have rR115 := rR114.below hb15
  clear rA14 rB14 rC14 rM14 rR114 hb15 HT14
  go_wp2_with fail
  refine (sameInts_any (mnL la lc) (mnL lc la) (Nat.le_trans kR2.2 (by omega)) _ _ w15 rR115 rR215).mono ?_
  rintro e w16 ⟨rfl, hb16⟩
  rw [show decide ((mnL la lc) = (mnL lc la)) = true from decide_eq_true_iff.2 (mn_comm oka okc)]
  have HT16 := HT15.trans (hb16.mono HT15.size)
  have rA16 := rA15.below hb16
  have rB16 := rB15.below hb16
  have rC16 := rC15.below hb16
  have rM16 := rM15.below hb16
  have rR116 := rR115.below hb16
  have rR216 := rR215.below hb16
  clear rA15 rB15 rC15 rM15 rR115 rR215 hb16 HT15
  go_wp2
  go_ret
  exact ⟨rfl, HT16⟩
end Go.Proofs.Ytdannnkdapbefad
