/- The law FnRing, walked over the loaded program. -/
import Derived.Test.YtlbkfooogpmihacDrawZ
import Derived.Test.YtlbkfooogpmihacPlyI
namespace Go.Proofs.Ytlbkfooogpmihac
open Go.RowKit
theorem ok_len {l : List Int} (h : okPl l = true) : okPl l = true ∧ l.length ≤ 1048576 := ⟨h, by have := (okPl_yes h).1; omega⟩
set_option maxRecDepth 20000 in
set_option maxHeartbeats 800000 in
theorem lawRing_any (w : World) (o : Option Addr) (n c : Nat) (hs : Src w w.heap.size o n) :
    Calls Try.prog 4 #[.slice o n c] w fun e w' => e = .returned (.bool true) ∧ Below w.heap.size w w' := by
  have HS := hide hs
  clear hs
  by_cases hbig : (1048576 : Int) < (n : Int)
  · have hd : decide ((1048576 : Int) < (n : Int)) = true := by rw [decide_eq_true_iff]; exact hbig
    go_enter Try.func4, Try.ntmps4
    go_wp2_with (go_at_call 8; refine (big_any w o n c).mono ?_; rintro e w1 ⟨rfl, rfl⟩)
    go_ret
    exact ⟨rfl, Below.refl _ _⟩
  have hd : decide ((1048576 : Int) < (n : Int)) = false := by rw [decide_eq_false_iff_not]; exact hbig
  have hn : n ≤ 1048576 := by omega
  go_enter Try.func4, Try.ntmps4
  go_wp2_with fail
  refine (big_any w o n c).mono ?_
  rintro e w0 ⟨rfl, hw0⟩
  have hw0' := hw0.symm
  subst hw0'
  clear hw0
  go_wp2_with fail
  refine (drawPolys_any w o n c (unhide HS) hn).mono ?_
  rintro e w1 ⟨la, lb, lc, va, vb, vc, oka, okb, okc, rfl, rA1, rB1, rC1, hcap, HT1⟩
  have kA := ok_len oka
  have kB := ok_len okb
  have kC := ok_len okc
  clear HS
  go_wp2_with fail
  refine (implPolyAdd_any la lb _ _ kA.2 kB.2 w1 rA1 rB1).mono ?_
  rintro e w2 ⟨⟨vS, rfl, oS⟩, hb2⟩
  have kS := ok_len (addL_ok kA.1 kB.1)
  have rS2 := oS.rdv
  clear oS
  have HT2 := HT1.trans (hb2.mono HT1.size)
  have rA2 := rA1.below hb2
  have rB2 := rB1.below hb2
  have rC2 := rC1.below hb2
  clear rA1 rB1 rC1 hb2 HT1
  go_wp2_with fail
  refine (implPolyMul_any la lb _ _ kA.2 kB.2 w2 rA2 rB2 (unhide hcap).2.1).mono ?_
  rintro e w3 ⟨⟨vM, rfl, oM⟩, hb3⟩
  have kM := ok_len (mulL_ok kA.1 kB.1)
  have rM3 := oM.rdv
  clear oM
  have HT3 := HT2.trans (hb3.mono HT2.size)
  have rA3 := rA2.below hb3
  have rB3 := rB2.below hb3
  have rC3 := rC2.below hb3
  have rS3 := rS2.below hb3
  clear rA2 rB2 rC2 rS2 hb3 HT2
  go_wp2_with fail
  refine (implPolyOk_any la _ kA.2 w3 rA3).mono ?_
  rintro e w4 ⟨rfl, hb4⟩
  rw [kA.1]
  have HT4 := HT3.trans (hb4.mono HT3.size)
  have rA4 := rA3.below hb4
  have rB4 := rB3.below hb4
  have rC4 := rC3.below hb4
  have rS4 := rS3.below hb4
  have rM4 := rM3.below hb4
  clear rA3 rB3 rC3 rS3 rM3 hb4 HT3
  go_wp2_with fail
  refine (implPolyOk_any (addL la lb) _ kS.2 w4 rS4).mono ?_
  rintro e w5 ⟨rfl, hb5⟩
  rw [kS.1]
  have HT5 := HT4.trans (hb5.mono HT4.size)
  have rA5 := rA4.below hb5
  have rB5 := rB4.below hb5
  have rC5 := rC4.below hb5
  have rS5 := rS4.below hb5
  have rM5 := rM4.below hb5
  clear rA4 rB4 rC4 rS4 rM4 hb5 HT4
  go_wp2_with fail
  refine (implPolyOk_any (mulL la lb) _ kM.2 w5 rM5).mono ?_
  rintro e w6 ⟨rfl, hb6⟩
  rw [kM.1]
  have HT6 := HT5.trans (hb6.mono HT5.size)
  have rA6 := rA5.below hb6
  have rB6 := rB5.below hb6
  have rC6 := rC5.below hb6
  have rS6 := rS5.below hb6
  have rM6 := rM5.below hb6
  clear rA5 rB5 rC5 rS5 rM5 hb6 HT5
  go_wp2_with fail
  refine (implPolyAdd_any lb la _ _ kB.2 kA.2 w6 rB6 rA6).mono ?_
  rintro e w7 ⟨⟨vT1, rfl, oT1⟩, hb7⟩
  have kT1 := ok_len (addL_ok kB.1 kA.1)
  have rT17 := oT1.rdv
  clear oT1
  have HT7 := HT6.trans (hb7.mono HT6.size)
  have rA7 := rA6.below hb7
  have rB7 := rB6.below hb7
  have rC7 := rC6.below hb7
  have rS7 := rS6.below hb7
  have rM7 := rM6.below hb7
  clear rA6 rB6 rC6 rS6 rM6 hb7 HT6
  go_wp2_with fail
  refine (sameInts_any (addL la lb) (addL lb la) (Nat.le_trans kT1.2 (by omega)) _ _ w7 rS7 rT17).mono ?_
  rintro e w8 ⟨rfl, hb8⟩
  rw [show decide ((addL la lb) = (addL lb la)) = true from decide_eq_true_iff.2 (addL_comm oka okb)]
  have HT8 := HT7.trans (hb8.mono HT7.size)
  have rA8 := rA7.below hb8
  have rB8 := rB7.below hb8
  have rC8 := rC7.below hb8
  have rS8 := rS7.below hb8
  have rM8 := rM7.below hb8
  have rT18 := rT17.below hb8
  clear rA7 rB7 rC7 rS7 rM7 rT17 hb8 HT7
  clear rT18
  go_wp2_with fail
  refine (implPolyMul_any lb la _ _ kB.2 kA.2 w8 rB8 rA8 (unhide hcap).1).mono ?_
  rintro e w9 ⟨⟨vT2, rfl, oT2⟩, hb9⟩
  have kT2 := ok_len (mulL_ok kB.1 kA.1)
  have rT29 := oT2.rdv
  clear oT2
  have HT9 := HT8.trans (hb9.mono HT8.size)
  have rA9 := rA8.below hb9
  have rB9 := rB8.below hb9
  have rC9 := rC8.below hb9
  have rS9 := rS8.below hb9
  have rM9 := rM8.below hb9
  clear rA8 rB8 rC8 rS8 rM8 hb9 HT8
  go_wp2_with fail
  refine (sameInts_any (mulL la lb) (mulL lb la) (Nat.le_trans kT2.2 (by omega)) _ _ w9 rM9 rT29).mono ?_
  rintro e w10 ⟨rfl, hb10⟩
  rw [show decide ((mulL la lb) = (mulL lb la)) = true from decide_eq_true_iff.2 (mulL_comm oka okb)]
  have HT10 := HT9.trans (hb10.mono HT9.size)
  have rA10 := rA9.below hb10
  have rB10 := rB9.below hb10
  have rC10 := rC9.below hb10
  have rS10 := rS9.below hb10
  have rM10 := rM9.below hb10
  have rT210 := rT29.below hb10
  clear rA9 rB9 rC9 rS9 rM9 rT29 hb10 HT9
  clear rT210
  clear rM10
  go_wp2_with fail
  refine (implPolySub_any (addL la lb) lb _ _ kS.2 kB.2 w10 rS10 rB10).mono ?_
  rintro e w11 ⟨⟨vT3, rfl, oT3⟩, hb11⟩
  have kT3 := ok_len (subL_ok kS.1 kB.1)
  have rT311 := oT3.rdv
  clear oT3
  have HT11 := HT10.trans (hb11.mono HT10.size)
  have rA11 := rA10.below hb11
  have rB11 := rB10.below hb11
  have rC11 := rC10.below hb11
  have rS11 := rS10.below hb11
  clear rA10 rB10 rC10 rS10 hb11 HT10
  go_wp2_with fail
  refine (sameInts_any (subL (addL la lb) lb) la (Nat.le_trans kA.2 (by omega)) _ _ w11 rT311 rA11).mono ?_
  rintro e w12 ⟨rfl, hb12⟩
  rw [show decide ((subL (addL la lb) lb) = la) = true from decide_eq_true_iff.2 (pl_sub_add oka okb)]
  have HT12 := HT11.trans (hb12.mono HT11.size)
  have rA12 := rA11.below hb12
  have rB12 := rB11.below hb12
  have rC12 := rC11.below hb12
  have rS12 := rS11.below hb12
  have rT312 := rT311.below hb12
  clear rA11 rB11 rC11 rS11 rT311 hb12 HT11
  clear rT312
  clear rS12
  go_wp2_with fail
  refine (implPolyAdd_any la lb _ _ kA.2 kB.2 w12 rA12 rB12).mono ?_
  rintro e w13 ⟨⟨vT4, rfl, oT4⟩, hb13⟩
  have kT4 := ok_len (addL_ok kA.1 kB.1)
  have rT413 := oT4.rdv
  clear oT4
  have HT13 := HT12.trans (hb13.mono HT12.size)
  have rA13 := rA12.below hb13
  have rB13 := rB12.below hb13
  have rC13 := rC12.below hb13
  clear rA12 rB12 rC12 hb13 HT12
  go_wp2_with fail
  refine (implPolyMul_any (addL la lb) lc _ _ kT4.2 kC.2 w13 rT413 rC13 (unhide hcap).2.2).mono ?_
  rintro e w14 ⟨⟨vT5, rfl, oT5⟩, hb14⟩
  have kT5 := ok_len (mulL_ok kT4.1 kC.1)
  have rT514 := oT5.rdv
  clear oT5
  have HT14 := HT13.trans (hb14.mono HT13.size)
  have rA14 := rA13.below hb14
  have rB14 := rB13.below hb14
  have rC14 := rC13.below hb14
  have rT414 := rT413.below hb14
  clear rA13 rB13 rC13 rT413 hb14 HT13
  clear rT414
  go_wp2_with fail
  refine (implPolyMul_any la lc _ _ kA.2 kC.2 w14 rA14 rC14 (unhide hcap).2.2).mono ?_
  rintro e w15 ⟨⟨vT6, rfl, oT6⟩, hb15⟩
  have kT6 := ok_len (mulL_ok kA.1 kC.1)
  have rT615 := oT6.rdv
  clear oT6
  have HT15 := HT14.trans (hb15.mono HT14.size)
  have rA15 := rA14.below hb15
  have rB15 := rB14.below hb15
  have rC15 := rC14.below hb15
  have rT515 := rT514.below hb15
  clear rA14 rB14 rC14 rT514 hb15 HT14
  go_wp2_with fail
  refine (implPolyMul_any lb lc _ _ kB.2 kC.2 w15 rB15 rC15 (unhide hcap).2.2).mono ?_
  rintro e w16 ⟨⟨vT7, rfl, oT7⟩, hb16⟩
  have kT7 := ok_len (mulL_ok kB.1 kC.1)
  have rT716 := oT7.rdv
  clear oT7
  have HT16 := HT15.trans (hb16.mono HT15.size)
  have rA16 := rA15.below hb16
  have rB16 := rB15.below hb16
  have rC16 := rC15.below hb16
  have rT516 := rT515.below hb16
  have rT616 := rT615.below hb16
  clear rA15 rB15 rC15 rT515 rT615 hb16 HT15
  go_wp2_with fail
  refine (implPolyAdd_any (mulL la lc) (mulL lb lc) _ _ kT6.2 kT7.2 w16 rT616 rT716).mono ?_
  rintro e w17 ⟨⟨vT8, rfl, oT8⟩, hb17⟩
  have kT8 := ok_len (addL_ok kT6.1 kT7.1)
  have rT817 := oT8.rdv
  clear oT8
  have HT17 := HT16.trans (hb17.mono HT16.size)
  have rA17 := rA16.below hb17
  have rB17 := rB16.below hb17
  have rC17 := rC16.below hb17
  have rT517 := rT516.below hb17
  have rT617 := rT616.below hb17
  have rT717 := rT716.below hb17
  clear rA16 rB16 rC16 rT516 rT616 rT716 hb17 HT16
  clear rT617
  clear rT717
  go_wp2_with fail
  refine (sameInts_any (mulL (addL la lb) lc) (addL (mulL la lc) (mulL lb lc)) (Nat.le_trans kT8.2 (by omega)) _ _ w17 rT517 rT817).mono ?_
  rintro e w18 ⟨rfl, hb18⟩
  rw [show decide ((mulL (addL la lb) lc) = (addL (mulL la lc) (mulL lb lc))) = true from decide_eq_true_iff.2 (pl_mul_add oka okb okc)]
  have HT18 := HT17.trans (hb18.mono HT17.size)
  have rA18 := rA17.below hb18
  have rB18 := rB17.below hb18
  have rC18 := rC17.below hb18
  have rT518 := rT517.below hb18
  have rT818 := rT817.below hb18
  clear rA17 rB17 rC17 rT517 rT817 hb18 HT17
  clear rT518
  clear rT818
  go_wp2_with fail
  refine (implPolySub_any la lc _ _ kA.2 kC.2 w18 rA18 rC18).mono ?_
  rintro e w19 ⟨⟨vT9, rfl, oT9⟩, hb19⟩
  have kT9 := ok_len (subL_ok kA.1 kC.1)
  have rT919 := oT9.rdv
  clear oT9
  have HT19 := HT18.trans (hb19.mono HT18.size)
  have rA19 := rA18.below hb19
  have rB19 := rB18.below hb19
  have rC19 := rC18.below hb19
  clear rA18 rB18 rC18 hb19 HT18
  go_wp2_with fail
  refine (implPolySub_any lc lb _ _ kC.2 kB.2 w19 rC19 rB19).mono ?_
  rintro e w20 ⟨⟨vT10, rfl, oT10⟩, hb20⟩
  have kT10 := ok_len (subL_ok kC.1 kB.1)
  have rT1020 := oT10.rdv
  clear oT10
  have HT20 := HT19.trans (hb20.mono HT19.size)
  have rA20 := rA19.below hb20
  have rB20 := rB19.below hb20
  have rC20 := rC19.below hb20
  have rT920 := rT919.below hb20
  clear rA19 rB19 rC19 rT919 hb20 HT19
  go_wp2_with fail
  refine (implPolyAdd_any (subL la lc) (subL lc lb) _ _ kT9.2 kT10.2 w20 rT920 rT1020).mono ?_
  rintro e w21 ⟨⟨vT11, rfl, oT11⟩, hb21⟩
  have kT11 := ok_len (addL_ok kT9.1 kT10.1)
  have rT1121 := oT11.rdv
  clear oT11
  have HT21 := HT20.trans (hb21.mono HT20.size)
  have rA21 := rA20.below hb21
  have rB21 := rB20.below hb21
  have rC21 := rC20.below hb21
  have rT921 := rT920.below hb21
  have rT1021 := rT1020.below hb21
  clear rA20 rB20 rC20 rT920 rT1020 hb21 HT20
  clear rT921
  clear rT1021
  go_wp2_with fail
  refine (implPolySub_any la lb _ _ kA.2 kB.2 w21 rA21 rB21).mono ?_
  rintro e w22 ⟨⟨vT12, rfl, oT12⟩, hb22⟩
  have kT12 := ok_len (subL_ok kA.1 kB.1)
  have rT1222 := oT12.rdv
  clear oT12
  have HT22 := HT21.trans (hb22.mono HT21.size)
  have rA22 := rA21.below hb22
  have rB22 := rB21.below hb22
  have rC22 := rC21.below hb22
  have rT1122 := rT1121.below hb22
  clear rA21 rB21 rC21 rT1121 hb22 HT21
  go_wp2_with fail
  refine (sameInts_any (addL (subL la lc) (subL lc lb)) (subL la lb) (Nat.le_trans kT12.2 (by omega)) _ _ w22 rT1122 rT1222).mono ?_
  rintro e w23 ⟨rfl, hb23⟩
  rw [show decide ((addL (subL la lc) (subL lc lb)) = (subL la lb)) = true from decide_eq_true_iff.2 (pl_sub_sub oka okb okc)]
  have HT23 := HT22.trans (hb23.mono HT22.size)
  have rA23 := rA22.below hb23
  have rB23 := rB22.below hb23
  have rC23 := rC22.below hb23
  have rT1123 := rT1122.below hb23
  have rT1223 := rT1222.below hb23
  clear rA22 rB22 rC22 rT1122 rT1222 hb23 HT22
  go_wp2
  go_ret
  exact ⟨rfl, HT23⟩
end Go.Proofs.Ytlbkfooogpmihac
