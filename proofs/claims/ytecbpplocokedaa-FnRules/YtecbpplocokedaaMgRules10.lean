/- Merged: LawRul. -/
import Derived.Test.YtecbpplocokedaaMgRules1
import Derived.Test.YtecbpplocokedaaMgRules2
import Derived.Test.YtecbpplocokedaaMgRules3
import Derived.Test.YtecbpplocokedaaMgRules4
import Derived.Test.YtecbpplocokedaaMgRules5
import Derived.Test.YtecbpplocokedaaMgRules6
import Derived.Test.YtecbpplocokedaaMgRules7
import Derived.Test.YtecbpplocokedaaMgRules8
import Derived.Test.YtecbpplocokedaaMgRules9
import Derived.Deep.DeepCutAuto
import Derived.Deep.RegionHeld3
/- The laws FnRules, FnDefaults, walked over the loaded program; what the project's functions answer are premises. -/
namespace Go.Proofs.Ytecbpplocokedaa
open Go.RowKit
set_option maxRecDepth 20000 in
set_option maxHeartbeats 6400000 in
theorem lawRules_any (w : World) (o : Option Addr) (n c : Nat) (hs : Src w w.heap.size o n)
    (CC : ∀ (x : Th) (h f : Bool) (W : World), x.val.size ≤ 1048576 → Below w.heap.size w W → Calls Try.prog 11 #[.agg (thC x), .bool h, .bool f] W fun e w' => e = .returned (.tuple #[.agg (thC (chgT x h f)), .bool (chgOk x h f)]) ∧ Below W.heap.size W w')
    (CM : ∀ (x : Th) (d : Int) (W : World), x.val.size ≤ 1048576 → Below w.heap.size w W → Calls Try.prog 13 #[.agg (thC x), .int .i64 d] W fun e w' => e = .returned (.bool (mayB x d)) ∧ Below W.heap.size W w')
    (CO : ∀ (x : Th) (W : World), x.val.size ≤ 1048576 → Below w.heap.size w W → Calls Try.prog 15 #[.agg (thC x)] W fun e w' => e = .returned (.bool (thOk x)) ∧ Below W.heap.size W w') :
    Calls Try.prog 3 #[.slice o n c] w fun e w' => e = .returned (.bool true) ∧ Below w.heap.size w w' := by
  have HS := hide hs
  clear hs
  by_cases hbig : (1048576 : Int) < (n : Int)
  · have hd : decide ((1048576 : Int) < (n : Int)) = true := by rw [decide_eq_true_iff]; exact hbig
    go_enter Try.func3, Try.ntmps3
    go_wp2_with (go_at_call 9; refine (big_any w o n c).mono ?_; rintro e w1 ⟨rfl, rfl⟩)
    go_ret
    exact ⟨rfl, Below.refl _ _⟩
  · have hd : decide ((1048576 : Int) < (n : Int)) = false := by rw [decide_eq_false_iff_not]; exact hbig
    have hn : n ≤ 1048576 := by omega
    replace CC := hide CC; replace CM := hide CM; replace CO := hide CO
    go_enter Try.func3, Try.ntmps3
    go_wp2_with fail
    refine (big_any w o n c).mono ?_
    rintro e w0 ⟨rfl, hw0⟩
    have hw0' := hw0.symm
    subst hw0'
    clear hw0
    go_wp2_with fail
    refine (drawChange_any w o n c (unhide HS) hn).mono ?_
    rintro e w1 ⟨x, h, f, hD, rfl, T1⟩
    clear HS
    have hvz : x.val.size ≤ 1048576 := by have := hD; unfold DrT at this; omega
    have K0 := hide (fun W (q : Below w.heap.size w W) => unhide CC x h f W hvz q)
    have K1 := hide (fun W => specThingOk_any x W)
    have KM := hide (fun (d : Int) W (q : Below w.heap.size w W) => unhide CM x d W hvz q)
    have KS := hide (fun (d : Int) W => specMay_any x d W)
    have EO := chg_is x h f
    have F1 : mayB x 1 = true → x.hid = false := may_show
    have F2 : mayB x 2 = true → x.fix = false ∧ x.kind ≠ 2 := may_out
    have F3 : mayB x 3 = true → x.sgn = true := may_sign
    have F9 := may_nine x
    have FN := hide (fun e => @chg_no x h f e)
    have FY := hide (fun e => @chg_yes x h f e)
    have FK := hide (fun e => @chg_ok x h f e)
    have FM := hide (fun e => @chg_mono x h f e)
    have KY := hide (fun (e : chgOk x h f = true) (d : Int) W (q : Below w.heap.size w W) => unhide CM ⟨x.id, x.kind, h, f, x.sgn, x.wrp, x.val, x.nxt⟩ d W hvz q)
    have KO := hide (fun (e : chgOk x h f = true) W (q : Below w.heap.size w W) => unhide CO ⟨x.id, x.kind, h, f, x.sgn, x.wrp, x.val, x.nxt⟩ W hvz q)
    have F5 := hide (fun e => @may_five ⟨x.id, x.kind, h, f, x.sgn, x.wrp, x.val, x.nxt⟩ (@chg_ok x h f e))
    generalize mayB x = mx at *
    generalize thOk x = ox at *
    obtain ⟨Y, hY⟩ : ∃ Y, Y = chgT x h f := ⟨_, rfl⟩
    rw [← hY] at K0 FN FY
    generalize chgOk x h f = ok at *
    obtain ⟨id, kind, hid, fix, sgn, wrp, val, nxt⟩ := x
    dsimp only at EO F1 F2 F3 FY FK FM KY KO F5 hvz
    obtain ⟨yi, yk, yh, yf, ys, yw, yv, yn⟩ := Y
    simp only [thC]
    replace K0 := hide (show ∀ W, Below w.heap.size w W → Calls Try.prog 11 #[.agg #[.int .i64 id, .int .i64 kind, .bool hid, .bool fix, .bool sgn, .bool wrp, .string val, .int .i64 nxt], .bool h, .bool f] W (fun e w' => e = .returned (.tuple #[.agg #[.int .i64 yi, .int .i64 yk, .bool yh, .bool yf, .bool ys, .bool yw, .string yv, .int .i64 yn], .bool ok]) ∧ Below W.heap.size W w') from unhide K0)
    replace K1 := hide (show ∀ W, Calls Try.prog 12 #[.agg #[.int .i64 id, .int .i64 kind, .bool hid, .bool fix, .bool sgn, .bool wrp, .string val, .int .i64 nxt]] W (fun e w' => e = .returned (.bool ox) ∧ Below W.heap.size W w') from unhide K1)
    replace KM := hide (show ∀ (d : Int) W, Below w.heap.size w W → Calls Try.prog 13 #[.agg #[.int .i64 id, .int .i64 kind, .bool hid, .bool fix, .bool sgn, .bool wrp, .string val, .int .i64 nxt], .int .i64 d] W (fun e w' => e = .returned (.bool (mx d)) ∧ Below W.heap.size W w') from unhide KM)
    replace KS := hide (show ∀ (d : Int) W, Calls Try.prog 14 #[.agg #[.int .i64 id, .int .i64 kind, .bool hid, .bool fix, .bool sgn, .bool wrp, .string val, .int .i64 nxt], .int .i64 d] W (fun e w' => e = .returned (.bool (mx d)) ∧ Below W.heap.size W w') from unhide KS)
    replace hY := hide hY
    replace EO := hide EO
    clear CC CM CO hD
    go_wp2_with fail
    obtain ⟨W1, hW, hX1, hB1, hs1⟩ := one_cb w1 #[.int .i64 id, .int .i64 kind, .bool hid, .bool fix, .bool sgn, .bool wrp, .string val, .int .i64 nxt] 25
    rw [hW]
    clear hW
    have T2 := T1.trans (hB1.mono T1.size)
    obtain ⟨gx, hgx⟩ : ∃ g, g = w1.heap.size := ⟨_, rfl⟩
    have hgxl : w.heap.size ≤ gx := by have := T1.size; omega
    rw [← hgx] at hX1 ⊢
    clear T1 hB1 hs1 hgx
    refine (unhide K0 W1 T2).mono ?_
    rintro e w2 ⟨rfl, hb2⟩
    have T3 := T2.trans (hb2.mono T2.size)
    have hX2 := hX1.step hb2
    clear hb2 hX1 T2 K0
    go_upto_region 5 with fail
    obtain ⟨W2, hW, hY2, hB2, hs2⟩ := one_cb w2 #[.int .i64 yi, .int .i64 yk, .bool yh, .bool yf, .bool ys, .bool yw, .string yv, .int .i64 yn] 25
    rw [hW]
    clear hW
    have T4 := T3.trans (hB2.mono T3.size)
    have hX3 := hX2.step hB2
    obtain ⟨gy, hgy⟩ : ∃ g, g = w2.heap.size := ⟨_, rfl⟩
    rw [← hgy] at hY2 ⊢
    clear T3 hB2 hs2 hgy hX2
    go_cut [43] (fun t43 wx => t43 = .bool false ∧ Hid (CB wx gx 25 #[.int .i64 id, .int .i64 kind, .bool hid, .bool fix, .bool sgn, .bool wrp, .string val, .int .i64 nxt] ∧ CB wx gy 25 #[.int .i64 yi, .int .i64 yk, .bool yh, .bool yf, .bool ys, .bool yw, .string yv, .int .i64 yn] ∧ Below w.heap.size w wx))
    case first =>
      have x0 := hX3.cell 0 (v := (.int .i64 _)) rfl
      have x1 := hX3.cell 1 (v := (.int .i64 _)) rfl
      have x2 := hX3.cell 2 (v := (.bool _)) rfl
      have x3 := hX3.cell 3 (v := (.bool _)) rfl
      have x4 := hX3.cell 4 (v := (.bool _)) rfl
      have x5 := hX3.cell 5 (v := (.bool _)) rfl
      have x6 := hX3.cell 6 (v := (.string _)) rfl
      have x7 := hX3.cell 7 (v := (.int .i64 _)) rfl
      go_wp2_with fail
      refine (unhide K1 W2).mono ?_
      rintro e w3 ⟨rfl, hb3⟩
      have T5 := T4.trans (hb3.mono T4.size)
      have hX4 := hX3.step hb3
      have hY4 := hY2.step hb3
      have c2 := hX4.cell 2 (v := .bool hid) rfl
      have c3 := hX4.cell 3 (v := .bool fix) rfl
      have HF := hide (show CB w3 gx 25 #[.int .i64 id, .int .i64 kind, .bool hid, .bool fix, .bool sgn, .bool wrp, .string val, .int .i64 nxt] ∧ CB w3 gy 25 #[.int .i64 yi, .int .i64 yk, .bool yh, .bool yf, .bool ys, .bool yw, .string yv, .int .i64 yn] ∧ Below w.heap.size w w3 from ⟨hX4, hY4, T5⟩)
      clear hX3 hY2 T4 hb3 hX4 hY4 T5 K1 KM KS F1 F2 F3 F9 FN FY FK FM KY KO F5 hY x0 x1 x2 x3 x4 x5 x6 x7
      replace EO := unhide EO
      cases ox <;> cases h <;> cases hid <;> cases f <;> cases fix <;> (simp at EO; subst EO; go_wp2_with fail; go_meet; exact ⟨rfl, HF⟩)
    case rest =>
      obtain ⟨rfl, HF⟩ := hcut
      obtain ⟨hX5, hY5, T6⟩ := unhide HF
      clear HF hX3 hY2 T4 K1 EO
      go_upto_region 7 with fail
      go_cut [75] (fun t75 wx => t75 = .bool false ∧ Hid (CB wx gx 25 #[.int .i64 id, .int .i64 kind, .bool hid, .bool fix, .bool sgn, .bool wrp, .string val, .int .i64 nxt] ∧ CB wx gy 25 #[.int .i64 yi, .int .i64 yk, .bool yh, .bool yf, .bool ys, .bool yw, .string yv, .int .i64 yn] ∧ Below w.heap.size w wx))
      case first =>
        obtain ⟨b1, hb1⟩ : ∃ b, b = mx 1 := ⟨_, rfl⟩
        obtain ⟨b2, hb2⟩ : ∃ b, b = mx 2 := ⟨_, rfl⟩
        obtain ⟨b3, hb3⟩ : ∃ b, b = mx 3 := ⟨_, rfl⟩
        have M1 := hide (unhide KM 1)
        have M2 := hide (unhide KM 2)
        have M3 := hide (unhide KM 3)
        have M9 := hide (unhide KM 9)
        rw [← hb1] at M1 F1
        rw [← hb2] at M2 F2
        rw [← hb3] at M3 F3
        rw [F9] at M9
        clear hb1 hb2 hb3 KM KS F9 FN FY FK FM KY KO F5 hY
        cases b1 <;> cases b2 <;> cases b3
        all_goals
          try (have e1 := F1 rfl; subst e1)
          try (have e2 := (F2 rfl).1; subst e2)
          try (have hk2 : (kind == 2) = false := beq_eq_false_iff_ne.2 (F2 rfl).2)
          try (have e3 := F3 rfl; subst e3)
          have x0 := hX5.cell 0 (v := (.int .i64 _)) rfl
          have x1 := hX5.cell 1 (v := (.int .i64 _)) rfl
          have x2 := hX5.cell 2 (v := (.bool _)) rfl
          have x3 := hX5.cell 3 (v := (.bool _)) rfl
          have x4 := hX5.cell 4 (v := (.bool _)) rfl
          have x5 := hX5.cell 5 (v := (.bool _)) rfl
          have x6 := hX5.cell 6 (v := (.string _)) rfl
          have x7 := hX5.cell 7 (v := (.int .i64 _)) rfl
          go_wp2_with fail
          refine (unhide M1 _ T6).mono ?_
          rintro e v0 ⟨rfl, hb0⟩
          have Tv0 := T6.trans (hb0.mono T6.size)
          have Xv0 := hX5.step hb0
          have Yv0 := hY5.step hb0
          clear hb0 T6 hX5 hY5 x0 x1 x2 x3 x4 x5 x6 x7
          have x0 := Xv0.cell 0 (v := (.int .i64 _)) rfl
          have x1 := Xv0.cell 1 (v := (.int .i64 _)) rfl
          have x2 := Xv0.cell 2 (v := (.bool _)) rfl
          have x3 := Xv0.cell 3 (v := (.bool _)) rfl
          have x4 := Xv0.cell 4 (v := (.bool _)) rfl
          have x5 := Xv0.cell 5 (v := (.bool _)) rfl
          have x6 := Xv0.cell 6 (v := (.string _)) rfl
          have x7 := Xv0.cell 7 (v := (.int .i64 _)) rfl
          go_wp2_with fail
          refine (unhide M2 _ Tv0).mono ?_
          rintro e v1 ⟨rfl, hb1⟩
          have Tv1 := Tv0.trans (hb1.mono Tv0.size)
          have Xv1 := Xv0.step hb1
          have Yv1 := Yv0.step hb1
          clear hb1 Tv0 Xv0 Yv0 x0 x1 x2 x3 x4 x5 x6 x7
          have x0 := Xv1.cell 0 (v := (.int .i64 _)) rfl
          have x1 := Xv1.cell 1 (v := (.int .i64 _)) rfl
          have x2 := Xv1.cell 2 (v := (.bool _)) rfl
          have x3 := Xv1.cell 3 (v := (.bool _)) rfl
          have x4 := Xv1.cell 4 (v := (.bool _)) rfl
          have x5 := Xv1.cell 5 (v := (.bool _)) rfl
          have x6 := Xv1.cell 6 (v := (.string _)) rfl
          have x7 := Xv1.cell 7 (v := (.int .i64 _)) rfl
          go_wp2_with fail
          refine (unhide M3 _ Tv1).mono ?_
          rintro e v2 ⟨rfl, hb2⟩
          have Tv2 := Tv1.trans (hb2.mono Tv1.size)
          have Xv2 := Xv1.step hb2
          have Yv2 := Yv1.step hb2
          clear hb2 Tv1 Xv1 Yv1 x0 x1 x2 x3 x4 x5 x6 x7
          have x0 := Xv2.cell 0 (v := (.int .i64 _)) rfl
          have x1 := Xv2.cell 1 (v := (.int .i64 _)) rfl
          have x2 := Xv2.cell 2 (v := (.bool _)) rfl
          have x3 := Xv2.cell 3 (v := (.bool _)) rfl
          have x4 := Xv2.cell 4 (v := (.bool _)) rfl
          have x5 := Xv2.cell 5 (v := (.bool _)) rfl
          have x6 := Xv2.cell 6 (v := (.string _)) rfl
          have x7 := Xv2.cell 7 (v := (.int .i64 _)) rfl
          go_wp2_with fail
          refine (unhide M9 _ Tv2).mono ?_
          rintro e v3 ⟨rfl, hb3⟩
          have Tv3 := Tv2.trans (hb3.mono Tv2.size)
          have Xv3 := Xv2.step hb3
          have Yv3 := Yv2.step hb3
          clear hb3 Tv2 Xv2 Yv2 x0 x1 x2 x3 x4 x5 x6 x7
          have x0 := Xv3.cell 0 (v := (.int .i64 _)) rfl
          have x1 := Xv3.cell 1 (v := (.int .i64 _)) rfl
          have x2 := Xv3.cell 2 (v := (.bool _)) rfl
          have x3 := Xv3.cell 3 (v := (.bool _)) rfl
          have x4 := Xv3.cell 4 (v := (.bool _)) rfl
          have x5 := Xv3.cell 5 (v := (.bool _)) rfl
          have x6 := Xv3.cell 6 (v := (.string _)) rfl
          have x7 := Xv3.cell 7 (v := (.int .i64 _)) rfl
          go_wp2_with fail
          go_meet
          exact ⟨rfl, hide ⟨Xv3, Yv3, Tv3⟩⟩
      case rest =>
        obtain ⟨rfl, HF⟩ := hcut
        obtain ⟨hX6, hY6, T7⟩ := unhide HF
        clear HF hX5 hY5 T6 F1 F2 F3 F9
        cases ok with
        | false =>
          have eY := unhide FN rfl
          unfold thZ at eY
          injection eY with q1 q2 q3 q4 q5 q6 q7 q8
          subst q1
          have y0 := hY6.cell 0 (v := .int .i64 0) rfl
          clear KM KS FN FY FK FM KY KO F5 hY
          go_wp2
          go_ret
          exact ⟨rfl, T7⟩
        | true =>
          have eY := unhide FY rfl
          injection eY with q1 q2 q3 q4 q5 q6 q7 q8
          subst q1 q2 q3 q4 q5 q6 q7 q8
          have KY' := hide (unhide KY rfl)
          have KO' := hide (unhide KO rfl)
          have FM' := hide (unhide FM rfl)
          have FK' := unhide FK rfl
          have F5' := unhide F5 rfl
          generalize mayB ⟨yi, yk, yh, yf, ys, yw, yv, yn⟩ = my at *
          rw [FK'] at KO'
          replace KY' := hide (show ∀ (d : Int) W, Below w.heap.size w W → Calls Try.prog 13 #[.agg #[.int .i64 yi, .int .i64 yk, .bool yh, .bool yf, .bool ys, .bool yw, .string yv, .int .i64 yn], .int .i64 d] W (fun e w' => e = .returned (.bool (my d)) ∧ Below W.heap.size W w') from unhide KY')
          replace KM := hide (show ∀ (d : Int) W, Below w.heap.size w W → Calls Try.prog 13 #[.agg #[.int .i64 yi, .int .i64 yk, .bool hid, .bool fix, .bool ys, .bool yw, .string yv, .int .i64 yn], .int .i64 d] W (fun e w' => e = .returned (.bool (mx d)) ∧ Below W.heap.size W w') from unhide KM)
          replace KO' := hide (show ∀ W, Below w.heap.size w W → Calls Try.prog 15 #[.agg #[.int .i64 yi, .int .i64 yk, .bool yh, .bool yf, .bool ys, .bool yw, .string yv, .int .i64 yn]] W (fun e w' => e = .returned (.bool true) ∧ Below W.heap.size W w') from unhide KO')
          clear FN FY FK FM KY KO F5 hY FK'
          go_wp2_with fail
          go_loopw [8] (fun ti wr => ∃ k : Nat, k ≤ 7 ∧ ti = .int .i64 (k : Int) ∧ Hid (CB wr gx 25 #[.int .i64 yi, .int .i64 yk, .bool hid, .bool fix, .bool ys, .bool yw, .string yv, .int .i64 yn] ∧ CB wr gy 25 #[.int .i64 yi, .int .i64 yk, .bool yh, .bool yf, .bool ys, .bool yw, .string yv, .int .i64 yn] ∧ Below w.heap.size w wr)) (fun ti _ => 7 - (intOf ti).toNat)
          case atStart => exact ⟨0, by omega, rfl, hide ⟨hX6, hY6, T7⟩⟩
          case round =>
            clear hX6 hY6 T7
            obtain ⟨k, hk, rfl, HF⟩ := hrel
            obtain ⟨hX7, hY7, T8⟩ := unhide HF
            by_cases hlt : k < 7
            · have hk6 : (k : Int) ≤ 6 := by omega
              have t1 : IntKind.i64.wrap ((k : Int) + 1) = ((k + 1 : Nat) : Int) := by rw [IntKind.wrap_i64]; omega
              have C1 := hide (unhide KY' (k : Int))
              have C2 := hide (unhide KM (k : Int))
              have C3 := hide (unhide KS (k : Int))
              have FB := unhide FM' (k : Int)
              generalize my (k : Int) = by_ at *
              generalize mx (k : Int) = bx at *
              have KH := hide (fun (W' : World) (h : Below wr.heap.size wr W') => (show CB W' gx 25 #[.int .i64 yi, .int .i64 yk, .bool hid, .bool fix, .bool ys, .bool yw, .string yv, .int .i64 yn] ∧ CB W' gy 25 #[.int .i64 yi, .int .i64 yk, .bool yh, .bool yf, .bool ys, .bool yw, .string yv, .int .i64 yn] from ⟨hX7.step h, hY7.step h⟩))
              have HT0 := (Below.refl wr.heap.size wr).drew
              clear HF hX7 hY7 KY' KM KS FM' KO' F5' 
              cases by_ with
              | true =>
                have eb := FB rfl
                subst eb
                go_wp2_with fail
                refine wp_region_held_drew (S := fun W => CB W gx 25 #[.int .i64 yi, .int .i64 yk, .bool hid, .bool fix, .bool ys, .bool yw, .string yv, .int .i64 yn] ∧ CB W gy 25 #[.int .i64 yi, .int .i64 yk, .bool yh, .bool yf, .bool ys, .bool yw, .string yv, .int .i64 yn]) (by kernel_rfl) (unhide KH _ HT0) (fun hHeld => ?_)
                refine wpAnyH_take (i := 0) (v := .agg #[.int .i64 yi, .int .i64 yk, .bool yh, .bool yf, .bool ys, .bool yw, .string yv, .int .i64 yn]) rfl (by kernel_rfl) (by kernel_rfl) (by kernel_rfl) (fun _ _ _ h => h) (Or.inl ⟨by kernel_rfl, fun W hS => by obtain ⟨s4, s10⟩ := hS; have p0 := s10.cell 0 (v := (.int .i64 _)) rfl; have p1 := s10.cell 1 (v := (.int .i64 _)) rfl; have p2 := s10.cell 2 (v := (.bool _)) rfl; have p3 := s10.cell 3 (v := (.bool _)) rfl; have p4 := s10.cell 4 (v := (.bool _)) rfl; have p5 := s10.cell 5 (v := (.bool _)) rfl; have p6 := s10.cell 6 (v := (.string _)) rfl; have p7 := s10.cell 7 (v := (.int .i64 _)) rfl; go_simp⟩) hHeld ?_
                refine wpAnyH_take (i := 1) (v := .int .i64 (k : Int)) rfl (by kernel_rfl) (by kernel_rfl) (by kernel_rfl) (fun _ _ _ h => h) (Or.inl ⟨by kernel_rfl, fun W hS => by obtain ⟨s4, s10⟩ := hS; go_simp⟩) hHeld ?_
                refine wpAnyH_ready (rs := [2]) (by kernel_rfl) (by simp) ?_
                refine AllReadyH.cons rfl (fun K hK => ?_) AllReadyH.nil
                go_simp
                refine (unhide C1 _ (T8.trans (HT0.mono T8.size))).mono ?_
                rintro e ua ⟨rfl, hba⟩
                have HT0 := HT0.trans (hba.mono HT0.size)
                refine hK.out _ _ (unhide KH _ HT0) (fun hHeld => ?_)
                clear hK K hba
                refine wpAnyH_take (i := 3) (v := .bool true) rfl (by kernel_rfl) (by kernel_rfl) (by kernel_rfl) (fun _ _ _ h => h) (Or.inl ⟨by kernel_rfl, fun W hS => by obtain ⟨s4, s10⟩ := hS; go_simp⟩) hHeld ?_
                refine wpAnyH_take (i := 4) (v := .agg #[.int .i64 yi, .int .i64 yk, .bool hid, .bool fix, .bool ys, .bool yw, .string yv, .int .i64 yn]) rfl (by kernel_rfl) (by kernel_rfl) (by kernel_rfl) (fun _ _ _ h => h) (Or.inl ⟨by kernel_rfl, fun W hS => by obtain ⟨s4, s10⟩ := hS; have p0 := s4.cell 0 (v := (.int .i64 _)) rfl; have p1 := s4.cell 1 (v := (.int .i64 _)) rfl; have p2 := s4.cell 2 (v := (.bool _)) rfl; have p3 := s4.cell 3 (v := (.bool _)) rfl; have p4 := s4.cell 4 (v := (.bool _)) rfl; have p5 := s4.cell 5 (v := (.bool _)) rfl; have p6 := s4.cell 6 (v := (.string _)) rfl; have p7 := s4.cell 7 (v := (.int .i64 _)) rfl; go_simp⟩) hHeld ?_
                refine wpAnyH_take (i := 5) (v := .int .i64 (k : Int)) rfl (by kernel_rfl) (by kernel_rfl) (by kernel_rfl) (fun _ _ _ h => h) (Or.inl ⟨by kernel_rfl, fun W hS => by obtain ⟨s4, s10⟩ := hS; go_simp⟩) hHeld ?_
                refine wpAnyH_ready (rs := [6]) (by kernel_rfl) (by simp) ?_
                refine AllReadyH.cons rfl (fun K hK => ?_) AllReadyH.nil
                go_simp
                refine (unhide C2 _ (T8.trans (HT0.mono T8.size))).mono ?_
                rintro e ub ⟨rfl, hbb⟩
                have HT0 := HT0.trans (hbb.mono HT0.size)
                refine hK.out _ _ (unhide KH _ HT0) (fun hHeld => ?_)
                clear hK K hbb
                refine wpAnyH_take (i := 7) (v := .bool false) rfl (by kernel_rfl) (by kernel_rfl) (by kernel_rfl) (fun _ _ _ h => h) (Or.inl ⟨by kernel_rfl, fun W hS => by obtain ⟨s4, s10⟩ := hS; go_simp⟩) hHeld ?_
                refine wpAnyH_take (i := 8) (v := .bool false) rfl (by kernel_rfl) (by kernel_rfl) (by kernel_rfl) (fun _ _ _ h => h) (Or.inl ⟨by kernel_rfl, fun W hS => by obtain ⟨s4, s10⟩ := hS; go_simp⟩) hHeld ?_
                refine wpAnyH_take (i := 9) (v := .bool false) rfl (by kernel_rfl) (by kernel_rfl) (by kernel_rfl) (fun _ _ _ h => h) (Or.inl ⟨by kernel_rfl, fun W hS => by obtain ⟨s4, s10⟩ := hS; go_simp⟩) hHeld ?_
                refine wpAnyH_take (i := 10) (v := .agg #[.int .i64 yi, .int .i64 yk, .bool hid, .bool fix, .bool ys, .bool yw, .string yv, .int .i64 yn]) rfl (by kernel_rfl) (by kernel_rfl) (by kernel_rfl) (fun _ _ _ h => h) (Or.inl ⟨by kernel_rfl, fun W hS => by obtain ⟨s4, s10⟩ := hS; have p0 := s4.cell 0 (v := (.int .i64 _)) rfl; have p1 := s4.cell 1 (v := (.int .i64 _)) rfl; have p2 := s4.cell 2 (v := (.bool _)) rfl; have p3 := s4.cell 3 (v := (.bool _)) rfl; have p4 := s4.cell 4 (v := (.bool _)) rfl; have p5 := s4.cell 5 (v := (.bool _)) rfl; have p6 := s4.cell 6 (v := (.string _)) rfl; have p7 := s4.cell 7 (v := (.int .i64 _)) rfl; go_simp⟩) hHeld ?_
                refine wpAnyH_take (i := 11) (v := .int .i64 (k : Int)) rfl (by kernel_rfl) (by kernel_rfl) (by kernel_rfl) (fun _ _ _ h => h) (Or.inl ⟨by kernel_rfl, fun W hS => by obtain ⟨s4, s10⟩ := hS; go_simp⟩) hHeld ?_
                refine wpAnyH_take (i := 13) (v := .agg #[.int .i64 yi, .int .i64 yk, .bool hid, .bool fix, .bool ys, .bool yw, .string yv, .int .i64 yn]) rfl (by kernel_rfl) (by kernel_rfl) (by kernel_rfl) (fun _ _ _ h => h) (Or.inl ⟨by kernel_rfl, fun W hS => by obtain ⟨s4, s10⟩ := hS; have p0 := s4.cell 0 (v := (.int .i64 _)) rfl; have p1 := s4.cell 1 (v := (.int .i64 _)) rfl; have p2 := s4.cell 2 (v := (.bool _)) rfl; have p3 := s4.cell 3 (v := (.bool _)) rfl; have p4 := s4.cell 4 (v := (.bool _)) rfl; have p5 := s4.cell 5 (v := (.bool _)) rfl; have p6 := s4.cell 6 (v := (.string _)) rfl; have p7 := s4.cell 7 (v := (.int .i64 _)) rfl; go_simp⟩) hHeld ?_
                refine wpAnyH_take (i := 14) (v := .int .i64 (k : Int)) rfl (by kernel_rfl) (by kernel_rfl) (by kernel_rfl) (fun _ _ _ h => h) (Or.inl ⟨by kernel_rfl, fun W hS => by obtain ⟨s4, s10⟩ := hS; go_simp⟩) hHeld ?_
                refine wpAnyH_ready (rs := [12]) (by kernel_rfl) (by simp) ?_
                refine AllReadyH.cons rfl (fun K hK => ?_) AllReadyH.nil
                go_simp
                refine (unhide C2 _ (T8.trans (HT0.mono T8.size))).mono ?_
                rintro e uc ⟨rfl, hbc⟩
                have HT0 := HT0.trans (hbc.mono HT0.size)
                refine hK.out _ _ (unhide KH _ HT0) (fun hHeld => ?_)
                clear hK K hbc
                refine wpAnyH_ready (rs := [15]) (by kernel_rfl) (by simp) ?_
                refine AllReadyH.cons rfl (fun K hK => ?_) AllReadyH.nil
                go_simp
                refine (unhide C3 _).mono ?_
                rintro e ud ⟨rfl, hbd⟩
                have HT0 := HT0.trans (hbd.mono HT0.size)
                refine hK.out _ _ (unhide KH _ HT0) (fun hHeld => ?_)
                clear hK K hbd
                refine wpAnyH_take (i := 16) (v := .bool false) rfl (by kernel_rfl) (by kernel_rfl) (by kernel_rfl) (fun _ _ _ h => h) (Or.inl ⟨by kernel_rfl, fun W hS => by obtain ⟨s4, s10⟩ := hS; go_simp⟩) hHeld ?_
                refine wpAnyH_take (i := 17) (v := .bool false) rfl (by kernel_rfl) (by kernel_rfl) (by kernel_rfl) (fun _ _ _ h => h) (Or.inl ⟨by kernel_rfl, fun W hS => by obtain ⟨s4, s10⟩ := hS; go_simp⟩) hHeld ?_
                refine wpAnyH_done (by kernel_rfl) ?_ _
                simp only [Act.put, List.getElem_toArray, List.getElem_cons_zero, List.getElem_cons_succ, List.setIfInBounds_toArray, List.set_cons_zero, List.set_cons_succ]
                have T9 := T8.trans (HT0.mono T8.size)
                have HF := hide (show CB ud gx 25 #[.int .i64 yi, .int .i64 yk, .bool hid, .bool fix, .bool ys, .bool yw, .string yv, .int .i64 yn] ∧ CB ud gy 25 #[.int .i64 yi, .int .i64 yk, .bool yh, .bool yf, .bool ys, .bool yw, .string yv, .int .i64 yn] ∧ Below w.heap.size w ud from ⟨(unhide KH _ HT0).1, (unhide KH _ HT0).2, T9⟩)
                clear KH HT0 hHeld C1 C2 C3 T8 T9
                go_wp2
                go_roundw
                case rel => exact ⟨k + 1, by omega, by go_num, HF⟩
                case measure => simp [intOf]; omega
              | false =>
                clear FB
                cases bx with
                | true =>
                  go_wp2_with fail
                  refine wp_region_held_drew (S := fun W => CB W gx 25 #[.int .i64 yi, .int .i64 yk, .bool hid, .bool fix, .bool ys, .bool yw, .string yv, .int .i64 yn] ∧ CB W gy 25 #[.int .i64 yi, .int .i64 yk, .bool yh, .bool yf, .bool ys, .bool yw, .string yv, .int .i64 yn]) (by kernel_rfl) (unhide KH _ HT0) (fun hHeld => ?_)
                  refine wpAnyH_take (i := 0) (v := .agg #[.int .i64 yi, .int .i64 yk, .bool yh, .bool yf, .bool ys, .bool yw, .string yv, .int .i64 yn]) rfl (by kernel_rfl) (by kernel_rfl) (by kernel_rfl) (fun _ _ _ h => h) (Or.inl ⟨by kernel_rfl, fun W hS => by obtain ⟨s4, s10⟩ := hS; have p0 := s10.cell 0 (v := (.int .i64 _)) rfl; have p1 := s10.cell 1 (v := (.int .i64 _)) rfl; have p2 := s10.cell 2 (v := (.bool _)) rfl; have p3 := s10.cell 3 (v := (.bool _)) rfl; have p4 := s10.cell 4 (v := (.bool _)) rfl; have p5 := s10.cell 5 (v := (.bool _)) rfl; have p6 := s10.cell 6 (v := (.string _)) rfl; have p7 := s10.cell 7 (v := (.int .i64 _)) rfl; go_simp⟩) hHeld ?_
                  refine wpAnyH_take (i := 1) (v := .int .i64 (k : Int)) rfl (by kernel_rfl) (by kernel_rfl) (by kernel_rfl) (fun _ _ _ h => h) (Or.inl ⟨by kernel_rfl, fun W hS => by obtain ⟨s4, s10⟩ := hS; go_simp⟩) hHeld ?_
                  refine wpAnyH_ready (rs := [2]) (by kernel_rfl) (by simp) ?_
                  refine AllReadyH.cons rfl (fun K hK => ?_) AllReadyH.nil
                  go_simp
                  refine (unhide C1 _ (T8.trans (HT0.mono T8.size))).mono ?_
                  rintro e ua ⟨rfl, hba⟩
                  have HT0 := HT0.trans (hba.mono HT0.size)
                  refine hK.out _ _ (unhide KH _ HT0) (fun hHeld => ?_)
                  clear hK K hba
                  refine wpAnyH_take (i := 3) (v := .bool false) rfl (by kernel_rfl) (by kernel_rfl) (by kernel_rfl) (fun _ _ _ h => h) (Or.inl ⟨by kernel_rfl, fun W hS => by obtain ⟨s4, s10⟩ := hS; go_simp⟩) hHeld ?_
                  refine wpAnyH_take (i := 4) (v := undef) rfl (by kernel_rfl) (by kernel_rfl) (by kernel_rfl) (fun _ _ _ h => h) (Or.inr ⟨by kernel_rfl, rfl⟩) hHeld ?_
                  refine wpAnyH_take (i := 5) (v := undef) rfl (by kernel_rfl) (by kernel_rfl) (by kernel_rfl) (fun _ _ _ h => h) (Or.inr ⟨by kernel_rfl, rfl⟩) hHeld ?_
                  refine wpAnyH_take (i := 6) (v := undef) rfl (by kernel_rfl) (by kernel_rfl) (by kernel_rfl) (fun _ _ _ h => h) (Or.inr ⟨by kernel_rfl, rfl⟩) hHeld ?_
                  refine wpAnyH_take (i := 7) (v := undef) rfl (by kernel_rfl) (by kernel_rfl) (by kernel_rfl) (fun _ _ _ h => h) (Or.inr ⟨by kernel_rfl, rfl⟩) hHeld ?_
                  refine wpAnyH_take (i := 8) (v := .bool false) rfl (by kernel_rfl) (by kernel_rfl) (by kernel_rfl) (fun _ _ _ h => h) (Or.inl ⟨by kernel_rfl, fun W hS => by obtain ⟨s4, s10⟩ := hS; go_simp⟩) hHeld ?_
                  refine wpAnyH_take (i := 9) (v := .bool false) rfl (by kernel_rfl) (by kernel_rfl) (by kernel_rfl) (fun _ _ _ h => h) (Or.inl ⟨by kernel_rfl, fun W hS => by obtain ⟨s4, s10⟩ := hS; go_simp⟩) hHeld ?_
                  refine wpAnyH_take (i := 10) (v := .agg #[.int .i64 yi, .int .i64 yk, .bool hid, .bool fix, .bool ys, .bool yw, .string yv, .int .i64 yn]) rfl (by kernel_rfl) (by kernel_rfl) (by kernel_rfl) (fun _ _ _ h => h) (Or.inl ⟨by kernel_rfl, fun W hS => by obtain ⟨s4, s10⟩ := hS; have p0 := s4.cell 0 (v := (.int .i64 _)) rfl; have p1 := s4.cell 1 (v := (.int .i64 _)) rfl; have p2 := s4.cell 2 (v := (.bool _)) rfl; have p3 := s4.cell 3 (v := (.bool _)) rfl; have p4 := s4.cell 4 (v := (.bool _)) rfl; have p5 := s4.cell 5 (v := (.bool _)) rfl; have p6 := s4.cell 6 (v := (.string _)) rfl; have p7 := s4.cell 7 (v := (.int .i64 _)) rfl; go_simp⟩) hHeld ?_
                  refine wpAnyH_take (i := 11) (v := .int .i64 (k : Int)) rfl (by kernel_rfl) (by kernel_rfl) (by kernel_rfl) (fun _ _ _ h => h) (Or.inl ⟨by kernel_rfl, fun W hS => by obtain ⟨s4, s10⟩ := hS; go_simp⟩) hHeld ?_
                  refine wpAnyH_take (i := 13) (v := .agg #[.int .i64 yi, .int .i64 yk, .bool hid, .bool fix, .bool ys, .bool yw, .string yv, .int .i64 yn]) rfl (by kernel_rfl) (by kernel_rfl) (by kernel_rfl) (fun _ _ _ h => h) (Or.inl ⟨by kernel_rfl, fun W hS => by obtain ⟨s4, s10⟩ := hS; have p0 := s4.cell 0 (v := (.int .i64 _)) rfl; have p1 := s4.cell 1 (v := (.int .i64 _)) rfl; have p2 := s4.cell 2 (v := (.bool _)) rfl; have p3 := s4.cell 3 (v := (.bool _)) rfl; have p4 := s4.cell 4 (v := (.bool _)) rfl; have p5 := s4.cell 5 (v := (.bool _)) rfl; have p6 := s4.cell 6 (v := (.string _)) rfl; have p7 := s4.cell 7 (v := (.int .i64 _)) rfl; go_simp⟩) hHeld ?_
                  refine wpAnyH_take (i := 14) (v := .int .i64 (k : Int)) rfl (by kernel_rfl) (by kernel_rfl) (by kernel_rfl) (fun _ _ _ h => h) (Or.inl ⟨by kernel_rfl, fun W hS => by obtain ⟨s4, s10⟩ := hS; go_simp⟩) hHeld ?_
                  refine wpAnyH_ready (rs := [12]) (by kernel_rfl) (by simp) ?_
                  refine AllReadyH.cons rfl (fun K hK => ?_) AllReadyH.nil
                  go_simp
                  refine (unhide C2 _ (T8.trans (HT0.mono T8.size))).mono ?_
                  rintro e uc ⟨rfl, hbc⟩
                  have HT0 := HT0.trans (hbc.mono HT0.size)
                  refine hK.out _ _ (unhide KH _ HT0) (fun hHeld => ?_)
                  clear hK K hbc
                  refine wpAnyH_ready (rs := [15]) (by kernel_rfl) (by simp) ?_
                  refine AllReadyH.cons rfl (fun K hK => ?_) AllReadyH.nil
                  go_simp
                  refine (unhide C3 _).mono ?_
                  rintro e ud ⟨rfl, hbd⟩
                  have HT0 := HT0.trans (hbd.mono HT0.size)
                  refine hK.out _ _ (unhide KH _ HT0) (fun hHeld => ?_)
                  clear hK K hbd
                  refine wpAnyH_take (i := 16) (v := .bool false) rfl (by kernel_rfl) (by kernel_rfl) (by kernel_rfl) (fun _ _ _ h => h) (Or.inl ⟨by kernel_rfl, fun W hS => by obtain ⟨s4, s10⟩ := hS; go_simp⟩) hHeld ?_
                  refine wpAnyH_take (i := 17) (v := .bool false) rfl (by kernel_rfl) (by kernel_rfl) (by kernel_rfl) (fun _ _ _ h => h) (Or.inl ⟨by kernel_rfl, fun W hS => by obtain ⟨s4, s10⟩ := hS; go_simp⟩) hHeld ?_
                  refine wpAnyH_done (by kernel_rfl) ?_ _
                  simp only [Act.put, List.getElem_toArray, List.getElem_cons_zero, List.getElem_cons_succ, List.setIfInBounds_toArray, List.set_cons_zero, List.set_cons_succ]
                  have T9 := T8.trans (HT0.mono T8.size)
                  have HF := hide (show CB ud gx 25 #[.int .i64 yi, .int .i64 yk, .bool hid, .bool fix, .bool ys, .bool yw, .string yv, .int .i64 yn] ∧ CB ud gy 25 #[.int .i64 yi, .int .i64 yk, .bool yh, .bool yf, .bool ys, .bool yw, .string yv, .int .i64 yn] ∧ Below w.heap.size w ud from ⟨(unhide KH _ HT0).1, (unhide KH _ HT0).2, T9⟩)
                  clear KH HT0 hHeld C1 C2 C3 T8 T9
                  go_wp2
                  go_roundw
                  case rel => exact ⟨k + 1, by omega, by go_num, HF⟩
                  case measure => simp [intOf]; omega
                | false =>
                  go_wp2_with fail
                  refine wp_region_held_drew (S := fun W => CB W gx 25 #[.int .i64 yi, .int .i64 yk, .bool hid, .bool fix, .bool ys, .bool yw, .string yv, .int .i64 yn] ∧ CB W gy 25 #[.int .i64 yi, .int .i64 yk, .bool yh, .bool yf, .bool ys, .bool yw, .string yv, .int .i64 yn]) (by kernel_rfl) (unhide KH _ HT0) (fun hHeld => ?_)
                  refine wpAnyH_take (i := 0) (v := .agg #[.int .i64 yi, .int .i64 yk, .bool yh, .bool yf, .bool ys, .bool yw, .string yv, .int .i64 yn]) rfl (by kernel_rfl) (by kernel_rfl) (by kernel_rfl) (fun _ _ _ h => h) (Or.inl ⟨by kernel_rfl, fun W hS => by obtain ⟨s4, s10⟩ := hS; have p0 := s10.cell 0 (v := (.int .i64 _)) rfl; have p1 := s10.cell 1 (v := (.int .i64 _)) rfl; have p2 := s10.cell 2 (v := (.bool _)) rfl; have p3 := s10.cell 3 (v := (.bool _)) rfl; have p4 := s10.cell 4 (v := (.bool _)) rfl; have p5 := s10.cell 5 (v := (.bool _)) rfl; have p6 := s10.cell 6 (v := (.string _)) rfl; have p7 := s10.cell 7 (v := (.int .i64 _)) rfl; go_simp⟩) hHeld ?_
                  refine wpAnyH_take (i := 1) (v := .int .i64 (k : Int)) rfl (by kernel_rfl) (by kernel_rfl) (by kernel_rfl) (fun _ _ _ h => h) (Or.inl ⟨by kernel_rfl, fun W hS => by obtain ⟨s4, s10⟩ := hS; go_simp⟩) hHeld ?_
                  refine wpAnyH_ready (rs := [2]) (by kernel_rfl) (by simp) ?_
                  refine AllReadyH.cons rfl (fun K hK => ?_) AllReadyH.nil
                  go_simp
                  refine (unhide C1 _ (T8.trans (HT0.mono T8.size))).mono ?_
                  rintro e ua ⟨rfl, hba⟩
                  have HT0 := HT0.trans (hba.mono HT0.size)
                  refine hK.out _ _ (unhide KH _ HT0) (fun hHeld => ?_)
                  clear hK K hba
                  refine wpAnyH_take (i := 3) (v := .bool false) rfl (by kernel_rfl) (by kernel_rfl) (by kernel_rfl) (fun _ _ _ h => h) (Or.inl ⟨by kernel_rfl, fun W hS => by obtain ⟨s4, s10⟩ := hS; go_simp⟩) hHeld ?_
                  refine wpAnyH_take (i := 4) (v := undef) rfl (by kernel_rfl) (by kernel_rfl) (by kernel_rfl) (fun _ _ _ h => h) (Or.inr ⟨by kernel_rfl, rfl⟩) hHeld ?_
                  refine wpAnyH_take (i := 5) (v := undef) rfl (by kernel_rfl) (by kernel_rfl) (by kernel_rfl) (fun _ _ _ h => h) (Or.inr ⟨by kernel_rfl, rfl⟩) hHeld ?_
                  refine wpAnyH_take (i := 6) (v := undef) rfl (by kernel_rfl) (by kernel_rfl) (by kernel_rfl) (fun _ _ _ h => h) (Or.inr ⟨by kernel_rfl, rfl⟩) hHeld ?_
                  refine wpAnyH_take (i := 7) (v := undef) rfl (by kernel_rfl) (by kernel_rfl) (by kernel_rfl) (fun _ _ _ h => h) (Or.inr ⟨by kernel_rfl, rfl⟩) hHeld ?_
                  refine wpAnyH_take (i := 8) (v := .bool false) rfl (by kernel_rfl) (by kernel_rfl) (by kernel_rfl) (fun _ _ _ h => h) (Or.inl ⟨by kernel_rfl, fun W hS => by obtain ⟨s4, s10⟩ := hS; go_simp⟩) hHeld ?_
                  refine wpAnyH_take (i := 9) (v := .bool false) rfl (by kernel_rfl) (by kernel_rfl) (by kernel_rfl) (fun _ _ _ h => h) (Or.inl ⟨by kernel_rfl, fun W hS => by obtain ⟨s4, s10⟩ := hS; go_simp⟩) hHeld ?_
                  refine wpAnyH_take (i := 10) (v := .agg #[.int .i64 yi, .int .i64 yk, .bool hid, .bool fix, .bool ys, .bool yw, .string yv, .int .i64 yn]) rfl (by kernel_rfl) (by kernel_rfl) (by kernel_rfl) (fun _ _ _ h => h) (Or.inl ⟨by kernel_rfl, fun W hS => by obtain ⟨s4, s10⟩ := hS; have p0 := s4.cell 0 (v := (.int .i64 _)) rfl; have p1 := s4.cell 1 (v := (.int .i64 _)) rfl; have p2 := s4.cell 2 (v := (.bool _)) rfl; have p3 := s4.cell 3 (v := (.bool _)) rfl; have p4 := s4.cell 4 (v := (.bool _)) rfl; have p5 := s4.cell 5 (v := (.bool _)) rfl; have p6 := s4.cell 6 (v := (.string _)) rfl; have p7 := s4.cell 7 (v := (.int .i64 _)) rfl; go_simp⟩) hHeld ?_
                  refine wpAnyH_take (i := 11) (v := .int .i64 (k : Int)) rfl (by kernel_rfl) (by kernel_rfl) (by kernel_rfl) (fun _ _ _ h => h) (Or.inl ⟨by kernel_rfl, fun W hS => by obtain ⟨s4, s10⟩ := hS; go_simp⟩) hHeld ?_
                  refine wpAnyH_take (i := 13) (v := .agg #[.int .i64 yi, .int .i64 yk, .bool hid, .bool fix, .bool ys, .bool yw, .string yv, .int .i64 yn]) rfl (by kernel_rfl) (by kernel_rfl) (by kernel_rfl) (fun _ _ _ h => h) (Or.inl ⟨by kernel_rfl, fun W hS => by obtain ⟨s4, s10⟩ := hS; have p0 := s4.cell 0 (v := (.int .i64 _)) rfl; have p1 := s4.cell 1 (v := (.int .i64 _)) rfl; have p2 := s4.cell 2 (v := (.bool _)) rfl; have p3 := s4.cell 3 (v := (.bool _)) rfl; have p4 := s4.cell 4 (v := (.bool _)) rfl; have p5 := s4.cell 5 (v := (.bool _)) rfl; have p6 := s4.cell 6 (v := (.string _)) rfl; have p7 := s4.cell 7 (v := (.int .i64 _)) rfl; go_simp⟩) hHeld ?_
                  refine wpAnyH_take (i := 14) (v := .int .i64 (k : Int)) rfl (by kernel_rfl) (by kernel_rfl) (by kernel_rfl) (fun _ _ _ h => h) (Or.inl ⟨by kernel_rfl, fun W hS => by obtain ⟨s4, s10⟩ := hS; go_simp⟩) hHeld ?_
                  refine wpAnyH_ready (rs := [12]) (by kernel_rfl) (by simp) ?_
                  refine AllReadyH.cons rfl (fun K hK => ?_) AllReadyH.nil
                  go_simp
                  refine (unhide C2 _ (T8.trans (HT0.mono T8.size))).mono ?_
                  rintro e uc ⟨rfl, hbc⟩
                  have HT0 := HT0.trans (hbc.mono HT0.size)
                  refine hK.out _ _ (unhide KH _ HT0) (fun hHeld => ?_)
                  clear hK K hbc
                  refine wpAnyH_ready (rs := [15]) (by kernel_rfl) (by simp) ?_
                  refine AllReadyH.cons rfl (fun K hK => ?_) AllReadyH.nil
                  go_simp
                  refine (unhide C3 _).mono ?_
                  rintro e ud ⟨rfl, hbd⟩
                  have HT0 := HT0.trans (hbd.mono HT0.size)
                  refine hK.out _ _ (unhide KH _ HT0) (fun hHeld => ?_)
                  clear hK K hbd
                  refine wpAnyH_take (i := 16) (v := .bool false) rfl (by kernel_rfl) (by kernel_rfl) (by kernel_rfl) (fun _ _ _ h => h) (Or.inl ⟨by kernel_rfl, fun W hS => by obtain ⟨s4, s10⟩ := hS; go_simp⟩) hHeld ?_
                  refine wpAnyH_take (i := 17) (v := .bool false) rfl (by kernel_rfl) (by kernel_rfl) (by kernel_rfl) (fun _ _ _ h => h) (Or.inl ⟨by kernel_rfl, fun W hS => by obtain ⟨s4, s10⟩ := hS; go_simp⟩) hHeld ?_
                  refine wpAnyH_done (by kernel_rfl) ?_ _
                  simp only [Act.put, List.getElem_toArray, List.getElem_cons_zero, List.getElem_cons_succ, List.setIfInBounds_toArray, List.set_cons_zero, List.set_cons_succ]
                  have T9 := T8.trans (HT0.mono T8.size)
                  have HF := hide (show CB ud gx 25 #[.int .i64 yi, .int .i64 yk, .bool hid, .bool fix, .bool ys, .bool yw, .string yv, .int .i64 yn] ∧ CB ud gy 25 #[.int .i64 yi, .int .i64 yk, .bool yh, .bool yf, .bool ys, .bool yw, .string yv, .int .i64 yn] ∧ Below w.heap.size w ud from ⟨(unhide KH _ HT0).1, (unhide KH _ HT0).2, T9⟩)
                  clear KH HT0 hHeld C1 C2 C3 T8 T9
                  go_wp2
                  go_roundw
                  case rel => exact ⟨k + 1, by omega, by go_num, HF⟩
                  case measure => simp [intOf]; omega
            · have hk6 : ¬ (k : Int) ≤ 6 := by omega
              have C5 := hide (unhide KY' 5)
              rw [F5'] at C5
              clear KM KS KY' HF
              have y0 := hY7.cell 0 (v := (.int .i64 _)) rfl
              have y1 := hY7.cell 1 (v := (.int .i64 _)) rfl
              have y2 := hY7.cell 2 (v := (.bool _)) rfl
              have y3 := hY7.cell 3 (v := (.bool _)) rfl
              have y4 := hY7.cell 4 (v := (.bool _)) rfl
              have y5 := hY7.cell 5 (v := (.bool _)) rfl
              have y6 := hY7.cell 6 (v := (.string _)) rfl
              have y7 := hY7.cell 7 (v := (.int .i64 _)) rfl
              go_wp2_with fail
              refine (unhide KO' _ T8).mono ?_
              rintro e u1 ⟨rfl, hb1⟩
              have T9 := T8.trans (hb1.mono T8.size)
              have hX8 := hX7.step hb1
              have hY8 := hY7.step hb1
              clear hb1 y0 y1 y2 y3 y4 y5 y6 y7 T8 hX7 hY7 KO'
              have y0 := hY8.cell 0 (v := (.int .i64 _)) rfl
              have y1 := hY8.cell 1 (v := (.int .i64 _)) rfl
              have y2 := hY8.cell 2 (v := (.bool _)) rfl
              have y3 := hY8.cell 3 (v := (.bool _)) rfl
              have y4 := hY8.cell 4 (v := (.bool _)) rfl
              have y5 := hY8.cell 5 (v := (.bool _)) rfl
              have y6 := hY8.cell 6 (v := (.string _)) rfl
              have y7 := hY8.cell 7 (v := (.int .i64 _)) rfl
              have x6 := hX8.cell 6 (v := .string yv) rfl
              have x7 := hX8.cell 7 (v := .int .i64 yn) rfl
              go_wp2_with fail
              refine (unhide C5 _ T9).mono ?_
              rintro e u2 ⟨rfl, hb2⟩
              have T10 := T9.trans (hb2.mono T9.size)
              clear hb2 T9 hX8 hY8 C5 y0 y1 y2 y3 y4 y5 y6 y7 x6 x7
              go_wp2
              go_ret
              exact ⟨rfl, T10⟩
end Go.Proofs.Ytecbpplocokedaa

