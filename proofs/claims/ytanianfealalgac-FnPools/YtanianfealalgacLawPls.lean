/- The law FnPools, walked over the loaded program: the law itself. -/
import Derived.Test.YtanianfealalgacLawPools
namespace Go.Proofs.Ytanianfealalgac
open Go.RowKit
set_option maxRecDepth 20000 in
set_option maxHeartbeats 1000000 in
theorem lawPools_any (w : World) (o : Option Addr) (n c : Nat) (hs : Src w w.heap.size o n) :
    Calls Try.prog 3 #[.slice o n c] w fun e w' => e = .returned (.bool true) ∧ Below w.heap.size w w' := by
  have HS := hide hs
  clear hs
  by_cases hbig : (1048576 : Int) < (n : Int)
  · have hd : decide ((1048576 : Int) < (n : Int)) = true := by rw [decide_eq_true_iff]; exact hbig
    go_enter Try.func3, Try.ntmps3
    go_wp2_with (go_at_call 4; refine (big_any w o n c).mono ?_; rintro e w1 ⟨rfl, rfl⟩)
    go_ret
    exact ⟨rfl, Below.refl _ _⟩
  · have hd : decide ((1048576 : Int) < (n : Int)) = false := by rw [decide_eq_false_iff_not]; exact hbig
    have hn : n ≤ 1048576 := by omega
    go_enter Try.func3, Try.ntmps3
    go_wp2_with fail
    refine (big_any w o n c).mono ?_
    rintro e w0 ⟨rfl, hw0⟩
    have hw0' := hw0.symm
    subst hw0'
    clear hw0
    go_wp2_with fail
    refine (drawPoolTake_any w o n c (unhide HS) hn).mono ?_
    rintro e w1 ⟨a, z, hsm, hzz, rfl, hb1⟩
    clear HS
    have hm1 : a.st.size ≤ maxLen := by have := hsm.1; unfold maxLen; omega
    have hm2 : a.rs.size ≤ maxLen := by have := hsm.2.1; unfold maxLen; omega
    have CI := hide (fun W => implPoolTake_any a z (by have := hsm.1; omega) (by have := hsm.2.1; omega) W)
    have CS := hide (fun W => specTake_any a z hm1 hm2 W)
    have OI := hide (fun W => implPoolOk_any a hm1 hm2 W)
    have OS := hide (fun W => specPoolOk_any a W hm1 hm2)
    have HM := hide (show (tkO a z = false ∧ tkB a z = ⟨#[]⟩) ∨ (tkO a z = true ∧ ((tkB a z).size : Int) = z ∧ okP (tkH a z) = true ∧ (tkH a z).ct = a.ct + 1) from by
      by_cases h : mayT a z = true
      · exact .inr (may_yes h)
      · exact .inl (may_no h))
    have hlim := hsm.2.2
    clear hm1 hm2 hsm
    generalize tkH a z = d at *
    generalize tkB a z = s at *
    generalize tkO a z = q at *
    have OD := hide (fun (h : okP d = true) W => implPoolOk_any d (by have := (okP_small h).1; unfold maxLen; omega) (by have := (okP_small h).2; unfold maxLen; omega) W)
    generalize okP a = ka at *
    obtain ⟨a1, a2, a3⟩ := a
    obtain ⟨d1, d2, d3⟩ := d
    unfold hsv at CI CS OI OS OD ⊢
    dsimp only at CI CS OI OS OD HM hlim ⊢
    go_wp2_with fail
    obtain ⟨W2, hW2, hH2, hb2, hl2⟩ := one_hash w1 ⟨a1, a2, a3⟩ 25
    dsimp only at hW2
    rw [hW2]
    clear hW2
    refine ((unhide CI) W2).mono ?_
    rintro e w3 ⟨rfl, hb3⟩
    have hH3 := hH2.step hb3
    have hb13 := (hb1.trans (hb2.mono hb1.size)).trans (hb3.mono (Nat.le_trans hb1.size hb2.size))
    have hs13 := hb13.size
    clear hb1 hb2 hb3 hH2 hl2
    have hl3 := hH3.lt
    have k0 := hH3.c0
    have k1 := hH3.c1
    have k2 := hH3.c2
    dsimp only at k0 k1 k2
    go_wp2_with fail
    obtain ⟨W4, hW4, hM4, hb4, hl4⟩ := one_hash w3 ⟨d1, d2, d3⟩ 25
    dsimp only at hW4
    rw [hW4]
    clear hW4 k0 k1 k2
    have hH4 := hH3.below hb4 hl3
    refine ((unhide CS) W4).mono ?_
    rintro e w5 ⟨rfl, hb5⟩
    have hH5 := hH4.step hb5
    have hM5 := hM4.step hb5
    have hb15 := (hb13.trans (hb4.mono hs13)).trans (hb5.mono (Nat.le_trans hs13 hb4.size))
    have hs15 := hb15.size
    clear hb13 hb4 hb5 hH3 hH4 hM4 hs13 hl4
    have hl5 := hH5.lt
    have hm5 := hM5.lt
    have k0 := hH5.c0
    have k1 := hH5.c1
    have k2 := hH5.c2
    have j0 := hM5.c0
    have j1 := hM5.c1
    have j2 := hM5.c2
    dsimp only at k0 k1 k2 j0 j1 j2
    go_wp2_with fail
    obtain ⟨W6, hW6, hN6, hb6, hl6⟩ := one_hash w5 ⟨d1, d2, d3⟩ 25
    dsimp only at hW6
    rw [hW6]
    clear hW6 k0 k1 k2 j0 j1 j2
    have hH6 := hH5.below hb6 hl5
    have hM6 := hM5.below hb6 hm5
    have hb16 := hb15.trans (hb6.mono hs15)
    have hs16 := hb16.size
    have hn6 := hN6.lt
    have hh6 := hH6.lt
    have hm6 := hM6.lt
    clear hb15 hb6 hH5 hM5 hs15
    have KS := hide (fun (W : World) (h : Below W6.heap.size W6 W) => (⟨(hH6.below h hh6).c0, (hH6.below h hh6).c1, (hH6.below h hh6).c2, (hM6.below h hm6).c0, (hM6.below h hm6).c1, (hM6.below h hm6).c2, (hN6.below h hn6).c0, (hN6.below h hn6).c1, (hN6.below h hn6).c2⟩ : W.cell? ⟨w1.heap.size, 0, none⟩ = some (.string a1) ∧ W.cell? ⟨w1.heap.size, 1, none⟩ = some (.string a2) ∧ W.cell? ⟨w1.heap.size, 2, none⟩ = some (.int .i64 a3) ∧ W.cell? ⟨w3.heap.size, 0, none⟩ = some (.string d1) ∧ W.cell? ⟨w3.heap.size, 1, none⟩ = some (.string d2) ∧ W.cell? ⟨w3.heap.size, 2, none⟩ = some (.int .i64 d3) ∧ W.cell? ⟨w5.heap.size, 0, none⟩ = some (.string d1) ∧ W.cell? ⟨w5.heap.size, 1, none⟩ = some (.string d2) ∧ W.cell? ⟨w5.heap.size, 2, none⟩ = some (.int .i64 d3)))
    go_region_held3 (fun W => W.cell? ⟨w1.heap.size, 0, none⟩ = some (.string a1) ∧ W.cell? ⟨w1.heap.size, 1, none⟩ = some (.string a2) ∧ W.cell? ⟨w1.heap.size, 2, none⟩ = some (.int .i64 a3) ∧ W.cell? ⟨w3.heap.size, 0, none⟩ = some (.string d1) ∧ W.cell? ⟨w3.heap.size, 1, none⟩ = some (.string d2) ∧ W.cell? ⟨w3.heap.size, 2, none⟩ = some (.int .i64 d3) ∧ W.cell? ⟨w5.heap.size, 0, none⟩ = some (.string d1) ∧ W.cell? ⟨w5.heap.size, 1, none⟩ = some (.string d2) ∧ W.cell? ⟨w5.heap.size, 2, none⟩ = some (.int .i64 d3)) (first | exact (unhide KS) _ (Below.refl _ W6).drew | exact (unhide KS) _ hbA | exact (unhide KS) _ hbB | fail) (first
      | (go_at_call 8; refine ((unhide OI) _).mono ?_; rintro e w7 ⟨rfl, hb7⟩; have hbA : Below W6.heap.size W6 w7 := (Below.refl _ W6).drew.trans hb7)
      | (go_at_call 9; refine ((unhide OS) _).mono ?_; rintro e w8 ⟨rfl, hb8⟩; have hbB := hbA.trans (hb8.mono hbA.size))
      | fail)
    have hb18 := hb16.trans (hbB.mono hs16)
    have hH8 := hide (hH6.below hbB hh6)
    have hM8 := hide (hM6.below hbB hm6)
    clear hb7 hb8 hbA hbB KS hb16 hs16 hN6 hn6 hH6 hM6 hh6 hm6 hl6 OI OS CI CS
    rcases unhide HM with ⟨hq, hsb⟩ | ⟨hq, hsz, hok, hct⟩
    · subst hq hsb
      go_wp2
      go_ret
      exact ⟨by simp, hb18⟩
    · subst hq hsz hct
      have hA8 := (unhide hH8).lt
      have hD8 := (unhide hM8).lt
      have hw8 := hb18.size
      generalize w1.heap.size = A at *
      generalize w3.heap.size = D at *
      have ODk := hide (fun W => (unhide OD) hok W)
      rw [hok] at ODk
      clear OD HM hok hl3 hl5 hm5
      have CN := hide (fun W => implPoolNew_any seedB (by decide) W)
      rw [show newP seedB = seqP 0 from rfl] at CN
      unfold seedB at CN
      obtain ⟨x, hx⟩ : ∃ x, x = seqP 0 := ⟨_, rfl⟩
      rw [← hx] at CN
      obtain ⟨x1, x2, x3⟩ := x
      replace hx := hide hx
      unfold hsv at CN
      dsimp only at CN
      go_wp2_with fail
      refine ((unhide CN) w8).mono ?_
      rintro e w9 ⟨rfl, hb9⟩
      have hH9 := (unhide hH8).step hb9
      have hM9 := (unhide hM8).step hb9
      have hb19 := hb18.trans (hb9.mono hw8)
      have hs9 := hb9.size
      clear hH8 hM8 hb18 hb9 CN
      go_wp2_with fail
      obtain ⟨WA, hWA, hXA, hbA, hlA⟩ := one_hash w9 ⟨x1, x2, x3⟩ 25
      dsimp only at hWA
      rw [hWA]
      clear hWA
      have hHA := hide (hH9.step hbA)
      have hMA := hide (hM9.step hbA)
      have hb1A := hide (hb19.trans (hbA.mono hb19.size))
      have hwx : w.heap.size ≤ w9.heap.size := hb19.size
      generalize w9.heap.size = X at *
      have hAX : A < X := by omega
      have hDX : D < X := by omega
      replace hXA := hide hXA
      clear hH9 hM9 hb19 hbA hlA hs9 hA8 hD8 hw8
      go_loopw [12] (fun ti wq => ∃ (k : Nat) (y1 y2 : ByteArray) (y3 : Int), k ≤ 20 ∧ ti = .int .i64 (k : Int) ∧ Hid (⟨y1, y2, y3⟩ = seqP k) ∧ Hid (HB wq X 25 ⟨y1, y2, y3⟩) ∧ Hid (HB wq A 25 ⟨a1, a2, a3⟩) ∧ Hid (HB wq D 25 ⟨d1, d2, a3 + 1⟩) ∧ Hid (Below w.heap.size w wq)) (fun ti _ => 21 - (intOf ti).toNat)
      case atStart => exact ⟨0, x1, x2, x3, by omega, rfl, hx, hXA, hHA, hMA, hb1A⟩
      case round =>
        clear hx hXA hHA hMA hb1A
        obtain ⟨k, y1, y2, y3, hk, rfl, hy, HX, HA, HD, HB0⟩ := hrel
        have q0 := (unhide HX).c0; have q1 := (unhide HX).c1; have q2 := (unhide HX).c2
        dsimp only at q0 q1 q2
        have hXl := (unhide HX).lt
        by_cases hlt : k < 20
        · have hlt' : (k : Int) < 20 := by omega
          obtain ⟨o1, o2⟩ := seqP_on k hlt
          obtain ⟨s1, _⟩ := seqP_is k hk
          have CT := hide (fun W => implPoolTake_any (seqP k) 3 (okP_small s1).1 (okP_small s1).2 W)
          rw [o1] at CT
          rw [show tkH (seqP k) 3 = seqP (k + 1) from rfl] at CT
          generalize tkB (seqP k) 3 = tt at *
          obtain ⟨v, hv⟩ : ∃ v, v = seqP (k + 1) := ⟨_, rfl⟩
          rw [← hv, ← unhide hy] at CT
          obtain ⟨v1, v2, v3⟩ := v
          replace hv := hide hv
          unfold hsv at CT
          dsimp only at CT
          have o2' : (tt.size : Int) = 3 := by omega
          clear s1 o1 o2 hy
          go_wp2_with fail
          refine ((unhide CT) wr).mono ?_
          rintro e w2 ⟨rfl, hb2⟩
          have hX2 := (unhide HX).step hb2
          have hA2 := (unhide HA).step hb2
          have hD2 := (unhide HD).step hb2
          have hB2 := (unhide HB0).trans (hb2.mono (unhide HB0).size)
          clear HX HA HD HB0 q0 q1 q2 CT
          have q0 := hX2.c0; have q1 := hX2.c1; have q2 := hX2.c2
          have f0 := hX2.frozen 0; have f1 := hX2.frozen 1; have f2 := hX2.frozen 2
          have hX2l := hX2.lt
          dsimp only at q0 q1 q2
          have hX3 := hX2.set3 ⟨v1, v2, v3⟩
          dsimp only at hX3
          have hS3 := (((Below.refl X w2).setCell (p := ⟨X, 0, none⟩) (Nat.le_refl _) (.string v1)).setCell (p := ⟨X, 1, none⟩) (Nat.le_refl _) (.string v2)).setCell (p := ⟨X, 2, none⟩) (Nat.le_refl _) (.int .i64 v3)
          have hA3 := hA2.below hS3 hAX
          have hD3 := hD2.below hS3 hDX
          have hB3 := hB2.trans (hS3.mono hwx)
          replace hX3 := hide hX3; replace hA3 := hide hA3; replace hD3 := hide hD3; replace hB3 := hide hB3
          clear hX2 hA2 hD2 hB2 hS3 hb2
          go_wp2_with fail
          generalize ((w2.setCell ⟨X, 0, none⟩ (.string v1)).setCell ⟨X, 1, none⟩ (.string v2)).setCell ⟨X, 2, none⟩ (.int .i64 v3) = V at *
          have hbV : Below V.heap.size V (V.alloc (.cells #[.string v1, .string v2, .int .i64 v3] 25)) := (Below.refl V.heap.size V).alloc (Nat.le_refl _) _
          exact ⟨⟨k + 1, v1, v2, v3, by omega, by go_num, hv, hide ((unhide hX3).step hbV), hide ((unhide hA3).step hbV), hide ((unhide hD3).step hbV), hide ((unhide hB3).trans (hbV.mono (unhide hB3).size))⟩, by simp [intOf]; omega⟩
        · have hke : k = 20 := by omega
          have hlt' : ¬ (k : Int) < 20 := by omega
          have T1 := seqP_off
          have T2 := fed_on
          have S2 := fed_small
          have S1 := okP_small (seqP_is 20 (by omega)).1
          rw [← hke] at T1 T2 S2 S1
          have C1 := hide (fun W => implPoolTake_any (seqP k) 3 S1.1 S1.2 W)
          have C2 := hide (fun W => implPoolFeed_any (seqP k) moreB S1.1 S1.2 (by decide) W)
          have C3 := hide (fun W => implPoolTake_any (feedP (seqP k) moreB) 3 S2.1 S2.2 W)
          have C4 := hide (fun W => specPoolFeed_any (seqP k) moreB (by have := S1.1; unfold maxLen; omega) (by have := S1.2; unfold maxLen; omega) (by decide) W)
          rw [T1] at C1
          rw [T2] at C3
          rw [← unhide hy] at C1 C2 C3 C4
          clear T1 T2 S1 S2 hy
          generalize tkH ⟨y1, y2, y3⟩ 3 = e1 at *
          generalize tkB ⟨y1, y2, y3⟩ 3 = t1 at *
          generalize feedP ⟨y1, y2, y3⟩ moreB = u at *
          generalize tkH u 3 = e2 at *
          generalize tkB u 3 = t2 at *
          obtain ⟨e11, e12, e13⟩ := e1
          obtain ⟨e21, e22, e23⟩ := e2
          obtain ⟨u1, u2, u3⟩ := u
          unfold hsv at C1 C2 C3 C4
          unfold moreB at C2 C4
          dsimp only at C1 C2 C3 C4
          replace hke := hide hke
          go_wp2_with fail
          refine ((unhide C1) wr).mono ?_
          rintro e w2 ⟨rfl, hb2⟩
          have hX2 := (unhide HX).step hb2
          have hA2 := (unhide HA).step hb2
          have hD2 := (unhide HD).step hb2
          have hB2 := (unhide HB0).trans (hb2.mono (unhide HB0).size)
          clear HX HA HD HB0 q0 q1 q2 C1 hb2
          have q0 := hX2.c0; have q1 := hX2.c1; have q2 := hX2.c2
          dsimp only at q0 q1 q2
          have hX2l := hX2.lt
          replace hX2 := hide hX2; replace hA2 := hide hA2; replace hD2 := hide hD2; replace hB2 := hide hB2
          go_wp2_with fail
          obtain ⟨W3, hW3, _, hb3, _⟩ := one_hash w2 ⟨e11, e12, e13⟩ 25
          dsimp only at hW3
          rw [hW3]
          clear hW3
          refine ((unhide C2) W3).mono ?_
          rintro e w4 ⟨rfl, hb4⟩
          have hb24 := hb3.trans (hb4.mono hb3.size)
          have hX4 := (unhide hX2).step hb24
          have hA4 := (unhide hA2).step hb24
          have hD4 := (unhide hD2).step hb24
          have hB4 := (unhide hB2).trans (hb24.mono (unhide hB2).size)
          clear hX2 hA2 hD2 hB2 q0 q1 q2 C2 hb3 hb4 hb24
          replace hX4 := hide hX4; replace hA4 := hide hA4; replace hD4 := hide hD4; replace hB4 := hide hB4
          go_wp2_with fail
          obtain ⟨W5, hW5, hY5, hb5, _⟩ := one_hash w4 ⟨u1, u2, u3⟩ 25
          dsimp only at hW5
          rw [hW5]
          clear hW5
          refine ((unhide C3) W5).mono ?_
          rintro e w6 ⟨rfl, hb6⟩
          have hb46 := hb5.trans (hb6.mono hb5.size)
          have hX6 := (unhide hX4).step hb46
          have hA6 := (unhide hA4).step hb46
          have hD6 := (unhide hD4).step hb46
          have hY6 := hY5.step hb6
          have hB6 := (unhide hB4).trans (hb46.mono (unhide hB4).size)
          clear hX4 hA4 hD4 hB4 C3 hb5 hb6 hb46 hY5
          generalize w4.heap.size = Y at *
          replace hX6 := hide hX6; replace hA6 := hide hA6; replace hD6 := hide hD6; replace hB6 := hide hB6; replace hY6 := hide hY6
          go_wp2_with fail
          obtain ⟨W7, hW7, _, hb7, _⟩ := one_hash w6 ⟨e21, e22, e23⟩ 25
          dsimp only at hW7
          rw [hW7]
          clear hW7
          have hX7 := (unhide hX6).step hb7
          have hA7 := (unhide hA6).step hb7
          have hD7 := (unhide hD6).step hb7
          have hY7 := (unhide hY6).step hb7
          have hB7 := (unhide hB6).trans (hb7.mono (unhide hB6).size)
          clear hX6 hA6 hD6 hY6 hB6 hb7
          have ew : IntKind.i64.wrap (a3 + 1) = a3 + 1 := by rw [IntKind.wrap_i64]; omega
          have hxl := hX7.lt; have hal := hA7.lt; have hdl := hD7.lt; have hyl := hY7.lt
          have KS := hide (fun (W : World) (h : Below W7.heap.size W7 W) => (⟨(hX7.below h hxl).c0, (hX7.below h hxl).c1, (hX7.below h hxl).c2, (hA7.below h hal).c2, (hD7.below h hdl).c0, (hD7.below h hdl).c1, (hD7.below h hdl).c2, (hY7.below h hyl).c0, (hY7.below h hyl).c1, (hY7.below h hyl).c2⟩ : W.cell? ⟨X, 0, none⟩ = some (.string y1) ∧ W.cell? ⟨X, 1, none⟩ = some (.string y2) ∧ W.cell? ⟨X, 2, none⟩ = some (.int .i64 y3) ∧ W.cell? ⟨A, 2, none⟩ = some (.int .i64 a3) ∧ W.cell? ⟨D, 0, none⟩ = some (.string d1) ∧ W.cell? ⟨D, 1, none⟩ = some (.string d2) ∧ W.cell? ⟨D, 2, none⟩ = some (.int .i64 (a3 + 1)) ∧ W.cell? ⟨Y, 0, none⟩ = some (.string u1) ∧ W.cell? ⟨Y, 1, none⟩ = some (.string u2) ∧ W.cell? ⟨Y, 2, none⟩ = some (.int .i64 u3)))
          go_region_held3 (fun W => W.cell? ⟨X, 0, none⟩ = some (.string y1) ∧ W.cell? ⟨X, 1, none⟩ = some (.string y2) ∧ W.cell? ⟨X, 2, none⟩ = some (.int .i64 y3) ∧ W.cell? ⟨A, 2, none⟩ = some (.int .i64 a3) ∧ W.cell? ⟨D, 0, none⟩ = some (.string d1) ∧ W.cell? ⟨D, 1, none⟩ = some (.string d2) ∧ W.cell? ⟨D, 2, none⟩ = some (.int .i64 (a3 + 1)) ∧ W.cell? ⟨Y, 0, none⟩ = some (.string u1) ∧ W.cell? ⟨Y, 1, none⟩ = some (.string u2) ∧ W.cell? ⟨Y, 2, none⟩ = some (.int .i64 u3)) (first | exact (unhide KS) _ (Below.refl _ W7).drew | exact (unhide KS) _ hbA | exact (unhide KS) _ hbB | fail) (first
            | (go_at_call 8; refine ((unhide ODk) _).mono ?_; rintro e w8 ⟨rfl, hb8⟩; have hbA : Below W7.heap.size W7 w8 := (Below.refl _ W7).drew.trans hb8)
            | (go_at_call 12; refine ((unhide C4) _).mono ?_; rintro e w9 ⟨rfl, hb9⟩; have hbB := hbA.trans (hb9.mono hbA.size))
            | fail)
          have hb9' := hB7.trans (hbB.mono hB7.size)
          clear KS hbA hbB hb8 hb9 hX7 hA7 hD7 hY7 hB7 C4 ODk
          go_wp2
          go_ret
          exact ⟨rfl, hb9'⟩
end Go.Proofs.Ytanianfealalgac
