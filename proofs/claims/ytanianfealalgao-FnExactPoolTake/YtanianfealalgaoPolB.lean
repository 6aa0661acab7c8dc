/- Whether a pool is right; a held pool fed under its lock; a pool fed, a pool made, over the loaded program. -/
import Derived.Test.YtanianfealalgaoPol3
import Derived.Test.YtanianfealalgaoPolA
import Derived.Test.YtanianfealalgaoLocks
import Derived.Test.YtanianfealalgaoShaM
import Derived.Defers
import Derived.Deep.RegionHeld3
namespace Go.Proofs.Ytanianfealalgao
open Go.RowKit Go.MuLone
theorem HB.kept8 {w w' : World} {k g : Nat} {T : TypeId} {a : Hs} (h : HB w k T a) (hg : w.grownBy w' (some g)) (hne : k ≠ g) : HB w' k T a := by
  have hl := h.lt
  unfold HB at h ⊢
  rw [hg.block k hl (fun e => hne (by cases e; rfl))]
  exact h
set_option maxRecDepth 20000 in
set_option maxHeartbeats 800000 in
theorem implPoolOk_any (a : Hs) (_h1 : a.st.size ≤ maxLen) (_h2 : a.rs.size ≤ maxLen) (w : World) :
    Calls Try.prog 13 #[hsv a] w fun e w' => e = .returned (.bool (okP a)) ∧ Below w.heap.size w w' := by
  unfold maxLen at _h1 _h2
  unfold hsv
  by_cases c1 : (a.st.size : Int) = 32
  · by_cases c2 : (a.rs.size : Int) = 32
    · by_cases c3 : 0 ≤ a.ct
      · have E := hide (show okP a = decide (a.ct ≤ 20) by rw [okP_is c1 c2]; simp [c3])
        go_enter Try.func13, Try.ntmps13
        go_wp2
        go_ret
        exact ⟨by rw [unhide E]; rfl, (Below.refl _ _).alloc (Nat.le_refl _) _⟩
      · have E := hide (show okP a = false by rw [okP_is c1 c2]; simp [c3])
        go_enter Try.func13, Try.ntmps13
        go_wp2
        go_ret
        exact ⟨by rw [unhide E]; rfl, (Below.refl _ _).alloc (Nat.le_refl _) _⟩
    · go_enter Try.func13, Try.ntmps13
      go_wp2
      go_ret
      exact ⟨by rw [okP_no2 c2]; rfl, (Below.refl _ _).alloc (Nat.le_refl _) _⟩
  · go_enter Try.func13, Try.ntmps13
    go_wp2
    go_ret
    exact ⟨by rw [okP_no1 c1]; rfl, (Below.refl _ _).alloc (Nat.le_refl _) _⟩
set_option maxRecDepth 20000 in
set_option maxHeartbeats 800000 in
theorem feed_any (g : Nat) (a : Hs) (x : ByteArray) (h1 : a.st.size ≤ 1048576) (h2 : a.rs.size ≤ 1000) (hx : x.size ≤ 1048576) (w : World) (hA : HP w g 47 0 a) :
    Calls Try.prog 21 #[.pointer (some ⟨g, 0, none⟩), .string x] w fun e w' => e = .returned (hsv ⟨(mixH a x).st, (mixH a x).rs, 0⟩) ∧ w.grownBy w' (some g) := by
  have CX := hide (fun W => mix_any g 1 a x h1 h2 hx W)
  generalize mixH a x = b at *
  obtain ⟨bs, br, bc⟩ := b
  dsimp only
  have hlt := hA.lt
  have q0 := hA.c0
  have p0 := hA.frozen 0
  go_enter_defers Try.func21, Try.ntmps21
  go_wp2_with fail
  obtain ⟨W, hW, hR, hb, hl⟩ := one_hash w hz 23
  unfold hz at hW
  rw [hW]
  clear hW
  have hA1 := hA.step hb
  refine (lock_free Try.muLib ⟨g, 0, none⟩ W hA1.c0 (hA1.frozen 0)).mono ?_
  rintro e w1 ⟨rfl, hw1⟩
  have hA2 := hA1.set0 1
  have hR2 := hR.set_off (h := g) (k := 0) (by omega) (.int .i32 1)
  have hG2 := pT (pB hb (some g)) (pS W g 0 (.int .i32 1))
  rw [← hw1] at hA2 hR2 hG2
  clear hw1 hA hA1 hR hb q0 p0
  have hl1 := hR2.lt
  replace hA2 := hide hA2; replace hR2 := hide hR2; replace hG2 := hide hG2
  go_wp2_with fail
  refine ((unhide CX) w1 (unhide hA2)).mono ?_
  rintro e w2 ⟨rfl, hA3, hG3⟩
  have hR3 := (unhide hR2).kept8 hG3 (by omega)
  have hG4 := pT (unhide hG2) hG3
  clear hA2 hR2 hG2 hG3 CX
  have q0 := hA3.c0; have q2 := hA3.c2; have q3 := hA3.c3; have q4 := hA3.c4
  have p4 := hA3.frozen 4
  have r0 := hR3.frozen 0; have r1 := hR3.frozen 1; have r2 := hR3.frozen 2
  have u0 := hR3.c0; have u1 := hR3.c1; have u2 := hR3.c2
  dsimp only at q2 q3 q4
  unfold hz at u0 u1 u2
  have hA5 := (((hA3.set4 0).set_off (h := w.heap.size) (k := 0) (by omega) (.string bs)).set_off (h := w.heap.size) (k := 1) (by omega) (.string br)).set_off (h := w.heap.size) (k := 2) (by omega) (.int .i64 0)
  have hR5 := (hR3.set_off (h := g) (k := 4) (by omega) (.int .i64 0)).set3 ⟨bs, br, 0⟩
  have hG5 := hide (pT hG4 (pS w2 g 4 (.int .i64 0)))
  dsimp only at hR5
  replace hA5 := hide hA5; replace hR5 := hide hR5
  clear hA3 hR3 hG4
  go_wp2
  have hB5 : Below w.heap.size (w2.setCell ⟨g, 4, none⟩ (.int .i64 0)) ((((w2.setCell ⟨g, 4, none⟩ (.int .i64 0)).setCell ⟨w.heap.size, 0, none⟩ (.string bs)).setCell ⟨w.heap.size, 1, none⟩ (.string br)).setCell ⟨w.heap.size, 2, none⟩ (.int .i64 0)) := (((Below.refl w.heap.size _).setCell (p := ⟨w.heap.size, 0, none⟩) (Nat.le_refl _) (.string bs)).setCell (p := ⟨w.heap.size, 1, none⟩) (Nat.le_refl _) (.string br)).setCell (p := ⟨w.heap.size, 2, none⟩) (Nat.le_refl _) (.int .i64 0)
  have hG6 := pTB (unhide hG5) hB5
  generalize (((w2.setCell ⟨g, 4, none⟩ (.int .i64 0)).setCell ⟨w.heap.size, 0, none⟩ (.string bs)).setCell ⟨w.heap.size, 1, none⟩ (.string br)).setCell ⟨w.heap.size, 2, none⟩ (.int .i64 0) = w5 at *
  refine leaves_cons (f := 33) (args := #[.pointer (some ⟨g, 0, none⟩)]) (by simp) (by simp [go_sem]) ?_
  refine (unlock_deferred Try.muLib ⟨g, 0, none⟩ .returning w5 (unhide hA5).c0 ((unhide hA5).frozen 0)).mono ?_
  rintro e u' w'' ⟨rfl, rfl, rfl⟩
  exact ⟨_, results_hash Try.results21 _ _ w.heap.size 23 ⟨bs, br, 0⟩ _ rfl ((unhide hR5).set_off (h := g) (k := 0) (by omega) _) Try.underlying23 (by kernel_rfl), rfl, pT hG6 (pS w5 g 0 _)⟩
set_option maxRecDepth 20000 in
set_option maxHeartbeats 1000000 in
theorem implPoolFeed_any (a : Hs) (s : ByteArray) (h1 : a.st.size ≤ 1048576) (h2 : a.rs.size ≤ 1048576) (hs : s.size ≤ 1048576) (w : World) :
    Calls Try.prog 17 #[hsv a, .string s] w fun e w' => e = .returned (hsv (feedP a s)) ∧ Below w.heap.size w w' := by
  have CO := hide (fun W => implPoolOk_any a (by unfold maxLen; omega) (by unfold maxLen; omega) W)
  by_cases c : okP a = true
  · have EF := hide (show feedP a s = ⟨(mixH a s).st, (mixH a s).rs, 0⟩ by unfold feedP; rw [if_pos c])
    obtain ⟨g1, g2, _, _⟩ := okP_yes c
    have CX := hide (fun g W => feed_any g a s (by omega) (by omega) hs W)
    rw [← unhide EF] at CX
    generalize feedP a s = b at *
    rw [c] at CO
    clear EF
    obtain ⟨bs, br, bc⟩ := b
    obtain ⟨st, rs, ct⟩ := a
    dsimp only at g1 g2
    unfold hsv at CX CO ⊢
    dsimp only at CX CO ⊢
    go_enter Try.func17, Try.ntmps17
    go_wp2_with fail
    obtain ⟨W, hW, hA, hR, hb, hlt⟩ := two_hs w ⟨st, rs, ct⟩ hz 23
    unfold hz at hW
    rw [hW]
    clear hW
    refine (unhide CO _).mono ?_
    rintro e w1 ⟨rfl, hb1⟩
    have hA1 := hA.step hb1
    have hR1 := hR.step hb1
    have HT1 := hb.trans (hb1.mono (by omega))
    clear hA hR hb hlt hb1
    have q0 := hA1.c0; have q1 := hA1.c1; have q2 := hA1.c2
    have hl1 := hR1.lt
    dsimp only at q0 q1 q2
    replace hA1 := hide hA1; replace hR1 := hide hR1; replace HT1 := hide HT1
    go_wp2_with fail
    obtain ⟨W2, hW2, hP2, hb2, hl2⟩ := one_hp w1 47 ⟨st, rs, ct⟩
    dsimp only at hW2
    rw [hW2]
    clear hW2
    refine (unhide CX _ _ hP2).mono ?_
    rintro e w3 ⟨rfl, hG3⟩
    have hR2 := (unhide hR1).step hb2
    have hR3 := hR2.kept8 hG3 (by omega)
    have HT2 := (unhide HT1).trans (hb2.mono (unhide HT1).size)
    have HT3 := HT2.trans (pBelow hG3 (B := w.heap.size) (by omega) (fun k hk => by cases hk; omega))
    have r0 := hR3.frozen 0; have r1 := hR3.frozen 1; have r2 := hR3.frozen 2
    have u0 := hR3.c0; have u1 := hR3.c1; have u2 := hR3.c2
    unfold hz at u0 u1 u2
    clear hR2 HT2 hb2 hG3 hP2 hA1 hR1 HT1 q0 q1 q2
    replace hR3 := hide hR3; replace HT3 := hide HT3
    go_wp2
    refine bodyPost_ret (v := hsv ⟨bs, br, bc⟩) (results_hash Try.results17 _ _ (w.heap.size + 1) 23 _ _ rfl (HB.set3 (unhide hR3) ⟨bs, br, bc⟩) Try.underlying23 (by kernel_rfl)) rfl ⟨rfl, ?_⟩
    exact (((unhide HT3).setCell (p := ⟨w.heap.size + 1, 0, none⟩) (Nat.le_succ _) _).setCell (p := ⟨w.heap.size + 1, 1, none⟩) (Nat.le_succ _) _).setCell (p := ⟨w.heap.size + 1, 2, none⟩) (Nat.le_succ _) _
  · have c' : okP a = false := by simpa using c
    have EF := hide (show feedP a s = a by unfold feedP; rw [if_neg c])
    rw [unhide EF]
    rw [c'] at CO
    clear EF c
    obtain ⟨st, rs, ct⟩ := a
    dsimp only at h1 h2
    have C1 := hide (fun W => clone_any st W (by omega))
    have C2 := hide (fun W => clone_any rs W (by omega))
    unfold hsv at CO ⊢
    dsimp only at CO ⊢
    go_enter Try.func17, Try.ntmps17
    go_wp2_with fail
    obtain ⟨W, hW, hA, hR, hb, hlt⟩ := two_hs w ⟨st, rs, ct⟩ hz 23
    unfold hz at hW
    rw [hW]
    clear hW
    refine (unhide CO _).mono ?_
    rintro e w1 ⟨rfl, hb1⟩
    have hB1 := hA.step hb1
    have hR1 := hR.step hb1
    have HT1 := hb.trans (hb1.mono (by omega))
    clear hA hR hb hlt hb1
    have k0 := hB1.c0; have k1 := hB1.c1; have k2 := hB1.c2
    have hl1 := hR1.lt
    have hl1' := hB1.lt
    dsimp only at k0 k1 k2
    replace hB1 := hide hB1; replace hR1 := hide hR1; replace HT1 := hide HT1
    go_wp2
    go_region_held3 (fun W => W.cell? ⟨w.heap.size, 0, none⟩ = some (.string st) ∧ W.cell? ⟨w.heap.size, 1, none⟩ = some (.string rs) ∧ W.cell? ⟨w.heap.size, 2, none⟩ = some (.int .i64 ct)) (first | exact ⟨k0, k1, k2⟩ | exact ⟨HB5.c0, HB5.c1, HB5.c2⟩ | exact ⟨HB6.c0, HB6.c1, HB6.c2⟩ | exact ⟨(SB6 _ _ _).c0, (SB6 _ _ _).c1, (SB6 _ _ _).c2⟩) (first
      | (go_at_call 25; refine ((unhide C1) _).mono ?_; rintro e w5 ⟨rfl, hb5⟩; have hb5' := (Below.refl w1.heap.size w1).drew.trans hb5; have HB5 := (unhide hB1).below hb5' hl1'; have hs5 := hb5'.size)
      | (go_at_call 25; refine ((unhide C2) _).mono ?_; rintro e w6 ⟨rfl, hb6⟩; have hb6' := hb5'.trans (hb6.mono hs5); have HB6 := (unhide hB1).below hb6' hl1'; have SB6 := (fun x y z => HB6.below ((((Below.refl (w.heap.size + 1) w6).setCell (p := ⟨w.heap.size + 1, 0, none⟩) (Nat.le_refl _) x).setCell (p := ⟨w.heap.size + 1, 1, none⟩) (Nat.le_refl _) y).setCell (p := ⟨w.heap.size + 1, 2, none⟩) (Nat.le_refl _) z) (Nat.lt_succ_self _)); have hR6 := (unhide hR1).below hb6' hl1; have r0 := hR6.c0; have r1 := hR6.c1; have r2 := hR6.c2; have f0 := hR6.frozen 0; have f1 := hR6.frozen 1; have f2 := hR6.frozen 2))
    have HT6 := hide ((unhide HT1).trans (hb6'.mono (by omega)))
    replace hR6 := hide hR6
    clear hb6 hb5 hb5' hb6' HB5 HB6 SB6 k0 k1 k2 r0 r1 r2 f0 f1 f2
    go_wp2
    refine bodyPost_ret (v := hsv ⟨st, rs, ct⟩) (results_hash Try.results17 _ _ (w.heap.size + 1) 23 _ _ rfl (HB.set3 (unhide hR6) ⟨st, rs, ct⟩) Try.underlying23 (by kernel_rfl)) rfl ⟨rfl, ?_⟩
    exact (((unhide HT6).setCell (p := ⟨w.heap.size + 1, 0, none⟩) (Nat.le_succ _) _).setCell (p := ⟨w.heap.size + 1, 1, none⟩) (Nat.le_succ _) _).setCell (p := ⟨w.heap.size + 1, 2, none⟩) (Nat.le_succ _) _
theorem rep32_any (x : Nat) (w : World) :
    Calls Try.prog 20 #[.string ⟨#[byteOf x]⟩, .int .i64 32] w fun e w' => e = .returned (.string (repB x)) ∧ Below w.heap.size w w' := by
  have h := Try.strings_Repeat ⟨#[byteOf x]⟩ 32 w (by omega) (by show 1 * 32 ≤ _; omega)
  exact h
set_option maxRecDepth 20000 in
set_option maxHeartbeats 1000000 in
theorem implPoolNew_any (s : ByteArray) (hs : s.size ≤ 1048576) (w : World) :
    Calls Try.prog 8 #[.string s] w fun e w' => e = .returned (hsv (newP s)) ∧ Below w.heap.size w w' := by
  have R0 := hide (fun W => rep32_any 0 W)
  have R1 := hide (fun W => rep32_any 1 W)
  rw [show byteOf 0 = 0 from rfl] at R0
  rw [show byteOf 1 = 1 from rfl] at R1
  have z0 := repB_size 0
  have z1 := repB_size 1
  have CX := hide (fun g W => feed_any g ⟨repB 0, repB 1, 0⟩ s (by show (repB 0).size ≤ _; omega) (by show (repB 1).size ≤ _; omega) hs W)
  have EN := hide (show newP s = mixH ⟨repB 0, repB 1, 0⟩ s from rfl)
  have m3 := (mixH_st ⟨repB 0, repB 1, 0⟩ s).2.2
  generalize mixH ⟨repB 0, repB 1, 0⟩ s = b at *
  generalize repB 0 = k0 at *
  generalize repB 1 = k1 at *
  rw [unhide EN]
  obtain ⟨bs, br, bc⟩ := b
  dsimp only at m3
  subst m3
  unfold hsv at CX ⊢
  dsimp only at CX ⊢
  go_enter Try.func8, Try.ntmps8
  go_wp2_with fail
  obtain ⟨W, hW, hR, hb, hl⟩ := one_hash w hz 23
  unfold hz at hW
  rw [hW]
  clear hW
  refine (unhide R0 _).mono ?_
  rintro e w1 ⟨rfl, hb1⟩
  have hb01 := hb.trans (hb1.mono (by omega))
  have hR1 := hR.step hb1
  clear hb hb1 hR
  go_wp2_with fail
  refine (unhide R1 _).mono ?_
  rintro e w2 ⟨rfl, hb2⟩
  have hb02 := hide (hb01.trans (hb2.mono hb01.size))
  have hR2 := hide (hR1.step hb2)
  have hl2 := (hR1.step hb2).lt
  clear hb01 hb2 hR1
  go_wp2_with fail
  obtain ⟨W3, hW3, hP3, hb3, hl3⟩ := one_hp w2 47 ⟨k0, k1, 0⟩
  dsimp only at hW3
  rw [hW3]
  clear hW3
  refine (unhide CX _ _ hP3).mono ?_
  rintro e w4 ⟨rfl, hG4⟩
  have hR3 := (unhide hR2).step hb3
  have hR4 := hR3.kept8 hG4 (by omega)
  have HT3 := (unhide hb02).trans (hb3.mono (unhide hb02).size)
  have HT4 := HT3.trans (pBelow hG4 (B := w.heap.size) (by omega) (fun k hk => by cases hk; omega))
  have r0 := hR4.frozen 0; have r1 := hR4.frozen 1; have r2 := hR4.frozen 2
  have u0 := hR4.c0; have u1 := hR4.c1; have u2 := hR4.c2
  unfold hz at u0 u1 u2
  clear hR3 HT3 hb3 hG4 hP3 hR2 hb02
  replace hR4 := hide hR4; replace HT4 := hide HT4
  go_wp2
  refine bodyPost_ret (v := hsv ⟨bs, br, 0⟩) (results_hash Try.results8 _ _ w.heap.size 23 _ _ rfl (HB.set3 (unhide hR4) ⟨bs, br, 0⟩) Try.underlying23 (by kernel_rfl)) rfl ⟨rfl, ?_⟩
  exact (((unhide HT4).setCell (p := ⟨w.heap.size, 0, none⟩) (Nat.le_refl _) _).setCell (p := ⟨w.heap.size, 1, none⟩) (Nat.le_refl _) _).setCell (p := ⟨w.heap.size, 2, none⟩) (Nat.le_refl _) _
end Go.Proofs.Ytanianfealalgao
