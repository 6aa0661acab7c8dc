/- The law FnHashers, walked over the loaded program. -/
import Derived.Test.YtkidgllmhdfgaabDrawS
import Derived.Test.YtkidgllmhdfgaabRes
namespace Go.Proofs.Ytkidgllmhdfgaab
open Go.RowKit
set_option maxRecDepth 20000 in
set_option maxHeartbeats 800000 in
theorem drawHashMore_any (w : World) (o : Option Addr) (n c : Nat) (hs : Src w w.heap.size o n) (hn : n ≤ 1048576) :
    Calls Try.prog 15 #[.slice o n c] w fun e w' => ∃ (a : Hs) (s : ByteArray), SmallH a ∧ s.size ≤ 200 ∧ e = .returned (.tuple #[hsv a, .string s]) ∧ Below w.heap.size w w' := by
  have HS := hide hs
  clear hs
  go_enter Try.func15, Try.ntmps15
  go_wp2_with fail
  obtain ⟨W1, hW1, hR1, hb1, hl1⟩ := one_hash w h0 28
  unfold h0 at hW1
  dsimp only at hW1
  rw [hW1]
  clear hW1
  have HS1 := hide (((unhide HS).below hb1 (Nat.le_refl _)).up hb1.size)
  refine (l01New_any W1 o n c (unhide HS1) hn).mono ?_
  rintro e w2 ⟨rfl, hb2, hc2⟩
  obtain ⟨g, hg⟩ : ∃ g, g = W1.heap.size := ⟨_, rfl⟩
  rw [← hg] at hc2 hb2 ⊢
  have hR2 := hR1.below hb2 (by omega)
  have hb12 := hb1.trans (hb2.mono (by omega))
  have hgR : w.heap.size < g := by omega
  replace hc2 := hide hc2
  clear hR1 hb1 hb2 hl1 HS HS1 hg
  go_wp2_with fail
  refine (l05Hasher_any (unhide hc2) hn).mono ?_
  rintro e w3 ⟨a, hsm, rfl, hg3, hc3⟩
  have hR3 := HB.grown hR2 hg3 (by omega)
  have hb13 := hb12.trans (gBelow hg3 hb12.size (fun k hk => by cases hk; omega))
  clear hR2 hb12 hg3 hc2
  obtain ⟨a1, a2, a3⟩ := a
  unfold hsv
  dsimp only
  go_wp2_with fail
  obtain ⟨W4, hW4, hH4, hb4, hl4⟩ := one_hash w3 ⟨a1, a2, a3⟩ 28
  dsimp only at hW4
  rw [hW4]
  clear hW4
  have hgl := hc3.lt
  have hlR := hR3.lt
  have hR4 := hR3.below hb4 hlR
  have hc4 := hide (hc3.below hb4 hgl)
  have hb14 := hb13.trans (hb4.mono hb13.size)
  obtain ⟨G, hG⟩ : ∃ G, G = w3.heap.size := ⟨_, rfl⟩
  rw [← hG] at hH4 hl4 ⊢
  have hgG : g < G := by omega
  clear hR3 hc3 hb13 hb4 hlR
  refine (l01Once_any (unhide hc4) hn 12 (by omega) (by omega)).mono ?_
  rintro e w5 ⟨b, rfl, ho5, hc5⟩
  have hH5 := HB.grown hH4 (gO ho5) (by omega)
  have hR5 := HB.grown hR4 (gO ho5) (by omega)
  have hb15 := hb14.trans (gBelow (gO ho5) hb14.size (fun k hk => by cases hk; omega))
  clear hH4 hR4 hb14 ho5 hc4 hG hgl
  have hl5 := hH5.lt
  have hlR := hR5.lt
  have k0 := hH5.c0
  have k1 := hH5.c1
  have k2 := hH5.c2
  dsimp only at k0 k1 k2
  clear k0 k1 k2
  cases b with
  | true =>
    replace hc5 := hide hc5
    go_wp2_with fail
    refine (l01Long0_any 32 9 w5 (by omega) (by omega)).mono ?_
    rintro e w5a ⟨l1, hl1, rfl, hb5a⟩
    go_wp2_with fail
    refine (l01Long0_any 61 1 w5a (by omega) (by omega)).mono ?_
    rintro e w5b ⟨l2, hl2, rfl, hb5b⟩
    have hbb := hb5a.trans (hb5b.mono hb5a.size)
    have hHb := hH5.below hbb hl5
    have hRb := hR5.below hbb hlR
    have hcb := (unhide hc5).below hbb (unhide hc5).lt
    have hbW := hb15.trans (hbb.mono hb15.size)
    have hz1 : (⟨l1.toArray⟩ : ByteArray).size ≤ 100 := by show l1.length ≤ 100; omega
    have hz2 : (⟨l2.toArray⟩ : ByteArray).size ≤ 100 := by show l2.length ≤ 100; omega
    generalize (⟨l1.toArray⟩ : ByteArray) = x1 at *
    generalize (⟨l2.toArray⟩ : ByteArray) = x2 at *
    have k0 := hHb.c0
    have k1 := hHb.c1
    have k2 := hHb.c2
    dsimp only at k0 k1 k2
    have f0 := hHb.frozen 0
    have f1 := hHb.frozen 1
    have f2 := hHb.frozen 2
    have hS6 := (((Below.refl G w5b).setCell (p := ⟨G, 0, none⟩) (Nat.le_refl _) (.string x1)).setCell (p := ⟨G, 1, none⟩) (Nat.le_refl _) (.string x2)).setCell (p := ⟨G, 2, none⟩) (Nat.le_refl _) (.int .i64 999999997)
    have hH6 := hHb.set3 ⟨x1, x2, 999999997⟩
    dsimp only at hH6
    have hR6 := hRb.below hS6 (by omega)
    have hc6 := hcb.below hS6 (by omega)
    have hb16 := hbW.trans (hS6.mono (by omega))
    replace hH6 := hide hH6
    replace hR6 := hide hR6
    replace hc6 := hide hc6
    replace hb16 := hide hb16
    obtain ⟨W6, hW6⟩ : ∃ W, W = ((w5b.setCell ⟨G, 0, none⟩ (.string x1)).setCell ⟨G, 1, none⟩ (.string x2)).setCell ⟨G, 2, none⟩ (.int .i64 999999997) := ⟨_, rfl⟩
    rw [← hW6] at hH6 hR6 hc6 hb16
    replace hW6 := hide hW6.symm
    clear hS6 hcb hRb hbb hb5a hb5b hbW hc5 hR5 hb15 hH5
    go_wp2
    rw [unhide hW6]
    clear hW6 k0 k1 k2 f0 f1 f2 hHb
    have hc6d := hide ((unhide hc6)).drew
    have k0 := ((unhide hH6)).c0
    have k1 := ((unhide hH6)).c1
    have k2 := ((unhide hH6)).c2
    dsimp only at k0 k1 k2
    go_wp2
    go_region_with (first
      | (go_at_call 25; refine (l05Text_g (unhide hc6d) hn).mono ?_; rintro e w7 ⟨s, hs, rfl, hg7, hc7⟩; have hH7 := HB.grown (w := (W6).drew) ((unhide hH6)) hg7 (by omega); have hR7 := HB.grown (w := (W6).drew) ((unhide hR6)) hg7 (by omega); have q0 := hH7.c0; have q1 := hH7.c1; have q2 := hH7.c2; dsimp only at q0 q1 q2; have r0 := hR7.c0; have r1 := hR7.c1; have r2 := hR7.c2; have e0 := hR7.frozen 0; have e1 := hR7.frozen 1; have e2 := hR7.frozen 2))
    all_goals
      have hF := HB.set3 hR7 ⟨x1, x2, 999999997⟩
      dsimp only at hF
      have hbf := ((((unhide hb16)).drew.trans (gBelow hg7 ((unhide hb16)).size (fun k hk => by cases hk; omega))).setCell (p := ⟨w.heap.size, 0, none⟩) (Nat.le_refl _) (.string x1)).setCell (p := ⟨w.heap.size, 1, none⟩) (Nat.le_refl _) (.string x2) |>.setCell (p := ⟨w.heap.size, 2, none⟩) (Nat.le_refl _) (.int .i64 999999997)
      generalize ((w7.setCell ⟨w.heap.size, 0, none⟩ (.string x1)).setCell ⟨w.heap.size, 1, none⟩ (.string x2)).setCell ⟨w.heap.size, 2, none⟩ (.int .i64 999999997) = W8 at *
      have F0 := hF.c0
      have F1 := hF.c1
      have F2 := hF.c2
      dsimp only at F0 F1 F2
      replace hF := hide hF
      clear hH7 hR7 q0 q1 q2 r0 r1 r2 e0 e1 e2 hg7 hc7 k0 k1 k2
      go_wp2
      refine bodyPost_ret (v := .tuple #[hsv ⟨x1, x2, 999999997⟩, .string s]) (by simp [results, Try.results15, go_sem, F0, F1, F2, hsv]) rfl ⟨_, s, ⟨hz1, hz2, by show (-3000000000 : Int) ≤ 999999997; decide, by show (999999997 : Int) ≤ 3000000000; decide⟩, hs, rfl, hbf⟩
  | false =>
    have hc6d := hide (hc5).drew
    have k0 := (hH5).c0
    have k1 := (hH5).c1
    have k2 := (hH5).c2
    dsimp only at k0 k1 k2
    go_wp2
    go_region_with (first
      | (go_at_call 25; refine (l05Text_g (unhide hc6d) hn).mono ?_; rintro e w7 ⟨s, hs, rfl, hg7, hc7⟩; have hH7 := HB.grown (w := (w5).drew) (hH5) hg7 (by omega); have hR7 := HB.grown (w := (w5).drew) (hR5) hg7 (by omega); have q0 := hH7.c0; have q1 := hH7.c1; have q2 := hH7.c2; dsimp only at q0 q1 q2; have r0 := hR7.c0; have r1 := hR7.c1; have r2 := hR7.c2; have e0 := hR7.frozen 0; have e1 := hR7.frozen 1; have e2 := hR7.frozen 2))
    all_goals
      have hF := HB.set3 hR7 ⟨a1, a2, a3⟩
      dsimp only at hF
      have hbf := (((hb15).drew.trans (gBelow hg7 (hb15).size (fun k hk => by cases hk; omega))).setCell (p := ⟨w.heap.size, 0, none⟩) (Nat.le_refl _) (.string a1)).setCell (p := ⟨w.heap.size, 1, none⟩) (Nat.le_refl _) (.string a2) |>.setCell (p := ⟨w.heap.size, 2, none⟩) (Nat.le_refl _) (.int .i64 a3)
      generalize ((w7.setCell ⟨w.heap.size, 0, none⟩ (.string a1)).setCell ⟨w.heap.size, 1, none⟩ (.string a2)).setCell ⟨w.heap.size, 2, none⟩ (.int .i64 a3) = W8 at *
      have F0 := hF.c0
      have F1 := hF.c1
      have F2 := hF.c2
      dsimp only at F0 F1 F2
      replace hF := hide hF
      clear hH7 hR7 q0 q1 q2 r0 r1 r2 e0 e1 e2 hg7 hc7 k0 k1 k2
      go_wp2
      refine bodyPost_ret (v := .tuple #[hsv ⟨a1, a2, a3⟩, .string s]) (by simp [results, Try.results15, go_sem, F0, F1, F2, hsv]) rfl ⟨_, s, hsm, hs, rfl, hbf⟩
set_option maxRecDepth 20000 in
set_option maxHeartbeats 800000 in
theorem lawHashers_any (w : World) (o : Option Addr) (n c : Nat) (hs : Src w w.heap.size o n) :
    Calls Try.prog 4 #[.slice o n c] w fun e w' => e = .returned (.bool true) ∧ Below w.heap.size w w' := by
  have HS := hide hs
  clear hs
  by_cases hbig : (1048576 : Int) < (n : Int)
  · have hd : decide ((1048576 : Int) < (n : Int)) = true := by rw [decide_eq_true_iff]; exact hbig
    go_enter Try.func4, Try.ntmps4
    go_wp2_with (go_at_call 6; refine (big_any w o n c).mono ?_; rintro e w1 ⟨rfl, rfl⟩)
    go_ret
    exact ⟨rfl, Below.refl _ _⟩
  · have hd : decide ((1048576 : Int) < (n : Int)) = false := by rw [decide_eq_false_iff_not]; exact hbig
    have hn : n ≤ 1048576 := by omega
    go_enter Try.func4, Try.ntmps4
    go_wp2_with fail
    refine (big_any w o n c).mono ?_
    rintro e w0 ⟨rfl, hw0⟩
    have hw0' := hw0.symm
    subst hw0'
    clear hw0
    go_wp2_with fail
    refine (drawHashMore_any w o n c (unhide HS) hn).mono ?_
    rintro e w1 ⟨a, s, hsm, hsz, rfl, hb1⟩
    clear HS
    have hm1 : a.st.size ≤ maxLen := by have := hsm.1; unfold maxLen; omega
    have hm2 : a.rs.size ≤ maxLen := by have := hsm.2.1; unfold maxLen; omega
    have CI := hide (fun W => implMore_any2 a s W (by have := hsm.1; omega) (by have := hsm.2.1; omega) (by omega))
    have CS := hide (fun W => specMore_any2 a s W hm1 (by have := hsm.2.1; omega) (by omega))
    have OI := hide (fun W => implOk_any a W hm1 hm2)
    have OS := hide (fun W => specOk_any a W hm1 hm2)
    have EI := hide (fun W => implEnd_any a W hm1 (by have := hsm.2.1; omega))
    have hr1 : (resH a s).st.size ≤ maxLen := by
      unfold resH
      split
      · rw [show (moreH a s).st.size = 32 from V8.text_size _]; decide
      · exact hm1
    have hr2 : (resH a s).rs.size ≤ 100 := by
      unfold resH
      split
      · show ((moreT a s).extract _ _).size ≤ 100
        rw [ByteArray.size_extract]; omega
      · exact hsm.2.1
    have OR := hide (fun W => implOk_any (resH a s) W hr1 (by unfold maxLen; omega))
    have ER := hide (fun W => implEnd_any (resH a s) W hr1 (by omega))
    have hct := hide (show (okH a = false ∧ resH a s = a) ∨ (okH a = true ∧ okH (resH a s) = true ∧ ((resH a s = a) ∨ (resH a s).ct = a.ct + (s.size : Int))) from by
      unfold resH
      cases hk : okH a with
      | false => left; exact ⟨rfl, if_neg (fun h => by cases h.1)⟩
      | true =>
        right
        refine ⟨rfl, ?_⟩
        by_cases hc : a.ct + (s.size : Int) ≤ 1000000000
        · rw [if_pos ⟨rfl, hc⟩]
          exact ⟨okH_more hk hc, .inr rfl⟩
        · rw [if_neg (fun h => hc h.2)]
          exact ⟨hk, .inl rfl⟩)
    have hlim := hsm.2.2
    clear hr1 hr2 hm1 hm2 hsm
    generalize resH a s = r at *
    obtain ⟨a1, a2, a3⟩ := a
    obtain ⟨r1, r2, r3⟩ := r
    unfold hsv at CI CS OI OS EI OR ER ⊢
    dsimp only at CI CS OI OS EI OR ER hct hlim ⊢
    go_wp2_with fail
    obtain ⟨W2, hW2, hH2, hb2, hl2⟩ := one_hash w1 ⟨a1, a2, a3⟩ 28
    dsimp only at hW2
    rw [hW2]
    clear hW2
    refine ((unhide CI) W2).mono ?_
    rintro e w3 ⟨rfl, hb3⟩
    have hH3 := hH2.step hb3
    have hb13 := (hb1.trans (hb2.mono hb1.size)).trans (hb3.mono (Nat.le_trans hb1.size hb2.size))
    have hs13 := hb13.size
    clear hb1 hb2 hb3 hH2 hl2
    have hl3 := hH3.lt
    have k0 := hH3.c0
    have k1 := hH3.c1
    have k2 := hH3.c2
    dsimp only at k0 k1 k2
    go_wp2_with fail
    obtain ⟨W4, hW4, hM4, hb4, hl4⟩ := one_hash w3 ⟨r1, r2, r3⟩ 28
    dsimp only at hW4
    rw [hW4]
    clear hW4 k0 k1 k2
    have hH4 := hH3.below hb4 hl3
    refine ((unhide CS) W4).mono ?_
    rintro e w5 ⟨rfl, hb5⟩
    have hH5 := hH4.step hb5
    have hM5 := hM4.step hb5
    have hb15 := (hb13.trans (hb4.mono hs13)).trans (hb5.mono (Nat.le_trans hs13 hb4.size))
    have hs15 := hb15.size
    clear hb13 hb4 hb5 hH3 hH4 hM4 hs13 hl4
    have hl5 := hH5.lt
    have hm5 := hM5.lt
    have k0 := hH5.c0
    have k1 := hH5.c1
    have k2 := hH5.c2
    have j0 := hM5.c0
    have j1 := hM5.c1
    have j2 := hM5.c2
    dsimp only at k0 k1 k2 j0 j1 j2
    go_wp2_with fail
    obtain ⟨W6, hW6, hN6, hb6, hl6⟩ := one_hash w5 ⟨r1, r2, r3⟩ 28
    dsimp only at hW6
    rw [hW6]
    clear hW6 k0 k1 k2 j0 j1 j2
    have hH6 := hH5.below hb6 hl5
    have hM6 := hM5.below hb6 hm5
    have hb16 := hb15.trans (hb6.mono hs15)
    have hs16 := hb16.size
    have hn6 := hN6.lt
    have hh6 := hH6.lt
    have hm6 := hM6.lt
    clear hb15 hb6 hH5 hM5 hs15
    have KS := hide (fun (W : World) (h : Below W6.heap.size W6 W) => (⟨(hH6.below h hh6).c0, (hH6.below h hh6).c1, (hH6.below h hh6).c2, (hM6.below h hm6).c0, (hM6.below h hm6).c1, (hM6.below h hm6).c2, (hN6.below h hn6).c0, (hN6.below h hn6).c1, (hN6.below h hn6).c2⟩ : W.cell? ⟨w1.heap.size, 0, none⟩ = some (.string a1) ∧ W.cell? ⟨w1.heap.size, 1, none⟩ = some (.string a2) ∧ W.cell? ⟨w1.heap.size, 2, none⟩ = some (.int .i64 a3) ∧ W.cell? ⟨w3.heap.size, 0, none⟩ = some (.string r1) ∧ W.cell? ⟨w3.heap.size, 1, none⟩ = some (.string r2) ∧ W.cell? ⟨w3.heap.size, 2, none⟩ = some (.int .i64 r3) ∧ W.cell? ⟨w5.heap.size, 0, none⟩ = some (.string r1) ∧ W.cell? ⟨w5.heap.size, 1, none⟩ = some (.string r2) ∧ W.cell? ⟨w5.heap.size, 2, none⟩ = some (.int .i64 r3)))
    go_region_held3 (fun W => W.cell? ⟨w1.heap.size, 0, none⟩ = some (.string a1) ∧ W.cell? ⟨w1.heap.size, 1, none⟩ = some (.string a2) ∧ W.cell? ⟨w1.heap.size, 2, none⟩ = some (.int .i64 a3) ∧ W.cell? ⟨w3.heap.size, 0, none⟩ = some (.string r1) ∧ W.cell? ⟨w3.heap.size, 1, none⟩ = some (.string r2) ∧ W.cell? ⟨w3.heap.size, 2, none⟩ = some (.int .i64 r3) ∧ W.cell? ⟨w5.heap.size, 0, none⟩ = some (.string r1) ∧ W.cell? ⟨w5.heap.size, 1, none⟩ = some (.string r2) ∧ W.cell? ⟨w5.heap.size, 2, none⟩ = some (.int .i64 r3)) (first | exact (unhide KS) _ (Below.refl _ W6).drew | exact (unhide KS) _ hbA | exact (unhide KS) _ hbB | fail) (first
      | (go_at_call 12; refine ((unhide OI) _).mono ?_; rintro e w7 ⟨rfl, hb7⟩; have hbA : Below W6.heap.size W6 w7 := (Below.refl _ W6).drew.trans hb7)
      | (go_at_call 17; refine ((unhide OS) _).mono ?_; rintro e w8 ⟨rfl, hb8⟩; have hbB := hbA.trans (hb8.mono hbA.size))
      | fail)
    have HX := hide (show (fun W => W.cell? ⟨w1.heap.size, 0, none⟩ = some (.string a1) ∧ W.cell? ⟨w1.heap.size, 1, none⟩ = some (.string a2) ∧ W.cell? ⟨w1.heap.size, 2, none⟩ = some (.int .i64 a3) ∧ W.cell? ⟨w3.heap.size, 0, none⟩ = some (.string r1) ∧ W.cell? ⟨w3.heap.size, 1, none⟩ = some (.string r2) ∧ W.cell? ⟨w3.heap.size, 2, none⟩ = some (.int .i64 r3) ∧ W.cell? ⟨w5.heap.size, 0, none⟩ = some (.string r1) ∧ W.cell? ⟨w5.heap.size, 1, none⟩ = some (.string r2) ∧ W.cell? ⟨w5.heap.size, 2, none⟩ = some (.int .i64 r3)) w8 from (unhide KS) _ hbB)
    have hb18 := hb16.trans (hbB.mono hs16)
    have hH8 := hide (hH6.below hbB hh6)
    have hM8 := hide (hM6.below hbB hm6)
    clear hb7 hb8 hbA hbB KS hb16 hs16 hN6 hn6 hH6 hM6 hh6 hm6 hl6
    obtain ⟨x0, x1, x2, x3, x4, x5, _, _, _⟩ := unhide HX
    clear HX
    rcases unhide hct with ⟨hk, hr⟩ | ⟨hk, hkr, hr⟩
    · rw [hk] at OI OS
      rw [hk]
      injection hr with g1 g2 g3
      subst g1 g2 g3
      rw [if_neg (by rw [hk]; decide)] at EI
      clear hct OR ER
      go_wp2_with fail
      refine ((unhide OS) w8).mono ?_
      rintro e w9 ⟨rfl, hb9⟩
      have hH9 := hide ((unhide hH8).step hb9)
      have hM9 := hide ((unhide hM8).step hb9)
      have hb19 := hb18.trans (hb9.mono hb18.size)
      clear x0 x1 x2 x3 x4 x5 hH8 hM8 hb18 hb9
      have y0 := (unhide hH9).c0
      have y1 := (unhide hH9).c1
      have y2 := (unhide hH9).c2
      have y3 := (unhide hM9).c0
      have y4 := (unhide hM9).c1
      have y5 := (unhide hM9).c2
      dsimp only at y0 y1 y2 y3 y4 y5
      go_wp2_with fail
      refine ((unhide EI) w9).mono ?_
      rintro e wA ⟨rfl, hbA⟩
      have hb1A := hb19.trans (hbA.mono hb19.size)
      clear hbA hb19
      go_wp2
      go_ret
      exact ⟨by simp, hb1A⟩
    · rw [hk] at OI OS
      rw [hk]
      rw [hkr] at OR
      rw [if_pos hkr] at ER
      go_wp2_with fail
      refine ((unhide OS) w8).mono ?_
      rintro e w9 ⟨rfl, hb9⟩
      have hH9 := hide ((unhide hH8).step hb9)
      have hM9 := hide ((unhide hM8).step hb9)
      have hb19 := hb18.trans (hb9.mono hb18.size)
      clear x0 x1 x2 x3 x4 x5 hH8 hM8 hb18 hb9
      have y0 := (unhide hH9).c0
      have y1 := (unhide hH9).c1
      have y2 := (unhide hH9).c2
      have y3 := (unhide hM9).c0
      have y4 := (unhide hM9).c1
      have y5 := (unhide hM9).c2
      dsimp only at y0 y1 y2 y3 y4 y5
      go_wp2_with fail
      refine ((unhide OR) w9).mono ?_
      rintro e wA ⟨rfl, hbA⟩
      have hHA := hide ((unhide hH9).step hbA)
      have hMA := hide ((unhide hM9).step hbA)
      have hb1A := hb19.trans (hbA.mono hb19.size)
      clear y0 y1 y2 y3 y4 y5 hH9 hM9 hb19 hbA
      have y3 := (unhide hMA).c0
      have y4 := (unhide hMA).c1
      have y5 := (unhide hMA).c2
      dsimp only at y3 y4 y5
      have hdz : (endV (stOf r1) r2 r3.toNat).size = 32 := V8.text_size _
      generalize endV (stOf r1) r2 r3.toNat = d at *
      have hdz' : (d.size : Int) = 32 := by omega
      go_wp2_with fail
      refine ((unhide ER) wA).mono ?_
      rintro e wB ⟨rfl, hbB⟩
      have hHB := (unhide hHA).step hbB
      have hMB := (unhide hMA).step hbB
      have hb1B := hb1A.trans (hbB.mono hb1A.size)
      clear y3 y4 y5 hHA hMA hb1A hbB hct
      have y0 := hHB.c0
      have y1 := hHB.c1
      have y2 := hHB.c2
      have y3 := hMB.c0
      have y4 := hMB.c1
      have y5 := hMB.c2
      dsimp only at y0 y1 y2 y3 y4 y5
      rcases hr with hr | hr
      · injection hr with g1 g2 g3
        subst g1 g2 g3
        go_wp2
        go_ret
        exact ⟨by simp, hb1B⟩
      · subst hr
        have ew : IntKind.i64.wrap (a3 + (s.size : Int)) = a3 + (s.size : Int) := by rw [IntKind.wrap_i64]; omega
        go_wp2
        all_goals
          go_ret
          exact ⟨by simp_all, hb1B⟩
end Go.Proofs.Ytkidgllmhdfgaab
