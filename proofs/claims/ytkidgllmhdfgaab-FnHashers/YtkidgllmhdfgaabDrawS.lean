/- A drawn hasher, by contracts, over the loaded program. -/
import Derived.Test.YtkidgllmhdfgaabTwo
import Derived.Test.YtkidgllmhdfgaabDrawG
namespace Go.Proofs.Ytkidgllmhdfgaab
open Go.RowKit
def SmallH (a : Hs) : Prop := a.st.size ≤ 100 ∧ a.rs.size ≤ 100 ∧ -3000000000 ≤ a.ct ∧ a.ct ≤ 3000000000
theorem Cur.drew {w : World} {base g n c : Nat} {o : Option Addr} (h : Cur w base g o n c) : Cur w.drew base g o n c := h.below ((Below.refl (g + 1) w).drew) (Nat.lt_succ_self _)
theorem specMore_good (a1 a2 : ByteArray) (a3 : Int) (hok : okH ⟨a1, a2, a3⟩ = true) (hct : a3 ≤ 1000) (s : ByteArray) (hs : s.size ≤ 200) (W : World) :
    Calls Try.prog 16 #[.agg #[.string a1, .string a2, .int .i64 a3], .string s] W fun e w' => ∃ b1 b2 b3, e = .returned (.agg #[.string b1, .string b2, .int .i64 b3]) ∧ okH ⟨b1, b2, b3⟩ = true ∧ b3 = a3 + (s.size : Int) ∧ Below W.heap.size W w' := by
  obtain ⟨q1, q2, q3, q4⟩ := okH_yes hok
  dsimp only at q1 q2 q3 q4
  refine (specMore_yes ⟨a1, a2, a3⟩ s W (by show a1.size ≤ maxLen; rw [q1]; decide) (by show a2.size ≤ 1048576; omega) (by omega) hok (by show a3 + _ ≤ _; omega)).mono ?_
  rintro e w' ⟨rfl, hb⟩
  exact ⟨_, _, _, rfl, okH_more hok (by show a3 + _ ≤ _; omega), rfl, hb⟩
theorem nums4 (w : World) (T : TypeId) : ∀ j, j < 4 → ∃ z, ((w.alloc (.cells #[.int .i64 64, .int .i64 (-64), .int .i64 1, .int .i64 1000000000] T)).drew).cell? ⟨w.heap.size, j, none⟩ = some (.int .i64 z) ∧ (-64 ≤ z ∧ z ≤ 1000000000) := by
  intro j hj
  show ∃ z, (w.alloc (.cells #[.int .i64 64, .int .i64 (-64), .int .i64 1, .int .i64 1000000000] T)).cell? ⟨w.heap.size, j, none⟩ = some (.int .i64 z) ∧ (-64 ≤ z ∧ z ≤ 1000000000)
  rw [cell_of_row _ w.heap.size j _ T (0, 0) (heap_alloc_new w _)]
  match j, hj with
  | 0, _ => exact ⟨64, rfl, by decide⟩
  | 1, _ => exact ⟨-64, rfl, by decide⟩
  | 2, _ => exact ⟨1, rfl, by decide⟩
  | 3, _ => exact ⟨1000000000, rfl, by decide⟩
  | j + 4, hj => exact absurd hj (by omega)
theorem fin_hash {w W : World} {base g n c : Nat} {o : Option Addr} {T : TypeId} (x1 x2 : ByteArray) (x3 : Int) (hgl : g < w.heap.size) (hR : HB W w.heap.size T h0) (hc : Cur W base g o n c) (hG : w.grownBy W (some g)) :
    HB (((W.setCell ⟨w.heap.size, 0, none⟩ (.string x1)).setCell ⟨w.heap.size, 1, none⟩ (.string x2)).setCell ⟨w.heap.size, 2, none⟩ (.int .i64 x3)) w.heap.size T ⟨x1, x2, x3⟩ ∧ w.grownBy (((W.setCell ⟨w.heap.size, 0, none⟩ (.string x1)).setCell ⟨w.heap.size, 1, none⟩ (.string x2)).setCell ⟨w.heap.size, 2, none⟩ (.int .i64 x3)) (some g) ∧ Cur (((W.setCell ⟨w.heap.size, 0, none⟩ (.string x1)).setCell ⟨w.heap.size, 1, none⟩ (.string x2)).setCell ⟨w.heap.size, 2, none⟩ (.int .i64 x3)) base g o n c := by
  have hS := (((Below.refl w.heap.size W).setCell (p := ⟨w.heap.size, 0, none⟩) (Nat.le_refl _) (.string x1)).setCell (p := ⟨w.heap.size, 1, none⟩) (Nat.le_refl _) (.string x2)).setCell (p := ⟨w.heap.size, 2, none⟩) (Nat.le_refl _) (.int .i64 x3)
  exact ⟨hR.set3 ⟨x1, x2, x3⟩, gTB hG hS, hc.below hS hgl⟩
theorem g_step {w W : World} {base g n c G : Nat} {o : Option Addr} {T : TypeId} (off : Nat) (u : Value) (hgl : g < w.heap.size) (hGR : w.heap.size < G) (hR : HB W w.heap.size T h0) (hc : Cur W base g o n c) (hG : w.grownBy W (some g)) :
    HB (W.setCell ⟨G, off, none⟩ u) w.heap.size T h0 ∧ Cur (W.setCell ⟨G, off, none⟩ u) base g o n c ∧ w.grownBy (W.setCell ⟨G, off, none⟩ u) (some g) := by
  have hS := (Below.refl G W).setCell (p := ⟨G, off, none⟩) (Nat.le_refl _) u
  exact ⟨hR.below hS hGR, hc.below hS (by omega), gTB hG (hS.mono (Nat.le_of_lt hGR))⟩
set_option maxRecDepth 20000 in
set_option maxHeartbeats 800000 in
theorem l05Hasher_any {w : World} {base g n c : Nat} {o : Option Addr} (h : Cur w base g o n c) (hn : n ≤ 1048576) :
    Calls Try.prog 38 #[.pointer (some ⟨g, 0, none⟩)] w fun e w' => ∃ a : Hs, SmallH a ∧ e = .returned (hsv a) ∧ w.grownBy w' (some g) ∧ Cur w' base g o n c := by
  have hgl := h.lt
  have HC := hide h
  clear h
  go_enter Try.func38, Try.ntmps38
  go_wp2_with fail
  obtain ⟨W1, hW1, hR1, hb1, hl1⟩ := one_hash w h0 28
  unfold h0 at hW1
  dsimp only at hW1
  rw [hW1]
  clear hW1
  refine (specNew_any W1).mono ?_
  rintro e w2 ⟨rfl, hb2⟩
  have hR2 := hR1.step hb2
  have hb12 := hb1.trans (hb2.mono (Nat.le_of_lt hl1))
  have HC2 := (unhide HC).below hb12 hgl
  obtain ⟨A, hA⟩ : ∃ A, A = hNew := ⟨_, rfl⟩
  have hAok : okH A = true := by rw [hA]; exact hNew_ok
  have hAct : A.ct = 0 := by rw [hA]; rfl
  change A = ⟨first8.text, ⟨#[]⟩, 0⟩ at hA
  rw [← hA]
  clear hA HC
  obtain ⟨z1, z2, z3⟩ := A
  dsimp only at hAct
  replace hAct := hide hAct
  replace hAok := hide hAok
  unfold hsv
  dsimp only
  go_wp2_with fail
  obtain ⟨W3, hW3, hH3, hb3, hl3⟩ := one_hash w2 ⟨z1, z2, z3⟩ 28
  dsimp only at hW3
  rw [hW3]
  clear hW3
  have hlR := hR2.lt
  have hR3 := hide (hR2.below hb3 hlR)
  have HC3 := hide (HC2.below hb3 (by omega))
  have HG3 := hide (gB (hb12.trans (hb3.mono (by omega))) (some g))
  replace hH3 := hide hH3
  obtain ⟨G, hG⟩ : ∃ G, G = w2.heap.size := ⟨_, rfl⟩
  rw [← hG] at hH3 ⊢
  have hGR : w.heap.size < G := by omega
  clear hG hR1 hb1 hl1 hb2 hR2 hb12 HC2 hb3 hl3 hlR
  go_loopw [4] (fun ti wq => ∃ (k : Nat) (a1 a2 : ByteArray) (a3 : Int), k ≤ 2 ∧ ti = .int .i64 (k : Int) ∧ okH ⟨a1, a2, a3⟩ = true ∧ a3 ≤ 200 * (k : Int) ∧ Hid (HB wq G 28 ⟨a1, a2, a3⟩) ∧ Hid (HB wq w.heap.size 28 h0) ∧ Hid (Cur wq base g o n c) ∧ Hid (w.grownBy wq (some g))) (fun ti _ => 3 - (intOf ti).toNat)
  case atStart => exact ⟨0, z1, z2, z3, by omega, rfl, unhide hAok, by have := unhide hAct; omega, hH3, hR3, HC3, HG3⟩
  case round =>
    clear hH3 hR3 HC3 HG3 hAok hAct
    obtain ⟨k, a1, a2, a3, hk, rfl, hok, hct, HH, HR, HC, HG⟩ := hrel
    go_wp2_with fail
    refine (l01Below_any (unhide HC) hn 3 (by omega) (by omega)).mono ?_
    rintro e w4 ⟨x, hx, rfl, ho, hc4⟩
    have hH4 := HB.grown (unhide HH) (gO ho) (by omega)
    have hR4 := hide (HB.grown (unhide HR) (gO ho) (by omega))
    have hG4 := gT (unhide HG) (gO ho)
    have hc4d := hide hc4.drew
    replace hc4 := hide hc4
    have hl4 := hH4.lt
    clear HH HR HC HG ho
    by_cases hkx : k < x
    · have hkx' : (k : Int) < (x : Int) := by omega
      have CM := hide (specMore_good a1 a2 a3 hok (by omega))
      have k0 := hH4.c0
      have k1 := hH4.c1
      have k2 := hH4.c2
      dsimp only at k0 k1 k2
      go_wp2
      go_region_with (first
        | (go_at_call 25; refine (l05Text_g (unhide hc4d) hn).mono ?_; rintro e w5 ⟨s, hs, rfl, hg5, hc5⟩; have hH5 := HB.grown (w := w4.drew) hH4 hg5 (by omega); have q0 := hH5.c0; have q1 := hH5.c1; have q2 := hH5.c2; dsimp only at q0 q1 q2)
        | (go_at_call 16; refine ((unhide CM) _ hs _).mono ?_; rintro e w6 ⟨b1, b2, b3, rfl, hokb, hb3, hb6⟩; have hH6 := hH5.step hb6; have t0 := hH6.c0; have t1 := hH6.c1; have t2 := hH6.c2; have f0 := hH6.frozen 0; have f1 := hH6.frozen 1; have f2 := hH6.frozen 2))
      all_goals
        subst hb3
        have hR6 := (HB.grown (w := w4.drew) (unhide hR4) hg5 (by omega)).step hb6
        have hH7 := hide (hH6.set3 ⟨b1, b2, a3 + (s.size : Int)⟩)
        have hS7 := (((Below.refl G w6).setCell (p := ⟨G, 0, none⟩) (Nat.le_refl _) (.string b1)).setCell (p := ⟨G, 1, none⟩) (Nat.le_refl _) (.string b2)).setCell (p := ⟨G, 2, none⟩) (Nat.le_refl _) (.int .i64 (a3 + (s.size : Int)))
        have hR7 := hide (hR6.below hS7 hGR)
        have hc7 := hide ((hc5.below hb6 hc5.lt).below hS7 (by omega))
        have hG7 := hide (gTB (gT (gT (gTB hG4 ((Below.refl w.heap.size w4).drew)) hg5) (gB hb6 _)) (hS7.mono (Nat.le_of_lt hGR)))
        dsimp only at hH7
        generalize ((w6.setCell ⟨G, 0, none⟩ (.string b1)).setCell ⟨G, 1, none⟩ (.string b2)).setCell ⟨G, 2, none⟩ (.int .i64 (a3 + (s.size : Int))) = W7 at *
        clear hR6 hS7 hg5 hb6 hc5 hH5 hH6 t0 t1 t2 f0 f1 f2 q0 q1 q2 k0 k1 k2 hH4 hR4 hG4 hc4 hc4d CM
        have hokc := hide hokb
        clear hokb
        go_wp2
        go_roundw
        case rel => exact ⟨k + 1, b1, b2, _, by omega, by go_num, unhide hokc, by omega, hH7, hR7, hc7, hG7⟩
        case measure => simp [intOf]; omega
    · have hkx' : ¬ (k : Int) < (x : Int) := by omega
      obtain ⟨p1, p2, p3, p4⟩ := okH_yes hok
      dsimp only at p1 p2 p3 p4
      have hrs : a2.size < 64 := by omega
      have hc0 : 0 ≤ a3 := p2
      have hc1 : a3 ≤ 1000 := by omega
      clear p2 p3 p4 hok hct
      go_wp2_with fail
      refine (l01Below_any (unhide hc4) hn 16 (by omega) (by omega)).mono ?_
      rintro e w5 ⟨y, hy, rfl, ho5, hc5⟩
      have hH5 := HB.grown hH4 (gO ho5) (by omega)
      have hR5 := hide (HB.grown (unhide hR4) (gO ho5) (by omega))
      have hG5 := hide (gT hG4 (gO ho5))
      replace hc5 := hide hc5
      have k0 := hH5.c0
      have k1 := hH5.c1
      have k2 := hH5.c2
      dsimp only at k0 k1 k2
      have f0 := hH5.frozen 0
      have f1 := hH5.frozen 1
      have f2 := hH5.frozen 2
      have r0 := (unhide hR5).c0
      have r1 := (unhide hR5).c1
      have r2 := (unhide hR5).c2
      have e0 := (unhide hR5).frozen 0
      have e1 := (unhide hR5).frozen 1
      have e2 := (unhide hR5).frozen 2
      have hl5 := hH5.lt
      replace hH5 := hide hH5
      clear hH4 hR4 hG4 hc4 hc4d ho5 hl4
      by_cases y0 : y = 0
      · subst y0
        clear r0 r1 r2 e0 e1 e2 k0 k1 k2 f0 f1 f2
        go_wp2_with fail
        refine (l01Below_any (unhide hc5) hn 40 (by omega) (by omega)).mono ?_
        rintro e w6 ⟨x40, hx40, rfl, ho6, hc6⟩
        have hG6 := gT (unhide hG5) (gO ho6)
        have hH6 := HB.grown (unhide hH5) (gO ho6) (by omega)
        have hR6 := HB.grown (unhide hR5) (gO ho6) (by omega)
        replace hc6 := hide hc6
        clear ho6 hc5 hG5 hH5 hR5
        go_wp2_with fail
        refine (l01Text_g (unhide hc6) hn x40 (by omega)).mono ?_
        rintro e w7 ⟨l, hl, rfl, hg7, hc7⟩
        have hG7 := gT hG6 hg7
        have hH7 := HB.grown hH6 hg7 (by omega)
        have hR7 := HB.grown hR6 hg7 (by omega)
        obtain ⟨v1, v2, v3⟩ := g_step 0 (.string ⟨l.toArray⟩) hgl hGR hR7 hc7 hG7
        have k0 := hH7.c0
        have k1 := hH7.c1
        have k2 := hH7.c2
        dsimp only at k0 k1 k2
        have f0 := hH7.frozen 0
        have r0 := v1.c0
        have r1 := v1.c1
        have r2 := v1.c2
        have e0 := v1.frozen 0
        have e1 := v1.frozen 1
        have e2 := v1.frozen 2
        have hsl : (⟨l.toArray⟩ : ByteArray).size ≤ 100 := by show l.length ≤ 100; omega
        generalize (⟨l.toArray⟩ : ByteArray) = tx at *
        replace v1 := hide v1
        replace v2 := hide v2
        replace v3 := hide v3
        clear hc6 hG6 hH6 hR6 hc7 hG7 hH7 hR7 hg7
        go_wp2
        obtain ⟨u1, u2, u3⟩ := fin_hash tx a2 a3 hgl (unhide v1) (unhide v2) (unhide v3)
        exact bodyPost_ret (v := hsv ⟨tx, a2, a3⟩) (results_hash Try.results38 _ _ w.heap.size 28 _ _ rfl u1 Try.underlying28 (by kernel_rfl)) rfl ⟨_, ⟨hsl, by show a2.size ≤ 100; omega, by show -3000000000 ≤ a3; omega, by show a3 ≤ 3000000000; omega⟩, rfl, u2, u3⟩
      by_cases y1 : y = 1
      · subst y1
        obtain ⟨v1, v2, v3⟩ := g_step 1 (.string (a2 ++ ⟨#[120]⟩)) hgl hGR (unhide hR5) (unhide hc5) (unhide hG5)
        clear r0 r1 r2 e0 e1 e2
        have r0 := v1.c0
        have r1 := v1.c1
        have r2 := v1.c2
        have e0 := v1.frozen 0
        have e1 := v1.frozen 1
        have e2 := v1.frozen 2
        have hsl : (a2 ++ (⟨#[120]⟩ : ByteArray)).size ≤ 100 := by rw [ByteArray.size_append]; show a2.size + 1 ≤ 100; omega
        replace v1 := hide v1
        replace v2 := hide v2
        replace v3 := hide v3
        replace hsl := hide hsl
        clear hc5 hG5 hH5 hR5
        go_wp2
        obtain ⟨u1, u2, u3⟩ := fin_hash a1 (a2 ++ ⟨#[120]⟩) a3 hgl (unhide v1) (unhide v2) (unhide v3)
        exact bodyPost_ret (v := hsv ⟨a1, (a2 ++ ⟨#[120]⟩), a3⟩) (results_hash Try.results38 _ _ w.heap.size 28 _ _ rfl u1 Try.underlying28 (by kernel_rfl)) rfl ⟨_, ⟨by show a1.size ≤ 100; omega, unhide hsl, by show -3000000000 ≤ a3; omega, by show a3 ≤ 3000000000; omega⟩, rfl, u2, u3⟩
      by_cases y2 : y = 2
      · subst y2
        have hU : Below w5.heap.size w5 ((w5.alloc (.cells #[.int .i64 64, .int .i64 (-64), .int .i64 1, .int .i64 1000000000] 3)).drew) := ((Below.refl w5.heap.size w5).alloc (Nat.le_refl _) _).drew
        have CP := hide (l01PickP_any (fun z => -64 ≤ z ∧ z ≤ 1000000000) ((unhide hc5).below hU (unhide hc5).lt) hn w5.heap.size 4 4 (by omega) (by omega) (nums4 w5 3) (by have := (unhide hc5).lt; omega))
        have hHU := hide ((unhide hH5).below hU hl5)
        have hRU := hide ((unhide hR5).below hU (by omega))
        have hGU := hide (gT (unhide hG5) (gB hU _))
        go_wp2
        clear r0 r1 r2 e0 e1 e2
        go_region_with (first
          | (go_at_call 49; refine (unhide CP).mono ?_; rintro e w7 ⟨zc, ⟨hz1, hz2⟩, rfl, ho7, hc7⟩; have hH7 := HB.grown (unhide hHU) (gO ho7) (by omega); have q2 := hH7.c2; dsimp only at q2; have p2 := hH7.frozen 2))
        all_goals
          have ew : IntKind.i64.wrap (a3 + zc) = a3 + zc := by rw [IntKind.wrap_i64]; omega
          rw [ew]
          have hR7 := HB.grown (unhide hRU) (gO ho7) (by omega)
          have hG7 := gT (unhide hGU) (gO ho7)
          obtain ⟨v1, v2, v3⟩ := g_step 2 (.int .i64 (a3 + zc)) hgl hGR hR7 hc7 hG7
          have j0 := hH7.c0
          have j1 := hH7.c1
          dsimp only at j0 j1
          have r0 := v1.c0
          have r1 := v1.c1
          have r2 := v1.c2
          have e0 := v1.frozen 0
          have e1 := v1.frozen 1
          have e2 := v1.frozen 2
          replace v1 := hide v1
          replace v2 := hide v2
          replace v3 := hide v3
          clear hc5 hG5 hH5 hR5 hc7 hG7 hH7 hR7 ho7 hHU hRU hGU CP hU k0 k1 k2 f0 f1 f2 ew
          go_wp2
          obtain ⟨u1, u2, u3⟩ := fin_hash a1 a2 (a3 + zc) hgl (unhide v1) (unhide v2) (unhide v3)
          exact bodyPost_ret (v := hsv ⟨a1, a2, a3 + zc⟩) (results_hash Try.results38 _ _ w.heap.size 28 _ _ rfl u1 Try.underlying28 (by kernel_rfl)) rfl ⟨_, ⟨by show a1.size ≤ 100; omega, by show a2.size ≤ 100; omega, by show -3000000000 ≤ a3 + zc; omega, by show a3 + zc ≤ 3000000000; omega⟩, rfl, u2, u3⟩
      by_cases y3 : y = 3
      · subst y3
        clear r0 r1 r2 e0 e1 e2 k0 k1 k2 f0 f1 f2
        go_wp2_with fail
        refine (l01Long0_any 64 65 w5 (by omega) (by omega)).mono ?_
        rintro e w7 ⟨l, hl, rfl, hb7⟩
        have hG7 := gT (unhide hG5) (gB hb7 _)
        have hH7 := (unhide hH5).below hb7 hl5
        have hR7 := (unhide hR5).step hb7
        have hc7 := (unhide hc5).below hb7 (unhide hc5).lt
        obtain ⟨t1, t2, t3⟩ := g_step 1 (.string ⟨l.toArray⟩) hgl hGR hR7 hc7 hG7
        obtain ⟨v1, v2, v3⟩ := g_step 2 (.int .i64 64) hgl hGR t1 t2 t3
        have k0 := hH7.c0
        have k1 := hH7.c1
        have k2 := hH7.c2
        dsimp only at k0 k1 k2
        have f1 := hH7.frozen 1
        have f2 := hH7.frozen 2
        have r0 := v1.c0
        have r1 := v1.c1
        have r2 := v1.c2
        have e0 := v1.frozen 0
        have e1 := v1.frozen 1
        have e2 := v1.frozen 2
        have hsl : (⟨l.toArray⟩ : ByteArray).size ≤ 100 := by show l.length ≤ 100; omega
        generalize (⟨l.toArray⟩ : ByteArray) = tx at *
        replace v1 := hide v1
        replace v2 := hide v2
        replace v3 := hide v3
        clear hc5 hG5 hH5 hR5 hc7 hG7 hH7 hR7 hb7 t1 t2 t3
        go_wp2
        obtain ⟨u1, u2, u3⟩ := fin_hash a1 tx 64 hgl (unhide v1) (unhide v2) (unhide v3)
        exact bodyPost_ret (v := hsv ⟨a1, tx, 64⟩) (results_hash Try.results38 _ _ w.heap.size 28 _ _ rfl u1 Try.underlying28 (by kernel_rfl)) rfl ⟨_, ⟨by show a1.size ≤ 100; omega, hsl, by show (-3000000000 : Int) ≤ 64; decide, by show (64 : Int) ≤ 3000000000; decide⟩, rfl, u2, u3⟩
      have z0 : ¬ (y : Int) = 0 := by omega
      have z1 : ¬ (y : Int) = 1 := by omega
      have z2 : ¬ (y : Int) = 2 := by omega
      have z3 : ¬ (y : Int) = 3 := by omega
      go_wp2
      obtain ⟨u1, u2, u3⟩ := fin_hash a1 a2 a3 hgl (unhide hR5) (unhide hc5) (unhide hG5)
      exact bodyPost_ret (v := hsv ⟨a1, a2, a3⟩) (results_hash Try.results38 _ _ w.heap.size 28 _ _ rfl u1 Try.underlying28 (by kernel_rfl)) rfl ⟨_, ⟨by show a1.size ≤ 100; omega, by show a2.size ≤ 100; omega, by show -3000000000 ≤ a3; omega, by show a3 ≤ 3000000000; omega⟩, rfl, u2, u3⟩
end Go.Proofs.Ytkidgllmhdfgaab
