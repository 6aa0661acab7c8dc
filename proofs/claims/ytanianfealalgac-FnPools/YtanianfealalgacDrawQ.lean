/- A drawn pool, and a drawn pool with a number, by contracts, over the loaded program. -/
import Derived.Test.YtanianfealalgacLawTake
import Derived.Test.YtanianfealalgacPol3
import Derived.Test.YtanianfealalgacDrawG
namespace Go.Proofs.Ytanianfealalgac
open Go.RowKit
def SmallP (a : Hs) : Prop := a.st.size ≤ 100 ∧ a.rs.size ≤ 100 ∧ -100 ≤ a.ct ∧ a.ct ≤ 100
def StepP (a : Hs) : Prop := a.st.size ≤ 32 ∧ a.rs.size ≤ 32 ∧ 0 ≤ a.ct ∧ a.ct ≤ 20
theorem takeH_is (a : Hs) (n : Nat) : (takeH a n).st.size = 32 ∧ (takeH a n).rs.size = 32 ∧ (takeH a n).ct = a.ct + 1 :=
  ⟨(mixH_st _ _).1, (mixH_st _ _).2.1, rfl⟩
theorem StepP.take {a : Hs} (h : StepP a) (z : Int) : StepP (tkH a z) := by
  unfold tkH
  by_cases hm : mayT a z = true
  · rw [if_pos hm]
    obtain ⟨c1, _, _, c4⟩ := mayT_yes hm
    obtain ⟨k1, k2, k3⟩ := takeH_is a z.toNat
    have := h.2.2.1
    have := h.2.2.2
    refine ⟨by omega, by omega, by omega, ?_⟩
    rw [k3]
    omega
  · rw [if_neg hm]
    exact ⟨by decide, by decide, by decide, by decide⟩
theorem Cur.drew8 {w : World} {base g n c : Nat} {o : Option Addr} (h : Cur w base g o n c) : Cur w.drew base g o n c := h.below ((Below.refl (g + 1) w).drew) (Nat.lt_succ_self _)
theorem nums3 (w : World) (T : TypeId) : ∀ j, j < 3 → ∃ z, (w.alloc (.cells #[.int .i64 (-1), .int .i64 20, .int .i64 21] T)).cell? ⟨w.heap.size, j, none⟩ = some (.int .i64 z) ∧ (-1 ≤ z ∧ z ≤ 21) := by
  intro j hj
  rw [cell_of_row _ w.heap.size j _ T (0, 0) (heap_alloc_new w _)]
  match j, hj with
  | 0, _ => exact ⟨-1, rfl, by decide⟩
  | 1, _ => exact ⟨20, rfl, by decide⟩
  | 2, _ => exact ⟨21, rfl, by decide⟩
  | j + 3, hj => exact absurd hj (by omega)
theorem fin8 {w W : World} {base g n c : Nat} {o : Option Addr} {T : TypeId} (x1 x2 : ByteArray) (x3 : Int) (hgl : g < w.heap.size) (hR : HB W w.heap.size T hz) (hc : Cur W base g o n c) (hG : w.grownBy W (some g)) :
    HB (((W.setCell ⟨w.heap.size, 0, none⟩ (.string x1)).setCell ⟨w.heap.size, 1, none⟩ (.string x2)).setCell ⟨w.heap.size, 2, none⟩ (.int .i64 x3)) w.heap.size T ⟨x1, x2, x3⟩ ∧ w.grownBy (((W.setCell ⟨w.heap.size, 0, none⟩ (.string x1)).setCell ⟨w.heap.size, 1, none⟩ (.string x2)).setCell ⟨w.heap.size, 2, none⟩ (.int .i64 x3)) (some g) ∧ Cur (((W.setCell ⟨w.heap.size, 0, none⟩ (.string x1)).setCell ⟨w.heap.size, 1, none⟩ (.string x2)).setCell ⟨w.heap.size, 2, none⟩ (.int .i64 x3)) base g o n c := by
  have hS := (((Below.refl w.heap.size W).setCell (p := ⟨w.heap.size, 0, none⟩) (Nat.le_refl _) (.string x1)).setCell (p := ⟨w.heap.size, 1, none⟩) (Nat.le_refl _) (.string x2)).setCell (p := ⟨w.heap.size, 2, none⟩) (Nat.le_refl _) (.int .i64 x3)
  exact ⟨hR.set3 ⟨x1, x2, x3⟩, gTB hG hS, hc.below hS hgl⟩
theorem gst8 {w W : World} {base g n c G : Nat} {o : Option Addr} {T : TypeId} (off : Nat) (u : Value) (hgl : g < w.heap.size) (hGR : w.heap.size < G) (hR : HB W w.heap.size T hz) (hc : Cur W base g o n c) (hG : w.grownBy W (some g)) :
    HB (W.setCell ⟨G, off, none⟩ u) w.heap.size T hz ∧ Cur (W.setCell ⟨G, off, none⟩ u) base g o n c ∧ w.grownBy (W.setCell ⟨G, off, none⟩ u) (some g) := by
  have hS := (Below.refl G W).setCell (p := ⟨G, off, none⟩) (Nat.le_refl _) u
  exact ⟨hR.below hS hGR, hc.below hS (by omega), gTB hG (hS.mono (Nat.le_of_lt hGR))⟩
theorem specTake_step (a1 a2 : ByteArray) (a3 : Int) (h : StepP ⟨a1, a2, a3⟩) (z : Int) (W : World) :
    Calls Try.prog 7 #[.agg #[.string a1, .string a2, .int .i64 a3], .int .i64 z] W fun e w' => ∃ b1 b2 b3 t o, e = .returned (.tuple #[.agg #[.string b1, .string b2, .int .i64 b3], .string t, .bool o]) ∧ StepP ⟨b1, b2, b3⟩ ∧ Below W.heap.size W w' := by
  have s1 := h.1
  have s2 := h.2.1
  dsimp only at s1 s2
  refine (specTake_any ⟨a1, a2, a3⟩ z (by show a1.size ≤ maxLen; unfold maxLen; omega) (by show a2.size ≤ maxLen; unfold maxLen; omega) W).mono ?_
  rintro e w' ⟨rfl, hb⟩
  exact ⟨_, _, _, _, _, rfl, h.take z, hb⟩
set_option maxRecDepth 20000 in
set_option maxHeartbeats 800000 in
theorem l08Pool_any {w : World} {base g n c : Nat} {o : Option Addr} (h : Cur w base g o n c) (hn : n ≤ 1048576) :
    Calls Try.prog 14 #[.pointer (some ⟨g, 0, none⟩)] w fun e w' => ∃ a : Hs, SmallP a ∧ e = .returned (hsv a) ∧ w.grownBy w' (some g) ∧ Cur w' base g o n c := by
  have hgl := h.lt
  have HC := hide h
  clear h
  go_enter Try.func14, Try.ntmps14
  go_wp2_with fail
  obtain ⟨W1, hW1, hR1, hb1, hl1⟩ := one_hash w hz 25
  unfold hz at hW1
  dsimp only at hW1
  rw [hW1]
  clear hW1
  have HC1 := hide ((unhide HC).below hb1 hgl)
  refine (l01Below_any (unhide HC1) hn 9 (by omega) (by omega)).mono ?_
  rintro e w2 ⟨x9, hx9, rfl, ho2, hc2⟩
  have hR2 := HB.grown hR1 (gO ho2) (by omega)
  have hG2 := gT (gB hb1 (some g)) (gO ho2)
  replace hc2 := hide hc2
  clear HC HC1 hR1 hb1 hl1 ho2
  go_wp2_with fail
  refine (l01Text_g (unhide hc2) hn x9 (by omega)).mono ?_
  rintro e w3 ⟨l, hl, rfl, hg3, hc3⟩
  have hR3 := HB.grown hR2 hg3 (by omega)
  have hG3 := gT hG2 hg3
  have hsl : (⟨l.toArray⟩ : ByteArray).size ≤ 1048576 := by show l.length ≤ 1048576; omega
  have CN := hide (specPoolNew_any ⟨l.toArray⟩ hsl w3)
  obtain ⟨A, hA⟩ : ∃ A, A = newP ⟨l.toArray⟩ := ⟨_, rfl⟩
  have hAs : StepP A := by
    rw [hA]
    obtain ⟨k1, k2, k3⟩ := mixH_st ⟨repB 0, repB 1, 0⟩ ⟨l.toArray⟩
    exact ⟨by show (mixH _ _).st.size ≤ 32; omega, by show (mixH _ _).rs.size ≤ 32; omega, by show 0 ≤ (mixH _ _).ct; rw [k3]; exact Int.le_refl 0, by show (mixH _ _).ct ≤ 20; rw [k3]; show (0 : Int) ≤ 20; decide⟩
  rw [← hA] at CN
  clear hA hR2 hG2 hg3 hc2
  obtain ⟨z1, z2, z3⟩ := A
  unfold hsv at CN
  dsimp only at CN
  generalize (⟨l.toArray⟩ : ByteArray) = tx at *
  go_wp2_with fail
  refine (unhide CN).mono ?_
  rintro e w4 ⟨rfl, hb4⟩
  have hl3 := hR3.lt
  have hR4 := hR3.step hb4
  have hc4 := hc3.below hb4 hc3.lt
  have hG4 := gTB hG3 (hb4.mono (by omega))
  have hl4 := hR4.lt
  clear hR3 hG3 hc3 CN hb4
  go_wp2_with fail
  obtain ⟨W5, hW5, hH5, hb5, hl5⟩ := one_hash w4 ⟨z1, z2, z3⟩ 25
  dsimp only at hW5
  rw [hW5]
  clear hW5
  have hR5 := hide (hR4.below hb5 hl4)
  have HC5 := hide (hc4.below hb5 hc4.lt)
  have HG5 := hide (gTB hG4 (hb5.mono (by omega)))
  replace hH5 := hide hH5
  obtain ⟨G, hG⟩ : ∃ G, G = w4.heap.size := ⟨_, rfl⟩
  rw [← hG] at hH5 ⊢
  have hGR : w.heap.size < G := by omega
  clear hG hR4 hc4 hG4 hb5 hl5 hl4
  go_loopw [4] (fun ti wq => ∃ (k : Nat) (a1 a2 : ByteArray) (a3 : Int), k ≤ 3 ∧ ti = .int .i64 (k : Int) ∧ StepP ⟨a1, a2, a3⟩ ∧ Hid (HB wq G 25 ⟨a1, a2, a3⟩) ∧ Hid (HB wq w.heap.size 25 hz) ∧ Hid (Cur wq base g o n c) ∧ Hid (w.grownBy wq (some g))) (fun ti _ => 4 - (intOf ti).toNat)
  case atStart => exact ⟨0, z1, z2, z3, by omega, rfl, hAs, hH5, hR5, HC5, HG5⟩
  case round =>
    clear hH5 hR5 HC5 HG5 hAs
    obtain ⟨k, a1, a2, a3, hk, rfl, hst, HH, HR, HC, HG⟩ := hrel
    go_wp2_with fail
    refine (l01Below_any (unhide HC) hn 4 (by omega) (by omega)).mono ?_
    rintro e w4 ⟨x, hx, rfl, ho, hc4⟩
    have hH4 := HB.grown (unhide HH) (gO ho) (by omega)
    have hR4 := hide (HB.grown (unhide HR) (gO ho) (by omega))
    have hG4 := gT (unhide HG) (gO ho)
    have hc4d := hide hc4.drew8
    replace hc4 := hide hc4
    have hl4 := hH4.lt
    clear HH HR HC HG ho
    by_cases hkx : k < x
    · have hkx' : (k : Int) < (x : Int) := by omega
      have CM := hide (specTake_step a1 a2 a3 hst)
      have k0 := hH4.c0
      have k1 := hH4.c1
      have k2 := hH4.c2
      dsimp only at k0 k1 k2
      go_wp2
      go_region_with (first
        | (go_at_call 25; refine (l01Below_any (unhide hc4d) hn 70 (by omega) (by omega)).mono ?_; rintro e w5 ⟨x70, hx70, rfl, ho5, hc5⟩; have hH5 := HB.grown (w := w4.drew) hH4 (gO ho5) (by omega); have q0 := hH5.c0; have q1 := hH5.c1; have q2 := hH5.c2; dsimp only at q0 q1 q2)
        | (go_at_call 7; refine ((unhide CM) _ _).mono ?_; rintro e w6 ⟨b1, b2, b3, tt, oo, rfl, hstb, hb6⟩; have hH6 := hH5.step hb6; have t0 := hH6.c0; have t1 := hH6.c1; have t2 := hH6.c2; have f0 := hH6.frozen 0; have f1 := hH6.frozen 1; have f2 := hH6.frozen 2))
      all_goals
        have hg5 := gO ho5
        have hR6 := (HB.grown (w := w4.drew) (unhide hR4) hg5 (by omega)).step hb6
        have hH7 := hide (hH6.set3 ⟨b1, b2, b3⟩)
        have hS7 := (((Below.refl G w6).setCell (p := ⟨G, 0, none⟩) (Nat.le_refl _) (.string b1)).setCell (p := ⟨G, 1, none⟩) (Nat.le_refl _) (.string b2)).setCell (p := ⟨G, 2, none⟩) (Nat.le_refl _) (.int .i64 b3)
        have hR7 := hide (hR6.below hS7 hGR)
        have hc7 := hide ((hc5.below hb6 hc5.lt).below hS7 (by omega))
        have hG7 := hide (gTB (gT (gT (gTB hG4 ((Below.refl w.heap.size w4).drew)) hg5) (gB hb6 _)) (hS7.mono (Nat.le_of_lt hGR)))
        dsimp only at hH7
        generalize ((w6.setCell ⟨G, 0, none⟩ (.string b1)).setCell ⟨G, 1, none⟩ (.string b2)).setCell ⟨G, 2, none⟩ (.int .i64 b3) = W7 at *
        clear hR6 hS7 hg5 hb6 hc5 hH5 hH6 t0 t1 t2 f0 f1 f2 q0 q1 q2 k0 k1 k2 hH4 hR4 hG4 hc4 hc4d CM ho5
        replace hstb := hide hstb
        go_wp2
        go_roundw
        case rel => exact ⟨k + 1, b1, b2, b3, by omega, by go_num, unhide hstb, hH7, hR7, hc7, hG7⟩
        case measure => simp [intOf]; omega
    · have hkx' : ¬ (k : Int) < (x : Int) := by omega
      obtain ⟨p1, p2, p3, p4⟩ := hst
      dsimp only at p1 p2 p3 p4
      go_wp2_with fail
      refine (l01Below_any (unhide hc4) hn 12 (by omega) (by omega)).mono ?_
      rintro e w5 ⟨y, hy, rfl, ho5, hc5⟩
      have hH5 := HB.grown hH4 (gO ho5) (by omega)
      have hR5 := hide (HB.grown (unhide hR4) (gO ho5) (by omega))
      have hG5 := hide (gT hG4 (gO ho5))
      replace hc5 := hide hc5
      have k0 := hH5.c0
      have k1 := hH5.c1
      have k2 := hH5.c2
      dsimp only at k0 k1 k2
      have f0 := hH5.frozen 0
      have f1 := hH5.frozen 1
      have f2 := hH5.frozen 2
      have r0 := (unhide hR5).c0
      have r1 := (unhide hR5).c1
      have r2 := (unhide hR5).c2
      unfold hz at r0 r1 r2
      have e0 := (unhide hR5).frozen 0
      have e1 := (unhide hR5).frozen 1
      have e2 := (unhide hR5).frozen 2
      have hl5 := hH5.lt
      replace hH5 := hide hH5
      clear hH4 hR4 hG4 hc4 hc4d ho5 hl4
      by_cases y0 : y = 0
      · subst y0
        have hU : Below w5.heap.size w5 (w5.alloc (.cells #[.int .i64 (-1), .int .i64 20, .int .i64 21] 3)) := (Below.refl w5.heap.size w5).alloc (Nat.le_refl _) _
        have CP := hide (l01PickP_any (fun z => -1 ≤ z ∧ z ≤ 21) ((unhide hc5).below hU (unhide hc5).lt) hn w5.heap.size 3 3 (by omega) (by omega) (nums3 w5 3) (by have := (unhide hc5).lt; omega))
        have hHU := hide ((unhide hH5).below hU hl5)
        have hRU := hide ((unhide hR5).below hU (by omega))
        have hGU := hide (gT (unhide hG5) (gB hU _))
        clear r0 r1 r2 e0 e1 e2 k0 k1 k2 f0 f1 f2
        go_wp2_with fail
        refine (unhide CP).mono ?_
        rintro e w7 ⟨zc, ⟨hz1, hz2⟩, rfl, ho7, hc7⟩
        have hH7 := HB.grown (unhide hHU) (gO ho7) (by omega)
        have hR7 := HB.grown (unhide hRU) (gO ho7) (by omega)
        have hG7 := gT (unhide hGU) (gO ho7)
        obtain ⟨v1, v2, v3⟩ := gst8 2 (.int .i64 zc) hgl hGR hR7 hc7 hG7
        have k0 := hH7.c0
        have k1 := hH7.c1
        have k2 := hH7.c2
        dsimp only at k0 k1 k2
        have f2 := hH7.frozen 2
        have r0 := v1.c0
        have r1 := v1.c1
        have r2 := v1.c2
        unfold hz at r0 r1 r2
        have e0 := v1.frozen 0
        have e1 := v1.frozen 1
        have e2 := v1.frozen 2
        replace v1 := hide v1
        replace v2 := hide v2
        replace v3 := hide v3
        clear hc5 hG5 hH5 hR5 hc7 hG7 hH7 hR7 ho7 hHU hRU hGU CP hU
        go_wp2
        obtain ⟨u1, u2, u3⟩ := fin8 a1 a2 zc hgl (unhide v1) (unhide v2) (unhide v3)
        exact bodyPost_ret (v := hsv ⟨a1, a2, zc⟩) (results_hash Try.results14 _ _ w.heap.size 25 _ _ rfl u1 Try.underlying25 (by kernel_rfl)) rfl ⟨_, ⟨by show a1.size ≤ 100; omega, by show a2.size ≤ 100; omega, by show -100 ≤ zc; omega, by show zc ≤ 100; omega⟩, rfl, u2, u3⟩
      by_cases y1 : y = 1
      · subst y1
        obtain ⟨v1, v2, v3⟩ := gst8 0 (.string ⟨#[115, 104, 111, 114, 116]⟩) hgl hGR (unhide hR5) (unhide hc5) (unhide hG5)
        clear r0 r1 r2 e0 e1 e2
        have r0 := v1.c0
        have r1 := v1.c1
        have r2 := v1.c2
        unfold hz at r0 r1 r2
        have e0 := v1.frozen 0
        have e1 := v1.frozen 1
        have e2 := v1.frozen 2
        replace v1 := hide v1
        replace v2 := hide v2
        replace v3 := hide v3
        clear hc5 hG5 hH5 hR5
        go_wp2
        obtain ⟨u1, u2, u3⟩ := fin8 ⟨#[115, 104, 111, 114, 116]⟩ a2 a3 hgl (unhide v1) (unhide v2) (unhide v3)
        exact bodyPost_ret (v := hsv ⟨⟨#[115, 104, 111, 114, 116]⟩, a2, a3⟩) (results_hash Try.results14 _ _ w.heap.size 25 _ _ rfl u1 Try.underlying25 (by kernel_rfl)) rfl ⟨_, ⟨by show (5 : Nat) ≤ 100; decide, by show a2.size ≤ 100; omega, by show -100 ≤ a3; omega, by show a3 ≤ 100; omega⟩, rfl, u2, u3⟩
      have z0 : ¬ (y : Int) = 0 := by omega
      have z1 : ¬ (y : Int) = 1 := by omega
      go_wp2
      obtain ⟨u1, u2, u3⟩ := fin8 a1 a2 a3 hgl (unhide hR5) (unhide hc5) (unhide hG5)
      exact bodyPost_ret (v := hsv ⟨a1, a2, a3⟩) (results_hash Try.results14 _ _ w.heap.size 25 _ _ rfl u1 Try.underlying25 (by kernel_rfl)) rfl ⟨_, ⟨by show a1.size ≤ 100; omega, by show a2.size ≤ 100; omega, by show -100 ≤ a3; omega, by show a3 ≤ 100; omega⟩, rfl, u2, u3⟩
end Go.Proofs.Ytanianfealalgac
