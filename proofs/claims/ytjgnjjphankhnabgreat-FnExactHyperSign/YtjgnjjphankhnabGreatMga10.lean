/- Merged: HyI3, Sig1, Sig2, Sig3, Sig4, Hyp1, Hyp2, Hyp3, LawHyp. -/
import Derived.Test.YtjgnjjphankhnabGreatMga1
import Derived.Test.YtjgnjjphankhnabGreatMga2
import Derived.Test.YtjgnjjphankhnabGreatMga3
import Derived.Test.YtjgnjjphankhnabGreatMga4
import Derived.Test.YtjgnjjphankhnabGreatMga5
import Derived.Test.YtjgnjjphankhnabGreatMga6
import Derived.Test.YtjgnjjphankhnabGreatMga7
import Derived.Test.YtjgnjjphankhnabGreatMga8
import Derived.Test.YtjgnjjphankhnabGreatMga9
import Derived.Deep.DeepCutAuto
import Derived.Deep.RegionHeld3
import Derived.BigQuiet
import Derived.Laws.IdiomStrings
/- Trees of trees by the project's own functions: public texts and signatures, over the loaded program. -/
namespace Go.Proofs.YtjgnjjphankhnabGreat
open Go.RowKit
theorem CB.apart {w : World} {g h : Nat} {T U : TypeId} {cs ds : Array Value} (hA : CB w g T cs) (hB : CB w h U ds) (hne : T ≠ U) : g ≠ h := fun e => by
  subst e
  unfold CB at hA hB
  rw [hA] at hB
  injection hB with hB
  injection hB with h1 h2
  exact hne h2
set_option maxRecDepth 20000 in
set_option maxHeartbeats 1600000 in
theorem implHyperSign_any (s : ByteArray) (i : Int) (m : ByteArray) (hs : s.size ≤ 1048576) (hm : m.size ≤ 1048576) (w : World) :
    Calls Tryz.prog 5 #[.string s, .int .i64 i, .string m] w fun e w' => (∃ v, e = .returned (.tuple #[v, .bool (decide (0 ≤ i ∧ i ≤ 15))]) ∧ OwnHy w' w.heap.size v (hsgnS s i m)) ∧ Below w.heap.size w w' := by
  by_cases h : 0 ≤ i ∧ i ≤ 15
  · have C1 := hide (fun W => keysAt_any s i h hs W)
    obtain ⟨q, hq⟩ : ∃ q : Int, q = i / 4 := ⟨_, rfl⟩
    obtain ⟨r, hr⟩ : ∃ r : Int, r = i % 4 := ⟨_, rfl⟩
    rw [← hq, ← hr] at C1
    have hq3 : 0 ≤ q ∧ q ≤ 3 := by omega
    have hr3 : 0 ≤ r ∧ r ≤ 3 := by omega
    have hlz : (lowB s q).size ≤ 2000000 := by rw [lowB_size]; omega
    have htz : (topB s).size ≤ 2000000 := by rw [topB_size]; omega
    have hrz : (pubO (lowB s q)).size ≤ 1048576 := by rw [pubO_four]; omega
    have C2 := hide (fun W => public_any (lowB s q) hlz W)
    have C3 := hide (fun W => sign_any (topB s) q (pubO (lowB s q)) htz hrz W)
    have C4 := hide (fun W => sign_any (lowB s q) r m hlz hm W)
    have E3 := hide (show sgnS (topB s) q (pubO (lowB s q)) = ⟨q, onceS (keysO (topB s) q) q (pubO (lowB s q)), pathL (lvsO (topB s)) q⟩ by unfold sgnS; rw [if_pos hq3])
    have E4 := hide (show sgnS (lowB s q) r m = ⟨r, onceS (keysO (lowB s q) r) r m, pathL (lvsO (lowB s q)) r⟩ by unfold sgnS; rw [if_pos hr3])
    rw [← unhide E3] at C3
    rw [← unhide E4] at C4
    have ES := hide (show hsgnS s i m = ⟨sgnS (topB s) q (pubO (lowB s q)), pubO (lowB s q), sgnS (lowB s q) r m⟩ by rw [hsgn_is h, hq, hr])
    rw [unhide ES, decide_eq_true h]
    generalize sgnS (topB s) q (pubO (lowB s q)) = ST at *
    generalize sgnS (lowB s q) r m = SL at *
    generalize pubO (lowB s q) = ro at *
    generalize lowB s q = lo at *
    generalize topB s = tb at *
    have i1 : ¬ i < 0 := by omega
    have i2 : ¬ 16 ≤ i := by omega
    have i3 : i < 16 := by omega
    replace hq := hide hq; replace hr := hide hr
    clear ES E3 E4 h hq3 hr3 hlz htz hrz
    go_enter Tryz.func5, Tryz.ntmps5
    go_wp2_with fail
    obtain ⟨W, hW, hR, hB, hs1⟩ := one_cb w #[.int .i64 0, .slice none 0 0, .slice none 0 0, .string ⟨#[]⟩, .int .i64 0, .slice none 0 0, .slice none 0 0] 26
    rw [hW]
    clear hW
    refine (unhide C1 W).mono ?_
    rintro e w1 ⟨rfl, hb1⟩
    have T1 := hB.trans (hb1.mono hB.size)
    have hR1 := hR.step hb1
    clear hb1 hB hR C1 hs1
    go_wp2_with fail
    obtain ⟨W1, hW, hY, hB1, hs1⟩ := one_cb w1 #[.string tb, .int .i64 q, .string lo, .int .i64 r] 40
    rw [hW]
    clear hW
    have T2 := T1.trans (hB1.mono T1.size)
    have hR2 := hR1.step hB1
    have y0 := hY.cell 0 (v := .string tb) rfl
    have y1 := hY.cell 1 (v := .int .i64 q) rfl
    have y2 := hY.cell 2 (v := .string lo) rfl
    have y3 := hY.cell 3 (v := .int .i64 r) rfl
    clear T1 hR1 hB1
    go_cut [9, 10] (fun t9 t10 wx => ∃ g9 g10 : Nat, t9 = .pointer (some ⟨g9, 0, none⟩) ∧ t10 = .pointer (some ⟨g10, 0, none⟩) ∧ Hid (CB wx g9 39 #[.string tb, .int .i64 q] ∧ CB wx g10 39 #[.string lo, .int .i64 r] ∧ CB wx w.heap.size 26 #[.int .i64 0, .slice none 0 0, .slice none 0 0, .string ⟨#[]⟩, .int .i64 0, .slice none 0 0, .slice none 0 0] ∧ Below w.heap.size w wx))
    case first =>
      have hne := hR2
      go_region
      · obtain ⟨V, hV, k1, k2, k3, k4⟩ := two_cb W1 #[.string tb, .int .i64 q] #[.string lo, .int .i64 r] 39 39
        rw [hV]
        go_wp2_with fail
        go_meet
        case rel => exact ⟨_, _, rfl, rfl, hide ⟨k1, k2, hne.step k3.drew, (T2.trans (k3.mono T2.size)).drew⟩⟩
      · obtain ⟨V, hV, k1, k2, k3, k4⟩ := two_cb W1 #[.string lo, .int .i64 r] #[.string tb, .int .i64 q] 39 39
        rw [hV]
        go_wp2_with fail
        go_meet
        case rel => exact ⟨_, _, rfl, rfl, hide ⟨k2, k1, hne.step k3.drew, (T2.trans (k3.mono T2.size)).drew⟩⟩
    case rest =>
      obtain ⟨g9, g10, rfl, rfl, HC⟩ := hcut
      obtain ⟨hT, hL, hR3, T3⟩ := unhide HC
      have l0 := hL.cell 0 (v := .string lo) rfl
      have l1 := hL.cell 1 (v := .int .i64 r) rfl
      clear HC hY y0 y1 y2 y3 hR2 T2 hs1
      go_wp2_with fail
      refine (unhide C2 wc).mono ?_
      rintro e w4 ⟨rfl, hb4⟩
      have T4 := T3.trans (hb4.mono T3.size)
      have hR4 := hR3.step hb4
      have hT4 := hT.step hb4
      have hL4 := hL.step hb4
      have n9 := CB.apart hR4 hT4 (by decide)
      have n10 := CB.apart hR4 hL4 (by decide)
      clear hb4 hR3 hT hL T3 C2 l0 l1
      go_wp2_with fail
      have KS := hide (fun (W' : World) (h : Below w4.heap.size w4 W') => (show CB W' g9 39 #[.string tb, .int .i64 q] ∧ CB W' g10 39 #[.string lo, .int .i64 r] from ⟨hT4.step h, hL4.step h⟩))
      have HR := hide (fun (W' : World) (h : Below w4.heap.size w4 W') => hR4.step h)
      have HT0 := (Below.refl w4.heap.size w4).drew
      have hw4 : w.heap.size ≤ w4.heap.size := T4.size
      clear hT4 hL4 hR4
      refine wp_region_held_drew (S := fun W => CB W g9 39 #[.string tb, .int .i64 q] ∧ CB W g10 39 #[.string lo, .int .i64 r]) (by kernel_rfl) (unhide KS _ HT0) (fun hHeld => ?_)
      refine wpAnyH_take (i := 0) (v := .agg #[.string tb, .int .i64 q]) rfl (by kernel_rfl) (by kernel_rfl) (by kernel_rfl) (fun _ _ _ h => h) (Or.inl ⟨by kernel_rfl, fun W hS => by obtain ⟨s4, s10⟩ := hS; have p0 := s4.cell 0 (v := (.string tb)) rfl; have p1 := s4.cell 1 (v := (.int .i64 q)) rfl; go_simp⟩) hHeld ?_
      refine wpAnyH_take (i := 1) (v := .string ro) rfl (by kernel_rfl) (by kernel_rfl) (by kernel_rfl) (fun _ _ _ h => h) (Or.inl ⟨by kernel_rfl, fun W hS => by obtain ⟨s4, s10⟩ := hS; go_simp⟩) hHeld ?_
      refine wpAnyH_take (i := 3) (v := .string ro) rfl (by kernel_rfl) (by kernel_rfl) (by kernel_rfl) (fun _ _ _ h => h) (Or.inl ⟨by kernel_rfl, fun W hS => by obtain ⟨s4, s10⟩ := hS; go_simp⟩) hHeld ?_
      refine wpAnyH_take (i := 4) (v := .agg #[.string lo, .int .i64 r]) rfl (by kernel_rfl) (by kernel_rfl) (by kernel_rfl) (fun _ _ _ h => h) (Or.inl ⟨by kernel_rfl, fun W hS => by obtain ⟨s4, s10⟩ := hS; have p0 := s10.cell 0 (v := (.string lo)) rfl; have p1 := s10.cell 1 (v := (.int .i64 r)) rfl; go_simp⟩) hHeld ?_
      refine wpAnyH_take (i := 5) (v := .string m) rfl (by kernel_rfl) (by kernel_rfl) (by kernel_rfl) (fun _ _ _ h => h) (Or.inl ⟨by kernel_rfl, fun W hS => by obtain ⟨s4, s10⟩ := hS; go_simp⟩) hHeld ?_
      refine wpAnyH_ready (rs := [2]) (by kernel_rfl) (by simp) ?_
      refine AllReadyH.cons rfl (fun K hK => ?_) AllReadyH.nil
      go_simp
      refine (unhide C3 _).mono ?_
      rintro e w6 ⟨⟨v1, rfl, o1⟩, hb6⟩
      obtain ⟨a1, n1, c1, a2, n2, c2, rfl⟩ := o1.open
      have hT1 := HT0.trans (hb6.mono HT0.size)
      replace o1 := hide o1
      refine hK.out _ _ (unhide KS _ hT1) (fun hHeld => ?_)
      clear hK K C3
      refine wpAnyH_ready (rs := [6]) (by kernel_rfl) (by simp) ?_
      refine AllReadyH.cons rfl (fun K hK => ?_) AllReadyH.nil
      go_simp
      refine (unhide C4 _).mono ?_
      rintro e w7 ⟨⟨v2, rfl, o2⟩, hb7⟩
      obtain ⟨a3, n3, c3, a4, n4, c4, rfl⟩ := o2.open
      have hT2 := hT1.trans (hb7.mono hT1.size)
      replace o2 := hide o2
      have hR7 := unhide HR _ hT2
      refine hK.out _ _ (unhide KS _ hT2) (fun hHeld => ?_)
      clear hK K C4
      refine wpAnyH_take (i := 7) (v := .agg #[.int .i64 ST.leaf, .slice a1 n1 c1, .slice a2 n2 c2, .string ro, .int .i64 SL.leaf, .slice a3 n3 c3, .slice a4 n4 c4]) rfl (by kernel_rfl) (by kernel_rfl) (by kernel_rfl) (fun _ _ _ h => h) (Or.inl ⟨by kernel_rfl, fun W hS => by obtain ⟨s4, s10⟩ := hS; go_simp⟩) hHeld ?_
      have r0 := hR7.cell 0 (v := (.int .i64 0)) rfl
      have r1 := hR7.cell 1 (v := (.slice none 0 0)) rfl
      have r2 := hR7.cell 2 (v := (.slice none 0 0)) rfl
      have r3 := hR7.cell 3 (v := (.string ⟨#[]⟩)) rfl
      have r4 := hR7.cell 4 (v := (.int .i64 0)) rfl
      have r5 := hR7.cell 5 (v := (.slice none 0 0)) rfl
      have r6 := hR7.cell 6 (v := (.slice none 0 0)) rfl
      have z0 := hR7.frozen 0
      have z1 := hR7.frozen 1
      have z2 := hR7.frozen 2
      have z3 := hR7.frozen 3
      have z4 := hR7.frozen 4
      have z5 := hR7.frozen 5
      have z6 := hR7.frozen 6
      have G9 := gSet (gSet (gSet (gSet (gSet (gSet (gSet (gR9 w7 (some w.heap.size)) 0 (.int .i64 ST.leaf)) 1 (.slice a1 n1 c1)) 2 (.slice a2 n2 c2)) 3 (.string ro)) 4 (.int .i64 SL.leaf)) 5 (.slice a3 n3 c3)) 6 (.slice a4 n4 c4)
      refine wpAnyH_ready (rs := [8]) (by kernel_rfl) (by simp) ?_
      refine AllReadyH.cons rfl (fun K hK => ?_) AllReadyH.nil
      go_simp
      refine hK.out _ _ ⟨(unhide KS _ hT2).1.grown G9 (fun e => n9 (Option.some.inj e)), (unhide KS _ hT2).2.grown G9 (fun e => n10 (Option.some.inj e))⟩ (fun hHeld => ?_)
      clear hK K r0 r1 r2 r3 r4 r5 r6 z0 z1 z2 z3 z4 z5 z6
      refine wpAnyH_take (i := 9) (v := .bool true) rfl (by kernel_rfl) (by kernel_rfl) (by kernel_rfl) (fun _ _ _ h => h) (Or.inl ⟨by kernel_rfl, fun W hS => by obtain ⟨s4, s10⟩ := hS; go_simp⟩) hHeld ?_
      refine wpAnyH_done (by kernel_rfl) ?_ _
      simp only [Act.put, List.getElem_toArray, List.getElem_cons_zero, List.getElem_cons_succ, List.setIfInBounds_toArray, List.set_cons_zero, List.set_cons_succ]
      have hR8 := hR7
      have hs6 : w4.heap.size ≤ w6.heap.size := hT1.size
      have hF := hide ((((((((hR8).set 0 (.int .i64 ST.leaf)).set 1 (.slice a1 n1 c1)).set 2 (.slice a2 n2 c2)).set 3 (.string ro)).set 4 (.int .i64 SL.leaf)).set 5 (.slice a3 n3 c3)).set 6 (.slice a4 n4 c4))
      have T7 := T4.trans (hT2.mono hw4)
      have T9 := hide (T7.grown G9 T7.size (fun k hk => by cases hk; exact Nat.le_refl _))
      have ap := hide (show ∀ k, ((Value.slice a1 n1 c1).ownBlock = some k ∨ (Value.slice a2 n2 c2).ownBlock = some k) → (Value.slice a3 n3 c3).ownBlock ≠ some k ∧ (Value.slice a4 n4 c4).ownBlock ≠ some k from fun k hk => by
        have h1 := (OwnSg.bounds (lf := ST.leaf) (unhide o1) k hk).2
        exact ⟨fun e => by have h2 := (OwnSg.bounds (lf := SL.leaf) (unhide o2) k (.inl e)).1; omega, fun e => by have h2 := (OwnSg.bounds (lf := SL.leaf) (unhide o2) k (.inr e)).1; omega⟩)
      have p1 := hide (((unhide o1).below hb7).low (show w.heap.size ≤ w4.drew.heap.size from hw4))
      have p2 := hide ((unhide o2).low (show w.heap.size ≤ w6.heap.size from Nat.le_trans hw4 hs6))
      have of5 := hide (OwnSg.offs (lf := ST.leaf) (unhide p1) hR8 (by decide))
      have of6 := hide (OwnSg.offs (lf := SL.leaf) (unhide p2) hR8 (by decide))
      have o7 := hide (OwnSg.grownO (lf := ST.leaf) (unhide p1) G9 (unhide of5).1 (unhide of5).2)
      have o8 := hide (OwnSg.grownO (lf := SL.leaf) (unhide p2) G9 (unhide of6).1 (unhide of6).2)
      clear KS HR HT0 hT1 hT2 hb6 hb7 hR7 hR8 G9 T7 p1 p2 of5 of6 o1 o2 T4 hHeld
      go_wp2
      exact bodyPost_ret (results_cb_tmp (by exact Tryz.results5) _ _ _ _ _ _ rfl (unhide hF) Tryz.underlying26 (by kernel_rfl)) rfl ⟨⟨_, rfl, _, _, _, _, rfl, unhide o7, unhide o8, unhide ap⟩, unhide T9⟩
  · have ES := hide (show hsgnS s i m = ⟨noSg, ⟨#[]⟩, noSg⟩ by unfold hsgnS; rw [if_neg h])
    rw [unhide ES, decide_eq_false h]
    clear ES
    by_cases h0 : i < 0
    · clear h
      go_enter Tryz.func5, Tryz.ntmps5
      go_wp2
      obtain ⟨W, hW, hR, hB, hs1⟩ := one_cb w #[.int .i64 0, .slice none 0 0, .slice none 0 0, .string ⟨#[]⟩, .int .i64 0, .slice none 0 0, .slice none 0 0] 26
      rw [hW]
      exact bodyPost_ret (results_cb_tmp (by exact Tryz.results5) _ _ _ _ _ _ rfl hR Tryz.underlying26 (by kernel_rfl)) rfl ⟨⟨_, rfl, _, _, _, _, rfl, ⟨_, _, rfl, OwnV.nil _ _ _, OwnV.nil _ _ _, fun k hk => by cases hk⟩, ⟨_, _, rfl, OwnV.nil _ _ _, OwnV.nil _ _ _, fun k hk => by cases hk⟩, fun k hk => by rcases hk with hk | hk <;> cases hk⟩, hB⟩
    · have i2 : 16 ≤ i := by omega
      have i3 : ¬ i < 16 := by omega
      clear h
      go_enter Tryz.func5, Tryz.ntmps5
      go_wp2
      obtain ⟨W, hW, hR, hB, hs1⟩ := one_cb w #[.int .i64 0, .slice none 0 0, .slice none 0 0, .string ⟨#[]⟩, .int .i64 0, .slice none 0 0, .slice none 0 0] 26
      rw [hW]
      exact bodyPost_ret (results_cb_tmp (by exact Tryz.results5) _ _ _ _ _ _ rfl hR Tryz.underlying26 (by kernel_rfl)) rfl ⟨⟨_, rfl, _, _, _, _, rfl, ⟨_, _, rfl, OwnV.nil _ _ _, OwnV.nil _ _ _, fun k hk => by cases hk⟩, ⟨_, _, rfl, OwnV.nil _ _ _, OwnV.nil _ _ _, fun k hk => by cases hk⟩, fun k hk => by rcases hk with hk | hk <;> cases hk⟩, hB⟩
end Go.Proofs.YtjgnjjphankhnabGreat

/- Keys of a tree by the given model: leaves, public texts, signatures, over the loaded program. -/
namespace Go.Proofs.YtjgnjjphankhnabGreat
open Go.RowKit
set_option maxRecDepth 20000 in
set_option maxHeartbeats 800000 in
theorem specLeaves_any (s : ByteArray) (hs : s.size ≤ 2000000) (w : World) :
    Calls Tryz.prog 21 #[.string s] w fun e w' => (∃ v, e = .returned v ∧ OwnV w' w.heap.size 9 v ((lvsO s).map sv)) ∧ Below w.heap.size w w' := by
  obtain ⟨i0, hi, hz0, hz1, hz2⟩ := info_parts infoTxt
  have C1 := hide (fun (i : Nat) W => specOnceKeyL_any s (i : Int) hs W)
  have C2 := hide (fun (i : Nat) W v hr => specOncePublic_any (keysO s (i : Int)) (i : Int) v W hr (fun x hx => by rw [keysO_size s _ x hx]; omega))
  have HK := hide (show ∀ i : Nat, onceP (keysO s (i : Int)) (i : Int) = lefO s i from fun i => rfl)
  have EK := hide (show lvsO s = preS (lefO s) 4 from rfl)
  rw [unhide EK]
  generalize lefO s = F at *
  clear EK
  go_enter Tryz.func21, Tryz.ntmps21
  have ho0 : OwnV (w.alloc (.cells #[] 9)) w.heap.size 9 (.slice (some ⟨w.heap.size, 0, none⟩) 0 0) ((preS F 0).map sv) := World.ownsRow_made w #[] 0 (Nat.le_refl _) (by decide) (by simp)
  replace ho0 := hide ho0
  have hb0 := (Below.refl w.heap.size w).alloc (Nat.le_refl _) (.cells #[] 9)
  go_wp2
  go_loopw [3, 4] (fun tv ti wr => ∃ k : Nat, k ≤ 4 ∧ ti = .int .i64 (k : Int) ∧ Hid (OwnV wr w.heap.size 9 tv ((preS F k).map sv)) ∧ Below w.heap.size w wr) (fun _ ti _ => 4 - (intOf ti).toNat)
  case atStart => exact ⟨0, by omega, rfl, ho0, hb0⟩
  case round =>
    clear ho0 hb0
    obtain ⟨k, hk, rfl, HO, hB⟩ := hrel
    by_cases hlt : k < 4
    · have hk' : (k : Int) < 4 := by omega
      have c1 := hide (unhide C1 k)
      have c2 := hide (unhide C2 k)
      rw [unhide HK k] at c2
      have HP := hide (preS_succ F k)
      have hpl : ((preS F k).map sv).length ≤ 1000 := by rw [List.length_map, preS_len]; omega
      generalize F k = fk at *
      replace hpl := hide hpl
      clear C1 C2
      go_wp2_with fail
      refine (unhide c1 wr).mono ?_
      rintro e w1 ⟨⟨v1, rfl, o1⟩, hb1⟩
      have hB1 := hB.trans (hb1.mono hB.size)
      have HO1 := hide ((unhide HO).below hb1)
      replace c2 := hide (unhide c2 w1 v1 o1.rdv)
      clear hb1 hB c1 HO o1
      go_wp2_with fail
      refine (unhide c2).mono ?_
      rintro e w3 ⟨rfl, hb3⟩
      have hB3 := hB1.trans (hb3.mono hB1.size)
      have HO3 := hide ((unhide HO1).below hb3)
      have hsz3 := hB3.size
      clear hb3 hB1 c2 HO1
      go_wp2_with (at_builtin; refine wpList_append_val (w := w3) rfl (.tmp 10) (.tmp 16) 22 rfl w.heap.size 9 i0 (.string ⟨#[]⟩) 16 Tryz.underlying22 hi hz0 hz1 hz2 rfl u3 _ (by rfl) (unhide HO3) (.string fk) rfl (by rfl) (unhide hpl) (by decide) hB3 (Nat.le_refl _) hsz3 ?_; intro v' w8 ho8 hB8)
      have ho9 := hide (show OwnV w8 w.heap.size 9 v' ((preS F (k + 1)).map sv) by rw [unhide HP, List.map_append]; exact ho8)
      clear ho8 HO3 HP
      go_wp2
      exact ⟨⟨k + 1, by omega, by go_num, ho9, hB8⟩, by simp [intOf]; omega⟩
    · have hk' : ¬ (k : Int) < 4 := by omega
      obtain rfl : k = 4 := by omega
      go_wp2
      go_ret
      exact ⟨⟨_, rfl, unhide HO⟩, hB⟩
set_option maxRecDepth 20000 in
set_option maxHeartbeats 800000 in
theorem specPublicOf_any (s : ByteArray) (hs : s.size ≤ 2000000) (w : World) :
    Calls Tryz.prog 11 #[.string s] w fun e w' => e = .returned (.string (pubO s)) ∧ Below w.heap.size w w' := by
  have C1 := hide (fun W => specLeaves_any s hs W)
  have C2 := hide (fun W v hr => specRootOf_any (lvsO s) v W hr (fun x hx => by rw [lvsO_size s x hx]; omega))
  have HK := hide (show rootB (lvsO s) = pubO s from rfl)
  rw [unhide HK] at C2
  generalize pubO s = p at *
  go_enter Tryz.func11, Tryz.ntmps11
  go_wp2_with fail
  refine (unhide C1 w).mono ?_
  rintro e w1 ⟨⟨v1, rfl, o1⟩, hb1⟩
  replace C2 := hide (unhide C2 w1 v1 o1.rdv)
  clear C1 o1
  go_wp2_with fail
  refine (unhide C2).mono ?_
  rintro e w2 ⟨rfl, hb2⟩
  have hB2 := hb1.trans (hb2.mono hb1.size)
  clear C2 hb1 hb2
  go_wp2
  go_ret
  exact ⟨rfl, hB2⟩
set_option maxRecDepth 20000 in
set_option maxHeartbeats 800000 in
theorem specSignAt_any (s : ByteArray) (leaf : Int) (m : ByteArray) (hs : s.size ≤ 2000000) (hm : m.size ≤ 1048576) (w : World) :
    Calls Tryz.prog 12 #[.string s, .int .i64 leaf, .string m] w fun e w' => (∃ v, e = .returned (.tuple #[v, .bool (decide (0 ≤ leaf ∧ leaf ≤ 3))]) ∧ OwnSg w' w.heap.size v (sgnS s leaf m)) ∧ Below w.heap.size w w' := by
  have C0 := hide (fun W => inb9 leaf 0 3 W)
  by_cases h : 0 ≤ leaf ∧ leaf ≤ 3
  · have C1 := hide (fun W => specOnceKeyL_any s leaf hs W)
    have C2 := hide (fun W v hr => specOnceSign_any (keysO s leaf) leaf m v W hr (fun x hx => by rw [keysO_size s _ x hx]; omega) hm)
    have C3 := hide (fun W => specLeaves_any s hs W)
    have C4 := hide (fun W v hr => specPathOf_any (lvsO s) leaf v W hr (fun x hx => by rw [lvsO_size s x hx]; omega))
    have ES := hide (show sgnS s leaf m = ⟨leaf, onceS (keysO s leaf) leaf m, pathL (lvsO s) leaf⟩ by unfold sgnS; rw [if_pos h])
    rw [unhide ES, decide_eq_true h]
    generalize onceS (keysO s leaf) leaf m = L1 at *
    generalize pathL (lvsO s) leaf = L2 at *
    generalize (keysO s leaf).map sv = K1 at *
    generalize (lvsO s).map sv = K2 at *
    have hd1 := decide_eq_true h.1
    have hd2 := decide_eq_true h.2
    rw [decide_eq_true h] at C0
    clear ES h
    go_enter Tryz.func12, Tryz.ntmps12
    go_wp2_with fail
    obtain ⟨W, hW, hR, hB, hs1⟩ := one_cb w #[.int .i64 0, .slice none 0 0, .slice none 0 0] 24
    rw [hW]
    clear hW
    refine (unhide C0 W).mono ?_
    rintro e w1 ⟨rfl, hw1⟩
    have hw2 := hw1.symm
    subst hw2
    clear hw1 C0
    go_wp2_with fail
    refine (unhide C1 W).mono ?_
    rintro e w1 ⟨⟨v1, rfl, o1⟩, hb1⟩
    have hB1 := hB.trans (hb1.mono hB.size)
    have hR1 := hR.step hb1
    replace C2 := hide (unhide C2 w1 v1 o1.rdv)
    clear C1 o1 hb1 hB hR
    go_wp2_with fail
    refine (unhide C2).mono ?_
    rintro e w2 ⟨⟨v2, rfl, o2⟩, hb2⟩
    have hB2 := hB1.trans (hb2.mono hB1.size)
    have hR2 := hR1.step hb2
    have o2' := hide (o2.low hB1.size)
    clear C2 o2 hb2 hB1 hR1
    go_wp2_with fail
    refine (unhide C3 w2).mono ?_
    rintro e w3 ⟨⟨v3, rfl, o3⟩, hb3⟩
    have hB3 := hB2.trans (hb3.mono hB2.size)
    have hR3 := hR2.step hb3
    have o2'' := hide ((unhide o2').below hb3)
    replace C4 := hide (unhide C4 w3 v3 o3.rdv)
    clear C3 o3 hb3 hB2 hR2 o2'
    go_wp2_with fail
    refine (unhide C4).mono ?_
    rintro e w4 ⟨⟨v4, rfl, o4⟩, hb4⟩
    have hB4 := hB3.trans (hb4.mono hB3.size)
    have hR4 := hR3.step hb4
    have o5 := hide ((unhide o2'').below hb4)
    have ap := hide (show ∀ k, v2.ownBlock = some k → v4.ownBlock ≠ some k from fun k hk hk2 => by
      have h1 := ((unhide o2'').lt k hk).2
      have h2 := (o4.lt k hk2).1
      omega)
    have o4' := hide (o4.low hB3.size)
    have of5 := hide (hR4.off (unhide o5) (by decide))
    have of4 := hide (hR4.off o4 (by decide))
    have s2 := (unhide o5).shape
    have s4 := o4.shape
    clear C4 o4 hb4 hB3 hR3 o2''
    obtain ⟨a2, c2, rfl⟩ := s2
    obtain ⟨a4, c4, rfl⟩ := s4
    have r0 := hR4.cell 0 (v := .int .i64 0) rfl
    have r1 := hR4.cell 1 (v := .slice none 0 0) rfl
    have r2 := hR4.cell 2 (v := .slice none 0 0) rfl
    have g0 := hR4.frozen 0
    have g1 := hR4.frozen 1
    have g2 := hR4.frozen 2
    generalize hn2 : (L1.map sv).length = n2 at *
    generalize hn4 : (L2.map sv).length = n4 at *
    go_wp2
    have hF := hide (((hR4.set 0 (.int .i64 leaf)).set 1 (.slice a2 n2 c2)).set 2 (.slice a4 n4 c4))
    have hBF := hide (((hB4.setCell (p := ⟨w.heap.size, 0, none⟩) (Nat.le_refl _) (.int .i64 leaf)).setCell (p := ⟨w.heap.size, 1, none⟩) (Nat.le_refl _) (.slice a2 n2 c2)).setCell (p := ⟨w.heap.size, 2, none⟩) (Nat.le_refl _) (.slice a4 n4 c4))
    have o6 := hide ((((unhide o5).setO w.heap.size 0 (.int .i64 leaf) (unhide of5)).setO w.heap.size 1 (.slice a2 n2 c2) (unhide of5)).setO w.heap.size 2 (.slice a4 n4 c4) (unhide of5))
    have o7 := hide ((((unhide o4').setO w.heap.size 0 (.int .i64 leaf) (unhide of4)).setO w.heap.size 1 (.slice a2 n2 c2) (unhide of4)).setO w.heap.size 2 (.slice a4 n4 c4) (unhide of4))
    exact bodyPost_ret (results_cb_tmp (by exact Tryz.results12) _ _ _ _ _ _ rfl (unhide hF) Tryz.underlying24 (by kernel_rfl)) rfl ⟨⟨_, rfl, _, _, rfl, unhide o6, unhide o7, unhide ap⟩, unhide hBF⟩
  · have ES := hide (show sgnS s leaf m = ⟨0, [], []⟩ by unfold sgnS; rw [if_neg h])
    rw [unhide ES, decide_eq_false h]
    rw [decide_eq_false h] at C0
    clear ES h
    go_enter Tryz.func12, Tryz.ntmps12
    go_wp2_with fail
    obtain ⟨W, hW, hR, hB, hs1⟩ := one_cb w #[.int .i64 0, .slice none 0 0, .slice none 0 0] 24
    rw [hW]
    clear hW
    refine (unhide C0 W).mono ?_
    rintro e w1 ⟨rfl, hw1⟩
    have hw2 := hw1.symm
    subst hw2
    clear hw1 C0
    have r0 := hR.cell 0 (v := .int .i64 0) rfl
    have r1 := hR.cell 1 (v := .slice none 0 0) rfl
    have r2 := hR.cell 2 (v := .slice none 0 0) rfl
    have g0 := hR.frozen 0
    have g1 := hR.frozen 1
    have g2 := hR.frozen 2
    go_wp2
    have hF := hide (((hR.set 0 (.int .i64 0)).set 1 (.slice none 0 0)).set 2 (.slice none 0 0))
    have hBF := hide (((hB.setCell (p := ⟨w.heap.size, 0, none⟩) (Nat.le_refl _) (.int .i64 0)).setCell (p := ⟨w.heap.size, 1, none⟩) (Nat.le_refl _) (.slice none 0 0)).setCell (p := ⟨w.heap.size, 2, none⟩) (Nat.le_refl _) (.slice none 0 0))
    exact bodyPost_ret (results_cb_tmp (by exact Tryz.results12) _ _ _ _ _ _ rfl (unhide hF) Tryz.underlying24 (by kernel_rfl)) rfl ⟨⟨_, rfl, _, _, rfl, OwnV.nil _ _ _, OwnV.nil _ _ _, fun k hk => by cases hk⟩, unhide hBF⟩
end Go.Proofs.YtjgnjjphankhnabGreat

/- Keys of a tree by the given model: whether a signature is right, over the loaded program. -/
namespace Go.Proofs.YtjgnjjphankhnabGreat
open Go.RowKit
theorem same_txt (a b : ByteArray) : (a.toList == b.toList) = decide (a = b) := by
  have e : ∀ x : ByteArray, x.toList = x.data.toList := fun x => ByteArray.toList_eq x
  by_cases h : a = b
  · subst h
    rw [decide_eq_true rfl]
    exact beq_self_eq_true _
  · rw [decide_eq_false h]
    apply beq_false_of_ne
    rw [e, e]
    exact fun h2 => h (ByteArray.ext (Array.toList_inj.1 h2))
theorem sumS_four (l : List ByteArray) (h : ∀ x ∈ l, x.size = 4) : sumS l = 4 * l.length := by
  induction l with
  | nil => rfl
  | cons x xs ih =>
    show x.size + sumS xs = 4 * (xs.length + 1)
    rw [h x (by simp), ih fun y hy => h y (by simp [hy])]
    omega
theorem onceF_size (l : List ByteArray) (leaf : Int) (m : ByteArray) : (onceF l leaf m).size ≤ 4 := by
  unfold onceF
  split
  · rw [chopB_size]; omega
  · show 0 ≤ 4; omega
end Go.Proofs.YtjgnjjphankhnabGreat

/- Keys of a tree by the given model: a signature's text, over the loaded program. -/
namespace Go.Proofs.YtjgnjjphankhnabGreat
open Go.RowKit
end Go.Proofs.YtjgnjjphankhnabGreat

/- Keys of a tree by the given model: a signature that is read, over the loaded program. -/
namespace Go.Proofs.YtjgnjjphankhnabGreat
open Go.RowKit
theorem cut16 (T : ByteArray) (i j : Nat) (w : World) (h1 : i ≤ j) (h2 : j ≤ T.size) : (Instr.slice 9 (.string T) (some (.int .i64 (i : Int))) (some (.int .i64 (j : Int))) none).run Tryz.prog w = .ok (.string (T.extract i j)) w := by
  rw [run_slice_string_if w 9 T .i64 .i64 (i : Int) (j : Int) Tryz.underlying9, if_pos (by omega), if_pos (by omega)]
  rfl
/-- The texts of the first k parts, and of those behind the tenth. -/
def onK (F : Nat → ByteArray) (k : Nat) : List ByteArray := (List.range (min k 10)).map F
def ptK (F : Nat → ByteArray) (k : Nat) : List ByteArray := (List.range (k - 10)).map fun i => F (10 + i)
theorem onK_succ (F : Nat → ByteArray) (k : Nat) (h : k < 10) : onK F (k + 1) = onK F k ++ [F k] := by
  unfold onK
  rw [Nat.min_eq_left (by omega), Nat.min_eq_left (by omega), List.range_succ, List.map_append]
  rfl
theorem onK_ten (F : Nat → ByteArray) (k : Nat) (h : 10 ≤ k) : onK F k = onK F 10 := by unfold onK; rw [Nat.min_eq_right h]; rfl
theorem onK_len (F : Nat → ByteArray) (k : Nat) : (onK F k).length ≤ 10 := by unfold onK; rw [List.length_map, List.length_range]; exact Nat.min_le_right _ _
theorem ptK_len (F : Nat → ByteArray) (k : Nat) (h : k ≤ 12) : (ptK F k).length ≤ 2 := by unfold ptK; rw [List.length_map, List.length_range]; omega
theorem ptK_succ (F : Nat → ByteArray) (k : Nat) (h : 10 ≤ k) : ptK F (k + 1) = ptK F k ++ [F k] := by
  unfold ptK
  rw [show k + 1 - 10 = (k - 10) + 1 by omega, List.range_succ, List.map_append]
  show _ ++ [F (10 + (k - 10))] = _
  rw [show 10 + (k - 10) = k by omega]
theorem ptK_low (F : Nat → ByteArray) (k : Nat) (h : k ≤ 10) : ptK F k = [] := by unfold ptK; rw [show k - 10 = 0 by omega]; rfl
end Go.Proofs.YtjgnjjphankhnabGreat

/- Trees of trees by the given model: public texts, what is checked, indexes, over the loaded program. -/
namespace Go.Proofs.YtjgnjjphankhnabGreat
open Go.RowKit
set_option maxRecDepth 20000 in
set_option maxHeartbeats 400000 in
theorem specLow_any (s : ByteArray) (p : Int) (hs : s.size ≤ 1048576) (w : World) :
    Calls Tryz.prog 10 #[.string s, .int .i64 p] w fun e w' => e = .returned (.string (lowB s p)) ∧ Below w.heap.size w w' := by
  have CB0 := hide (fun W => specByteY_any p W)
  have HE := hide (show s ++ oneY p ++ ⟨#[108]⟩ = lowB s p from rfl)
  have za := oneY_size p
  generalize oneY p = y at *
  have h1 : ¬ 9223372036854775807 < s.size + y.size := by omega
  have h2 : ¬ 9223372036854775807 < (s ++ y).size + 1 := by rw [ByteArray.size_append]; omega
  have h3 : (s ++ y).size + 1 ≤ 9223372036854775807 := by rw [ByteArray.size_append]; omega
  have h4 : s.size + y.size ≤ 9223372036854775807 := by omega
  have h5 : (s ++ y).size = s.size + y.size := ByteArray.size_append
  replace za := hide za
  go_enter Tryz.func10, Tryz.ntmps10
  go_wp2_with fail
  refine (unhide CB0 w).mono ?_
  rintro e w1 ⟨rfl, hb1⟩
  clear CB0
  go_wp2
  go_ret
  exact ⟨by rw [← unhide HE]; rfl, hb1⟩
def shHy (h : Hy) : Prop := (h.top.once.length ≤ 2000000 ∧ h.top.path.length ≤ 2000000) ∧ h.low.once.length ≤ 2000000 ∧ h.low.path.length ≤ 2000000
end Go.Proofs.YtjgnjjphankhnabGreat

/- Trees of trees by the given model: signatures, over the loaded program. -/
namespace Go.Proofs.YtjgnjjphankhnabGreat
open Go.RowKit
set_option maxRecDepth 20000 in
set_option maxHeartbeats 1600000 in
theorem specHyperSign_any (s : ByteArray) (i : Int) (m : ByteArray) (hs : s.size ≤ 1048576) (hm : m.size ≤ 1048576) (w : World) :
    Calls Tryz.prog 4 #[.string s, .int .i64 i, .string m] w fun e w' => (∃ v, e = .returned (.tuple #[v, .bool (decide (0 ≤ i ∧ i ≤ 15))]) ∧ OwnHy w' w.heap.size v (hsgnS s i m)) ∧ Below w.heap.size w w' := by
  have C0 := hide (fun W => inb9 i 0 15 W)
  by_cases h : 0 ≤ i ∧ i ≤ 15
  · obtain ⟨q, hq⟩ : ∃ q : Int, q = i / 4 := ⟨_, rfl⟩
    obtain ⟨r, hr⟩ : ∃ r : Int, r = i % 4 := ⟨_, rfl⟩
    have t1 : i.tdiv 4 = q := by rw [Int.tdiv_eq_ediv_of_nonneg h.1]; omega
    have t1' : i / 4 = q := hq.symm
    have t2 : i.tmod 4 = r := by rw [Int.tmod_eq_emod_of_nonneg h.1]; omega
    have t2' : i % 4 = r := hr.symm
    have t3 : IntKind.i64.wrap q = q := by rw [IntKind.wrap_i64]; omega
    have t4 : IntKind.i64.wrap r = r := by rw [IntKind.wrap_i64]; omega
    have hq3 : 0 ≤ q ∧ q ≤ 3 := by omega
    have hr3 : 0 ≤ r ∧ r ≤ 3 := by omega
    have hlz : (lowB s q).size ≤ 2000000 := by unfold lowB; rw [ByteArray.size_append, ByteArray.size_append, oneY_size]; show s.size + 1 + 1 ≤ _; omega
    have htz : (topB s).size ≤ 2000000 := by unfold topB; rw [ByteArray.size_append]; show s.size + 1 ≤ _; omega
    have hrz : (pubO (lowB s q)).size ≤ 1048576 := by rw [pubO_four]; omega
    have C1 := hide (fun W => specLow_any s q hs W)
    have C2 := hide (fun W => specPublicOf_any (lowB s q) hlz W)
    have C3 := hide (fun W => specSignAt_any (lowB s q) r m hlz hm W)
    have C4 := hide (fun W => specSignAt_any (topB s) q (pubO (lowB s q)) htz hrz W)
    rw [decide_eq_true hr3] at C3
    rw [decide_eq_true hq3] at C4
    have ES := hide (show hsgnS s i m = ⟨sgnS (topB s) q (pubO (lowB s q)), pubO (lowB s q), sgnS (lowB s q) r m⟩ by rw [hsgn_is h, hq, hr])
    rw [unhide ES, decide_eq_true h]
    rw [decide_eq_true h] at C0
    have ET := hide (show s ++ ⟨#[116]⟩ = topB s from rfl)
    rw [← unhide ET] at C4 ⊢
    have h1 : ¬ 9223372036854775807 < s.size + 1 := by omega
    have h2 : s.size + 1 ≤ 9223372036854775807 := by omega
    have hl1 := sgnS_leaf (lowB s q) r m hr3
    have hl2 := sgnS_leaf (s ++ ⟨#[116]⟩) q (pubO (lowB s q)) hq3
    generalize sgnS (s ++ ⟨#[116]⟩) q (pubO (lowB s q)) = ST at *
    generalize sgnS (lowB s q) r m = SL at *
    generalize pubO (lowB s q) = ro at *
    generalize lowB s q = lo at *
    replace hq := hide hq; replace hr := hide hr
    clear ES h hq3 hr3 hlz htz hrz ET
    go_enter Tryz.func4, Tryz.ntmps4
    go_wp2_with fail
    obtain ⟨W, hW, hR, hB, hs1⟩ := one_cb w #[.int .i64 0, .slice none 0 0, .slice none 0 0, .string ⟨#[]⟩, .int .i64 0, .slice none 0 0, .slice none 0 0] 26
    rw [hW]
    clear hW
    refine (unhide C0 W).mono ?_
    rintro e w1 ⟨rfl, hw1⟩
    have hw2 := hw1.symm
    subst hw2
    clear hw1 C0
    go_wp2_with fail
    refine (unhide C1 W).mono ?_
    rintro e w2 ⟨rfl, hb2⟩
    have T2 := hB.trans (hb2.mono hB.size)
    have hR2 := hR.step hb2
    clear hb2 hB hR C1
    go_wp2_with fail
    refine (unhide C2 w2).mono ?_
    rintro e w3 ⟨rfl, hb3⟩
    have T3 := T2.trans (hb3.mono T2.size)
    have hR3 := hR2.step hb3
    clear hb3 T2 hR2 C2
    go_wp2_with fail
    obtain ⟨W3, hW, hO, hB3, hs3⟩ := one_cb w3 #[.int .i64 0, .slice none 0 0, .slice none 0 0, .string ro, .int .i64 0, .slice none 0 0, .slice none 0 0] 26
    rw [hW]
    clear hW
    have T4 := T3.trans (hB3.mono T3.size)
    have hR4 := hR3.step hB3
    have g69 : w.heap.size ≠ w3.heap.size := by have := hR3.lt; omega
    have hlo9 : w.heap.size ≤ w3.heap.size := T3.size
    obtain ⟨g9, hg9⟩ : ∃ x, x = w3.heap.size := ⟨_, rfl⟩
    rw [← hg9] at hO g69 hlo9 ⊢
    clear T3 hR3 hB3 hs3 hg9
    refine (unhide C3 W3).mono ?_
    rintro e w5 ⟨⟨v5, rfl, o5⟩, hb5⟩
    obtain ⟨b3, k3, e3, b4, k4, e4, rfl⟩ := o5.open
    rw [hl1] at o5 ⊢
    have T5 := T4.trans (hb5.mono T4.size)
    have hR5 := hR4.step hb5
    have hO5 := hO.step hb5
    have of5 := hide (OwnSg.offs (lf := r) o5 hO5 (by decide))
    have lo5 := hide (OwnSg.bounds (lf := r) o5)
    have y4 := hO5.cell 4 (v := .int .i64 0) rfl
    have y5 := hO5.cell 5 (v := .slice none 0 0) rfl
    have y6 := hO5.cell 6 (v := .slice none 0 0) rfl
    have y3 := hO5.cell 3 (v := .string ro) rfl
    have f4 := hO5.frozen 4
    have f5 := hO5.frozen 5
    have f6 := hO5.frozen 6
    have G6 := gSet (gSet (gSet (gR9 w5 (some g9)) 4 (.int .i64 r)) 5 (.slice b3 k3 e3)) 6 (.slice b4 k4 e4)
    have T6 := hide (T5.grown G6 T5.size (fun k hk => by cases hk; exact hlo9))
    have hR6 := hide (hR5.grown G6 (fun e => g69 (Option.some.inj e).symm))
    have hO6 := hide (((hO5.set 4 (.int .i64 r)).set 5 (.slice b3 k3 e3)).set 6 (.slice b4 k4 e4))
    have o6 := hide (OwnSg.grownO (lf := r) o5 G6 (unhide of5).1 (unhide of5).2)
    have hs56 := G6.size
    have hsT4 := T4.size
    replace o5 := hide o5
    clear hb5 T4 hR4 hO hR5 hO5 C3 of5 T5 G6
    go_wp2_with fail
    generalize ((w5.setCell ⟨g9, 4, none⟩ (.int .i64 r)).setCell ⟨g9, 5, none⟩ (.slice b3 k3 e3)).setCell ⟨g9, 6, none⟩ (.slice b4 k4 e4) = W6 at *
    refine (unhide C4 W6).mono ?_
    rintro e w7 ⟨⟨v7, rfl, o7⟩, hb7⟩
    obtain ⟨b1, k1, e1, b2, k2, e2, rfl⟩ := o7.open
    rw [hl2] at o7 ⊢
    have T7 := (unhide T6).trans (hb7.mono (unhide T6).size)
    have hR7 := (unhide hR6).step hb7
    have hO7 := (unhide hO6).step hb7
    have o8 := hide ((unhide o6).below hb7)
    have ap := hide (show ∀ k, ((Value.slice b1 k1 e1).ownBlock = some k ∨ (Value.slice b2 k2 e2).ownBlock = some k) → (Value.slice b3 k3 e3).ownBlock ≠ some k ∧ (Value.slice b4 k4 e4).ownBlock ≠ some k from fun k hk => by
      have h1 := (OwnSg.bounds (lf := q) o7 k hk).1
      exact ⟨fun e => by have h2 := (unhide lo5 k (.inl e)).2; omega, fun e => by have h2 := (unhide lo5 k (.inr e)).2; omega⟩)
    have of7 := hide (OwnSg.offs (lf := q) o7 hO7 (by decide))
    have of7r := hide (OwnSg.offs (lf := q) o7 hR7 (by decide))
    have of8 := hide (OwnSg.offs (lf := r) (unhide o8) hO7 (by decide))
    have of8r := hide (OwnSg.offs (lf := r) (unhide o8) hR7 (by decide))
    have y0 := hO7.cell 0 (v := .int .i64 0) rfl
    have y1 := hO7.cell 1 (v := .slice none 0 0) rfl
    have y2 := hO7.cell 2 (v := .slice none 0 0) rfl
    have y3 := hO7.cell 3 (v := .string ro) rfl
    have y4 := hO7.cell 4 (v := .int .i64 r) rfl
    have y5 := hO7.cell 5 (v := .slice b3 k3 e3) rfl
    have y6 := hO7.cell 6 (v := .slice b4 k4 e4) rfl
    have f0 := hO7.frozen 0
    have f1 := hO7.frozen 1
    have f2 := hO7.frozen 2
    have G8 := gSet (gSet (gSet (gR9 w7 (some g9)) 0 (.int .i64 q)) 1 (.slice b1 k1 e1)) 2 (.slice b2 k2 e2)
    have hR8 := hide (hR7.grown G8 (fun e => g69 (Option.some.inj e).symm))
    have T8 := hide (T7.grown G8 T7.size (fun k hk => by cases hk; exact hlo9))
    have o9 := hide (OwnSg.grownO (lf := q) o7 G8 (unhide of7).1 (unhide of7).2)
    have o10 := hide (OwnSg.grownO (lf := r) (unhide o8) G8 (unhide of8).1 (unhide of8).2)
    have r0 := hR7.cell 0 (v := .int .i64 0) rfl
    have r1 := hR7.cell 1 (v := .slice none 0 0) rfl
    have r2 := hR7.cell 2 (v := .slice none 0 0) rfl
    have r3 := hR7.cell 3 (v := .string ⟨#[]⟩) rfl
    have r4 := hR7.cell 4 (v := .int .i64 0) rfl
    have r5 := hR7.cell 5 (v := .slice none 0 0) rfl
    have r6 := hR7.cell 6 (v := .slice none 0 0) rfl
    have z0 := hR7.frozen 0
    have z1 := hR7.frozen 1
    have z2 := hR7.frozen 2
    have z3 := hR7.frozen 3
    have z4 := hR7.frozen 4
    have z5 := hR7.frozen 5
    have z6 := hR7.frozen 6
    have hs7 := T7.size
    have hs6 := hide (unhide T6).size
    replace o7 := hide o7
    clear hb7 T6 hR6 hO6 o6 C4 hO7 hR7 T7 G8 lo5 of7 of8 f4 f5 f6
    go_wp2
    have G9 := gSet (gSet (gSet (gSet (gSet (gSet (gSet (gR9 (((w7.setCell ⟨g9, 0, none⟩ (.int .i64 q)).setCell ⟨g9, 1, none⟩ (.slice b1 k1 e1)).setCell ⟨g9, 2, none⟩ (.slice b2 k2 e2)) (some w.heap.size)) 0 (.int .i64 q)) 1 (.slice b1 k1 e1)) 2 (.slice b2 k2 e2)) 3 (.string ro)) 4 (.int .i64 r)) 5 (.slice b3 k3 e3)) 6 (.slice b4 k4 e4)
    have hF := hide ((((((((unhide hR8).set 0 (.int .i64 q)).set 1 (.slice b1 k1 e1)).set 2 (.slice b2 k2 e2)).set 3 (.string ro)).set 4 (.int .i64 r)).set 5 (.slice b3 k3 e3)).set 6 (.slice b4 k4 e4))
    have o11 := hide (OwnSg.grownO (lf := q) (unhide o9) G9 (unhide of7r).1 (unhide of7r).2)
    have o12 := hide (OwnSg.grownO (lf := r) (unhide o10) G9 (unhide of8r).1 (unhide of8r).2)
    have T9 := hide ((unhide T8).grown G9 (unhide T8).size (fun k hk => by cases hk; exact Nat.le_refl _))
    refine bodyPost_ret (results_cb_tmp (by exact Tryz.results4) _ _ _ _ _ _ rfl (unhide hF) Tryz.underlying26 (by kernel_rfl)) rfl ⟨⟨_, rfl, _, _, _, _, by show _ = hyv ST.leaf _ _ _ SL.leaf _ _; rw [hl1, hl2]; rfl, ?_, ?_, unhide ap⟩, unhide T9⟩
    · show OwnSg _ _ (sgv ST.leaf _ _) ST
      rw [hl2]
      exact (unhide o11).low (unhide hs6)
    · show OwnSg _ _ (sgv SL.leaf _ _) SL
      rw [hl1]
      exact (unhide o12).low hsT4
  · have ES := hide (show hsgnS s i m = ⟨noSg, ⟨#[]⟩, noSg⟩ by unfold hsgnS; rw [if_neg h])
    rw [unhide ES, decide_eq_false h]
    rw [decide_eq_false h] at C0
    clear ES h
    go_enter Tryz.func4, Tryz.ntmps4
    go_wp2_with fail
    obtain ⟨W, hW, hR, hB, hs1⟩ := one_cb w #[.int .i64 0, .slice none 0 0, .slice none 0 0, .string ⟨#[]⟩, .int .i64 0, .slice none 0 0, .slice none 0 0] 26
    rw [hW]
    clear hW
    refine (unhide C0 W).mono ?_
    rintro e w1 ⟨rfl, hw1⟩
    have hw2 := hw1.symm
    subst hw2
    clear hw1 C0
    have r0 := hR.cell 0 (v := .int .i64 0) rfl
    have r1 := hR.cell 1 (v := .slice none 0 0) rfl
    have r2 := hR.cell 2 (v := .slice none 0 0) rfl
    have r3 := hR.cell 3 (v := .string ⟨#[]⟩) rfl
    have r4 := hR.cell 4 (v := .int .i64 0) rfl
    have r5 := hR.cell 5 (v := .slice none 0 0) rfl
    have r6 := hR.cell 6 (v := .slice none 0 0) rfl
    have z0 := hR.frozen 0
    have z1 := hR.frozen 1
    have z2 := hR.frozen 2
    have z3 := hR.frozen 3
    have z4 := hR.frozen 4
    have z5 := hR.frozen 5
    have z6 := hR.frozen 6
    go_wp2
    have G9 := gSet (gSet (gSet (gSet (gSet (gSet (gSet (gR9 W (some w.heap.size)) 0 (.int .i64 0)) 1 (.slice none 0 0)) 2 (.slice none 0 0)) 3 (.string ⟨#[]⟩)) 4 (.int .i64 0)) 5 (.slice none 0 0)) 6 (.slice none 0 0)
    have hF := hide (((((((hR.set 0 (.int .i64 0)).set 1 (.slice none 0 0)).set 2 (.slice none 0 0)).set 3 (.string ⟨#[]⟩)).set 4 (.int .i64 0)).set 5 (.slice none 0 0)).set 6 (.slice none 0 0))
    have T9 := hide (hB.grown G9 hB.size (fun k hk => by cases hk; exact Nat.le_refl _))
    exact bodyPost_ret (results_cb_tmp (by exact Tryz.results4) _ _ _ _ _ _ rfl (unhide hF) Tryz.underlying26 (by kernel_rfl)) rfl ⟨⟨_, rfl, _, _, _, _, rfl, ⟨_, _, rfl, OwnV.nil _ _ _, OwnV.nil _ _ _, fun k hk => by cases hk⟩, ⟨_, _, rfl, OwnV.nil _ _ _, OwnV.nil _ _ _, fun k hk => by cases hk⟩, fun k hk => by rcases hk with hk | hk <;> cases hk⟩, unhide T9⟩
end Go.Proofs.YtjgnjjphankhnabGreat

/- Trees of trees by the given model: texts, over the loaded program. -/
namespace Go.Proofs.YtjgnjjphankhnabGreat
open Go.RowKit
theorem cutH17 (T : ByteArray) (j : Nat) (w : World) (h2 : j ≤ T.size) : (Instr.slice 9 (.string T) none (some (.int .i64 (j : Int))) none).run Tryz.prog w = .ok (.string (T.extract 0 j)) w := by
  rw [run_slice_string_h w 9 T Tryz.underlying9 .i64 (j : Int) (by omega) (by omega)]
  rfl
theorem cutL17 (T : ByteArray) (j : Nat) (w : World) (h2 : j ≤ T.size) : (Instr.slice 9 (.string T) (some (.int .i64 (j : Int))) none none).run Tryz.prog w = .ok (.string (T.extract j T.size)) w := by
  rw [run_slice_string_l w 9 T Tryz.underlying9 .i64 (j : Int) (by omega) (by omega)]
  rfl
theorem CB.drewn {w : World} {g : Nat} {T : TypeId} {cs : Array Value} (h : CB w g T cs) : CB w.drew g T cs := h
end Go.Proofs.YtjgnjjphankhnabGreat

/- The laws on signatures of trees of trees, walked over the loaded program; what the project's functions answer are premises. -/
namespace Go.Proofs.YtjgnjjphankhnabGreat
open Go.RowKit
theorem OwnHy.open {w : World} {base : Nat} {v : Value} {h : Hy} (ho : OwnHy w base v h) : ∃ a1 n1 c1 a2 n2 c2 a3 n3 c3 a4 n4 c4, v = .agg #[.int .i64 h.top.leaf, .slice a1 n1 c1, .slice a2 n2 c2, .string h.root, .int .i64 h.low.leaf, .slice a3 n3 c3, .slice a4 n4 c4] := ho.rd.open
def lnHy (h : Hy) (n : Nat) : Prop := (h.top.once.length ≤ n ∧ h.top.path.length ≤ n) ∧ h.low.once.length ≤ n ∧ h.low.path.length ≤ n
theorem lnHy.mono {h : Hy} {n m : Nat} (hl : lnHy h n) (hm : n ≤ m) : lnHy h m := by
  unfold lnHy at *
  omega
theorem sgn_len (s : ByteArray) (leaf : Int) (m : ByteArray) : (sgnS s leaf m).once.length ≤ 10 ∧ (sgnS s leaf m).path.length ≤ 10 := by
  unfold sgnS
  split
  next h => exact ⟨Nat.le_of_eq (onceS_len _ _ _ (keysO_len _ _)), by have : (pathL (lvsO s) leaf).length = 2 := pathL_len _ _ (lvsO_len _) h; show (pathL (lvsO s) leaf).length ≤ 10; omega⟩
  · exact ⟨Nat.zero_le _, Nat.zero_le _⟩
theorem rd_len (t : ByteArray) : (rdS t).once.length ≤ 10 ∧ (rdS t).path.length ≤ 10 := by
  unfold rdS
  split
  · exact ⟨by show ((List.range 10).map _).length ≤ 10; rw [List.length_map, List.length_range]; exact Nat.le_refl _, by show ((List.range 2).map _).length ≤ 10; rw [List.length_map, List.length_range]; omega⟩
  · exact ⟨Nat.zero_le _, Nat.zero_le _⟩
theorem hsgn_len (s : ByteArray) (i : Int) (m : ByteArray) : lnHy (hsgnS s i m) 10 := by
  unfold hsgnS
  split
  · exact ⟨sgn_len _ _ _, sgn_len _ _ _⟩
  · exact ⟨⟨Nat.zero_le _, Nat.zero_le _⟩, Nat.zero_le _, Nat.zero_le _⟩
theorem hrd_len (t : ByteArray) : lnHy (hrdS t) 10 := by
  unfold hrdS
  split
  · exact ⟨rd_len _, rd_len _⟩
  · exact ⟨⟨Nat.zero_le _, Nat.zero_le _⟩, Nat.zero_le _, Nat.zero_le _⟩
set_option maxRecDepth 20000 in
set_option maxHeartbeats 1600000 in
theorem lawHyperSign_any (s m : ByteArray) (i : Int) (CI : s.size ≤ 1048576 → m.size ≤ 1048576 → ∀ W : World, Calls Tryz.prog 5 #[.string s, .int .i64 i, .string m] W fun e w' => (∃ v, e = .returned (.tuple #[v, .bool (decide (0 ≤ i ∧ i ≤ 15))]) ∧ OwnHy w' W.heap.size v (hsgnS s i m)) ∧ Below W.heap.size W w') (w : World) :
    Calls Tryz.prog 3 #[.string s, .int .i64 i, .string m] w fun x w' => x = .returned (.bool true) ∧ Below w.heap.size w w' := by
  by_cases h1 : (1048576 : Int) < (s.size : Int)
  · go_enter Tryz.func3, Tryz.ntmps3
    go_wp2
    go_ret
    exact ⟨rfl, Below.refl _ _⟩
  by_cases h2 : (1048576 : Int) < (m.size : Int)
  · go_enter Tryz.func3, Tryz.ntmps3
    go_wp2
    go_ret
    exact ⟨rfl, Below.refl _ _⟩
  have CS := hide (fun W => specHyperSign_any s i m (by omega) (by omega) W)
  replace CI := hide (CI (by omega) (by omega))
  have hl := hsgn_len s i m
  generalize (hsgnS s i m) = S at *
  generalize (decide (0 ≤ i ∧ i ≤ 15)) = ok at *
  have CE := hide (fun (W : World) (v u : Value) (hv : RdHy W v S) (hu : RdHy W u S) => eqHyper_any S v u W hv hu (by unfold lnHy at hl; omega) (by unfold lnHy at hl; omega) (by unfold lnHy at hl; omega) (by unfold lnHy at hl; omega))
  obtain ⟨M, hM⟩ : ∃ M, M = 1 + S.top.once.length + S.top.path.length + S.low.once.length + S.low.path.length := ⟨_, rfl⟩
  have CM := hide (fun (W W0 : World) (base : Nat) (v : Value) (ho : OwnHy W base v S) (hb : Below base W0 W) (hbw : base ≤ W.heap.size) => markHyper_any S v base M W W0 hM ho hb hbw (by unfold lnHy at hl; omega) (by unfold lnHy at hl; omega) (by unfold lnHy at hl; omega) (by unfold lnHy at hl; omega))
  have CH := hide (fun (W : World) (base : Nat) (v : Value) (ho : MkHy W base v S) => heldHyper_any S v base M W hM ho (by unfold lnHy at hl; omega) (by unfold lnHy at hl; omega) (by unfold lnHy at hl; omega) (by unfold lnHy at hl; omega))
  have hM0 : ¬ (M : Int) < 0 := by omega
  replace hM := hide hM; replace hl := hide hl
  go_enter Tryz.func3, Tryz.ntmps3
  go_wp2_with fail
  refine (unhide CS w).mono ?_
  rintro e w1 ⟨⟨v0, rfl, o0⟩, hb0⟩
  obtain ⟨a1, an1, ac1, a2, an2, ac2, a3, an3, ac3, a4, an4, ac4, rfl⟩ := o0.open
  replace o0 := hide o0
  clear CS
  go_wp2_with fail
  obtain ⟨W1, hW, P7, hB1, hs1⟩ := one_cb w1 #[.int .i64 S.top.leaf, .slice a1 an1 ac1, .slice a2 an2 ac2, .string S.root, .int .i64 S.low.leaf, .slice a3 an3 ac3, .slice a4 an4 ac4] 26
  rw [hW]
  clear hW
  have o0' := hide ((unhide o0).below hB1)
  have o0w := hide (unhide o0')
  have T1 := hb0.trans (hB1.mono hb0.size)
  clear o0 hb0 hB1
  refine (unhide CI W1).mono ?_
  rintro e w2 ⟨⟨v9, rfl, o9⟩, hb2⟩
  obtain ⟨b1, bn1, bc1, b2, bn2, bc2, b3, bn3, bc3, b4, bn4, bc4, rfl⟩ := o9.open
  have P7' := P7.step hb2
  have q0 := hide ((unhide o0').below hb2)
  replace o9 := hide o9
  have p0 := P7'.cell 0 (v := .int .i64 S.top.leaf) rfl
  have p1 := P7'.cell 1 (v := .slice a1 an1 ac1) rfl
  have p2 := P7'.cell 2 (v := .slice a2 an2 ac2) rfl
  have p3 := P7'.cell 3 (v := .string S.root) rfl
  have p4 := P7'.cell 4 (v := .int .i64 S.low.leaf) rfl
  have p5 := P7'.cell 5 (v := .slice a3 an3 ac3) rfl
  have p6 := P7'.cell 6 (v := .slice a4 an4 ac4) rfl
  have l7 := P7'.lt
  have hs2 := hb2.size
  have T2 := T1.trans (hb2.mono T1.size)
  clear o0'
  go_wp2_with fail
  obtain ⟨W2, hW, P9, hB2, hs3⟩ := one_cb w2 #[.int .i64 S.top.leaf, .slice b1 bn1 bc1, .slice b2 bn2 bc2, .string S.root, .int .i64 S.low.leaf, .slice b3 bn3 bc3, .slice b4 bn4 bc4] 26
  rw [hW]
  clear hW p0 p1 p2 p3 p4 p5 p6 l7
  have hs4 := hB2.size
  have T3 := T2.trans (hB2.mono T2.size)
  have Q3 := hb2.trans (hB2.mono hs2)
  have r9 := hide ((unhide o9).below hB2)
  have r0 := hide ((unhide q0).below hB2)
  have P7a := P7'.step hB2
  clear o9 q0 hB2 P7 P7' hb2
  refine (unhide CE W2 _ _ (unhide r9).rd (unhide r0).rd).mono ?_
  rintro e w3 ⟨rfl, hb3⟩
  have T4 := T3.trans (hb3.mono T3.size)
  have Q4 := Q3.trans (hb3.mono Q3.size)
  have s9 := hide ((unhide r9).below hb3)
  have s0 := hide ((unhide r0).below hb3)
  have P7b := P7a.step hb3
  have P9b := P9.step hb3
  have p0 := P9b.cell 0 (v := .int .i64 S.top.leaf) rfl
  have p1 := P9b.cell 1 (v := .slice b1 bn1 bc1) rfl
  have p2 := P9b.cell 2 (v := .slice b2 bn2 bc2) rfl
  have p3 := P9b.cell 3 (v := .string S.root) rfl
  have p4 := P9b.cell 4 (v := .int .i64 S.low.leaf) rfl
  have p5 := P9b.cell 5 (v := .slice b3 bn3 bc3) rfl
  have p6 := P9b.cell 6 (v := .slice b4 bn4 bc4) rfl
  have hs5 := Q4.size
  clear r9 r0 P7a P9 hb3 T3 Q3
  go_wp2_with fail
  refine (unhide CM w3 W1 W1.heap.size _ (unhide s9) Q4 hs5).mono ?_
  rintro e w4 ⟨rfl, mk4, Q5, KC⟩
  have P7c := KC _ _ _ P7b (by decide)
  have P9c := KC _ _ _ P9b (by decide)
  have T5 := T1.trans (Q5.mono T1.size)
  have x0 := hide ((unhide o0w).below Q5)
  replace mk4 := hide mk4
  clear p0 p1 p2 p3 p4 p5 p6
  have p0 := P9c.cell 0 (v := .int .i64 S.top.leaf) rfl
  have p1 := P9c.cell 1 (v := .slice b1 bn1 bc1) rfl
  have p2 := P9c.cell 2 (v := .slice b2 bn2 bc2) rfl
  have p3 := P9c.cell 3 (v := .string S.root) rfl
  have p4 := P9c.cell 4 (v := .int .i64 S.low.leaf) rfl
  have p5 := P9c.cell 5 (v := .slice b3 bn3 bc3) rfl
  have p6 := P9c.cell 6 (v := .slice b4 bn4 bc4) rfl
  clear KC P7b P9b Q4 T4 s9 s0 CM
  go_wp2_with fail
  refine (unhide CH w4 _ _ (unhide mk4)).mono ?_
  rintro e w5 ⟨rfl, hb5⟩
  have T6 := T5.trans (hb5.mono T5.size)
  have mk5 := hide ((unhide mk4).below hb5)
  have y0 := hide ((unhide x0).below hb5)
  have P7d := P7c.step hb5
  have P9d := P9c.step hb5
  clear hb5 mk4 x0 P7c P9c T5 Q5 p0 p1 p2 p3 p4 p5 p6
  go_wp2_with fail
  refine (unhide CI w5).mono ?_
  rintro e w6 ⟨⟨v13, rfl, o13⟩, hb6⟩
  obtain ⟨d1, dn1, dc1, d2, dn2, dc2, d3, dn3, dc3, d4, dn4, dc4, rfl⟩ := o13.open
  have T7 := T6.trans (hb6.mono T6.size)
  have mk6 := hide ((unhide mk5).below hb6)
  have z0 := hide ((unhide y0).below hb6)
  have P7e := P7d.step hb6
  have P9e := P9d.step hb6
  have p0 := P7e.cell 0 (v := .int .i64 S.top.leaf) rfl
  have p1 := P7e.cell 1 (v := .slice a1 an1 ac1) rfl
  have p2 := P7e.cell 2 (v := .slice a2 an2 ac2) rfl
  have p3 := P7e.cell 3 (v := .string S.root) rfl
  have p4 := P7e.cell 4 (v := .int .i64 S.low.leaf) rfl
  have p5 := P7e.cell 5 (v := .slice a3 an3 ac3) rfl
  have p6 := P7e.cell 6 (v := .slice a4 an4 ac4) rfl
  have l7 := P7e.lt
  replace o13 := hide o13
  clear hb6 mk5 y0 P7d P9d T6 CI
  go_wp2_with fail
  obtain ⟨W6, hW, P13, hB6, hs6⟩ := one_cb w6 #[.int .i64 S.top.leaf, .slice d1 dn1 dc1, .slice d2 dn2 dc2, .string S.root, .int .i64 S.low.leaf, .slice d3 dn3 dc3, .slice d4 dn4 dc4] 26
  rw [hW]
  clear hW p0 p1 p2 p3 p4 p5 p6 l7
  have T8 := T7.trans (hB6.mono T7.size)
  have u13 := hide ((unhide o13).below hB6)
  have u0 := hide ((unhide z0).below hB6)
  have mk7 := hide ((unhide mk6).below hB6)
  have P9f := P9e.step hB6
  clear o13 z0 mk6 P9e P7e hB6 T7
  refine (unhide CE W6 _ _ (unhide u13).rd (unhide u0).rd).mono ?_
  rintro e w7 ⟨rfl, hb7⟩
  have T9 := T8.trans (hb7.mono T8.size)
  have mk8 := hide ((unhide mk7).below hb7)
  have P9g := P9f.step hb7
  have p0 := P9g.cell 0 (v := .int .i64 S.top.leaf) rfl
  have p1 := P9g.cell 1 (v := .slice b1 bn1 bc1) rfl
  have p2 := P9g.cell 2 (v := .slice b2 bn2 bc2) rfl
  have p3 := P9g.cell 3 (v := .string S.root) rfl
  have p4 := P9g.cell 4 (v := .int .i64 S.low.leaf) rfl
  have p5 := P9g.cell 5 (v := .slice b3 bn3 bc3) rfl
  have p6 := P9g.cell 6 (v := .slice b4 bn4 bc4) rfl
  clear hb7 mk7 P9f P13 T8 u13 u0 CE
  go_wp2_with fail
  refine (unhide CH w7 _ _ (unhide mk8)).mono ?_
  rintro e w8 ⟨rfl, hb8⟩
  have TF := T9.trans (hb8.mono T9.size)
  clear hb8 mk8 P9g T9 CH p0 p1 p2 p3 p4 p5 p6
  go_wp2
  go_ret
  exact ⟨rfl, TF⟩
end Go.Proofs.YtjgnjjphankhnabGreat

