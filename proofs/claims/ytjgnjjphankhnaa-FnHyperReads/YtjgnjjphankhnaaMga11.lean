/- Merged: HyI2, Sig1, Sig2, Sig3. -/
import Derived.Test.YtjgnjjphankhnaaMga1
import Derived.Test.YtjgnjjphankhnaaMga2
import Derived.Test.YtjgnjjphankhnaaMga3
import Derived.Test.YtjgnjjphankhnaaMga4
import Derived.Test.YtjgnjjphankhnaaMga5
import Derived.Test.YtjgnjjphankhnaaMga6
import Derived.Test.YtjgnjjphankhnaaMga7
import Derived.Test.YtjgnjjphankhnaaMga8
import Derived.Test.YtjgnjjphankhnaaMga9
import Derived.Test.YtjgnjjphankhnaaMga10
import Derived.Deep.RegionHeld3
import Derived.BigQuiet
/- Trees of trees by the project's own functions: what is checked, indexes, texts, over the loaded program. -/
namespace Go.Proofs.Ytjgnjjphankhnaa
open Go.RowKit
set_option maxRecDepth 20000 in
set_option maxHeartbeats 800000 in
theorem implHyperIndex_any (h : Hy) (v : Value) (w : World) (hr : RdHy w v h) :
    Calls Try.prog 22 #[v] w fun e w' => e = .returned (.int .i64 (hidx h)) ∧ Below w.heap.size w w' := by
  obtain ⟨a1, m1, c1, a2, m2, c2, a3, m3, c3, a4, m4, c4, rfl⟩ := hr.open
  obtain ⟨p1, p2⟩ := hr.parts
  have C1 := hide (fun (W : World) (hb : Below w.heap.size w W) => implSigOk_any h.top _ W (p1.below hb))
  have C2 := hide (fun (W : World) (hb : Below w.heap.size w W) => implSigOk_any h.low _ W (p2.below hb))
  cases o1 : sgOk h.top with
  | true =>
    rw [o1] at C1
    cases o2 : sgOk h.low with
    | true =>
      rw [o2] at C2
      have HE := hide (show hidx h = 4 * h.top.leaf + h.low.leaf by unfold hidx bothSg; rw [o1, o2]; rfl)
      rw [unhide HE]
      have q1 := (sgOk_shape o1).1
      have q2 := (sgOk_shape o2).1
      generalize h.top.leaf = lt at *
      generalize h.low.leaf = ll at *
      obtain ⟨x, hx⟩ : ∃ x : Int, x = 4 * lt := ⟨_, rfl⟩
      obtain ⟨y, hy⟩ : ∃ y : Int, y = 4 * lt + ll := ⟨_, rfl⟩
      have t1 : IntKind.i64.wrap (4 * lt) = x := by rw [IntKind.wrap_i64]; omega
      have t2 : IntKind.i64.wrap (x + ll) = y := by rw [IntKind.wrap_i64]; omega
      rw [← hy]
      replace hx := hide hx; replace hy := hide hy
      clear hr p1 p2 HE o1 o2 q1 q2
      go_enter Try.func22, Try.ntmps22
      go_wp2_with fail
      obtain ⟨W, hW, hP, hB, hs⟩ := one_cb w #[.int .i64 lt, .slice a1 m1 c1, .slice a2 m2 c2, .string h.root, .int .i64 ll, .slice a3 m3 c3, .slice a4 m4 c4] 37
      rw [hW]
      clear hW
      refine (unhide C1 W hB).mono ?_
      rintro e w1 ⟨rfl, hb1⟩
      have T1 := hB.trans (hb1.mono hB.size)
      have hP1 := hP.step hb1
      have x4 := hP1.cell 4 (v := .int .i64 ll) rfl
      have x5 := hP1.cell 5 (v := .slice a3 m3 c3) rfl
      have x6 := hP1.cell 6 (v := .slice a4 m4 c4) rfl
      clear hb1 hB hP C1
      go_wp2_with fail
      refine (unhide C2 w1 T1).mono ?_
      rintro e w2 ⟨rfl, hb2⟩
      have T2 := T1.trans (hb2.mono T1.size)
      have hP2 := hP1.step hb2
      have x0 := hP2.cell 0 (v := .int .i64 lt) rfl
      have x4 := hP2.cell 4 (v := .int .i64 ll) rfl
      clear hb2 T1 hP1 C2 x5 x6
      go_wp2
      go_ret
      exact ⟨rfl, T2⟩
    | false =>
      rw [o2] at C2
      have HE := hide (show hidx h = -1 by unfold hidx bothSg; rw [o1, o2]; rfl)
      rw [unhide HE]
      clear hr p1 p2 HE o1 o2
      go_enter Try.func22, Try.ntmps22
      go_wp2_with fail
      obtain ⟨W, hW, hP, hB, hs⟩ := one_cb w #[.int .i64 h.top.leaf, .slice a1 m1 c1, .slice a2 m2 c2, .string h.root, .int .i64 h.low.leaf, .slice a3 m3 c3, .slice a4 m4 c4] 37
      rw [hW]
      clear hW
      refine (unhide C1 W hB).mono ?_
      rintro e w1 ⟨rfl, hb1⟩
      have T1 := hB.trans (hb1.mono hB.size)
      have hP1 := hP.step hb1
      have x4 := hP1.cell 4 (v := .int .i64 h.low.leaf) rfl
      have x5 := hP1.cell 5 (v := .slice a3 m3 c3) rfl
      have x6 := hP1.cell 6 (v := .slice a4 m4 c4) rfl
      clear hb1 hB hP C1
      go_wp2_with fail
      refine (unhide C2 w1 T1).mono ?_
      rintro e w2 ⟨rfl, hb2⟩
      have T2 := T1.trans (hb2.mono T1.size)
      clear hb2 T1 hP1 C2 x4 x5 x6
      go_wp2
      go_ret
      exact ⟨rfl, T2⟩
  | false =>
    rw [o1] at C1
    have HE := hide (show hidx h = -1 by unfold hidx bothSg; rw [o1]; rfl)
    rw [unhide HE]
    clear hr p1 p2 HE o1 C2
    go_enter Try.func22, Try.ntmps22
    go_wp2_with fail
    obtain ⟨W, hW, hP, hB, hs⟩ := one_cb w #[.int .i64 h.top.leaf, .slice a1 m1 c1, .slice a2 m2 c2, .string h.root, .int .i64 h.low.leaf, .slice a3 m3 c3, .slice a4 m4 c4] 37
    rw [hW]
    clear hW
    refine (unhide C1 W hB).mono ?_
    rintro e w1 ⟨rfl, hb1⟩
    have T1 := hB.trans (hb1.mono hB.size)
    clear hb1 hB hP C1
    go_wp2
    go_ret
    exact ⟨rfl, T1⟩
set_option maxRecDepth 20000 in
set_option maxHeartbeats 800000 in
theorem implHyperText_any (h : Hy) (v : Value) (w : World) (hr : RdHy w v h) :
    Calls Try.prog 20 #[v] w fun e w' => e = .returned (.tuple #[.string (htx h), .bool (htxOk h)]) ∧ Below w.heap.size w w' := by
  obtain ⟨a1, m1, c1, a2, m2, c2, a3, m3, c3, a4, m4, c4, rfl⟩ := hr.open
  obtain ⟨p1, p2⟩ := hr.parts
  have C1 := hide (fun (W : World) (hb : Below w.heap.size w W) => implSigText_any h.top _ W (p1.below hb))
  have C2 := hide (fun (W : World) (hb : Below w.heap.size w W) => implSigText_any h.low _ W (p2.below hb))
  have E1 := hide (show htxOk h = (sgOk h.top && sgOk h.low && decide (h.root.size = 4)) from rfl)
  have E2 := hide (show htx h = if htxOk h = true then sgT h.top ++ h.root ++ sgT h.low else ⟨#[]⟩ from rfl)
  have z1 : sgOk h.top = true → (sgT h.top).size = 49 := sgT_size
  have z2 : sgOk h.low = true → (sgT h.low).size = 49 := sgT_size
  rw [unhide E2, unhide E1]
  obtain ⟨b4, hb4⟩ : ∃ b, b = decide (h.root.size = 4) := ⟨_, rfl⟩
  rw [← hb4]
  generalize sgOk h.top = k1 at *
  generalize sgOk h.low = k2 at *
  generalize sgT h.top = x1 at *
  generalize sgT h.low = x2 at *
  clear hr p1 p2 E1 E2
  replace hb4 := hide hb4
  go_enter Try.func20, Try.ntmps20
  go_wp2_with fail
  obtain ⟨W, hW, hP, hB, hs⟩ := one_cb w #[.int .i64 h.top.leaf, .slice a1 m1 c1, .slice a2 m2 c2, .string h.root, .int .i64 h.low.leaf, .slice a3 m3 c3, .slice a4 m4 c4] 37
  rw [hW]
  clear hW
  refine (unhide C1 W hB).mono ?_
  rintro e w1 ⟨rfl, hb1⟩
  have T1 := hB.trans (hb1.mono hB.size)
  have hP1 := hP.step hb1
  have x4 := hP1.cell 4 (v := .int .i64 h.low.leaf) rfl
  have x5 := hP1.cell 5 (v := .slice a3 m3 c3) rfl
  have x6 := hP1.cell 6 (v := .slice a4 m4 c4) rfl
  clear hb1 hB hP C1
  go_wp2_with fail
  refine (unhide C2 w1 T1).mono ?_
  rintro e w2 ⟨rfl, hb2⟩
  have T2 := T1.trans (hb2.mono T1.size)
  have hP2 := hP1.step hb2
  have x3 := hP2.cell 3 (v := .string h.root) rfl
  clear hb2 T1 hP1 C2 x4 x5 x6
  cases k1 with
  | false =>
    clear z1 z2
    go_wp2
    go_ret2
    exact ⟨rfl, T2⟩
  | true =>
    cases k2 with
    | false =>
      clear z1 z2
      go_wp2
      go_ret2
      exact ⟨rfl, T2⟩
    | true =>
      have y1 := z1 rfl
      have y2 := z2 rfl
      clear z1 z2
      by_cases h4 : h.root.size = 4
      · have h4' : (h.root.size : Int) = 4 := by omega
        have s1 : ¬ 9223372036854775807 < x1.size + h.root.size := by omega
        have s2 : x1.size + h.root.size ≤ 9223372036854775807 := by omega
        have s3 : ¬ 9223372036854775807 < (x1 ++ h.root).size + x2.size := by rw [ByteArray.size_append]; omega
        have s4 : (x1 ++ h.root).size + x2.size ≤ 9223372036854775807 := by rw [ByteArray.size_append]; omega
        have s5 : (x1 ++ h.root).size = x1.size + h.root.size := ByteArray.size_append
        replace y1 := hide y1; replace y2 := hide y2
        have hd : b4 = true := by rw [unhide hb4]; exact decide_eq_true h4
        subst hd
        replace h4 := hide h4
        clear hb4
        go_wp2
        go_ret2
        exact ⟨rfl, T2⟩
      · have h4' : ¬ (h.root.size : Int) = 4 := by omega
        have hd : b4 = false := by rw [unhide hb4]; exact decide_eq_false h4
        subst hd
        clear y1 y2 h4 hb4
        go_wp2
        go_ret2
        exact ⟨rfl, T2⟩
set_option maxRecDepth 20000 in
set_option maxHeartbeats 1600000 in
theorem implReadHyper_any (t : ByteArray) (w : World) :
    Calls Try.prog 18 #[.string t] w fun e w' => (∃ v, e = .returned (.tuple #[v, .bool (hrdOk t)]) ∧ OwnHy w' w.heap.size v (hrdS t)) ∧ Below w.heap.size w w' := by
  by_cases h102 : t.size = 102
  · have h102' : (t.size : Int) = 102 := by omega
    have E1 := hide (show hrdOk t = (rdOk (t.extract 0 49) && rdOk (t.extract 53 102)) by unfold hrdOk hA hL; rw [decide_eq_true h102, Bool.true_and, h102])
    have E2 := hide (fun (h : hrdOk t = true) => show hrdS t = ⟨rdS (t.extract 0 49), t.extract 49 53, rdS (t.extract 53 102)⟩ by rw [hrd_is h]; unfold hA hR hL; rw [h102])
    have E3 := hide (fun (h : ¬ hrdOk t = true) => show hrdS t = ⟨noSg, ⟨#[]⟩, noSg⟩ by unfold hrdS; rw [if_neg h])
    have C1 := hide (fun W => implReadSig_any (t.extract 0 49) W)
    have C2 := hide (fun W => implReadSig_any (t.extract 53 102) W)
    rw [unhide E1] at E2 E3 ⊢
    generalize hrdS t = HH at *
    generalize rdOk (t.extract 0 49) = k1 at *
    generalize rdOk (t.extract 53 102) = k2 at *
    generalize rdS (t.extract 0 49) = S1 at *
    generalize rdS (t.extract 53 102) = S2 at *
    clear E1
    go_enter Try.func18, Try.ntmps18
    go_wp2_with fail
    obtain ⟨W, hW, hR, hB, hs1⟩ := one_cb w #[.int .i64 0, .slice none 0 0, .slice none 0 0, .string ⟨#[]⟩, .int .i64 0, .slice none 0 0, .slice none 0 0] 37
    rw [hW]
    clear hW
    refine (unhide C1 W).mono ?_
    rintro e w1 ⟨⟨v1, rfl, o1⟩, hb1⟩
    obtain ⟨b1, n1, e1, b2, n2, e2, rfl⟩ := o1.open
    have T1 := hB.trans (hb1.mono hB.size)
    have hR1 := hR.step hb1
    replace o1 := hide o1
    clear hb1 hR hB C1
    go_wp2_with fail
    obtain ⟨W1, hW, hA5, hB1, hs2⟩ := one_cb w1 #[.int .i64 S1.leaf, .slice b1 n1 e1, .slice b2 n2 e2] 26
    rw [hW]
    clear hW
    have T2 := T1.trans (hB1.mono T1.size)
    have hR2 := hR1.step hB1
    have o2 := hide ((unhide o1).below hB1)
    have hsT1 := T1.size
    have g25 : w.heap.size ≠ w1.heap.size := by have := hR1.lt; omega
    obtain ⟨g5, hg5⟩ : ∃ x, x = w1.heap.size := ⟨_, rfl⟩
    have hlo5 : w.heap.size ≤ g5 := by omega
    rw [← hg5] at hA5 g25 ⊢
    clear T1 hR1 hB1 o1 hs2 hg5
    refine (unhide C2 W1).mono ?_
    rintro e w3 ⟨⟨v3, rfl, o3⟩, hb3⟩
    obtain ⟨b3, n3, e3, b4, n4, e4, rfl⟩ := o3.open
    have T3 := T2.trans (hb3.mono T2.size)
    have hR3 := hR2.step hb3
    have hA6 := hA5.step hb3
    have o4 := hide ((unhide o2).below hb3)
    have hsT2 := T2.size
    have ap := hide (show ∀ k, ((Value.slice b1 n1 e1).ownBlock = some k ∨ (Value.slice b2 n2 e2).ownBlock = some k) → (Value.slice b3 n3 e3).ownBlock ≠ some k ∧ (Value.slice b4 n4 e4).ownBlock ≠ some k from fun k hk => by
      have h1 := (OwnSg.bounds (lf := S1.leaf) (unhide o2) k hk).2
      exact ⟨fun e => by have h2 := (OwnSg.bounds (lf := S2.leaf) o3 k (.inl e)).1; omega, fun e => by have h2 := (OwnSg.bounds (lf := S2.leaf) o3 k (.inr e)).1; omega⟩)
    have l5 := hA6.lt
    replace o3 := hide o3
    clear hb3 T2 hR2 hA5 o2 C2
    have lR := hR3.lt
    cases hk : (k1 && k2) with
    | false =>
      have hHH := unhide E3 (by rw [hk]; decide)
      have hc : ¬ (k1 = true ∧ k2 = true) := fun h => by rw [h.1, h.2] at hk; cases hk
      obtain ⟨W3, hW3, hA7, hB3, hs3⟩ := one_cb w3 #[.int .i64 S2.leaf, .slice b3 n3 e3, .slice b4 n4 e4] 26
      have T4 := T3.trans (hB3.mono T3.size)
      have hR4 := hR3.step hB3
      have G9 := (gSet (gSet (gSet (gSet (gSet (gSet (gSet (gR9 W3 (some w.heap.size)) 0 (.int .i64 0)) 1 (.slice none 0 0)) 2 (.slice none 0 0)) 3 (.string ⟨#[]⟩)) 4 (.int .i64 0)) 5 (.slice none 0 0)) 6 (.slice none 0 0))
      have hF := hide ((((((((hR4).set 0 (.int .i64 0)).set 1 (.slice none 0 0)).set 2 (.slice none 0 0)).set 3 (.string ⟨#[]⟩)).set 4 (.int .i64 0)).set 5 (.slice none 0 0)).set 6 (.slice none 0 0))
      have T9 := hide (T4.grown G9 T4.size (fun k hk => by cases hk; exact Nat.le_refl _))
      replace hW3 := hide hW3
      clear hB3 hs3 T3 hR3 hA6 hA7 E2 E3 o3 o4 ap T4 G9
      have r0 := hR4.cell 0 (v := (.int .i64 0)) rfl
      have r1 := hR4.cell 1 (v := (.slice none 0 0)) rfl
      have r2 := hR4.cell 2 (v := (.slice none 0 0)) rfl
      have r3 := hR4.cell 3 (v := (.string ⟨#[]⟩)) rfl
      have r4 := hR4.cell 4 (v := (.int .i64 0)) rfl
      have r5 := hR4.cell 5 (v := (.slice none 0 0)) rfl
      have r6 := hR4.cell 6 (v := (.slice none 0 0)) rfl
      have z0 := hR4.frozen 0
      have z1 := hR4.frozen 1
      have z2 := hR4.frozen 2
      have z3 := hR4.frozen 3
      have z4 := hR4.frozen 4
      have z5 := hR4.frozen 5
      have z6 := hR4.frozen 6
      subst hHH
      cases k1 with
      | true =>
        cases k2 with
        | true => exact absurd ⟨rfl, rfl⟩ hc
        | false =>
          clear hc hk
          go_wp2_with (rw [unhide hW3])
          exact bodyPost_ret (results_cb_tmp (by exact Try.results18) _ _ _ _ _ _ rfl (unhide hF) Try.underlying37 (by kernel_rfl)) rfl ⟨⟨_, rfl, _, _, _, _, rfl, ⟨_, _, rfl, OwnV.nil _ _ _, OwnV.nil _ _ _, fun k hk => by cases hk⟩, ⟨_, _, rfl, OwnV.nil _ _ _, OwnV.nil _ _ _, fun k hk => by cases hk⟩, fun k hk => by rcases hk with hk | hk <;> cases hk⟩, unhide T9⟩
      | false =>
        clear hc hk
        go_wp2_with (rw [unhide hW3])
        exact bodyPost_ret (results_cb_tmp (by exact Try.results18) _ _ _ _ _ _ rfl (unhide hF) Try.underlying37 (by kernel_rfl)) rfl ⟨⟨_, rfl, _, _, _, _, rfl, ⟨_, _, rfl, OwnV.nil _ _ _, OwnV.nil _ _ _, fun k hk => by cases hk⟩, ⟨_, _, rfl, OwnV.nil _ _ _, OwnV.nil _ _ _, fun k hk => by cases hk⟩, fun k hk => by rcases hk with hk | hk <;> cases hk⟩, unhide T9⟩
    | true =>
      have hHH := unhide E2 (by rw [hk])
      have hk1 : k1 = true := by revert hk; cases k1 <;> simp
      have hk2 : k2 = true := by revert hk; cases k2 <;> simp
      subst hk1 hk2
      obtain ⟨W3, hW3, hA7, hB3, hs3⟩ := one_cb w3 #[.int .i64 S2.leaf, .slice b3 n3 e3, .slice b4 n4 e4] 26
      have T4 := T3.trans (hB3.mono T3.size)
      have hA8 := hA6.step hB3
      have g57 : g5 ≠ w3.heap.size := by omega
      have gw7 : w.heap.size ≠ w3.heap.size := by omega
      have hlo7 : w.heap.size ≤ W3.heap.size := T4.size
      have hs34 : w3.heap.size ≤ W3.heap.size := Nat.le_of_lt hs3
      replace hs3 := hide hs3
      have KS := hide (fun (W' : World) (h : Below W3.heap.size W3 W') => (show CB W' g5 26 #[.int .i64 S1.leaf, .slice b1 n1 e1, .slice b2 n2 e2] ∧ CB W' w3.heap.size 26 #[.int .i64 S2.leaf, .slice b3 n3 e3, .slice b4 n4 e4] from ⟨hA8.step h, hA7.step h⟩))
      have HR := hide (fun (W' : World) (h : Below W3.heap.size W3 W') => (hR3.step hB3).step h)
      have o5 := hide ((unhide o4).below hB3)
      have o6 := hide ((unhide o3).below hB3)
      have CC := hide (fun W => stringsClone14_any (t.extract 49 53) W (by rw [ByteArray.size_extract]; omega))
      have hcut : ∀ W : World, (Instr.slice 9 (.string t) (some (.int .i64 49)) (some (.int .i64 53)) none).run Try.prog W = .ok (.string (t.extract 49 53)) W := fun W => cutI16 t 49 53 W (by omega) (by omega)
      generalize t.extract 49 53 = rt at *
      subst hHH
      have HT0 := (Below.refl W3.heap.size W3).drew
      replace hW3 := hide hW3
      clear hB3 T3 hR3 hA6 hA7 hA8 E2 E3 o3 o4 hk g57
      go_wp2_with (rw [unhide hW3])
      refine wp_region_held_drew (S := fun W => CB W g5 26 #[.int .i64 S1.leaf, .slice b1 n1 e1, .slice b2 n2 e2] ∧ CB W w3.heap.size 26 #[.int .i64 S2.leaf, .slice b3 n3 e3, .slice b4 n4 e4]) (by kernel_rfl) (unhide KS _ HT0) (fun hHeld => ?_)
      refine wpAnyH_take (i := 0) (v := .agg #[.int .i64 S1.leaf, .slice b1 n1 e1, .slice b2 n2 e2]) rfl (by kernel_rfl) (by kernel_rfl) (by kernel_rfl) (fun _ _ _ h => h) (Or.inl ⟨by kernel_rfl, fun W hS => by obtain ⟨s4, s10⟩ := hS; have p0 := s4.cell 0 (v := (.int .i64 S1.leaf)) rfl; have p1 := s4.cell 1 (v := (.slice b1 n1 e1)) rfl; have p2 := s4.cell 2 (v := (.slice b2 n2 e2)) rfl; go_simp⟩) hHeld ?_
      refine wpAnyH_take (i := 1) (v := .string t) rfl (by kernel_rfl) (by kernel_rfl) (by kernel_rfl) (fun _ _ _ h => h) (Or.inl ⟨by kernel_rfl, fun W hS => by obtain ⟨s4, s10⟩ := hS; go_simp⟩) hHeld ?_
      refine wpAnyH_take (i := 2) (v := .string rt) rfl (by kernel_rfl) (by kernel_rfl) (by kernel_rfl) (fun _ _ _ h => h) (Or.inl ⟨by kernel_rfl, fun W hS => by obtain ⟨s4, s10⟩ := hS; go_simp⟩) hHeld ?_
      refine wpAnyH_take (i := 4) (v := .agg #[.int .i64 S2.leaf, .slice b3 n3 e3, .slice b4 n4 e4]) rfl (by kernel_rfl) (by kernel_rfl) (by kernel_rfl) (fun _ _ _ h => h) (Or.inl ⟨by kernel_rfl, fun W hS => by obtain ⟨s4, s10⟩ := hS; have p0 := s10.cell 0 (v := (.int .i64 S2.leaf)) rfl; have p1 := s10.cell 1 (v := (.slice b3 n3 e3)) rfl; have p2 := s10.cell 2 (v := (.slice b4 n4 e4)) rfl; go_simp⟩) hHeld ?_
      refine wpAnyH_ready (rs := [3]) (by kernel_rfl) (by simp) ?_
      refine AllReadyH.cons rfl (fun K hK => ?_) AllReadyH.nil
      go_simp
      refine (unhide CC _).mono ?_
      rintro e w5 ⟨rfl, hb5⟩
      have hT1 := HT0.trans (hb5.mono HT0.size)
      have hR4 := unhide HR _ hT1
      refine hK.out _ _ (unhide KS _ hT1) (fun hHeld => ?_)
      clear hK K CC
      refine wpAnyH_take (i := 5) (v := .agg #[.int .i64 S1.leaf, .slice b1 n1 e1, .slice b2 n2 e2, .string rt, .int .i64 S2.leaf, .slice b3 n3 e3, .slice b4 n4 e4]) rfl (by kernel_rfl) (by kernel_rfl) (by kernel_rfl) (fun _ _ _ h => h) (Or.inl ⟨by kernel_rfl, fun W hS => by obtain ⟨s4, s10⟩ := hS; go_simp⟩) hHeld ?_
      have r0 := hR4.cell 0 (v := (.int .i64 0)) rfl
      have r1 := hR4.cell 1 (v := (.slice none 0 0)) rfl
      have r2 := hR4.cell 2 (v := (.slice none 0 0)) rfl
      have r3 := hR4.cell 3 (v := (.string ⟨#[]⟩)) rfl
      have r4 := hR4.cell 4 (v := (.int .i64 0)) rfl
      have r5 := hR4.cell 5 (v := (.slice none 0 0)) rfl
      have r6 := hR4.cell 6 (v := (.slice none 0 0)) rfl
      have z0 := hR4.frozen 0
      have z1 := hR4.frozen 1
      have z2 := hR4.frozen 2
      have z3 := hR4.frozen 3
      have z4 := hR4.frozen 4
      have z5 := hR4.frozen 5
      have z6 := hR4.frozen 6
      have G9 := gSet (gSet (gSet (gSet (gSet (gSet (gSet (gR9 w5 (some w.heap.size)) 0 (.int .i64 S1.leaf)) 1 (.slice b1 n1 e1)) 2 (.slice b2 n2 e2)) 3 (.string rt)) 4 (.int .i64 S2.leaf)) 5 (.slice b3 n3 e3)) 6 (.slice b4 n4 e4)
      refine wpAnyH_ready (rs := [6]) (by kernel_rfl) (by simp) ?_
      refine AllReadyH.cons rfl (fun K hK => ?_) AllReadyH.nil
      go_simp
      refine hK.out _ _ ⟨(unhide KS _ hT1).1.grown G9 (fun e => g25 (Option.some.inj e)), (unhide KS _ hT1).2.grown G9 (fun e => gw7 (Option.some.inj e))⟩ (fun hHeld => ?_)
      clear hK K r0 r1 r2 r3 r4 r5 r6 z0 z1 z2 z3 z4 z5 z6
      refine wpAnyH_take (i := 7) (v := .bool true) rfl (by kernel_rfl) (by kernel_rfl) (by kernel_rfl) (fun _ _ _ h => h) (Or.inl ⟨by kernel_rfl, fun W hS => by obtain ⟨s4, s10⟩ := hS; go_simp⟩) hHeld ?_
      refine wpAnyH_done (by kernel_rfl) ?_ _
      simp only [Act.put, List.getElem_toArray, List.getElem_cons_zero, List.getElem_cons_succ, List.setIfInBounds_toArray, List.set_cons_zero, List.set_cons_succ]
      have hF := hide ((((((((hR4).set 0 (.int .i64 S1.leaf)).set 1 (.slice b1 n1 e1)).set 2 (.slice b2 n2 e2)).set 3 (.string rt)).set 4 (.int .i64 S2.leaf)).set 5 (.slice b3 n3 e3)).set 6 (.slice b4 n4 e4))
      have T5 := T4.trans (hT1.mono hlo7)
      have T9 := hide (T5.grown G9 T5.size (fun k hk => by cases hk; exact Nat.le_refl _))
      have p5 := hide ((unhide o5).below hT1)
      have p6 := hide ((unhide o6).below hT1)
      have of5 := hide (OwnSg.offs (lf := S1.leaf) (unhide p5) hR4 (by decide))
      have of6 := hide (OwnSg.offs (lf := S2.leaf) (unhide p6) hR4 (by decide))
      have o7 := hide (OwnSg.grownO (lf := S1.leaf) (unhide p5) G9 (unhide of5).1 (unhide of5).2)
      have o8 := hide (OwnSg.grownO (lf := S2.leaf) (unhide p6) G9 (unhide of6).1 (unhide of6).2)
      clear KS HR HT0 hT1 hb5 hR4 G9 T5 p5 p6 of5 of6 hcut hHeld
      go_wp2
      exact bodyPost_ret (results_cb_tmp (by exact Try.results18) _ _ _ _ _ _ rfl (unhide hF) Try.underlying37 (by kernel_rfl)) rfl ⟨⟨_, rfl, _, _, _, _, rfl, ((unhide o7).low (by omega)), ((unhide o8).low (by omega)), unhide ap⟩, (unhide T9)⟩
  · have hno : hrdOk t = false := by unfold hrdOk; rw [decide_eq_false h102]; rfl
    have ER := hide (show hrdS t = ⟨noSg, ⟨#[]⟩, noSg⟩ by unfold hrdS; rw [hno]; rfl)
    rw [unhide ER, hno]
    have h102' : ¬ (t.size : Int) = 102 := by omega
    clear ER hno h102
    go_enter Try.func18, Try.ntmps18
    go_wp2
    obtain ⟨W, hW, hR, hB, hs1⟩ := one_cb w #[.int .i64 0, .slice none 0 0, .slice none 0 0, .string ⟨#[]⟩, .int .i64 0, .slice none 0 0, .slice none 0 0] 37
    rw [hW]
    exact bodyPost_ret (results_cb_tmp (by exact Try.results18) _ _ _ _ _ _ rfl hR Try.underlying37 (by kernel_rfl)) rfl ⟨⟨_, rfl, _, _, _, _, rfl, ⟨_, _, rfl, OwnV.nil _ _ _, OwnV.nil _ _ _, fun k hk => by cases hk⟩, ⟨_, _, rfl, OwnV.nil _ _ _, OwnV.nil _ _ _, fun k hk => by cases hk⟩, fun k hk => by rcases hk with hk | hk <;> cases hk⟩, hB⟩
end Go.Proofs.Ytjgnjjphankhnaa

/- Keys of a tree by the given model: leaves, public texts, signatures, over the loaded program. -/
namespace Go.Proofs.Ytjgnjjphankhnaa
open Go.RowKit
set_option maxRecDepth 20000 in
set_option maxHeartbeats 800000 in
theorem specLeaves_any (s : ByteArray) (hs : s.size ≤ 2000000) (w : World) :
    Calls Try.prog 50 #[.string s] w fun e w' => (∃ v, e = .returned v ∧ OwnV w' w.heap.size 9 v ((lvsO s).map sv)) ∧ Below w.heap.size w w' := by
  obtain ⟨i0, hi, hz0, hz1, hz2⟩ := info_parts infoTxt
  have C1 := hide (fun (i : Nat) W => specOnceKeyL_any s (i : Int) hs W)
  have C2 := hide (fun (i : Nat) W v hr => specOncePublic_any (keysO s (i : Int)) (i : Int) v W hr (fun x hx => by rw [keysO_size s _ x hx]; omega))
  have HK := hide (show ∀ i : Nat, onceP (keysO s (i : Int)) (i : Int) = lefO s i from fun i => rfl)
  have EK := hide (show lvsO s = preS (lefO s) 4 from rfl)
  rw [unhide EK]
  generalize lefO s = F at *
  clear EK
  go_enter Try.func50, Try.ntmps50
  have ho0 : OwnV (w.alloc (.cells #[] 9)) w.heap.size 9 (.slice (some ⟨w.heap.size, 0, none⟩) 0 0) ((preS F 0).map sv) := World.ownsRow_made w #[] 0 (Nat.le_refl _) (by decide) (by simp)
  replace ho0 := hide ho0
  have hb0 := (Below.refl w.heap.size w).alloc (Nat.le_refl _) (.cells #[] 9)
  go_wp2
  go_loopw [3, 4] (fun tv ti wr => ∃ k : Nat, k ≤ 4 ∧ ti = .int .i64 (k : Int) ∧ Hid (OwnV wr w.heap.size 9 tv ((preS F k).map sv)) ∧ Below w.heap.size w wr) (fun _ ti _ => 4 - (intOf ti).toNat)
  case atStart => exact ⟨0, by omega, rfl, ho0, hb0⟩
  case round =>
    clear ho0 hb0
    obtain ⟨k, hk, rfl, HO, hB⟩ := hrel
    by_cases hlt : k < 4
    · have hk' : (k : Int) < 4 := by omega
      have c1 := hide (unhide C1 k)
      have c2 := hide (unhide C2 k)
      rw [unhide HK k] at c2
      have HP := hide (preS_succ F k)
      have hpl : ((preS F k).map sv).length ≤ 1000 := by rw [List.length_map, preS_len]; omega
      generalize F k = fk at *
      replace hpl := hide hpl
      clear C1 C2
      go_wp2_with fail
      refine (unhide c1 wr).mono ?_
      rintro e w1 ⟨⟨v1, rfl, o1⟩, hb1⟩
      have hB1 := hB.trans (hb1.mono hB.size)
      have HO1 := hide ((unhide HO).below hb1)
      replace c2 := hide (unhide c2 w1 v1 o1.rdv)
      clear hb1 hB c1 HO o1
      go_wp2_with fail
      refine (unhide c2).mono ?_
      rintro e w3 ⟨rfl, hb3⟩
      have hB3 := hB1.trans (hb3.mono hB1.size)
      have HO3 := hide ((unhide HO1).below hb3)
      have hsz3 := hB3.size
      clear hb3 hB1 c2 HO1
      go_wp2_with (at_builtin; refine wpList_append_val (w := w3) rfl (.tmp 10) (.tmp 16) 24 rfl w.heap.size 9 i0 (.string ⟨#[]⟩) 16 Try.underlying24 hi hz0 hz1 hz2 rfl u3 _ (by rfl) (unhide HO3) (.string fk) rfl (by rfl) (unhide hpl) (by decide) hB3 (Nat.le_refl _) hsz3 ?_; intro v' w8 ho8 hB8)
      have ho9 := hide (show OwnV w8 w.heap.size 9 v' ((preS F (k + 1)).map sv) by rw [unhide HP, List.map_append]; exact ho8)
      clear ho8 HO3 HP
      go_wp2
      exact ⟨⟨k + 1, by omega, by go_num, ho9, hB8⟩, by simp [intOf]; omega⟩
    · have hk' : ¬ (k : Int) < 4 := by omega
      obtain rfl : k = 4 := by omega
      go_wp2
      go_ret
      exact ⟨⟨_, rfl, unhide HO⟩, hB⟩
set_option maxRecDepth 20000 in
set_option maxHeartbeats 800000 in
theorem specPublicOf_any (s : ByteArray) (hs : s.size ≤ 2000000) (w : World) :
    Calls Try.prog 24 #[.string s] w fun e w' => e = .returned (.string (pubO s)) ∧ Below w.heap.size w w' := by
  have C1 := hide (fun W => specLeaves_any s hs W)
  have C2 := hide (fun W v hr => specRootOf_any (lvsO s) v W hr (fun x hx => by rw [lvsO_size s x hx]; omega))
  have HK := hide (show rootB (lvsO s) = pubO s from rfl)
  rw [unhide HK] at C2
  generalize pubO s = p at *
  go_enter Try.func24, Try.ntmps24
  go_wp2_with fail
  refine (unhide C1 w).mono ?_
  rintro e w1 ⟨⟨v1, rfl, o1⟩, hb1⟩
  replace C2 := hide (unhide C2 w1 v1 o1.rdv)
  clear C1 o1
  go_wp2_with fail
  refine (unhide C2).mono ?_
  rintro e w2 ⟨rfl, hb2⟩
  have hB2 := hb1.trans (hb2.mono hb1.size)
  clear C2 hb1 hb2
  go_wp2
  go_ret
  exact ⟨rfl, hB2⟩
set_option maxRecDepth 20000 in
set_option maxHeartbeats 800000 in
theorem specSignAt_any (s : ByteArray) (leaf : Int) (m : ByteArray) (hs : s.size ≤ 2000000) (hm : m.size ≤ 1048576) (w : World) :
    Calls Try.prog 26 #[.string s, .int .i64 leaf, .string m] w fun e w' => (∃ v, e = .returned (.tuple #[v, .bool (decide (0 ≤ leaf ∧ leaf ≤ 3))]) ∧ OwnSg w' w.heap.size v (sgnS s leaf m)) ∧ Below w.heap.size w w' := by
  have C0 := hide (fun W => inb9 leaf 0 3 W)
  by_cases h : 0 ≤ leaf ∧ leaf ≤ 3
  · have C1 := hide (fun W => specOnceKeyL_any s leaf hs W)
    have C2 := hide (fun W v hr => specOnceSign_any (keysO s leaf) leaf m v W hr (fun x hx => by rw [keysO_size s _ x hx]; omega) hm)
    have C3 := hide (fun W => specLeaves_any s hs W)
    have C4 := hide (fun W v hr => specPathOf_any (lvsO s) leaf v W hr (fun x hx => by rw [lvsO_size s x hx]; omega))
    have ES := hide (show sgnS s leaf m = ⟨leaf, onceS (keysO s leaf) leaf m, pathL (lvsO s) leaf⟩ by unfold sgnS; rw [if_pos h])
    rw [unhide ES, decide_eq_true h]
    generalize onceS (keysO s leaf) leaf m = L1 at *
    generalize pathL (lvsO s) leaf = L2 at *
    generalize (keysO s leaf).map sv = K1 at *
    generalize (lvsO s).map sv = K2 at *
    have hd1 := decide_eq_true h.1
    have hd2 := decide_eq_true h.2
    rw [decide_eq_true h] at C0
    clear ES h
    go_enter Try.func26, Try.ntmps26
    go_wp2_with fail
    obtain ⟨W, hW, hR, hB, hs1⟩ := one_cb w #[.int .i64 0, .slice none 0 0, .slice none 0 0] 26
    rw [hW]
    clear hW
    refine (unhide C0 W).mono ?_
    rintro e w1 ⟨rfl, hw1⟩
    have hw2 := hw1.symm
    subst hw2
    clear hw1 C0
    go_wp2_with fail
    refine (unhide C1 W).mono ?_
    rintro e w1 ⟨⟨v1, rfl, o1⟩, hb1⟩
    have hB1 := hB.trans (hb1.mono hB.size)
    have hR1 := hR.step hb1
    replace C2 := hide (unhide C2 w1 v1 o1.rdv)
    clear C1 o1 hb1 hB hR
    go_wp2_with fail
    refine (unhide C2).mono ?_
    rintro e w2 ⟨⟨v2, rfl, o2⟩, hb2⟩
    have hB2 := hB1.trans (hb2.mono hB1.size)
    have hR2 := hR1.step hb2
    have o2' := hide (o2.low hB1.size)
    clear C2 o2 hb2 hB1 hR1
    go_wp2_with fail
    refine (unhide C3 w2).mono ?_
    rintro e w3 ⟨⟨v3, rfl, o3⟩, hb3⟩
    have hB3 := hB2.trans (hb3.mono hB2.size)
    have hR3 := hR2.step hb3
    have o2'' := hide ((unhide o2').below hb3)
    replace C4 := hide (unhide C4 w3 v3 o3.rdv)
    clear C3 o3 hb3 hB2 hR2 o2'
    go_wp2_with fail
    refine (unhide C4).mono ?_
    rintro e w4 ⟨⟨v4, rfl, o4⟩, hb4⟩
    have hB4 := hB3.trans (hb4.mono hB3.size)
    have hR4 := hR3.step hb4
    have o5 := hide ((unhide o2'').below hb4)
    have ap := hide (show ∀ k, v2.ownBlock = some k → v4.ownBlock ≠ some k from fun k hk hk2 => by
      have h1 := ((unhide o2'').lt k hk).2
      have h2 := (o4.lt k hk2).1
      omega)
    have o4' := hide (o4.low hB3.size)
    have of5 := hide (hR4.off (unhide o5) (by decide))
    have of4 := hide (hR4.off o4 (by decide))
    have s2 := (unhide o5).shape
    have s4 := o4.shape
    clear C4 o4 hb4 hB3 hR3 o2''
    obtain ⟨a2, c2, rfl⟩ := s2
    obtain ⟨a4, c4, rfl⟩ := s4
    have r0 := hR4.cell 0 (v := .int .i64 0) rfl
    have r1 := hR4.cell 1 (v := .slice none 0 0) rfl
    have r2 := hR4.cell 2 (v := .slice none 0 0) rfl
    have g0 := hR4.frozen 0
    have g1 := hR4.frozen 1
    have g2 := hR4.frozen 2
    generalize hn2 : (L1.map sv).length = n2 at *
    generalize hn4 : (L2.map sv).length = n4 at *
    go_wp2
    have hF := hide (((hR4.set 0 (.int .i64 leaf)).set 1 (.slice a2 n2 c2)).set 2 (.slice a4 n4 c4))
    have hBF := hide (((hB4.setCell (p := ⟨w.heap.size, 0, none⟩) (Nat.le_refl _) (.int .i64 leaf)).setCell (p := ⟨w.heap.size, 1, none⟩) (Nat.le_refl _) (.slice a2 n2 c2)).setCell (p := ⟨w.heap.size, 2, none⟩) (Nat.le_refl _) (.slice a4 n4 c4))
    have o6 := hide ((((unhide o5).setO w.heap.size 0 (.int .i64 leaf) (unhide of5)).setO w.heap.size 1 (.slice a2 n2 c2) (unhide of5)).setO w.heap.size 2 (.slice a4 n4 c4) (unhide of5))
    have o7 := hide ((((unhide o4').setO w.heap.size 0 (.int .i64 leaf) (unhide of4)).setO w.heap.size 1 (.slice a2 n2 c2) (unhide of4)).setO w.heap.size 2 (.slice a4 n4 c4) (unhide of4))
    exact bodyPost_ret (results_cb_tmp (by exact Try.results26) _ _ _ _ _ _ rfl (unhide hF) Try.underlying26 (by kernel_rfl)) rfl ⟨⟨_, rfl, _, _, rfl, unhide o6, unhide o7, unhide ap⟩, unhide hBF⟩
  · have ES := hide (show sgnS s leaf m = ⟨0, [], []⟩ by unfold sgnS; rw [if_neg h])
    rw [unhide ES, decide_eq_false h]
    rw [decide_eq_false h] at C0
    clear ES h
    go_enter Try.func26, Try.ntmps26
    go_wp2_with fail
    obtain ⟨W, hW, hR, hB, hs1⟩ := one_cb w #[.int .i64 0, .slice none 0 0, .slice none 0 0] 26
    rw [hW]
    clear hW
    refine (unhide C0 W).mono ?_
    rintro e w1 ⟨rfl, hw1⟩
    have hw2 := hw1.symm
    subst hw2
    clear hw1 C0
    have r0 := hR.cell 0 (v := .int .i64 0) rfl
    have r1 := hR.cell 1 (v := .slice none 0 0) rfl
    have r2 := hR.cell 2 (v := .slice none 0 0) rfl
    have g0 := hR.frozen 0
    have g1 := hR.frozen 1
    have g2 := hR.frozen 2
    go_wp2
    have hF := hide (((hR.set 0 (.int .i64 0)).set 1 (.slice none 0 0)).set 2 (.slice none 0 0))
    have hBF := hide (((hB.setCell (p := ⟨w.heap.size, 0, none⟩) (Nat.le_refl _) (.int .i64 0)).setCell (p := ⟨w.heap.size, 1, none⟩) (Nat.le_refl _) (.slice none 0 0)).setCell (p := ⟨w.heap.size, 2, none⟩) (Nat.le_refl _) (.slice none 0 0))
    exact bodyPost_ret (results_cb_tmp (by exact Try.results26) _ _ _ _ _ _ rfl (unhide hF) Try.underlying26 (by kernel_rfl)) rfl ⟨⟨_, rfl, _, _, rfl, OwnV.nil _ _ _, OwnV.nil _ _ _, fun k hk => by cases hk⟩, unhide hBF⟩
end Go.Proofs.Ytjgnjjphankhnaa

/- Keys of a tree by the given model: whether a signature is right, over the loaded program. -/
namespace Go.Proofs.Ytjgnjjphankhnaa
open Go.RowKit
set_option maxRecDepth 20000 in
set_option maxHeartbeats 800000 in
theorem specSigOk_any (s : Sg) (v : Value) (w : World) (hr : RdSg w v s) (n1 : s.once.length ≤ 2000000) (n2 : s.path.length ≤ 2000000) :
    Calls Try.prog 12 #[v] w fun e w' => e = .returned (.bool (sgOk s)) ∧ Below w.heap.size w w' := by
  obtain ⟨lf, l1, l2⟩ := s
  obtain ⟨v1, v2, rfl, r1, r2, -⟩ := hr
  have C0 := hide (fun W => inb9 lf 0 3 W)
  obtain ⟨a1, c1, rfl, hc1⟩ := r1.open
  obtain ⟨a2, c2, rfl, hc2⟩ := r2.open
  clear r1 r2
  replace hc1 : ∀ k, k < l1.length → ∃ g o, a1 = some ⟨g, o, none⟩ ∧ g < w.heap.size ∧ w.cell? ⟨g, o + k, none⟩ = some (.string (bAt l1 k)) := fun k hk => hc1 k _ (bAt_get l1 k hk)
  replace hc2 : ∀ k, k < l2.length → ∃ g o, a2 = some ⟨g, o, none⟩ ∧ g < w.heap.size ∧ w.cell? ⟨g, o + k, none⟩ = some (.string (bAt l2 k)) := fun k hk => hc2 k _ (bAt_get l2 k hk)
  unfold sgv
  show Calls _ _ #[.agg #[.int .i64 lf, .slice a1 (l1.map sv).length c1, .slice a2 (l2.map sv).length c2]] _ _
  rw [List.length_map, List.length_map]
  by_cases h : 0 ≤ lf ∧ lf ≤ 3
  · rw [decide_eq_true h] at C0
    by_cases h1 : l1.length = 10
    · by_cases h2 : l2.length = 2
      · have E1 := hide (fun (h3 : ∀ k, k < 10 → (bAt l1 k).size = 4) (h4 : ∀ k, k < 2 → (bAt l2 k).size = 4) => show sgOk ⟨lf, l1, l2⟩ = true from sgOk_of ⟨h, h1, h2⟩ (four_bAt (l := l1) fun k hk => h3 k (by omega)) (four_bAt (l := l2) fun k hk => h4 k (by omega)))
        have E2 := hide (fun k (hk : k < 10) (hx : ¬ (bAt l1 k).size = 4) => show sgOk ⟨lf, l1, l2⟩ = false from sgOk_no2 (four_no (l := l1) k (by omega) hx))
        have E3 := hide (fun k (hk : k < 2) (hx : ¬ (bAt l2 k).size = 4) => show sgOk ⟨lf, l1, l2⟩ = false from sgOk_no3 (four_no (l := l2) k (by omega) hx))
        rw [h1] at hc1 ⊢
        rw [h2] at hc2 ⊢
        generalize sgOk ⟨lf, l1, l2⟩ = R at *
        generalize bAt l1 = F1 at *
        generalize bAt l2 = F2 at *
        clear h h1 h2 n1 n2
        go_enter Try.func12, Try.ntmps12
        go_wp2_with fail
        obtain ⟨W, hW, hP, hB, hs1⟩ := one_cb w #[.int .i64 lf, .slice a1 10 c1, .slice a2 2 c2] 26
        rw [hW]
        clear hW
        refine (unhide C0 W).mono ?_
        rintro e w1 ⟨rfl, hw1⟩
        have hw2 := hw1.symm
        subst hw2
        clear hw1 C0
        have p1 := hP.cell 1 (v := .slice a1 10 c1) rfl
        have p2 := hP.cell 2 (v := .slice a2 2 c2) rfl
        replace hP := hide hP
        go_wp2
        go_loopw [3] (fun ti wr => ∃ k : Nat, k ≤ 10 ∧ ti = .int .i64 (k : Int) ∧ Hid (∀ j, j < k → (F1 j).size = 4) ∧ wr = W) (fun ti _ => 10 - (intOf ti).toNat)
        case atStart => exact ⟨0, by omega, rfl, hide (fun j hj => absurd hj (by omega)), rfl⟩
        case round =>
          obtain ⟨k, hk, rfl, HK, hw⟩ := hrel
          have hw' := hw.symm
          subst hw'
          clear hw
          by_cases hlt : k < 10
          · have hk' : (k : Int) < 10 := by omega
            obtain ⟨g, o, rfl, hg, d1⟩ := hc1 k hlt
            replace d1 := (hB.cell (p := ⟨g, o + k, none⟩) hg).trans d1
            by_cases hx : (F1 k).size = 4
            · have HK2 := hide (show ∀ j, j < k + 1 → (F1 j).size = 4 from fun j hj => by
                by_cases e : j = k
                · rw [e]; exact hx
                · exact unhide HK j (by omega))
              generalize F1 k = told at d1 hx
              clear hc1 hc2 HK
              go_wp2
              exact ⟨⟨k + 1, by omega, by go_num, HK2, by first | rfl | trivial⟩, by simp [intOf]; omega⟩
            · have E := hide (unhide E2 k hlt hx)
              have hx' : ¬ ((F1 k).size : Int) = 4 := by omega
              generalize F1 k = told at d1 hx'
              clear hc1 hc2 HK E1 E2 E3 hx
              go_wp2
              go_ret
              exact ⟨by rw [unhide E]; rfl, hB⟩
          · have hk' : ¬ (k : Int) < 10 := by omega
            have HK2 := hide (show ∀ j, j < 10 → (F1 j).size = 4 from fun j hj => unhide HK j (by omega))
            clear hc1 HK
            go_wp2
            go_loopw [4] (fun ti wr => ∃ k : Nat, k ≤ 2 ∧ ti = .int .i64 (k : Int) ∧ Hid (∀ j, j < k → (F2 j).size = 4) ∧ wr = W) (fun ti _ => 2 - (intOf ti).toNat)
            case atStart => exact ⟨0, by omega, rfl, hide (fun j hj => absurd hj (by omega)), rfl⟩
            case round =>
              obtain ⟨k, hk, rfl, HK, hw⟩ := hrel
              have hw' := hw.symm
              subst hw'
              clear hw
              by_cases hlt2 : k < 2
              · have hk2 : (k : Int) < 2 := by omega
                obtain ⟨g, o, rfl, hg, d1⟩ := hc2 k hlt2
                replace d1 := (hB.cell (p := ⟨g, o + k, none⟩) hg).trans d1
                by_cases hx : (F2 k).size = 4
                · have HK3 := hide (show ∀ j, j < k + 1 → (F2 j).size = 4 from fun j hj => by
                    by_cases e : j = k
                    · rw [e]; exact hx
                    · exact unhide HK j (by omega))
                  generalize F2 k = told at d1 hx
                  clear hc2 HK
                  go_wp2
                  exact ⟨⟨k + 1, by omega, by go_num, HK3, by first | rfl | trivial⟩, by simp [intOf]; omega⟩
                · have E := hide (unhide E3 k hlt2 hx)
                  have hx' : ¬ ((F2 k).size : Int) = 4 := by omega
                  generalize F2 k = told at d1 hx'
                  clear hc2 HK E1 E2 E3 hx
                  go_wp2
                  go_ret
                  exact ⟨by rw [unhide E]; rfl, hB⟩
              · have hk2 : ¬ (k : Int) < 2 := by omega
                have E := hide (unhide E1 (unhide HK2) (fun j hj => unhide HK j (by omega)))
                clear hc2 HK HK2 E1 E2 E3
                go_wp2
                go_ret
                exact ⟨by rw [unhide E]; rfl, hB⟩
      · have E := hide (show sgOk ⟨lf, l1, l2⟩ = false from sgOk_no1 fun x => h2 x.2.2)
        rw [unhide E, h1]
        have h2' : ¬ (l2.length : Int) = 2 := by omega
        generalize l2.length = m2 at *
        clear E h hc1 hc2 h2
        go_enter Try.func12, Try.ntmps12
        go_wp2_with fail
        obtain ⟨W, hW, hP, hB, hs1⟩ := one_cb w #[.int .i64 lf, .slice a1 10 c1, .slice a2 m2 c2] 26
        rw [hW]
        clear hW
        refine (unhide C0 W).mono ?_
        rintro e w1 ⟨rfl, hw1⟩
        have hw2 := hw1.symm
        subst hw2
        clear hw1 C0
        have p1 := hP.cell 1 (v := .slice a1 10 c1) rfl
        have p2 := hP.cell 2 (v := .slice a2 m2 c2) rfl
        go_wp2
        go_ret
        exact ⟨rfl, hB⟩
    · have E := hide (show sgOk ⟨lf, l1, l2⟩ = false from sgOk_no1 fun x => h1 x.2.1)
      rw [unhide E]
      have h1' : ¬ (l1.length : Int) = 10 := by omega
      generalize l1.length = m1 at *
      generalize l2.length = m2 at *
      clear E h hc1 hc2 h1
      go_enter Try.func12, Try.ntmps12
      go_wp2_with fail
      obtain ⟨W, hW, hP, hB, hs1⟩ := one_cb w #[.int .i64 lf, .slice a1 m1 c1, .slice a2 m2 c2] 26
      rw [hW]
      clear hW
      refine (unhide C0 W).mono ?_
      rintro e w1 ⟨rfl, hw1⟩
      have hw2 := hw1.symm
      subst hw2
      clear hw1 C0
      have p1 := hP.cell 1 (v := .slice a1 m1 c1) rfl
      go_wp2
      go_ret
      exact ⟨rfl, hB⟩
  · have E := hide (show sgOk ⟨lf, l1, l2⟩ = false from sgOk_no1 fun x => h x.1)
    rw [unhide E]
    rw [decide_eq_false h] at C0
    generalize l1.length = m1 at *
    generalize l2.length = m2 at *
    clear E h hc1 hc2
    go_enter Try.func12, Try.ntmps12
    go_wp2_with fail
    obtain ⟨W, hW, hP, hB, hs1⟩ := one_cb w #[.int .i64 lf, .slice a1 m1 c1, .slice a2 m2 c2] 26
    rw [hW]
    clear hW
    refine (unhide C0 W).mono ?_
    rintro e w1 ⟨rfl, hw1⟩
    have hw2 := hw1.symm
    subst hw2
    clear hw1 C0
    go_wp2
    go_ret
    exact ⟨rfl, hB⟩
theorem same_txt (a b : ByteArray) : (a.toList == b.toList) = decide (a = b) := by
  have e : ∀ x : ByteArray, x.toList = x.data.toList := fun x => ByteArray.toList_eq x
  by_cases h : a = b
  · subst h
    rw [decide_eq_true rfl]
    exact beq_self_eq_true _
  · rw [decide_eq_false h]
    apply beq_false_of_ne
    rw [e, e]
    exact fun h2 => h (ByteArray.ext (Array.toList_inj.1 h2))
theorem sumS_four (l : List ByteArray) (h : ∀ x ∈ l, x.size = 4) : sumS l = 4 * l.length := by
  induction l with
  | nil => rfl
  | cons x xs ih =>
    show x.size + sumS xs = 4 * (xs.length + 1)
    rw [h x (by simp), ih fun y hy => h y (by simp [hy])]
    omega
theorem onceF_size (l : List ByteArray) (leaf : Int) (m : ByteArray) : (onceF l leaf m).size ≤ 4 := by
  unfold onceF
  split
  · rw [chopB_size]; omega
  · show 0 ≤ 4; omega
set_option maxRecDepth 20000 in
set_option maxHeartbeats 800000 in
theorem specCheckSig_any (p m : ByteArray) (s : Sg) (v : Value) (w : World) (hr : RdSg w v s) (n1 : s.once.length ≤ 2000000) (n2 : s.path.length ≤ 2000000) (hm : m.size ≤ 1048576) :
    Calls Try.prog 10 #[.string p, .string m, v] w fun e w' => e = .returned (.bool (chkB p m s)) ∧ Below w.heap.size w w' := by
  have C0 := hide (fun (W : World) (h : Below w.heap.size w W) => specSigOk_any s v W (hr.below h) n1 n2)
  obtain ⟨lf, l1, l2⟩ := s
  obtain ⟨v1, v2, rfl, r1, r2, -⟩ := hr
  cases ho : sgOk ⟨lf, l1, l2⟩ with
  | true =>
    rw [ho] at C0
    have f1 := sgOk_once ho
    have f2 := sgOk_path ho
    obtain ⟨_, k1, k2⟩ := sgOk_shape ho
    have C1 := hide (fun (W : World) (h : Below w.heap.size w W) => specOnceFound_any l1 lf m v1 W (r1.below h) (by rw [sumS_four l1 (four_yes f1)]; have : l1.length = 10 := k1; omega) hm)
    have C2 := hide (fun (W : World) (h : Below w.heap.size w W) => specRootBy_any (onceF l1 lf m) lf l2 v2 W (by have := onceF_size l1 lf m; omega) (r2.below h) (fun x hx => by rw [four_yes f2 x hx]; omega))
    have EC := hide (show chkB p m ⟨lf, l1, l2⟩ = decide (rootBy (onceF l1 lf m) lf l2 = p) by unfold chkB fndB; rw [ho]; rfl)
    rw [unhide EC]
    obtain ⟨a1, c1, rfl⟩ := r1.shape
    obtain ⟨a2, c2, rfl⟩ := r2.shape
    unfold sgv at C0 ⊢
    generalize onceF l1 lf m = fo at *
    generalize rootBy fo lf l2 = ro at *
    clear r1 r2 n1 n2 k1 k2 f1 f2 ho EC
    show Calls _ _ #[_, _, .agg #[.int .i64 lf, .slice a1 (l1.map sv).length c1, .slice a2 (l2.map sv).length c2]] _ _
    generalize ((Sg.mk lf l1 l2).once.map sv).length = k1 at *
    generalize ((Sg.mk lf l1 l2).path.map sv).length = k2 at *
    go_enter Try.func10, Try.ntmps10
    go_wp2_with fail
    obtain ⟨W, hW, hP, hB, hs1⟩ := one_cb w #[.int .i64 lf, .slice a1 k1 c1, .slice a2 k2 c2] 26
    rw [hW]
    clear hW
    have KS := hide (fun (W' : World) (h : Below W.heap.size W W') => (show W'.cell? ⟨w.heap.size, 0, none⟩ = some (.int .i64 lf) ∧ W'.cell? ⟨w.heap.size, 1, none⟩ = some (.slice a1 k1 c1) ∧ W'.cell? ⟨w.heap.size, 2, none⟩ = some (.slice a2 k2 c2) from ⟨(hP.step h).cell 0 rfl, (hP.step h).cell 1 rfl, (hP.step h).cell 2 rfl⟩))
    have C0' := hide (fun (W' : World) (h : Below W.heap.size W W') => unhide C0 W' (hB.trans (h.mono hB.size)))
    have C1' := hide (fun (W' : World) (h : Below W.heap.size W W') => unhide C1 W' (hB.trans (h.mono hB.size)))
    have C2' := hide (fun (W' : World) (h : Below W.heap.size W W') => unhide C2 W' (hB.trans (h.mono hB.size)))
    have HT0 := (Below.refl W.heap.size W).drew
    clear C0 C1 C2 hP
    go_region_held3 (fun W => W.cell? ⟨w.heap.size, 0, none⟩ = some (.int .i64 lf) ∧ W.cell? ⟨w.heap.size, 1, none⟩ = some (.slice a1 k1 c1) ∧ W.cell? ⟨w.heap.size, 2, none⟩ = some (.slice a2 k2 c2)) (first | exact unhide KS _ HT0 | exact unhide KS _ hT1 | exact unhide KS _ hT2 | exact unhide KS _ hT3 | fail) (first
      | (go_at_call 12; refine (unhide C0' _ HT0).mono ?_; rintro e w1 ⟨rfl, hb1⟩; have hT1 := HT0.trans (hb1.mono HT0.size); clear hb1)
      | (go_at_call 37; refine (unhide C1' _ hT1).mono ?_; rintro e w2 ⟨rfl, hb2⟩; have hT2 := hT1.trans (hb2.mono hT1.size); clear hb2)
      | (go_at_call 36; refine (unhide C2' _ hT2).mono ?_; rintro e w3 ⟨rfl, hb3⟩; have hT3 := hT2.trans (hb3.mono hT2.size); clear hb3))
    all_goals
      have hF := hB.trans (hT3.mono hB.size)
      clear C0' C1' C2' KS hT1 hT2 HT0
      go_wp2
      go_ret
      exact ⟨by show Ending.returned (.bool (ro.toList == p.toList)) = _; rw [same_txt], hF⟩
  | false =>
    rw [ho] at C0
    have EC := hide (show chkB p m ⟨lf, l1, l2⟩ = false by unfold chkB; rw [ho]; rfl)
    rw [unhide EC]
    obtain ⟨a1, c1, rfl⟩ := r1.shape
    obtain ⟨a2, c2, rfl⟩ := r2.shape
    unfold sgv at C0 ⊢
    clear r1 r2 n1 n2 ho EC
    show Calls _ _ #[_, _, .agg #[.int .i64 lf, .slice a1 (l1.map sv).length c1, .slice a2 (l2.map sv).length c2]] _ _
    generalize ((Sg.mk lf l1 l2).once.map sv).length = k1 at *
    generalize ((Sg.mk lf l1 l2).path.map sv).length = k2 at *
    go_enter Try.func10, Try.ntmps10
    go_wp2_with fail
    obtain ⟨W, hW, hP, hB, hs1⟩ := one_cb w #[.int .i64 lf, .slice a1 k1 c1, .slice a2 k2 c2] 26
    rw [hW]
    clear hW
    have KS := hide (fun (W' : World) (h : Below W.heap.size W W') => (show W'.cell? ⟨w.heap.size, 0, none⟩ = some (.int .i64 lf) ∧ W'.cell? ⟨w.heap.size, 1, none⟩ = some (.slice a1 k1 c1) ∧ W'.cell? ⟨w.heap.size, 2, none⟩ = some (.slice a2 k2 c2) from ⟨(hP.step h).cell 0 rfl, (hP.step h).cell 1 rfl, (hP.step h).cell 2 rfl⟩))
    have C0' := hide (fun (W' : World) (h : Below W.heap.size W W') => unhide C0 W' (hB.trans (h.mono hB.size)))
    have HT0 := (Below.refl W.heap.size W).drew
    clear C0 hP
    refine wp_region_held_drew (S := fun W => W.cell? ⟨w.heap.size, 0, none⟩ = some (.int .i64 lf) ∧ W.cell? ⟨w.heap.size, 1, none⟩ = some (.slice a1 k1 c1) ∧ W.cell? ⟨w.heap.size, 2, none⟩ = some (.slice a2 k2 c2)) (by kernel_rfl) (unhide KS _ HT0) (fun hHeld => ?_)
    refine wpAnyH_take (i := 0) (v := .agg #[.int .i64 lf, .slice a1 k1 c1, .slice a2 k2 c2]) rfl (by kernel_rfl) (by kernel_rfl) (by kernel_rfl) (fun _ _ _ h => h) (Or.inl ⟨by kernel_rfl, fun W hS => by obtain ⟨s0, s1, s2⟩ := hS; go_simp⟩) hHeld ?_
    refine wpAnyH_ready (rs := [1]) (by kernel_rfl) (by simp) ?_
    refine AllReadyH.cons rfl (fun K hK => ?_) AllReadyH.nil
    go_simp
    refine (unhide C0' _ HT0).mono ?_
    rintro e w1 ⟨rfl, hb1⟩
    have hT1 := HT0.trans (hb1.mono HT0.size)
    have hF := hB.trans (hT1.mono hB.size)
    refine hK.out _ _ (unhide KS _ hT1) (fun hHeld => ?_)
    clear hK K hb1 HT0 C0'
    refine wpAnyH_take (i := 2) (v := .bool false) rfl (by kernel_rfl) (by kernel_rfl) (by kernel_rfl) (fun _ _ _ h => h) (Or.inl ⟨by kernel_rfl, fun W hS => by go_simp⟩) hHeld ?_
    refine wpAnyH_take (i := 3) (v := undef) rfl (by kernel_rfl) (by kernel_rfl) (by kernel_rfl) (fun _ _ _ h => h) (Or.inr ⟨by kernel_rfl, rfl⟩) hHeld ?_
    refine wpAnyH_take (i := 4) (v := undef) rfl (by kernel_rfl) (by kernel_rfl) (by kernel_rfl) (fun _ _ _ h => h) (Or.inr ⟨by kernel_rfl, rfl⟩) hHeld ?_
    refine wpAnyH_take (i := 5) (v := undef) rfl (by kernel_rfl) (by kernel_rfl) (by kernel_rfl) (fun _ _ _ h => h) (Or.inr ⟨by kernel_rfl, rfl⟩) hHeld ?_
    refine wpAnyH_take (i := 6) (v := undef) rfl (by kernel_rfl) (by kernel_rfl) (by kernel_rfl) (fun _ _ _ h => h) (Or.inr ⟨by kernel_rfl, rfl⟩) hHeld ?_
    refine wpAnyH_take (i := 7) (v := undef) rfl (by kernel_rfl) (by kernel_rfl) (by kernel_rfl) (fun _ _ _ h => h) (Or.inr ⟨by kernel_rfl, rfl⟩) hHeld ?_
    refine wpAnyH_take (i := 8) (v := undef) rfl (by kernel_rfl) (by kernel_rfl) (by kernel_rfl) (fun _ _ _ h => h) (Or.inr ⟨by kernel_rfl, rfl⟩) hHeld ?_
    refine wpAnyH_take (i := 9) (v := undef) rfl (by kernel_rfl) (by kernel_rfl) (by kernel_rfl) (fun _ _ _ h => h) (Or.inr ⟨by kernel_rfl, rfl⟩) hHeld ?_
    refine wpAnyH_take (i := 10) (v := undef) rfl (by kernel_rfl) (by kernel_rfl) (by kernel_rfl) (fun _ _ _ h => h) (Or.inr ⟨by kernel_rfl, rfl⟩) hHeld ?_
    refine wpAnyH_take (i := 11) (v := undef) rfl (by kernel_rfl) (by kernel_rfl) (by kernel_rfl) (fun _ _ _ h => h) (Or.inr ⟨by kernel_rfl, rfl⟩) hHeld ?_
    refine wpAnyH_take (i := 12) (v := undef) rfl (by kernel_rfl) (by kernel_rfl) (by kernel_rfl) (fun _ _ _ h => h) (Or.inr ⟨by kernel_rfl, rfl⟩) hHeld ?_
    refine wpAnyH_take (i := 13) (v := undef) rfl (by kernel_rfl) (by kernel_rfl) (by kernel_rfl) (fun _ _ _ h => h) (Or.inr ⟨by kernel_rfl, rfl⟩) hHeld ?_
    refine wpAnyH_take (i := 14) (v := undef) rfl (by kernel_rfl) (by kernel_rfl) (by kernel_rfl) (fun _ _ _ h => h) (Or.inr ⟨by kernel_rfl, rfl⟩) hHeld ?_
    refine wpAnyH_take (i := 15) (v := undef) rfl (by kernel_rfl) (by kernel_rfl) (by kernel_rfl) (fun _ _ _ h => h) (Or.inr ⟨by kernel_rfl, rfl⟩) hHeld ?_
    refine wpAnyH_take (i := 16) (v := .bool false) rfl (by kernel_rfl) (by kernel_rfl) (by kernel_rfl) (fun _ _ _ h => h) (Or.inl ⟨by kernel_rfl, fun W hS => by go_simp⟩) hHeld ?_
    refine wpAnyH_take (i := 17) (v := .bool false) rfl (by kernel_rfl) (by kernel_rfl) (by kernel_rfl) (fun _ _ _ h => h) (Or.inl ⟨by kernel_rfl, fun W hS => by go_simp⟩) hHeld ?_
    refine wpAnyH_done (by kernel_rfl) ?_ _
    simp only [Act.put, List.getElem_toArray, List.getElem_cons_zero, List.getElem_cons_succ, List.setIfInBounds_toArray, List.set_cons_zero, List.set_cons_succ]
    clear KS hHeld hT1
    go_wp2
    go_ret
    exact ⟨rfl, hF⟩
end Go.Proofs.Ytjgnjjphankhnaa

/- Keys of a tree by the given model: a signature's text, over the loaded program. -/
namespace Go.Proofs.Ytjgnjjphankhnaa
open Go.RowKit
set_option maxRecDepth 20000 in
set_option maxHeartbeats 800000 in
theorem specSigText_any (s : Sg) (v : Value) (w : World) (hr : RdSg w v s) (n1 : s.once.length ≤ 2000000) (n2 : s.path.length ≤ 2000000) :
    Calls Try.prog 41 #[v] w fun e w' => e = .returned (.tuple #[.string (sgT s), .bool (sgOk s)]) ∧ Below w.heap.size w w' := by
  have C0 := hide (fun (W : World) (h : Below w.heap.size w W) => specSigOk_any s v W (hr.below h) n1 n2)
  obtain ⟨lf, l1, l2⟩ := s
  have CB0 := hide (fun W => specByteY_any lf W)
  obtain ⟨v1, v2, rfl, r1, r2, -⟩ := hr
  cases ho : sgOk ⟨lf, l1, l2⟩ with
  | true =>
    rw [ho] at C0
    have f1 := sgOk_once ho
    have f2 := sgOk_path ho
    obtain ⟨_, k1, k2⟩ := sgOk_shape ho
    obtain ⟨a1, c1, rfl, hc1⟩ := r1.open
    obtain ⟨a2, c2, rfl, hc2⟩ := r2.open
    replace hc1 : ∀ k, k < 10 → ∃ g o, a1 = some ⟨g, o, none⟩ ∧ g < w.heap.size ∧ w.cell? ⟨g, o + k, none⟩ = some (.string (bAt l1 k)) := fun k hk => hc1 k _ (bAt_get l1 k (by have : l1.length = 10 := k1; omega))
    replace hc2 : ∀ k, k < 2 → ∃ g o, a2 = some ⟨g, o, none⟩ ∧ g < w.heap.size ∧ w.cell? ⟨g, o + k, none⟩ = some (.string (bAt l2 k)) := fun k hk => hc2 k _ (bAt_get l2 k (by have : l2.length = 2 := k2; omega))
    have z1 := hide (fun k (hk : k < 10) => bAt_four f1 k (by have : l1.length = 10 := k1; omega))
    have z2 := hide (fun k (hk : k < 2) => bAt_four f2 k (by have : l2.length = 2 := k2; omega))
    have q1 := hide (fun k (hk : k ≤ 10) => catT_size (oneY lf) (bAt l1) 10 (fun i hi => unhide z1 i hi) k hk)
    have q2 := hide (fun k (hk : k ≤ 2) => catT_size (catT (oneY lf) (bAt l1) 10) (bAt l2) 2 (fun i hi => unhide z2 i hi) k hk)
    have q0 := unhide q1 10 (Nat.le_refl _)
    rw [oneY_size] at q1 q0
    rw [q0] at q2
    have EC := hide (show sgT ⟨lf, l1, l2⟩ = catT (catT (oneY lf) (bAt l1) 10) (bAt l2) 2 from sgT_is ho)
    rw [unhide EC]
    unfold sgv at C0 ⊢
    show Calls _ _ #[.agg #[.int .i64 lf, .slice a1 (l1.map sv).length c1, .slice a2 (l2.map sv).length c2]] _ _
    have e1 : (l1.map sv).length = 10 := by rw [List.length_map]; exact k1
    have e2 : (l2.map sv).length = 2 := by rw [List.length_map]; exact k2
    have C0' := hide (fun (W : World) (h : Below w.heap.size w W) => show Calls Try.prog 12 #[.agg #[.int .i64 lf, .slice a1 (l1.map sv).length c1, .slice a2 (l2.map sv).length c2]] W _ from unhide C0 W h)
    rw [e1, e2] at C0' ⊢
    have S1 := hide (show ∀ k, catT (oneY lf) (bAt l1) (k + 1) = catT (oneY lf) (bAt l1) k ++ bAt l1 k from fun k => rfl)
    have S2 := hide (show ∀ k, catT (catT (oneY lf) (bAt l1) 10) (bAt l2) (k + 1) = catT (catT (oneY lf) (bAt l1) 10) (bAt l2) k ++ bAt l2 k from fun k => rfl)
    have T1 := hide (show catT (oneY lf) (bAt l1) 0 = oneY lf from rfl)
    have T2 := hide (show catT (catT (oneY lf) (bAt l1) 10) (bAt l2) 0 = catT (oneY lf) (bAt l1) 10 from rfl)
    rw [← unhide T1] at CB0
    generalize catT (catT (oneY lf) (bAt l1) 10) (bAt l2) = F2 at *
    generalize catT (oneY lf) (bAt l1) = F1 at *
    generalize bAt l1 = b1 at *
    generalize bAt l2 = b2 at *
    clear r1 r2 n1 n2 k1 k2 f1 f2 ho EC e1 e2 C0 q0 T1
    go_enter Try.func41, Try.ntmps41
    go_wp2_with fail
    obtain ⟨W, hW, hP, hB, hs1⟩ := one_cb w #[.int .i64 lf, .slice a1 10 c1, .slice a2 2 c2] 26
    rw [hW]
    clear hW
    refine (unhide C0' W hB).mono ?_
    rintro e w1 ⟨rfl, hb1⟩
    have hB1 := hB.trans (hb1.mono hB.size)
    have hP1 := hP.step hb1
    have p0 := hP1.cell 0 (v := .int .i64 lf) rfl
    clear hb1 hB hP C0'
    go_wp2_with fail
    refine (unhide CB0 w1).mono ?_
    rintro e w2 ⟨rfl, hb2⟩
    have hB2 := hB1.trans (hb2.mono hB1.size)
    have hP2 := hP1.step hb2
    have p1 := hP2.cell 1 (v := .slice a1 10 c1) rfl
    have p2 := hP2.cell 2 (v := .slice a2 2 c2) rfl
    clear hb2 hB1 hP1 p0 CB0
    replace hP2 := hide hP2
    go_wp2
    go_loopw [4, 5] (fun tt ti wr => ∃ k : Nat, k ≤ 10 ∧ ti = .int .i64 (k : Int) ∧ tt = .string (F1 k) ∧ wr = w2) (fun _ ti _ => 10 - (intOf ti).toNat)
    case atStart => exact ⟨0, by omega, rfl, rfl, rfl⟩
    case round =>
      obtain ⟨k, hk, rfl, rfl, hw⟩ := hrel
      have hw' := hw.symm
      subst hw'
      clear hw
      by_cases hlt : k < 10
      · have hk' : (k : Int) < 10 := by omega
        obtain ⟨g, o, rfl, hg, d1⟩ := hc1 k hlt
        replace d1 := (hB2.cell (p := ⟨g, o + k, none⟩) hg).trans d1
        have zz := unhide z1 k hlt
        have qq := unhide q1 k (by omega)
        have HC := hide (unhide S1 k)
        generalize b1 k = told at *
        have hadd : ¬ 9223372036854775807 < (F1 k).size + told.size := by omega
        have hadd2 : (F1 k).size + told.size ≤ 9223372036854775807 := by omega
        clear hc1 hc2 zz qq
        go_wp2
        exact ⟨⟨k + 1, by omega, by go_num, by rw [unhide HC], by first | rfl | trivial⟩, by simp [intOf]; omega⟩
      · have hk' : ¬ (k : Int) < 10 := by omega
        obtain rfl : k = 10 := by omega
        rw [← unhide T2]
        clear hc1 S1 T2
        go_wp2
        go_loopw [4, 6] (fun tt ti wr => ∃ k : Nat, k ≤ 2 ∧ ti = .int .i64 (k : Int) ∧ tt = .string (F2 k) ∧ wr = w2) (fun _ ti _ => 2 - (intOf ti).toNat)
        case atStart => exact ⟨0, by omega, rfl, rfl, rfl⟩
        case round =>
          obtain ⟨k, hk, rfl, rfl, hw⟩ := hrel
          have hw' := hw.symm
          subst hw'
          clear hw
          by_cases hlt2 : k < 2
          · have hk2 : (k : Int) < 2 := by omega
            obtain ⟨g, o, rfl, hg, d1⟩ := hc2 k hlt2
            replace d1 := (hB2.cell (p := ⟨g, o + k, none⟩) hg).trans d1
            have zz := unhide z2 k hlt2
            have qq := unhide q2 k (by omega)
            have HC := hide (unhide S2 k)
            generalize b2 k = told at *
            have hadd : ¬ 9223372036854775807 < (F2 k).size + told.size := by omega
            have hadd2 : (F2 k).size + told.size ≤ 9223372036854775807 := by omega
            clear hc2 zz qq
            go_wp2
            exact ⟨⟨k + 1, by omega, by go_num, by rw [unhide HC], by first | rfl | trivial⟩, by simp [intOf]; omega⟩
          · have hk2 : ¬ (k : Int) < 2 := by omega
            obtain rfl : k = 2 := by omega
            clear hc2
            go_wp2
            go_ret2
            exact ⟨rfl, hB2⟩
  | false =>
    rw [ho] at C0
    have EC := hide (show sgT ⟨lf, l1, l2⟩ = ⟨#[]⟩ by unfold sgT; rw [ho]; rfl)
    rw [unhide EC]
    obtain ⟨a1, c1, rfl⟩ := r1.shape
    obtain ⟨a2, c2, rfl⟩ := r2.shape
    unfold sgv at C0 ⊢
    clear r1 r2 n1 n2 ho EC
    show Calls _ _ #[.agg #[.int .i64 lf, .slice a1 (l1.map sv).length c1, .slice a2 (l2.map sv).length c2]] _ _
    generalize ((Sg.mk lf l1 l2).once.map sv).length = k1 at *
    generalize ((Sg.mk lf l1 l2).path.map sv).length = k2 at *
    go_enter Try.func41, Try.ntmps41
    go_wp2_with fail
    obtain ⟨W, hW, hP, hB, hs1⟩ := one_cb w #[.int .i64 lf, .slice a1 k1 c1, .slice a2 k2 c2] 26
    rw [hW]
    clear hW
    refine (unhide C0 W hB).mono ?_
    rintro e w1 ⟨rfl, hb1⟩
    have hB1 := hB.trans (hb1.mono hB.size)
    clear hb1 hB hP C0
    go_wp2
    go_ret2
    exact ⟨rfl, hB1⟩
end Go.Proofs.Ytjgnjjphankhnaa

