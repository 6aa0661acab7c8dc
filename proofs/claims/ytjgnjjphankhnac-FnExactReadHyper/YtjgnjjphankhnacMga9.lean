/- Merged: Hyp3, LawHyp, ArgHyp, Dpt, ChI1. -/
import Derived.Test.YtjgnjjphankhnacMga1
import Derived.Test.YtjgnjjphankhnacMga2
import Derived.Test.YtjgnjjphankhnacMga3
import Derived.Test.YtjgnjjphankhnacMga4
import Derived.Test.YtjgnjjphankhnacMga5
import Derived.Test.YtjgnjjphankhnacMga6
import Derived.Test.YtjgnjjphankhnacMga7
import Derived.Test.YtjgnjjphankhnacMga8
import Derived.Laws.IdiomStrings
import Derived.Deep.RegionHeld3
/- Trees of trees by the given model: texts, over the loaded program. -/
namespace Go.Proofs.Ytjgnjjphankhnac
open Go.RowKit
theorem cutH17 (T : ByteArray) (j : Nat) (w : World) (h2 : j ≤ T.size) : (Instr.slice 9 (.string T) none (some (.int .i64 (j : Int))) none).run Try.prog w = .ok (.string (T.extract 0 j)) w := by
  rw [run_slice_string_h w 9 T Try.underlying9 .i64 (j : Int) (by omega) (by omega)]
  rfl
theorem cutL17 (T : ByteArray) (j : Nat) (w : World) (h2 : j ≤ T.size) : (Instr.slice 9 (.string T) (some (.int .i64 (j : Int))) none none).run Try.prog w = .ok (.string (T.extract j T.size)) w := by
  rw [run_slice_string_l w 9 T Try.underlying9 .i64 (j : Int) (by omega) (by omega)]
  rfl
theorem CB.drewn {w : World} {g : Nat} {T : TypeId} {cs : Array Value} (h : CB w g T cs) : CB w.drew g T cs := h
set_option maxRecDepth 20000 in
set_option maxHeartbeats 800000 in
theorem specHyperText_any (h : Hy) (v : Value) (w : World) (hr : RdHy w v h) (hn : shHy h) :
    Calls Try.prog 14 #[v] w fun e w' => e = .returned (.tuple #[.string (htx h), .bool (htxOk h)]) ∧ Below w.heap.size w w' := by
  obtain ⟨a1, m1, c1, a2, m2, c2, a3, m3, c3, a4, m4, c4, rfl⟩ := hr.open
  obtain ⟨p1, p2⟩ := hr.parts
  have C1 := hide (fun (W : World) (hb : Below w.heap.size w W) => specSigText_any h.top _ W (p1.below hb) hn.1.1 hn.1.2)
  have C2 := hide (fun (W : World) (hb : Below w.heap.size w W) => specSigText_any h.low _ W (p2.below hb) hn.2.1 hn.2.2)
  have E1 := hide (show htxOk h = (sgOk h.top && sgOk h.low && decide (h.root.size = 4)) from rfl)
  have E2 := hide (show htx h = if htxOk h = true then sgT h.top ++ h.root ++ sgT h.low else ⟨#[]⟩ from rfl)
  have z1 : sgOk h.top = true → (sgT h.top).size = 49 := sgT_size
  have z2 : sgOk h.low = true → (sgT h.low).size = 49 := sgT_size
  rw [unhide E2, unhide E1]
  obtain ⟨b4, hb4⟩ : ∃ b, b = decide (h.root.size = 4) := ⟨_, rfl⟩
  rw [← hb4]
  generalize sgOk h.top = k1 at *
  generalize sgOk h.low = k2 at *
  generalize sgT h.top = x1 at *
  generalize sgT h.low = x2 at *
  clear hr p1 p2 hn E1 E2
  replace hb4 := hide hb4
  go_enter Try.func14, Try.ntmps14
  go_wp2_with fail
  obtain ⟨W, hW, hP, hB, hs⟩ := one_cb w #[.int .i64 h.top.leaf, .slice a1 m1 c1, .slice a2 m2 c2, .string h.root, .int .i64 h.low.leaf, .slice a3 m3 c3, .slice a4 m4 c4] 31
  rw [hW]
  clear hW
  refine (unhide C1 W hB).mono ?_
  rintro e w1 ⟨rfl, hb1⟩
  have T1 := hB.trans (hb1.mono hB.size)
  have hP1 := hP.step hb1
  have x4 := hP1.cell 4 (v := .int .i64 h.low.leaf) rfl
  have x5 := hP1.cell 5 (v := .slice a3 m3 c3) rfl
  have x6 := hP1.cell 6 (v := .slice a4 m4 c4) rfl
  clear hb1 hB hP C1
  go_wp2_with fail
  refine (unhide C2 w1 T1).mono ?_
  rintro e w2 ⟨rfl, hb2⟩
  have T2 := T1.trans (hb2.mono T1.size)
  have hP2 := hP1.step hb2
  have x3 := hP2.cell 3 (v := .string h.root) rfl
  clear hb2 T1 hP1 C2 x4 x5 x6
  cases k1 with
  | false =>
    clear z1 z2
    go_wp2
    go_ret2
    exact ⟨rfl, T2⟩
  | true =>
    cases k2 with
    | false =>
      clear z1 z2
      go_wp2
      go_ret2
      exact ⟨rfl, T2⟩
    | true =>
      have y1 := z1 rfl
      have y2 := z2 rfl
      clear z1 z2
      by_cases h4 : h.root.size = 4
      · have h4' : (h.root.size : Int) = 4 := by omega
        have s1 : ¬ 9223372036854775807 < x1.size + h.root.size := by omega
        have s2 : x1.size + h.root.size ≤ 9223372036854775807 := by omega
        have s3 : ¬ 9223372036854775807 < (x1 ++ h.root).size + x2.size := by rw [ByteArray.size_append]; omega
        have s4 : (x1 ++ h.root).size + x2.size ≤ 9223372036854775807 := by rw [ByteArray.size_append]; omega
        have s5 : (x1 ++ h.root).size = x1.size + h.root.size := ByteArray.size_append
        replace y1 := hide y1; replace y2 := hide y2
        have hd : b4 = true := by rw [unhide hb4]; exact decide_eq_true h4
        subst hd
        replace h4 := hide h4
        clear hb4
        go_wp2
        go_ret2
        exact ⟨rfl, T2⟩
      · have h4' : ¬ (h.root.size : Int) = 4 := by omega
        have hd : b4 = false := by rw [unhide hb4]; exact decide_eq_false h4
        subst hd
        clear y1 y2 h4 hb4
        go_wp2
        go_ret2
        exact ⟨rfl, T2⟩
set_option maxRecDepth 20000 in
set_option maxHeartbeats 1600000 in
theorem specReadHyper_any (t : ByteArray) (w : World) :
    Calls Try.prog 16 #[.string t] w fun e w' => (∃ v, e = .returned (.tuple #[v, .bool (hrdOk t)]) ∧ OwnHy w' w.heap.size v (hrdS t)) ∧ Below w.heap.size w w' := by
  by_cases h102 : t.size = 102
  · have h102' : (t.size : Int) = 102 := by omega
    have E1 := hide (show hrdOk t = (rdOk (t.extract 0 49) && rdOk (t.extract 53 102)) by unfold hrdOk hA hL; rw [decide_eq_true h102, Bool.true_and, h102])
    have E2 := hide (fun (h : hrdOk t = true) => show hrdS t = ⟨rdS (t.extract 0 49), t.extract 49 53, rdS (t.extract 53 102)⟩ by rw [hrd_is h]; unfold hA hR hL; rw [h102])
    have E3 := hide (fun (h : ¬ hrdOk t = true) => show hrdS t = ⟨noSg, ⟨#[]⟩, noSg⟩ by unfold hrdS; rw [if_neg h])
    have C1 := hide (fun W => specReadSig_any (t.extract 0 49) W)
    have C2 := hide (fun W => specReadSig_any (t.extract 53 102) W)
    rw [unhide E1] at E2 E3 ⊢
    generalize hrdS t = HH at *
    generalize rdOk (t.extract 0 49) = k1 at *
    generalize rdOk (t.extract 53 102) = k2 at *
    generalize rdS (t.extract 0 49) = S1 at *
    generalize rdS (t.extract 53 102) = S2 at *
    clear E1
    go_enter Try.func16, Try.ntmps16
    go_wp2_with fail
    obtain ⟨W, hW, hR, hB, hs1⟩ := one_cb w #[.int .i64 0, .slice none 0 0, .slice none 0 0, .string ⟨#[]⟩, .int .i64 0, .slice none 0 0, .slice none 0 0] 31
    rw [hW]
    clear hW
    refine (unhide C1 W).mono ?_
    rintro e w1 ⟨⟨v1, rfl, o1⟩, hb1⟩
    obtain ⟨b1, n1, e1, b2, n2, e2, rfl⟩ := o1.open
    have T1 := hB.trans (hb1.mono hB.size)
    have hR1 := hR.step hb1
    replace o1 := hide o1
    clear hb1 hR hB C1
    go_wp2_with fail
    obtain ⟨W1, hW, hA5, hB1, hs2⟩ := one_cb w1 #[.int .i64 S1.leaf, .slice b1 n1 e1, .slice b2 n2 e2] 29
    rw [hW]
    clear hW
    have T2 := T1.trans (hB1.mono T1.size)
    have hR2 := hR1.step hB1
    have o2 := hide ((unhide o1).below hB1)
    have hsT1 := T1.size
    have g25 : w.heap.size ≠ w1.heap.size := by have := hR1.lt; omega
    obtain ⟨g5, hg5⟩ : ∃ x, x = w1.heap.size := ⟨_, rfl⟩
    have hlo5 : w.heap.size ≤ g5 := by omega
    rw [← hg5] at hA5 g25 ⊢
    clear T1 hR1 hB1 o1 hs2 hg5
    refine (unhide C2 W1).mono ?_
    rintro e w3 ⟨⟨v3, rfl, o3⟩, hb3⟩
    obtain ⟨b3, n3, e3, b4, n4, e4, rfl⟩ := o3.open
    have T3 := T2.trans (hb3.mono T2.size)
    have hR3 := hR2.step hb3
    have hA6 := hA5.step hb3
    have o4 := hide ((unhide o2).below hb3)
    have hsT2 := T2.size
    have ap := hide (show ∀ k, ((Value.slice b1 n1 e1).ownBlock = some k ∨ (Value.slice b2 n2 e2).ownBlock = some k) → (Value.slice b3 n3 e3).ownBlock ≠ some k ∧ (Value.slice b4 n4 e4).ownBlock ≠ some k from fun k hk => by
      have h1 := (OwnSg.bounds (lf := S1.leaf) (unhide o2) k hk).2
      exact ⟨fun e => by have h2 := (OwnSg.bounds (lf := S2.leaf) o3 k (.inl e)).1; omega, fun e => by have h2 := (OwnSg.bounds (lf := S2.leaf) o3 k (.inr e)).1; omega⟩)
    have l5 := hA6.lt
    replace o3 := hide o3
    clear hb3 T2 hR2 hA5 o2 C2
    have lR := hR3.lt
    cases hk : (k1 && k2) with
    | false =>
      have hHH := unhide E3 (by rw [hk]; decide)
      have hc : ¬ (k1 = true ∧ k2 = true) := fun h => by rw [h.1, h.2] at hk; cases hk
      obtain ⟨W3, hW3, hA7, hB3, hs3⟩ := one_cb w3 #[.int .i64 S2.leaf, .slice b3 n3 e3, .slice b4 n4 e4] 29
      have T4 := T3.trans (hB3.mono T3.size)
      have hR4 := hR3.step hB3
      have G9 := (gSet (gSet (gSet (gSet (gSet (gSet (gSet (gR9 W3 (some w.heap.size)) 0 (.int .i64 0)) 1 (.slice none 0 0)) 2 (.slice none 0 0)) 3 (.string ⟨#[]⟩)) 4 (.int .i64 0)) 5 (.slice none 0 0)) 6 (.slice none 0 0))
      have hF := hide ((((((((hR4).set 0 (.int .i64 0)).set 1 (.slice none 0 0)).set 2 (.slice none 0 0)).set 3 (.string ⟨#[]⟩)).set 4 (.int .i64 0)).set 5 (.slice none 0 0)).set 6 (.slice none 0 0))
      have T9 := hide (T4.grown G9 T4.size (fun k hk => by cases hk; exact Nat.le_refl _))
      replace hW3 := hide hW3
      clear hB3 hs3 T3 hR3 hA6 hA7 E2 E3 o3 o4 ap T4 G9
      have r0 := hR4.cell 0 (v := (.int .i64 0)) rfl
      have r1 := hR4.cell 1 (v := (.slice none 0 0)) rfl
      have r2 := hR4.cell 2 (v := (.slice none 0 0)) rfl
      have r3 := hR4.cell 3 (v := (.string ⟨#[]⟩)) rfl
      have r4 := hR4.cell 4 (v := (.int .i64 0)) rfl
      have r5 := hR4.cell 5 (v := (.slice none 0 0)) rfl
      have r6 := hR4.cell 6 (v := (.slice none 0 0)) rfl
      have z0 := hR4.frozen 0
      have z1 := hR4.frozen 1
      have z2 := hR4.frozen 2
      have z3 := hR4.frozen 3
      have z4 := hR4.frozen 4
      have z5 := hR4.frozen 5
      have z6 := hR4.frozen 6
      subst hHH
      cases k1 with
      | true =>
        cases k2 with
        | true => exact absurd ⟨rfl, rfl⟩ hc
        | false =>
          clear hc hk
          go_wp2_with (rw [unhide hW3])
          exact bodyPost_ret (results_cb_tmp (by exact Try.results16) _ _ _ _ _ _ rfl (unhide hF) Try.underlying31 (by kernel_rfl)) rfl ⟨⟨_, rfl, _, _, _, _, rfl, ⟨_, _, rfl, OwnV.nil _ _ _, OwnV.nil _ _ _, fun k hk => by cases hk⟩, ⟨_, _, rfl, OwnV.nil _ _ _, OwnV.nil _ _ _, fun k hk => by cases hk⟩, fun k hk => by rcases hk with hk | hk <;> cases hk⟩, unhide T9⟩
      | false =>
        clear hc hk
        go_wp2_with (rw [unhide hW3])
        exact bodyPost_ret (results_cb_tmp (by exact Try.results16) _ _ _ _ _ _ rfl (unhide hF) Try.underlying31 (by kernel_rfl)) rfl ⟨⟨_, rfl, _, _, _, _, rfl, ⟨_, _, rfl, OwnV.nil _ _ _, OwnV.nil _ _ _, fun k hk => by cases hk⟩, ⟨_, _, rfl, OwnV.nil _ _ _, OwnV.nil _ _ _, fun k hk => by cases hk⟩, fun k hk => by rcases hk with hk | hk <;> cases hk⟩, unhide T9⟩
    | true =>
      have hHH := unhide E2 (by rw [hk])
      have hk1 : k1 = true := by revert hk; cases k1 <;> simp
      have hk2 : k2 = true := by revert hk; cases k2 <;> simp
      subst hk1 hk2
      obtain ⟨W3, hW3, hA7, hB3, hs3⟩ := one_cb w3 #[.int .i64 S2.leaf, .slice b3 n3 e3, .slice b4 n4 e4] 29
      have T4 := T3.trans (hB3.mono T3.size)
      have hR4 := hR3.step hB3
      have hA8 := hA6.step hB3
      have o5 := hide ((unhide o4).below hB3)
      have o6 := hide ((unhide o3).below hB3)
      have of5 := hide (OwnSg.offs (lf := S1.leaf) (unhide o5) hR4 (by decide))
      have of6 := hide (OwnSg.offs (lf := S2.leaf) (unhide o6) hR4 (by decide))
      have G9 := (gSet (gSet (gSet (gSet (gSet (gSet (gSet (gR9 W3 (some w.heap.size)) 0 (.int .i64 S1.leaf)) 1 (.slice b1 n1 e1)) 2 (.slice b2 n2 e2)) 3 (.string (t.extract 49 53))) 4 (.int .i64 S2.leaf)) 5 (.slice b3 n3 e3)) 6 (.slice b4 n4 e4))
      have hF := hide ((((((((hR4).set 0 (.int .i64 S1.leaf)).set 1 (.slice b1 n1 e1)).set 2 (.slice b2 n2 e2)).set 3 (.string (t.extract 49 53))).set 4 (.int .i64 S2.leaf)).set 5 (.slice b3 n3 e3)).set 6 (.slice b4 n4 e4))
      have T9 := hide (T4.grown G9 T4.size (fun k hk => by cases hk; exact Nat.le_refl _))
      have o7 := hide (OwnSg.grownO (lf := S1.leaf) (unhide o5) G9 (unhide of5).1 (unhide of5).2)
      have o8 := hide (OwnSg.grownO (lf := S2.leaf) (unhide o6) G9 (unhide of6).1 (unhide of6).2)
      replace hW3 := hide hW3
      have r0 := hR4.cell 0 (v := (.int .i64 0)) rfl
      have r1 := hR4.cell 1 (v := (.slice none 0 0)) rfl
      have r2 := hR4.cell 2 (v := (.slice none 0 0)) rfl
      have r3 := hR4.cell 3 (v := (.string ⟨#[]⟩)) rfl
      have r4 := hR4.cell 4 (v := (.int .i64 0)) rfl
      have r5 := hR4.cell 5 (v := (.slice none 0 0)) rfl
      have r6 := hR4.cell 6 (v := (.slice none 0 0)) rfl
      have z0 := hR4.frozen 0
      have z1 := hR4.frozen 1
      have z2 := hR4.frozen 2
      have z3 := hR4.frozen 3
      have z4 := hR4.frozen 4
      have z5 := hR4.frozen 5
      have z6 := hR4.frozen 6
      have y0 := hA8.cell 0 (v := .int .i64 S1.leaf) rfl
      have y1 := hA8.cell 1 (v := .slice b1 n1 e1) rfl
      have y2 := hA8.cell 2 (v := .slice b2 n2 e2) rfl
      have x0 := hA7.cell 0 (v := .int .i64 S2.leaf) rfl
      have x1 := hA7.cell 1 (v := .slice b3 n3 e3) rfl
      have x2 := hA7.cell 2 (v := .slice b4 n4 e4) rfl
      subst hHH
      clear hB3 hs3 T3 hR3 hA6 hA7 hA8 E2 E3 o3 o4 o5 o6 T4 G9 hk
      go_wp2_with (rw [unhide hW3])
      go_region
      go_wp2
      exact bodyPost_ret (results_cb_tmp (by exact Try.results16) _ _ _ _ _ _ rfl (unhide hF).drewn Try.underlying31 (by kernel_rfl)) rfl ⟨⟨_, rfl, _, _, _, _, rfl, ((unhide o7).low (by omega)).below (Below.refl _ _).drew, ((unhide o8).low (by omega)).below (Below.refl _ _).drew, unhide ap⟩, (unhide T9).drew⟩
  · have hno : hrdOk t = false := by unfold hrdOk; rw [decide_eq_false h102]; rfl
    have ER := hide (show hrdS t = ⟨noSg, ⟨#[]⟩, noSg⟩ by unfold hrdS; rw [hno]; rfl)
    rw [unhide ER, hno]
    have h102' : ¬ (t.size : Int) = 102 := by omega
    clear ER hno h102
    go_enter Try.func16, Try.ntmps16
    go_wp2
    obtain ⟨W, hW, hR, hB, hs1⟩ := one_cb w #[.int .i64 0, .slice none 0 0, .slice none 0 0, .string ⟨#[]⟩, .int .i64 0, .slice none 0 0, .slice none 0 0] 31
    rw [hW]
    exact bodyPost_ret (results_cb_tmp (by exact Try.results16) _ _ _ _ _ _ rfl hR Try.underlying31 (by kernel_rfl)) rfl ⟨⟨_, rfl, _, _, _, _, rfl, ⟨_, _, rfl, OwnV.nil _ _ _, OwnV.nil _ _ _, fun k hk => by cases hk⟩, ⟨_, _, rfl, OwnV.nil _ _ _, OwnV.nil _ _ _, fun k hk => by cases hk⟩, fun k hk => by rcases hk with hk | hk <;> cases hk⟩, hB⟩
end Go.Proofs.Ytjgnjjphankhnac

/- The laws on signatures of trees of trees, walked over the loaded program; what the project's functions answer are premises. -/
namespace Go.Proofs.Ytjgnjjphankhnac
open Go.RowKit
theorem OwnHy.open {w : World} {base : Nat} {v : Value} {h : Hy} (ho : OwnHy w base v h) : ∃ a1 n1 c1 a2 n2 c2 a3 n3 c3 a4 n4 c4, v = .agg #[.int .i64 h.top.leaf, .slice a1 n1 c1, .slice a2 n2 c2, .string h.root, .int .i64 h.low.leaf, .slice a3 n3 c3, .slice a4 n4 c4] := ho.rd.open
def lnHy (h : Hy) (n : Nat) : Prop := (h.top.once.length ≤ n ∧ h.top.path.length ≤ n) ∧ h.low.once.length ≤ n ∧ h.low.path.length ≤ n
theorem lnHy.mono {h : Hy} {n m : Nat} (hl : lnHy h n) (hm : n ≤ m) : lnHy h m := by
  unfold lnHy at *
  omega
theorem sgn_len (s : ByteArray) (leaf : Int) (m : ByteArray) : (sgnS s leaf m).once.length ≤ 10 ∧ (sgnS s leaf m).path.length ≤ 10 := by
  unfold sgnS
  split
  next h => exact ⟨Nat.le_of_eq (onceS_len _ _ _ (keysO_len _ _)), by have : (pathL (lvsO s) leaf).length = 2 := pathL_len _ _ (lvsO_len _) h; show (pathL (lvsO s) leaf).length ≤ 10; omega⟩
  · exact ⟨Nat.zero_le _, Nat.zero_le _⟩
theorem rd_len (t : ByteArray) : (rdS t).once.length ≤ 10 ∧ (rdS t).path.length ≤ 10 := by
  unfold rdS
  split
  · exact ⟨by show ((List.range 10).map _).length ≤ 10; rw [List.length_map, List.length_range]; exact Nat.le_refl _, by show ((List.range 2).map _).length ≤ 10; rw [List.length_map, List.length_range]; omega⟩
  · exact ⟨Nat.zero_le _, Nat.zero_le _⟩
theorem hsgn_len (s : ByteArray) (i : Int) (m : ByteArray) : lnHy (hsgnS s i m) 10 := by
  unfold hsgnS
  split
  · exact ⟨sgn_len _ _ _, sgn_len _ _ _⟩
  · exact ⟨⟨Nat.zero_le _, Nat.zero_le _⟩, Nat.zero_le _, Nat.zero_le _⟩
theorem hrd_len (t : ByteArray) : lnHy (hrdS t) 10 := by
  unfold hrdS
  split
  · exact ⟨rd_len _, rd_len _⟩
  · exact ⟨⟨Nat.zero_le _, Nat.zero_le _⟩, Nat.zero_le _, Nat.zero_le _⟩
set_option maxRecDepth 20000 in
set_option maxHeartbeats 1600000 in
theorem lawReadHyper_any (s : ByteArray) (CI : s.size ≤ 1048576 → ∀ W : World, Calls Try.prog 17 #[.string s] W fun e w' => (∃ v, e = .returned (.tuple #[v, .bool (hrdOk s)]) ∧ OwnHy w' W.heap.size v (hrdS s)) ∧ Below W.heap.size W w') (w : World) :
    Calls Try.prog 6 #[.string s] w fun x w' => x = .returned (.bool true) ∧ Below w.heap.size w w' := by
  by_cases h1 : (1048576 : Int) < (s.size : Int)
  · go_enter Try.func6, Try.ntmps6
    go_wp2
    go_ret
    exact ⟨rfl, Below.refl _ _⟩
  have CS := hide (fun W => specReadHyper_any s W)
  replace CI := hide (CI (by omega))
  have hl := hrd_len s
  generalize (hrdS s) = S at *
  generalize (hrdOk s) = ok at *
  have CE := hide (fun (W : World) (v u : Value) (hv : RdHy W v S) (hu : RdHy W u S) => eqHyper_any S v u W hv hu (by unfold lnHy at hl; omega) (by unfold lnHy at hl; omega) (by unfold lnHy at hl; omega) (by unfold lnHy at hl; omega))
  obtain ⟨M, hM⟩ : ∃ M, M = 1 + S.top.once.length + S.top.path.length + S.low.once.length + S.low.path.length := ⟨_, rfl⟩
  have CM := hide (fun (W W0 : World) (base : Nat) (v : Value) (ho : OwnHy W base v S) (hb : Below base W0 W) (hbw : base ≤ W.heap.size) => markHyper_any S v base M W W0 hM ho hb hbw (by unfold lnHy at hl; omega) (by unfold lnHy at hl; omega) (by unfold lnHy at hl; omega) (by unfold lnHy at hl; omega))
  have CH := hide (fun (W : World) (base : Nat) (v : Value) (ho : MkHy W base v S) => heldHyper_any S v base M W hM ho (by unfold lnHy at hl; omega) (by unfold lnHy at hl; omega) (by unfold lnHy at hl; omega) (by unfold lnHy at hl; omega))
  have hM0 : ¬ (M : Int) < 0 := by omega
  replace hM := hide hM; replace hl := hide hl
  go_enter Try.func6, Try.ntmps6
  go_wp2_with fail
  refine (unhide CS w).mono ?_
  rintro e w1 ⟨⟨v0, rfl, o0⟩, hb0⟩
  obtain ⟨a1, an1, ac1, a2, an2, ac2, a3, an3, ac3, a4, an4, ac4, rfl⟩ := o0.open
  replace o0 := hide o0
  clear CS
  go_wp2_with fail
  obtain ⟨W1, hW, P7, hB1, hs1⟩ := one_cb w1 #[.int .i64 S.top.leaf, .slice a1 an1 ac1, .slice a2 an2 ac2, .string S.root, .int .i64 S.low.leaf, .slice a3 an3 ac3, .slice a4 an4 ac4] 31
  rw [hW]
  clear hW
  have o0' := hide ((unhide o0).below hB1)
  have o0w := hide (unhide o0')
  have T1 := hb0.trans (hB1.mono hb0.size)
  clear o0 hb0 hB1
  refine (unhide CI W1).mono ?_
  rintro e w2 ⟨⟨v9, rfl, o9⟩, hb2⟩
  obtain ⟨b1, bn1, bc1, b2, bn2, bc2, b3, bn3, bc3, b4, bn4, bc4, rfl⟩ := o9.open
  have P7' := P7.step hb2
  have q0 := hide ((unhide o0').below hb2)
  replace o9 := hide o9
  have p0 := P7'.cell 0 (v := .int .i64 S.top.leaf) rfl
  have p1 := P7'.cell 1 (v := .slice a1 an1 ac1) rfl
  have p2 := P7'.cell 2 (v := .slice a2 an2 ac2) rfl
  have p3 := P7'.cell 3 (v := .string S.root) rfl
  have p4 := P7'.cell 4 (v := .int .i64 S.low.leaf) rfl
  have p5 := P7'.cell 5 (v := .slice a3 an3 ac3) rfl
  have p6 := P7'.cell 6 (v := .slice a4 an4 ac4) rfl
  have l7 := P7'.lt
  have hs2 := hb2.size
  have T2 := T1.trans (hb2.mono T1.size)
  clear o0'
  go_wp2_with fail
  obtain ⟨W2, hW, P9, hB2, hs3⟩ := one_cb w2 #[.int .i64 S.top.leaf, .slice b1 bn1 bc1, .slice b2 bn2 bc2, .string S.root, .int .i64 S.low.leaf, .slice b3 bn3 bc3, .slice b4 bn4 bc4] 31
  rw [hW]
  clear hW p0 p1 p2 p3 p4 p5 p6 l7
  have hs4 := hB2.size
  have T3 := T2.trans (hB2.mono T2.size)
  have Q3 := hb2.trans (hB2.mono hs2)
  have r9 := hide ((unhide o9).below hB2)
  have r0 := hide ((unhide q0).below hB2)
  have P7a := P7'.step hB2
  clear o9 q0 hB2 P7 P7' hb2
  refine (unhide CE W2 _ _ (unhide r9).rd (unhide r0).rd).mono ?_
  rintro e w3 ⟨rfl, hb3⟩
  have T4 := T3.trans (hb3.mono T3.size)
  have Q4 := Q3.trans (hb3.mono Q3.size)
  have s9 := hide ((unhide r9).below hb3)
  have s0 := hide ((unhide r0).below hb3)
  have P7b := P7a.step hb3
  have P9b := P9.step hb3
  have p0 := P9b.cell 0 (v := .int .i64 S.top.leaf) rfl
  have p1 := P9b.cell 1 (v := .slice b1 bn1 bc1) rfl
  have p2 := P9b.cell 2 (v := .slice b2 bn2 bc2) rfl
  have p3 := P9b.cell 3 (v := .string S.root) rfl
  have p4 := P9b.cell 4 (v := .int .i64 S.low.leaf) rfl
  have p5 := P9b.cell 5 (v := .slice b3 bn3 bc3) rfl
  have p6 := P9b.cell 6 (v := .slice b4 bn4 bc4) rfl
  have hs5 := Q4.size
  clear r9 r0 P7a P9 hb3 T3 Q3
  go_wp2_with fail
  refine (unhide CM w3 W1 W1.heap.size _ (unhide s9) Q4 hs5).mono ?_
  rintro e w4 ⟨rfl, mk4, Q5, KC⟩
  have P7c := KC _ _ _ P7b (by decide)
  have P9c := KC _ _ _ P9b (by decide)
  have T5 := T1.trans (Q5.mono T1.size)
  have x0 := hide ((unhide o0w).below Q5)
  replace mk4 := hide mk4
  clear p0 p1 p2 p3 p4 p5 p6
  have p0 := P9c.cell 0 (v := .int .i64 S.top.leaf) rfl
  have p1 := P9c.cell 1 (v := .slice b1 bn1 bc1) rfl
  have p2 := P9c.cell 2 (v := .slice b2 bn2 bc2) rfl
  have p3 := P9c.cell 3 (v := .string S.root) rfl
  have p4 := P9c.cell 4 (v := .int .i64 S.low.leaf) rfl
  have p5 := P9c.cell 5 (v := .slice b3 bn3 bc3) rfl
  have p6 := P9c.cell 6 (v := .slice b4 bn4 bc4) rfl
  clear KC P7b P9b Q4 T4 s9 s0 CM
  go_wp2_with fail
  refine (unhide CH w4 _ _ (unhide mk4)).mono ?_
  rintro e w5 ⟨rfl, hb5⟩
  have T6 := T5.trans (hb5.mono T5.size)
  have mk5 := hide ((unhide mk4).below hb5)
  have y0 := hide ((unhide x0).below hb5)
  have P7d := P7c.step hb5
  have P9d := P9c.step hb5
  clear hb5 mk4 x0 P7c P9c T5 Q5 p0 p1 p2 p3 p4 p5 p6
  go_wp2_with fail
  refine (unhide CI w5).mono ?_
  rintro e w6 ⟨⟨v13, rfl, o13⟩, hb6⟩
  obtain ⟨d1, dn1, dc1, d2, dn2, dc2, d3, dn3, dc3, d4, dn4, dc4, rfl⟩ := o13.open
  have T7 := T6.trans (hb6.mono T6.size)
  have mk6 := hide ((unhide mk5).below hb6)
  have z0 := hide ((unhide y0).below hb6)
  have P7e := P7d.step hb6
  have P9e := P9d.step hb6
  have p0 := P7e.cell 0 (v := .int .i64 S.top.leaf) rfl
  have p1 := P7e.cell 1 (v := .slice a1 an1 ac1) rfl
  have p2 := P7e.cell 2 (v := .slice a2 an2 ac2) rfl
  have p3 := P7e.cell 3 (v := .string S.root) rfl
  have p4 := P7e.cell 4 (v := .int .i64 S.low.leaf) rfl
  have p5 := P7e.cell 5 (v := .slice a3 an3 ac3) rfl
  have p6 := P7e.cell 6 (v := .slice a4 an4 ac4) rfl
  have l7 := P7e.lt
  replace o13 := hide o13
  clear hb6 mk5 y0 P7d P9d T6 CI
  go_wp2_with fail
  obtain ⟨W6, hW, P13, hB6, hs6⟩ := one_cb w6 #[.int .i64 S.top.leaf, .slice d1 dn1 dc1, .slice d2 dn2 dc2, .string S.root, .int .i64 S.low.leaf, .slice d3 dn3 dc3, .slice d4 dn4 dc4] 31
  rw [hW]
  clear hW p0 p1 p2 p3 p4 p5 p6 l7
  have T8 := T7.trans (hB6.mono T7.size)
  have u13 := hide ((unhide o13).below hB6)
  have u0 := hide ((unhide z0).below hB6)
  have mk7 := hide ((unhide mk6).below hB6)
  have P9f := P9e.step hB6
  clear o13 z0 mk6 P9e P7e hB6 T7
  refine (unhide CE W6 _ _ (unhide u13).rd (unhide u0).rd).mono ?_
  rintro e w7 ⟨rfl, hb7⟩
  have T9 := T8.trans (hb7.mono T8.size)
  have mk8 := hide ((unhide mk7).below hb7)
  have P9g := P9f.step hb7
  have p0 := P9g.cell 0 (v := .int .i64 S.top.leaf) rfl
  have p1 := P9g.cell 1 (v := .slice b1 bn1 bc1) rfl
  have p2 := P9g.cell 2 (v := .slice b2 bn2 bc2) rfl
  have p3 := P9g.cell 3 (v := .string S.root) rfl
  have p4 := P9g.cell 4 (v := .int .i64 S.low.leaf) rfl
  have p5 := P9g.cell 5 (v := .slice b3 bn3 bc3) rfl
  have p6 := P9g.cell 6 (v := .slice b4 bn4 bc4) rfl
  clear hb7 mk7 P9f P13 T8 u13 u0 CE
  go_wp2_with fail
  refine (unhide CH w7 _ _ (unhide mk8)).mono ?_
  rintro e w8 ⟨rfl, hb8⟩
  have TF := T9.trans (hb8.mono T9.size)
  clear hb8 mk8 P9g T9 CH p0 p1 p2 p3 p4 p5 p6
  go_wp2
  go_ret
  exact ⟨rfl, TF⟩
set_option maxRecDepth 20000 in
set_option maxHeartbeats 1600000 in
theorem lawHyperCheck_any (p m : ByteArray) (s : Hy) (va : Value) (hk : okHy s) (CI : p.size ≤ 1048576 → m.size ≤ 1048576 → lnHy s 1048576 → s.root.size ≤ 1048576 → ∀ (W : World) (v : Value), RdHy W v s → Calls Try.prog 10 #[.string p, .string m, v] W fun e w' => e = .returned (.bool (hchkB p m s)) ∧ Below W.heap.size W w') (w : World) (hr : RdHy w va s) :
    Calls Try.prog 3 #[.string p, .string m, va] w fun x w' => x = .returned (.bool true) ∧ Below w.heap.size w w' := by
  have CZ := hide (fun (W : World) (h : Below w.heap.size w W) => szHyper_any s va W (hr.below h) hk)
  have HR := hide hr
  obtain ⟨a1, an1, ac1, a2, an2, ac2, a3, an3, ac3, a4, an4, ac4, rfl⟩ := hr.open
  clear hr
  by_cases h1 : (1048576 : Int) < (p.size : Int)
  · clear CZ CI HR hk
    go_enter Try.func3, Try.ntmps3
    go_wp2
    go_ret
    exact ⟨rfl, (Below.refl _ _).alloc (Nat.le_refl _) _⟩
  by_cases h2 : (1048576 : Int) < (m.size : Int)
  · clear CZ CI HR hk
    go_enter Try.func3, Try.ntmps3
    go_wp2
    go_ret
    exact ⟨rfl, (Below.refl _ _).alloc (Nat.le_refl _) _⟩
  replace CI := hide (CI (by omega) (by omega))
  go_enter Try.func3, Try.ntmps3
  go_wp2_with fail
  obtain ⟨W, hW, P1, hB, hs1⟩ := one_cb w #[.int .i64 s.top.leaf, .slice a1 an1 ac1, .slice a2 an2 ac2, .string s.root, .int .i64 s.low.leaf, .slice a3 an3 ac3, .slice a4 an4 ac4] 26
  rw [hW]
  clear hW
  refine (unhide CZ W hB).mono ?_
  rintro e w1 ⟨⟨z, rfl, hz⟩, hb1⟩
  have T1 := hB.trans (hb1.mono hB.size)
  have P1a := P1.step hb1
  clear CZ hb1 P1 hB
  rcases hz with hz | ⟨hz0, hz⟩
  · clear CI HR hk P1a
    go_wp2
    go_ret
    exact ⟨rfl, T1⟩
  have hz' : ¬ z < 0 := by omega
  have hrz : s.root.size ≤ 1048576 := by omega
  have LN : lnHy s 1048576 := by unfold mass at hz; unfold lnHy; omega
  have LS : shHy s := by unfold lnHy at LN; unfold shHy; omega
  have CT := hide (fun (W : World) (h : Below w.heap.size w W) => toHyper_any s _ W ((unhide HR).below h) LN.1.1 LN.1.2 LN.2.1 LN.2.2)
  have CE := hide (fun (W : World) (v u : Value) (hv : RdHy W v s) (hu : RdHy W u s) => eqHyper_any s v u W hv hu LS.1.1 LS.1.2 LS.2.1 LS.2.2)
  have CS := hide (fun (W : World) (v : Value) (hv : RdHy W v s) => specHyperCheck_any p m s v W hv LS hrz (by omega))
  replace CI := hide (unhide CI LN hrz)
  generalize hchkB p m s = R at *
  have p0 := P1a.cell 0 (v := .int .i64 s.top.leaf) rfl
  have p1 := P1a.cell 1 (v := .slice a1 an1 ac1) rfl
  have p2 := P1a.cell 2 (v := .slice a2 an2 ac2) rfl
  have p3 := P1a.cell 3 (v := .string s.root) rfl
  have p4 := P1a.cell 4 (v := .int .i64 s.low.leaf) rfl
  have p5 := P1a.cell 5 (v := .slice a3 an3 ac3) rfl
  have p6 := P1a.cell 6 (v := .slice a4 an4 ac4) rfl
  clear hz HR hk LN LS hrz
  go_wp2_with fail
  refine (unhide CT w1 T1).mono ?_
  rintro e w2 ⟨⟨u2, rfl, o2⟩, hb2⟩
  have T2 := T1.trans (hb2.mono T1.size)
  have P1b := P1a.step hb2
  clear hb2 T1 P1a p0 p1 p2 p3 p4 p5 p6
  go_wp2_with fail
  refine (unhide CS w2 u2 o2.rd).mono ?_
  rintro e w3 ⟨rfl, hb3⟩
  have T3 := T2.trans (hb3.mono T2.size)
  have P1c := P1b.step hb3
  have p0 := P1c.cell 0 (v := .int .i64 s.top.leaf) rfl
  have p1 := P1c.cell 1 (v := .slice a1 an1 ac1) rfl
  have p2 := P1c.cell 2 (v := .slice a2 an2 ac2) rfl
  have p3 := P1c.cell 3 (v := .string s.root) rfl
  have p4 := P1c.cell 4 (v := .int .i64 s.low.leaf) rfl
  have p5 := P1c.cell 5 (v := .slice a3 an3 ac3) rfl
  have p6 := P1c.cell 6 (v := .slice a4 an4 ac4) rfl
  clear hb3 T2 P1b CS o2
  go_wp2_with fail
  refine (unhide CT w3 T3).mono ?_
  rintro e w4 ⟨⟨u4, rfl, o4⟩, hb4⟩
  have T4 := T3.trans (hb4.mono T3.size)
  have P1d := P1c.step hb4
  obtain ⟨b1, bn1, bc1, b2, bn2, bc2, b3, bn3, bc3, b4, bn4, bc4, rfl⟩ := o4.open
  replace o4 := hide o4
  clear hb4 T3 P1c p0 p1 p2 p3 p4 p5 p6
  go_wp2_with fail
  obtain ⟨W4, hW, P5, hB4, hs4⟩ := one_cb w4 #[.int .i64 s.top.leaf, .slice b1 bn1 bc1, .slice b2 bn2 bc2, .string s.root, .int .i64 s.low.leaf, .slice b3 bn3 bc3, .slice b4 bn4 bc4] 31
  rw [hW]
  clear hW
  have T5 := T4.trans (hB4.mono T4.size)
  have P1e := P1d.step hB4
  have o5 := hide ((unhide o4).below hB4)
  clear hB4 o4 P1d T4
  refine (unhide CI W4 _ (unhide o5).rd).mono ?_
  rintro e w6 ⟨rfl, hb6⟩
  have T6 := T5.trans (hb6.mono T5.size)
  have P1f := P1e.step hb6
  have P5f := P5.step hb6
  have o6 := hide ((unhide o5).below hb6)
  clear hb6 T5 P1e P5 o5 CI
  go_wp2_with fail
  have KS := hide (fun (W' : World) (h : Below w6.heap.size w6 W') => (show (W'.cell? ⟨w4.heap.size, 0, none⟩ = some (.int .i64 s.top.leaf) ∧ W'.cell? ⟨w4.heap.size, 1, none⟩ = some (.slice b1 bn1 bc1) ∧ W'.cell? ⟨w4.heap.size, 2, none⟩ = some (.slice b2 bn2 bc2) ∧ W'.cell? ⟨w4.heap.size, 3, none⟩ = some (.string s.root) ∧ W'.cell? ⟨w4.heap.size, 4, none⟩ = some (.int .i64 s.low.leaf) ∧ W'.cell? ⟨w4.heap.size, 5, none⟩ = some (.slice b3 bn3 bc3) ∧ W'.cell? ⟨w4.heap.size, 6, none⟩ = some (.slice b4 bn4 bc4)) ∧ (W'.cell? ⟨w.heap.size, 0, none⟩ = some (.int .i64 s.top.leaf) ∧ W'.cell? ⟨w.heap.size, 1, none⟩ = some (.slice a1 an1 ac1) ∧ W'.cell? ⟨w.heap.size, 2, none⟩ = some (.slice a2 an2 ac2) ∧ W'.cell? ⟨w.heap.size, 3, none⟩ = some (.string s.root) ∧ W'.cell? ⟨w.heap.size, 4, none⟩ = some (.int .i64 s.low.leaf) ∧ W'.cell? ⟨w.heap.size, 5, none⟩ = some (.slice a3 an3 ac3) ∧ W'.cell? ⟨w.heap.size, 6, none⟩ = some (.slice a4 an4 ac4)) from ⟨⟨(P5f.step h).cell 0 rfl, (P5f.step h).cell 1 rfl, (P5f.step h).cell 2 rfl, (P5f.step h).cell 3 rfl, (P5f.step h).cell 4 rfl, (P5f.step h).cell 5 rfl, (P5f.step h).cell 6 rfl⟩, ⟨(P1f.step h).cell 0 rfl, (P1f.step h).cell 1 rfl, (P1f.step h).cell 2 rfl, (P1f.step h).cell 3 rfl, (P1f.step h).cell 4 rfl, (P1f.step h).cell 5 rfl, (P1f.step h).cell 6 rfl⟩⟩))
  have CT' := hide (fun (W' : World) (h : Below w6.heap.size w6 W') => unhide CT W' (T6.trans (h.mono T6.size)))
  have HT0 := (Below.refl w6.heap.size w6).drew
  have CE' := hide (fun (W' : World) (h : Below w6.heap.size w6 W') (u : Value) (hu : RdHy W' u s) => unhide CE W' _ u ((unhide o6).rd.below h) hu)
  clear P1f P5f CT CE o6
  go_region_held3 (fun W' => (W'.cell? ⟨w4.heap.size, 0, none⟩ = some (.int .i64 s.top.leaf) ∧ W'.cell? ⟨w4.heap.size, 1, none⟩ = some (.slice b1 bn1 bc1) ∧ W'.cell? ⟨w4.heap.size, 2, none⟩ = some (.slice b2 bn2 bc2) ∧ W'.cell? ⟨w4.heap.size, 3, none⟩ = some (.string s.root) ∧ W'.cell? ⟨w4.heap.size, 4, none⟩ = some (.int .i64 s.low.leaf) ∧ W'.cell? ⟨w4.heap.size, 5, none⟩ = some (.slice b3 bn3 bc3) ∧ W'.cell? ⟨w4.heap.size, 6, none⟩ = some (.slice b4 bn4 bc4)) ∧ (W'.cell? ⟨w.heap.size, 0, none⟩ = some (.int .i64 s.top.leaf) ∧ W'.cell? ⟨w.heap.size, 1, none⟩ = some (.slice a1 an1 ac1) ∧ W'.cell? ⟨w.heap.size, 2, none⟩ = some (.slice a2 an2 ac2) ∧ W'.cell? ⟨w.heap.size, 3, none⟩ = some (.string s.root) ∧ W'.cell? ⟨w.heap.size, 4, none⟩ = some (.int .i64 s.low.leaf) ∧ W'.cell? ⟨w.heap.size, 5, none⟩ = some (.slice a3 an3 ac3) ∧ W'.cell? ⟨w.heap.size, 6, none⟩ = some (.slice a4 an4 ac4))) (first | exact unhide KS _ HT0 | exact unhide KS _ hT1 | exact unhide KS _ hT2 | fail) (first
    | (go_at_call 9; refine (unhide CT' _ HT0).mono ?_; rintro e w7 ⟨⟨u7, rfl, o7⟩, hb7⟩; have hT1 := HT0.trans (hb7.mono HT0.size); clear hb7)
    | (go_at_call 11; refine (unhide CE' _ hT1 _ o7.rd).mono ?_; rintro e w8 ⟨rfl, hb8⟩; have hT2 := hT1.trans (hb8.mono hT1.size); clear hb8))
  all_goals
    have TF := T6.trans (hT2.mono T6.size)
    clear KS CT' CE' HT0 hT1 hT2 T6
    go_wp2
    go_ret
    exact ⟨rfl, TF⟩
set_option maxRecDepth 20000 in
set_option maxHeartbeats 1600000 in
theorem lawHyperIndex_any (s : Hy) (va : Value) (hk : okHy s) (CI : lnHy s 1048576 → s.root.size ≤ 1048576 → ∀ (W : World) (v : Value), RdHy W v s → Calls Try.prog 13 #[v] W fun e w' => e = .returned (.int .i64 (hidx s)) ∧ Below W.heap.size W w') (w : World) (hr : RdHy w va s) :
    Calls Try.prog 4 #[va] w fun x w' => x = .returned (.bool true) ∧ Below w.heap.size w w' := by
  have CZ := hide (fun (W : World) (h : Below w.heap.size w W) => szHyper_any s va W (hr.below h) hk)
  have HR := hide hr
  obtain ⟨a1, an1, ac1, a2, an2, ac2, a3, an3, ac3, a4, an4, ac4, rfl⟩ := hr.open
  clear hr
  replace CI := hide CI
  go_enter Try.func4, Try.ntmps4
  go_wp2_with fail
  obtain ⟨W, hW, P1, hB, hs1⟩ := one_cb w #[.int .i64 s.top.leaf, .slice a1 an1 ac1, .slice a2 an2 ac2, .string s.root, .int .i64 s.low.leaf, .slice a3 an3 ac3, .slice a4 an4 ac4] 26
  rw [hW]
  clear hW
  refine (unhide CZ W hB).mono ?_
  rintro e w1 ⟨⟨z, rfl, hz⟩, hb1⟩
  have T1 := hB.trans (hb1.mono hB.size)
  have P1a := P1.step hb1
  clear CZ hb1 P1 hB
  rcases hz with hz | ⟨hz0, hz⟩
  · clear CI HR hk P1a
    go_wp2
    go_ret
    exact ⟨rfl, T1⟩
  have hz' : ¬ z < 0 := by omega
  have hrz : s.root.size ≤ 1048576 := by omega
  have LN : lnHy s 1048576 := by unfold mass at hz; unfold lnHy; omega
  have LS : shHy s := by unfold lnHy at LN; unfold shHy; omega
  have CT := hide (fun (W : World) (h : Below w.heap.size w W) => toHyper_any s _ W ((unhide HR).below h) LN.1.1 LN.1.2 LN.2.1 LN.2.2)
  have CE := hide (fun (W : World) (v u : Value) (hv : RdHy W v s) (hu : RdHy W u s) => eqHyper_any s v u W hv hu LS.1.1 LS.1.2 LS.2.1 LS.2.2)
  have CS := hide (fun (W : World) (v : Value) (hv : RdHy W v s) => specHyperIndex_any s v W hv LS)
  replace CI := hide (unhide CI LN hrz)
  generalize hidx s = R at *
  have p0 := P1a.cell 0 (v := .int .i64 s.top.leaf) rfl
  have p1 := P1a.cell 1 (v := .slice a1 an1 ac1) rfl
  have p2 := P1a.cell 2 (v := .slice a2 an2 ac2) rfl
  have p3 := P1a.cell 3 (v := .string s.root) rfl
  have p4 := P1a.cell 4 (v := .int .i64 s.low.leaf) rfl
  have p5 := P1a.cell 5 (v := .slice a3 an3 ac3) rfl
  have p6 := P1a.cell 6 (v := .slice a4 an4 ac4) rfl
  clear hz HR hk LN LS hrz
  go_wp2_with fail
  refine (unhide CT w1 T1).mono ?_
  rintro e w2 ⟨⟨u2, rfl, o2⟩, hb2⟩
  have T2 := T1.trans (hb2.mono T1.size)
  have P1b := P1a.step hb2
  clear hb2 T1 P1a p0 p1 p2 p3 p4 p5 p6
  go_wp2_with fail
  refine (unhide CS w2 u2 o2.rd).mono ?_
  rintro e w3 ⟨rfl, hb3⟩
  have T3 := T2.trans (hb3.mono T2.size)
  have P1c := P1b.step hb3
  have p0 := P1c.cell 0 (v := .int .i64 s.top.leaf) rfl
  have p1 := P1c.cell 1 (v := .slice a1 an1 ac1) rfl
  have p2 := P1c.cell 2 (v := .slice a2 an2 ac2) rfl
  have p3 := P1c.cell 3 (v := .string s.root) rfl
  have p4 := P1c.cell 4 (v := .int .i64 s.low.leaf) rfl
  have p5 := P1c.cell 5 (v := .slice a3 an3 ac3) rfl
  have p6 := P1c.cell 6 (v := .slice a4 an4 ac4) rfl
  clear hb3 T2 P1b CS o2
  go_wp2_with fail
  refine (unhide CT w3 T3).mono ?_
  rintro e w4 ⟨⟨u4, rfl, o4⟩, hb4⟩
  have T4 := T3.trans (hb4.mono T3.size)
  have P1d := P1c.step hb4
  obtain ⟨b1, bn1, bc1, b2, bn2, bc2, b3, bn3, bc3, b4, bn4, bc4, rfl⟩ := o4.open
  replace o4 := hide o4
  clear hb4 T3 P1c p0 p1 p2 p3 p4 p5 p6
  go_wp2_with fail
  obtain ⟨W4, hW, P5, hB4, hs4⟩ := one_cb w4 #[.int .i64 s.top.leaf, .slice b1 bn1 bc1, .slice b2 bn2 bc2, .string s.root, .int .i64 s.low.leaf, .slice b3 bn3 bc3, .slice b4 bn4 bc4] 31
  rw [hW]
  clear hW
  have T5 := T4.trans (hB4.mono T4.size)
  have P1e := P1d.step hB4
  have o5 := hide ((unhide o4).below hB4)
  clear hB4 o4 P1d T4
  refine (unhide CI W4 _ (unhide o5).rd).mono ?_
  rintro e w6 ⟨rfl, hb6⟩
  have T6 := T5.trans (hb6.mono T5.size)
  have P1f := P1e.step hb6
  have P5f := P5.step hb6
  have o6 := hide ((unhide o5).below hb6)
  clear hb6 T5 P1e P5 o5 CI
  go_wp2_with fail
  have KS := hide (fun (W' : World) (h : Below w6.heap.size w6 W') => (show (W'.cell? ⟨w4.heap.size, 0, none⟩ = some (.int .i64 s.top.leaf) ∧ W'.cell? ⟨w4.heap.size, 1, none⟩ = some (.slice b1 bn1 bc1) ∧ W'.cell? ⟨w4.heap.size, 2, none⟩ = some (.slice b2 bn2 bc2) ∧ W'.cell? ⟨w4.heap.size, 3, none⟩ = some (.string s.root) ∧ W'.cell? ⟨w4.heap.size, 4, none⟩ = some (.int .i64 s.low.leaf) ∧ W'.cell? ⟨w4.heap.size, 5, none⟩ = some (.slice b3 bn3 bc3) ∧ W'.cell? ⟨w4.heap.size, 6, none⟩ = some (.slice b4 bn4 bc4)) ∧ (W'.cell? ⟨w.heap.size, 0, none⟩ = some (.int .i64 s.top.leaf) ∧ W'.cell? ⟨w.heap.size, 1, none⟩ = some (.slice a1 an1 ac1) ∧ W'.cell? ⟨w.heap.size, 2, none⟩ = some (.slice a2 an2 ac2) ∧ W'.cell? ⟨w.heap.size, 3, none⟩ = some (.string s.root) ∧ W'.cell? ⟨w.heap.size, 4, none⟩ = some (.int .i64 s.low.leaf) ∧ W'.cell? ⟨w.heap.size, 5, none⟩ = some (.slice a3 an3 ac3) ∧ W'.cell? ⟨w.heap.size, 6, none⟩ = some (.slice a4 an4 ac4)) from ⟨⟨(P5f.step h).cell 0 rfl, (P5f.step h).cell 1 rfl, (P5f.step h).cell 2 rfl, (P5f.step h).cell 3 rfl, (P5f.step h).cell 4 rfl, (P5f.step h).cell 5 rfl, (P5f.step h).cell 6 rfl⟩, ⟨(P1f.step h).cell 0 rfl, (P1f.step h).cell 1 rfl, (P1f.step h).cell 2 rfl, (P1f.step h).cell 3 rfl, (P1f.step h).cell 4 rfl, (P1f.step h).cell 5 rfl, (P1f.step h).cell 6 rfl⟩⟩))
  have CT' := hide (fun (W' : World) (h : Below w6.heap.size w6 W') => unhide CT W' (T6.trans (h.mono T6.size)))
  have HT0 := (Below.refl w6.heap.size w6).drew
  have CE' := hide (fun (W' : World) (h : Below w6.heap.size w6 W') (u : Value) (hu : RdHy W' u s) => unhide CE W' _ u ((unhide o6).rd.below h) hu)
  clear P1f P5f CT CE o6
  go_region_held3 (fun W' => (W'.cell? ⟨w4.heap.size, 0, none⟩ = some (.int .i64 s.top.leaf) ∧ W'.cell? ⟨w4.heap.size, 1, none⟩ = some (.slice b1 bn1 bc1) ∧ W'.cell? ⟨w4.heap.size, 2, none⟩ = some (.slice b2 bn2 bc2) ∧ W'.cell? ⟨w4.heap.size, 3, none⟩ = some (.string s.root) ∧ W'.cell? ⟨w4.heap.size, 4, none⟩ = some (.int .i64 s.low.leaf) ∧ W'.cell? ⟨w4.heap.size, 5, none⟩ = some (.slice b3 bn3 bc3) ∧ W'.cell? ⟨w4.heap.size, 6, none⟩ = some (.slice b4 bn4 bc4)) ∧ (W'.cell? ⟨w.heap.size, 0, none⟩ = some (.int .i64 s.top.leaf) ∧ W'.cell? ⟨w.heap.size, 1, none⟩ = some (.slice a1 an1 ac1) ∧ W'.cell? ⟨w.heap.size, 2, none⟩ = some (.slice a2 an2 ac2) ∧ W'.cell? ⟨w.heap.size, 3, none⟩ = some (.string s.root) ∧ W'.cell? ⟨w.heap.size, 4, none⟩ = some (.int .i64 s.low.leaf) ∧ W'.cell? ⟨w.heap.size, 5, none⟩ = some (.slice a3 an3 ac3) ∧ W'.cell? ⟨w.heap.size, 6, none⟩ = some (.slice a4 an4 ac4))) (first | exact unhide KS _ HT0 | exact unhide KS _ hT1 | exact unhide KS _ hT2 | fail) (first
    | (go_at_call 9; refine (unhide CT' _ HT0).mono ?_; rintro e w7 ⟨⟨u7, rfl, o7⟩, hb7⟩; have hT1 := HT0.trans (hb7.mono HT0.size); clear hb7)
    | (go_at_call 11; refine (unhide CE' _ hT1 _ o7.rd).mono ?_; rintro e w8 ⟨rfl, hb8⟩; have hT2 := hT1.trans (hb8.mono hT1.size); clear hb8))
  all_goals
    have TF := T6.trans (hT2.mono T6.size)
    clear KS CT' CE' HT0 hT1 hT2 T6
    go_wp2
    go_ret
    exact ⟨rfl, TF⟩
set_option maxRecDepth 20000 in
set_option maxHeartbeats 1600000 in
theorem lawHyperText_any (s : Hy) (va : Value) (hk : okHy s) (CI : lnHy s 1048576 → s.root.size ≤ 1048576 → ∀ (W : World) (v : Value), RdHy W v s → Calls Try.prog 15 #[v] W fun e w' => e = .returned (.tuple #[.string (htx s), .bool (htxOk s)]) ∧ Below W.heap.size W w') (w : World) (hr : RdHy w va s) :
    Calls Try.prog 5 #[va] w fun x w' => x = .returned (.bool true) ∧ Below w.heap.size w w' := by
  have CZ := hide (fun (W : World) (h : Below w.heap.size w W) => szHyper_any s va W (hr.below h) hk)
  have HR := hide hr
  obtain ⟨a1, an1, ac1, a2, an2, ac2, a3, an3, ac3, a4, an4, ac4, rfl⟩ := hr.open
  clear hr
  replace CI := hide CI
  go_enter Try.func5, Try.ntmps5
  go_wp2_with fail
  obtain ⟨W, hW, P1, hB, hs1⟩ := one_cb w #[.int .i64 s.top.leaf, .slice a1 an1 ac1, .slice a2 an2 ac2, .string s.root, .int .i64 s.low.leaf, .slice a3 an3 ac3, .slice a4 an4 ac4] 26
  rw [hW]
  clear hW
  refine (unhide CZ W hB).mono ?_
  rintro e w1 ⟨⟨z, rfl, hz⟩, hb1⟩
  have T1 := hB.trans (hb1.mono hB.size)
  have P1a := P1.step hb1
  clear CZ hb1 P1 hB
  rcases hz with hz | ⟨hz0, hz⟩
  · clear CI HR hk P1a
    go_wp2
    go_ret
    exact ⟨rfl, T1⟩
  have hz' : ¬ z < 0 := by omega
  have hrz : s.root.size ≤ 1048576 := by omega
  have LN : lnHy s 1048576 := by unfold mass at hz; unfold lnHy; omega
  have LS : shHy s := by unfold lnHy at LN; unfold shHy; omega
  have CT := hide (fun (W : World) (h : Below w.heap.size w W) => toHyper_any s _ W ((unhide HR).below h) LN.1.1 LN.1.2 LN.2.1 LN.2.2)
  have CE := hide (fun (W : World) (v u : Value) (hv : RdHy W v s) (hu : RdHy W u s) => eqHyper_any s v u W hv hu LS.1.1 LS.1.2 LS.2.1 LS.2.2)
  have CS := hide (fun (W : World) (v : Value) (hv : RdHy W v s) => specHyperText_any s v W hv LS)
  replace CI := hide (unhide CI LN hrz)
  generalize htx s = R at *
  generalize htxOk s = R2 at *
  have p0 := P1a.cell 0 (v := .int .i64 s.top.leaf) rfl
  have p1 := P1a.cell 1 (v := .slice a1 an1 ac1) rfl
  have p2 := P1a.cell 2 (v := .slice a2 an2 ac2) rfl
  have p3 := P1a.cell 3 (v := .string s.root) rfl
  have p4 := P1a.cell 4 (v := .int .i64 s.low.leaf) rfl
  have p5 := P1a.cell 5 (v := .slice a3 an3 ac3) rfl
  have p6 := P1a.cell 6 (v := .slice a4 an4 ac4) rfl
  clear hz HR hk LN LS hrz
  go_wp2_with fail
  refine (unhide CT w1 T1).mono ?_
  rintro e w2 ⟨⟨u2, rfl, o2⟩, hb2⟩
  have T2 := T1.trans (hb2.mono T1.size)
  have P1b := P1a.step hb2
  clear hb2 T1 P1a p0 p1 p2 p3 p4 p5 p6
  go_wp2_with fail
  refine (unhide CS w2 u2 o2.rd).mono ?_
  rintro e w3 ⟨rfl, hb3⟩
  have T3 := T2.trans (hb3.mono T2.size)
  have P1c := P1b.step hb3
  have p0 := P1c.cell 0 (v := .int .i64 s.top.leaf) rfl
  have p1 := P1c.cell 1 (v := .slice a1 an1 ac1) rfl
  have p2 := P1c.cell 2 (v := .slice a2 an2 ac2) rfl
  have p3 := P1c.cell 3 (v := .string s.root) rfl
  have p4 := P1c.cell 4 (v := .int .i64 s.low.leaf) rfl
  have p5 := P1c.cell 5 (v := .slice a3 an3 ac3) rfl
  have p6 := P1c.cell 6 (v := .slice a4 an4 ac4) rfl
  clear hb3 T2 P1b CS o2
  go_wp2_with fail
  refine (unhide CT w3 T3).mono ?_
  rintro e w4 ⟨⟨u4, rfl, o4⟩, hb4⟩
  have T4 := T3.trans (hb4.mono T3.size)
  have P1d := P1c.step hb4
  obtain ⟨b1, bn1, bc1, b2, bn2, bc2, b3, bn3, bc3, b4, bn4, bc4, rfl⟩ := o4.open
  replace o4 := hide o4
  clear hb4 T3 P1c p0 p1 p2 p3 p4 p5 p6
  go_wp2_with fail
  obtain ⟨W4, hW, P5, hB4, hs4⟩ := one_cb w4 #[.int .i64 s.top.leaf, .slice b1 bn1 bc1, .slice b2 bn2 bc2, .string s.root, .int .i64 s.low.leaf, .slice b3 bn3 bc3, .slice b4 bn4 bc4] 31
  rw [hW]
  clear hW
  have T5 := T4.trans (hB4.mono T4.size)
  have P1e := P1d.step hB4
  have o5 := hide ((unhide o4).below hB4)
  clear hB4 o4 P1d T4
  refine (unhide CI W4 _ (unhide o5).rd).mono ?_
  rintro e w6 ⟨rfl, hb6⟩
  have T6 := T5.trans (hb6.mono T5.size)
  have P1f := P1e.step hb6
  have P5f := P5.step hb6
  have o6 := hide ((unhide o5).below hb6)
  clear hb6 T5 P1e P5 o5 CI
  go_wp2_with fail
  have KS := hide (fun (W' : World) (h : Below w6.heap.size w6 W') => (show (W'.cell? ⟨w4.heap.size, 0, none⟩ = some (.int .i64 s.top.leaf) ∧ W'.cell? ⟨w4.heap.size, 1, none⟩ = some (.slice b1 bn1 bc1) ∧ W'.cell? ⟨w4.heap.size, 2, none⟩ = some (.slice b2 bn2 bc2) ∧ W'.cell? ⟨w4.heap.size, 3, none⟩ = some (.string s.root) ∧ W'.cell? ⟨w4.heap.size, 4, none⟩ = some (.int .i64 s.low.leaf) ∧ W'.cell? ⟨w4.heap.size, 5, none⟩ = some (.slice b3 bn3 bc3) ∧ W'.cell? ⟨w4.heap.size, 6, none⟩ = some (.slice b4 bn4 bc4)) ∧ (W'.cell? ⟨w.heap.size, 0, none⟩ = some (.int .i64 s.top.leaf) ∧ W'.cell? ⟨w.heap.size, 1, none⟩ = some (.slice a1 an1 ac1) ∧ W'.cell? ⟨w.heap.size, 2, none⟩ = some (.slice a2 an2 ac2) ∧ W'.cell? ⟨w.heap.size, 3, none⟩ = some (.string s.root) ∧ W'.cell? ⟨w.heap.size, 4, none⟩ = some (.int .i64 s.low.leaf) ∧ W'.cell? ⟨w.heap.size, 5, none⟩ = some (.slice a3 an3 ac3) ∧ W'.cell? ⟨w.heap.size, 6, none⟩ = some (.slice a4 an4 ac4)) from ⟨⟨(P5f.step h).cell 0 rfl, (P5f.step h).cell 1 rfl, (P5f.step h).cell 2 rfl, (P5f.step h).cell 3 rfl, (P5f.step h).cell 4 rfl, (P5f.step h).cell 5 rfl, (P5f.step h).cell 6 rfl⟩, ⟨(P1f.step h).cell 0 rfl, (P1f.step h).cell 1 rfl, (P1f.step h).cell 2 rfl, (P1f.step h).cell 3 rfl, (P1f.step h).cell 4 rfl, (P1f.step h).cell 5 rfl, (P1f.step h).cell 6 rfl⟩⟩))
  have CT' := hide (fun (W' : World) (h : Below w6.heap.size w6 W') => unhide CT W' (T6.trans (h.mono T6.size)))
  have HT0 := (Below.refl w6.heap.size w6).drew
  have CE' := hide (fun (W' : World) (h : Below w6.heap.size w6 W') (u : Value) (hu : RdHy W' u s) => unhide CE W' _ u ((unhide o6).rd.below h) hu)
  clear P1f P5f CT CE o6
  go_region_held3 (fun W' => (W'.cell? ⟨w4.heap.size, 0, none⟩ = some (.int .i64 s.top.leaf) ∧ W'.cell? ⟨w4.heap.size, 1, none⟩ = some (.slice b1 bn1 bc1) ∧ W'.cell? ⟨w4.heap.size, 2, none⟩ = some (.slice b2 bn2 bc2) ∧ W'.cell? ⟨w4.heap.size, 3, none⟩ = some (.string s.root) ∧ W'.cell? ⟨w4.heap.size, 4, none⟩ = some (.int .i64 s.low.leaf) ∧ W'.cell? ⟨w4.heap.size, 5, none⟩ = some (.slice b3 bn3 bc3) ∧ W'.cell? ⟨w4.heap.size, 6, none⟩ = some (.slice b4 bn4 bc4)) ∧ (W'.cell? ⟨w.heap.size, 0, none⟩ = some (.int .i64 s.top.leaf) ∧ W'.cell? ⟨w.heap.size, 1, none⟩ = some (.slice a1 an1 ac1) ∧ W'.cell? ⟨w.heap.size, 2, none⟩ = some (.slice a2 an2 ac2) ∧ W'.cell? ⟨w.heap.size, 3, none⟩ = some (.string s.root) ∧ W'.cell? ⟨w.heap.size, 4, none⟩ = some (.int .i64 s.low.leaf) ∧ W'.cell? ⟨w.heap.size, 5, none⟩ = some (.slice a3 an3 ac3) ∧ W'.cell? ⟨w.heap.size, 6, none⟩ = some (.slice a4 an4 ac4))) (first | exact unhide KS _ HT0 | exact unhide KS _ hT1 | exact unhide KS _ hT2 | fail) (first
    | (go_at_call 9; refine (unhide CT' _ HT0).mono ?_; rintro e w7 ⟨⟨u7, rfl, o7⟩, hb7⟩; have hT1 := HT0.trans (hb7.mono HT0.size); clear hb7)
    | (go_at_call 11; refine (unhide CE' _ hT1 _ o7.rd).mono ?_; rintro e w8 ⟨rfl, hb8⟩; have hT2 := hT1.trans (hb8.mono hT1.size); clear hb8))
  all_goals
    have TF := T6.trans (hT2.mono T6.size)
    clear KS CT' CE' HT0 hT1 hT2 T6
    go_wp2
    go_ret
    exact ⟨rfl, TF⟩
end Go.Proofs.Ytjgnjjphankhnac

/- A signature of trees of trees that comes in as an argument. -/
namespace Go.Proofs.Ytjgnjjphankhnac
open Go.ChangeShapes Go.WideShapes Go.ChangeAt Go.RowKit Go.WideElems
theorem seven_ofS {α : Type} {l : List α} (h : l.length = 7) : ∃ a b c d e f g, l = [a, b, c, d, e, f, g] := by
  match l, h with
  | [a, b, c, d, e, f, g], _ => exact ⟨a, b, c, d, e, f, g, rfl⟩
set_option maxRecDepth 20000 in
theorem hyper_cells {H : Type} {enc : TypeId × Value → H} {W : World} (n : Nat) (cs : List Value) (y : DataW H × List MemPlace) (h : DataW.trod enc Try.prog W 0 (fun _ => true) true n 26 cs = some y) :
    ∃ (s : Hy) (v1 v2 v3 v4 : Value), cs = [.int .i64 s.top.leaf, v1, v2, .string s.root, .int .i64 s.low.leaf, v3, v4] ∧ RdV W v1 (s.top.once.map sv) ∧ RdV W v2 (s.top.path.map sv) ∧ RdV W v3 (s.low.once.map sv) ∧ RdV W v4 (s.low.path.map sv) ∧ (CapV v1 ∧ CapV v2 ∧ CapV v3 ∧ CapV v4) ∧ okHy s := by
  obtain ⟨y0, y1, y2, k, _, hcl, g0, g1, g2⟩ := Go.Deep.trod_struct3 Try.underlying26 h
  have ce : Try.prog.cellsOf 26 = 7 := by kernel_rfl
  have c0 : Try.prog.cellsOf 24 = 3 := by kernel_rfl
  have c1 : Try.prog.cellsOf 9 = 1 := by kernel_rfl
  rw [ce] at hcl
  obtain ⟨u0, u1, u2, u3, u4, u5, u6, rfl⟩ := seven_ofS hcl
  simp only [c0, c1, List.drop_zero, List.drop_succ_cons, List.take_succ_cons, List.take_zero] at g0 g1 g2
  obtain ⟨s1, a1, a2, e1, r1, r2, ⟨q1, q2⟩, k1⟩ := sig_cells _ _ _ g0
  obtain ⟨t, e2, _, hz⟩ := DataW.trod_string Try.underlying9 g1
  obtain ⟨s2, a3, a4, e3, r3, r4, ⟨q3, q4⟩, k2⟩ := sig_cells _ _ _ g2
  simp only [List.cons.injEq, and_true] at e1 e2 e3
  obtain ⟨rfl, rfl, rfl⟩ := e1
  subst e2
  obtain ⟨rfl, rfl, rfl⟩ := e3
  exact ⟨⟨s1, t, s2⟩, _, _, _, _, rfl, r1, r2, r3, r4, ⟨q1, q2, q3, q4⟩, k1, hz, k2⟩
set_option maxRecDepth 20000 in
theorem open_hyper {H : Type} {enc : TypeId × Value → H} {W : World} {base : Nat} {v : Value} {d : DataW H} {ps : List MemPlace} (hv : Value.okWide Try.prog W .any base 26 v)
    (h : DataW.Trod enc Try.prog W 0 (fun _ => true) true 26 v d ps) : ∃ s : Hy, RdHy W v s ∧ okHy s := by
  obtain ⟨cs, rfl, hsz⟩ := okWide_struct Try.underlying26 hv
  obtain ⟨fuel, hf⟩ := h
  obtain ⟨s, v1, v2, v3, v4, hx, r1, r2, r3, r4, hq, hok⟩ := hyper_cells _ _ _ hf
  refine ⟨s, ⟨v1, v2, v3, v4, ?_, r1, r2, r3, r4, hq⟩, hok⟩
  have : cs.toList = [.int .i64 s.top.leaf, v1, v2, .string s.root, .int .i64 s.low.leaf, v3, v4] := by simpa [Value.cells] using hx
  unfold hyv
  congr 1
  apply Array.toList_inj.1
  rw [this]
end Go.Proofs.Ytjgnjjphankhnac

/- Parts put behind one another, and their digest, over the loaded program. -/
namespace Go.Proofs.Ytjgnjjphankhnac
open Go.RowKit
theorem join_flat (xs : List (List UInt8)) : Lib.join xs [] = xs.flatten := by
  unfold Lib.join
  induction xs with
  | nil => rfl
  | cons x xs ih =>
    cases xs with
    | nil => simp [List.intercalate]
    | cons y ys =>
      have e : [].intercalate (x :: y :: ys) = x ++ ([] ++ [].intercalate (y :: ys)) := by simp [List.intercalate, List.intersperse]
      rw [e, ih]
      rfl
theorem barr_eq {a b : ByteArray} (h : a.data.toList = b.data.toList) : a = b := ByteArray.ext (Array.toList_inj.1 h)
set_option maxRecDepth 20000 in
set_option maxHeartbeats 400000 in
theorem digParts_any (bk o c n : Nat) (xs : List ByteArray) (hn : xs.length = n) (T : ByteArray) (hT : T.data.toList = (xs.map (·.data.toList)).flatten) (hTs : T.size ≤ 4000000) (w : World) (hcells : ∀ (j : Nat) x, xs[j]? = some x → w.cell? ⟨bk, o + j, none⟩ = some (.string x)) (hbk : bk < w.heap.size) (hcap : n ≤ c) (hN : n ≤ 1000) :
    Calls Try.prog 74 #[.slice (some ⟨bk, o, none⟩) n c] w fun e w' => e = .returned (.string (digB T)) ∧ Below w.heap.size w w' := by
  subst hn
  have hj : (⟨(Lib.join (xs.map (·.data.toList)) (⟨#[]⟩ : ByteArray).data.toList).toArray⟩ : ByteArray) = T := by
    apply barr_eq
    rw [hT]
    exact join_flat _
  have hz : (Lib.join (xs.map (·.data.toList)) (⟨#[]⟩ : ByteArray).data.toList).length ≤ 140737488355328 := by
    have e : (Lib.join (xs.map (·.data.toList)) (⟨#[]⟩ : ByteArray).data.toList) = T.data.toList := by rw [← hj]
    rw [e]
    show T.size ≤ _
    omega
  have CJ := hide (Try.strings_Join bk o c xs ⟨#[]⟩ w hcells hbk (by omega) hcap hz)
  rw [hj] at CJ
  have CD := hide (fun W => implDigest_any T hTs W)
  rw [show endV (blocksW first8 T 0 (T.size / 64)) (T.extract (64 * (T.size / 64)) T.size) T.size = digB T from rfl] at CD
  clear hz hj hT hcells
  generalize digB T = d at *
  go_enter Try.func74, Try.ntmps74
  go_wp2_with fail
  refine (unhide CJ).mono ?_
  rintro e w1 ⟨rfl, hb1⟩
  go_wp2_with fail
  refine ((unhide CD) w1).mono ?_
  rintro e w2 ⟨rfl, hb2⟩
  have hb12 := hb1.trans (hb2.mono hb1.size)
  clear hb1 hb2
  go_wp2
  go_ret
  exact ⟨rfl, hb12⟩
end Go.Proofs.Ytjgnjjphankhnac

/- Chains by the project's own functions: bytes, what is chopped, a step, chains, over the loaded program. -/
namespace Go.Proofs.Ytjgnjjphankhnac
open Go.RowKit
theorem below_grown14 {w w' : World} (hb : Below w.heap.size w w') (g : Nat) : w.grownBy w' (some g) := ⟨hb.os, hb.tape, hb.output, hb.size, fun k hk _ => hb.block k hk⟩
set_option maxRecDepth 20000 in
set_option maxHeartbeats 400000 in
theorem implByteY_any (z : Int) (w : World) :
    Calls Try.prog 45 #[.int .i64 z] w fun e w' => e = .returned (.string (oneY z)) ∧ Below w.heap.size w w' := by
  have hx := b256_lt z
  have E := hide (show oneY z = ⟨#[UInt8.ofNat (b256 z)]⟩ from rfl)
  rw [unhide E]
  have ew : IntKind.u8.wrap z = (b256 z : Int) := by rw [IntKind.wrap_u8]; unfold b256; omega
  have ew8 : z % 256 = (b256 z : Int) := by unfold b256; omega
  generalize b256 z = x at *
  have hcv := conv_oneY w x hx
  have hb : Below w.heap.size w (w.alloc (.cells #[.int .u8 (x : Int)] 5)) := (Below.refl w.heap.size w).alloc (Nat.le_refl _) _
  go_enter Try.func45, Try.ntmps45
  go_wp2
  go_ret
  exact ⟨rfl, hb⟩
set_option maxRecDepth 20000 in
set_option maxHeartbeats 400000 in
theorem chopParts_any (bk o c n : Nat) (xs : List ByteArray) (hn : xs.length = n) (T : ByteArray) (hT : T.data.toList = (xs.map (·.data.toList)).flatten) (hTs : T.size ≤ 4000000) (w : World) (hcells : ∀ (j : Nat) x, xs[j]? = some x → w.cell? ⟨bk, o + j, none⟩ = some (.string x)) (hbk : bk < w.heap.size) (hcap : n ≤ c) (hN : n ≤ 1000) :
    Calls Try.prog 65 #[.slice (some ⟨bk, o, none⟩) n c] w fun e w' => e = .returned (.string (chopB T)) ∧ Below w.heap.size w w' := by
  have C := hide (digParts_any bk o c n xs hn T hT hTs w hcells hbk hcap hN)
  have hz : (digB T).size = 32 := digB_size0 _
  have E := hide (show chopB T = (digB T).extract 0 4 from rfl)
  rw [unhide E]
  have hz' : (4 : Int) ≤ ((digB T).size : Int) := by omega
  generalize digB T = d at *
  replace hz := hide hz
  clear hcells hT
  go_enter Try.func65, Try.ntmps65
  go_wp2_with fail
  refine (unhide C).mono ?_
  rintro e w1 ⟨rfl, hb1⟩
  go_wp2
  go_ret
  exact ⟨rfl, hb1⟩
theorem row_texts (w : World) (xs : List ByteArray) (T : TypeId) : ∀ (j : Nat) x, xs[j]? = some x → (w.alloc (.cells (xs.map Value.string).toArray T)).cell? ⟨w.heap.size, 0 + j, none⟩ = some (.string x) := by
  intro j x hx
  rw [Nat.zero_add, cell_of_row _ w.heap.size j _ T (0, 0) (heap_alloc_new w _)]
  simp [hx]
theorem chop4_any (a b c d : ByteArray) (ha : a.size ≤ 2000000) (hb : b.size ≤ 1) (hc : c.size ≤ 1) (hd : d.size ≤ 1100000) (w : World) :
    Calls Try.prog 65 #[.slice (some ⟨w.heap.size, 0, none⟩) 4 4] (w.alloc (.cells #[.string a, .string b, .string c, .string d] 9)) fun e w' => e = .returned (.string (chopB (a ++ b ++ c ++ d))) ∧ Below w.heap.size w w' := by
  have h := chopParts_any w.heap.size 0 4 4 [a, b, c, d] rfl (a ++ b ++ c ++ d) (by simp [ByteArray.data_append, Array.toList_append]) (by rw [ByteArray.size_append, ByteArray.size_append, ByteArray.size_append]; omega) (w.alloc (.cells #[.string a, .string b, .string c, .string d] 9)) (row_texts w [a, b, c, d] 9) (by simp) (Nat.le_refl _) (by omega)
  refine h.mono ?_
  rintro e w1 ⟨rfl, hb1⟩
  exact ⟨rfl, ((Below.refl w.heap.size w).alloc (Nat.le_refl _) _).trans (hb1.mono (by simp))⟩
set_option maxRecDepth 20000 in
set_option maxHeartbeats 400000 in
theorem implChop_any (s : ByteArray) (hs : s.size ≤ 4000000) (w : World) :
    Calls Try.prog 67 #[.string s] w fun e w' => e = .returned (.string (chopB s)) ∧ Below w.heap.size w w' := by
  have C := hide (chopParts_any w.heap.size 0 1 1 [s] rfl s (by simp) hs (w.alloc (.cells #[.string s] 9)) (row_texts w [s] 9) (by simp) (Nat.le_refl _) (by omega))
  have hb0 : Below w.heap.size w (w.alloc (.cells #[.string s] 9)) := (Below.refl w.heap.size w).alloc (Nat.le_refl _) _
  generalize chopB s = d at *
  go_enter Try.func67, Try.ntmps67
  go_wp2_with fail
  refine (unhide C).mono ?_
  rintro e w1 ⟨rfl, hb1⟩
  have hb01 := hb0.trans (hb1.mono hb0.size)
  clear hb0 hb1 C
  go_wp2
  go_ret
  exact ⟨rfl, hb01⟩
abbrev plC (a b c : Int) : Array Value := #[.int .i64 a, .int .i64 b, .int .i64 c]
set_option maxRecDepth 20000 in
set_option maxHeartbeats 1000000 in
theorem chainStep_any (g : Nat) (a b c : Int) (x : ByteArray) (hx : x.size ≤ 1048576) (w : World) (hC : CB w g 104 (plC a b c)) :
    Calls Try.prog 86 #[.pointer (some ⟨g, 0, none⟩), .string x] w fun e w' => e = .returned (.string (chopB (oneY a ++ oneY b ++ oneY c ++ x))) ∧ CB w' g 104 (plC a b (IntKind.i64.wrap (c + 1))) ∧ w.grownBy w' (some g) := by
  obtain ⟨c', hc'⟩ : ∃ c', IntKind.i64.wrap (c + 1) = c' := ⟨_, rfl⟩
  have hc2 : wrap64 (c + 1) = c' := (IntWalk.i64_left (c + 1)).symm.trans hc'
  rw [hc']
  have hg := hC.lt
  have c0 := hC.cell 0 rfl
  have c1 := hC.cell 1 rfl
  have c2 := hC.cell 2 rfl
  have KS := hide (fun (W : World) (h : Below w.heap.size w W) => (⟨(h.cell (p := ⟨g, 0, none⟩) hg).trans c0, (h.cell (p := ⟨g, 1, none⟩) hg).trans c1, (h.cell (p := ⟨g, 2, none⟩) hg).trans c2⟩ : W.cell? ⟨g, 0, none⟩ = some (.int .i64 a) ∧ W.cell? ⟨g, 1, none⟩ = some (.int .i64 b) ∧ W.cell? ⟨g, 2, none⟩ = some (.int .i64 c)))
  have CY := hide (fun z W => implByteY_any z W)
  have CC := hide (fun W => chop4_any (oneY a) (oneY b) (oneY c) x (by rw [oneY_size]; omega) (by rw [oneY_size]; omega) (by rw [oneY_size]; omega) (by omega) W)
  generalize chopB (oneY a ++ oneY b ++ oneY c ++ x) = q at *
  obtain ⟨Y, hY⟩ : ∃ Y : Int → ByteArray, Y = oneY := ⟨_, rfl⟩
  rw [← hY] at CY CC
  clear hY
  have HC := hide hC
  clear hC
  go_enter Try.func86, Try.ntmps86
  go_wp2
  go_region_held3 (fun W => W.cell? ⟨g, 0, none⟩ = some (.int .i64 a) ∧ W.cell? ⟨g, 1, none⟩ = some (.int .i64 b) ∧ W.cell? ⟨g, 2, none⟩ = some (.int .i64 c)) (first | exact ⟨c0, c1, c2⟩ | exact (unhide KS) _ hB4 | exact (unhide KS) _ hB3 | exact (unhide KS) _ hB2 | exact (unhide KS) _ hB1 | exact (unhide KS) _ (hB3.alloc (by have := hB3.size; omega) _) | fail) (first
    | (go_at_call 45; have hB2' := hB2; refine ((unhide CY) _ _).mono ?_; rintro e w3 ⟨rfl, hb3⟩; have hB3 : Below w.heap.size w w3 := hB2.trans (hb3.mono hB2.size))
    | (go_at_call 45; have hB1' := hB1; refine ((unhide CY) _ _).mono ?_; rintro e w2 ⟨rfl, hb2⟩; have hB2 : Below w.heap.size w w2 := hB1.trans (hb2.mono hB1.size))
    | (go_at_call 45; refine ((unhide CY) _ _).mono ?_; rintro e w1 ⟨rfl, hb1⟩; have hB1 : Below w.heap.size w w1 := (Below.refl _ w).drew.trans hb1)
    | (go_at_call 65; refine ((unhide CC) _).mono ?_; rintro e w4 ⟨rfl, hb4⟩; have hB4 : Below w.heap.size w w4 := hB3.trans (hb4.mono hB3.size))
    | fail)
  all_goals
    obtain ⟨d0, d1, d2⟩ := (unhide KS) _ hB4
    have HC4 := (unhide HC).below hB4 hg
    have f2 := HC4.frozen 2
    have HC5 := hide (HC4.set 2 (.int .i64 c'))
    have G5 := hide (grownBy_trans (below_grown14 hB4 g) (tS0 w4 g 2 (.int .i64 c')))
    clear hb1 hb2 hb3 hb4 hB1 hB2 hB3 hB4 KS c0 c1 c2 HC HC4 CY CC
    go_wp2
    go_ret
    exact ⟨rfl, unhide HC5, unhide G5⟩
/-- Where a chain stands behind k steps. -/
def frK (c : Int) : Nat → Int
  | 0 => c
  | k + 1 => IntKind.i64.wrap (frK c k + 1)
theorem frK_mod (c : Int) (k : Nat) : (frK c k) % 256 = (c.tmod 256 + (k : Int)) % 256 := by
  induction k with
  | zero =>
    show c % 256 = _
    have e := @Int.tmod_eq_emod c 256
    split at e
    · rw [e]; omega
    · have e2 : c.tmod 256 = c % 256 - 256 := e
      rw [e2]; omega
  | succ k ih =>
    show (IntKind.i64.wrap (frK c k + 1)) % 256 = _
    rw [IntKind.wrap_i64]
    generalize c.tmod 256 = r at *
    generalize frK c k = f at *
    omega
theorem frK_one (c : Int) (k : Nat) : oneY (frK c k) = oneY (c.tmod 256 + (k : Int)) := by
  unfold oneY b256
  rw [frK_mod]
set_option maxRecDepth 20000 in
set_option maxHeartbeats 1000000 in
theorem repeated_any (g : Nat) (a b c d : Int) (x : ByteArray) (hx : x.size ≤ 1048576) (hd : d ≤ 15) (w : World) (hC : CB w g 104 (plC a b c)) :
    Calls Try.prog 85 #[.func (Fn.func 86) #[.pointer (some ⟨g, 0, none⟩)] #[], .string x, .int .i64 d] w fun e w' => e = .returned (.string (chnB x a b c d.toNat)) ∧ w.grownBy w' (some g) := by
  have HN := hide (show ∀ k, chopB (oneY a ++ oneY b ++ oneY (frK c k) ++ chnB x a b c k) = chnB x a b c (k + 1) from fun k => by rw [frK_one]; rfl)
  have HS := hide (fun k => chnB_size x a b c k hx)
  have H0 := hide (show chnB x a b c 0 = x from rfl)
  have HF0 := hide (show frK c 0 = c from rfl)
  have HFn := hide (show ∀ k, IntKind.i64.wrap (frK c k + 1) = frK c (k + 1) from fun k => rfl)
  have CSt := hide (fun (k : Nat) (W : World) (h : CB W g 104 (plC a b (frK c k))) => chainStep_any g a b (frK c k) (chnB x a b c k) (unhide HS k) W h)
  simp only [unhide HN, unhide HFn] at CSt
  have HC := hide hC
  clear hC HN HFn HS
  generalize chnB x a b c = F at *
  generalize frK c = R at *
  go_enter Try.func85, Try.ntmps85
  go_wp2
  go_loopw [1, 8] (fun tx ti wr => ∃ k : Nat, k ≤ d.toNat ∧ ti = .int .i64 (k : Int) ∧ tx = .string (F k) ∧ Hid (CB wr g 104 (plC a b (R k))) ∧ Hid (w.grownBy wr (some g))) (fun _ ti _ => 20 - (intOf ti).toNat)
  case atStart => exact ⟨0, Nat.zero_le _, rfl, by rw [unhide H0], by rw [unhide HF0]; exact HC, hide (World.grownBy.refl w _)⟩
  case round =>
    clear HC
    obtain ⟨k, hk, rfl, rfl, HM, HG⟩ := hrel
    by_cases hlt : (k : Int) < d
    · have C := hide (unhide CSt k wr (unhide HM))
      have hk15 : k < 15 := by omega
      obtain ⟨f2, hf2⟩ : ∃ f2, f2 = F (k + 1) := ⟨_, rfl⟩
      rw [← hf2] at C
      replace hf2 := hide hf2
      generalize F k = fk at *
      clear CSt
      go_wp2_with (go_at_call 86; refine (unhide C).mono ?_; rintro e w1 ⟨rfl, hA1, hg1⟩)
      go_roundw
      case rel => exact ⟨k + 1, by omega, by go_num, by rw [unhide hf2], hide hA1, hide (grownBy_trans (unhide HG) hg1)⟩
      case measure => simp [intOf]; omega
    · have hkk := hide (show d.toNat = k by omega)
      go_wp2
      go_ret
      rw [unhide hkk]
      exact ⟨rfl, unhide HG⟩
set_option maxRecDepth 20000 in
theorem stringsClone14_any (s : ByteArray) (w : World) (hs : s.size ≤ 4000000) :
    Calls Try.prog 31 #[.string s] w fun e w' => e = .returned (.string s) ∧ Below w.heap.size w w' := by
  have hlim : s.size ≤ 281474976710656 := by omega
  have C := hide (Try.stringslite_Clone s w hlim)
  go_enter Try.func31, Try.ntmps31
  go_wp2_with fail
  refine (unhide C).mono ?_
  rintro e w2 ⟨rfl, hb2⟩
  go_wp2
  go_ret
  exact ⟨rfl, hb2⟩
theorem grown_below14 {a b c : World} {g : Nat} (h : Below a.heap.size a b) (k : b.grownBy c (some g)) (hg : a.heap.size ≤ g) : Below a.heap.size a c :=
  ⟨k.os.trans h.os, k.tape.trans h.tape, k.output.trans h.output, Nat.le_trans h.size k.size, fun q hq => (k.block q (Nat.lt_of_lt_of_le hq h.size) (fun e => by have := Option.some.inj e; omega)).trans (h.block q hq)⟩
set_option maxRecDepth 20000 in
set_option maxHeartbeats 1000000 in
theorem implChain_any (x : ByteArray) (a b c d : Int) (hx : x.size ≤ 1048576) (w : World) :
    Calls Try.prog 75 #[.string x, .int .i64 a, .int .i64 b, .int .i64 c, .int .i64 d] w fun e w' => e = .returned (.string (chnB x a b c (stepsN d))) ∧ Below w.heap.size w w' := by
  have CCl := hide (fun W => stringsClone14_any x W (by omega))
  have hst : stepsN d = (if d ≤ 15 then d else 15).toNat := by unfold stepsN; split <;> rfl
  obtain ⟨m, hm⟩ : ∃ m : Int, m = if d ≤ 15 then d else 15 := ⟨_, rfl⟩
  have hm15 : m ≤ 15 := by rw [hm]; split <;> omega
  rw [← hm] at hst
  have hmin : min d 15 = m := by rw [hm]; split <;> omega
  have hmin2 : (if d ≤ 15 then d else 15) = m := hm.symm
  have CR := hide (fun (g : Nat) (W : World) (h : CB W g 104 (plC a b c)) => repeated_any g a b c m x hx hm15 W h)
  rw [hst]
  generalize chnB x a b c m.toNat = q at *
  obtain ⟨W, hW, hC, hb, hlt⟩ := one_cb w (plC a b c) 104
  replace hst := hide hst
  replace hm := hide hm
  go_enter Try.func75, Try.ntmps75
  go_wp2_with fail
  refine (unhide CCl W).mono ?_
  rintro e w1 ⟨rfl, hb1⟩
  have hC1 := hC.below hb1 hlt
  have hB1 := hb.trans (hb1.mono hb.size)
  clear hb hb1 hC hW
  go_wp2_with fail
  refine (unhide CR _ w1 hC1).mono ?_
  rintro e w2 ⟨rfl, hg2⟩
  have hB2 := grown_below14 hB1 hg2 (Nat.le_refl _)
  clear hg2 hB1 hC1
  go_wp2
  go_ret
  exact ⟨rfl, hB2⟩
end Go.Proofs.Ytjgnjjphankhnac

