/- Merged: Hyp3, LawHyp, DrHyp. -/
import Derived.Test.YtjgnjjphankhnaaMga1
import Derived.Test.YtjgnjjphankhnaaMga2
import Derived.Test.YtjgnjjphankhnaaMga3
import Derived.Test.YtjgnjjphankhnaaMga4
import Derived.Test.YtjgnjjphankhnaaMga5
import Derived.Test.YtjgnjjphankhnaaMga6
import Derived.Test.YtjgnjjphankhnaaMga7
import Derived.Test.YtjgnjjphankhnaaMga8
import Derived.Test.YtjgnjjphankhnaaMga9
import Derived.Test.YtjgnjjphankhnaaMga10
import Derived.Test.YtjgnjjphankhnaaMga11
import Derived.Test.YtjgnjjphankhnaaMga12
import Derived.Test.YtjgnjjphankhnaaMga13
import Derived.Laws.IdiomStrings
import Derived.Deep.RegionHeld3
/- Trees of trees by the given model: texts, over the loaded program. -/
namespace Go.Proofs.Ytjgnjjphankhnaa
open Go.RowKit
theorem cutH17 (T : ByteArray) (j : Nat) (w : World) (h2 : j ≤ T.size) : (Instr.slice 9 (.string T) none (some (.int .i64 (j : Int))) none).run Try.prog w = .ok (.string (T.extract 0 j)) w := by
  rw [run_slice_string_h w 9 T Try.underlying9 .i64 (j : Int) (by omega) (by omega)]
  rfl
theorem cutL17 (T : ByteArray) (j : Nat) (w : World) (h2 : j ≤ T.size) : (Instr.slice 9 (.string T) (some (.int .i64 (j : Int))) none none).run Try.prog w = .ok (.string (T.extract j T.size)) w := by
  rw [run_slice_string_l w 9 T Try.underlying9 .i64 (j : Int) (by omega) (by omega)]
  rfl
theorem CB.drewn {w : World} {g : Nat} {T : TypeId} {cs : Array Value} (h : CB w g T cs) : CB w.drew g T cs := h
set_option maxRecDepth 20000 in
set_option maxHeartbeats 800000 in
theorem specHyperText_any (h : Hy) (v : Value) (w : World) (hr : RdHy w v h) (hn : shHy h) :
    Calls Try.prog 47 #[v] w fun e w' => e = .returned (.tuple #[.string (htx h), .bool (htxOk h)]) ∧ Below w.heap.size w w' := by
  obtain ⟨a1, m1, c1, a2, m2, c2, a3, m3, c3, a4, m4, c4, rfl⟩ := hr.open
  obtain ⟨p1, p2⟩ := hr.parts
  have C1 := hide (fun (W : World) (hb : Below w.heap.size w W) => specSigText_any h.top _ W (p1.below hb) hn.1.1 hn.1.2)
  have C2 := hide (fun (W : World) (hb : Below w.heap.size w W) => specSigText_any h.low _ W (p2.below hb) hn.2.1 hn.2.2)
  have E1 := hide (show htxOk h = (sgOk h.top && sgOk h.low && decide (h.root.size = 4)) from rfl)
  have E2 := hide (show htx h = if htxOk h = true then sgT h.top ++ h.root ++ sgT h.low else ⟨#[]⟩ from rfl)
  have z1 : sgOk h.top = true → (sgT h.top).size = 49 := sgT_size
  have z2 : sgOk h.low = true → (sgT h.low).size = 49 := sgT_size
  rw [unhide E2, unhide E1]
  obtain ⟨b4, hb4⟩ : ∃ b, b = decide (h.root.size = 4) := ⟨_, rfl⟩
  rw [← hb4]
  generalize sgOk h.top = k1 at *
  generalize sgOk h.low = k2 at *
  generalize sgT h.top = x1 at *
  generalize sgT h.low = x2 at *
  clear hr p1 p2 hn E1 E2
  replace hb4 := hide hb4
  go_enter Try.func47, Try.ntmps47
  go_wp2_with fail
  obtain ⟨W, hW, hP, hB, hs⟩ := one_cb w #[.int .i64 h.top.leaf, .slice a1 m1 c1, .slice a2 m2 c2, .string h.root, .int .i64 h.low.leaf, .slice a3 m3 c3, .slice a4 m4 c4] 37
  rw [hW]
  clear hW
  refine (unhide C1 W hB).mono ?_
  rintro e w1 ⟨rfl, hb1⟩
  have T1 := hB.trans (hb1.mono hB.size)
  have hP1 := hP.step hb1
  have x4 := hP1.cell 4 (v := .int .i64 h.low.leaf) rfl
  have x5 := hP1.cell 5 (v := .slice a3 m3 c3) rfl
  have x6 := hP1.cell 6 (v := .slice a4 m4 c4) rfl
  clear hb1 hB hP C1
  go_wp2_with fail
  refine (unhide C2 w1 T1).mono ?_
  rintro e w2 ⟨rfl, hb2⟩
  have T2 := T1.trans (hb2.mono T1.size)
  have hP2 := hP1.step hb2
  have x3 := hP2.cell 3 (v := .string h.root) rfl
  clear hb2 T1 hP1 C2 x4 x5 x6
  cases k1 with
  | false =>
    clear z1 z2
    go_wp2
    go_ret2
    exact ⟨rfl, T2⟩
  | true =>
    cases k2 with
    | false =>
      clear z1 z2
      go_wp2
      go_ret2
      exact ⟨rfl, T2⟩
    | true =>
      have y1 := z1 rfl
      have y2 := z2 rfl
      clear z1 z2
      by_cases h4 : h.root.size = 4
      · have h4' : (h.root.size : Int) = 4 := by omega
        have s1 : ¬ 9223372036854775807 < x1.size + h.root.size := by omega
        have s2 : x1.size + h.root.size ≤ 9223372036854775807 := by omega
        have s3 : ¬ 9223372036854775807 < (x1 ++ h.root).size + x2.size := by rw [ByteArray.size_append]; omega
        have s4 : (x1 ++ h.root).size + x2.size ≤ 9223372036854775807 := by rw [ByteArray.size_append]; omega
        have s5 : (x1 ++ h.root).size = x1.size + h.root.size := ByteArray.size_append
        replace y1 := hide y1; replace y2 := hide y2
        have hd : b4 = true := by rw [unhide hb4]; exact decide_eq_true h4
        subst hd
        replace h4 := hide h4
        clear hb4
        go_wp2
        go_ret2
        exact ⟨rfl, T2⟩
      · have h4' : ¬ (h.root.size : Int) = 4 := by omega
        have hd : b4 = false := by rw [unhide hb4]; exact decide_eq_false h4
        subst hd
        clear y1 y2 h4 hb4
        go_wp2
        go_ret2
        exact ⟨rfl, T2⟩
set_option maxRecDepth 20000 in
set_option maxHeartbeats 1600000 in
theorem specReadHyper_any (t : ByteArray) (w : World) :
    Calls Try.prog 19 #[.string t] w fun e w' => (∃ v, e = .returned (.tuple #[v, .bool (hrdOk t)]) ∧ OwnHy w' w.heap.size v (hrdS t)) ∧ Below w.heap.size w w' := by
  by_cases h102 : t.size = 102
  · have h102' : (t.size : Int) = 102 := by omega
    have E1 := hide (show hrdOk t = (rdOk (t.extract 0 49) && rdOk (t.extract 53 102)) by unfold hrdOk hA hL; rw [decide_eq_true h102, Bool.true_and, h102])
    have E2 := hide (fun (h : hrdOk t = true) => show hrdS t = ⟨rdS (t.extract 0 49), t.extract 49 53, rdS (t.extract 53 102)⟩ by rw [hrd_is h]; unfold hA hR hL; rw [h102])
    have E3 := hide (fun (h : ¬ hrdOk t = true) => show hrdS t = ⟨noSg, ⟨#[]⟩, noSg⟩ by unfold hrdS; rw [if_neg h])
    have C1 := hide (fun W => specReadSig_any (t.extract 0 49) W)
    have C2 := hide (fun W => specReadSig_any (t.extract 53 102) W)
    rw [unhide E1] at E2 E3 ⊢
    generalize hrdS t = HH at *
    generalize rdOk (t.extract 0 49) = k1 at *
    generalize rdOk (t.extract 53 102) = k2 at *
    generalize rdS (t.extract 0 49) = S1 at *
    generalize rdS (t.extract 53 102) = S2 at *
    clear E1
    go_enter Try.func19, Try.ntmps19
    go_wp2_with fail
    obtain ⟨W, hW, hR, hB, hs1⟩ := one_cb w #[.int .i64 0, .slice none 0 0, .slice none 0 0, .string ⟨#[]⟩, .int .i64 0, .slice none 0 0, .slice none 0 0] 37
    rw [hW]
    clear hW
    refine (unhide C1 W).mono ?_
    rintro e w1 ⟨⟨v1, rfl, o1⟩, hb1⟩
    obtain ⟨b1, n1, e1, b2, n2, e2, rfl⟩ := o1.open
    have T1 := hB.trans (hb1.mono hB.size)
    have hR1 := hR.step hb1
    replace o1 := hide o1
    clear hb1 hR hB C1
    go_wp2_with fail
    obtain ⟨W1, hW, hA5, hB1, hs2⟩ := one_cb w1 #[.int .i64 S1.leaf, .slice b1 n1 e1, .slice b2 n2 e2] 26
    rw [hW]
    clear hW
    have T2 := T1.trans (hB1.mono T1.size)
    have hR2 := hR1.step hB1
    have o2 := hide ((unhide o1).below hB1)
    have hsT1 := T1.size
    have g25 : w.heap.size ≠ w1.heap.size := by have := hR1.lt; omega
    obtain ⟨g5, hg5⟩ : ∃ x, x = w1.heap.size := ⟨_, rfl⟩
    have hlo5 : w.heap.size ≤ g5 := by omega
    rw [← hg5] at hA5 g25 ⊢
    clear T1 hR1 hB1 o1 hs2 hg5
    refine (unhide C2 W1).mono ?_
    rintro e w3 ⟨⟨v3, rfl, o3⟩, hb3⟩
    obtain ⟨b3, n3, e3, b4, n4, e4, rfl⟩ := o3.open
    have T3 := T2.trans (hb3.mono T2.size)
    have hR3 := hR2.step hb3
    have hA6 := hA5.step hb3
    have o4 := hide ((unhide o2).below hb3)
    have hsT2 := T2.size
    have ap := hide (show ∀ k, ((Value.slice b1 n1 e1).ownBlock = some k ∨ (Value.slice b2 n2 e2).ownBlock = some k) → (Value.slice b3 n3 e3).ownBlock ≠ some k ∧ (Value.slice b4 n4 e4).ownBlock ≠ some k from fun k hk => by
      have h1 := (OwnSg.bounds (lf := S1.leaf) (unhide o2) k hk).2
      exact ⟨fun e => by have h2 := (OwnSg.bounds (lf := S2.leaf) o3 k (.inl e)).1; omega, fun e => by have h2 := (OwnSg.bounds (lf := S2.leaf) o3 k (.inr e)).1; omega⟩)
    have l5 := hA6.lt
    replace o3 := hide o3
    clear hb3 T2 hR2 hA5 o2 C2
    have lR := hR3.lt
    cases hk : (k1 && k2) with
    | false =>
      have hHH := unhide E3 (by rw [hk]; decide)
      have hc : ¬ (k1 = true ∧ k2 = true) := fun h => by rw [h.1, h.2] at hk; cases hk
      obtain ⟨W3, hW3, hA7, hB3, hs3⟩ := one_cb w3 #[.int .i64 S2.leaf, .slice b3 n3 e3, .slice b4 n4 e4] 26
      have T4 := T3.trans (hB3.mono T3.size)
      have hR4 := hR3.step hB3
      have G9 := (gSet (gSet (gSet (gSet (gSet (gSet (gSet (gR9 W3 (some w.heap.size)) 0 (.int .i64 0)) 1 (.slice none 0 0)) 2 (.slice none 0 0)) 3 (.string ⟨#[]⟩)) 4 (.int .i64 0)) 5 (.slice none 0 0)) 6 (.slice none 0 0))
      have hF := hide ((((((((hR4).set 0 (.int .i64 0)).set 1 (.slice none 0 0)).set 2 (.slice none 0 0)).set 3 (.string ⟨#[]⟩)).set 4 (.int .i64 0)).set 5 (.slice none 0 0)).set 6 (.slice none 0 0))
      have T9 := hide (T4.grown G9 T4.size (fun k hk => by cases hk; exact Nat.le_refl _))
      replace hW3 := hide hW3
      clear hB3 hs3 T3 hR3 hA6 hA7 E2 E3 o3 o4 ap T4 G9
      have r0 := hR4.cell 0 (v := (.int .i64 0)) rfl
      have r1 := hR4.cell 1 (v := (.slice none 0 0)) rfl
      have r2 := hR4.cell 2 (v := (.slice none 0 0)) rfl
      have r3 := hR4.cell 3 (v := (.string ⟨#[]⟩)) rfl
      have r4 := hR4.cell 4 (v := (.int .i64 0)) rfl
      have r5 := hR4.cell 5 (v := (.slice none 0 0)) rfl
      have r6 := hR4.cell 6 (v := (.slice none 0 0)) rfl
      have z0 := hR4.frozen 0
      have z1 := hR4.frozen 1
      have z2 := hR4.frozen 2
      have z3 := hR4.frozen 3
      have z4 := hR4.frozen 4
      have z5 := hR4.frozen 5
      have z6 := hR4.frozen 6
      subst hHH
      cases k1 with
      | true =>
        cases k2 with
        | true => exact absurd ⟨rfl, rfl⟩ hc
        | false =>
          clear hc hk
          go_wp2_with (rw [unhide hW3])
          exact bodyPost_ret (results_cb_tmp (by exact Try.results19) _ _ _ _ _ _ rfl (unhide hF) Try.underlying37 (by kernel_rfl)) rfl ⟨⟨_, rfl, _, _, _, _, rfl, ⟨_, _, rfl, OwnV.nil _ _ _, OwnV.nil _ _ _, fun k hk => by cases hk⟩, ⟨_, _, rfl, OwnV.nil _ _ _, OwnV.nil _ _ _, fun k hk => by cases hk⟩, fun k hk => by rcases hk with hk | hk <;> cases hk⟩, unhide T9⟩
      | false =>
        clear hc hk
        go_wp2_with (rw [unhide hW3])
        exact bodyPost_ret (results_cb_tmp (by exact Try.results19) _ _ _ _ _ _ rfl (unhide hF) Try.underlying37 (by kernel_rfl)) rfl ⟨⟨_, rfl, _, _, _, _, rfl, ⟨_, _, rfl, OwnV.nil _ _ _, OwnV.nil _ _ _, fun k hk => by cases hk⟩, ⟨_, _, rfl, OwnV.nil _ _ _, OwnV.nil _ _ _, fun k hk => by cases hk⟩, fun k hk => by rcases hk with hk | hk <;> cases hk⟩, unhide T9⟩
    | true =>
      have hHH := unhide E2 (by rw [hk])
      have hk1 : k1 = true := by revert hk; cases k1 <;> simp
      have hk2 : k2 = true := by revert hk; cases k2 <;> simp
      subst hk1 hk2
      obtain ⟨W3, hW3, hA7, hB3, hs3⟩ := one_cb w3 #[.int .i64 S2.leaf, .slice b3 n3 e3, .slice b4 n4 e4] 26
      have T4 := T3.trans (hB3.mono T3.size)
      have hR4 := hR3.step hB3
      have hA8 := hA6.step hB3
      have o5 := hide ((unhide o4).below hB3)
      have o6 := hide ((unhide o3).below hB3)
      have of5 := hide (OwnSg.offs (lf := S1.leaf) (unhide o5) hR4 (by decide))
      have of6 := hide (OwnSg.offs (lf := S2.leaf) (unhide o6) hR4 (by decide))
      have G9 := (gSet (gSet (gSet (gSet (gSet (gSet (gSet (gR9 W3 (some w.heap.size)) 0 (.int .i64 S1.leaf)) 1 (.slice b1 n1 e1)) 2 (.slice b2 n2 e2)) 3 (.string (t.extract 49 53))) 4 (.int .i64 S2.leaf)) 5 (.slice b3 n3 e3)) 6 (.slice b4 n4 e4))
      have hF := hide ((((((((hR4).set 0 (.int .i64 S1.leaf)).set 1 (.slice b1 n1 e1)).set 2 (.slice b2 n2 e2)).set 3 (.string (t.extract 49 53))).set 4 (.int .i64 S2.leaf)).set 5 (.slice b3 n3 e3)).set 6 (.slice b4 n4 e4))
      have T9 := hide (T4.grown G9 T4.size (fun k hk => by cases hk; exact Nat.le_refl _))
      have o7 := hide (OwnSg.grownO (lf := S1.leaf) (unhide o5) G9 (unhide of5).1 (unhide of5).2)
      have o8 := hide (OwnSg.grownO (lf := S2.leaf) (unhide o6) G9 (unhide of6).1 (unhide of6).2)
      replace hW3 := hide hW3
      have r0 := hR4.cell 0 (v := (.int .i64 0)) rfl
      have r1 := hR4.cell 1 (v := (.slice none 0 0)) rfl
      have r2 := hR4.cell 2 (v := (.slice none 0 0)) rfl
      have r3 := hR4.cell 3 (v := (.string ⟨#[]⟩)) rfl
      have r4 := hR4.cell 4 (v := (.int .i64 0)) rfl
      have r5 := hR4.cell 5 (v := (.slice none 0 0)) rfl
      have r6 := hR4.cell 6 (v := (.slice none 0 0)) rfl
      have z0 := hR4.frozen 0
      have z1 := hR4.frozen 1
      have z2 := hR4.frozen 2
      have z3 := hR4.frozen 3
      have z4 := hR4.frozen 4
      have z5 := hR4.frozen 5
      have z6 := hR4.frozen 6
      have y0 := hA8.cell 0 (v := .int .i64 S1.leaf) rfl
      have y1 := hA8.cell 1 (v := .slice b1 n1 e1) rfl
      have y2 := hA8.cell 2 (v := .slice b2 n2 e2) rfl
      have x0 := hA7.cell 0 (v := .int .i64 S2.leaf) rfl
      have x1 := hA7.cell 1 (v := .slice b3 n3 e3) rfl
      have x2 := hA7.cell 2 (v := .slice b4 n4 e4) rfl
      subst hHH
      clear hB3 hs3 T3 hR3 hA6 hA7 hA8 E2 E3 o3 o4 o5 o6 T4 G9 hk
      go_wp2_with (rw [unhide hW3])
      go_region
      go_wp2
      exact bodyPost_ret (results_cb_tmp (by exact Try.results19) _ _ _ _ _ _ rfl (unhide hF).drewn Try.underlying37 (by kernel_rfl)) rfl ⟨⟨_, rfl, _, _, _, _, rfl, ((unhide o7).low (by omega)).below (Below.refl _ _).drew, ((unhide o8).low (by omega)).below (Below.refl _ _).drew, unhide ap⟩, (unhide T9).drew⟩
  · have hno : hrdOk t = false := by unfold hrdOk; rw [decide_eq_false h102]; rfl
    have ER := hide (show hrdS t = ⟨noSg, ⟨#[]⟩, noSg⟩ by unfold hrdS; rw [hno]; rfl)
    rw [unhide ER, hno]
    have h102' : ¬ (t.size : Int) = 102 := by omega
    clear ER hno h102
    go_enter Try.func19, Try.ntmps19
    go_wp2
    obtain ⟨W, hW, hR, hB, hs1⟩ := one_cb w #[.int .i64 0, .slice none 0 0, .slice none 0 0, .string ⟨#[]⟩, .int .i64 0, .slice none 0 0, .slice none 0 0] 37
    rw [hW]
    exact bodyPost_ret (results_cb_tmp (by exact Try.results19) _ _ _ _ _ _ rfl hR Try.underlying37 (by kernel_rfl)) rfl ⟨⟨_, rfl, _, _, _, _, rfl, ⟨_, _, rfl, OwnV.nil _ _ _, OwnV.nil _ _ _, fun k hk => by cases hk⟩, ⟨_, _, rfl, OwnV.nil _ _ _, OwnV.nil _ _ _, fun k hk => by cases hk⟩, fun k hk => by rcases hk with hk | hk <;> cases hk⟩, hB⟩
end Go.Proofs.Ytjgnjjphankhnaa

/- The laws on signatures of trees of trees, walked over the loaded program; what the project's functions answer are premises. -/
namespace Go.Proofs.Ytjgnjjphankhnaa
open Go.RowKit
theorem OwnHy.open {w : World} {base : Nat} {v : Value} {h : Hy} (ho : OwnHy w base v h) : ∃ a1 n1 c1 a2 n2 c2 a3 n3 c3 a4 n4 c4, v = .agg #[.int .i64 h.top.leaf, .slice a1 n1 c1, .slice a2 n2 c2, .string h.root, .int .i64 h.low.leaf, .slice a3 n3 c3, .slice a4 n4 c4] := ho.rd.open
def lnHy (h : Hy) (n : Nat) : Prop := (h.top.once.length ≤ n ∧ h.top.path.length ≤ n) ∧ h.low.once.length ≤ n ∧ h.low.path.length ≤ n
theorem lnHy.mono {h : Hy} {n m : Nat} (hl : lnHy h n) (hm : n ≤ m) : lnHy h m := by
  unfold lnHy at *
  omega
theorem sgn_len (s : ByteArray) (leaf : Int) (m : ByteArray) : (sgnS s leaf m).once.length ≤ 10 ∧ (sgnS s leaf m).path.length ≤ 10 := by
  unfold sgnS
  split
  next h => exact ⟨Nat.le_of_eq (onceS_len _ _ _ (keysO_len _ _)), by have : (pathL (lvsO s) leaf).length = 2 := pathL_len _ _ (lvsO_len _) h; show (pathL (lvsO s) leaf).length ≤ 10; omega⟩
  · exact ⟨Nat.zero_le _, Nat.zero_le _⟩
theorem rd_len (t : ByteArray) : (rdS t).once.length ≤ 10 ∧ (rdS t).path.length ≤ 10 := by
  unfold rdS
  split
  · exact ⟨by show ((List.range 10).map _).length ≤ 10; rw [List.length_map, List.length_range]; exact Nat.le_refl _, by show ((List.range 2).map _).length ≤ 10; rw [List.length_map, List.length_range]; omega⟩
  · exact ⟨Nat.zero_le _, Nat.zero_le _⟩
theorem hsgn_len (s : ByteArray) (i : Int) (m : ByteArray) : lnHy (hsgnS s i m) 10 := by
  unfold hsgnS
  split
  · exact ⟨sgn_len _ _ _, sgn_len _ _ _⟩
  · exact ⟨⟨Nat.zero_le _, Nat.zero_le _⟩, Nat.zero_le _, Nat.zero_le _⟩
theorem hrd_len (t : ByteArray) : lnHy (hrdS t) 10 := by
  unfold hrdS
  split
  · exact ⟨rd_len _, rd_len _⟩
  · exact ⟨⟨Nat.zero_le _, Nat.zero_le _⟩, Nat.zero_le _, Nat.zero_le _⟩
end Go.Proofs.Ytjgnjjphankhnaa

/- Draws of signatures of trees of trees, over the loaded program. -/
namespace Go.Proofs.Ytjgnjjphankhnaa
open Go.RowKit
/-- A row that is read, with room for what it holds. -/
def RdC (w : World) (v : Value) (xs : List Value) : Prop := RdV w v xs ∧ CapV v
theorem RdC.below {w w' : World} {v : Value} {xs : List Value} (h : RdC w v xs) (hb : Below w.heap.size w w') : RdC w' v xs := ⟨h.1.below hb, h.2⟩
theorem RdC.drew {w : World} {v : Value} {xs : List Value} (h : RdC w v xs) : RdC w.drew v xs := ⟨h.1.drew, h.2⟩
theorem RdC.grown {w w' : World} {v : Value} {xs : List Value} {r : Option Nat} (h : RdC w v xs) (hg : w.grownBy w' r) (hne : ∀ k, v.ownBlock = some k → r ≠ some k) : RdC w' v xs := ⟨h.1.grown hg hne, h.2⟩
def RB (w : World) (B : Nat) (v : Value) (xs : List ByteArray) : Prop := RdC w v (xs.map sv) ∧ ∀ k, v.ownBlock = some k → B ≤ k
theorem RB.below {w w' : World} {B : Nat} {v : Value} {xs : List ByteArray} (h : RB w B v xs) (hb : Below w.heap.size w w') : RB w' B v xs := ⟨h.1.below hb, h.2⟩
theorem RB.grown {w w' : World} {B g : Nat} {v : Value} {xs : List ByteArray} (h : RB w B v xs) (hG : w.grownBy w' (some g)) (hg : g < B) : RB w' B v xs :=
  ⟨h.1.grown hG (fun k hk e => by have := h.2 k hk; have := Option.some.inj e; omega), h.2⟩
/-- What is drawn: a signature of trees of trees, its rows in blocks from B on. -/
def DrwH (w : World) (B : Nat) (v : Value) : Prop := ∃ H : Hy, lnHy H 10 ∧ H.root.size ≤ 9 ∧ ∃ v1 v2 v3 v4, v = .agg #[.int .i64 H.top.leaf, v1, v2, .string H.root, .int .i64 H.low.leaf, v3, v4] ∧ RB w B v1 H.top.once ∧ RB w B v2 H.top.path ∧ RB w B v3 H.low.once ∧ RB w B v4 H.low.path
theorem DrwH.rd {w : World} {B : Nat} {v : Value} (h : DrwH w B v) : ∃ H : Hy, lnHy H 10 ∧ H.root.size ≤ 9 ∧ RdHy w v H := by
  obtain ⟨H, h1, h2, v1, v2, v3, v4, e, r1, r2, r3, r4⟩ := h
  exact ⟨H, h1, h2, v1, v2, v3, v4, e, r1.1.1, r2.1.1, r3.1.1, r4.1.1, r1.1.2, r2.1.2, r3.1.2, r4.1.2⟩
theorem DrwH.below {w w' : World} {B : Nat} {v : Value} (h : DrwH w B v) (hb : Below w.heap.size w w') : DrwH w' B v := by
  obtain ⟨H, h1, h2, v1, v2, v3, v4, e, r1, r2, r3, r4⟩ := h
  exact ⟨H, h1, h2, v1, v2, v3, v4, e, r1.below hb, r2.below hb, r3.below hb, r4.below hb⟩
theorem DrwH.grown {w w' : World} {B g : Nat} {v : Value} (h : DrwH w B v) (hG : w.grownBy w' (some g)) (hg : g < B) : DrwH w' B v := by
  obtain ⟨H, h1, h2, v1, v2, v3, v4, e, r1, r2, r3, r4⟩ := h
  exact ⟨H, h1, h2, v1, v2, v3, v4, e, r1.grown hG hg, r2.grown hG hg, r3.grown hG hg, r4.grown hG hg⟩
/-- A row beside the blocks g, g4, g7. -/
def RW (w : World) (g g4 g7 B : Nat) (v : Value) (xs : List ByteArray) : Prop := RdC w v (xs.map sv) ∧ ∀ k, v.ownBlock = some k → k ≠ g ∧ k ≠ g4 ∧ k ≠ g7 ∧ B ≤ k
theorem RW.below {w w' : World} {g g4 g7 B : Nat} {v : Value} {xs : List ByteArray} (h : RW w g g4 g7 B v xs) (hb : Below w.heap.size w w') : RW w' g g4 g7 B v xs := ⟨h.1.below hb, h.2⟩
theorem RW.grown {w w' : World} {g g4 g7 B : Nat} {v : Value} {xs : List ByteArray} (h : RW w g g4 g7 B v xs) (hG : w.grownBy w' (some g)) : RW w' g g4 g7 B v xs :=
  ⟨h.1.grown hG (fun k hk e => (h.2 k hk).1 (Option.some.inj e).symm), h.2⟩
theorem RW.set4 {w : World} {g g4 g7 B : Nat} {v : Value} {xs : List ByteArray} (h : RW w g g4 g7 B v xs) (k : Nat) (u : Value) : RW (w.setCell ⟨g4, k, none⟩ u) g g4 g7 B v xs :=
  ⟨h.1.grown (tS0 w g4 k u) (fun k hk e => (h.2 k hk).2.1 (Option.some.inj e).symm), h.2⟩
theorem RW.set7 {w : World} {g g4 g7 B : Nat} {v : Value} {xs : List ByteArray} (h : RW w g g4 g7 B v xs) (k : Nat) (u : Value) : RW (w.setCell ⟨g7, k, none⟩ u) g g4 g7 B v xs :=
  ⟨h.1.grown (tS0 w g7 k u) (fun k hk e => (h.2 k hk).2.2.1 (Option.some.inj e).symm), h.2⟩
theorem RW.all4 {W : World} {g g4 g7 B : Nat} {v : Value} {xs : List ByteArray} (h : RW W g g4 g7 B v xs) (a0 a1 a2 a3 a4 a5 a6 : Value) : RB (((((((W.setCell ⟨g4, 0, none⟩ a0).setCell ⟨g4, 1, none⟩ a1).setCell ⟨g4, 2, none⟩ a2).setCell ⟨g4, 3, none⟩ a3).setCell ⟨g4, 4, none⟩ a4).setCell ⟨g4, 5, none⟩ a5).setCell ⟨g4, 6, none⟩ a6).drew B v xs :=
  ⟨((((((((h.set4 0 a0).set4 1 a1).set4 2 a2).set4 3 a3).set4 4 a4).set4 5 a5).set4 6 a6).1).drew, fun k hk => (h.2 k hk).2.2.2⟩
theorem fin17 {w W : World} {base g g4 n c : Nat} {o : Option Addr} {T : TypeId} {x0 x1 x2 x3 x4 x5 x6 : Value} (hg : g < w.heap.size) (hg4 : w.heap.size ≤ g4) (a0 a1 a2 a3 a4 a5 a6 : Value) (P4 : CB W g4 T #[x0, x1, x2, x3, x4, x5, x6]) (G : w.grownBy W (some g)) (hc : Cur W base g o n c) :
    CB (((((((W.setCell ⟨g4, 0, none⟩ a0).setCell ⟨g4, 1, none⟩ a1).setCell ⟨g4, 2, none⟩ a2).setCell ⟨g4, 3, none⟩ a3).setCell ⟨g4, 4, none⟩ a4).setCell ⟨g4, 5, none⟩ a5).setCell ⟨g4, 6, none⟩ a6).drew g4 T #[a0, a1, a2, a3, a4, a5, a6] ∧ w.grownBy (((((((W.setCell ⟨g4, 0, none⟩ a0).setCell ⟨g4, 1, none⟩ a1).setCell ⟨g4, 2, none⟩ a2).setCell ⟨g4, 3, none⟩ a3).setCell ⟨g4, 4, none⟩ a4).setCell ⟨g4, 5, none⟩ a5).setCell ⟨g4, 6, none⟩ a6).drew (some g) ∧ Cur (((((((W.setCell ⟨g4, 0, none⟩ a0).setCell ⟨g4, 1, none⟩ a1).setCell ⟨g4, 2, none⟩ a2).setCell ⟨g4, 3, none⟩ a3).setCell ⟨g4, 4, none⟩ a4).setCell ⟨g4, 5, none⟩ a5).setCell ⟨g4, 6, none⟩ a6).drew base g o n c := by
  have hb : Below w.heap.size W (((((((W.setCell ⟨g4, 0, none⟩ a0).setCell ⟨g4, 1, none⟩ a1).setCell ⟨g4, 2, none⟩ a2).setCell ⟨g4, 3, none⟩ a3).setCell ⟨g4, 4, none⟩ a4).setCell ⟨g4, 5, none⟩ a5).setCell ⟨g4, 6, none⟩ a6).drew := ((((((((Below.refl _ _).setCell (p := ⟨g4, 0, none⟩) hg4 a0).setCell (p := ⟨g4, 1, none⟩) hg4 a1).setCell (p := ⟨g4, 2, none⟩) hg4 a2).setCell (p := ⟨g4, 3, none⟩) hg4 a3).setCell (p := ⟨g4, 4, none⟩) hg4 a4).setCell (p := ⟨g4, 5, none⟩) hg4 a5).setCell (p := ⟨g4, 6, none⟩) hg4 a6).drew
  have p0 : CB _ g4 T #[a0, x1, x2, x3, x4, x5, x6] := P4.set 0 a0
  have p1 : CB _ g4 T #[a0, a1, x2, x3, x4, x5, x6] := p0.set 1 a1
  have p2 : CB _ g4 T #[a0, a1, a2, x3, x4, x5, x6] := p1.set 2 a2
  have p3 : CB _ g4 T #[a0, a1, a2, a3, x4, x5, x6] := p2.set 3 a3
  have p4 : CB _ g4 T #[a0, a1, a2, a3, a4, x5, x6] := p3.set 4 a4
  have p5 : CB _ g4 T #[a0, a1, a2, a3, a4, a5, x6] := p4.set 5 a5
  have p6 : CB _ g4 T #[a0, a1, a2, a3, a4, a5, a6] := p5.set 6 a6
  exact ⟨p6.drewn, gTB G hb, hc.below hb hg⟩
theorem fin17b {w W : World} {g4 : Nat} {T : TypeId} {x0 x1 x2 x3 x4 x5 x6 : Value} (hg4 : w.heap.size ≤ g4) (a0 a1 a2 a3 a4 a5 a6 : Value) (P4 : CB W g4 T #[x0, x1, x2, x3, x4, x5, x6]) (hb2 : Below w.heap.size w W) :
    CB (((((((W.setCell ⟨g4, 0, none⟩ a0).setCell ⟨g4, 1, none⟩ a1).setCell ⟨g4, 2, none⟩ a2).setCell ⟨g4, 3, none⟩ a3).setCell ⟨g4, 4, none⟩ a4).setCell ⟨g4, 5, none⟩ a5).setCell ⟨g4, 6, none⟩ a6) g4 T #[a0, a1, a2, a3, a4, a5, a6] ∧ Below w.heap.size w (((((((W.setCell ⟨g4, 0, none⟩ a0).setCell ⟨g4, 1, none⟩ a1).setCell ⟨g4, 2, none⟩ a2).setCell ⟨g4, 3, none⟩ a3).setCell ⟨g4, 4, none⟩ a4).setCell ⟨g4, 5, none⟩ a5).setCell ⟨g4, 6, none⟩ a6) := by
  have p0 : CB _ g4 T #[a0, x1, x2, x3, x4, x5, x6] := P4.set 0 a0
  have p1 : CB _ g4 T #[a0, a1, x2, x3, x4, x5, x6] := p0.set 1 a1
  have p2 : CB _ g4 T #[a0, a1, a2, x3, x4, x5, x6] := p1.set 2 a2
  have p3 : CB _ g4 T #[a0, a1, a2, a3, x4, x5, x6] := p2.set 3 a3
  have p4 : CB _ g4 T #[a0, a1, a2, a3, a4, x5, x6] := p3.set 4 a4
  have p5 : CB _ g4 T #[a0, a1, a2, a3, a4, a5, x6] := p4.set 5 a5
  have p6 : CB _ g4 T #[a0, a1, a2, a3, a4, a5, a6] := p5.set 6 a6
  exact ⟨p6, ((((((hb2.setCell (p := ⟨g4, 0, none⟩) hg4 a0).setCell (p := ⟨g4, 1, none⟩) hg4 a1).setCell (p := ⟨g4, 2, none⟩) hg4 a2).setCell (p := ⟨g4, 3, none⟩) hg4 a3).setCell (p := ⟨g4, 4, none⟩) hg4 a4).setCell (p := ⟨g4, 5, none⟩) hg4 a5).setCell (p := ⟨g4, 6, none⟩) hg4 a6⟩
theorem DrwH.all7 {W : World} {B g4 : Nat} {v : Value} (h : DrwH W B v) (hg : g4 < B) (a0 a1 a2 a3 a4 a5 a6 : Value) : DrwH (((((((W.setCell ⟨g4, 0, none⟩ a0).setCell ⟨g4, 1, none⟩ a1).setCell ⟨g4, 2, none⟩ a2).setCell ⟨g4, 3, none⟩ a3).setCell ⟨g4, 4, none⟩ a4).setCell ⟨g4, 5, none⟩ a5).setCell ⟨g4, 6, none⟩ a6) B v :=
  ((((((h.grown (tS0 _ g4 0 a0) hg).grown (tS0 _ g4 1 a1) hg).grown (tS0 _ g4 2 a2) hg).grown (tS0 _ g4 3 a3) hg).grown (tS0 _ g4 4 a4) hg).grown (tS0 _ g4 5 a5) hg).grown (tS0 _ g4 6 a6) hg
theorem end17 {w W : World} {base g g4 g7 n c : Nat} {o : Option Addr} {T : TypeId} {x0 x1 x2 x3 x4 x5 x6 : Value} (hg : g < w.heap.size) (hg4 : w.heap.size ≤ g4) (top low : Sg) (root : ByteArray) {v1 v2 v3 v4 : Value} (hl : lnHy ⟨top, root, low⟩ 10) (hr : root.size ≤ 9)
    (q1 : RW W g g4 g7 w.heap.size v1 top.once) (q2 : RW W g g4 g7 w.heap.size v2 top.path) (q3 : RW W g g4 g7 w.heap.size v3 low.once) (q4 : RW W g g4 g7 w.heap.size v4 low.path) (P4 : CB W g4 T #[x0, x1, x2, x3, x4, x5, x6]) (G : w.grownBy W (some g)) (hc : Cur W base g o n c) :
    CB (((((((W.setCell ⟨g4, 0, none⟩ (.int .i64 top.leaf)).setCell ⟨g4, 1, none⟩ v1).setCell ⟨g4, 2, none⟩ v2).setCell ⟨g4, 3, none⟩ (.string root)).setCell ⟨g4, 4, none⟩ (.int .i64 low.leaf)).setCell ⟨g4, 5, none⟩ v3).setCell ⟨g4, 6, none⟩ v4).drew g4 T #[.int .i64 top.leaf, v1, v2, .string root, .int .i64 low.leaf, v3, v4] ∧ DrwH (((((((W.setCell ⟨g4, 0, none⟩ (.int .i64 top.leaf)).setCell ⟨g4, 1, none⟩ v1).setCell ⟨g4, 2, none⟩ v2).setCell ⟨g4, 3, none⟩ (.string root)).setCell ⟨g4, 4, none⟩ (.int .i64 low.leaf)).setCell ⟨g4, 5, none⟩ v3).setCell ⟨g4, 6, none⟩ v4).drew w.heap.size (.agg #[.int .i64 top.leaf, v1, v2, .string root, .int .i64 low.leaf, v3, v4]) ∧ w.grownBy (((((((W.setCell ⟨g4, 0, none⟩ (.int .i64 top.leaf)).setCell ⟨g4, 1, none⟩ v1).setCell ⟨g4, 2, none⟩ v2).setCell ⟨g4, 3, none⟩ (.string root)).setCell ⟨g4, 4, none⟩ (.int .i64 low.leaf)).setCell ⟨g4, 5, none⟩ v3).setCell ⟨g4, 6, none⟩ v4).drew (some g) ∧ Cur (((((((W.setCell ⟨g4, 0, none⟩ (.int .i64 top.leaf)).setCell ⟨g4, 1, none⟩ v1).setCell ⟨g4, 2, none⟩ v2).setCell ⟨g4, 3, none⟩ (.string root)).setCell ⟨g4, 4, none⟩ (.int .i64 low.leaf)).setCell ⟨g4, 5, none⟩ v3).setCell ⟨g4, 6, none⟩ v4).drew base g o n c := by
  obtain ⟨h1, h2, h3⟩ := fin17 hg hg4 (.int .i64 top.leaf) v1 v2 (.string root) (.int .i64 low.leaf) v3 v4 P4 G hc
  exact ⟨h1, ⟨⟨top, root, low⟩, hl, hr, v1, v2, v3, v4, rfl, q1.all4 _ _ _ _ _ _ _, q2.all4 _ _ _ _ _ _ _, q3.all4 _ _ _ _ _ _ _, q4.all4 _ _ _ _ _ _ _⟩, h2, h3⟩
theorem DrwG.full {w : World} {B : Nat} {v : Value} (h : DrwG w B v) : ∃ (S : Sg) (a1 : Option Addr) (n1 c1 : Nat) (a2 : Option Addr) (n2 c2 : Nat), v = .agg #[.int .i64 S.leaf, .slice a1 n1 c1, .slice a2 n2 c2] ∧ (S.once.length ≤ 10 ∧ S.path.length ≤ 10) ∧ RdC w (.slice a1 n1 c1) (S.once.map sv) ∧ RdC w (.slice a2 n2 c2) (S.path.map sv) ∧ (∀ k, (Value.slice a1 n1 c1).ownBlock = some k → B ≤ k) ∧ ∀ k, (Value.slice a2 n2 c2).ownBlock = some k → B ≤ k := by
  obtain ⟨S, h1, h2, v1, v2, e, r1, r2, l1, l2, q1, q2⟩ := h
  obtain ⟨s1, d1, e1, _⟩ := r1.open
  obtain ⟨s2, d2, e2, _⟩ := r2.open
  subst e1 e2
  exact ⟨S, _, _, _, _, _, _, e, ⟨h1, by omega⟩, ⟨r1, q1⟩, ⟨r2, q2⟩, l1, l2⟩
theorem OwnHy.full {w : World} {base : Nat} {v : Value} {H : Hy} (h : OwnHy w base v H) : ∃ (a1 : Option Addr) (n1 c1 : Nat) (a2 : Option Addr) (n2 c2 : Nat) (a3 : Option Addr) (n3 c3 : Nat) (a4 : Option Addr) (n4 c4 : Nat), v = .agg #[.int .i64 H.top.leaf, .slice a1 n1 c1, .slice a2 n2 c2, .string H.root, .int .i64 H.low.leaf, .slice a3 n3 c3, .slice a4 n4 c4] ∧ (RdC w (.slice a1 n1 c1) (H.top.once.map sv) ∧ ∀ k, (Value.slice a1 n1 c1).ownBlock = some k → base ≤ k ∧ k < w.heap.size) ∧ (RdC w (.slice a2 n2 c2) (H.top.path.map sv) ∧ ∀ k, (Value.slice a2 n2 c2).ownBlock = some k → base ≤ k ∧ k < w.heap.size) ∧ (RdC w (.slice a3 n3 c3) (H.low.once.map sv) ∧ ∀ k, (Value.slice a3 n3 c3).ownBlock = some k → base ≤ k ∧ k < w.heap.size) ∧ (RdC w (.slice a4 n4 c4) (H.low.path.map sv) ∧ ∀ k, (Value.slice a4 n4 c4).ownBlock = some k → base ≤ k ∧ k < w.heap.size) := by
  obtain ⟨v1, v2, v3, v4, e, oT, oL, _⟩ := h
  obtain ⟨t1, t2, _⟩ := oT.rows
  obtain ⟨l1, l2, _⟩ := oL.rows
  obtain ⟨s1, d1, e1⟩ := t1.shape
  obtain ⟨s2, d2, e2⟩ := t2.shape
  obtain ⟨s3, d3, e3⟩ := l1.shape
  obtain ⟨s4, d4, e4⟩ := l2.shape
  subst e1 e2 e3 e4
  exact ⟨_, _, _, _, _, _, _, _, _, _, _, _, e, ⟨⟨t1.rdv, t1.capv⟩, t1.lt⟩, ⟨⟨t2.rdv, t2.capv⟩, t2.lt⟩, ⟨⟨l1.rdv, l1.capv⟩, l1.lt⟩, ⟨⟨l2.rdv, l2.capv⟩, l2.lt⟩⟩
set_option maxRecDepth 20000 in
set_option maxHeartbeats 3200000 in
theorem l17Hyper_any {w : World} {base g n c : Nat} {o : Option Addr} (h : Cur w base g o n c) (hn : n ≤ 1048576) :
    Calls Try.prog 46 #[.pointer (some ⟨g, 0, none⟩)] w fun e w' => ∃ (s m : ByteArray) (v : Value), s.size ≤ 9 ∧ m.size ≤ 9 ∧ e = .returned (.tuple #[.string s, .string m, v]) ∧ DrwH w' w.heap.size v ∧ w.grownBy w' (some g) ∧ Cur w' base g o n c := by
  have hg := h.lt
  go_enter Try.func46, Try.ntmps46
  go_wp2_with fail
  obtain ⟨W, hW, P4, hB, hs1⟩ := one_cb w #[(.int .i64 0), (.slice none 0 0), (.slice none 0 0), (.string ⟨#[]⟩), (.int .i64 0), (.slice none 0 0), (.slice none 0 0)] 37
  rw [hW]
  clear hW
  have g4ne : g ≠ w.heap.size := by omega
  obtain ⟨g4, hg4⟩ : ∃ x, x = w.heap.size := ⟨_, rfl⟩
  rw [← hg4] at P4 g4ne ⊢
  have hg4l : w.heap.size ≤ g4 := by omega
  clear hg4
  have hc0 := h.below hB hg
  have G0 := hide (gB hB (some g))
  clear h hB hs1
  refine (l16Seed_any hc0 hn).mono ?_
  rintro e w1 ⟨s, hs, rfl, h1, hc1⟩
  have G1 := hide (gT (unhide G0) h1)
  have P4a := P4.grown h1 (fun e => g4ne (Option.some.inj e))
  clear hc0 h1 G0 P4
  go_wp2_with fail
  refine (l01Below_any hc1 hn 4 (by decide) (by decide)).mono ?_
  rintro e w2 ⟨x, hx, rfl, ho2, hc2⟩
  have G2 := hide (gT (unhide G1) (gO ho2))
  have P4b := P4a.grown (gO ho2) (fun e => g4ne (Option.some.inj e))
  clear hc1 ho2 G1 P4a
  go_wp2_with fail
  refine (l01Text_g hc2 hn x (by omega)).mono ?_
  rintro e w3 ⟨l, hl, rfl, h3, hc3⟩
  have hm : (ByteArray.mk l.toArray).size ≤ 9 := by show l.toArray.size ≤ 9; simp; omega
  generalize ByteArray.mk l.toArray = m at *
  have G3 := hide (gT (unhide G2) h3)
  have P4c := P4b.grown h3 (fun e => g4ne (Option.some.inj e))
  clear hc2 h3 G2 P4b hl hx
  go_wp2_with fail
  refine (l01Below_any hc3 hn 16 (by decide) (by decide)).mono ?_
  rintro e w4 ⟨y, hy, rfl, ho4, hc4⟩
  have G4 := hide (gT (unhide G3) (gO ho4))
  have P4d := P4c.grown (gO ho4) (fun e => g4ne (Option.some.inj e))
  have hin : (0 : Int) ≤ (y : Int) ∧ (y : Int) ≤ 15 := by omega
  have CS := hide (specHyperSign_any s (y : Int) m (by omega) (by omega) w4)
  rw [decide_eq_true hin] at CS
  have hl := hsgn_len s (y : Int) m
  have hrt : (hsgnS s (y : Int) m).root.size ≤ 9 := by have := htxOk_root (hsgn_ok s (y : Int) m hin); omega
  generalize hsgnS s (y : Int) m = S at *
  clear hc3 ho4 G3 P4c hin hy
  go_wp2_with fail
  refine (unhide CS).mono ?_
  rintro e w5 ⟨⟨v5, rfl, o5⟩, hb5⟩
  have hc5 := hc4.below hb5 hc4.lt
  have G5 := hide (gT (unhide G4) (gB hb5 (some g)))
  have P4e := P4d.step hb5
  have l4 := P4d.lt
  have lg := hc4.lt
  have lw := (unhide G4).size
  obtain ⟨a1, an1, ac1, a2, an2, ac2, a3, an3, ac3, a4, an4, ac4, rfl, ⟨t1, b1⟩, ⟨t2, b2⟩, ⟨t3, b3⟩, ⟨t4, b4⟩⟩ := o5.full
  clear hb5 CS P4d hc4 G4 o5
  go_wp2_with fail
  obtain ⟨W5, hW, P7, hB5, hs5⟩ := one_cb w5 #[(.int .i64 S.top.leaf), (.slice a1 an1 ac1), (.slice a2 an2 ac2), (.string S.root), (.int .i64 S.low.leaf), (.slice a3 an3 ac3), (.slice a4 an4 ac4)] 37
  rw [hW]
  clear hW
  have g7ne : g ≠ w5.heap.size := by have := hc5.lt; omega
  have g47 : g4 ≠ w5.heap.size := by have := P4e.lt; omega
  obtain ⟨g7, hg7⟩ : ∃ x, x = w5.heap.size := ⟨_, rfl⟩
  rw [← hg7] at P7 g7ne g47 b1 b2 b3 b4 ⊢
  have hg7l : w.heap.size ≤ g7 := by have := (unhide G5).size; omega
  have q1 := hide (show RW W5 g g4 g7 w.heap.size (.slice a1 an1 ac1) S.top.once from ⟨t1.below hB5, fun k hk => by have := b1 k hk; omega⟩)
  have q2 := hide (show RW W5 g g4 g7 w.heap.size (.slice a2 an2 ac2) S.top.path from ⟨t2.below hB5, fun k hk => by have := b2 k hk; omega⟩)
  have q3 := hide (show RW W5 g g4 g7 w.heap.size (.slice a3 an3 ac3) S.low.once from ⟨t3.below hB5, fun k hk => by have := b3 k hk; omega⟩)
  have q4 := hide (show RW W5 g g4 g7 w.heap.size (.slice a4 an4 ac4) S.low.path from ⟨t4.below hB5, fun k hk => by have := b4 k hk; omega⟩)
  have hc6 := hc5.below hB5 hc5.lt
  have G6 := hide (gT (unhide G5) (gB hB5 (some g)))
  have P4f := P4e.step hB5
  clear hc5 G5 P4e t1 t2 t3 t4 b1 b2 b3 b4 hB5 hs5 hg7 l4 lg lw
  refine (l01Below_any hc6 hn 12 (by decide) (by decide)).mono ?_
  rintro e w6 ⟨z, hz, rfl, ho6, hc7⟩
  have G7 := hide (gT (unhide G6) (gO ho6))
  have P4g := P4f.grown (gO ho6) (fun e => g4ne (Option.some.inj e))
  have P7g := P7.grown (gO ho6) (fun e => g7ne (Option.some.inj e))
  have q1b := hide ((unhide q1).grown (gO ho6))
  have q2b := hide ((unhide q2).grown (gO ho6))
  have q3b := hide ((unhide q3).grown (gO ho6))
  have q4b := hide ((unhide q4).grown (gO ho6))
  have hgl := hc7.lt
  replace hc7 := hide hc7
  clear hc6 G6 P4f P7 q1 q2 q3 q4 ho6
  by_cases hz3 : 3 ≤ z
  · have z0 : ¬ (z : Int) = 0 := by omega
    have z1 : ¬ (z : Int) = 1 := by omega
    have z2 : ¬ (z : Int) = 2 := by omega
    go_wp2
    have p0 := P7g.cell 0 (v := (.int .i64 S.top.leaf)) rfl
    have p1 := P7g.cell 1 (v := (.slice a1 an1 ac1)) rfl
    have p2 := P7g.cell 2 (v := (.slice a2 an2 ac2)) rfl
    have p3 := P7g.cell 3 (v := (.string S.root)) rfl
    have p4 := P7g.cell 4 (v := (.int .i64 S.low.leaf)) rfl
    have p5 := P7g.cell 5 (v := (.slice a3 an3 ac3)) rfl
    have p6 := P7g.cell 6 (v := (.slice a4 an4 ac4)) rfl
    have r0 := P4g.cell 0 (v := (.int .i64 0)) rfl
    have r1 := P4g.cell 1 (v := (.slice none 0 0)) rfl
    have r2 := P4g.cell 2 (v := (.slice none 0 0)) rfl
    have r3 := P4g.cell 3 (v := (.string ⟨#[]⟩)) rfl
    have r4 := P4g.cell 4 (v := (.int .i64 0)) rfl
    have r5 := P4g.cell 5 (v := (.slice none 0 0)) rfl
    have r6 := P4g.cell 6 (v := (.slice none 0 0)) rfl
    have f0 := P4g.frozen 0
    have f1 := P4g.frozen 1
    have f2 := P4g.frozen 2
    have f3 := P4g.frozen 3
    have f4 := P4g.frozen 4
    have f5 := P4g.frozen 5
    have f6 := P4g.frozen 6
    go_region
    go_wp2
    have hF := hide (end17 hg hg4l S.top S.low S.root hl hrt (unhide q1b) (unhide q2b) (unhide q3b) (unhide q4b) P4g (unhide G7) (unhide hc7))
    exact bodyPost_ret (results_tt_cb (by exact Try.results46) _ _ _ _ _ _ rfl (show CB _ g4 37 #[(.int .i64 S.top.leaf), (.slice a1 an1 ac1), (.slice a2 an2 ac2), (.string S.root), (.int .i64 S.low.leaf), (.slice a3 an3 ac3), (.slice a4 an4 ac4)] from (unhide hF).1) Try.underlying37 (by kernel_rfl)) rfl ⟨s, m, _, hs, hm, rfl, (unhide hF).2.1, (unhide hF).2.2.1, (unhide hF).2.2.2⟩
  by_cases hz0 : z = 0
  · have z0 : (z : Int) = 0 := by omega
    go_wp2_with fail
    have hB7 := (Below.refl w6.heap.size w6).alloc (Nat.le_refl _) (.cells #[.int .i64 3, .int .i64 4, .int .i64 4] 3)
    refine (l01PickP_any upTo9 ((unhide hc7).below hB7 hgl) hn w6.heap.size 3 3 (by decide) (by decide) (num3_b w6 _) (by omega)).mono ?_
    rintro e w8 ⟨zz, ⟨q, rfl, hq⟩, rfl, ho8, hc8⟩
    have hG := hide (gT (gB hB7 (some g)) (gO ho8))
    clear hc7 ho8 hB7
    go_wp2_with fail
    refine (l01Text_g hc8 hn q (by omega)).mono ?_
    rintro e w9 ⟨lt, hlt, rfl, gT1, hc9⟩
    replace hG := hide (gT (unhide hG) gT1)
    have htx : (ByteArray.mk lt.toArray).size ≤ 9 := by show lt.toArray.size ≤ 9; simp; omega
    generalize ByteArray.mk lt.toArray = tx at *
    have P7h := P7g.grown (unhide hG) (fun e => g7ne (Option.some.inj e))
    have P4h := P4g.grown (unhide hG) (fun e => g4ne (Option.some.inj e))
    have p3 := P7h.cell 3 (v := .string S.root) rfl
    have u3 := P7h.frozen 3
    have q1d := hide (((unhide q1b).grown (unhide hG)).set7 3 (.string tx))
    have q2d := hide (((unhide q2b).grown (unhide hG)).set7 3 (.string tx))
    have q3d := hide (((unhide q3b).grown (unhide hG)).set7 3 (.string tx))
    have q4d := hide (((unhide q4b).grown (unhide hG)).set7 3 (.string tx))
    have G8 := hide (gT (unhide G7) (unhide hG))
    replace hc9 := hide hc9
    clear hc8 gT1 hlt hq q1b q2b q3b q4b G7 P7g P4g hG
    go_wp2
    have P7i := P7h.set 3 (.string tx)
    have P4i := P4h.set_other (h := g7) (k := 3) g47 (.string tx)
    have hB8 : Below w.heap.size w9 (w9.setCell ⟨g7, 3, none⟩ (.string tx)) := (Below.refl _ _).setCell (p := ⟨g7, 3, none⟩) hg7l _
    have G9 := hide (gTB (unhide G8) hB8)
    have hc10 := hide ((unhide hc9).below hB8 hg)
    clear p3 u3 P7h P4h hB8 G8 hc9
    generalize w9.setCell ⟨g7, 3, none⟩ (.string tx) = W8 at *
    have p0 := P7i.cell 0 (v := (.int .i64 S.top.leaf)) rfl
    have p1 := P7i.cell 1 (v := (.slice a1 an1 ac1)) rfl
    have p2 := P7i.cell 2 (v := (.slice a2 an2 ac2)) rfl
    have p3 := P7i.cell 3 (v := (.string tx)) rfl
    have p4 := P7i.cell 4 (v := (.int .i64 S.low.leaf)) rfl
    have p5 := P7i.cell 5 (v := (.slice a3 an3 ac3)) rfl
    have p6 := P7i.cell 6 (v := (.slice a4 an4 ac4)) rfl
    have r0 := P4i.cell 0 (v := (.int .i64 0)) rfl
    have r1 := P4i.cell 1 (v := (.slice none 0 0)) rfl
    have r2 := P4i.cell 2 (v := (.slice none 0 0)) rfl
    have r3 := P4i.cell 3 (v := (.string ⟨#[]⟩)) rfl
    have r4 := P4i.cell 4 (v := (.int .i64 0)) rfl
    have r5 := P4i.cell 5 (v := (.slice none 0 0)) rfl
    have r6 := P4i.cell 6 (v := (.slice none 0 0)) rfl
    have f0 := P4i.frozen 0
    have f1 := P4i.frozen 1
    have f2 := P4i.frozen 2
    have f3 := P4i.frozen 3
    have f4 := P4i.frozen 4
    have f5 := P4i.frozen 5
    have f6 := P4i.frozen 6
    go_region
    go_wp2
    have hF := hide (end17 hg hg4l S.top S.low tx hl htx (unhide q1d) (unhide q2d) (unhide q3d) (unhide q4d) P4i (unhide G9) (unhide hc10))
    exact bodyPost_ret (results_tt_cb (by exact Try.results46) _ _ _ _ _ _ rfl (show CB _ g4 37 #[(.int .i64 S.top.leaf), (.slice a1 an1 ac1), (.slice a2 an2 ac2), (.string tx), (.int .i64 S.low.leaf), (.slice a3 an3 ac3), (.slice a4 an4 ac4)] from (unhide hF).1) Try.underlying37 (by kernel_rfl)) rfl ⟨s, m, _, hs, hm, rfl, (unhide hF).2.1, (unhide hF).2.2.1, (unhide hF).2.2.2⟩
  by_cases hz1 : z = 1
  · have z0 : ¬ (z : Int) = 0 := by omega
    have z1 : (z : Int) = 1 := by omega
    go_wp2_with fail
    refine (l16Sig_any (unhide hc7) hn).mono ?_
    rintro e w8 ⟨s', m', v', hs', hm', rfl, hD, hG, hc8⟩
    obtain ⟨D, d1, dn1, dc1, d2, dn2, dc2, rfl, hDl, y1, y2, j1, j2⟩ := hD.full
    have P7h := P7g.grown hG (fun e => g7ne (Option.some.inj e))
    have P4h := P4g.grown hG (fun e => g4ne (Option.some.inj e))
    have l7 := P7g.lt
    have l4 := P4g.lt
    have lw := (unhide G7).size
    have k1 := hide (show RW w8 g g4 g7 w.heap.size (.slice d1 dn1 dc1) D.once from ⟨y1, fun k hk => by have := j1 k hk; omega⟩)
    have k2 := hide (show RW w8 g g4 g7 w.heap.size (.slice d2 dn2 dc2) D.path from ⟨y2, fun k hk => by have := j2 k hk; omega⟩)
    have p0 := P7h.cell 0 (v := (.int .i64 S.top.leaf)) rfl
    have p1 := P7h.cell 1 (v := (.slice a1 an1 ac1)) rfl
    have p2 := P7h.cell 2 (v := (.slice a2 an2 ac2)) rfl
    have u0 := P7h.frozen 0
    have u1 := P7h.frozen 1
    have u2 := P7h.frozen 2
    have q1d := hide (((((unhide q1b).grown hG).set7 0 (.int .i64 D.leaf)).set7 1 (.slice d1 dn1 dc1)).set7 2 (.slice d2 dn2 dc2))
    have q2d := hide (((((unhide q2b).grown hG).set7 0 (.int .i64 D.leaf)).set7 1 (.slice d1 dn1 dc1)).set7 2 (.slice d2 dn2 dc2))
    have q3d := hide (((((unhide q3b).grown hG).set7 0 (.int .i64 D.leaf)).set7 1 (.slice d1 dn1 dc1)).set7 2 (.slice d2 dn2 dc2))
    have q4d := hide (((((unhide q4b).grown hG).set7 0 (.int .i64 D.leaf)).set7 1 (.slice d1 dn1 dc1)).set7 2 (.slice d2 dn2 dc2))
    have k1d := hide ((((unhide k1).set7 0 (.int .i64 D.leaf)).set7 1 (.slice d1 dn1 dc1)).set7 2 (.slice d2 dn2 dc2))
    have k2d := hide ((((unhide k2).set7 0 (.int .i64 D.leaf)).set7 1 (.slice d1 dn1 dc1)).set7 2 (.slice d2 dn2 dc2))
    have G8 := hide (gT (unhide G7) hG)
    replace hc8 := hide hc8
    clear hc7 hG hD y1 y2 j1 j2 k1 k2 q1b q2b q3b q4b G7 P7g P4g l7 l4 lw
    go_wp2
    have P7i := ((P7h.set 0 (.int .i64 D.leaf)).set 1 (.slice d1 dn1 dc1)).set 2 (.slice d2 dn2 dc2)
    have P4i := ((P4h.set_other (h := g7) (k := 0) g47 (.int .i64 D.leaf)).set_other (h := g7) (k := 1) g47 (.slice d1 dn1 dc1)).set_other (h := g7) (k := 2) g47 (.slice d2 dn2 dc2)
    have hB8 : Below w.heap.size w8 (((w8.setCell ⟨g7, 0, none⟩ (.int .i64 D.leaf)).setCell ⟨g7, 1, none⟩ (.slice d1 dn1 dc1)).setCell ⟨g7, 2, none⟩ (.slice d2 dn2 dc2)) := (((Below.refl _ _).setCell (p := ⟨g7, 0, none⟩) hg7l _).setCell (p := ⟨g7, 1, none⟩) hg7l _).setCell (p := ⟨g7, 2, none⟩) hg7l _
    have G9 := hide (gTB (unhide G8) hB8)
    have hc10 := hide ((unhide hc8).below hB8 hg)
    clear p0 p1 p2 u0 u1 u2 P7h P4h hB8 G8 hc8
    generalize ((w8.setCell ⟨g7, 0, none⟩ (.int .i64 D.leaf)).setCell ⟨g7, 1, none⟩ (.slice d1 dn1 dc1)).setCell ⟨g7, 2, none⟩ (.slice d2 dn2 dc2) = W8 at *
    have p0 := P7i.cell 0 (v := (.int .i64 D.leaf)) rfl
    have p1 := P7i.cell 1 (v := (.slice d1 dn1 dc1)) rfl
    have p2 := P7i.cell 2 (v := (.slice d2 dn2 dc2)) rfl
    have p3 := P7i.cell 3 (v := (.string S.root)) rfl
    have p4 := P7i.cell 4 (v := (.int .i64 S.low.leaf)) rfl
    have p5 := P7i.cell 5 (v := (.slice a3 an3 ac3)) rfl
    have p6 := P7i.cell 6 (v := (.slice a4 an4 ac4)) rfl
    have r0 := P4i.cell 0 (v := (.int .i64 0)) rfl
    have r1 := P4i.cell 1 (v := (.slice none 0 0)) rfl
    have r2 := P4i.cell 2 (v := (.slice none 0 0)) rfl
    have r3 := P4i.cell 3 (v := (.string ⟨#[]⟩)) rfl
    have r4 := P4i.cell 4 (v := (.int .i64 0)) rfl
    have r5 := P4i.cell 5 (v := (.slice none 0 0)) rfl
    have r6 := P4i.cell 6 (v := (.slice none 0 0)) rfl
    have f0 := P4i.frozen 0
    have f1 := P4i.frozen 1
    have f2 := P4i.frozen 2
    have f3 := P4i.frozen 3
    have f4 := P4i.frozen 4
    have f5 := P4i.frozen 5
    have f6 := P4i.frozen 6
    go_region
    go_wp2
    have hF := hide (end17 hg hg4l D S.low S.root ⟨hDl, hl.2⟩ hrt (unhide k1d) (unhide k2d) (unhide q3d) (unhide q4d) P4i (unhide G9) (unhide hc10))
    exact bodyPost_ret (results_tt_cb (by exact Try.results46) _ _ _ _ _ _ rfl (show CB _ g4 37 #[(.int .i64 D.leaf), (.slice d1 dn1 dc1), (.slice d2 dn2 dc2), (.string S.root), (.int .i64 S.low.leaf), (.slice a3 an3 ac3), (.slice a4 an4 ac4)] from (unhide hF).1) Try.underlying37 (by kernel_rfl)) rfl ⟨s, m, _, hs, hm, rfl, (unhide hF).2.1, (unhide hF).2.2.1, (unhide hF).2.2.2⟩
  have hz2 : z = 2 := by omega
  have z0 : ¬ (z : Int) = 0 := by omega
  have z1 : ¬ (z : Int) = 1 := by omega
  have z2 : (z : Int) = 2 := by omega
  go_wp2_with fail
  refine (l16Sig_any (unhide hc7) hn).mono ?_
  rintro e w8 ⟨s', m', v', hs', hm', rfl, hD, hG, hc8⟩
  obtain ⟨D, d1, dn1, dc1, d2, dn2, dc2, rfl, hDl, y1, y2, j1, j2⟩ := hD.full
  have P7h := P7g.grown hG (fun e => g7ne (Option.some.inj e))
  have P4h := P4g.grown hG (fun e => g4ne (Option.some.inj e))
  have l7 := P7g.lt
  have l4 := P4g.lt
  have lw := (unhide G7).size
  have k1 := hide (show RW w8 g g4 g7 w.heap.size (.slice d1 dn1 dc1) D.once from ⟨y1, fun k hk => by have := j1 k hk; omega⟩)
  have k2 := hide (show RW w8 g g4 g7 w.heap.size (.slice d2 dn2 dc2) D.path from ⟨y2, fun k hk => by have := j2 k hk; omega⟩)
  have p4 := P7h.cell 4 (v := (.int .i64 S.low.leaf)) rfl
  have p5 := P7h.cell 5 (v := (.slice a3 an3 ac3)) rfl
  have p6 := P7h.cell 6 (v := (.slice a4 an4 ac4)) rfl
  have u4 := P7h.frozen 4
  have u5 := P7h.frozen 5
  have u6 := P7h.frozen 6
  have q1d := hide (((((unhide q1b).grown hG).set7 4 (.int .i64 D.leaf)).set7 5 (.slice d1 dn1 dc1)).set7 6 (.slice d2 dn2 dc2))
  have q2d := hide (((((unhide q2b).grown hG).set7 4 (.int .i64 D.leaf)).set7 5 (.slice d1 dn1 dc1)).set7 6 (.slice d2 dn2 dc2))
  have q3d := hide (((((unhide q3b).grown hG).set7 4 (.int .i64 D.leaf)).set7 5 (.slice d1 dn1 dc1)).set7 6 (.slice d2 dn2 dc2))
  have q4d := hide (((((unhide q4b).grown hG).set7 4 (.int .i64 D.leaf)).set7 5 (.slice d1 dn1 dc1)).set7 6 (.slice d2 dn2 dc2))
  have k1d := hide ((((unhide k1).set7 4 (.int .i64 D.leaf)).set7 5 (.slice d1 dn1 dc1)).set7 6 (.slice d2 dn2 dc2))
  have k2d := hide ((((unhide k2).set7 4 (.int .i64 D.leaf)).set7 5 (.slice d1 dn1 dc1)).set7 6 (.slice d2 dn2 dc2))
  have G8 := hide (gT (unhide G7) hG)
  replace hc8 := hide hc8
  clear hc7 hG hD y1 y2 j1 j2 k1 k2 q1b q2b q3b q4b G7 P7g P4g l7 l4 lw
  go_wp2
  have P7i := ((P7h.set 4 (.int .i64 D.leaf)).set 5 (.slice d1 dn1 dc1)).set 6 (.slice d2 dn2 dc2)
  have P4i := ((P4h.set_other (h := g7) (k := 4) g47 (.int .i64 D.leaf)).set_other (h := g7) (k := 5) g47 (.slice d1 dn1 dc1)).set_other (h := g7) (k := 6) g47 (.slice d2 dn2 dc2)
  have hB8 : Below w.heap.size w8 (((w8.setCell ⟨g7, 4, none⟩ (.int .i64 D.leaf)).setCell ⟨g7, 5, none⟩ (.slice d1 dn1 dc1)).setCell ⟨g7, 6, none⟩ (.slice d2 dn2 dc2)) := (((Below.refl _ _).setCell (p := ⟨g7, 4, none⟩) hg7l _).setCell (p := ⟨g7, 5, none⟩) hg7l _).setCell (p := ⟨g7, 6, none⟩) hg7l _
  have G9 := hide (gTB (unhide G8) hB8)
  have hc10 := hide ((unhide hc8).below hB8 hg)
  clear p4 p5 p6 u4 u5 u6 P7h P4h hB8 G8 hc8
  generalize ((w8.setCell ⟨g7, 4, none⟩ (.int .i64 D.leaf)).setCell ⟨g7, 5, none⟩ (.slice d1 dn1 dc1)).setCell ⟨g7, 6, none⟩ (.slice d2 dn2 dc2) = W8 at *
  have p0 := P7i.cell 0 (v := (.int .i64 S.top.leaf)) rfl
  have p1 := P7i.cell 1 (v := (.slice a1 an1 ac1)) rfl
  have p2 := P7i.cell 2 (v := (.slice a2 an2 ac2)) rfl
  have p3 := P7i.cell 3 (v := (.string S.root)) rfl
  have p4 := P7i.cell 4 (v := (.int .i64 D.leaf)) rfl
  have p5 := P7i.cell 5 (v := (.slice d1 dn1 dc1)) rfl
  have p6 := P7i.cell 6 (v := (.slice d2 dn2 dc2)) rfl
  have r0 := P4i.cell 0 (v := (.int .i64 0)) rfl
  have r1 := P4i.cell 1 (v := (.slice none 0 0)) rfl
  have r2 := P4i.cell 2 (v := (.slice none 0 0)) rfl
  have r3 := P4i.cell 3 (v := (.string ⟨#[]⟩)) rfl
  have r4 := P4i.cell 4 (v := (.int .i64 0)) rfl
  have r5 := P4i.cell 5 (v := (.slice none 0 0)) rfl
  have r6 := P4i.cell 6 (v := (.slice none 0 0)) rfl
  have f0 := P4i.frozen 0
  have f1 := P4i.frozen 1
  have f2 := P4i.frozen 2
  have f3 := P4i.frozen 3
  have f4 := P4i.frozen 4
  have f5 := P4i.frozen 5
  have f6 := P4i.frozen 6
  go_region
  go_wp2
  have hF := hide (end17 hg hg4l S.top D S.root ⟨hl.1, hDl⟩ hrt (unhide q1d) (unhide q2d) (unhide k1d) (unhide k2d) P4i (unhide G9) (unhide hc10))
  exact bodyPost_ret (results_tt_cb (by exact Try.results46) _ _ _ _ _ _ rfl (show CB _ g4 37 #[(.int .i64 S.top.leaf), (.slice a1 an1 ac1), (.slice a2 an2 ac2), (.string S.root), (.int .i64 D.leaf), (.slice d1 dn1 dc1), (.slice d2 dn2 dc2)] from (unhide hF).1) Try.underlying37 (by kernel_rfl)) rfl ⟨s, m, _, hs, hm, rfl, (unhide hF).2.1, (unhide hF).2.2.1, (unhide hF).2.2.2⟩
set_option maxRecDepth 20000 in
set_option maxHeartbeats 1600000 in
theorem drawHyperIndex_any (w : World) (o : Option Addr) (n c : Nat) (hs : Src w w.heap.size o n) (hn : n ≤ 1048576) :
    Calls Try.prog 21 #[.slice o n c] w fun e w' => ∃ v : Value, e = .returned v ∧ (∃ H : Hy, lnHy H 10 ∧ H.root.size ≤ 9 ∧ RdHy w' v H) ∧ Below w.heap.size w w' := by
  have HS := hide (fun W (h : Below w.heap.size w W) => ((hs.below h (Nat.le_refl _)).up h.size))
  clear hs
  go_enter Try.func21, Try.ntmps21
  go_wp2_with fail
  obtain ⟨W, hW, P4, hB, hs1⟩ := one_cb w #[(.int .i64 0), (.slice none 0 0), (.slice none 0 0), (.string ⟨#[]⟩), (.int .i64 0), (.slice none 0 0), (.slice none 0 0)] 37
  rw [hW]
  clear hW
  obtain ⟨g4, hg4⟩ : ∃ x, x = w.heap.size := ⟨_, rfl⟩
  rw [← hg4] at P4 ⊢
  have hg4l : w.heap.size ≤ g4 := by omega
  refine (l01New_any W o n c (unhide HS W hB) hn).mono ?_
  rintro e w1 ⟨rfl, hb1, hc1⟩
  obtain ⟨g, hg⟩ : ∃ g, g = W.heap.size := ⟨_, rfl⟩
  rw [← hg] at hc1 ⊢
  have hgle : w.heap.size ≤ g := by omega
  have g4ne : g ≠ g4 := by omega
  have P4a := P4.step hb1
  have hb1' := hB.trans (hb1.mono hB.size)
  clear HS hg hg4 hs1 hb1 hB P4
  have hg41 := P4a.lt
  go_wp2_with fail
  refine (l17Hyper_any hc1 hn).mono ?_
  rintro e w2 ⟨s, m, v, hs9, hm9, rfl, hD, h2, hc2⟩
  have hb2 := hb1'.grown h2 hb1'.size (fun k hk => by cases hk; exact hgle)
  have P4b := P4a.grown h2 (fun e => g4ne (Option.some.inj e))
  have hK := hide (fun (W' : World) (hb : Below w2.heap.size w2 W') => (hD.below hb))
  obtain ⟨H, hl, hz, hr⟩ := hD.rd
  obtain ⟨a1, n1, c1, a2, n2, c2, a3, n3, c3, a4, n4, c4, rfl⟩ := hr.open
  replace hD := hide hD
  clear hc1 hb1' h2 P4a hc2 hr
  have hB1 : g4 < w1.heap.size := hg41
  clear hK hg41
  have r0 := P4b.cell 0 (v := (.int .i64 0)) rfl
  have r1 := P4b.cell 1 (v := (.slice none 0 0)) rfl
  have r2 := P4b.cell 2 (v := (.slice none 0 0)) rfl
  have r3 := P4b.cell 3 (v := (.string ⟨#[]⟩)) rfl
  have r4 := P4b.cell 4 (v := (.int .i64 0)) rfl
  have r5 := P4b.cell 5 (v := (.slice none 0 0)) rfl
  have r6 := P4b.cell 6 (v := (.slice none 0 0)) rfl
  have f0 := P4b.frozen 0
  have f1 := P4b.frozen 1
  have f2 := P4b.frozen 2
  have f3 := P4b.frozen 3
  have f4 := P4b.frozen 4
  have f5 := P4b.frozen 5
  have f6 := P4b.frozen 6
  have l4 := P4b.lt
  go_wp2
  have hF := hide (fin17b hg4l (.int .i64 H.top.leaf) (.slice a1 n1 c1) (.slice a2 n2 c2) (.string H.root) (.int .i64 H.low.leaf) (.slice a3 n3 c3) (.slice a4 n4 c4) P4b hb2)
  have hE := hide ((unhide hD).all7 hB1 (.int .i64 H.top.leaf) (.slice a1 n1 c1) (.slice a2 n2 c2) (.string H.root) (.int .i64 H.low.leaf) (.slice a3 n3 c3) (.slice a4 n4 c4))
  have hA := (Below.refl ((((((((w2.setCell ⟨g4, 0, none⟩ (.int .i64 H.top.leaf)).setCell ⟨g4, 1, none⟩ (.slice a1 n1 c1)).setCell ⟨g4, 2, none⟩ (.slice a2 n2 c2)).setCell ⟨g4, 3, none⟩ (.string H.root)).setCell ⟨g4, 4, none⟩ (.int .i64 H.low.leaf)).setCell ⟨g4, 5, none⟩ (.slice a3 n3 c3)).setCell ⟨g4, 6, none⟩ (.slice a4 n4 c4))).heap.size ((((((((w2.setCell ⟨g4, 0, none⟩ (.int .i64 H.top.leaf)).setCell ⟨g4, 1, none⟩ (.slice a1 n1 c1)).setCell ⟨g4, 2, none⟩ (.slice a2 n2 c2)).setCell ⟨g4, 3, none⟩ (.string H.root)).setCell ⟨g4, 4, none⟩ (.int .i64 H.low.leaf)).setCell ⟨g4, 5, none⟩ (.slice a3 n3 c3)).setCell ⟨g4, 6, none⟩ (.slice a4 n4 c4)))).alloc (Nat.le_refl _) (.cells #[(.int .i64 H.top.leaf), (.slice a1 n1 c1), (.slice a2 n2 c2), (.string H.root), (.int .i64 H.low.leaf), (.slice a3 n3 c3), (.slice a4 n4 c4)] 37)
  exact bodyPost_ret (results_cb (by exact Try.results21) _ _ _ _ _ _ rfl (show CB _ g4 37 #[(.int .i64 H.top.leaf), (.slice a1 n1 c1), (.slice a2 n2 c2), (.string H.root), (.int .i64 H.low.leaf), (.slice a3 n3 c3), (.slice a4 n4 c4)] from (unhide hF).1.alloc _) Try.underlying37 (by kernel_rfl)) rfl ⟨_, rfl, ((unhide hE).below hA).rd, (unhide hF).2.alloc (unhide hF).2.size _⟩
set_option maxRecDepth 20000 in
set_option maxHeartbeats 800000 in
theorem drawReadHyper_any (w : World) (o : Option Addr) (n c : Nat) (hs : Src w w.heap.size o n) (hn : n ≤ 1048576) :
    Calls Try.prog 17 #[.slice o n c] w fun e w' => ∃ t : ByteArray, t.size ≤ 1001 ∧ e = .returned (.string t) ∧ Below w.heap.size w w' := by
  have HS := hide hs
  clear hs
  go_enter Try.func17, Try.ntmps17
  go_wp2_with fail
  refine (l01New_any w o n c (unhide HS) hn).mono ?_
  rintro e w1 ⟨rfl, hb1, hc1⟩
  obtain ⟨g, hg⟩ : ∃ g, g = w.heap.size := ⟨_, rfl⟩
  rw [← hg] at hc1 ⊢
  have hgle : w.heap.size ≤ g := by omega
  clear HS hg
  go_wp2_with fail
  refine (l17Hyper_any hc1 hn).mono ?_
  rintro e w2 ⟨s, m, v, hs9, hm9, rfl, hD, h2, hc2⟩
  have hb2 := hb1.grown h2 hb1.size (fun k hk => by cases hk; exact hgle)
  obtain ⟨H, hl, hz, hr⟩ := hD.rd
  obtain ⟨a1, n1, c1, a2, n2, c2, a3, n3, c3, a4, n4, c4, rfl⟩ := hr.open
  have htz : (htx H).size ≤ 1000 := by
    cases ho : htxOk H with
    | true => rw [htx_size ho]; omega
    | false => unfold htx; rw [ho]; exact Nat.zero_le _
  replace hr := hide hr
  clear hc1 hb1 h2 hD
  go_wp2_with fail
  obtain ⟨W2, hW, P6, hB2, hs2⟩ := one_cb w2 #[(.int .i64 H.top.leaf), (.slice a1 n1 c1), (.slice a2 n2 c2), (.string H.root), (.int .i64 H.low.leaf), (.slice a3 n3 c3), (.slice a4 n4 c4)] 37
  rw [hW]
  clear hW
  have hc3 := hc2.below hB2 hc2.lt
  have hb3 := hb2.trans (hB2.mono hb2.size)
  refine (specHyperText_any H _ W2 ((unhide hr).below hB2) (hl.mono (m := 2000000) (by omega))).mono ?_
  rintro e w4 ⟨rfl, hb4⟩
  have hc4 := hc3.below hb4 hc3.lt
  have hb5 := hb3.trans (hb4.mono hb3.size)
  clear hc2 hc3 hb2 hb3 hb4 P6 hB2 hr
  go_wp2_with fail
  refine (spoilt9_any hc4 hn (htx H) htz).mono ?_
  rintro e w5 ⟨t, ht, rfl, hb6⟩
  have hlo := hc4.lo
  have hb7 := hb5.trans (hb6.mono (by omega))
  clear hc4 hb5 hb6
  go_wp2
  go_ret
  exact ⟨t, ht, rfl, hb7⟩
end Go.Proofs.Ytjgnjjphankhnaa

