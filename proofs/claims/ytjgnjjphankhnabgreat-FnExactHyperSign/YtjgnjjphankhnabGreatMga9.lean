/- Merged: TrI6, TrI7, SgI1, SgI3, Hyp0, HyI1, HyH. -/
import Derived.Test.YtjgnjjphankhnabGreatMga1
import Derived.Test.YtjgnjjphankhnabGreatMga2
import Derived.Test.YtjgnjjphankhnabGreatMga3
import Derived.Test.YtjgnjjphankhnabGreatMga4
import Derived.Test.YtjgnjjphankhnabGreatMga5
import Derived.Test.YtjgnjjphankhnabGreatMga6
import Derived.Test.YtjgnjjphankhnabGreatMga7
import Derived.Test.YtjgnjjphankhnabGreatMga8
import Derived.LaidEqlPtr
import Derived.Lib.Builder
import Derived.Laws.EntriesVeiled
import Derived.LoopN
/- Trees by the project's own functions: roots and paths, over the loaded program. -/
namespace Go.Proofs.YtjgnjjphankhnabGreat
open Go.RowKit
theorem sums_le (l : List ByteArray) (h : l.length + sumS l ≤ 1048576) : ∀ x ∈ l, x.size ≤ 1048576 := by
  intro x hx
  obtain ⟨i, hi, rfl⟩ := List.getElem_of_mem hx
  have := sumS_at l i hi
  omega
theorem cell_lt15 {w : World} {g o : Nat} {v : Value} (h : w.cell? ⟨g, o, none⟩ = some v) : g < w.heap.size := by
  unfold World.cell? at h
  by_cases hg : g < w.heap.size
  · exact hg
  · rw [Array.getElem?_eq_none (show w.heap.size ≤ g by omega)] at h
    cases h
def lenOf15 : Value → Nat
  | .slice _ n _ => n
  | _ => 0
set_option maxRecDepth 20000 in
theorem isLeaf_any (z : Int) (w : World) : Calls Tryz.prog 56 #[.int .i64 z] w fun e w' => e = .returned (.bool (decide (0 ≤ z ∧ z ≤ 3))) ∧ w' = w := by
  by_cases h : 0 ≤ z
  · by_cases h3 : z < 4
    · have e : decide (0 ≤ z ∧ z ≤ 3) = true := decide_eq_true (by omega)
      rw [e]
      go_enter Tryz.func56, Tryz.ntmps56
      go_wp2
      go_ret
      exact ⟨rfl, rfl⟩
    · have e : decide (0 ≤ z ∧ z ≤ 3) = false := decide_eq_false (by omega)
      rw [e]
      go_enter Tryz.func56, Tryz.ntmps56
      go_wp2
      go_ret
      exact ⟨rfl, rfl⟩
  · have e : decide (0 ≤ z ∧ z ≤ 3) = false := decide_eq_false (by omega)
    rw [e]
    go_enter Tryz.func56, Tryz.ntmps56
    go_wp2
    go_ret
    exact ⟨rfl, rfl⟩
set_option maxRecDepth 20000 in
set_option maxHeartbeats 1000000 in
theorem implRootOf_any (l : List ByteArray) (v : Value) (w : World) (hr : RdV w v (l.map sv)) (hs : ∀ x ∈ l, x.size ≤ 1048576) :
    Calls Tryz.prog 27 #[v] w fun e w' => e = .returned (.string (rootB l)) ∧ Below w.heap.size w w' := by
  obtain ⟨a, c, rfl, -⟩ := hr.open
  rw [List.length_map] at hr ⊢
  by_cases h4 : l.length = 4
  · have ER := hide (show rootB l = bAt (lvs l 2) 0 by unfold rootB; rw [if_pos h4])
    rw [unhide ER]
    have C1 := hide (nodesOf_any l _ w hr (by omega))
    have C2 := hide (fun W u gs (h : Nds W w.heap.size u gs l) => rootAbove_any l gs w.heap.size u W h h4 hs)
    rw [h4] at C1 ⊢
    generalize hR : bAt (lvs l 2) 0 = R at *
    replace hR := hide hR
    clear hr ER
    replace h4 := hide h4
    go_enter Tryz.func27, Tryz.ntmps27
    go_wp2_with fail
    refine (unhide C1).mono ?_
    rintro e w1 ⟨⟨v1, rfl, gs, hN1⟩, hb1⟩
    have c2 := hide (unhide C2 w1 v1 gs hN1)
    have hmem := hide hN1.mem
    clear C1 C2 hN1
    go_wp2_with fail
    refine (unhide c2).mono ?_
    rintro e w2 ⟨g, rfl, gs1, t1, t2, ⟨b, u, t3⟩, t4, t5⟩
    have hB2 := hb1.trans (t5.below w.heap.size hb1.size (fun k hk hmm => by have := (unhide hmem k hmm).1; omega))
    rw [unhide hR] at t3
    have d : w2.cell? ⟨g, 0, none⟩ = some (.string R) := t3.cell 0 rfl
    clear t1 t2 t3 t4 t5 hmem c2 hb1
    unfold pv
    go_wp2
    go_ret
    exact ⟨rfl, hB2⟩
  · have ER := hide (show rootB l = ⟨#[]⟩ by unfold rootB; rw [if_neg h4])
    rw [unhide ER]
    have h4' : ¬ (l.length : Int) = 4 := by omega
    clear hr
    go_enter Tryz.func27, Tryz.ntmps27
    go_wp2
    go_ret
    exact ⟨rfl, Below.refl _ _⟩
set_option maxRecDepth 20000 in
theorem stringsClone15_any (s : ByteArray) (w : World) (hs : s.size ≤ 4000000) :
    Calls Tryz.prog 57 #[.string s] w fun e w' => e = .returned (.string s) ∧ Below w.heap.size w w' := by
  have hlim : s.size ≤ 281474976710656 := by omega
  have C := hide (Tryz.stringslite_Clone s w hlim)
  go_enter Tryz.func57, Tryz.ntmps57
  go_wp2_with fail
  refine (unhide C).mono ?_
  rintro e w2 ⟨rfl, hb2⟩
  go_wp2
  go_ret
  exact ⟨rfl, hb2⟩
theorem infoNode15 : ∃ i, Tryz.prog.info? 67 = some i ∧ i.size ≠ 0 := by
  have h : (Tryz.prog.info? 67).map (fun i => i.size) = some 3 := by kernel_rfl
  cases hi : Tryz.prog.info? 67 with
  | none => rw [hi] at h; cases h
  | some i => rw [hi] at h; exact ⟨i, rfl, by have h3 : i.size = 3 := Option.some.inj h; omega⟩
theorem run_neq_ptr_other15 {P : Program} (w : World) {tp te : TypeId} {j : TypeInfo} {a b : Addr} {ca cb : Array Value} {ta tb : TypeId} (hp : P.underlying tp = some (.pointer te)) (hte : P.info? te = some j) (hsz : j.size ≠ 0)
    (hne : a ≠ b) (ha : w.heap[a.block]? = some (.cells ca ta (0, 0))) (hb : w.heap[b.block]? = some (.cells cb tb (0, 0))) :
    (binOp .neq tp (.pointer (some a)) (.pointer (some b))).run P w = .ok (.bool true) w := by
  have h : ∀ d : Nat, (Op.equalIn (d + 1) tp (.pointer (some a)) (.pointer (some b))).run P w = .ok false w := fun d => by
    simp [Op.equalIn, run_underlying hp, sizeOf, typeInfo, hte, hsz, run_sameAddr_other w hne ha hb]
  simp only [binOp]
  simp [Op.equal, Op.maxDepth, h 9999]
/-- Where the path from a leaf goes: the nodes it meets, and those beside them. -/
theorem trd_way {w w' : World} {gs gs1 : List Nat} {l : List ByteArray} {g : Nat} (hlt : ∀ i, i < 4 → gAt gs i < w.heap.size) (h : Trd w w' gs gs1 l g) (m : Nat) (hm : m < 4) :
    ∃ nd sb : Nat → Nat, nd 0 = gAt gs m ∧ nd 2 = g ∧ (∃ cs, CB w' g 67 cs) ∧ ∀ k, k < 2 → nd k ≠ g ∧ (∃ cs, CB w' (nd k) 67 cs) ∧ sb k < w'.heap.size ∧ w'.cell? ⟨nd k, 1, none⟩ = some (pv (sb k)) ∧ w'.cell? ⟨nd k, 2, none⟩ = some (pv (nd (k + 1))) ∧ w'.cell? ⟨sb k, 0, none⟩ = some (.string (pthN l m k)) := by
  obtain ⟨t1, t2, t3, t4, t5⟩ := h
  refine ⟨fun k => if k = 0 then gAt gs m else if k = 1 then gAt gs1 (m / 2) else g, fun k => if k = 0 then gAt gs (sibN m) else gAt gs1 (sibN (m / 2)), rfl, rfl, t3.elim (fun b h => h.elim (fun u h => ⟨_, h⟩)), ?_⟩
  intro k hk
  have hg := t4 (m / 2) (by omega)
  have hg0 := hlt m hm
  rcases show k = 0 ∨ k = 1 by omega with rfl | rfl
  · have hs0 : sibN (m / 2 ^ 0) = sibN m := by rw [Nat.pow_zero, Nat.div_one]
    show gAt gs m ≠ g ∧ (∃ cs, CB w' (gAt gs m) 67 cs) ∧ gAt gs (sibN m) < _ ∧ w'.cell? ⟨gAt gs m, 1, none⟩ = some (pv (gAt gs (sibN m))) ∧ w'.cell? ⟨gAt gs m, 2, none⟩ = some (pv (gAt gs1 (m / 2))) ∧ w'.cell? ⟨gAt gs (sibN m), 0, none⟩ = some (.string (bAt (lvs l 0) (sibN (m / 2 ^ 0))))
    rw [hs0]
    obtain ⟨c1, c2⟩ := t1 (m / 2) (by omega)
    by_cases ho : m % 2 = 1
    · have e1 : sibN m = 2 * (m / 2) := by unfold sibN; rw [if_pos ho]; omega
      have e2 : 2 * (m / 2) + 1 = m := by omega
      rw [e2] at c1 c2
      rw [← e1] at c1 c2
      exact ⟨by omega, ⟨_, c2⟩, c1.lt, c2.cell 1 rfl, c2.cell 2 rfl, c1.cell 0 rfl⟩
    · have e1 : sibN m = 2 * (m / 2) + 1 := by unfold sibN; rw [if_neg ho]; omega
      have e2 : 2 * (m / 2) = m := by omega
      rw [← e1, e2] at c1 c2
      exact ⟨by omega, ⟨_, c1⟩, c2.lt, c1.cell 1 rfl, c1.cell 2 rfl, c2.cell 0 rfl⟩
  · have hs0 : sibN (m / 2 ^ 1) = sibN (m / 2) := by rw [Nat.pow_one]
    show gAt gs1 (m / 2) ≠ g ∧ (∃ cs, CB w' (gAt gs1 (m / 2)) 67 cs) ∧ gAt gs1 (sibN (m / 2)) < _ ∧ w'.cell? ⟨gAt gs1 (m / 2), 1, none⟩ = some (pv (gAt gs1 (sibN (m / 2)))) ∧ w'.cell? ⟨gAt gs1 (m / 2), 2, none⟩ = some (pv g) ∧ w'.cell? ⟨gAt gs1 (sibN (m / 2)), 0, none⟩ = some (.string (bAt (lvs l 1) (sibN (m / 2 ^ 1))))
    rw [hs0]
    obtain ⟨c1, c2⟩ := t2 0 (by omega)
    have eg : gAt [g] 0 = g := rfl
    rw [eg] at c1 c2
    rcases show m / 2 = 0 ∨ m / 2 = 1 by omega with e | e
    · rw [e] at hg ⊢
      exact ⟨by omega, ⟨_, c1⟩, c2.lt, c1.cell 1 rfl, c1.cell 2 rfl, c2.cell 0 rfl⟩
    · rw [e] at hg ⊢
      exact ⟨by omega, ⟨_, c2⟩, c1.lt, c2.cell 1 rfl, c2.cell 2 rfl, c1.cell 0 rfl⟩
set_option maxRecDepth 20000 in
set_option maxHeartbeats 1000000 in
theorem implPathOf_any (l : List ByteArray) (leaf : Int) (v : Value) (w : World) (hr : RdV w v (l.map sv)) (hs : ∀ x ∈ l, x.size ≤ 1048576) :
    Calls Tryz.prog 45 #[v, .int .i64 leaf] w fun e w' => (∃ v', e = .returned v' ∧ OwnV w' w.heap.size 9 v' ((pathL l leaf).map sv)) ∧ Below w.heap.size w w' := by
  obtain ⟨i0, hi, hz0, hz1, hz2⟩ := info_parts infoTxt
  obtain ⟨iN, hiN, hzN⟩ := infoNode15
  have CI := hide (fun W => isLeaf_any leaf W)
  obtain ⟨a, c, rfl, -⟩ := hr.open
  rw [List.length_map] at hr ⊢
  by_cases h4 : l.length = 4
  · by_cases hlf : 0 ≤ leaf ∧ leaf ≤ 3
    · rw [decide_eq_true hlf] at CI
      obtain ⟨m, rfl⟩ : ∃ m : Nat, leaf = (m : Int) := ⟨leaf.toNat, by omega⟩
      have hm : m < 4 := by omega
      have EP := hide (show pathL l (m : Int) = preT (pthN l m) 2 by unfold pathL; rw [if_pos ⟨h4, hlf⟩, Int.toNat_natCast]; rfl)
      rw [unhide EP]
      have C1 := hide (nodesOf_any l _ w hr (by omega))
      have C2 := hide (fun W u gs (h : Nds W w.heap.size u gs l) => rootAbove_any l gs w.heap.size u W h h4 hs)
      have HWy := hide (show ∀ (w1 w2 : World) u gs gs1 g, Nds w1 w.heap.size u gs l → Trd w1 w2 gs gs1 l g → ∃ nd sb : Nat → Nat, nd 0 = gAt gs m ∧ nd 2 = g ∧ (∃ cs, CB w2 g 67 cs) ∧ ∀ k, k < 2 → nd k ≠ g ∧ (∃ cs, CB w2 (nd k) 67 cs) ∧ sb k < w2.heap.size ∧ w2.cell? ⟨nd k, 1, none⟩ = some (pv (sb k)) ∧ w2.cell? ⟨nd k, 2, none⟩ = some (pv (nd (k + 1))) ∧ w2.cell? ⟨sb k, 0, none⟩ = some (.string (pthN l m k)) from fun w1 w2 u gs gs1 g hN hT => trd_way (fun i hi => (hN.mem _ (gAt_mem gs i (by rw [hN.2.1]; omega))).2) hT m hm)
      have HRow := hide (show ∀ (w1 w2 : World) u gs gs1 g, Nds w1 w.heap.size u gs l → Trd w1 w2 gs gs1 l g → ∃ gv c, u = .slice (some ⟨gv, 0, none⟩) 4 c ∧ w2.cell? ⟨gv, m, none⟩ = some (pv (gAt gs m)) from fun w1 w2 u gs gs1 g hN hT => by
        obtain ⟨gv, c, e, _⟩ := hN.row h4 (by omega)
        have ho := hN.1.kps hT.2.2.2.2 (fun q hq hmm => hN.off q hmm hq)
        rw [e] at ho
        exact ⟨gv, c, e, ho.cell (gAt_get gs m (by rw [hN.2.1]; omega))⟩)
      rw [h4] at C1 ⊢
      have hm' : (m : Int) < 4 := by omega
      have hm0 : (0 : Int) ≤ (m : Int) := by omega
      have HF := hide (show ∀ k, (pthN l m k).size ≤ 1048576 from fun k => bAt_sizeT _ _ _ (lvs_size l _ (by omega) hs k))
      generalize pthN l m = F at *
      clear hr EP
      replace h4 := hide h4
      go_enter Tryz.func45, Tryz.ntmps45
      go_wp2_with fail
      refine (unhide CI _).mono ?_
      rintro e w0 ⟨rfl, hw0⟩
      have hw0' := hw0.symm
      subst hw0'
      clear hw0
      go_wp2_with fail
      refine (unhide C1).mono ?_
      rintro e w1 ⟨⟨v1, rfl, gs, hN1⟩, hb1⟩
      have c2 := hide (unhide C2 w1 v1 gs hN1)
      have hmem := hide hN1.mem
      clear C1 C2
      go_wp2_with fail
      refine (unhide c2).mono ?_
      rintro e w2 ⟨g, rfl, gs1, ht⟩
      have hB2 := hb1.trans (ht.2.2.2.2.below w.heap.size hb1.size (fun k hk hmm => by have := (unhide hmem k hmm).1; omega))
      obtain ⟨nd, sb, hn0, hn2, ⟨csR, hcR⟩, hway⟩ := unhide HWy w1 w2 v1 gs gs1 g hN1 ht
      obtain ⟨gv, cv, rfl, d0⟩ := unhide HRow w1 w2 _ gs gs1 g hN1 ht
      rw [← hn0] at d0
      have HY := hide hway
      rw [← hn2] at hcR
      have HCR := hide hcR
      clear hcR
      clear hway hN1 ht hmem c2 HWy HRow hb1 CI
      have hs2 := hB2.size
      unfold pv at d0 HY ⊢
      rw [← hn2]
      rw [← hn2] at HY
      replace hn0 := hide hn0; replace hn2 := hide hn2
      go_wp2_with (at_make; refine wpList_make_own _ rfl _ _ 22 rfl w2.heap.size 9 i0 (.string ⟨#[]⟩) 1 Tryz.underlying22 hi hz0 hz1 _ _ _ 2 rfl rfl (by omega) (by rw [hz2]; omega) (by unfold maxLen; omega) (Nat.le_refl _) ?_; intro w3 hown3 hgrow3; have hb0 : Below w2.heap.size w2 w3 := (Below.refl w2.heap.size w2).grown hgrow3 (Nat.le_refl _) (fun k hk => by cases hk); have d0' := (hb0.cell (p := ⟨gv, m, none⟩) (by exact cell_lt15 d0)).trans d0)
      have hr0 := hide (show OwnV w3 w2.heap.size 9 (.slice (some ⟨w2.heap.size, 0, none⟩) 0 2) ((preT F 0).map sv) from hown3)
      clear hown3 hgrow3 d0
      go_loopw [7, 8] (fun tp tn wr => ∃ k : Nat, k ≤ 2 ∧ tn = .pointer (some ⟨nd k, 0, none⟩) ∧ Hid (OwnV wr w2.heap.size 9 tp ((preT F k).map sv)) ∧ Below w2.heap.size w2 wr) (fun tp _ _ => 5 - lenOf15 tp)
      case atStart => exact ⟨0, by omega, rfl, hr0, hb0⟩
      case round =>
        clear hr0 hb0 d0'
        obtain ⟨k, hk, rfl, HO, hB⟩ := hrel
        by_cases hlt : k < 2
        · obtain ⟨y1, ⟨csk, y2c⟩, y3, y4, y5, y6⟩ := unhide HY k hlt
          have y2 := y2c.lt
          have z4 := (hB.cell (p := ⟨nd k, 1, none⟩) y2).trans y4
          have z5 := (hB.cell (p := ⟨nd k, 2, none⟩) y2).trans y5
          have z6 := (hB.cell (p := ⟨sb k, 0, none⟩) y3).trans y6
          have hFs := unhide HF k
          have CC := hide (fun W => stringsClone15_any (F k) W (by omega))
          have HPS := hide (preT_succ F k)
          have hl1 : ((preT F k).map sv).length + 1 ≤ maxLen := by rw [List.length_map, preT_len]; unfold maxLen; omega
          have hl2 : (((preT F k).map sv).length + 1) * 16 ≤ 140737488355328 := by rw [List.length_map, preT_len]; omega
          have hszB := hB.size
          obtain ⟨al, cl, hal⟩ := (unhide HO).shape
          rw [List.length_map, preT_len] at hal
          subst hal
          obtain ⟨x, hx⟩ : ∃ x, x = nd k := ⟨_, rfl⟩
          obtain ⟨x', hx'⟩ : ∃ x', x' = nd (k + 1) := ⟨_, rfl⟩
          obtain ⟨r, hrr⟩ : ∃ r, r = nd 2 := ⟨_, rfl⟩
          rw [← hx] at z4 z5 y1 y2 y5 ⊢
          rw [← hx'] at z5 y5
          rw [← hrr] at y1 ⊢
          generalize sb k = s at *
          generalize F k = fk at *
          replace y2c := hide y2c
          have NE := run_neq_ptr_other15 (P := Tryz.prog) wr (tp := 65) (te := 67) (a := ⟨x, 0, none⟩) (b := ⟨r, 0, none⟩) Tryz.underlying65 hiN hzN (fun e => y1 (Addr.mk.inj e).1) (by rw [hx]; exact (unhide y2c).below hB (unhide y2c).lt) (by rw [hrr]; exact (unhide HCR).below hB (unhide HCR).lt)
          replace hx := hide hx; replace hx' := hide hx'; replace hrr := hide hrr
          replace hl1 := hide hl1; replace hl2 := hide hl2
          replace y5 := hide y5; replace y2 := hide y2
          clear HY y2c HCR y3 y4 y6 HF
          go_wp2_with fail
          refine (unhide CC _).mono ?_
          rintro e w4 ⟨rfl, hb4⟩
          have hB4 := hB.trans (hb4.mono hB.size)
          have hO4 := hide ((unhide HO).below hb4)
          have hsz4 := hB4.size
          clear hB hb4 HO CC z4 z6
          go_wp2_with (at_builtin; refine wpList_append_grow (w := w4) rfl (.tmp 33) (.tmp 42) 22 rfl w2.heap.size 9 i0 (.string ⟨#[]⟩) 16 Tryz.underlying22 hi hz0 hz1 hz2 rfl _ _ (by rfl) (unhide hO4) (.string fk) rfl rfl (unhide hl1) (unhide hl2) hsz4 ?_; intro v' w5 ho5 hg5; have hB5 := (hB4.alloc hsz4 (.cells #[.string fk] 9)).grown hg5 (by simp; omega) (fun b hb => ((unhide hO4).lt b hb).1); have z8 := (hB5.cell (p := ⟨x, 2, none⟩) (unhide y2)).trans (unhide y5))
          have ho6 := hide (show OwnV w5 w2.heap.size 9 v' ((preT F (k + 1)).map sv) by rw [unhide HPS, List.map_append]; exact ho5)
          have hsh := ho5.shape
          obtain ⟨a5, c5, hv5⟩ := hsh
          rw [List.length_append, List.length_map, preT_len] at hv5
          subst hv5
          rw [unhide hx'] 
          exact ⟨⟨k + 1, by omega, rfl, ho6, hB5⟩, by show 5 - (k + 1) < 5 - k; omega⟩
        · obtain rfl : k = 2 := by omega
          have hfin := hide ((unhide HO).low hs2)
          have hB3 := hB2.trans (hB.mono hs2)
          have NE := Lib.run_neq_ptr_same (P := Tryz.prog) wr (tp := 65) (te := 67) ⟨nd 2, 0, none⟩ Tryz.underlying65 hiN
          clear HO HY
          go_wp2
          go_ret
          exact ⟨⟨_, rfl, unhide hfin⟩, hB3⟩
    · have hdf : decide (0 ≤ leaf ∧ leaf ≤ 3) = false := decide_eq_false hlf
      rw [hdf] at CI
      have EP := hide (show pathL l leaf = [] by unfold pathL; rw [if_neg (fun h => hlf h.2)])
      rw [unhide EP, h4]
      clear hr
      replace hlf := hide hlf
      go_enter Tryz.func45, Tryz.ntmps45
      go_wp2_with fail
      refine (unhide CI _).mono ?_
      rintro e w0 ⟨rfl, hw0⟩
      have hw0' := hw0.symm
      subst hw0'
      clear hw0
      go_wp2
      go_ret
      exact ⟨⟨_, rfl, OwnV.nil _ _ _⟩, Below.refl _ _⟩
  · have EP := hide (show pathL l leaf = [] by unfold pathL; rw [if_neg (fun h => h4 h.1)])
    rw [unhide EP]
    have h4' : ¬ (l.length : Int) = 4 := by omega
    have h4b : decide ((l.length : Int) = 4) = false := decide_eq_false h4'
    clear hr
    go_enter Tryz.func45, Tryz.ntmps45
    go_wp2
    go_ret
    exact ⟨⟨_, rfl, OwnV.nil _ _ _⟩, Below.refl _ _⟩
end Go.Proofs.YtjgnjjphankhnabGreat

/- Trees by the project's own functions: the root by a path, over the loaded program. -/
namespace Go.Proofs.YtjgnjjphankhnabGreat
open Go.RowKit
end Go.Proofs.YtjgnjjphankhnabGreat

/- Keys of a tree by the project's own functions: the keys of a seed, public texts, signatures, over the loaded program. -/
namespace Go.Proofs.YtjgnjjphankhnabGreat
open Go.RowKit
theorem sum_four16 (l : List ByteArray) (h : ∀ x ∈ l, x.size = 4) : sumS l = 4 * l.length := by
  induction l with
  | nil => rfl
  | cons x xs ih =>
    show x.size + sumS xs = 4 * (xs.length + 1)
    rw [h x (by simp), ih fun y hy => h y (by simp [hy])]
    omega
theorem keysO_sum (s : ByteArray) (leaf : Int) : sumS (keysO s leaf) ≤ 1048576 := by
  rw [sum_four16 _ (keysO_size s leaf), keysO_len]; omega
set_option maxRecDepth 20000 in
set_option maxHeartbeats 400000 in
theorem keysOf_any (s : ByteArray) (leaf : Int) (hs : s.size ≤ 2000000) (w : World) :
    Calls Tryz.prog 43 #[.string s, .int .i64 leaf] w fun e w' => (∃ v, e = .returned v ∧ OwnV w' w.heap.size 9 v ((keysO s leaf).map sv)) ∧ Below w.heap.size w w' := by
  have C := hide (fun W => implOnceKey_any s leaf hs W)
  generalize (keysO s leaf).map sv = L at *
  go_enter Tryz.func43, Tryz.ntmps43
  go_wp2_with fail
  refine (unhide C w).mono ?_
  rintro e w1 ⟨⟨v1, rfl, o1⟩, hb1⟩
  clear C
  go_wp2
  go_ret
  exact ⟨⟨_, rfl, o1⟩, hb1⟩
set_option maxRecDepth 20000 in
set_option maxHeartbeats 1000000 in
theorem publics_any (s : ByteArray) (hs : s.size ≤ 2000000) (w : World) :
    Calls Tryz.prog 28 #[.string s] w fun e w' => (∃ v, e = .returned v ∧ OwnV w' w.heap.size 9 v ((lvsO s).map sv)) ∧ Below w.heap.size w w' := by
  obtain ⟨i0, hi, hz0, hz1, hz2⟩ := info_parts infoTxt
  have C1 := hide (fun (k : Nat) W => keysOf_any s (k : Int) hs W)
  have C2 := hide (fun (k : Nat) W v hr => implOncePublic_any (keysO s (k : Int)) (k : Int) v W hr (keysO_sum s _))
  have HK := hide (show ∀ k : Nat, onceP (keysO s (k : Int)) (k : Int) = lefO s k from fun k => rfl)
  have EK : lvsO s = (List.range 4).map (lefO s) := rfl
  rw [EK]
  simp only [unhide HK] at C2
  generalize lefO s = F at *
  obtain ⟨L, hL⟩ : ∃ L : List Value, L = ((List.range 4).map F).map sv := ⟨_, rfl⟩
  have hLl := hide (show L.length = 4 by rw [hL, List.length_map, List.length_map, List.length_range])
  have hLk := hide (show ∀ k, k < 4 → L[k]? = some (.string (F k)) from fun k hk => by rw [hL, List.getElem?_map, List.getElem?_map, List.getElem?_range hk]; rfl)
  rw [← hL]
  replace hL := hide hL
  clear HK EK
  go_enter Tryz.func28, Tryz.ntmps28
  go_wp2_with (at_make; refine wpList_make_full _ rfl _ _ 22 rfl w.heap.size 9 i0 (.string ⟨#[]⟩) 1 Tryz.underlying22 hi hz0 hz1 _ _ _ _ 4 rfl rfl rfl rfl (by rw [hz2]; omega) (by unfold maxLen; omega) (Nat.le_refl _) ?_; intro w1 hown1 hgrow1)
  have hr0 : OwnV w1 w.heap.size 9 (.slice (some ⟨w.heap.size, 0, none⟩) 4 4) (L.take 0 ++ List.replicate (4 - 0) (.string ⟨#[]⟩)) := by
    rw [madeT] at hown1
    unfold OwnV
    simpa using hown1
  have hb0 : Below w.heap.size w w1 := (Below.refl w.heap.size w).grown hgrow1 (Nat.le_refl _) (fun k hk => by cases hk)
  clear hown1 hgrow1
  go_loopw [8] (fun ti wr => ∃ k : Nat, k ≤ 4 ∧ ti = .int .i64 k ∧ Hid (OwnV wr w.heap.size 9 (.slice (some ⟨w.heap.size, 0, none⟩) 4 4) (L.take k ++ List.replicate (4 - k) (.string ⟨#[]⟩))) ∧ Below w.heap.size w wr ∧ w.heap.size < wr.heap.size) (fun ti _ => 4 - (intOf ti).toNat)
  case atStart => exact ⟨0, Nat.zero_le _, rfl, hide hr0, hb0, (hr0.lt _ rfl).2⟩
  case round =>
    obtain ⟨k, hk, rfl, HO, hb, hszz⟩ := hrel
    clear hr0 hb0
    by_cases hlt : k < 4
    · have hk' : (k : Int) < 4 := by omega
      have hk0 : (0 : Int) ≤ (k : Int) := by omega
      have c1 := hide (unhide C1 k)
      have c2 := hide (unhide C2 k)
      have HF := hide (fillV (z := .string ⟨#[]⟩) (unhide hLk k hlt) (unhide hLl))
      generalize F k = y at *
      generalize keysO s (k : Int) = K at *
      clear C1 C2
      go_wp2_with fail
      refine (unhide c1 wr).mono ?_
      rintro e w2 ⟨⟨v2, rfl, o2⟩, hb2⟩
      have hB2 := hb.trans (hb2.mono hb.size)
      have HO2 := hide ((unhide HO).below hb2)
      have hs2 := Nat.lt_of_lt_of_le hszz hb2.size
      replace c2 := hide (unhide c2 w2 v2 o2.rdv)
      clear hb2 hb HO hszz c1 o2
      go_wp2_with fail
      refine (unhide c2).mono ?_
      rintro e w4 ⟨rfl, hb4⟩
      have hB4 := hB2.trans (hb4.mono hB2.size)
      have HO4 := (unhide HO2).below hb4
      have hs4 := Nat.lt_of_lt_of_le hs2 hb4.size
      obtain ⟨u, hu⟩ : ∃ u, (L.take k ++ List.replicate (4 - k) (.string ⟨#[]⟩))[k]? = some u := ⟨_, List.getElem?_eq_getElem (by have := HO4.len; omega)⟩
      have cu := HO4.cell hu
      have cz := HO4.frozen k
      have ho2 := HO4.set k (.string y)
      rw [unhide HF] at ho2
      replace ho2 := hide ho2; replace HO4 := hide HO4
      clear hu hb4 hB2 HO2 hs2 c2
      go_wp2
      go_roundw
      case rel => exact ⟨k + 1, by omega, by go_num, ho2, hB4.setCell (p := ⟨w.heap.size, k, none⟩) (Nat.le_refl _) _, by simpa using hs4⟩
      case measure => simp [intOf]; omega
    · have hk' : ¬ (k : Int) < 4 := by omega
      obtain rfl : k = 4 := by omega
      have e2 : L.take 4 ++ List.replicate (4 - 4) (.string ⟨#[]⟩) = L := by
        rw [Nat.sub_self, List.take_of_length_le (by rw [unhide hLl]; exact Nat.le_refl _)]
        simp
      rw [e2] at HO
      go_wp2
      go_ret
      exact ⟨⟨_, rfl, unhide HO⟩, hb⟩
set_option maxRecDepth 20000 in
set_option maxHeartbeats 400000 in
theorem public_any (s : ByteArray) (hs : s.size ≤ 2000000) (w : World) :
    Calls Tryz.prog 14 #[.string s] w fun e w' => e = .returned (.string (pubO s)) ∧ Below w.heap.size w w' := by
  have C1 := hide (fun W => publics_any s hs W)
  have C2 := hide (fun W v hr => implRootOf_any (lvsO s) v W hr (fun x hx => by rw [lvsO_size s x hx]; omega))
  have HK := hide (show rootB (lvsO s) = pubO s from rfl)
  rw [unhide HK] at C2
  generalize pubO s = p at *
  go_enter Tryz.func14, Tryz.ntmps14
  go_wp2_with fail
  refine (unhide C1 w).mono ?_
  rintro e w1 ⟨⟨v1, rfl, o1⟩, hb1⟩
  replace C2 := hide (unhide C2 w1 v1 o1.rdv)
  clear C1 o1
  go_wp2_with fail
  refine (unhide C2).mono ?_
  rintro e w2 ⟨rfl, hb2⟩
  have hB2 := hb1.trans (hb2.mono hb1.size)
  clear C2 hb1 hb2
  go_wp2
  go_ret
  exact ⟨rfl, hB2⟩
set_option maxRecDepth 20000 in
set_option maxHeartbeats 800000 in
theorem once_any (s : ByteArray) (leaf : Int) (m : ByteArray) (hs : s.size ≤ 2000000) (hm : m.size ≤ 4000000) (w : World) :
    Calls Tryz.prog 29 #[.agg #[.string s, .int .i64 leaf], .string m] w fun e w' => (∃ v, e = .returned v ∧ OwnV w' w.heap.size 9 v ((onceS (keysO s leaf) leaf m).map sv)) ∧ Below w.heap.size w w' := by
  have C1 := hide (fun W => keysOf_any s leaf hs W)
  have C2 := hide (fun W v hr => implOnceSign_any (keysO s leaf) leaf m v W hr (keysO_sum s leaf) hm)
  generalize (onceS (keysO s leaf) leaf m).map sv = L at *
  generalize (keysO s leaf).map sv = K at *
  go_enter Tryz.func29, Tryz.ntmps29
  go_wp2_with fail
  obtain ⟨W, hW, hP, hB, hs1⟩ := one_cb w #[.string s, .int .i64 leaf] 39
  rw [hW]
  clear hW
  have KS := hide (fun (W' : World) (h : Below W.heap.size W W') => (show W'.cell? ⟨w.heap.size, 0, none⟩ = some (.string s) ∧ W'.cell? ⟨w.heap.size, 1, none⟩ = some (.int .i64 leaf) from ⟨(hP.step h).cell 0 rfl, (hP.step h).cell 1 rfl⟩))
  have HT0 := (Below.refl W.heap.size W).drew
  clear hP
  go_region_held3 (fun W => W.cell? ⟨w.heap.size, 0, none⟩ = some (.string s) ∧ W.cell? ⟨w.heap.size, 1, none⟩ = some (.int .i64 leaf)) (first | exact unhide KS _ HT0 | exact unhide KS _ hT1 | exact unhide KS _ hT2 | fail) (first
    | (go_at_call 43; refine (unhide C1 _).mono ?_; rintro e w1 ⟨⟨v1, rfl, o1⟩, hb1⟩; have hT1 := HT0.trans (hb1.mono HT0.size); have c2 := hide (unhide C2 w1 v1 o1.rdv); clear hb1 o1)
    | (go_at_call 44; refine (unhide c2).mono ?_; rintro e w2 ⟨⟨v2, rfl, o2⟩, hb2⟩; have hT2 := hT1.trans (hb2.mono hT1.size); have o3 := hide (o2.low (Nat.le_trans hB.size hT1.size)); clear hb2 o2))
  all_goals
    have hF := hB.trans (hT2.mono hB.size)
    clear C1 C2 c2 KS hT1 hT2 HT0
    go_wp2
    go_ret
    exact ⟨⟨_, rfl, unhide o3⟩, hF⟩
set_option maxRecDepth 20000 in
set_option maxHeartbeats 800000 in
theorem path_any (s : ByteArray) (leaf : Int) (hs : s.size ≤ 2000000) (w : World) :
    Calls Tryz.prog 30 #[.agg #[.string s, .int .i64 leaf]] w fun e w' => (∃ v, e = .returned v ∧ OwnV w' w.heap.size 9 v ((pathL (lvsO s) leaf).map sv)) ∧ Below w.heap.size w w' := by
  have C1 := hide (fun W => publics_any s hs W)
  have C2 := hide (fun W v hr => implPathOf_any (lvsO s) leaf v W hr (fun x hx => by rw [lvsO_size s x hx]; omega))
  generalize (pathL (lvsO s) leaf).map sv = L at *
  generalize (lvsO s).map sv = K at *
  go_enter Tryz.func30, Tryz.ntmps30
  go_wp2_with fail
  obtain ⟨W, hW, hP, hB, hs1⟩ := one_cb w #[.string s, .int .i64 leaf] 39
  rw [hW]
  clear hW
  have KS := hide (fun (W' : World) (h : Below W.heap.size W W') => (show W'.cell? ⟨w.heap.size, 0, none⟩ = some (.string s) ∧ W'.cell? ⟨w.heap.size, 1, none⟩ = some (.int .i64 leaf) from ⟨(hP.step h).cell 0 rfl, (hP.step h).cell 1 rfl⟩))
  have HT0 := (Below.refl W.heap.size W).drew
  clear hP
  go_region_held3 (fun W => W.cell? ⟨w.heap.size, 0, none⟩ = some (.string s) ∧ W.cell? ⟨w.heap.size, 1, none⟩ = some (.int .i64 leaf)) (first | exact unhide KS _ HT0 | exact unhide KS _ hT1 | exact unhide KS _ hT2 | fail) (first
    | (go_at_call 28; refine (unhide C1 _).mono ?_; rintro e w1 ⟨⟨v1, rfl, o1⟩, hb1⟩; have hT1 := HT0.trans (hb1.mono HT0.size); have c2 := hide (unhide C2 w1 v1 o1.rdv); clear hb1 o1)
    | (go_at_call 45; refine (unhide c2).mono ?_; rintro e w2 ⟨⟨v2, rfl, o2⟩, hb2⟩; have hT2 := hT1.trans (hb2.mono hT1.size); have o3 := hide (o2.low (Nat.le_trans hB.size hT1.size)); clear hb2 o2))
  all_goals
    have hF := hB.trans (hT2.mono hB.size)
    clear C1 C2 c2 KS hT1 hT2 HT0
    go_wp2
    go_ret
    exact ⟨⟨_, rfl, unhide o3⟩, hF⟩
end Go.Proofs.YtjgnjjphankhnabGreat

/- Keys of a tree by the project's own functions: a signature that is made, and one that is read, over the loaded program. -/
namespace Go.Proofs.YtjgnjjphankhnabGreat
open Go.RowKit
theorem cutI16 (T : ByteArray) (i j : Nat) (w : World) (h1 : i ≤ j) (h2 : j ≤ T.size) : (Instr.slice 9 (.string T) (some (.int .i64 (i : Int))) (some (.int .i64 (j : Int))) none).run Tryz.prog w = .ok (.string (T.extract i j)) w := by
  rw [run_slice_string_if w 9 T .i64 .i64 (i : Int) (j : Int) Tryz.underlying9, if_pos (by omega), if_pos (by omega)]
  rfl
def prI (f : Nat → ByteArray) (k : Nat) : List ByteArray := (List.range k).map f
theorem prI_len (f : Nat → ByteArray) (k : Nat) : (prI f k).length = k := by unfold prI; rw [List.length_map, List.length_range]
theorem prI_succ (f : Nat → ByteArray) (k : Nat) : prI f (k + 1) = prI f k ++ [f k] := by unfold prI; rw [List.range_succ, List.map_append]; rfl
set_option maxRecDepth 20000 in
set_option maxHeartbeats 800000 in
theorem sign_any (s : ByteArray) (leaf : Int) (m : ByteArray) (hs : s.size ≤ 2000000) (hm : m.size ≤ 1048576) (w : World) :
    Calls Tryz.prog 15 #[.agg #[.string s, .int .i64 leaf], .string m] w fun e w' => (∃ v, e = .returned v ∧ OwnSg w' w.heap.size v ⟨leaf, onceS (keysO s leaf) leaf m, pathL (lvsO s) leaf⟩) ∧ Below w.heap.size w w' := by
  have C1 := hide (fun W => once_any s leaf m hs (by omega) W)
  have C2 := hide (fun W => path_any s leaf hs W)
  generalize onceS (keysO s leaf) leaf m = L1 at *
  generalize pathL (lvsO s) leaf = L2 at *
  go_enter Tryz.func15, Tryz.ntmps15
  go_wp2_with fail
  obtain ⟨V, hV, hKV, hR, hBV, hs2⟩ := two_cb w #[.string s, .int .i64 leaf] #[.int .i64 0, .slice none 0 0, .slice none 0 0] 39 24
  rw [hV]
  clear hV
  have hwV : w.heap.size ≤ V.heap.size := by omega
  have hWle : w.heap.size ≤ w.heap.size + 1 := by omega
  have KS := hide (fun (W' : World) (h : Below V.heap.size V W') => (show W'.cell? ⟨w.heap.size, 0, none⟩ = some (.string s) ∧ W'.cell? ⟨w.heap.size, 1, none⟩ = some (.int .i64 leaf) from ⟨(hKV.step h).cell 0 rfl, (hKV.step h).cell 1 rfl⟩))
  have KF := hide (fun (W' : World) (h : Below V.heap.size V W') (x0 x1 x2 : Value) => (show ((( W'.setCell ⟨w.heap.size + 1, 0, none⟩ x0).setCell ⟨w.heap.size + 1, 1, none⟩ x1).setCell ⟨w.heap.size + 1, 2, none⟩ x2).cell? ⟨w.heap.size, 0, none⟩ = some (.string s) ∧ (((W'.setCell ⟨w.heap.size + 1, 0, none⟩ x0).setCell ⟨w.heap.size + 1, 1, none⟩ x1).setCell ⟨w.heap.size + 1, 2, none⟩ x2).cell? ⟨w.heap.size, 1, none⟩ = some (.int .i64 leaf) from
    have hq := ((((hKV.step h).set_other (h := (w.heap.size + 1)) (k := 0) (by omega) x0).set_other (h := (w.heap.size + 1)) (k := 1) (by omega) x1).set_other (h := (w.heap.size + 1)) (k := 2) (by omega) x2)
    ⟨hq.cell 0 rfl, hq.cell 1 rfl⟩))
  have HR := hide (fun (W' : World) (h : Below V.heap.size V W') => hR.step h)
  have HT0 := (Below.refl V.heap.size V).drew
  clear hR hKV
  go_region_held3 (fun W' => W'.cell? ⟨w.heap.size, 0, none⟩ = some (.string s) ∧ W'.cell? ⟨w.heap.size, 1, none⟩ = some (.int .i64 leaf)) (first | exact unhide KS _ HT0 | exact unhide KF _ hT2 _ _ _ | exact unhide KS _ hT2 | exact unhide KS _ hT1 | fail) (first
    | (go_at_call 29; refine (unhide C1 _).mono ?_; rintro e w1 ⟨⟨v1, rfl, o1⟩, hb1⟩; have hT1 := HT0.trans (hb1.mono HT0.size); have s1 := o1.shape; obtain ⟨a1, c1, rfl⟩ := s1; replace o1 := hide o1; generalize hn1 : (L1.map sv).length = n1 at *)
    | (go_at_call 30; refine (unhide C2 _).mono ?_; rintro e w2 ⟨⟨v2, rfl, o2⟩, hb2⟩; have hT2 := hT1.trans (hb2.mono hT1.size); have s2 := o2.shape; obtain ⟨a2, c2, rfl⟩ := s2; replace o2 := hide o2; generalize hn2 : (L2.map sv).length = n2 at *; have hR2 := unhide HR _ hT2; have r0 := hR2.cell 0 (v := .int .i64 0) rfl; have r1 := hR2.cell 1 (v := .slice none 0 0) rfl; have r2 := hR2.cell 2 (v := .slice none 0 0) rfl; have g0 := hR2.frozen 0; have g1 := hR2.frozen 1; have g2 := hR2.frozen 2; replace hR2 := hide hR2))
  all_goals
    have hsT : V.heap.size ≤ w1.heap.size := hT1.size
    have o5 := hide ((unhide o1).below hb2)
    have ap := hide (show ∀ k, (Value.slice a1 n1 c1).ownBlock = some k → (Value.slice a2 n2 c2).ownBlock ≠ some k from fun k hk hk2 => by
      have h1 := ((unhide o1).lt k hk).2
      have h2 := ((unhide o2).lt k hk2).1
      omega)
    have of5 := hide ((unhide hR2).off (unhide o5) (by decide))
    have of4 := hide ((unhide hR2).off (unhide o2) (by decide))
    have hB4 := hBV.trans (hT2.mono hBV.size)
    have o4' := hide ((unhide o2).low (Nat.le_trans hwV hsT))
    have o5' := hide ((unhide o5).low (show w.heap.size ≤ V.drew.heap.size from hwV))
    have hF := hide ((((unhide hR2).set 0 (.int .i64 leaf)).set 1 (.slice a1 n1 c1)).set 2 (.slice a2 n2 c2))
    have hBF := hide (((hB4.setCell (p := ⟨w.heap.size + 1, 0, none⟩) hWle (.int .i64 leaf)).setCell (p := ⟨w.heap.size + 1, 1, none⟩) hWle (.slice a1 n1 c1)).setCell (p := ⟨w.heap.size + 1, 2, none⟩) hWle (.slice a2 n2 c2))
    have o6 := hide ((((unhide o5').setO (w.heap.size + 1) 0 (.int .i64 leaf) (unhide of5)).setO (w.heap.size + 1) 1 (.slice a1 n1 c1) (unhide of5)).setO (w.heap.size + 1) 2 (.slice a2 n2 c2) (unhide of5))
    have o7 := hide ((((unhide o4').setO (w.heap.size + 1) 0 (.int .i64 leaf) (unhide of4)).setO (w.heap.size + 1) 1 (.slice a1 n1 c1) (unhide of4)).setO (w.heap.size + 1) 2 (.slice a2 n2 c2) (unhide of4))
    clear o1 o2 o5 o4' o5' of5 of4 hB4 hR2 KS KF HR HT0 hT1 hT2 hb1 hb2 r0 r1 r2 g0 g1 g2 C1 C2
    go_wp2
    exact bodyPost_ret (results_cb (by exact Tryz.results15) _ _ _ _ _ _ rfl (unhide hF) Tryz.underlying24 (by kernel_rfl)) rfl ⟨⟨_, rfl, _, _, rfl, unhide o6, unhide o7, unhide ap⟩, unhide hBF⟩
end Go.Proofs.YtjgnjjphankhnabGreat

/- Trees of trees, reckoned. -/
namespace Go.Proofs.YtjgnjjphankhnabGreat
open Go.RowKit
structure Hy where
  top : Sg
  root : ByteArray
  low : Sg
def noSg : Sg := ⟨0, [], []⟩
def lowB (seed : ByteArray) (place : Int) : ByteArray := seed ++ oneY place ++ ⟨#[108]⟩
def topB (seed : ByteArray) : ByteArray := seed ++ ⟨#[116]⟩
def hpubO (seed : ByteArray) : ByteArray := pubO (topB seed)
def hsgnS (seed : ByteArray) (i : Int) (m : ByteArray) : Hy :=
  if 0 ≤ i ∧ i ≤ 15 then ⟨sgnS (topB seed) (i / 4) (pubO (lowB seed (i / 4))), pubO (lowB seed (i / 4)), sgnS (lowB seed (i / 4)) (i % 4) m⟩ else ⟨noSg, ⟨#[]⟩, noSg⟩
def hchkB (p m : ByteArray) (h : Hy) : Bool := chkB p h.root h.top && chkB h.root m h.low
def bothSg (h : Hy) : Bool := sgOk h.top && sgOk h.low
def hidx (h : Hy) : Int := if bothSg h = true then 4 * h.top.leaf + h.low.leaf else -1
def htxOk (h : Hy) : Bool := bothSg h && decide (h.root.size = 4)
def htx (h : Hy) : ByteArray := if htxOk h = true then sgT h.top ++ h.root ++ sgT h.low else ⟨#[]⟩
def hA (t : ByteArray) : ByteArray := t.extract 0 49
def hR (t : ByteArray) : ByteArray := t.extract 49 53
def hL (t : ByteArray) : ByteArray := t.extract 53 t.size
def hrdOk (t : ByteArray) : Bool := decide (t.size = 102) && (rdOk (hA t) && rdOk (hL t))
def hrdS (t : ByteArray) : Hy := if hrdOk t = true then ⟨rdS (hA t), hR t, rdS (hL t)⟩ else ⟨noSg, ⟨#[]⟩, noSg⟩
theorem pubO_four (s : ByteArray) : (pubO s).size = 4 := by
  unfold pubO rootB
  rw [if_pos (lvsO_len s)]
  exact bAt_four (lvs_four _ (lvsO_size s) 2) 0 (by rw [lvs_len _ (lvsO_len s) 2]; decide)
theorem div4 {i : Int} (h : 0 ≤ i ∧ i ≤ 15) : 0 ≤ i / 4 ∧ i / 4 ≤ 3 := by omega
theorem mod4 (i : Int) : 0 ≤ i % 4 ∧ i % 4 ≤ 3 := by omega
theorem sgnS_leaf (seed : ByteArray) (leaf : Int) (m : ByteArray) (h : 0 ≤ leaf ∧ leaf ≤ 3) : (sgnS seed leaf m).leaf = leaf := by unfold sgnS; rw [if_pos h]
theorem hsgn_is {seed : ByteArray} {i : Int} {m : ByteArray} (h : 0 ≤ i ∧ i ≤ 15) : hsgnS seed i m = ⟨sgnS (topB seed) (i / 4) (pubO (lowB seed (i / 4))), pubO (lowB seed (i / 4)), sgnS (lowB seed (i / 4)) (i % 4) m⟩ := by unfold hsgnS; rw [if_pos h]
theorem hsgn_both (seed : ByteArray) (i : Int) (m : ByteArray) (h : 0 ≤ i ∧ i ≤ 15) : bothSg (hsgnS seed i m) = true := by
  rw [hsgn_is h]
  unfold bothSg
  rw [sgnS_ok _ _ _ (div4 h), sgnS_ok _ _ _ (mod4 i)]
  rfl
theorem hsgn_ok (seed : ByteArray) (i : Int) (m : ByteArray) (h : 0 ≤ i ∧ i ≤ 15) : htxOk (hsgnS seed i m) = true := by
  unfold htxOk
  rw [hsgn_both seed i m h, Bool.true_and, hsgn_is h]
  exact decide_eq_true (pubO_four _)
theorem hsgn_chk (seed : ByteArray) (i : Int) (m : ByteArray) (h : 0 ≤ i ∧ i ≤ 15) : hchkB (hpubO seed) m (hsgnS seed i m) = true := by
  rw [hsgn_is h]
  unfold hchkB hpubO
  rw [sgn_chk _ _ _ (div4 h), sgn_chk _ _ _ (mod4 i)]
  rfl
theorem hsgn_idx (seed : ByteArray) (i : Int) (m : ByteArray) (h : 0 ≤ i ∧ i ≤ 15) : hidx (hsgnS seed i m) = i := by
  unfold hidx
  rw [if_pos (hsgn_both seed i m h), hsgn_is h]
  show 4 * (sgnS _ _ _).leaf + (sgnS _ _ _).leaf = i
  rw [sgnS_leaf _ _ _ (div4 h), sgnS_leaf _ _ _ (mod4 i)]
  omega
theorem htxOk_top {h : Hy} (ho : htxOk h = true) : sgOk h.top = true := by unfold htxOk bothSg at ho; simp at ho; exact ho.1.1
theorem htxOk_low {h : Hy} (ho : htxOk h = true) : sgOk h.low = true := by unfold htxOk bothSg at ho; simp at ho; exact ho.1.2
theorem htxOk_root {h : Hy} (ho : htxOk h = true) : h.root.size = 4 := by unfold htxOk bothSg at ho; simp at ho; exact ho.2
theorem htx_is {h : Hy} (ho : htxOk h = true) : htx h = sgT h.top ++ h.root ++ sgT h.low := by unfold htx; rw [if_pos ho]
theorem htx_size {h : Hy} (ho : htxOk h = true) : (htx h).size = 102 := by
  rw [htx_is ho, ByteArray.size_append, ByteArray.size_append, sgT_size (htxOk_top ho), sgT_size (htxOk_low ho), htxOk_root ho]
theorem cut_three (a b c : ByteArray) (ha : a.size = 49) (hb : b.size = 4) : (a ++ b ++ c).extract 0 49 = a ∧ (a ++ b ++ c).extract 49 53 = b ∧ (a ++ b ++ c).extract 53 (a ++ b ++ c).size = c := by
  have hab : (a ++ b).size = 53 := by rw [ByteArray.size_append, ha, hb]
  refine ⟨?_, ?_, ?_⟩
  · rw [ByteArray.append_assoc]
    exact ByteArray.extract_append_eq_left ha.symm
  · rw [ByteArray.extract_append, hab, show c.extract (49 - 53) (53 - 53) = ByteArray.empty from ByteArray.extract_eq_empty_iff.2 (by omega), ByteArray.append_empty, ByteArray.extract_append, ha,
      show a.extract 49 53 = ByteArray.empty from ByteArray.extract_eq_empty_iff.2 (by rw [ha]; omega), ByteArray.empty_append, show 53 - 49 = b.size by rw [hb], Nat.sub_self]
    exact ByteArray.extract_zero_size
  · have hs : (a ++ b ++ c).size = 53 + c.size := by rw [ByteArray.size_append, hab]
    rw [hs, ByteArray.extract_append, hab, show (a ++ b).extract 53 (53 + c.size) = ByteArray.empty from ByteArray.extract_eq_empty_iff.2 (by rw [hab]; omega), ByteArray.empty_append, Nat.sub_self, Nat.add_sub_cancel_left]
    exact ByteArray.extract_zero_size
theorem hrdOk_htx {h : Hy} (ho : htxOk h = true) : hrdOk (htx h) = true := by
  obtain ⟨e1, _, e3⟩ := cut_three (sgT h.top) h.root (sgT h.low) (sgT_size (htxOk_top ho)) (htxOk_root ho)
  unfold hrdOk hA hL
  rw [decide_eq_true (htx_size ho), htx_is ho, e1, e3, rdOk_of (rdIn_sgT (htxOk_top ho)), rdOk_of (rdIn_sgT (htxOk_low ho))]
  rfl
/-- What is written is read. -/
theorem hrd_htx {h : Hy} (ho : htxOk h = true) : hrdS (htx h) = h := by
  obtain ⟨e1, e2, e3⟩ := cut_three (sgT h.top) h.root (sgT h.low) (sgT_size (htxOk_top ho)) (htxOk_root ho)
  unfold hrdS
  rw [if_pos (hrdOk_htx ho)]
  unfold hA hR hL
  rw [htx_is ho, e1, e2, e3, rd_sgT (htxOk_top ho), rd_sgT (htxOk_low ho)]
theorem hrd_parts {t : ByteArray} (h : hrdOk t = true) : t.size = 102 ∧ rdIn (hA t) ∧ rdIn (hL t) := by
  unfold hrdOk at h
  rw [Bool.and_eq_true, Bool.and_eq_true] at h
  exact ⟨of_decide_eq_true h.1, rdOk_in h.2.1, rdOk_in h.2.2⟩
theorem hrd_is {t : ByteArray} (h : hrdOk t = true) : hrdS t = ⟨rdS (hA t), hR t, rdS (hL t)⟩ := by unfold hrdS; rw [if_pos h]
theorem hrd_both {t : ByteArray} (h : hrdOk t = true) : bothSg (hrdS t) = true := by
  obtain ⟨_, h1, h2⟩ := hrd_parts h
  rw [hrd_is h]
  unfold bothSg
  rw [rdS_ok h1, rdS_ok h2]
  rfl
theorem hrd_ok {t : ByteArray} (h : hrdOk t = true) : htxOk (hrdS t) = true := by
  unfold htxOk
  rw [hrd_both h, Bool.true_and, hrd_is h]
  apply decide_eq_true
  show (t.extract 49 53).size = 4
  rw [ByteArray.size_extract, (hrd_parts h).1]
  rfl
theorem three_cut (t : ByteArray) (hz : t.size = 102) : hA t ++ hR t ++ hL t = t := by
  unfold hA hR hL
  have e1 : t.extract 0 49 ++ t.extract 49 53 = t.extract 0 53 := by
    rw [ByteArray.extract_append_extract, Nat.min_eq_left (by omega), Nat.max_eq_right (by omega)]
  rw [e1, ByteArray.extract_append_extract, Nat.min_eq_left (by omega), Nat.max_eq_right (by omega)]
  exact ByteArray.extract_zero_size
/-- What is read is written so. -/
theorem htx_hrd {t : ByteArray} (h : hrdOk t = true) : htx (hrdS t) = t := by
  have hp := hrd_parts h
  have e := htx_is (hrd_ok h)
  have e2 := hrd_is h
  generalize hrdS t = x at *
  subst e2
  rw [e]
  have e3 := sgT_rd hp.2.1
  have e4 := sgT_rd hp.2.2
  simp only [e3, e4]
  exact three_cut t hp.1
theorem hidx_nonneg {h : Hy} (hb : bothSg h = true) : 0 ≤ hidx h := by
  unfold hidx
  rw [if_pos hb]
  unfold bothSg at hb
  rw [Bool.and_eq_true] at hb
  have h1 := (sgOk_shape hb.1).1
  have h2 := (sgOk_shape hb.2).1
  omega
end Go.Proofs.YtjgnjjphankhnabGreat

/- Trees of trees by the project's own functions: the keys of an index, and public texts, over the loaded program. -/
namespace Go.Proofs.YtjgnjjphankhnabGreat
open Go.RowKit
theorem results_arrC {P : Program} {fn : Func} {p : Tmp} {ty : TypeId} (h : fn.results = #[.cell p ty]) (tmps : Array Value) (w : World) (g : Nat) (T : TypeId) (cs : Array Value) (n : Nat) (e : TypeId)
    (hp : tmps.getD p undef = .pointer (some ⟨g, 0, none⟩)) (hA : CB w g T cs) (hu : P.underlying ty = some (.array n e)) (hi : (P.info? ty).map (·.size) = some cs.size) :
    (results fn tmps).run P w = .ok (.agg cs) w :=
  results_cell_row h tmps w g T _ (0, 0) _ hp hA hu rfl hi
theorem topB_size (s : ByteArray) : (topB s).size = s.size + 1 := by unfold topB; rw [ByteArray.size_append]; rfl
theorem lowB_size (s : ByteArray) (p : Int) : (lowB s p).size = s.size + 2 := by unfold lowB; rw [ByteArray.size_append, ByteArray.size_append, oneY_size]; rfl
set_option maxRecDepth 20000 in
set_option maxHeartbeats 400000 in
theorem topKey_any (s : ByteArray) (i : Int) (hi : 0 ≤ i ∧ i ≤ 15) (hs : s.size ≤ 1048576) (w : World) :
    Calls Tryz.prog 25 #[.string s, .int .i64 i] w fun e w' => e = .returned (.agg #[.string (topB s), .int .i64 (i / 4)]) ∧ Below w.heap.size w w' := by
  obtain ⟨q, hq⟩ : ∃ q : Int, q = i / 4 := ⟨_, rfl⟩
  have t1 : i.tdiv 4 = q := by rw [Int.tdiv_eq_ediv_of_nonneg hi.1]; omega
  have t1' : i / 4 = q := hq.symm
  have t3 : IntKind.i64.wrap q = q := by rw [IntKind.wrap_i64]; omega
  have h1 : ¬ 9223372036854775807 < s.size + 1 := by omega
  have h2 : s.size + 1 ≤ 9223372036854775807 := by omega
  have HE := hide (show s ++ ⟨#[116]⟩ = topB s from rfl)
  rw [t1', ← unhide HE]
  clear hq HE hi
  go_enter Tryz.func25, Tryz.ntmps25
  go_wp2
  obtain ⟨W, hW, hR, hB, hs1⟩ := one_cb w #[.string (s ++ ⟨#[116]⟩), .int .i64 q] 39
  rw [hW]
  exact bodyPost_ret (results_cb (by exact Tryz.results25) _ _ _ _ _ _ rfl hR Tryz.underlying39 (by kernel_rfl)) rfl ⟨rfl, hB⟩
set_option maxRecDepth 20000 in
set_option maxHeartbeats 400000 in
theorem lowKey_any (s : ByteArray) (i : Int) (hi : 0 ≤ i ∧ i ≤ 15) (hs : s.size ≤ 1048576) (w : World) :
    Calls Tryz.prog 26 #[.string s, .int .i64 i] w fun e w' => e = .returned (.agg #[.string (lowB s (i / 4)), .int .i64 (i % 4)]) ∧ Below w.heap.size w w' := by
  obtain ⟨q, hq⟩ : ∃ q : Int, q = i / 4 := ⟨_, rfl⟩
  obtain ⟨r, hr⟩ : ∃ r : Int, r = i % 4 := ⟨_, rfl⟩
  have t1 : i.tdiv 4 = q := by rw [Int.tdiv_eq_ediv_of_nonneg hi.1]; omega
  have t1' : i / 4 = q := hq.symm
  have t2 : i.tmod 4 = r := by rw [Int.tmod_eq_emod_of_nonneg hi.1]; omega
  have t2' : i % 4 = r := hr.symm
  have t3 : IntKind.i64.wrap q = q := by rw [IntKind.wrap_i64]; omega
  have t4 : IntKind.i64.wrap r = r := by rw [IntKind.wrap_i64]; omega
  have CB0 := hide (fun W => implByteY_any q W)
  have za := oneY_size q
  have HE := hide (show s ++ oneY q ++ ⟨#[108]⟩ = lowB s q from rfl)
  rw [t1', t2', ← unhide HE]
  generalize oneY q = y at *
  have h1 : ¬ 9223372036854775807 < s.size + y.size := by omega
  have h2 : ¬ 9223372036854775807 < (s ++ y).size + 1 := by rw [ByteArray.size_append]; omega
  have h3 : (s ++ y).size + 1 ≤ 9223372036854775807 := by rw [ByteArray.size_append]; omega
  have h4 : s.size + y.size ≤ 9223372036854775807 := by omega
  have h5 : (s ++ y).size = s.size + y.size := ByteArray.size_append
  replace za := hide za
  clear hq hr HE hi
  go_enter Tryz.func26, Tryz.ntmps26
  go_wp2_with fail
  obtain ⟨W, hW, hR, hB, hs1⟩ := one_cb w #[.string ⟨#[]⟩, .int .i64 0] 39
  rw [hW]
  clear hW
  refine (unhide CB0 W).mono ?_
  rintro e w1 ⟨rfl, hb1⟩
  have hB1 := hB.trans (hb1.mono hB.size)
  have hR1 := hR.step hb1
  clear CB0 hb1 hR hB
  have r0 := hR1.cell 0 (v := .string ⟨#[]⟩) rfl
  have r1 := hR1.cell 1 (v := .int .i64 0) rfl
  have g0 := hR1.frozen 0
  have g1 := hR1.frozen 1
  go_wp2
  have hF := hide ((hR1.set 0 (.string (s ++ y ++ ⟨#[108]⟩))).set 1 (.int .i64 r))
  have hBF := hide ((hB1.setCell (p := ⟨w.heap.size, 0, none⟩) (Nat.le_refl _) (.string (s ++ y ++ ⟨#[108]⟩))).setCell (p := ⟨w.heap.size, 1, none⟩) (Nat.le_refl _) (.int .i64 r))
  exact bodyPost_ret (results_cb (by exact Tryz.results26) _ _ _ _ _ _ rfl (unhide hF) Tryz.underlying39 (by kernel_rfl)) rfl ⟨rfl, unhide hBF⟩
theorem idx17a (f g : Nat) (W : World) : (Instr.index 55 (.agg #[.func (.func f) #[] #[], .func (.func g) #[] #[]]) (.int .i64 0)).run Tryz.prog W = .ok (.func (.func f) #[] #[]) W := by kernel_rfl
theorem idx17b (f g : Nat) (W : World) : (Instr.index 55 (.agg #[.func (.func f) #[] #[], .func (.func g) #[] #[]]) (.int .i64 1)).run Tryz.prog W = .ok (.func (.func g) #[] #[]) W := by kernel_rfl
set_option maxRecDepth 20000 in
set_option maxHeartbeats 1600000 in
theorem keysAt_any (s : ByteArray) (i : Int) (hi : 0 ≤ i ∧ i ≤ 15) (hs : s.size ≤ 1048576) (w : World) :
    Calls Tryz.prog 13 #[.string s, .int .i64 i] w fun e w' => e = .returned (.agg #[.string (topB s), .int .i64 (i / 4), .string (lowB s (i / 4)), .int .i64 (i % 4)]) ∧ Below w.heap.size w w' := by
  have C1 := hide (fun W => topKey_any s i hi hs W)
  have C2 := hide (fun W => lowKey_any s i hi hs W)
  generalize topB s = tb at *
  generalize lowB s (i / 4) = lb at *
  generalize i / 4 = q at *
  generalize i % 4 = r at *
  have X1 := idx17a 25 26
  have X2 := idx17b 25 26
  clear hi
  go_enter Tryz.func13, Tryz.ntmps13
  go_wp2_with fail
  obtain ⟨W, hW, hA, hN, hK, hB, hs1⟩ := three_cb w #[.string ⟨#[]⟩, .int .i64 0, .string ⟨#[]⟩, .int .i64 0] #[.func (.func 25) #[] #[], .func (.func 26) #[] #[]] #[.string ⟨#[]⟩, .int .i64 0, .string ⟨#[]⟩, .int .i64 0] 40 55 40
  rw [hW]
  clear hW
  refine wp_loop_rounds 3 ?_
  rw [rounds_succ]
  go_wp2_with fail
  refine (unhide C1 W).mono ?_
  rintro e w1 ⟨rfl, hb1⟩
  have hB1 := hB.trans (hb1.mono hB.size)
  have hA1 := hA.step hb1
  have hK1 := hK.step hb1
  have r0 := hK1.cell 0 (v := .string ⟨#[]⟩) rfl
  have r1 := hK1.cell 1 (v := .int .i64 0) rfl
  have g0 := hK1.frozen 0
  have g1 := hK1.frozen 1
  clear hb1 hA hK hB hN C1
  go_wp2_with fail
  have hK2 : CB _ _ _ #[.string tb, .int .i64 q, .string ⟨#[]⟩, .int .i64 0] := (hK1.set 0 (.string tb)).set 1 (.int .i64 q)
  have hA2 := (hA1.set_other (h := w.heap.size + 1 + 1) (k := 0) (by omega) (.string tb)).set_other (h := w.heap.size + 1 + 1) (k := 1) (by omega) (.int .i64 q)
  have hB2 := (hB1.setCell (p := ⟨w.heap.size + 1 + 1, 0, none⟩) (by show w.heap.size ≤ w.heap.size + 1 + 1; omega) (.string tb)).setCell (p := ⟨w.heap.size + 1 + 1, 1, none⟩) (by show w.heap.size ≤ w.heap.size + 1 + 1; omega) (.int .i64 q)
  generalize (w1.setCell ⟨w.heap.size + 1 + 1, 0, none⟩ (.string tb)).setCell ⟨w.heap.size + 1 + 1, 1, none⟩ (.int .i64 q) = W2 at *
  clear hK1 hA1 hB1 r0 r1 g0 g1
  rw [rounds_succ]
  go_wp2_with fail
  refine (unhide C2 W2).mono ?_
  rintro e w3 ⟨rfl, hb3⟩
  have hB3 := hB2.trans (hb3.mono hB2.size)
  have hA3 := hA2.step hb3
  have hK3 := hK2.step hb3
  have r2 := hK3.cell 2 (v := .string ⟨#[]⟩) rfl
  have r3 := hK3.cell 3 (v := .int .i64 0) rfl
  have g2 := hK3.frozen 2
  have g3 := hK3.frozen 3
  clear hb3 hA2 hK2 hB2 C2
  go_wp2_with fail
  have hK4 : CB _ _ _ #[.string tb, .int .i64 q, .string lb, .int .i64 r] := (hK3.set 2 (.string lb)).set 3 (.int .i64 r)
  have hA4 := (hA3.set_other (h := w.heap.size + 1 + 1) (k := 2) (by omega) (.string lb)).set_other (h := w.heap.size + 1 + 1) (k := 3) (by omega) (.int .i64 r)
  have hB4 := (hB3.setCell (p := ⟨w.heap.size + 1 + 1, 2, none⟩) (by show w.heap.size ≤ w.heap.size + 1 + 1; omega) (.string lb)).setCell (p := ⟨w.heap.size + 1 + 1, 3, none⟩) (by show w.heap.size ≤ w.heap.size + 1 + 1; omega) (.int .i64 r)
  generalize (w3.setCell ⟨w.heap.size + 1 + 1, 2, none⟩ (.string lb)).setCell ⟨w.heap.size + 1 + 1, 3, none⟩ (.int .i64 r) = W4 at *
  clear hK3 hA3 hB3 r2 r3 g2 g3
  have x0 := hK4.cell 0 (v := .string tb) rfl
  have x1 := hK4.cell 1 (v := .int .i64 q) rfl
  have x2 := hK4.cell 2 (v := .string lb) rfl
  have x3 := hK4.cell 3 (v := .int .i64 r) rfl
  have r0 := hA4.cell 0 (v := .string ⟨#[]⟩) rfl
  have r1 := hA4.cell 1 (v := .int .i64 0) rfl
  have r2 := hA4.cell 2 (v := .string ⟨#[]⟩) rfl
  have r3 := hA4.cell 3 (v := .int .i64 0) rfl
  have g0 := hA4.frozen 0
  have g1 := hA4.frozen 1
  have g2 := hA4.frozen 2
  have g3 := hA4.frozen 3
  rw [rounds_succ]
  go_wp2
  have hF := hide ((((hA4.set 0 (.string tb)).set 1 (.int .i64 q)).set 2 (.string lb)).set 3 (.int .i64 r))
  have hBF := hide ((((hB4.setCell (p := ⟨w.heap.size, 0, none⟩) (Nat.le_refl _) (.string tb)).setCell (p := ⟨w.heap.size, 1, none⟩) (Nat.le_refl _) (.int .i64 q)).setCell (p := ⟨w.heap.size, 2, none⟩) (Nat.le_refl _) (.string lb)).setCell (p := ⟨w.heap.size, 3, none⟩) (Nat.le_refl _) (.int .i64 r))
  exact bodyPost_ret (results_arrC (by exact Tryz.results13) _ _ _ _ _ _ _ rfl (unhide hF) Tryz.underlying40 (by kernel_rfl)) rfl ⟨rfl, unhide hBF⟩
end Go.Proofs.YtjgnjjphankhnabGreat

/- The laws' helpers on signatures of trees of trees, over the loaded program. -/
namespace Go.Proofs.YtjgnjjphankhnabGreat
open Go.RowKit
def hyv (lt : Int) (v1 v2 : Value) (r : ByteArray) (ll : Int) (v3 v4 : Value) : Value := .agg #[.int .i64 lt, v1, v2, .string r, .int .i64 ll, v3, v4]
def RdHy (w : World) (v : Value) (h : Hy) : Prop := ∃ v1 v2 v3 v4, v = hyv h.top.leaf v1 v2 h.root h.low.leaf v3 v4 ∧ RdV w v1 (h.top.once.map sv) ∧ RdV w v2 (h.top.path.map sv) ∧ RdV w v3 (h.low.once.map sv) ∧ RdV w v4 (h.low.path.map sv) ∧ CapV v1 ∧ CapV v2 ∧ CapV v3 ∧ CapV v4
def OwnHy (w : World) (base : Nat) (v : Value) (h : Hy) : Prop := ∃ v1 v2 v3 v4, v = hyv h.top.leaf v1 v2 h.root h.low.leaf v3 v4 ∧ OwnSg w base (sgv h.top.leaf v1 v2) h.top ∧ OwnSg w base (sgv h.low.leaf v3 v4) h.low ∧ ∀ k, (v1.ownBlock = some k ∨ v2.ownBlock = some k) → v3.ownBlock ≠ some k ∧ v4.ownBlock ≠ some k
theorem OwnHy.rd {w : World} {base : Nat} {v : Value} {h : Hy} (ho : OwnHy w base v h) : RdHy w v h := by
  obtain ⟨v1, v2, v3, v4, e, h1, h2, _⟩ := ho
  exact ⟨v1, v2, v3, v4, e, h1.rows.1.rdv, h1.rows.2.1.rdv, h2.rows.1.rdv, h2.rows.2.1.rdv, h1.rows.1.capv, h1.rows.2.1.capv, h2.rows.1.capv, h2.rows.2.1.capv⟩
theorem RdHy.below {w w' : World} {v : Value} {h : Hy} (hr : RdHy w v h) (hb : Below w.heap.size w w') : RdHy w' v h := by
  obtain ⟨v1, v2, v3, v4, e, h1, h2, h3, h4, hq⟩ := hr
  exact ⟨v1, v2, v3, v4, e, h1.below hb, h2.below hb, h3.below hb, h4.below hb, hq⟩
theorem OwnHy.below {w w' : World} {base : Nat} {v : Value} {h : Hy} (ho : OwnHy w base v h) (hb : Below w.heap.size w w') : OwnHy w' base v h := by
  obtain ⟨v1, v2, v3, v4, e, h1, h2, h3⟩ := ho
  exact ⟨v1, v2, v3, v4, e, h1.below hb, h2.below hb, h3⟩
theorem RdHy.open {w : World} {v : Value} {h : Hy} (hr : RdHy w v h) : ∃ a1 n1 c1 a2 n2 c2 a3 n3 c3 a4 n4 c4, v = .agg #[.int .i64 h.top.leaf, .slice a1 n1 c1, .slice a2 n2 c2, .string h.root, .int .i64 h.low.leaf, .slice a3 n3 c3, .slice a4 n4 c4] := by
  obtain ⟨v1, v2, v3, v4, rfl, h1, h2, h3, h4, _⟩ := hr
  obtain ⟨a1, c1, rfl⟩ := h1.shape
  obtain ⟨a2, c2, rfl⟩ := h2.shape
  obtain ⟨a3, c3, rfl⟩ := h3.shape
  obtain ⟨a4, c4, rfl⟩ := h4.shape
  exact ⟨_, _, _, _, _, _, _, _, _, _, _, _, rfl⟩
/-- Both signatures of what is read as this. -/
theorem RdHy.parts {w : World} {h : Hy} {lt ll : Int} {r : ByteArray} {v1 v2 v3 v4 : Value} (hr : RdHy w (.agg #[.int .i64 lt, v1, v2, .string r, .int .i64 ll, v3, v4]) h) : RdSg w (.agg #[.int .i64 lt, v1, v2]) h.top ∧ RdSg w (.agg #[.int .i64 ll, v3, v4]) h.low := by
  obtain ⟨u1, u2, u3, u4, e, h1, h2, h3, h4, q1, q2, q3, q4⟩ := hr
  unfold hyv at e
  injection e with e
  simp at e
  obtain ⟨rfl, rfl, rfl, rfl, rfl, rfl, rfl⟩ := e
  exact ⟨⟨_, _, rfl, h1, h2, q1, q2⟩, ⟨_, _, rfl, h3, h4, q3, q4⟩⟩
theorem OwnHy.parts {w : World} {base : Nat} {h : Hy} {lt ll : Int} {r : ByteArray} {v1 v2 v3 v4 : Value} (ho : OwnHy w base (.agg #[.int .i64 lt, v1, v2, .string r, .int .i64 ll, v3, v4]) h) : OwnSg w base (sgv h.top.leaf v1 v2) h.top ∧ OwnSg w base (sgv h.low.leaf v3 v4) h.low ∧ (∀ k, (v1.ownBlock = some k ∨ v2.ownBlock = some k) → v3.ownBlock ≠ some k ∧ v4.ownBlock ≠ some k) ∧ lt = h.top.leaf ∧ ll = h.low.leaf ∧ r = h.root := by
  obtain ⟨u1, u2, u3, u4, e, h1, h2, h3⟩ := ho
  unfold hyv at e
  injection e with e
  simp at e
  obtain ⟨rfl, rfl, rfl, rfl, rfl, rfl, rfl⟩ := e
  exact ⟨h1, h2, h3, rfl, rfl, rfl⟩
def okHy (h : Hy) : Prop := ((∀ x ∈ h.top.once, x.size ≤ maxLen) ∧ (∀ x ∈ h.top.path, x.size ≤ maxLen) ∧ h.top.once.length ≤ maxLen ∧ h.top.path.length ≤ maxLen) ∧ h.root.size ≤ maxLen ∧ ((∀ x ∈ h.low.once, x.size ≤ maxLen) ∧ (∀ x ∈ h.low.path, x.size ≤ maxLen) ∧ h.low.once.length ≤ maxLen ∧ h.low.path.length ≤ maxLen)
def mass (s : Sg) : Nat := s.once.length + sumS s.once + s.path.length + sumS s.path
def hyZ : Array Value := #[.int .i64 0, .slice none 0 0, .slice none 0 0, .string ⟨#[]⟩, .int .i64 0, .slice none 0 0, .slice none 0 0]
set_option maxRecDepth 20000 in
set_option maxHeartbeats 800000 in
theorem eqHyper_any (h : Hy) (v u : Value) (w : World) (hv : RdHy w v h) (hu : RdHy w u h) (n1 : h.top.once.length ≤ 2000000) (n2 : h.top.path.length ≤ 2000000) (n3 : h.low.once.length ≤ 2000000) (n4 : h.low.path.length ≤ 2000000) :
    Calls Tryz.prog 6 #[v, u] w fun e w' => e = .returned (.bool true) ∧ Below w.heap.size w w' := by
  obtain ⟨a1, m1, c1, a2, m2, c2, a3, m3, c3, a4, m4, c4, rfl⟩ := hv.open
  obtain ⟨b1, k1, d1, b2, k2, d2, b3, k3, d3, b4, k4, d4, rfl⟩ := hu.open
  obtain ⟨p1, p2⟩ := hv.parts
  obtain ⟨q1, q2⟩ := hu.parts
  have C1 := hide (fun (W : World) (hb : Below w.heap.size w W) => eqSig_any h.top _ _ W (p1.below hb) (q1.below hb) n1 n2)
  have C2 := hide (fun (W : World) (hb : Below w.heap.size w W) => eqSig_any h.low _ _ W (p2.below hb) (q2.below hb) n3 n4)
  clear hv hu p1 p2 q1 q2 n1 n2 n3 n4
  go_enter Tryz.func6, Tryz.ntmps6
  go_wp2_with fail
  obtain ⟨W, hW, hP, hR, hB, hs⟩ := two_cb w #[.int .i64 h.top.leaf, .slice a1 m1 c1, .slice a2 m2 c2, .string h.root, .int .i64 h.low.leaf, .slice a3 m3 c3, .slice a4 m4 c4] #[.int .i64 h.top.leaf, .slice b1 k1 d1, .slice b2 k2 d2, .string h.root, .int .i64 h.low.leaf, .slice b3 k3 d3, .slice b4 k4 d4] 26 26
  rw [hW]
  clear hW
  refine (unhide C1 W hB).mono ?_
  rintro e w1 ⟨rfl, hb1⟩
  have T1 := hB.trans (hb1.mono hB.size)
  have hP1 := hP.step hb1
  have hR1 := hR.step hb1
  have x3 := hP1.cell 3 (v := .string h.root) rfl
  have x4 := hP1.cell 4 (v := .int .i64 h.low.leaf) rfl
  have x5 := hP1.cell 5 (v := .slice a3 m3 c3) rfl
  have x6 := hP1.cell 6 (v := .slice a4 m4 c4) rfl
  have y3 := hR1.cell 3 (v := .string h.root) rfl
  have y4 := hR1.cell 4 (v := .int .i64 h.low.leaf) rfl
  have y5 := hR1.cell 5 (v := .slice b3 k3 d3) rfl
  have y6 := hR1.cell 6 (v := .slice b4 k4 d4) rfl
  clear hb1 hP hR C1 hB hP1 hR1
  replace C2 := hide (unhide C2 w1 T1)
  go_wp2_with fail
  refine (unhide C2).mono ?_
  rintro e w2 ⟨rfl, hb2⟩
  have T2 := T1.trans (hb2.mono T1.size)
  clear hb2 C2 T1 x3 x4 x5 x6 y3 y4 y5 y6
  go_wp2
  go_ret
  exact ⟨rfl, T2⟩
/-- One whose texts are marked from 1 on. -/
def MkHy (w : World) (base : Nat) (v : Value) (h : Hy) : Prop := ∃ v1 v2 v3 v4, v = hyv h.top.leaf v1 v2 h.root h.low.leaf v3 v4 ∧ MkSgK w base (sgv h.top.leaf v1 v2) h.top 1 ∧ MkSgK w base (sgv h.low.leaf v3 v4) h.low (1 + h.top.once.length + h.top.path.length)
theorem MkHy.below {w w' : World} {base : Nat} {v : Value} {h : Hy} (hm : MkHy w base v h) (hb : Below w.heap.size w w') : MkHy w' base v h := by
  obtain ⟨v1, v2, v3, v4, e, h1, h2⟩ := hm
  exact ⟨v1, v2, v3, v4, e, h1.below hb, h2.below hb⟩
set_option maxRecDepth 20000 in
set_option maxHeartbeats 800000 in
theorem markHyper_any (h : Hy) (v : Value) (base M : Nat) (w w0 : World) (hM : M = 1 + h.top.once.length + h.top.path.length + h.low.once.length + h.low.path.length) (ho : OwnHy w base v h) (hW0 : Below base w0 w) (hbw : base ≤ w.heap.size) (n1 : h.top.once.length ≤ 2000000) (n2 : h.top.path.length ≤ 2000000) (n3 : h.low.once.length ≤ 2000000) (n4 : h.low.path.length ≤ 2000000) :
    Calls Tryz.prog 7 #[v, .int .i64 1] w fun e w' => e = .returned (.int .i64 (M : Int)) ∧ MkHy w' base v h ∧ Below base w0 w' ∧ ∀ g T cs, CB w g T cs → T ≠ 9 → CB w' g T cs := by
  obtain ⟨a1, m1, c1, a2, m2, c2, a3, m3, c3, a4, m4, c4, rfl⟩ := ho.rd.open
  obtain ⟨o1, o2, ap, _, _, _⟩ := ho.parts
  obtain ⟨q, hq⟩ : ∃ q, q = 1 + h.top.once.length + h.top.path.length := ⟨_, rfl⟩
  have C1 := hide (fun (W : World) (ho : OwnSg W base (sgv h.top.leaf (.slice a1 m1 c1) (.slice a2 m2 c2)) h.top) (hb : Below base w0 W) (hw : base ≤ W.heap.size) => markSigK_any 1 (Nat.le_refl _) (by omega) h.top _ base q W w0 hq ho hb hw n1 n2)
  have C2 := hide (fun (W : World) (ho : OwnSg W base (sgv h.low.leaf (.slice a3 m3 c3) (.slice a4 m4 c4)) h.low) (hb : Below base w0 W) (hw : base ≤ W.heap.size) => markSigK_any q (by omega) (by omega) h.low _ base M W w0 (by omega) ho hb hw n3 n4)
  have HF := hide (fun (W : World) (x1 : MkSgK W base (sgv h.top.leaf (.slice a1 m1 c1) (.slice a2 m2 c2)) h.top 1) (x2 : MkSgK W base (sgv h.low.leaf (.slice a3 m3 c3) (.slice a4 m4 c4)) h.low q) => show MkHy W base (.agg #[.int .i64 h.top.leaf, .slice a1 m1 c1, .slice a2 m2 c2, .string h.root, .int .i64 h.low.leaf, .slice a3 m3 c3, .slice a4 m4 c4]) h from ⟨_, _, _, _, rfl, x1, by rw [← hq]; exact x2⟩)
  have hop := hide ho
  replace o1 := hide o1; replace o2 := hide o2; replace ap := hide ap; replace hq := hide hq; replace hM := hide hM
  clear ho hop n1 n2 n3 n4
  go_enter Tryz.func7, Tryz.ntmps7
  go_wp2_with fail
  obtain ⟨W, hW, hP, hB, hs⟩ := one_cb w #[.int .i64 h.top.leaf, .slice a1 m1 c1, .slice a2 m2 c2, .string h.root, .int .i64 h.low.leaf, .slice a3 m3 c3, .slice a4 m4 c4] 26
  rw [hW]
  clear hW
  have o1' := (unhide o1).below hB
  have o2' := hide ((unhide o2).below hB)
  have hBW := hW0.trans (hB.mono hbw)
  refine (unhide C1 W o1' hBW (by omega)).mono ?_
  rintro e w1 ⟨rfl, mk1, T1, KC1, KU1⟩
  have hP1 := KC1 _ _ _ hP (by decide)
  have r1 := (unhide o2').rows
  have s1 := KU1 _ _ rfl _ _ _ r1.1 (fun j hj => ⟨fun e => (unhide ap j (.inl e)).1 hj, fun e => (unhide ap j (.inr e)).1 hj⟩)
  have s2 := KU1 _ _ rfl _ _ _ r1.2.1 (fun j hj => ⟨fun e => (unhide ap j (.inl e)).2 hj, fun e => (unhide ap j (.inr e)).2 hj⟩)
  have o3 := hide (show OwnSg w1 base (sgv h.low.leaf (.slice a3 m3 c3) (.slice a4 m4 c4)) h.low from ⟨_, _, rfl, s1, s2, r1.2.2⟩)
  have K1 := hide (fun g T cs (hc : CB w g T cs) (hT : T ≠ 9) => KC1 g T cs (hc.step hB) hT)
  have x4 := hP1.cell 4 (v := .int .i64 h.low.leaf) rfl
  have x5 := hP1.cell 5 (v := .slice a3 m3 c3) rfl
  have x6 := hP1.cell 6 (v := .slice a4 m4 c4) rfl
  have hw1 : base ≤ w1.heap.size := by have := hP1.lt; omega
  replace mk1 := hide mk1
  replace C2 := hide (unhide C2 w1 (unhide o3) T1 hw1)
  clear C1 hB hBW o1' o2' r1 s1 s2 KC1 KU1 hP hP1 o1 o2
  go_wp2_with fail
  refine (unhide C2).mono ?_
  rintro e w2 ⟨rfl, mk2, T2, KC2, KU2⟩
  obtain ⟨y1, y2, ey, z1, z2⟩ := unhide mk1
  obtain ⟨rfl, rfl⟩ := sgv_inj ey
  have t1 := KU2 _ _ rfl _ _ _ z1 (fun j hj => ⟨fun e => (unhide ap j (.inl hj)).1 e, fun e => (unhide ap j (.inl hj)).2 e⟩)
  have t2 := KU2 _ _ rfl _ _ _ z2 (fun j hj => ⟨fun e => (unhide ap j (.inr hj)).1 e, fun e => (unhide ap j (.inr hj)).2 e⟩)
  have HR := hide (unhide HF w2 ⟨_, _, rfl, t1, t2⟩ mk2)
  have K2 := hide (fun g T cs (hc : CB w g T cs) (hT : T ≠ 9) => KC2 g T cs (unhide K1 g T cs hc hT) hT)
  clear C2 mk1 mk2 KC2 KU2 ey z1 z2 t1 t2 K1 x4 x5 x6 HF T1 hw1 o3
  go_wp2
  go_ret
  exact ⟨rfl, unhide HR, T2, unhide K2⟩
set_option maxRecDepth 20000 in
set_option maxHeartbeats 800000 in
theorem heldHyper_any (h : Hy) (v : Value) (base M : Nat) (w : World) (hM : M = 1 + h.top.once.length + h.top.path.length + h.low.once.length + h.low.path.length) (ho : MkHy w base v h) (n1 : h.top.once.length ≤ 2000000) (n2 : h.top.path.length ≤ 2000000) (n3 : h.low.once.length ≤ 2000000) (n4 : h.low.path.length ≤ 2000000) :
    Calls Tryz.prog 8 #[v, .int .i64 1] w fun e w' => e = .returned (.int .i64 (M : Int)) ∧ Below w.heap.size w w' := by
  obtain ⟨v1, v2, v3, v4, rfl, o1, o2⟩ := ho
  obtain ⟨q, hq⟩ : ∃ q, q = 1 + h.top.once.length + h.top.path.length := ⟨_, rfl⟩
  rw [← hq] at o2
  have C1 := hide (fun (W : World) (hb : Below w.heap.size w W) => heldSigK_any 1 (Nat.le_refl _) (by omega) h.top _ base q W hq (o1.below hb) n1 n2)
  have C2 := hide (fun (W : World) (hb : Below w.heap.size w W) => heldSigK_any q (by omega) (by omega) h.low _ base M W (by omega) (o2.below hb) n3 n4)
  have hq0 : ¬ (q : Int) < 0 := by omega
  have hM0 : ¬ (M : Int) < 0 := by omega
  obtain ⟨y1, y2, ey, z1, z2⟩ := o1
  obtain ⟨rfl, rfl⟩ := sgv_inj ey
  obtain ⟨y3, y4, ey2, z3, z4⟩ := o2
  obtain ⟨rfl, rfl⟩ := sgv_inj ey2
  obtain ⟨a1, c1, rfl⟩ := z1.shape
  obtain ⟨a2, c2, rfl⟩ := z2.shape
  obtain ⟨a3, c3, rfl⟩ := z3.shape
  obtain ⟨a4, c4, rfl⟩ := z4.shape
  unfold hyv sgv at *
  replace hq := hide hq; replace hM := hide hM
  clear ey ey2 z1 z2 z3 z4 n1 n2 n3 n4
  generalize (mkT 1 h.top.once.length).length = m1 at *
  generalize (mkT (1 + h.top.once.length) h.top.path.length).length = m2 at *
  generalize (mkT q h.low.once.length).length = m3 at *
  generalize (mkT (q + h.low.once.length) h.low.path.length).length = m4 at *
  go_enter Tryz.func8, Tryz.ntmps8
  go_wp2_with fail
  obtain ⟨W, hW, hP, hB, hs⟩ := one_cb w #[.int .i64 h.top.leaf, .slice a1 m1 c1, .slice a2 m2 c2, .string h.root, .int .i64 h.low.leaf, .slice a3 m3 c3, .slice a4 m4 c4] 26
  rw [hW]
  clear hW
  refine (unhide C1 W hB).mono ?_
  rintro e w1 ⟨rfl, hb1⟩
  have T1 := hB.trans (hb1.mono hB.size)
  have hP1 := hP.step hb1
  have x4 := hP1.cell 4 (v := .int .i64 h.low.leaf) rfl
  have x5 := hP1.cell 5 (v := .slice a3 m3 c3) rfl
  have x6 := hP1.cell 6 (v := .slice a4 m4 c4) rfl
  replace C2 := hide (unhide C2 w1 T1)
  clear hb1 hP C1 hB hP1
  go_wp2_with fail
  refine (unhide C2).mono ?_
  rintro e w2 ⟨rfl, hb2⟩
  have T2 := T1.trans (hb2.mono T1.size)
  clear hb2 C2 T1 x4 x5 x6
  go_wp2
  go_ret
  exact ⟨rfl, T2⟩
end Go.Proofs.YtjgnjjphankhnabGreat

