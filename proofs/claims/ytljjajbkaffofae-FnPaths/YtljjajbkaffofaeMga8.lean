/- Merged: TrI6, TrI7, Cur, ArgCode, DrawT, DrawN, DrawH, DrawY, DrawV. -/
import Derived.Test.YtljjajbkaffofaeMga1
import Derived.Test.YtljjajbkaffofaeMga2
import Derived.Test.YtljjajbkaffofaeMga3
import Derived.Test.YtljjajbkaffofaeMga4
import Derived.Test.YtljjajbkaffofaeMga5
import Derived.Test.YtljjajbkaffofaeMga6
import Derived.Test.YtljjajbkaffofaeMga7
import Derived.LaidEqlPtr
import Derived.Lib.Builder
import Derived.Test.YtljjajbkaffofaeProg
import Derived.Test.YtljjajbkaffofaeChecked
import Derived.Laws.BitsLemmas
import Derived.Deep.RegionHeld3
import Derived.Deep.QuietTactic
import Derived.BigQuiet
import Derived.Deep.Slices
import Derived.Deep.Strs
import Derived.ChangeSame
import Derived.OpenShut
import Derived.ShutString
import Derived.ProofKit
import Derived.Lib.SmallJoins
/- Trees by the project's own functions: roots and paths, over the loaded program. -/
namespace Go.Proofs.Ytljjajbkaffofae
open Go.RowKit
theorem sums_le (l : List ByteArray) (h : l.length + sumS l ≤ 1048576) : ∀ x ∈ l, x.size ≤ 1048576 := by
  intro x hx
  obtain ⟨i, hi, rfl⟩ := List.getElem_of_mem hx
  have := sumS_at l i hi
  omega
theorem cell_lt15 {w : World} {g o : Nat} {v : Value} (h : w.cell? ⟨g, o, none⟩ = some v) : g < w.heap.size := by
  unfold World.cell? at h
  by_cases hg : g < w.heap.size
  · exact hg
  · rw [Array.getElem?_eq_none (show w.heap.size ≤ g by omega)] at h
    cases h
def lenOf15 : Value → Nat
  | .slice _ n _ => n
  | _ => 0
set_option maxRecDepth 20000 in
theorem isLeaf_any (z : Int) (w : World) : Calls Try.prog 54 #[.int .i64 z] w fun e w' => e = .returned (.bool (decide (0 ≤ z ∧ z ≤ 3))) ∧ w' = w := by
  by_cases h : 0 ≤ z
  · by_cases h3 : z < 4
    · have e : decide (0 ≤ z ∧ z ≤ 3) = true := decide_eq_true (by omega)
      rw [e]
      go_enter Try.func54, Try.ntmps54
      go_wp2
      go_ret
      exact ⟨rfl, rfl⟩
    · have e : decide (0 ≤ z ∧ z ≤ 3) = false := decide_eq_false (by omega)
      rw [e]
      go_enter Try.func54, Try.ntmps54
      go_wp2
      go_ret
      exact ⟨rfl, rfl⟩
  · have e : decide (0 ≤ z ∧ z ≤ 3) = false := decide_eq_false (by omega)
    rw [e]
    go_enter Try.func54, Try.ntmps54
    go_wp2
    go_ret
    exact ⟨rfl, rfl⟩
set_option maxRecDepth 20000 in
set_option maxHeartbeats 1000000 in
theorem implRootOf_any (l : List ByteArray) (v : Value) (w : World) (hr : RdV w v (l.map sv)) (hs : ∀ x ∈ l, x.size ≤ 1048576) :
    Calls Try.prog 26 #[v] w fun e w' => e = .returned (.string (rootB l)) ∧ Below w.heap.size w w' := by
  obtain ⟨a, c, rfl, -⟩ := hr.open
  rw [List.length_map] at hr ⊢
  by_cases h4 : l.length = 4
  · have ER := hide (show rootB l = bAt (lvs l 2) 0 by unfold rootB; rw [if_pos h4])
    rw [unhide ER]
    have C1 := hide (nodesOf_any l _ w hr (by omega))
    have C2 := hide (fun W u gs (h : Nds W w.heap.size u gs l) => rootAbove_any l gs w.heap.size u W h h4 hs)
    rw [h4] at C1 ⊢
    generalize hR : bAt (lvs l 2) 0 = R at *
    replace hR := hide hR
    clear hr ER
    replace h4 := hide h4
    go_enter Try.func26, Try.ntmps26
    go_wp2_with fail
    refine (unhide C1).mono ?_
    rintro e w1 ⟨⟨v1, rfl, gs, hN1⟩, hb1⟩
    have c2 := hide (unhide C2 w1 v1 gs hN1)
    have hmem := hide hN1.mem
    clear C1 C2 hN1
    go_wp2_with fail
    refine (unhide c2).mono ?_
    rintro e w2 ⟨g, rfl, gs1, t1, t2, ⟨b, u, t3⟩, t4, t5⟩
    have hB2 := hb1.trans (t5.below w.heap.size hb1.size (fun k hk hmm => by have := (unhide hmem k hmm).1; omega))
    rw [unhide hR] at t3
    have d : w2.cell? ⟨g, 0, none⟩ = some (.string R) := t3.cell 0 rfl
    clear t1 t2 t3 t4 t5 hmem c2 hb1
    unfold pv
    go_wp2
    go_ret
    exact ⟨rfl, hB2⟩
  · have ER := hide (show rootB l = ⟨#[]⟩ by unfold rootB; rw [if_neg h4])
    rw [unhide ER]
    have h4' : ¬ (l.length : Int) = 4 := by omega
    clear hr
    go_enter Try.func26, Try.ntmps26
    go_wp2
    go_ret
    exact ⟨rfl, Below.refl _ _⟩
set_option maxRecDepth 20000 in
theorem stringsClone15_any (s : ByteArray) (w : World) (hs : s.size ≤ 4000000) :
    Calls Try.prog 39 #[.string s] w fun e w' => e = .returned (.string s) ∧ Below w.heap.size w w' := by
  have hlim : s.size ≤ 281474976710656 := by omega
  have C := hide (Try.stringslite_Clone s w hlim)
  go_enter Try.func39, Try.ntmps39
  go_wp2_with fail
  refine (unhide C).mono ?_
  rintro e w2 ⟨rfl, hb2⟩
  go_wp2
  go_ret
  exact ⟨rfl, hb2⟩
theorem infoNode15 : ∃ i, Try.prog.info? 67 = some i ∧ i.size ≠ 0 := by
  have h : (Try.prog.info? 67).map (fun i => i.size) = some 3 := by kernel_rfl
  cases hi : Try.prog.info? 67 with
  | none => rw [hi] at h; cases h
  | some i => rw [hi] at h; exact ⟨i, rfl, by have h3 : i.size = 3 := Option.some.inj h; omega⟩
theorem run_neq_ptr_other15 {P : Program} (w : World) {tp te : TypeId} {j : TypeInfo} {a b : Addr} {ca cb : Array Value} {ta tb : TypeId} (hp : P.underlying tp = some (.pointer te)) (hte : P.info? te = some j) (hsz : j.size ≠ 0)
    (hne : a ≠ b) (ha : w.heap[a.block]? = some (.cells ca ta (0, 0))) (hb : w.heap[b.block]? = some (.cells cb tb (0, 0))) :
    (binOp .neq tp (.pointer (some a)) (.pointer (some b))).run P w = .ok (.bool true) w := by
  have h : ∀ d : Nat, (Op.equalIn (d + 1) tp (.pointer (some a)) (.pointer (some b))).run P w = .ok false w := fun d => by
    simp [Op.equalIn, run_underlying hp, sizeOf, typeInfo, hte, hsz, run_sameAddr_other w hne ha hb]
  simp only [binOp]
  simp [Op.equal, Op.maxDepth, h 9999]
/-- Where the path from a leaf goes: the nodes it meets, and those beside them. -/
theorem trd_way {w w' : World} {gs gs1 : List Nat} {l : List ByteArray} {g : Nat} (hlt : ∀ i, i < 4 → gAt gs i < w.heap.size) (h : Trd w w' gs gs1 l g) (m : Nat) (hm : m < 4) :
    ∃ nd sb : Nat → Nat, nd 0 = gAt gs m ∧ nd 2 = g ∧ (∃ cs, CB w' g 67 cs) ∧ ∀ k, k < 2 → nd k ≠ g ∧ (∃ cs, CB w' (nd k) 67 cs) ∧ sb k < w'.heap.size ∧ w'.cell? ⟨nd k, 1, none⟩ = some (pv (sb k)) ∧ w'.cell? ⟨nd k, 2, none⟩ = some (pv (nd (k + 1))) ∧ w'.cell? ⟨sb k, 0, none⟩ = some (.string (pthN l m k)) := by
  obtain ⟨t1, t2, t3, t4, t5⟩ := h
  refine ⟨fun k => if k = 0 then gAt gs m else if k = 1 then gAt gs1 (m / 2) else g, fun k => if k = 0 then gAt gs (sibN m) else gAt gs1 (sibN (m / 2)), rfl, rfl, t3.elim (fun b h => h.elim (fun u h => ⟨_, h⟩)), ?_⟩
  intro k hk
  have hg := t4 (m / 2) (by omega)
  have hg0 := hlt m hm
  rcases show k = 0 ∨ k = 1 by omega with rfl | rfl
  · have hs0 : sibN (m / 2 ^ 0) = sibN m := by rw [Nat.pow_zero, Nat.div_one]
    show gAt gs m ≠ g ∧ (∃ cs, CB w' (gAt gs m) 67 cs) ∧ gAt gs (sibN m) < _ ∧ w'.cell? ⟨gAt gs m, 1, none⟩ = some (pv (gAt gs (sibN m))) ∧ w'.cell? ⟨gAt gs m, 2, none⟩ = some (pv (gAt gs1 (m / 2))) ∧ w'.cell? ⟨gAt gs (sibN m), 0, none⟩ = some (.string (bAt (lvs l 0) (sibN (m / 2 ^ 0))))
    rw [hs0]
    obtain ⟨c1, c2⟩ := t1 (m / 2) (by omega)
    by_cases ho : m % 2 = 1
    · have e1 : sibN m = 2 * (m / 2) := by unfold sibN; rw [if_pos ho]; omega
      have e2 : 2 * (m / 2) + 1 = m := by omega
      rw [e2] at c1 c2
      rw [← e1] at c1 c2
      exact ⟨by omega, ⟨_, c2⟩, c1.lt, c2.cell 1 rfl, c2.cell 2 rfl, c1.cell 0 rfl⟩
    · have e1 : sibN m = 2 * (m / 2) + 1 := by unfold sibN; rw [if_neg ho]; omega
      have e2 : 2 * (m / 2) = m := by omega
      rw [← e1, e2] at c1 c2
      exact ⟨by omega, ⟨_, c1⟩, c2.lt, c1.cell 1 rfl, c1.cell 2 rfl, c2.cell 0 rfl⟩
  · have hs0 : sibN (m / 2 ^ 1) = sibN (m / 2) := by rw [Nat.pow_one]
    show gAt gs1 (m / 2) ≠ g ∧ (∃ cs, CB w' (gAt gs1 (m / 2)) 67 cs) ∧ gAt gs1 (sibN (m / 2)) < _ ∧ w'.cell? ⟨gAt gs1 (m / 2), 1, none⟩ = some (pv (gAt gs1 (sibN (m / 2)))) ∧ w'.cell? ⟨gAt gs1 (m / 2), 2, none⟩ = some (pv g) ∧ w'.cell? ⟨gAt gs1 (sibN (m / 2)), 0, none⟩ = some (.string (bAt (lvs l 1) (sibN (m / 2 ^ 1))))
    rw [hs0]
    obtain ⟨c1, c2⟩ := t2 0 (by omega)
    have eg : gAt [g] 0 = g := rfl
    rw [eg] at c1 c2
    rcases show m / 2 = 0 ∨ m / 2 = 1 by omega with e | e
    · rw [e] at hg ⊢
      exact ⟨by omega, ⟨_, c1⟩, c2.lt, c1.cell 1 rfl, c1.cell 2 rfl, c2.cell 0 rfl⟩
    · rw [e] at hg ⊢
      exact ⟨by omega, ⟨_, c2⟩, c1.lt, c2.cell 1 rfl, c2.cell 2 rfl, c1.cell 0 rfl⟩
set_option maxRecDepth 20000 in
set_option maxHeartbeats 1000000 in
theorem implPathOf_any (l : List ByteArray) (leaf : Int) (v : Value) (w : World) (hr : RdV w v (l.map sv)) (hs : ∀ x ∈ l, x.size ≤ 1048576) :
    Calls Try.prog 27 #[v, .int .i64 leaf] w fun e w' => (∃ v', e = .returned v' ∧ OwnV w' w.heap.size 9 v' ((pathL l leaf).map sv)) ∧ Below w.heap.size w w' := by
  obtain ⟨i0, hi, hz0, hz1, hz2⟩ := info_parts infoTxt
  obtain ⟨iN, hiN, hzN⟩ := infoNode15
  have CI := hide (fun W => isLeaf_any leaf W)
  obtain ⟨a, c, rfl, -⟩ := hr.open
  rw [List.length_map] at hr ⊢
  by_cases h4 : l.length = 4
  · by_cases hlf : 0 ≤ leaf ∧ leaf ≤ 3
    · rw [decide_eq_true hlf] at CI
      obtain ⟨m, rfl⟩ : ∃ m : Nat, leaf = (m : Int) := ⟨leaf.toNat, by omega⟩
      have hm : m < 4 := by omega
      have EP := hide (show pathL l (m : Int) = preT (pthN l m) 2 by unfold pathL; rw [if_pos ⟨h4, hlf⟩, Int.toNat_natCast]; rfl)
      rw [unhide EP]
      have C1 := hide (nodesOf_any l _ w hr (by omega))
      have C2 := hide (fun W u gs (h : Nds W w.heap.size u gs l) => rootAbove_any l gs w.heap.size u W h h4 hs)
      have HWy := hide (show ∀ (w1 w2 : World) u gs gs1 g, Nds w1 w.heap.size u gs l → Trd w1 w2 gs gs1 l g → ∃ nd sb : Nat → Nat, nd 0 = gAt gs m ∧ nd 2 = g ∧ (∃ cs, CB w2 g 67 cs) ∧ ∀ k, k < 2 → nd k ≠ g ∧ (∃ cs, CB w2 (nd k) 67 cs) ∧ sb k < w2.heap.size ∧ w2.cell? ⟨nd k, 1, none⟩ = some (pv (sb k)) ∧ w2.cell? ⟨nd k, 2, none⟩ = some (pv (nd (k + 1))) ∧ w2.cell? ⟨sb k, 0, none⟩ = some (.string (pthN l m k)) from fun w1 w2 u gs gs1 g hN hT => trd_way (fun i hi => (hN.mem _ (gAt_mem gs i (by rw [hN.2.1]; omega))).2) hT m hm)
      have HRow := hide (show ∀ (w1 w2 : World) u gs gs1 g, Nds w1 w.heap.size u gs l → Trd w1 w2 gs gs1 l g → ∃ gv c, u = .slice (some ⟨gv, 0, none⟩) 4 c ∧ w2.cell? ⟨gv, m, none⟩ = some (pv (gAt gs m)) from fun w1 w2 u gs gs1 g hN hT => by
        obtain ⟨gv, c, e, _⟩ := hN.row h4 (by omega)
        have ho := hN.1.kps hT.2.2.2.2 (fun q hq hmm => hN.off q hmm hq)
        rw [e] at ho
        exact ⟨gv, c, e, ho.cell (gAt_get gs m (by rw [hN.2.1]; omega))⟩)
      rw [h4] at C1 ⊢
      have hm' : (m : Int) < 4 := by omega
      have hm0 : (0 : Int) ≤ (m : Int) := by omega
      have HF := hide (show ∀ k, (pthN l m k).size ≤ 1048576 from fun k => bAt_sizeT _ _ _ (lvs_size l _ (by omega) hs k))
      generalize pthN l m = F at *
      clear hr EP
      replace h4 := hide h4
      go_enter Try.func27, Try.ntmps27
      go_wp2_with fail
      refine (unhide CI _).mono ?_
      rintro e w0 ⟨rfl, hw0⟩
      have hw0' := hw0.symm
      subst hw0'
      clear hw0
      go_wp2_with fail
      refine (unhide C1).mono ?_
      rintro e w1 ⟨⟨v1, rfl, gs, hN1⟩, hb1⟩
      have c2 := hide (unhide C2 w1 v1 gs hN1)
      have hmem := hide hN1.mem
      clear C1 C2
      go_wp2_with fail
      refine (unhide c2).mono ?_
      rintro e w2 ⟨g, rfl, gs1, ht⟩
      have hB2 := hb1.trans (ht.2.2.2.2.below w.heap.size hb1.size (fun k hk hmm => by have := (unhide hmem k hmm).1; omega))
      obtain ⟨nd, sb, hn0, hn2, ⟨csR, hcR⟩, hway⟩ := unhide HWy w1 w2 v1 gs gs1 g hN1 ht
      obtain ⟨gv, cv, rfl, d0⟩ := unhide HRow w1 w2 _ gs gs1 g hN1 ht
      rw [← hn0] at d0
      have HY := hide hway
      rw [← hn2] at hcR
      have HCR := hide hcR
      clear hcR
      clear hway hN1 ht hmem c2 HWy HRow hb1 CI
      have hs2 := hB2.size
      unfold pv at d0 HY ⊢
      rw [← hn2]
      rw [← hn2] at HY
      replace hn0 := hide hn0; replace hn2 := hide hn2
      go_wp2_with (at_make; refine wpList_make_own _ rfl _ _ 33 rfl w2.heap.size 9 i0 (.string ⟨#[]⟩) 1 Try.underlying33 hi hz0 hz1 _ _ _ 2 rfl rfl (by omega) (by rw [hz2]; omega) (by unfold maxLen; omega) (Nat.le_refl _) ?_; intro w3 hown3 hgrow3; have hb0 : Below w2.heap.size w2 w3 := (Below.refl w2.heap.size w2).grown hgrow3 (Nat.le_refl _) (fun k hk => by cases hk); have d0' := (hb0.cell (p := ⟨gv, m, none⟩) (by exact cell_lt15 d0)).trans d0)
      have hr0 := hide (show OwnV w3 w2.heap.size 9 (.slice (some ⟨w2.heap.size, 0, none⟩) 0 2) ((preT F 0).map sv) from hown3)
      clear hown3 hgrow3 d0
      go_loopw [7, 8] (fun tp tn wr => ∃ k : Nat, k ≤ 2 ∧ tn = .pointer (some ⟨nd k, 0, none⟩) ∧ Hid (OwnV wr w2.heap.size 9 tp ((preT F k).map sv)) ∧ Below w2.heap.size w2 wr) (fun tp _ _ => 5 - lenOf15 tp)
      case atStart => exact ⟨0, by omega, rfl, hr0, hb0⟩
      case round =>
        clear hr0 hb0 d0'
        obtain ⟨k, hk, rfl, HO, hB⟩ := hrel
        by_cases hlt : k < 2
        · obtain ⟨y1, ⟨csk, y2c⟩, y3, y4, y5, y6⟩ := unhide HY k hlt
          have y2 := y2c.lt
          have z4 := (hB.cell (p := ⟨nd k, 1, none⟩) y2).trans y4
          have z5 := (hB.cell (p := ⟨nd k, 2, none⟩) y2).trans y5
          have z6 := (hB.cell (p := ⟨sb k, 0, none⟩) y3).trans y6
          have hFs := unhide HF k
          have CC := hide (fun W => stringsClone15_any (F k) W (by omega))
          have HPS := hide (preT_succ F k)
          have hl1 : ((preT F k).map sv).length + 1 ≤ maxLen := by rw [List.length_map, preT_len]; unfold maxLen; omega
          have hl2 : (((preT F k).map sv).length + 1) * 16 ≤ 140737488355328 := by rw [List.length_map, preT_len]; omega
          have hszB := hB.size
          obtain ⟨al, cl, hal⟩ := (unhide HO).shape
          rw [List.length_map, preT_len] at hal
          subst hal
          obtain ⟨x, hx⟩ : ∃ x, x = nd k := ⟨_, rfl⟩
          obtain ⟨x', hx'⟩ : ∃ x', x' = nd (k + 1) := ⟨_, rfl⟩
          obtain ⟨r, hrr⟩ : ∃ r, r = nd 2 := ⟨_, rfl⟩
          rw [← hx] at z4 z5 y1 y2 y5 ⊢
          rw [← hx'] at z5 y5
          rw [← hrr] at y1 ⊢
          generalize sb k = s at *
          generalize F k = fk at *
          replace y2c := hide y2c
          have NE := run_neq_ptr_other15 (P := Try.prog) wr (tp := 65) (te := 67) (a := ⟨x, 0, none⟩) (b := ⟨r, 0, none⟩) Try.underlying65 hiN hzN (fun e => y1 (Addr.mk.inj e).1) (by rw [hx]; exact (unhide y2c).below hB (unhide y2c).lt) (by rw [hrr]; exact (unhide HCR).below hB (unhide HCR).lt)
          replace hx := hide hx; replace hx' := hide hx'; replace hrr := hide hrr
          replace hl1 := hide hl1; replace hl2 := hide hl2
          replace y5 := hide y5; replace y2 := hide y2
          clear HY y2c HCR y3 y4 y6 HF
          go_wp2_with fail
          refine (unhide CC _).mono ?_
          rintro e w4 ⟨rfl, hb4⟩
          have hB4 := hB.trans (hb4.mono hB.size)
          have hO4 := hide ((unhide HO).below hb4)
          have hsz4 := hB4.size
          clear hB hb4 HO CC z4 z6
          go_wp2_with (at_builtin; refine wpList_append_grow (w := w4) rfl (.tmp 33) (.tmp 42) 33 rfl w2.heap.size 9 i0 (.string ⟨#[]⟩) 16 Try.underlying33 hi hz0 hz1 hz2 rfl _ _ (by rfl) (unhide hO4) (.string fk) rfl rfl (unhide hl1) (unhide hl2) hsz4 ?_; intro v' w5 ho5 hg5; have hB5 := (hB4.alloc hsz4 (.cells #[.string fk] 9)).grown hg5 (by simp; omega) (fun b hb => ((unhide hO4).lt b hb).1); have z8 := (hB5.cell (p := ⟨x, 2, none⟩) (unhide y2)).trans (unhide y5))
          have ho6 := hide (show OwnV w5 w2.heap.size 9 v' ((preT F (k + 1)).map sv) by rw [unhide HPS, List.map_append]; exact ho5)
          have hsh := ho5.shape
          obtain ⟨a5, c5, hv5⟩ := hsh
          rw [List.length_append, List.length_map, preT_len] at hv5
          subst hv5
          rw [unhide hx'] 
          exact ⟨⟨k + 1, by omega, rfl, ho6, hB5⟩, by show 5 - (k + 1) < 5 - k; omega⟩
        · obtain rfl : k = 2 := by omega
          have hfin := hide ((unhide HO).low hs2)
          have hB3 := hB2.trans (hB.mono hs2)
          have NE := Lib.run_neq_ptr_same (P := Try.prog) wr (tp := 65) (te := 67) ⟨nd 2, 0, none⟩ Try.underlying65 hiN
          clear HO HY
          go_wp2
          go_ret
          exact ⟨⟨_, rfl, unhide hfin⟩, hB3⟩
    · have hdf : decide (0 ≤ leaf ∧ leaf ≤ 3) = false := decide_eq_false hlf
      rw [hdf] at CI
      have EP := hide (show pathL l leaf = [] by unfold pathL; rw [if_neg (fun h => hlf h.2)])
      rw [unhide EP, h4]
      clear hr
      replace hlf := hide hlf
      go_enter Try.func27, Try.ntmps27
      go_wp2_with fail
      refine (unhide CI _).mono ?_
      rintro e w0 ⟨rfl, hw0⟩
      have hw0' := hw0.symm
      subst hw0'
      clear hw0
      go_wp2
      go_ret
      exact ⟨⟨_, rfl, OwnV.nil _ _ _⟩, Below.refl _ _⟩
  · have EP := hide (show pathL l leaf = [] by unfold pathL; rw [if_neg (fun h => h4 h.1)])
    rw [unhide EP]
    have h4' : ¬ (l.length : Int) = 4 := by omega
    have h4b : decide ((l.length : Int) = 4) = false := decide_eq_false h4'
    clear hr
    go_enter Try.func27, Try.ntmps27
    go_wp2
    go_ret
    exact ⟨⟨_, rfl, OwnV.nil _ _ _⟩, Below.refl _ _⟩
end Go.Proofs.Ytljjajbkaffofae

/- Trees by the project's own functions: the root by a path, over the loaded program. -/
namespace Go.Proofs.Ytljjajbkaffofae
open Go.RowKit
set_option maxRecDepth 20000 in
theorem leftRight_even (x p : ByteArray) (y : Nat) (hy : y < 4) (he : ¬ y % 2 = 1) (w : World) : Calls Try.prog 55 #[.string x, .int .i64 (y : Int), .string p] w fun e w' => e = .returned (.tuple #[.string x, .string p]) ∧ w' = w := by
  have h1 : (y : Int).tmod 2 = 0 := by rw [Int.tmod_eq_emod_of_nonneg (by omega)]; omega
  have h2 : (y : Int) % 2 = 0 := by omega
  go_enter Try.func55, Try.ntmps55
  go_wp2
  go_ret2
  exact ⟨rfl, rfl⟩
set_option maxRecDepth 20000 in
theorem leftRight_odd (x p : ByteArray) (y : Nat) (hy : y < 4) (he : y % 2 = 1) (w : World) : Calls Try.prog 55 #[.string x, .int .i64 (y : Int), .string p] w fun e w' => e = .returned (.tuple #[.string p, .string x]) ∧ w' = w := by
  have h1 : (y : Int).tmod 2 = 1 := by rw [Int.tmod_eq_emod_of_nonneg (by omega)]; omega
  have h2 : (y : Int) % 2 = 1 := by omega
  go_enter Try.func55, Try.ntmps55
  go_wp2
  go_ret2
  exact ⟨rfl, rfl⟩
/-- One step up, whoever stands left. -/
theorem stp_lr (level : Int) (x p : ByteArray) (y : Nat) (hy : y < 4) (hx : x.size ≤ 1048576) (hp : p.size ≤ 1048576) : ∃ a b : ByteArray,
    (∀ w, Calls Try.prog 55 #[.string x, .int .i64 (y : Int), .string p] w fun e w' => e = .returned (.tuple #[.string a, .string b]) ∧ w' = w) ∧
    (∀ w, Calls Try.prog 30 #[.int .i64 level, .int .i64 ((y / 2 : Nat) : Int), .string a, .string b] w fun e w' => e = .returned (.string (stpB level y x p)) ∧ Below w.heap.size w w') := by
  by_cases ho : y % 2 = 1
  · refine ⟨p, x, fun w => leftRight_odd x p y hy ho w, fun w => ?_⟩
    unfold stpB
    rw [if_pos ho]
    exact implNode_any level _ p x hp hx w
  · refine ⟨x, p, fun w => leftRight_even x p y hy ho w, fun w => ?_⟩
    unfold stpB
    rw [if_neg ho]
    exact implNode_any level _ x p hx hp w
set_option maxRecDepth 20000 in
set_option maxHeartbeats 1000000 in
theorem implRootBy_any (x : ByteArray) (leaf : Int) (path : List ByteArray) (v : Value) (w : World) (hx : x.size ≤ 1048576) (hr : RdV w v (path.map sv)) (hs : ∀ x ∈ path, x.size ≤ 1048576) :
    Calls Try.prog 28 #[.string x, .int .i64 leaf, v] w fun e w' => e = .returned (.string (rootBy x leaf path)) ∧ Below w.heap.size w w' := by
  have C1 := hide (fun W => isLeaf_any leaf W)
  obtain ⟨a, c, rfl, hc⟩ := hr.open
  rw [List.length_map]
  clear hr
  by_cases h2 : path.length = 2
  · by_cases hlf : 0 ≤ leaf ∧ leaf ≤ 3
    · rw [decide_eq_true hlf] at C1
      obtain ⟨m, rfl⟩ : ∃ m : Nat, leaf = (m : Int) := ⟨leaf.toNat, by omega⟩
      have hm : m < 4 := by omega
      have ER := hide (show rootBy x (m : Int) path = rbB x m path 2 by unfold rootBy; rw [if_pos ⟨h2, hlf⟩, Int.toNat_natCast])
      rw [unhide ER]
      have HN := hide (show ∀ k, rbB x m path (k + 1) = stpB ((k + 1 : Nat) : Int) (m / 2 ^ k) (rbB x m path k) (bAt path k) from fun k => rfl)
      have HC := hide (fun k (hk : k < 2) => hc k _ (bAt_getT path k (by omega)))
      have HZ := hide (fun k => rbB_size x m path k _ (show 4 ≤ 1048576 by omega) hx)
      have HP := hide (fun k => bAt_sizeT path k _ hs)
      rw [h2]
      clear hc
      replace h2 := hide h2
      go_enter Try.func28, Try.ntmps28
      go_wp2_with fail
      refine (unhide C1 _).mono ?_
      rintro e w1 ⟨rfl, hw1⟩
      have hw1' := hw1.symm
      subst hw1'
      clear hw1
      go_wp2
      go_loopw [0, 7, 23] (fun tx tf ti wr => ∃ k y : Nat, k ≤ 2 ∧ ti = .int .i64 (k : Int) ∧ tf = .int .i64 (y : Int) ∧ Hid (y = m / 2 ^ k) ∧ tx = .string (rbB x m path k) ∧ Below w.heap.size w wr) (fun _ _ ti _ => 5 - (intOf ti).toNat)
      case atStart => exact ⟨0, m, by omega, rfl, rfl, hide (by rw [Nat.pow_zero, Nat.div_one]), rfl, Below.refl _ _⟩
      case round =>
        obtain ⟨k, y, hk, rfl, rfl, hy, rfl, hB⟩ := hrel
        by_cases hlt : k < 2
        · have hk2 : (k : Int) < 2 := by omega
          have hk0 : (0 : Int) ≤ (k : Int) := by omega
          have hy4 : y < 4 := by rw [unhide hy]; exact Nat.lt_of_le_of_lt (Nat.div_le_self _ _) hm
          obtain ⟨g, o, rfl, hg, d1⟩ := unhide HC k hlt
          have d2 := (hB.cell (p := ⟨g, o + k, none⟩) hg).trans d1
          obtain ⟨y2, hy2⟩ : ∃ y2, y2 = y / 2 := ⟨_, rfl⟩
          have HY := hide (show y2 = m / 2 ^ (k + 1) by rw [hy2, unhide hy, Nat.div_div_eq_div_mul, Nat.pow_succ])
          have v1' : (y : Int) / 2 = (y2 : Int) := by omega
          have v1 : (y : Int).tdiv 2 = (y2 : Int) := by rw [Int.tdiv_eq_ediv_of_nonneg (by omega)]; omega
          obtain ⟨lv, hlv⟩ : ∃ lv : Nat, lv = k + 1 := ⟨_, rfl⟩
          have q1 : (k : Int) + 1 = (lv : Int) := by omega
          obtain ⟨la, lb, cA, cB⟩ := stp_lr ((k + 1 : Nat) : Int) (rbB x m path k) (bAt path k) y hy4 (unhide HZ k) (unhide HP k)
          have HX := unhide HN k
          rw [← unhide hy] at HX
          obtain ⟨R0, hR⟩ : ∃ R0, R0 = rbB x m path (k + 1) := ⟨_, rfl⟩
          rw [← HX, ← hR, ← hy2, ← hlv] at cB
          replace hR := hide hR
          generalize rbB x m path k = xk at *
          generalize bAt path k = pk at *
          replace cA := hide cA; replace cB := hide cB
          have hlvb : lv ≤ 3 := by omega
          replace hlv := hide hlv; replace hy2 := hide hy2
          clear HC HN HZ HP d1 HX
          go_wp2_with fail
          refine (unhide cA _).mono ?_
          rintro e w2 ⟨rfl, hw2⟩
          have hw2' := hw2.symm
          subst hw2'
          clear hw2
          go_wp2_with fail
          refine (unhide cB _).mono ?_
          rintro e w3 ⟨rfl, hb3⟩
          have hB3 := hB.trans (hb3.mono hB.size)
          clear hb3 hB cA cB
          go_wp2
          exact ⟨⟨k + 1, y2, by omega, by rw [← q1]; rfl, rfl, HY, by rw [unhide hR], hB3⟩, by simp [intOf]; omega⟩
        · obtain rfl : k = 2 := by omega
          clear HC HN HZ HP
          go_wp2
          go_ret
          exact ⟨rfl, hB⟩
    · have hdf : decide (0 ≤ leaf ∧ leaf ≤ 3) = false := decide_eq_false hlf
      rw [hdf] at C1
      have ER := hide (show rootBy x leaf path = ⟨#[]⟩ by unfold rootBy; rw [if_neg (fun h => hlf h.2)])
      rw [unhide ER, h2]
      clear hc
      replace hlf := hide hlf
      go_enter Try.func28, Try.ntmps28
      go_wp2_with fail
      refine (unhide C1 _).mono ?_
      rintro e w1 ⟨rfl, hw1⟩
      have hw1' := hw1.symm
      subst hw1'
      clear hw1
      go_wp2
      go_ret
      exact ⟨rfl, Below.refl _ _⟩
  · have ER := hide (show rootBy x leaf path = ⟨#[]⟩ by unfold rootBy; rw [if_neg (fun h => h2 h.1)])
    rw [unhide ER]
    have h2' : ¬ (path.length : Int) = 2 := by omega
    have h2b : decide ((path.length : Int) = 2) = false := decide_eq_false h2'
    clear hc
    go_enter Try.func28, Try.ntmps28
    go_wp2
    go_ret
    exact ⟨rfl, Below.refl _ _⟩
end Go.Proofs.Ytljjajbkaffofae

/- The cursor that the draws go by: a struct of the call's own that holds the code, a place in it and a number; what the draws of a byte, of a number and of a text come to. -/
namespace Go.Proofs.Ytljjajbkaffofae
open Go.RowKit

theorem and255 (y : Int) : ∃ x : Nat, x < 256 ∧ bits .and .i64 y 255 = (x : Int) := by
  refine ⟨(BitVec.ofInt 64 y &&& BitVec.ofInt 64 255).toNat, ?_, ?_⟩
  · rw [BitVec.toNat_and]
    exact Nat.lt_of_le_of_lt Nat.and_le_right (by decide)
  · have h : (BitVec.ofInt 64 y &&& BitVec.ofInt 64 255).toNat < 256 := by
      rw [BitVec.toNat_and]
      exact Nat.lt_of_le_of_lt Nat.and_le_right (by decide)
    show IntKind.i64.wrap (((BitVec.ofInt 64 y &&& BitVec.ofInt 64 255).toNat : Nat) : Int) = _
    rw [IntKind.wrap_i64]
    omega

theorem and30 (y : Int) : ∃ x : Nat, x ≤ 1073741823 ∧ bits .and .i64 y 1073741823 = (x : Int) := by
  have h : (BitVec.ofInt 64 y &&& BitVec.ofInt 64 1073741823).toNat ≤ 1073741823 := by
    rw [BitVec.toNat_and]
    exact Nat.le_trans Nat.and_le_right (by decide)
  refine ⟨_, h, ?_⟩
  show IntKind.i64.wrap (((BitVec.ofInt 64 y &&& BitVec.ofInt 64 1073741823).toNat : Nat) : Int) = _
  rw [IntKind.wrap_i64]
  omega

/-- The bytes that the code holds. -/
def Src (w : World) (base : Nat) (o : Option Addr) (n : Nat) : Prop :=
  ∀ j, j < n → ∃ (b off z : Nat), o = some ⟨b, off, none⟩ ∧ b < base ∧ z < 256 ∧ w.cell? ⟨b, off + j, none⟩ = some (.int .u8 (z : Int))
theorem Src.below {w w' : World} {base B n : Nat} {o : Option Addr} (h : Src w base o n) (hb : Below B w w') (hB : base ≤ B) : Src w' base o n := by
  intro j hj
  obtain ⟨b, off, z, h1, h2, h3, h4⟩ := h j hj
  exact ⟨b, off, z, h1, h2, h3, by rw [hb.cell (by show b < B; omega)]; exact h4⟩
theorem Src.up {w : World} {base B n : Nat} {o : Option Addr} (h : Src w base o n) (hB : base ≤ B) : Src w B o n := by
  intro j hj
  obtain ⟨b, off, z, h1, h2, h3, h4⟩ := h j hj
  exact ⟨b, off, z, h1, by omega, h3, h4⟩

/-- A cursor in block g (of the call's own, from base on) over the code. -/
structure Cur (w : World) (base g : Nat) (o : Option Addr) (n c : Nat) : Prop where
  lo : base ≤ g
  blk : ∃ i h : Int, 0 ≤ i ∧ w.heap[g]? = some (.cells #[.slice o n c, .int .i64 i, .int .i64 h] 76 (0, 0))
  src : Src w base o n

theorem Cur.lt {w : World} {base g n c : Nat} {o : Option Addr} (h : Cur w base g o n c) : g < w.heap.size := by
  obtain ⟨i, k, _, hh⟩ := h.blk
  exact (Array.getElem?_eq_some_iff.1 hh).1
theorem Cur.below {w w' : World} {base B g n c : Nat} {o : Option Addr} (h : Cur w base g o n c) (hb : Below B w w') (hB : g < B) : Cur w' base g o n c := by
  obtain ⟨i, k, hi, hh⟩ := h.blk
  exact ⟨h.lo, ⟨i, k, hi, by rw [hb.block g hB]; exact hh⟩, h.src.below hb (by have := h.lo; omega)⟩

/-- Nothing but block g has turned. -/
structure Only (g : Nat) (w w' : World) : Prop where
  os : w'.os = w.os
  tape : w'.tape = w.tape
  output : w'.output = w.output
  size : w'.heap.size = w.heap.size
  block : ∀ k, k ≠ g → w'.heap[k]? = w.heap[k]?
theorem Only.below {g base : Nat} {w w' : World} (h : Only g w w') (hb : base ≤ g) : Below base w w' := ⟨h.os, h.tape, h.output, by rw [h.size]; exact Nat.le_refl _, fun k hk => h.block k (by omega)⟩
theorem Only.refl (g : Nat) (w : World) : Only g w w := ⟨rfl, rfl, rfl, rfl, fun _ _ => rfl⟩
theorem Only.trans {g : Nat} {a b c : World} (h : Only g a b) (k : Only g b c) : Only g a c :=
  ⟨k.os.trans h.os, k.tape.trans h.tape, k.output.trans h.output, k.size.trans h.size, fun i hi => (k.block i hi).trans (h.block i hi)⟩
theorem Only.drewN {g : Nat} {a b : World} (h : Only g a b) (n : Nat) : Only g a (b.drewN n) := ⟨h.os, h.tape, h.output, h.size, h.block⟩
theorem Only.drew {g : Nat} {a b : World} (h : Only g a b) : Only g a b.drew := ⟨h.os, h.tape, h.output, h.size, h.block⟩
theorem Only.setCell {g : Nat} {a w : World} (h : Only g a w) (k : Nat) (u : Value) : Only g a (w.setCell ⟨g, k, none⟩ u) :=
  h.trans ⟨rfl, rfl, rfl, by simp [World.setCell], fun k hk => Below.heap_setCell _ _ _ _ (by simpa using hk)⟩
theorem OwnB.only {w w' : World} {base g : Nat} {e : TypeId} {v : Value} {l : List UInt8} (h : OwnB w base e v l) (ho : Only g w w') (hg : g < base) : OwnB w' base e v l := by
  refine ⟨h.1, ?_⟩
  rcases h.2 with hn | ⟨g', cap, cur, rfl, hbg, hgg, rest⟩
  · exact .inl hn
  · exact .inr ⟨g', cap, cur, rfl, hbg, by rw [ho.block g' (by omega)]; exact hgg, rest⟩
theorem OwnV.only {w w' : World} {base g : Nat} {e : TypeId} {v : Value} {xs : List Value} (h : OwnV w base e v xs) (ho : Only g w w') (hg : g < base) : OwnV w' base e v xs := by
  refine ⟨h.1, ?_⟩
  rcases h.2 with hn | ⟨g', cap, cur, rfl, hbg, hgg, rest⟩
  · exact .inl hn
  · exact .inr ⟨g', cap, cur, rfl, hbg, by rw [ho.block g' (by omega)]; exact hgg, rest⟩

theorem heap_set3 {w : World} {g : Nat} {a b c : Value} {T : TypeId} (h : w.heap[g]? = some (.cells #[a, b, c] T (0, 0))) (u : Value) :
    (w.setCell ⟨g, 2, none⟩ u).heap[g]? = some (.cells #[a, b, u] T (0, 0)) := heap_setCell_same w g 2 #[a, b, c] T u h
theorem heap_set2 {w : World} {g : Nat} {a b c : Value} {T : TypeId} (h : w.heap[g]? = some (.cells #[a, b, c] T (0, 0))) (u : Value) :
    (w.setCell ⟨g, 1, none⟩ u).heap[g]? = some (.cells #[a, u, c] T (0, 0)) := heap_setCell_same w g 1 #[a, b, c] T u h

set_option maxRecDepth 20000 in
set_option maxHeartbeats 400000 in
theorem l01Byte_end (w : World) (g n c : Nat) (o : Option Addr) (i h : Int) (hh : Hid (w.heap[g]? = some (.cells #[.slice o n c, .int .i64 i, .int .i64 h] 76 (0, 0)))) (hi0 : 0 ≤ i) (hi : ¬ i < (n : Int)) :
    Calls Try.prog 36 #[.pointer (some ⟨g, 0, none⟩)] w fun e w' => ∃ x : Nat, x < 256 ∧ e = .returned (.int .i64 (x : Int)) ∧ Only g w w' ∧ ∃ i h : Int, 0 ≤ i ∧ w'.heap[g]? = some (.cells #[.slice o n c, .int .i64 i, .int .i64 h] 76 (0, 0)) := by
  have hc0 : w.cell? ⟨g, 0, none⟩ = some (.slice o n c) := by rw [cell_of_row w g 0 _ _ (0, 0) (unhide hh)]; rfl
  have hc1 : w.cell? ⟨g, 1, none⟩ = some (.int .i64 i) := by rw [cell_of_row w g 1 _ _ (0, 0) (unhide hh)]; rfl
  have hc2 : w.cell? ⟨g, 2, none⟩ = some (.int .i64 h) := by rw [cell_of_row w g 2 _ _ (0, 0) (unhide hh)]; rfl
  have hf1 : w.frozen? ⟨g, 1, none⟩ = false := frozen_of_row w g 1 _ _ (unhide hh)
  have hf2 : w.frozen? ⟨g, 2, none⟩ = false := frozen_of_row w g 2 _ _ (unhide hh)
  obtain ⟨h1, e1⟩ : ∃ h1, wrap64 (wrap64 (h * 6364136223846793005) + 1442695040888963407) = h1 := ⟨_, rfl⟩
  obtain ⟨x, hx, e2⟩ := and255 (bits .xor .i64 (h1 / 8589934592) (h1 / 35184372088832))
  have HH := hide (heap_set3 (unhide hh) (.int .i64 h1))
  have hd : decide (i < (n : Int)) = false := by rw [decide_eq_false_iff_not]; exact hi
  go_enter Try.func36, Try.ntmps36
  go_wp2
  go_quiet (fail)
  go_wp2
  go_quiet (fail)
  go_wp2
  go_ret
  exact ⟨x, hx, rfl, (((Only.refl g w).setCell 2 _).drewN _).drewN _, i, h1, hi0, unhide HH⟩

set_option maxRecDepth 20000 in
set_option maxHeartbeats 400000 in
theorem l01Byte_more (w : World) (g n c : Nat) (b off z : Nat) (k : Nat) (h : Int) (hh : Hid (w.heap[g]? = some (.cells #[.slice (some ⟨b, off, none⟩) n c, .int .i64 (k : Int), .int .i64 h] 76 (0, 0)))) (hi : (k : Int) < (n : Int))
    (hn : n ≤ 1048576) (hz : z < 256) (hcell : w.cell? ⟨b, off + k, none⟩ = some (.int .u8 (z : Int))) (hbg : b ≠ g) :
    Calls Try.prog 36 #[.pointer (some ⟨g, 0, none⟩)] w fun e w' => ∃ x : Nat, x < 256 ∧ e = .returned (.int .i64 (x : Int)) ∧ Only g w w' ∧ ∃ i h : Int, 0 ≤ i ∧ w'.heap[g]? = some (.cells #[.slice (some ⟨b, off, none⟩) n c, .int .i64 i, .int .i64 h] 76 (0, 0)) := by
  have hc0 : w.cell? ⟨g, 0, none⟩ = some (.slice (some ⟨b, off, none⟩) n c) := by rw [cell_of_row w g 0 _ _ (0, 0) (unhide hh)]; rfl
  have hc1 : w.cell? ⟨g, 1, none⟩ = some (.int .i64 (k : Int)) := by rw [cell_of_row w g 1 _ _ (0, 0) (unhide hh)]; rfl
  have hc2 : w.cell? ⟨g, 2, none⟩ = some (.int .i64 h) := by rw [cell_of_row w g 2 _ _ (0, 0) (unhide hh)]; rfl
  have hf1 : w.frozen? ⟨g, 1, none⟩ = false := frozen_of_row w g 1 _ _ (unhide hh)
  have hf2 : w.frozen? ⟨g, 2, none⟩ = false := frozen_of_row w g 2 _ _ (unhide hh)
  obtain ⟨h1, e1⟩ : ∃ h1, wrap64 (wrap64 (h * 6364136223846793005) + 1442695040888963407) = h1 := ⟨_, rfl⟩
  obtain ⟨x, hx, e2⟩ := and255 (bits .xor .i64 (h1 / 8589934592) (h1 / 35184372088832))
  obtain ⟨x2, hx2, e3⟩ := and255 ((x : Int) + (z : Int))
  have HH := hide (heap_set2 (heap_set3 (unhide hh) (.int .i64 h1)) (.int .i64 ((k + 1 : Nat) : Int)))
  have hd : decide ((k : Int) < (n : Int)) = true := by rw [decide_eq_true_iff]; exact hi
  have hk0 : (0 : Int) ≤ (k : Int) := by omega
  go_enter Try.func36, Try.ntmps36
  go_wp2
  go_quiet (fail)
  go_wp2
  go_quiet (fail)
  go_wp2
  go_quiet (fail)
  go_wp2
  go_ret
  exact ⟨x2, hx2, rfl, (((Only.refl g w).setCell 2 _).drewN _).setCell 1 _, (k + 1 : Nat), h1, by omega, unhide HH⟩

/-- A drawn byte. -/
theorem l01Byte_any {w : World} {base g n c : Nat} {o : Option Addr} (h : Cur w base g o n c) (hn : n ≤ 1048576) :
    Calls Try.prog 36 #[.pointer (some ⟨g, 0, none⟩)] w fun e w' => ∃ x : Nat, x < 256 ∧ e = .returned (.int .i64 (x : Int)) ∧ Only g w w' ∧ Cur w' base g o n c := by
  obtain ⟨i, k, hi, hh⟩ := h.blk
  have fin : ∀ (e : Ending) (w' : World), (∃ x : Nat, x < 256 ∧ e = .returned (.int .i64 (x : Int)) ∧ Only g w w' ∧ ∃ i h : Int, 0 ≤ i ∧ w'.heap[g]? = some (.cells #[.slice o n c, .int .i64 i, .int .i64 h] 76 (0, 0))) →
      ∃ x : Nat, x < 256 ∧ e = .returned (.int .i64 (x : Int)) ∧ Only g w w' ∧ Cur w' base g o n c := by
    rintro e w' ⟨x, hx, he, ho, hb⟩
    exact ⟨x, hx, he, ho, ⟨h.lo, hb, h.src.below (ho.below h.lo) (Nat.le_refl _)⟩⟩
  by_cases hlt : i < (n : Int)
  · obtain ⟨j, rfl⟩ := Int.eq_ofNat_of_zero_le hi
    obtain ⟨b, off, z, rfl, hb, hz, hc⟩ := h.src j (by omega)
    exact (l01Byte_more w g n c b off z j k (hide hh) hlt hn hz hc (by have := h.lo; omega)).mono fin
  · exact (l01Byte_end w g n c o i k (hide hh) hi hlt).mono fin

set_option maxRecDepth 20000 in
set_option maxHeartbeats 400000 in
/-- A drawn number below m. -/
theorem l01Below_any {w : World} {base g n c : Nat} {o : Option Addr} (h : Cur w base g o n c) (hn : n ≤ 1048576) (m : Nat) (hm : 0 < m) (hm2 : m ≤ 4294967296) :
    Calls Try.prog 34 #[.pointer (some ⟨g, 0, none⟩), .int .i64 (m : Int)] w fun e w' => ∃ x : Nat, x < m ∧ e = .returned (.int .i64 (x : Int)) ∧ Only g w w' ∧ Cur w' base g o n c := by
  have H := hide h
  clear h
  have h0 : ¬ (m : Int) ≤ 0 := by omega
  by_cases h1 : (m : Int) ≤ 256
  · go_enter Try.func34, Try.ntmps34
    go_wp2_with (go_at_call 36; refine (l01Byte_any (unhide H) hn).mono ?_; rintro e w1 ⟨x, hx, rfl, ho, hc⟩; replace hc := hide hc)
    go_ret
    exact ⟨x % m, Nat.mod_lt _ hm, rfl, ho, unhide hc⟩
  · go_enter Try.func34, Try.ntmps34
    go_wp2_with fail
    go_at_call 36
    refine (l01Byte_any (unhide H) hn).mono ?_
    rintro e w1 ⟨x1, hx1, rfl, ho1, hc1⟩
    replace hc1 := hide hc1
    go_wp2_with fail
    go_at_call 36
    refine (l01Byte_any (unhide hc1) hn).mono ?_
    rintro e w2 ⟨x2, hx2, rfl, ho2, hc2⟩
    replace hc2 := hide hc2
    go_wp2_with fail
    go_at_call 36
    refine (l01Byte_any (unhide hc2) hn).mono ?_
    rintro e w3 ⟨x3, hx3, rfl, ho3, hc3⟩
    replace hc3 := hide hc3
    go_wp2_with fail
    go_at_call 36
    refine (l01Byte_any (unhide hc3) hn).mono ?_
    rintro e w4 ⟨x4, hx4, rfl, ho4, hc4⟩
    replace hc4 := hide hc4
    go_wp2
    go_ret
    exact ⟨(x1 * 16777216 + x2 * 65536 + x3 * 256 + x4) % m, Nat.mod_lt _ hm, rfl, ((ho1.trans ho2).trans ho3).trans ho4, unhide hc4⟩

theorem cs_at {b : UInt8} {v : Int} (h : (b.toNat : Int) = v) : (#[Value.int .u8 v] : Array Value).toList = [b].map bv := by subst h; rfl

theorem Try.infoBC : (Try.prog.info? 5).map (fun i => (i.zero, i.size, i.bytes)) = some (some (.int .u8 0), 1, 1) := by kernel_rfl

set_option maxRecDepth 20000 in
set_option maxHeartbeats 400000 in
/-- A drawn text of m bytes. -/
theorem l01Text_any {w : World} {base g n c : Nat} {o : Option Addr} (h : Cur w base g o n c) (hn : n ≤ 1048576) (m : Nat) (hm : m ≤ 5000) :
    Calls Try.prog 33 #[.pointer (some ⟨g, 0, none⟩), .int .i64 (m : Int)] w fun e w' => ∃ l : List UInt8, l.length = m ∧ e = .returned (.string ⟨l.toArray⟩) ∧ Below base w w' ∧ Cur w' base g o n c := by
  obtain ⟨i0, hi, hz0, hz1, hz2⟩ := info_parts Try.infoBC
  have H := hide h
  clear h
  have h0 : ¬ (5000 : Int) < (m : Int) := by omega
  go_enter Try.func33, Try.ntmps33
  go_wp2
  have hg := (unhide H).lt
  have hlo := (unhide H).lo
  go_loopw [5, 6] (fun v ti wr => ∃ (k : Nat) (pre : List UInt8), k ≤ m ∧ pre.length = k ∧ ti = .int .i64 (k : Int) ∧ OwnB wr w.heap.size 5 v pre ∧ Below base w wr ∧ Hid (Cur wr base g o n c))
    (fun _ ti _ => m - (intOf ti).toNat)
  case atStart => exact ⟨0, [], Nat.zero_le _, rfl, rfl, World.ownsRow_made w #[] 0 (Nat.le_refl _) (by decide) (by simp), (Below.refl base w).alloc (by omega) _, (unhide H).below ((Below.refl (g + 1) w).alloc (by omega) _) (by omega)⟩
  case round =>
    clear H h0
    obtain ⟨k, pre, hk, hpl, rfl, hown, hb, HC⟩ := hrel
    have hsz := hb.size
    by_cases hlt : k < m
    · go_wp2_with fail
      go_at_call 36
      refine (l01Byte_any (unhide HC) hn).mono ?_
      rintro e w1 ⟨x, hx, rfl, ho, hc1⟩
      have hown1 := hown.only ho hg
      have hb1 := hb.trans (ho.below hlo)
      have hsz1 := hb1.size
      replace hc1 := hide hc1
      replace ho := hide ho
      clear hown hb HC
      have hbx : ((byteOf x).toNat : Int) = (x : Int) := by rw [byteOf_toNat hx]
      go_wp2_with (at_builtin; refine wpList_append_bytes rfl (.tmp 15) (.tmp 19) 22 rfl w.heap.size w.heap.size 5 i0 Try.underlying22 hi hz0 hz1 hz2 _ pre rfl hown1 _ [byteOf x] (cs_at hbx) 1 1 rfl rfl (by omega) (Nat.le_refl _) hsz1 (Below.refl _ w1) ?_; intro v' w2 hown' hb2)
      have hc2 := hide ((unhide hc1).below hb2 hg)
      have hb' := hb1.trans (hb2.mono (show base ≤ w.heap.size by omega))
      clear hown1 hb1 hb2 hc1
      go_wp2
      go_roundw
      case rel => exact ⟨k + 1, pre ++ [byteOf x], by omega, by simp [hpl], by go_num, hown', hb', hc2⟩
      case measure => simp [intOf]; omega
    · have hke : k = m := by omega
      have hc := run_string_owned (P := Try.prog) wr 22 9 5 w.heap.size _ _ Try.underlying22 Try.underlying5 Try.underlying9 hown
      clear hown
      go_wp2
      go_ret
      exact ⟨pre, by omega, rfl, hb, unhide HC⟩

set_option maxRecDepth 20000 in
set_option maxHeartbeats 400000 in
/-- A new cursor over the code. -/
theorem l01New_any (w : World) (o : Option Addr) (n c : Nat) (hs : Src w w.heap.size o n) (hn : n ≤ 1048576) :
    Calls Try.prog 32 #[.slice o n c] w fun e w' => e = .returned (.pointer (some ⟨w.heap.size, 0, none⟩)) ∧ Below w.heap.size w w' ∧ Cur w' w.heap.size w.heap.size o n c := by
  have HS := hide hs
  clear hs
  go_enter Try.func32, Try.ntmps32
  go_wp2
  go_loop [3, 4] (fun th ti => ∃ h k : Nat, h ≤ 1073741823 ∧ k ≤ n ∧ th = .int .i64 (h : Int) ∧ ti = .int .i64 (k : Int)) (fun _ ti => n - (intOf ti).toNat)
  case atStart => exact ⟨27401 + n, 0, by omega, Nat.zero_le _, by simp, rfl⟩
  case round =>
    obtain ⟨h, k, hh, hk, rfl, rfl⟩ := hrel
    by_cases hlt : (k : Int) < (n : Int)
    · have hd : decide ((k : Int) < (n : Int)) = true := by rw [decide_eq_true_iff]; exact hlt
      by_cases hlt2 : (k : Int) < 4000
      · have hd2 : decide ((k : Int) < 4000) = true := by rw [decide_eq_true_iff]; exact hlt2
        obtain ⟨b, off, z, rfl, hb, hz, hcell⟩ := (unhide HS) k (by omega)
        obtain ⟨x, hx, e3⟩ := and30 ((h : Int) * 131 + (z : Int) + 7)
        have hk0 : (0 : Int) ≤ (k : Int) := by omega
        go_wp2
        go_round
        case rel => exact ⟨x, k + 1, by omega, by omega, rfl, by go_num⟩
        case measure => simp [intOf]; omega
      · have hd2 : decide ((k : Int) < 4000) = false := by rw [decide_eq_false_iff_not]; exact hlt2
        go_wp2
        go_ret
        exact ⟨rfl, (Below.refl _ _).alloc (Nat.le_refl _) _, Nat.le_refl _, ⟨0, h, by omega, heap_alloc_new w _⟩, (unhide HS).below ((Below.refl _ _).alloc (Nat.le_refl _) _) (Nat.le_refl _)⟩
    · have hd : decide ((k : Int) < (n : Int)) = false := by rw [decide_eq_false_iff_not]; exact hlt
      go_wp2
      go_ret
      exact ⟨rfl, (Below.refl _ _).alloc (Nat.le_refl _) _, Nat.le_refl _, ⟨0, h, by omega, heap_alloc_new w _⟩, (unhide HS).below ((Below.refl _ _).alloc (Nat.le_refl _) _) (Nat.le_refl _)⟩

end Go.Proofs.Ytljjajbkaffofae

/- A code that comes in as an argument, read as a row of bytes. -/
namespace Go.Proofs.Ytljjajbkaffofae
open Go.ChangeShapes Go.WideShapes Go.ChangeAt Go.RowKit Go.WideElems
set_option maxRecDepth 20000 in
theorem src_of {H : Type} {enc : TypeId × Value → H} {W : World} {o : Option Addr} {len cap : Nat} {d : DataW H} {ps : List MemPlace} (h0 : DataW.Trod enc Try.prog W 0 (fun _ => true) true 22 (.slice o len cap) d ps) (hlt : ∀ x ∈ ps, x.block < W.heap.size) :
    ∀ j, j < len → ∃ (b off z : Nat), o = some ⟨b, off, none⟩ ∧ b < W.heap.size ∧ z < 256 ∧ W.cell? ⟨b, off + j, none⟩ = some (.int .u8 (z : Int)) := by
  obtain ⟨fuel, hf⟩ := h0
  rcases open_ints Try.underlying22 Try.underlying5 (by kernel_rfl) hf with ⟨hcs, hx⟩ | ⟨a, len', cap', zs, hcs, _, hl, hm, hz, hx, hcell, hwz⟩
  · simp [Value.cells] at hcs
    obtain ⟨rfl, rfl, rfl⟩ := hcs
    intro j hj
    omega
  · simp [Value.cells] at hcs
    obtain ⟨rfl, rfl, rfl⟩ := hcs
    simp only [Prod.mk.injEq] at hx
    obtain ⟨rfl, rfl⟩ := hx
    simp only [if_true] at hz
    intro j hj
    have hpos : 0 < zs.length := by omega
    have hj' : j < zs.length := by omega
    obtain ⟨b, off, rfl, hc2⟩ := ints_at hcell hpos
    have hb : b < W.heap.size := hlt (.cell b off) (MemPlace.mem_row.2 ⟨0, hpos, by simp⟩)
    have hget : zs.getD j 0 = zs[j] := by simp [List.getD, List.getElem?_eq_getElem hj']
    have hw := bounds_u8 (hwz zs[j] (List.getElem_mem hj'))
    refine ⟨b, off, zs[j].toNat, rfl, hb, by omega, ?_⟩
    rw [hc2 j hj', hget, Int.toNat_of_nonneg hw.1]
end Go.Proofs.Ytljjajbkaffofae

/- What big, DrawSumOf and DrawPlaces come to: some text of fewer than 40 bytes; twelve numbers below 10000. -/
namespace Go.Proofs.Ytljjajbkaffofae
open Go.RowKit

set_option maxRecDepth 20000 in
set_option maxHeartbeats 400000 in
theorem big_any (w : World) (o : Option Addr) (n c : Nat) :
    Calls Try.prog 7 #[.slice o n c] w fun e w' => e = .returned (.bool (decide ((1048576 : Int) < (n : Int)))) ∧ w' = w := by
  go_enter Try.func7, Try.ntmps7
  go_wp2
  go_ret
  exact ⟨rfl, rfl⟩


theorem Try.infoIC : (Try.prog.info? 3).map (fun i => (i.zero, i.size, i.bytes)) = some (some (.int .i64 0), 1, 8) := by kernel_rfl

def ints (xs : List Nat) : List Value := xs.map fun (x : Nat) => Value.int .i64 (x : Int)

set_option maxRecDepth 20000 in
set_option maxHeartbeats 400000 in
theorem drawPlaces_any (w : World) (o : Option Addr) (n c : Nat) (hs : Src w w.heap.size o n) (hn : n ≤ 1048576) :
    Calls Try.prog 9 #[.slice o n c] w fun e w' => ∃ (v : Value) (xs : List Nat), xs.length = 12 ∧ (∀ x ∈ xs, x < 10000) ∧ e = .returned v ∧ OwnV w' w.heap.size 3 v (ints xs) ∧ Below w.heap.size w w' := by
  obtain ⟨i0, hi, hz0, hz1, hz2⟩ := info_parts Try.infoIC
  have HS := hide hs
  clear hs
  go_enter Try.func9, Try.ntmps9
  go_wp2_with fail
  go_at_call 32
  refine (l01New_any w o n c (unhide HS) hn).mono ?_
  rintro e w1 ⟨rfl, hb1, hc1⟩
  replace hc1 := hide hc1
  go_wp2_with fail
  go_at_call 36
  refine (l01Byte_any (unhide hc1) hn).mono ?_
  rintro e w2 ⟨x, hx, rfl, ho2, hc2⟩
  have hb2 := hb1.trans (ho2.below (Nat.le_refl _))
  have hg := hc2.lt
  replace hc2 := hide hc2
  replace ho2 := hide ho2
  clear hb1 hc1
  go_wp2
  go_loopw [4, 5] (fun v ti wr => ∃ (k : Nat) (xs : List Nat), k ≤ 12 ∧ xs.length = k ∧ ti = .int .i64 (k : Int) ∧ Hid (∀ x ∈ xs, x < 10000) ∧ OwnV wr w2.heap.size 3 v (ints xs) ∧ Below w.heap.size w wr ∧ w2.heap.size ≤ wr.heap.size ∧ Hid (Cur wr w.heap.size w.heap.size o n c))
    (fun _ ti _ => 12 - (intOf ti).toNat)
  case atStart => exact ⟨0, [], Nat.zero_le _, rfl, rfl, hide (by simp), World.ownsRow_made w2 #[] 0 (Nat.le_refl _) (by decide) (by simp), hb2.alloc hb2.size _, by simp, (unhide hc2).below ((Below.refl (w.heap.size + 1) w2).alloc (by omega) _) (by omega)⟩
  case round =>
    obtain ⟨k, xs, hk, hxl, rfl, HX, hown, hb, hsz, HC⟩ := hrel
    clear hc2 ho2 hb2
    by_cases hlt : k < 12
    · go_wp2_with fail
      go_at_call 34
      refine (l01Below_any (unhide HC) hn 10000 (by decide) (by decide)).mono ?_
      rintro e w3 ⟨y, hy, rfl, ho, hc3⟩
      have hown1 := hown.only ho hg
      have hb3 := hb.trans (ho.below (Nat.le_refl _))
      have hsz3 : w2.heap.size ≤ w3.heap.size := by rw [ho.size]; exact hsz
      have hil : (ints xs).length ≤ 12 := by simp [ints]; omega
      replace hc3 := hide hc3
      replace ho := hide ho
      clear hown hb HC
      go_wp2_with (at_builtin; refine wpList_append_vals rfl (.tmp 15) (.tmp 18) 26 rfl w2.heap.size w2.heap.size 3 i0 (.int .i64 0) 8 Try.underlying26 hi hz0 hz1 hz2 rfl _ (ints xs) rfl hown1 _ [.int .i64 (y : Int)] rfl (by intro u hu; simp only [List.mem_singleton] at hu; subst hu; rfl) 1 1 rfl rfl (by unfold maxLen; omega) (by omega) (Nat.le_refl _) hsz3 (Below.refl _ w3) ?_; intro v' w4 hown' hb4)
      have hc4 := hide ((unhide hc3).below hb4 hg)
      have hb' := hb3.trans (hb4.mono (show w.heap.size ≤ w2.heap.size by omega))
      have hsz4 : w2.heap.size ≤ w4.heap.size := Nat.le_trans hsz3 hb4.size
      have hown2 : OwnV w4 w2.heap.size 3 v' (ints (xs ++ [y])) := by unfold ints at hown' ⊢; rw [List.map_append]; exact hown'
      clear hown1 hb3 hb4 hc3 hown'
      go_wp2
      go_roundw
      case rel => exact ⟨k + 1, xs ++ [y], by omega, by simp [hxl], by go_num, hide (by intro z hz; rw [List.mem_append] at hz; rcases hz with hz | hz; exact unhide HX z hz; simp only [List.mem_singleton] at hz; omega), hown2, hb', hsz4, hc4⟩
      case measure => simp [intOf]; omega
    · have hke : k = 12 := by omega
      have hw : w.heap.size ≤ w2.heap.size := by omega
      replace hown := hide hown
      go_wp2
      go_ret
      exact ⟨_, xs, by omega, unhide HX, rfl, (unhide hown).low hw, hb⟩

end Go.Proofs.Ytljjajbkaffofae

/- More draws by contracts: once in so many times, one of a list of numbers, many bytes of one kind, a number, a text. -/
namespace Go.Proofs.Ytljjajbkaffofae
open Go.RowKit

set_option maxRecDepth 20000 in
set_option maxHeartbeats 400000 in
theorem l01Once_any {w : World} {base g n c : Nat} {o : Option Addr} (h : Cur w base g o n c) (hn : n ≤ 1048576) (m : Nat) (hm : 0 < m) (hm2 : m ≤ 4294967296) :
    Calls Try.prog 58 #[.pointer (some ⟨g, 0, none⟩), .int .i64 (m : Int)] w fun e w' => ∃ b : Bool, e = .returned (.bool b) ∧ Only g w w' ∧ Cur w' base g o n c := by
  have H := hide h
  clear h
  go_enter Try.func58, Try.ntmps58
  go_wp2_with (go_at_call 34; refine (l01Below_any (unhide H) hn m hm hm2).mono ?_; rintro e w1 ⟨x, hx, rfl, ho, hc⟩; replace hc := hide hc)
  go_ret
  exact ⟨_, rfl, ho, unhide hc⟩

/-- A row of numbers in block b. -/
def Nums (w : World) (b k : Nat) : Prop := ∀ j, j < k → ∃ z : Int, -9223372036854775808 ≤ z ∧ z ≤ 9223372036854775807 ∧ w.cell? ⟨b, j, none⟩ = some (.int .i64 z)

set_option maxRecDepth 20000 in
set_option maxHeartbeats 400000 in
theorem l01PickInt_any {w : World} {base g n c : Nat} {o : Option Addr} (h : Cur w base g o n c) (hn : n ≤ 1048576) (b k cap : Nat) (hk : 0 < k) (hk2 : k ≤ 1000) (hN : Nums w b k) (hbg : b ≠ g) :
    Calls Try.prog 59 #[.pointer (some ⟨g, 0, none⟩), .slice (some ⟨b, 0, none⟩) k cap] w fun e w' => ∃ z : Int, -9223372036854775808 ≤ z ∧ z ≤ 9223372036854775807 ∧ e = .returned (.int .i64 z) ∧ Only g w w' ∧ Cur w' base g o n c := by
  have H := hide h
  have HN := hide hN
  clear h hN
  go_enter Try.func59, Try.ntmps59
  go_wp2_with fail
  go_at_call 34
  refine (l01Below_any (unhide H) hn k hk (by omega)).mono ?_
  rintro e w1 ⟨x, hx, rfl, ho, hc⟩
  replace hc := hide hc
  obtain ⟨z, hz1, hz2, hcell⟩ := (unhide HN) x hx
  have hcell1 : w1.cell? ⟨b, x, none⟩ = some (.int .i64 z) := (World.cell?_of_block (w := w) (ho.block b hbg)).trans hcell
  replace ho := hide ho
  have hx0 : (0 : Int) ≤ (x : Int) := by omega
  have hx1 : (x : Int) < (k : Int) := by omega
  go_wp2
  go_ret
  exact ⟨z, hz1, hz2, rfl, unhide ho, unhide hc⟩


theorem map_set_bv (l : List UInt8) (k x : Nat) (hx : x < 256) : (l.map bv).set k (.int .u8 (x : Int)) = (l.set k (byteOf x)).map bv := by
  rw [List.map_set]
  congr 1
  simp only [bv, byteOf_toNat hx]
theorem rep_bv (n : Nat) : List.replicate n (Value.int .u8 0) = (List.replicate n (0 : UInt8)).map bv := by
  rw [List.map_replicate]; rfl

set_option maxRecDepth 20000 in
set_option maxHeartbeats 400000 in
theorem l01Long_any (m x : Nat) (w : World) (hm : 0 < m) (hm2 : m ≤ 1000000) (hx : x < 256) :
    Calls Try.prog 63 #[.int .i64 (m : Int), .int .u8 (x : Int)] w fun e w' => ∃ l : List UInt8, l.length = m ∧ e = .returned (.string ⟨l.toArray⟩) ∧ Below w.heap.size w w' := by
  obtain ⟨i0, hi, hz0, hz1, hz2⟩ := info_parts Try.infoBC
  go_enter Try.func63, Try.ntmps63
  go_wp2_with (at_make; refine wpList_make_full _ rfl _ _ 22 rfl w.heap.size 5 i0 (.int .u8 0) 1 Try.underlying22 hi hz0 hz1 _ _ _ _ m rfl rfl rfl rfl (by rw [hz2]; omega) (by unfold maxLen; omega) (Nat.le_refl _) ?_; intro w1 hown1 hgrow1)
  have hb1 : Below w.heap.size w w1 := (Below.refl _ _).grown hgrow1 (Nat.le_refl _) (fun k hk => by cases hk)
  have hown0 : OwnB w1 w.heap.size 5 (.slice (some ⟨w.heap.size, 0, none⟩) m m) (List.replicate m (0 : UInt8)) := by
    have e1 : (madeCells (Value.int .u8 0).cells (m * 1)).toList = (List.replicate m (0 : UInt8)).map bv := by
      show (madeCells #[Value.int .u8 0] (m * 1)).toList = _
      rw [Nat.mul_one, toList_madeCells_one, rep_bv]
    rw [e1] at hown1
    unfold OwnB
    rw [List.length_replicate]
    exact hown1
  clear hown1 hgrow1
  go_loopw [6] (fun ti wr => ∃ (k : Nat) (l : List UInt8), k ≤ m ∧ ti = .int .i64 (k : Int) ∧ l.length = m ∧ OwnB wr w.heap.size 5 (.slice (some ⟨w.heap.size, 0, none⟩) m m) l ∧ Below w.heap.size w wr)
    (fun ti _ => m - (intOf ti).toNat)
  case atStart => exact ⟨0, _, Nat.zero_le _, rfl, List.length_replicate, hown0, hb1⟩
  case round =>
    obtain ⟨k, l, hk, rfl, hl, hown, hb⟩ := hrel
    clear hown0 hb1
    by_cases hlt : k < m
    · have hownV : OwnV wr w.heap.size 5 (.slice (some ⟨w.heap.size, 0, none⟩) m m) (l.map bv) := by unfold OwnV; rw [List.length_map]; exact hown
      have hset := hownV.set k (.int .u8 (x : Int))
      rw [map_set_bv l k x hx] at hset
      have hown2 : OwnB (wr.setCell ⟨w.heap.size, k, none⟩ (.int .u8 (x : Int))) w.heap.size 5 (.slice (some ⟨w.heap.size, 0, none⟩) m m) (l.set k (byteOf x)) := by
        unfold OwnV at hset; rw [List.length_map] at hset; exact hset
      have hcell : wr.cell? ⟨w.heap.size, k, none⟩ = some (bv (l[k]'(by omega))) := hownV.cell (by rw [List.getElem?_map, List.getElem?_eq_getElem (by omega)]; rfl)
      have hfr := hownV.frozen k
      have hb2 := hb.setCell (p := ⟨w.heap.size, k, none⟩) (Nat.le_refl _) (.int .u8 (x : Int))
      have hl2 : (l.set k (byteOf x)).length = m := by rw [List.length_set]; exact hl
      replace hset := hide hset
      replace hownV := hide hownV
      replace hown2 := hide hown2
      replace hb2 := hide hb2
      replace hown := hide hown
      replace hl2 := hide hl2
      clear hb
      go_wp2
      go_roundw
      case rel => exact ⟨k + 1, _, by omega, by go_num, unhide hl2, unhide hown2, unhide hb2⟩
      case measure => simp [intOf]; omega
    · have hc := run_string_owned (P := Try.prog) wr 22 9 5 w.heap.size _ _ Try.underlying22 Try.underlying5 Try.underlying9 hown
      replace hown := hide hown
      go_wp2
      go_ret
      exact ⟨l, hl, rfl, hb⟩

end Go.Proofs.Ytljjajbkaffofae

/- The draws of chapter 5 by contracts, over the loaded program. -/
namespace Go.Proofs.Ytljjajbkaffofae
open Go.RowKit
set_option maxRecDepth 20000 in
set_option maxHeartbeats 400000 in
theorem l01PickP_any {w : World} {base g n c : Nat} {o : Option Addr} (p : Int → Prop) (h : Cur w base g o n c) (hn : n ≤ 1048576) (b k cap : Nat) (hk : 0 < k) (hk2 : k ≤ 1000) (hN : ∀ j, j < k → ∃ z, w.cell? ⟨b, j, none⟩ = some (.int .i64 z) ∧ p z) (hbg : b ≠ g) :
    Calls Try.prog 59 #[.pointer (some ⟨g, 0, none⟩), .slice (some ⟨b, 0, none⟩) k cap] w fun e w' => ∃ z : Int, p z ∧ e = .returned (.int .i64 z) ∧ Only g w w' ∧ Cur w' base g o n c := by
  have H := hide h
  have HN := hide hN
  clear h hN
  go_enter Try.func59, Try.ntmps59
  go_wp2_with fail
  go_at_call 34
  refine (l01Below_any (unhide H) hn k hk (by omega)).mono ?_
  rintro e w1 ⟨x, hx, rfl, ho, hc⟩
  replace hc := hide hc
  obtain ⟨z, hcell, hz⟩ := (unhide HN) x hx
  have hcell1 : w1.cell? ⟨b, x, none⟩ = some (.int .i64 z) := (World.cell?_of_block (w := w) (ho.block b hbg)).trans hcell
  replace ho := hide ho
  replace hz := hide hz
  have hx0 : (0 : Int) ≤ (x : Int) := by omega
  have hx1 : (x : Int) < (k : Int) := by omega
  go_wp2
  go_ret
  exact ⟨z, unhide hz, rfl, unhide ho, unhide hc⟩
set_option maxRecDepth 20000 in
set_option maxHeartbeats 400000 in
theorem l01Long0_any (m x : Nat) (w : World) (hm2 : m ≤ 1000000) (hx : x < 256) :
    Calls Try.prog 63 #[.int .i64 (m : Int), .int .u8 (x : Int)] w fun e w' => ∃ l : List UInt8, l.length = m ∧ e = .returned (.string ⟨l.toArray⟩) ∧ Below w.heap.size w w' := by
  obtain ⟨i0, hi, hz0, hz1, hz2⟩ := info_parts Try.infoBC
  go_enter Try.func63, Try.ntmps63
  go_wp2_with (at_make; refine wpList_make_full _ rfl _ _ 22 rfl w.heap.size 5 i0 (.int .u8 0) 1 Try.underlying22 hi hz0 hz1 _ _ _ _ m rfl rfl rfl rfl (by rw [hz2]; omega) (by unfold maxLen; omega) (Nat.le_refl _) ?_; intro w1 hown1 hgrow1)
  have hb1 : Below w.heap.size w w1 := (Below.refl _ _).grown hgrow1 (Nat.le_refl _) (fun k hk => by cases hk)
  have hown0 : OwnB w1 w.heap.size 5 (.slice (some ⟨w.heap.size, 0, none⟩) m m) (List.replicate m (0 : UInt8)) := by
    have e1 : (madeCells (Value.int .u8 0).cells (m * 1)).toList = (List.replicate m (0 : UInt8)).map bv := by
      show (madeCells #[Value.int .u8 0] (m * 1)).toList = _
      rw [Nat.mul_one, toList_madeCells_one, rep_bv]
    rw [e1] at hown1
    unfold OwnB
    rw [List.length_replicate]
    exact hown1
  clear hown1 hgrow1
  go_loopw [6] (fun ti wr => ∃ (k : Nat) (l : List UInt8), k ≤ m ∧ ti = .int .i64 (k : Int) ∧ l.length = m ∧ OwnB wr w.heap.size 5 (.slice (some ⟨w.heap.size, 0, none⟩) m m) l ∧ Below w.heap.size w wr)
    (fun ti _ => m - (intOf ti).toNat)
  case atStart => exact ⟨0, _, Nat.zero_le _, rfl, List.length_replicate, hown0, hb1⟩
  case round =>
    obtain ⟨k, l, hk, rfl, hl, hown, hb⟩ := hrel
    clear hown0 hb1
    by_cases hlt : k < m
    · have hownV : OwnV wr w.heap.size 5 (.slice (some ⟨w.heap.size, 0, none⟩) m m) (l.map bv) := by unfold OwnV; rw [List.length_map]; exact hown
      have hset := hownV.set k (.int .u8 (x : Int))
      rw [map_set_bv l k x hx] at hset
      have hown2 : OwnB (wr.setCell ⟨w.heap.size, k, none⟩ (.int .u8 (x : Int))) w.heap.size 5 (.slice (some ⟨w.heap.size, 0, none⟩) m m) (l.set k (byteOf x)) := by
        unfold OwnV at hset; rw [List.length_map] at hset; exact hset
      have hcell : wr.cell? ⟨w.heap.size, k, none⟩ = some (bv (l[k]'(by omega))) := hownV.cell (by rw [List.getElem?_map, List.getElem?_eq_getElem (by omega)]; rfl)
      have hfr := hownV.frozen k
      have hb2 := hb.setCell (p := ⟨w.heap.size, k, none⟩) (Nat.le_refl _) (.int .u8 (x : Int))
      have hl2 : (l.set k (byteOf x)).length = m := by rw [List.length_set]; exact hl
      replace hset := hide hset
      replace hownV := hide hownV
      replace hown2 := hide hown2
      replace hb2 := hide hb2
      replace hown := hide hown
      replace hl2 := hide hl2
      clear hb
      go_wp2
      go_roundw
      case rel => exact ⟨k + 1, _, by omega, by go_num, unhide hl2, unhide hown2, unhide hb2⟩
      case measure => simp [intOf]; omega
    · have hc := run_string_owned (P := Try.prog) wr 22 9 5 w.heap.size _ _ Try.underlying22 Try.underlying5 Try.underlying9 hown
      replace hown := hide hown
      go_wp2
      go_ret
      exact ⟨l, hl, rfl, hb⟩
theorem nums13 (w : World) (T : TypeId) : ∀ j, j < 13 → ∃ z, (w.alloc (.cells #[.int .i64 0, .int .i64 3, .int .i64 10, .int .i64 54, .int .i64 55, .int .i64 56, .int .i64 57, .int .i64 63, .int .i64 64, .int .i64 65, .int .i64 119, .int .i64 120, .int .i64 130] T)).cell? ⟨w.heap.size, j, none⟩ = some (.int .i64 z) ∧ (0 ≤ z ∧ z ≤ 130) := by
  intro j hj
  rw [cell_of_row _ w.heap.size j _ T (0, 0) (heap_alloc_new w _)]
  match j, hj with
  | 0, _ => exact ⟨0, rfl, by decide⟩
  | 1, _ => exact ⟨3, rfl, by decide⟩
  | 2, _ => exact ⟨10, rfl, by decide⟩
  | 3, _ => exact ⟨54, rfl, by decide⟩
  | 4, _ => exact ⟨55, rfl, by decide⟩
  | 5, _ => exact ⟨56, rfl, by decide⟩
  | 6, _ => exact ⟨57, rfl, by decide⟩
  | 7, _ => exact ⟨63, rfl, by decide⟩
  | 8, _ => exact ⟨64, rfl, by decide⟩
  | 9, _ => exact ⟨65, rfl, by decide⟩
  | 10, _ => exact ⟨119, rfl, by decide⟩
  | 11, _ => exact ⟨120, rfl, by decide⟩
  | 12, _ => exact ⟨130, rfl, by decide⟩
  | j + 13, hj => exact absurd hj (by omega)
set_option maxRecDepth 20000 in
set_option maxHeartbeats 400000 in
theorem l05Text_any {w : World} {base g n c : Nat} {o : Option Addr} (h : Cur w base g o n c) (hn : n ≤ 1048576) :
    Calls Try.prog 43 #[.pointer (some ⟨g, 0, none⟩)] w fun e w' => ∃ s : ByteArray, s.size ≤ 200 ∧ e = .returned (.string s) ∧ Below base w w' ∧ Cur w' base g o n c := by
  have hlo := h.lo
  have hgl := h.lt
  have H1 := hide (h.below ((Below.refl w.heap.size w).alloc (Nat.le_refl _) (.cells #[.int .i64 0, .int .i64 3, .int .i64 10, .int .i64 54, .int .i64 55, .int .i64 56, .int .i64 57, .int .i64 63, .int .i64 64, .int .i64 65, .int .i64 119, .int .i64 120, .int .i64 130] 3)) hgl)
  have HN := hide (nums13 w 3)
  have hb1 : Below base w (w.alloc (.cells #[.int .i64 0, .int .i64 3, .int .i64 10, .int .i64 54, .int .i64 55, .int .i64 56, .int .i64 57, .int .i64 63, .int .i64 64, .int .i64 65, .int .i64 119, .int .i64 120, .int .i64 130] 3)) := (Below.refl base w).alloc (by omega) _
  have hne : w.heap.size ≠ g := by omega
  clear h
  go_enter Try.func43, Try.ntmps43
  go_wp2_with fail
  generalize w.alloc (.cells #[.int .i64 0, .int .i64 3, .int .i64 10, .int .i64 54, .int .i64 55, .int .i64 56, .int .i64 57, .int .i64 63, .int .i64 64, .int .i64 65, .int .i64 119, .int .i64 120, .int .i64 130] 3) = w1 at *
  refine (l01PickP_any (fun z => 0 ≤ z ∧ z ≤ 130) (unhide H1) hn w.heap.size 13 13 (by omega) (by omega) (unhide HN) hne).mono ?_
  rintro e w2 ⟨z, ⟨hz0, hz1⟩, rfl, ho2, hc2⟩
  obtain ⟨m, rfl⟩ : ∃ m : Nat, z = (m : Int) := ⟨z.toNat, by omega⟩
  have hb2 := hb1.trans (ho2.below hlo)
  replace hc2 := hide hc2
  clear hb1 ho2 H1 HN
  go_wp2_with fail
  refine (l01Below_any (unhide hc2) hn 5 (by omega) (by omega)).mono ?_
  rintro e w3 ⟨x, hx, rfl, ho3, hc3⟩
  have hb3 := hb2.trans (ho3.below hlo)
  replace hc3 := hide hc3
  clear hb2 ho3 hc2
  go_wp2_with fail
  refine (l01Text_any (unhide hc3) hn x (by omega)).mono ?_
  rintro e w4 ⟨l, hl, rfl, hb34, hc4⟩
  have hb4 := hb3.trans hb34
  replace hc4 := hide hc4
  clear hb3 hb34 hc3
  go_wp2_with fail
  refine (l01Below_any (unhide hc4) hn 20 (by omega) (by omega)).mono ?_
  rintro e w5 ⟨y, hy, rfl, ho5, hc5⟩
  have hb5 := hb4.trans (ho5.below hlo)
  clear hb4 ho5 hc4
  have hgl5 := hc5.lt
  replace hc5 := hide hc5
  obtain ⟨y2, hy2⟩ : ∃ y2, y2 = 65 + y := ⟨_, rfl⟩
  have ey : IntKind.i64.wrap (65 + (y : Int)) = (y2 : Int) := by rw [IntKind.wrap_i64]; omega
  have ey2 : IntKind.u8.wrap (y2 : Int) = (y2 : Int) := by rw [IntKind.wrap_u8]; omega
  have hyl : y2 < 256 := by omega
  replace hy2 := hide hy2
  go_wp2_with fail
  refine (l01Long0_any m y2 w5 (by omega) hyl).mono ?_
  rintro e w6 ⟨l2, hl2, rfl, hb56⟩
  have hc6 := (unhide hc5).below hb56 hgl5
  have hb6 := hb5.trans (hb56.mono (by omega))
  clear hb5 hb56 hc5
  go_wp2
  go_ret
  refine ⟨_, ?_, rfl, hb6, hc6⟩
  rw [ByteArray.size_append]
  show l.length + l2.length ≤ 200
  omega
end Go.Proofs.Ytljjajbkaffofae

/- Drawn polynomials, by contracts, over the loaded program. -/
namespace Go.Proofs.Ytljjajbkaffofae
open Go.RowKit
theorem gTB9 {w w1 w2 : World} {r : Option Nat} (h : w.grownBy w1 r) (hb : Below w.heap.size w1 w2) : w.grownBy w2 r :=
  ⟨by rw [hb.os, h.os], by rw [hb.tape, h.tape], by rw [hb.output, h.output], Nat.le_trans h.size hb.size, fun j hj hr => by rw [hb.block j hj, h.block j hj hr]⟩
theorem gO9 {g : Nat} {w w' : World} (h : Only g w w') : w.grownBy w' (some g) := ⟨h.os, h.tape, h.output, by rw [h.size]; exact Nat.le_refl _, fun k _ hk => h.block k (fun e => hk (by rw [e]))⟩
def rngL (l : List Int) : Prop := ∀ x ∈ l, 0 ≤ x ∧ x ≤ 3328
theorem rngL_add {l : List Int} (h : rngL l) {x : Int} (hx : 0 ≤ x ∧ x ≤ 3328) : rngL (l ++ [x]) := by
  intro y hy
  rw [List.mem_append] at hy
  rcases hy with h1 | h1
  · exact h y h1
  · rw [List.mem_singleton] at h1; rw [h1]; exact hx
theorem rngL_set {l : List Int} (h : rngL l) (k : Nat) {x : Int} (hx : 0 ≤ x ∧ x ≤ 3328) : rngL (l.set k x) := by
  intro y hy
  rcases List.mem_or_eq_of_mem_set hy with h1 | h1
  · exact h y h1
  · rw [h1]; exact hx
theorem okPl_rng {l : List Int} (hl : l.length = 256) (h : rngL l) : okPl l = true :=
  okPl_of hl fun i hi => by rw [cAt_lt (by omega)]; exact h _ (List.getElem_mem _)
theorem map_add_iv (l : List Int) (x : Int) : l.map iv ++ [.int .i64 x] = (l ++ [x]).map iv := by rw [List.map_append]; rfl
theorem OwnV.some9 {w : World} {base n c : Nat} {a : Option Addr} {e : TypeId} {xs : List Value} (h : OwnV w base e (.slice a n c) xs) (hn : 0 < n) : ∃ g, a = some ⟨g, 0, none⟩ ∧ base ≤ g ∧ g < w.heap.size := by
  rcases h.2 with ⟨h1, _⟩ | ⟨g, cap, cur, h1, hb, h2, _⟩
  · simp only [Value.slice.injEq] at h1; omega
  · simp only [Value.slice.injEq] at h1
    refine ⟨g, h1.1, hb, ?_⟩
    rcases Nat.lt_or_ge g w.heap.size with h3 | h3
    · exact h3
    · rw [Array.getElem?_eq_none h3] at h2; cases h2
end Go.Proofs.Ytljjajbkaffofae

/- Draws of a seed and two places, over the loaded program. -/
namespace Go.Proofs.Ytljjajbkaffofae
open Go.RowKit
theorem nums5v (w : World) (T : TypeId) (a b : Int) (ha : -9223372036854775808 ≤ a ∧ a ≤ 9223372036854775807) (hb : -9223372036854775808 ≤ b ∧ b ≤ 9223372036854775807) : Nums (w.alloc (.cells #[.int .i64 (-1), .int .i64 a, .int .i64 b, .int .i64 9223372036854775807, .int .i64 (-9223372036854775808)] T)) w.heap.size 5 := by
  intro j hj
  rw [cell_of_row _ w.heap.size j _ T (0, 0) (heap_alloc_new w _)]
  match j, hj with
  | 0, _ => exact ⟨_, by decide, by decide, rfl⟩
  | 1, _ => exact ⟨a, ha.1, ha.2, rfl⟩
  | 2, _ => exact ⟨b, hb.1, hb.2, rfl⟩
  | 3, _ => exact ⟨_, by decide, by decide, rfl⟩
  | 4, _ => exact ⟨_, by decide, by decide, rfl⟩
  | j + 5, hj => exact absurd hj (by omega)

set_option maxRecDepth 20000 in
set_option maxHeartbeats 1000000 in
theorem l01Place_v {w : World} {base g n c : Nat} {o : Option Addr} (h : Cur w base g o n c) (hn : n ≤ 1048576) (m : Nat) (hm : 0 < m) (hm2 : m ≤ 1000000) :
    Calls Try.prog 35 #[.pointer (some ⟨g, 0, none⟩), .int .i64 (m : Int)] w fun e w' => ∃ z : Int, e = .returned (.int .i64 z) ∧ w.grownBy w' (some g) ∧ Cur w' base g o n c := by
  have hg := h.lt
  have H := hide h
  clear h
  go_enter Try.func35, Try.ntmps35
  go_wp2_with fail
  go_at_call 58
  refine (l01Once_any (unhide H) hn 15 (by decide) (by decide)).mono ?_
  rintro e w1 ⟨b, rfl, ho1, hc1⟩
  have G1 := hide (gO9 ho1)
  have s1 : w.heap.size ≤ w1.heap.size := by rw [ho1.size]; exact Nat.le_refl _
  replace hc1 := hide hc1
  clear ho1
  cases b with
  | true =>
    go_wp2_with fail
    go_at_call 59
    refine (l01PickInt_any ((unhide hc1).below ((Below.refl w1.heap.size w1).alloc (Nat.le_refl _) _) (by omega)) hn w1.heap.size 5 5 (by decide) (by decide) (nums5v w1 _ (m : Int) ((m : Int) + 1) (by omega) (by omega)) (by omega)).mono ?_
    rintro e w2 ⟨z, _, _, rfl, ho2, hc2⟩
    have G2 := hide (gT (unhide G1) (gT (gB ((Below.refl w1.heap.size w1).alloc (Nat.le_refl _) _) (some g)) (gO9 ho2)))
    replace hc2 := hide hc2
    replace ho2 := hide ho2
    go_wp2
    go_ret
    exact ⟨z, rfl, unhide G2, unhide hc2⟩
  | false =>
    go_wp2_with fail
    go_at_call 34
    refine (l01Below_any (unhide hc1) hn m hm (by omega)).mono ?_
    rintro e w2 ⟨x, hx, rfl, ho2, hc2⟩
    have G2 := hide (gT (unhide G1) (gO9 ho2))
    replace hc2 := hide hc2
    replace ho2 := hide ho2
    go_wp2
    go_ret
    exact ⟨(x : Int), rfl, unhide G2, unhide hc2⟩
end Go.Proofs.Ytljjajbkaffofae

