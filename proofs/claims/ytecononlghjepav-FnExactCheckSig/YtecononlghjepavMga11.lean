/- Merged: TrI6, TrI7, SgI1, SgI2, SgI3. -/
import Derived.Test.YtecononlghjepavMga1
import Derived.Test.YtecononlghjepavMga2
import Derived.Test.YtecononlghjepavMga3
import Derived.Test.YtecononlghjepavMga4
import Derived.Test.YtecononlghjepavMga5
import Derived.Test.YtecononlghjepavMga6
import Derived.Test.YtecononlghjepavMga7
import Derived.Test.YtecononlghjepavMga8
import Derived.Test.YtecononlghjepavMga9
import Derived.Test.YtecononlghjepavMga10
import Derived.LaidEqlPtr
import Derived.Lib.Builder
/- Trees by the project's own functions: roots and paths, over the loaded program. -/
namespace Go.Proofs.Ytecononlghjepav
open Go.RowKit
theorem sums_le (l : List ByteArray) (h : l.length + sumS l ≤ 1048576) : ∀ x ∈ l, x.size ≤ 1048576 := by
  intro x hx
  obtain ⟨i, hi, rfl⟩ := List.getElem_of_mem hx
  have := sumS_at l i hi
  omega
theorem cell_lt15 {w : World} {g o : Nat} {v : Value} (h : w.cell? ⟨g, o, none⟩ = some v) : g < w.heap.size := by
  unfold World.cell? at h
  by_cases hg : g < w.heap.size
  · exact hg
  · rw [Array.getElem?_eq_none (show w.heap.size ≤ g by omega)] at h
    cases h
def lenOf15 : Value → Nat
  | .slice _ n _ => n
  | _ => 0
set_option maxRecDepth 20000 in
theorem isLeaf_any (z : Int) (w : World) : Calls Try.prog 33 #[.int .i64 z] w fun e w' => e = .returned (.bool (decide (0 ≤ z ∧ z ≤ 3))) ∧ w' = w := by
  by_cases h : 0 ≤ z
  · by_cases h3 : z < 4
    · have e : decide (0 ≤ z ∧ z ≤ 3) = true := decide_eq_true (by omega)
      rw [e]
      go_enter Try.func33, Try.ntmps33
      go_wp2
      go_ret
      exact ⟨rfl, rfl⟩
    · have e : decide (0 ≤ z ∧ z ≤ 3) = false := decide_eq_false (by omega)
      rw [e]
      go_enter Try.func33, Try.ntmps33
      go_wp2
      go_ret
      exact ⟨rfl, rfl⟩
  · have e : decide (0 ≤ z ∧ z ≤ 3) = false := decide_eq_false (by omega)
    rw [e]
    go_enter Try.func33, Try.ntmps33
    go_wp2
    go_ret
    exact ⟨rfl, rfl⟩
set_option maxRecDepth 20000 in
set_option maxHeartbeats 1000000 in
theorem implRootOf_any (l : List ByteArray) (v : Value) (w : World) (hr : RdV w v (l.map sv)) (hs : ∀ x ∈ l, x.size ≤ 1048576) :
    Calls Try.prog 43 #[v] w fun e w' => e = .returned (.string (rootB l)) ∧ Below w.heap.size w w' := by
  obtain ⟨a, c, rfl, -⟩ := hr.open
  rw [List.length_map] at hr ⊢
  by_cases h4 : l.length = 4
  · have ER := hide (show rootB l = bAt (lvs l 2) 0 by unfold rootB; rw [if_pos h4])
    rw [unhide ER]
    have C1 := hide (nodesOf_any l _ w hr (by omega))
    have C2 := hide (fun W u gs (h : Nds W w.heap.size u gs l) => rootAbove_any l gs w.heap.size u W h h4 hs)
    rw [h4] at C1 ⊢
    generalize hR : bAt (lvs l 2) 0 = R at *
    replace hR := hide hR
    clear hr ER
    replace h4 := hide h4
    go_enter Try.func43, Try.ntmps43
    go_wp2_with fail
    refine (unhide C1).mono ?_
    rintro e w1 ⟨⟨v1, rfl, gs, hN1⟩, hb1⟩
    have c2 := hide (unhide C2 w1 v1 gs hN1)
    have hmem := hide hN1.mem
    clear C1 C2 hN1
    go_wp2_with fail
    refine (unhide c2).mono ?_
    rintro e w2 ⟨g, rfl, gs1, t1, t2, ⟨b, u, t3⟩, t4, t5⟩
    have hB2 := hb1.trans (t5.below w.heap.size hb1.size (fun k hk hmm => by have := (unhide hmem k hmm).1; omega))
    rw [unhide hR] at t3
    have d : w2.cell? ⟨g, 0, none⟩ = some (.string R) := t3.cell 0 rfl
    clear t1 t2 t3 t4 t5 hmem c2 hb1
    unfold pv
    go_wp2
    go_ret
    exact ⟨rfl, hB2⟩
  · have ER := hide (show rootB l = ⟨#[]⟩ by unfold rootB; rw [if_neg h4])
    rw [unhide ER]
    have h4' : ¬ (l.length : Int) = 4 := by omega
    clear hr
    go_enter Try.func43, Try.ntmps43
    go_wp2
    go_ret
    exact ⟨rfl, Below.refl _ _⟩
set_option maxRecDepth 20000 in
theorem stringsClone15_any (s : ByteArray) (w : World) (hs : s.size ≤ 4000000) :
    Calls Try.prog 36 #[.string s] w fun e w' => e = .returned (.string s) ∧ Below w.heap.size w w' := by
  have hlim : s.size ≤ 281474976710656 := by omega
  have C := hide (Try.stringslite_Clone s w hlim)
  go_enter Try.func36, Try.ntmps36
  go_wp2_with fail
  refine (unhide C).mono ?_
  rintro e w2 ⟨rfl, hb2⟩
  go_wp2
  go_ret
  exact ⟨rfl, hb2⟩
theorem infoNode15 : ∃ i, Try.prog.info? 54 = some i ∧ i.size ≠ 0 := by
  have h : (Try.prog.info? 54).map (fun i => i.size) = some 3 := by kernel_rfl
  cases hi : Try.prog.info? 54 with
  | none => rw [hi] at h; cases h
  | some i => rw [hi] at h; exact ⟨i, rfl, by have h3 : i.size = 3 := Option.some.inj h; omega⟩
theorem run_neq_ptr_other15 {P : Program} (w : World) {tp te : TypeId} {j : TypeInfo} {a b : Addr} {ca cb : Array Value} {ta tb : TypeId} (hp : P.underlying tp = some (.pointer te)) (hte : P.info? te = some j) (hsz : j.size ≠ 0)
    (hne : a ≠ b) (ha : w.heap[a.block]? = some (.cells ca ta (0, 0))) (hb : w.heap[b.block]? = some (.cells cb tb (0, 0))) :
    (binOp .neq tp (.pointer (some a)) (.pointer (some b))).run P w = .ok (.bool true) w := by
  have h : ∀ d : Nat, (Op.equalIn (d + 1) tp (.pointer (some a)) (.pointer (some b))).run P w = .ok false w := fun d => by
    simp [Op.equalIn, run_underlying hp, sizeOf, typeInfo, hte, hsz, run_sameAddr_other w hne ha hb]
  simp only [binOp]
  simp [Op.equal, Op.maxDepth, h 9999]
/-- Where the path from a leaf goes: the nodes it meets, and those beside them. -/
theorem trd_way {w w' : World} {gs gs1 : List Nat} {l : List ByteArray} {g : Nat} (hlt : ∀ i, i < 4 → gAt gs i < w.heap.size) (h : Trd w w' gs gs1 l g) (m : Nat) (hm : m < 4) :
    ∃ nd sb : Nat → Nat, nd 0 = gAt gs m ∧ nd 2 = g ∧ (∃ cs, CB w' g 54 cs) ∧ ∀ k, k < 2 → nd k ≠ g ∧ (∃ cs, CB w' (nd k) 54 cs) ∧ sb k < w'.heap.size ∧ w'.cell? ⟨nd k, 1, none⟩ = some (pv (sb k)) ∧ w'.cell? ⟨nd k, 2, none⟩ = some (pv (nd (k + 1))) ∧ w'.cell? ⟨sb k, 0, none⟩ = some (.string (pthN l m k)) := by
  obtain ⟨t1, t2, t3, t4, t5⟩ := h
  refine ⟨fun k => if k = 0 then gAt gs m else if k = 1 then gAt gs1 (m / 2) else g, fun k => if k = 0 then gAt gs (sibN m) else gAt gs1 (sibN (m / 2)), rfl, rfl, t3.elim (fun b h => h.elim (fun u h => ⟨_, h⟩)), ?_⟩
  intro k hk
  have hg := t4 (m / 2) (by omega)
  have hg0 := hlt m hm
  rcases show k = 0 ∨ k = 1 by omega with rfl | rfl
  · have hs0 : sibN (m / 2 ^ 0) = sibN m := by rw [Nat.pow_zero, Nat.div_one]
    show gAt gs m ≠ g ∧ (∃ cs, CB w' (gAt gs m) 54 cs) ∧ gAt gs (sibN m) < _ ∧ w'.cell? ⟨gAt gs m, 1, none⟩ = some (pv (gAt gs (sibN m))) ∧ w'.cell? ⟨gAt gs m, 2, none⟩ = some (pv (gAt gs1 (m / 2))) ∧ w'.cell? ⟨gAt gs (sibN m), 0, none⟩ = some (.string (bAt (lvs l 0) (sibN (m / 2 ^ 0))))
    rw [hs0]
    obtain ⟨c1, c2⟩ := t1 (m / 2) (by omega)
    by_cases ho : m % 2 = 1
    · have e1 : sibN m = 2 * (m / 2) := by unfold sibN; rw [if_pos ho]; omega
      have e2 : 2 * (m / 2) + 1 = m := by omega
      rw [e2] at c1 c2
      rw [← e1] at c1 c2
      exact ⟨by omega, ⟨_, c2⟩, c1.lt, c2.cell 1 rfl, c2.cell 2 rfl, c1.cell 0 rfl⟩
    · have e1 : sibN m = 2 * (m / 2) + 1 := by unfold sibN; rw [if_neg ho]; omega
      have e2 : 2 * (m / 2) = m := by omega
      rw [← e1, e2] at c1 c2
      exact ⟨by omega, ⟨_, c1⟩, c2.lt, c1.cell 1 rfl, c1.cell 2 rfl, c2.cell 0 rfl⟩
  · have hs0 : sibN (m / 2 ^ 1) = sibN (m / 2) := by rw [Nat.pow_one]
    show gAt gs1 (m / 2) ≠ g ∧ (∃ cs, CB w' (gAt gs1 (m / 2)) 54 cs) ∧ gAt gs1 (sibN (m / 2)) < _ ∧ w'.cell? ⟨gAt gs1 (m / 2), 1, none⟩ = some (pv (gAt gs1 (sibN (m / 2)))) ∧ w'.cell? ⟨gAt gs1 (m / 2), 2, none⟩ = some (pv g) ∧ w'.cell? ⟨gAt gs1 (sibN (m / 2)), 0, none⟩ = some (.string (bAt (lvs l 1) (sibN (m / 2 ^ 1))))
    rw [hs0]
    obtain ⟨c1, c2⟩ := t2 0 (by omega)
    have eg : gAt [g] 0 = g := rfl
    rw [eg] at c1 c2
    rcases show m / 2 = 0 ∨ m / 2 = 1 by omega with e | e
    · rw [e] at hg ⊢
      exact ⟨by omega, ⟨_, c1⟩, c2.lt, c1.cell 1 rfl, c1.cell 2 rfl, c2.cell 0 rfl⟩
    · rw [e] at hg ⊢
      exact ⟨by omega, ⟨_, c2⟩, c1.lt, c2.cell 1 rfl, c2.cell 2 rfl, c1.cell 0 rfl⟩
set_option maxRecDepth 20000 in
set_option maxHeartbeats 1000000 in
theorem implPathOf_any (l : List ByteArray) (leaf : Int) (v : Value) (w : World) (hr : RdV w v (l.map sv)) (hs : ∀ x ∈ l, x.size ≤ 1048576) :
    Calls Try.prog 12 #[v, .int .i64 leaf] w fun e w' => (∃ v', e = .returned v' ∧ OwnV w' w.heap.size 9 v' ((pathL l leaf).map sv)) ∧ Below w.heap.size w w' := by
  obtain ⟨i0, hi, hz0, hz1, hz2⟩ := info_parts infoTxt
  obtain ⟨iN, hiN, hzN⟩ := infoNode15
  have CI := hide (fun W => isLeaf_any leaf W)
  obtain ⟨a, c, rfl, -⟩ := hr.open
  rw [List.length_map] at hr ⊢
  by_cases h4 : l.length = 4
  · by_cases hlf : 0 ≤ leaf ∧ leaf ≤ 3
    · rw [decide_eq_true hlf] at CI
      obtain ⟨m, rfl⟩ : ∃ m : Nat, leaf = (m : Int) := ⟨leaf.toNat, by omega⟩
      have hm : m < 4 := by omega
      have EP := hide (show pathL l (m : Int) = preT (pthN l m) 2 by unfold pathL; rw [if_pos ⟨h4, hlf⟩, Int.toNat_natCast]; rfl)
      rw [unhide EP]
      have C1 := hide (nodesOf_any l _ w hr (by omega))
      have C2 := hide (fun W u gs (h : Nds W w.heap.size u gs l) => rootAbove_any l gs w.heap.size u W h h4 hs)
      have HWy := hide (show ∀ (w1 w2 : World) u gs gs1 g, Nds w1 w.heap.size u gs l → Trd w1 w2 gs gs1 l g → ∃ nd sb : Nat → Nat, nd 0 = gAt gs m ∧ nd 2 = g ∧ (∃ cs, CB w2 g 54 cs) ∧ ∀ k, k < 2 → nd k ≠ g ∧ (∃ cs, CB w2 (nd k) 54 cs) ∧ sb k < w2.heap.size ∧ w2.cell? ⟨nd k, 1, none⟩ = some (pv (sb k)) ∧ w2.cell? ⟨nd k, 2, none⟩ = some (pv (nd (k + 1))) ∧ w2.cell? ⟨sb k, 0, none⟩ = some (.string (pthN l m k)) from fun w1 w2 u gs gs1 g hN hT => trd_way (fun i hi => (hN.mem _ (gAt_mem gs i (by rw [hN.2.1]; omega))).2) hT m hm)
      have HRow := hide (show ∀ (w1 w2 : World) u gs gs1 g, Nds w1 w.heap.size u gs l → Trd w1 w2 gs gs1 l g → ∃ gv c, u = .slice (some ⟨gv, 0, none⟩) 4 c ∧ w2.cell? ⟨gv, m, none⟩ = some (pv (gAt gs m)) from fun w1 w2 u gs gs1 g hN hT => by
        obtain ⟨gv, c, e, _⟩ := hN.row h4 (by omega)
        have ho := hN.1.kps hT.2.2.2.2 (fun q hq hmm => hN.off q hmm hq)
        rw [e] at ho
        exact ⟨gv, c, e, ho.cell (gAt_get gs m (by rw [hN.2.1]; omega))⟩)
      rw [h4] at C1 ⊢
      have hm' : (m : Int) < 4 := by omega
      have hm0 : (0 : Int) ≤ (m : Int) := by omega
      have HF := hide (show ∀ k, (pthN l m k).size ≤ 1048576 from fun k => bAt_sizeT _ _ _ (lvs_size l _ (by omega) hs k))
      generalize pthN l m = F at *
      clear hr EP
      replace h4 := hide h4
      go_enter Try.func12, Try.ntmps12
      go_wp2_with fail
      refine (unhide CI _).mono ?_
      rintro e w0 ⟨rfl, hw0⟩
      have hw0' := hw0.symm
      subst hw0'
      clear hw0
      go_wp2_with fail
      refine (unhide C1).mono ?_
      rintro e w1 ⟨⟨v1, rfl, gs, hN1⟩, hb1⟩
      have c2 := hide (unhide C2 w1 v1 gs hN1)
      have hmem := hide hN1.mem
      clear C1 C2
      go_wp2_with fail
      refine (unhide c2).mono ?_
      rintro e w2 ⟨g, rfl, gs1, ht⟩
      have hB2 := hb1.trans (ht.2.2.2.2.below w.heap.size hb1.size (fun k hk hmm => by have := (unhide hmem k hmm).1; omega))
      obtain ⟨nd, sb, hn0, hn2, ⟨csR, hcR⟩, hway⟩ := unhide HWy w1 w2 v1 gs gs1 g hN1 ht
      obtain ⟨gv, cv, rfl, d0⟩ := unhide HRow w1 w2 _ gs gs1 g hN1 ht
      rw [← hn0] at d0
      have HY := hide hway
      rw [← hn2] at hcR
      have HCR := hide hcR
      clear hcR
      clear hway hN1 ht hmem c2 HWy HRow hb1 CI
      have hs2 := hB2.size
      unfold pv at d0 HY ⊢
      rw [← hn2]
      rw [← hn2] at HY
      replace hn0 := hide hn0; replace hn2 := hide hn2
      go_wp2_with (at_make; refine wpList_make_own _ rfl _ _ 22 rfl w2.heap.size 9 i0 (.string ⟨#[]⟩) 1 Try.underlying22 hi hz0 hz1 _ _ _ 2 rfl rfl (by omega) (by rw [hz2]; omega) (by unfold maxLen; omega) (Nat.le_refl _) ?_; intro w3 hown3 hgrow3; have hb0 : Below w2.heap.size w2 w3 := (Below.refl w2.heap.size w2).grown hgrow3 (Nat.le_refl _) (fun k hk => by cases hk); have d0' := (hb0.cell (p := ⟨gv, m, none⟩) (by exact cell_lt15 d0)).trans d0)
      have hr0 := hide (show OwnV w3 w2.heap.size 9 (.slice (some ⟨w2.heap.size, 0, none⟩) 0 2) ((preT F 0).map sv) from hown3)
      clear hown3 hgrow3 d0
      go_loopw [7, 8] (fun tp tn wr => ∃ k : Nat, k ≤ 2 ∧ tn = .pointer (some ⟨nd k, 0, none⟩) ∧ Hid (OwnV wr w2.heap.size 9 tp ((preT F k).map sv)) ∧ Below w2.heap.size w2 wr) (fun tp _ _ => 5 - lenOf15 tp)
      case atStart => exact ⟨0, by omega, rfl, hr0, hb0⟩
      case round =>
        clear hr0 hb0 d0'
        obtain ⟨k, hk, rfl, HO, hB⟩ := hrel
        by_cases hlt : k < 2
        · obtain ⟨y1, ⟨csk, y2c⟩, y3, y4, y5, y6⟩ := unhide HY k hlt
          have y2 := y2c.lt
          have z4 := (hB.cell (p := ⟨nd k, 1, none⟩) y2).trans y4
          have z5 := (hB.cell (p := ⟨nd k, 2, none⟩) y2).trans y5
          have z6 := (hB.cell (p := ⟨sb k, 0, none⟩) y3).trans y6
          have hFs := unhide HF k
          have CC := hide (fun W => stringsClone15_any (F k) W (by omega))
          have HPS := hide (preT_succ F k)
          have hl1 : ((preT F k).map sv).length + 1 ≤ maxLen := by rw [List.length_map, preT_len]; unfold maxLen; omega
          have hl2 : (((preT F k).map sv).length + 1) * 16 ≤ 140737488355328 := by rw [List.length_map, preT_len]; omega
          have hszB := hB.size
          obtain ⟨al, cl, hal⟩ := (unhide HO).shape
          rw [List.length_map, preT_len] at hal
          subst hal
          obtain ⟨x, hx⟩ : ∃ x, x = nd k := ⟨_, rfl⟩
          obtain ⟨x', hx'⟩ : ∃ x', x' = nd (k + 1) := ⟨_, rfl⟩
          obtain ⟨r, hrr⟩ : ∃ r, r = nd 2 := ⟨_, rfl⟩
          rw [← hx] at z4 z5 y1 y2 y5 ⊢
          rw [← hx'] at z5 y5
          rw [← hrr] at y1 ⊢
          generalize sb k = s at *
          generalize F k = fk at *
          replace y2c := hide y2c
          have NE := run_neq_ptr_other15 (P := Try.prog) wr (tp := 51) (te := 54) (a := ⟨x, 0, none⟩) (b := ⟨r, 0, none⟩) Try.underlying51 hiN hzN (fun e => y1 (Addr.mk.inj e).1) (by rw [hx]; exact (unhide y2c).below hB (unhide y2c).lt) (by rw [hrr]; exact (unhide HCR).below hB (unhide HCR).lt)
          replace hx := hide hx; replace hx' := hide hx'; replace hrr := hide hrr
          replace hl1 := hide hl1; replace hl2 := hide hl2
          replace y5 := hide y5; replace y2 := hide y2
          clear HY y2c HCR y3 y4 y6 HF
          go_wp2_with fail
          refine (unhide CC _).mono ?_
          rintro e w4 ⟨rfl, hb4⟩
          have hB4 := hB.trans (hb4.mono hB.size)
          have hO4 := hide ((unhide HO).below hb4)
          have hsz4 := hB4.size
          clear hB hb4 HO CC z4 z6
          go_wp2_with (at_builtin; refine wpList_append_grow (w := w4) rfl (.tmp 33) (.tmp 42) 22 rfl w2.heap.size 9 i0 (.string ⟨#[]⟩) 16 Try.underlying22 hi hz0 hz1 hz2 rfl _ _ (by rfl) (unhide hO4) (.string fk) rfl rfl (unhide hl1) (unhide hl2) hsz4 ?_; intro v' w5 ho5 hg5; have hB5 := (hB4.alloc hsz4 (.cells #[.string fk] 9)).grown hg5 (by simp; omega) (fun b hb => ((unhide hO4).lt b hb).1); have z8 := (hB5.cell (p := ⟨x, 2, none⟩) (unhide y2)).trans (unhide y5))
          have ho6 := hide (show OwnV w5 w2.heap.size 9 v' ((preT F (k + 1)).map sv) by rw [unhide HPS, List.map_append]; exact ho5)
          have hsh := ho5.shape
          obtain ⟨a5, c5, hv5⟩ := hsh
          rw [List.length_append, List.length_map, preT_len] at hv5
          subst hv5
          rw [unhide hx'] 
          exact ⟨⟨k + 1, by omega, rfl, ho6, hB5⟩, by show 5 - (k + 1) < 5 - k; omega⟩
        · obtain rfl : k = 2 := by omega
          have hfin := hide ((unhide HO).low hs2)
          have hB3 := hB2.trans (hB.mono hs2)
          have NE := Lib.run_neq_ptr_same (P := Try.prog) wr (tp := 51) (te := 54) ⟨nd 2, 0, none⟩ Try.underlying51 hiN
          clear HO HY
          go_wp2
          go_ret
          exact ⟨⟨_, rfl, unhide hfin⟩, hB3⟩
    · have hdf : decide (0 ≤ leaf ∧ leaf ≤ 3) = false := decide_eq_false hlf
      rw [hdf] at CI
      have EP := hide (show pathL l leaf = [] by unfold pathL; rw [if_neg (fun h => hlf h.2)])
      rw [unhide EP, h4]
      clear hr
      replace hlf := hide hlf
      go_enter Try.func12, Try.ntmps12
      go_wp2_with fail
      refine (unhide CI _).mono ?_
      rintro e w0 ⟨rfl, hw0⟩
      have hw0' := hw0.symm
      subst hw0'
      clear hw0
      go_wp2
      go_ret
      exact ⟨⟨_, rfl, OwnV.nil _ _ _⟩, Below.refl _ _⟩
  · have EP := hide (show pathL l leaf = [] by unfold pathL; rw [if_neg (fun h => h4 h.1)])
    rw [unhide EP]
    have h4' : ¬ (l.length : Int) = 4 := by omega
    have h4b : decide ((l.length : Int) = 4) = false := decide_eq_false h4'
    clear hr
    go_enter Try.func12, Try.ntmps12
    go_wp2
    go_ret
    exact ⟨⟨_, rfl, OwnV.nil _ _ _⟩, Below.refl _ _⟩
end Go.Proofs.Ytecononlghjepav

/- Trees by the project's own functions: the root by a path, over the loaded program. -/
namespace Go.Proofs.Ytecononlghjepav
open Go.RowKit
set_option maxRecDepth 20000 in
theorem leftRight_even (x p : ByteArray) (y : Nat) (hy : y < 4) (he : ¬ y % 2 = 1) (w : World) : Calls Try.prog 39 #[.string x, .int .i64 (y : Int), .string p] w fun e w' => e = .returned (.tuple #[.string x, .string p]) ∧ w' = w := by
  have h1 : (y : Int).tmod 2 = 0 := by rw [Int.tmod_eq_emod_of_nonneg (by omega)]; omega
  have h2 : (y : Int) % 2 = 0 := by omega
  go_enter Try.func39, Try.ntmps39
  go_wp2
  go_ret2
  exact ⟨rfl, rfl⟩
set_option maxRecDepth 20000 in
theorem leftRight_odd (x p : ByteArray) (y : Nat) (hy : y < 4) (he : y % 2 = 1) (w : World) : Calls Try.prog 39 #[.string x, .int .i64 (y : Int), .string p] w fun e w' => e = .returned (.tuple #[.string p, .string x]) ∧ w' = w := by
  have h1 : (y : Int).tmod 2 = 1 := by rw [Int.tmod_eq_emod_of_nonneg (by omega)]; omega
  have h2 : (y : Int) % 2 = 1 := by omega
  go_enter Try.func39, Try.ntmps39
  go_wp2
  go_ret2
  exact ⟨rfl, rfl⟩
/-- One step up, whoever stands left. -/
theorem stp_lr (level : Int) (x p : ByteArray) (y : Nat) (hy : y < 4) (hx : x.size ≤ 1048576) (hp : p.size ≤ 1048576) : ∃ a b : ByteArray,
    (∀ w, Calls Try.prog 39 #[.string x, .int .i64 (y : Int), .string p] w fun e w' => e = .returned (.tuple #[.string a, .string b]) ∧ w' = w) ∧
    (∀ w, Calls Try.prog 40 #[.int .i64 level, .int .i64 ((y / 2 : Nat) : Int), .string a, .string b] w fun e w' => e = .returned (.string (stpB level y x p)) ∧ Below w.heap.size w w') := by
  by_cases ho : y % 2 = 1
  · refine ⟨p, x, fun w => leftRight_odd x p y hy ho w, fun w => ?_⟩
    unfold stpB
    rw [if_pos ho]
    exact implNode_any level _ p x hp hx w
  · refine ⟨x, p, fun w => leftRight_even x p y hy ho w, fun w => ?_⟩
    unfold stpB
    rw [if_neg ho]
    exact implNode_any level _ x p hx hp w
set_option maxRecDepth 20000 in
set_option maxHeartbeats 1000000 in
theorem implRootBy_any (x : ByteArray) (leaf : Int) (path : List ByteArray) (v : Value) (w : World) (hx : x.size ≤ 1048576) (hr : RdV w v (path.map sv)) (hs : ∀ x ∈ path, x.size ≤ 1048576) :
    Calls Try.prog 17 #[.string x, .int .i64 leaf, v] w fun e w' => e = .returned (.string (rootBy x leaf path)) ∧ Below w.heap.size w w' := by
  have C1 := hide (fun W => isLeaf_any leaf W)
  obtain ⟨a, c, rfl, hc⟩ := hr.open
  rw [List.length_map]
  clear hr
  by_cases h2 : path.length = 2
  · by_cases hlf : 0 ≤ leaf ∧ leaf ≤ 3
    · rw [decide_eq_true hlf] at C1
      obtain ⟨m, rfl⟩ : ∃ m : Nat, leaf = (m : Int) := ⟨leaf.toNat, by omega⟩
      have hm : m < 4 := by omega
      have ER := hide (show rootBy x (m : Int) path = rbB x m path 2 by unfold rootBy; rw [if_pos ⟨h2, hlf⟩, Int.toNat_natCast])
      rw [unhide ER]
      have HN := hide (show ∀ k, rbB x m path (k + 1) = stpB ((k + 1 : Nat) : Int) (m / 2 ^ k) (rbB x m path k) (bAt path k) from fun k => rfl)
      have HC := hide (fun k (hk : k < 2) => hc k _ (bAt_getT path k (by omega)))
      have HZ := hide (fun k => rbB_size x m path k _ (show 4 ≤ 1048576 by omega) hx)
      have HP := hide (fun k => bAt_sizeT path k _ hs)
      rw [h2]
      clear hc
      replace h2 := hide h2
      go_enter Try.func17, Try.ntmps17
      go_wp2_with fail
      refine (unhide C1 _).mono ?_
      rintro e w1 ⟨rfl, hw1⟩
      have hw1' := hw1.symm
      subst hw1'
      clear hw1
      go_wp2
      go_loopw [0, 7, 23] (fun tx tf ti wr => ∃ k y : Nat, k ≤ 2 ∧ ti = .int .i64 (k : Int) ∧ tf = .int .i64 (y : Int) ∧ Hid (y = m / 2 ^ k) ∧ tx = .string (rbB x m path k) ∧ Below w.heap.size w wr) (fun _ _ ti _ => 5 - (intOf ti).toNat)
      case atStart => exact ⟨0, m, by omega, rfl, rfl, hide (by rw [Nat.pow_zero, Nat.div_one]), rfl, Below.refl _ _⟩
      case round =>
        obtain ⟨k, y, hk, rfl, rfl, hy, rfl, hB⟩ := hrel
        by_cases hlt : k < 2
        · have hk2 : (k : Int) < 2 := by omega
          have hk0 : (0 : Int) ≤ (k : Int) := by omega
          have hy4 : y < 4 := by rw [unhide hy]; exact Nat.lt_of_le_of_lt (Nat.div_le_self _ _) hm
          obtain ⟨g, o, rfl, hg, d1⟩ := unhide HC k hlt
          have d2 := (hB.cell (p := ⟨g, o + k, none⟩) hg).trans d1
          obtain ⟨y2, hy2⟩ : ∃ y2, y2 = y / 2 := ⟨_, rfl⟩
          have HY := hide (show y2 = m / 2 ^ (k + 1) by rw [hy2, unhide hy, Nat.div_div_eq_div_mul, Nat.pow_succ])
          have v1' : (y : Int) / 2 = (y2 : Int) := by omega
          have v1 : (y : Int).tdiv 2 = (y2 : Int) := by rw [Int.tdiv_eq_ediv_of_nonneg (by omega)]; omega
          obtain ⟨lv, hlv⟩ : ∃ lv : Nat, lv = k + 1 := ⟨_, rfl⟩
          have q1 : (k : Int) + 1 = (lv : Int) := by omega
          obtain ⟨la, lb, cA, cB⟩ := stp_lr ((k + 1 : Nat) : Int) (rbB x m path k) (bAt path k) y hy4 (unhide HZ k) (unhide HP k)
          have HX := unhide HN k
          rw [← unhide hy] at HX
          obtain ⟨R0, hR⟩ : ∃ R0, R0 = rbB x m path (k + 1) := ⟨_, rfl⟩
          rw [← HX, ← hR, ← hy2, ← hlv] at cB
          replace hR := hide hR
          generalize rbB x m path k = xk at *
          generalize bAt path k = pk at *
          replace cA := hide cA; replace cB := hide cB
          have hlvb : lv ≤ 3 := by omega
          replace hlv := hide hlv; replace hy2 := hide hy2
          clear HC HN HZ HP d1 HX
          go_wp2_with fail
          refine (unhide cA _).mono ?_
          rintro e w2 ⟨rfl, hw2⟩
          have hw2' := hw2.symm
          subst hw2'
          clear hw2
          go_wp2_with fail
          refine (unhide cB _).mono ?_
          rintro e w3 ⟨rfl, hb3⟩
          have hB3 := hB.trans (hb3.mono hB.size)
          clear hb3 hB cA cB
          go_wp2
          exact ⟨⟨k + 1, y2, by omega, by rw [← q1]; rfl, rfl, HY, by rw [unhide hR], hB3⟩, by simp [intOf]; omega⟩
        · obtain rfl : k = 2 := by omega
          clear HC HN HZ HP
          go_wp2
          go_ret
          exact ⟨rfl, hB⟩
    · have hdf : decide (0 ≤ leaf ∧ leaf ≤ 3) = false := decide_eq_false hlf
      rw [hdf] at C1
      have ER := hide (show rootBy x leaf path = ⟨#[]⟩ by unfold rootBy; rw [if_neg (fun h => hlf h.2)])
      rw [unhide ER, h2]
      clear hc
      replace hlf := hide hlf
      go_enter Try.func17, Try.ntmps17
      go_wp2_with fail
      refine (unhide C1 _).mono ?_
      rintro e w1 ⟨rfl, hw1⟩
      have hw1' := hw1.symm
      subst hw1'
      clear hw1
      go_wp2
      go_ret
      exact ⟨rfl, Below.refl _ _⟩
  · have ER := hide (show rootBy x leaf path = ⟨#[]⟩ by unfold rootBy; rw [if_neg (fun h => h2 h.1)])
    rw [unhide ER]
    have h2' : ¬ (path.length : Int) = 2 := by omega
    have h2b : decide ((path.length : Int) = 2) = false := decide_eq_false h2'
    clear hc
    go_enter Try.func17, Try.ntmps17
    go_wp2
    go_ret
    exact ⟨rfl, Below.refl _ _⟩
end Go.Proofs.Ytecononlghjepav

/- Keys of a tree by the project's own functions: the keys of a seed, public texts, signatures, over the loaded program. -/
namespace Go.Proofs.Ytecononlghjepav
open Go.RowKit
theorem sum_four16 (l : List ByteArray) (h : ∀ x ∈ l, x.size = 4) : sumS l = 4 * l.length := by
  induction l with
  | nil => rfl
  | cons x xs ih =>
    show x.size + sumS xs = 4 * (xs.length + 1)
    rw [h x (by simp), ih fun y hy => h y (by simp [hy])]
    omega
theorem keysO_sum (s : ByteArray) (leaf : Int) : sumS (keysO s leaf) ≤ 1048576 := by
  rw [sum_four16 _ (keysO_size s leaf), keysO_len]; omega
set_option maxRecDepth 20000 in
set_option maxHeartbeats 400000 in
theorem keysOf_any (s : ByteArray) (leaf : Int) (hs : s.size ≤ 2000000) (w : World) :
    Calls Try.prog 60 #[.string s, .int .i64 leaf] w fun e w' => (∃ v, e = .returned v ∧ OwnV w' w.heap.size 9 v ((keysO s leaf).map sv)) ∧ Below w.heap.size w w' := by
  have C := hide (fun W => implOnceKey_any s leaf hs W)
  generalize (keysO s leaf).map sv = L at *
  go_enter Try.func60, Try.ntmps60
  go_wp2_with fail
  refine (unhide C w).mono ?_
  rintro e w1 ⟨⟨v1, rfl, o1⟩, hb1⟩
  clear C
  go_wp2
  go_ret
  exact ⟨⟨_, rfl, o1⟩, hb1⟩
set_option maxRecDepth 20000 in
set_option maxHeartbeats 1000000 in
theorem publics_any (s : ByteArray) (hs : s.size ≤ 2000000) (w : World) :
    Calls Try.prog 44 #[.string s] w fun e w' => (∃ v, e = .returned v ∧ OwnV w' w.heap.size 9 v ((lvsO s).map sv)) ∧ Below w.heap.size w w' := by
  obtain ⟨i0, hi, hz0, hz1, hz2⟩ := info_parts infoTxt
  have C1 := hide (fun (k : Nat) W => keysOf_any s (k : Int) hs W)
  have C2 := hide (fun (k : Nat) W v hr => implOncePublic_any (keysO s (k : Int)) (k : Int) v W hr (keysO_sum s _))
  have HK := hide (show ∀ k : Nat, onceP (keysO s (k : Int)) (k : Int) = lefO s k from fun k => rfl)
  have EK : lvsO s = (List.range 4).map (lefO s) := rfl
  rw [EK]
  simp only [unhide HK] at C2
  generalize lefO s = F at *
  obtain ⟨L, hL⟩ : ∃ L : List Value, L = ((List.range 4).map F).map sv := ⟨_, rfl⟩
  have hLl := hide (show L.length = 4 by rw [hL, List.length_map, List.length_map, List.length_range])
  have hLk := hide (show ∀ k, k < 4 → L[k]? = some (.string (F k)) from fun k hk => by rw [hL, List.getElem?_map, List.getElem?_map, List.getElem?_range hk]; rfl)
  rw [← hL]
  replace hL := hide hL
  clear HK EK
  go_enter Try.func44, Try.ntmps44
  go_wp2_with (at_make; refine wpList_make_full _ rfl _ _ 22 rfl w.heap.size 9 i0 (.string ⟨#[]⟩) 1 Try.underlying22 hi hz0 hz1 _ _ _ _ 4 rfl rfl rfl rfl (by rw [hz2]; omega) (by unfold maxLen; omega) (Nat.le_refl _) ?_; intro w1 hown1 hgrow1)
  have hr0 : OwnV w1 w.heap.size 9 (.slice (some ⟨w.heap.size, 0, none⟩) 4 4) (L.take 0 ++ List.replicate (4 - 0) (.string ⟨#[]⟩)) := by
    rw [madeT] at hown1
    unfold OwnV
    simpa using hown1
  have hb0 : Below w.heap.size w w1 := (Below.refl w.heap.size w).grown hgrow1 (Nat.le_refl _) (fun k hk => by cases hk)
  clear hown1 hgrow1
  go_loopw [8] (fun ti wr => ∃ k : Nat, k ≤ 4 ∧ ti = .int .i64 k ∧ Hid (OwnV wr w.heap.size 9 (.slice (some ⟨w.heap.size, 0, none⟩) 4 4) (L.take k ++ List.replicate (4 - k) (.string ⟨#[]⟩))) ∧ Below w.heap.size w wr ∧ w.heap.size < wr.heap.size) (fun ti _ => 4 - (intOf ti).toNat)
  case atStart => exact ⟨0, Nat.zero_le _, rfl, hide hr0, hb0, (hr0.lt _ rfl).2⟩
  case round =>
    obtain ⟨k, hk, rfl, HO, hb, hszz⟩ := hrel
    clear hr0 hb0
    by_cases hlt : k < 4
    · have hk' : (k : Int) < 4 := by omega
      have hk0 : (0 : Int) ≤ (k : Int) := by omega
      have c1 := hide (unhide C1 k)
      have c2 := hide (unhide C2 k)
      have HF := hide (fillV (z := .string ⟨#[]⟩) (unhide hLk k hlt) (unhide hLl))
      generalize F k = y at *
      generalize keysO s (k : Int) = K at *
      clear C1 C2
      go_wp2_with fail
      refine (unhide c1 wr).mono ?_
      rintro e w2 ⟨⟨v2, rfl, o2⟩, hb2⟩
      have hB2 := hb.trans (hb2.mono hb.size)
      have HO2 := hide ((unhide HO).below hb2)
      have hs2 := Nat.lt_of_lt_of_le hszz hb2.size
      replace c2 := hide (unhide c2 w2 v2 o2.rdv)
      clear hb2 hb HO hszz c1 o2
      go_wp2_with fail
      refine (unhide c2).mono ?_
      rintro e w4 ⟨rfl, hb4⟩
      have hB4 := hB2.trans (hb4.mono hB2.size)
      have HO4 := (unhide HO2).below hb4
      have hs4 := Nat.lt_of_lt_of_le hs2 hb4.size
      obtain ⟨u, hu⟩ : ∃ u, (L.take k ++ List.replicate (4 - k) (.string ⟨#[]⟩))[k]? = some u := ⟨_, List.getElem?_eq_getElem (by have := HO4.len; omega)⟩
      have cu := HO4.cell hu
      have cz := HO4.frozen k
      have ho2 := HO4.set k (.string y)
      rw [unhide HF] at ho2
      replace ho2 := hide ho2; replace HO4 := hide HO4
      clear hu hb4 hB2 HO2 hs2 c2
      go_wp2
      go_roundw
      case rel => exact ⟨k + 1, by omega, by go_num, ho2, hB4.setCell (p := ⟨w.heap.size, k, none⟩) (Nat.le_refl _) _, by simpa using hs4⟩
      case measure => simp [intOf]; omega
    · have hk' : ¬ (k : Int) < 4 := by omega
      obtain rfl : k = 4 := by omega
      have e2 : L.take 4 ++ List.replicate (4 - 4) (.string ⟨#[]⟩) = L := by
        rw [Nat.sub_self, List.take_of_length_le (by rw [unhide hLl]; exact Nat.le_refl _)]
        simp
      rw [e2] at HO
      go_wp2
      go_ret
      exact ⟨⟨_, rfl, unhide HO⟩, hb⟩
set_option maxRecDepth 20000 in
set_option maxHeartbeats 400000 in
theorem implPublicOf_any (s : ByteArray) (hs : s.size ≤ 2000000) (w : World) :
    Calls Try.prog 19 #[.string s] w fun e w' => e = .returned (.string (pubO s)) ∧ Below w.heap.size w w' := by
  have C1 := hide (fun W => publics_any s hs W)
  have C2 := hide (fun W v hr => implRootOf_any (lvsO s) v W hr (fun x hx => by rw [lvsO_size s x hx]; omega))
  have HK := hide (show rootB (lvsO s) = pubO s from rfl)
  rw [unhide HK] at C2
  generalize pubO s = p at *
  go_enter Try.func19, Try.ntmps19
  go_wp2_with fail
  refine (unhide C1 w).mono ?_
  rintro e w1 ⟨⟨v1, rfl, o1⟩, hb1⟩
  replace C2 := hide (unhide C2 w1 v1 o1.rdv)
  clear C1 o1
  go_wp2_with fail
  refine (unhide C2).mono ?_
  rintro e w2 ⟨rfl, hb2⟩
  have hB2 := hb1.trans (hb2.mono hb1.size)
  clear C2 hb1 hb2
  go_wp2
  go_ret
  exact ⟨rfl, hB2⟩
set_option maxRecDepth 20000 in
set_option maxHeartbeats 800000 in
theorem once_any (s : ByteArray) (leaf : Int) (m : ByteArray) (hs : s.size ≤ 2000000) (hm : m.size ≤ 4000000) (w : World) :
    Calls Try.prog 47 #[.agg #[.string s, .int .i64 leaf], .string m] w fun e w' => (∃ v, e = .returned v ∧ OwnV w' w.heap.size 9 v ((onceS (keysO s leaf) leaf m).map sv)) ∧ Below w.heap.size w w' := by
  have C1 := hide (fun W => keysOf_any s leaf hs W)
  have C2 := hide (fun W v hr => implOnceSign_any (keysO s leaf) leaf m v W hr (keysO_sum s leaf) hm)
  generalize (onceS (keysO s leaf) leaf m).map sv = L at *
  generalize (keysO s leaf).map sv = K at *
  go_enter Try.func47, Try.ntmps47
  go_wp2_with fail
  obtain ⟨W, hW, hP, hB, hs1⟩ := one_cb w #[.string s, .int .i64 leaf] 66
  rw [hW]
  clear hW
  have KS := hide (fun (W' : World) (h : Below W.heap.size W W') => (show W'.cell? ⟨w.heap.size, 0, none⟩ = some (.string s) ∧ W'.cell? ⟨w.heap.size, 1, none⟩ = some (.int .i64 leaf) from ⟨(hP.step h).cell 0 rfl, (hP.step h).cell 1 rfl⟩))
  have HT0 := (Below.refl W.heap.size W).drew
  clear hP
  go_region_held3 (fun W => W.cell? ⟨w.heap.size, 0, none⟩ = some (.string s) ∧ W.cell? ⟨w.heap.size, 1, none⟩ = some (.int .i64 leaf)) (first | exact unhide KS _ HT0 | exact unhide KS _ hT1 | exact unhide KS _ hT2 | fail) (first
    | (go_at_call 60; refine (unhide C1 _).mono ?_; rintro e w1 ⟨⟨v1, rfl, o1⟩, hb1⟩; have hT1 := HT0.trans (hb1.mono HT0.size); have c2 := hide (unhide C2 w1 v1 o1.rdv); clear hb1 o1)
    | (go_at_call 63; refine (unhide c2).mono ?_; rintro e w2 ⟨⟨v2, rfl, o2⟩, hb2⟩; have hT2 := hT1.trans (hb2.mono hT1.size); have o3 := hide (o2.low (Nat.le_trans hB.size hT1.size)); clear hb2 o2))
  all_goals
    have hF := hB.trans (hT2.mono hB.size)
    clear C1 C2 c2 KS hT1 hT2 HT0
    go_wp2
    go_ret
    exact ⟨⟨_, rfl, unhide o3⟩, hF⟩
set_option maxRecDepth 20000 in
set_option maxHeartbeats 800000 in
theorem path_any (s : ByteArray) (leaf : Int) (hs : s.size ≤ 2000000) (w : World) :
    Calls Try.prog 48 #[.agg #[.string s, .int .i64 leaf]] w fun e w' => (∃ v, e = .returned v ∧ OwnV w' w.heap.size 9 v ((pathL (lvsO s) leaf).map sv)) ∧ Below w.heap.size w w' := by
  have C1 := hide (fun W => publics_any s hs W)
  have C2 := hide (fun W v hr => implPathOf_any (lvsO s) leaf v W hr (fun x hx => by rw [lvsO_size s x hx]; omega))
  generalize (pathL (lvsO s) leaf).map sv = L at *
  generalize (lvsO s).map sv = K at *
  go_enter Try.func48, Try.ntmps48
  go_wp2_with fail
  obtain ⟨W, hW, hP, hB, hs1⟩ := one_cb w #[.string s, .int .i64 leaf] 66
  rw [hW]
  clear hW
  have KS := hide (fun (W' : World) (h : Below W.heap.size W W') => (show W'.cell? ⟨w.heap.size, 0, none⟩ = some (.string s) ∧ W'.cell? ⟨w.heap.size, 1, none⟩ = some (.int .i64 leaf) from ⟨(hP.step h).cell 0 rfl, (hP.step h).cell 1 rfl⟩))
  have HT0 := (Below.refl W.heap.size W).drew
  clear hP
  go_region_held3 (fun W => W.cell? ⟨w.heap.size, 0, none⟩ = some (.string s) ∧ W.cell? ⟨w.heap.size, 1, none⟩ = some (.int .i64 leaf)) (first | exact unhide KS _ HT0 | exact unhide KS _ hT1 | exact unhide KS _ hT2 | fail) (first
    | (go_at_call 44; refine (unhide C1 _).mono ?_; rintro e w1 ⟨⟨v1, rfl, o1⟩, hb1⟩; have hT1 := HT0.trans (hb1.mono HT0.size); have c2 := hide (unhide C2 w1 v1 o1.rdv); clear hb1 o1)
    | (go_at_call 12; refine (unhide c2).mono ?_; rintro e w2 ⟨⟨v2, rfl, o2⟩, hb2⟩; have hT2 := hT1.trans (hb2.mono hT1.size); have o3 := hide (o2.low (Nat.le_trans hB.size hT1.size)); clear hb2 o2))
  all_goals
    have hF := hB.trans (hT2.mono hB.size)
    clear C1 C2 c2 KS hT1 hT2 HT0
    go_wp2
    go_ret
    exact ⟨⟨_, rfl, unhide o3⟩, hF⟩
end Go.Proofs.Ytecononlghjepav

/- Keys of a tree by the project's own functions: whether a signature is right, and its text, over the loaded program. -/
namespace Go.Proofs.Ytecononlghjepav
open Go.RowKit
theorem sgOk_parts (lf : Int) (l1 l2 : List ByteArray) : sgOk ⟨lf, l1, l2⟩ = (decide (0 ≤ lf ∧ lf ≤ 3) && (decide (l1.length = 10) && four l1) && (decide (l2.length = 2) && four l2)) := by
  unfold sgOk sgSh
  by_cases h1 : 0 ≤ lf ∧ lf ≤ 3 <;> by_cases h2 : l1.length = 10 <;> by_cases h3 : l2.length = 2 <;> simp [h1, h2, h3]
theorem same_txt16 (a b : ByteArray) : (a.toList == b.toList) = decide (a = b) := by
  have e : ∀ x : ByteArray, x.toList = x.data.toList := fun x => ByteArray.toList_eq x
  by_cases h : a = b
  · subst h
    rw [decide_eq_true rfl]
    exact beq_self_eq_true _
  · rw [decide_eq_false h]
    apply beq_false_of_ne
    rw [e, e]
    exact fun h2 => h (ByteArray.ext (Array.toList_inj.1 h2))
set_option maxRecDepth 20000 in
set_option maxHeartbeats 800000 in
theorem areShorts_any (l : List ByteArray) (n : Nat) (hn : n ≤ 1000) (v : Value) (w : World) (hr : RdV w v (l.map sv)) :
    Calls Try.prog 49 #[v, .int .i64 (n : Int)] w fun e w' => e = .returned (.bool (decide (l.length = n) && four l)) ∧ w' = w := by
  obtain ⟨a, c, rfl, hc⟩ := hr.open
  clear hr
  replace hc : ∀ k, k < l.length → ∃ g o, a = some ⟨g, o, none⟩ ∧ g < w.heap.size ∧ w.cell? ⟨g, o + k, none⟩ = some (.string (bAt l k)) := fun k hk => hc k _ (bAt_get l k hk)
  rw [List.length_map]
  by_cases hl : l.length = n
  · have E1 := hide (fun (h3 : ∀ k, k < n → (bAt l k).size = 4) => show four l = true from four_bAt (l := l) fun k hk => h3 k (by omega))
    have E2 := hide (fun k (hk : k < n) (hx : ¬ (bAt l k).size = 4) => show four l = false from four_no (l := l) k (by omega) hx)
    rw [decide_eq_true hl, Bool.true_and, hl]
    rw [hl] at hc
    generalize four l = R at *
    generalize bAt l = F at *
    replace hc := hide hc
    clear hl
    go_enter Try.func49, Try.ntmps49
    go_wp2
    go_loopw [13] (fun ti wr => ∃ k : Nat, k ≤ n ∧ ti = .int .i64 (k : Int) ∧ Hid (∀ j, j < k → (F j).size = 4) ∧ wr = w) (fun ti _ => n - (intOf ti).toNat)
    case atStart => exact ⟨0, by omega, rfl, hide (fun j hj => by omega), rfl⟩
    case round =>
      obtain ⟨k, hk, rfl, HJ, rfl⟩ := hrel
      by_cases hlt : k < n
      · have hk' : (k : Int) < (n : Int) := by omega
        have hk0 : (0 : Int) ≤ (k : Int) := by omega
        obtain ⟨g, o, rfl, hg, d1⟩ := unhide hc k hlt
        have HX := hide (unhide E2 k hlt)
        have HN := hide (fun (h : (F k).size = 4) j (hj : j < k + 1) => show (F j).size = 4 from by
          by_cases e : j = k
          · subst e; exact h
          · exact unhide HJ j (by omega))
        generalize F k = x at *
        clear hc E1 E2
        by_cases h4 : x.size = 4
        · have h4' : (x.size : Int) = 4 := by omega
          go_wp2
          exact ⟨⟨k + 1, by omega, by go_num, hide (unhide HN h4), by first | rfl | trivial⟩, by simp [intOf]; omega⟩
        · have h4' : ¬ (x.size : Int) = 4 := by omega
          go_wp2
          go_ret
          exact ⟨by rw [unhide HX h4]; rfl, rfl⟩
      · have hk' : ¬ (k : Int) < (n : Int) := by omega
        obtain rfl : k = n := by omega
        have e1 := unhide E1 (unhide HJ)
        subst e1
        clear hc E1 E2 HJ
        go_wp2
        go_ret
        exact ⟨rfl, rfl⟩
  · have hl' : ¬ (l.length : Int) = (n : Int) := by omega
    rw [decide_eq_false hl, Bool.false_and]
    clear hc
    go_enter Try.func49, Try.ntmps49
    go_wp2
    go_ret
    exact ⟨rfl, rfl⟩
set_option maxRecDepth 20000 in
set_option maxHeartbeats 800000 in
theorem implSigOk_any (s : Sg) (v : Value) (w : World) (hr : RdSg w v s) :
    Calls Try.prog 28 #[v] w fun e w' => e = .returned (.bool (sgOk s)) ∧ Below w.heap.size w w' := by
  obtain ⟨lf, l1, l2⟩ := s
  obtain ⟨v1, v2, rfl, r1, r2, q1, q2⟩ := hr
  have C0 := hide (fun W => isLeaf_any lf W)
  have C1 := hide (fun (W : World) (h : Below w.heap.size w W) => areShorts_any l1 10 (by omega) v1 W (r1.below h))
  have C2 := hide (fun (W : World) (h : Below w.heap.size w W) => areShorts_any l2 2 (by omega) v2 W (r2.below h))
  have E := sgOk_parts lf l1 l2
  rw [E]
  obtain ⟨a1, c1, rfl⟩ := r1.shape
  obtain ⟨a2, c2, rfl⟩ := r2.shape
  unfold sgv
  show Calls _ _ #[.agg #[.int .i64 lf, .slice a1 (l1.map sv).length c1, .slice a2 (l2.map sv).length c2]] _ _
  generalize ((Sg.mk lf l1 l2).once.map sv).length = k1 at *
  generalize ((Sg.mk lf l1 l2).path.map sv).length = k2 at *
  generalize (decide (l1.length = 10) && four l1) = b1 at *
  generalize (decide (l2.length = 2) && four l2) = b2 at *
  generalize decide (0 ≤ lf ∧ lf ≤ 3) = b0 at *
  clear r1 r2 q1 q2 E
  go_enter Try.func28, Try.ntmps28
  go_wp2_with fail
  obtain ⟨W, hW, hP, hB, hs1⟩ := one_cb w #[.int .i64 lf, .slice a1 k1 c1, .slice a2 k2 c2] 33
  rw [hW]
  clear hW
  have p0 := hP.cell 0 (v := .int .i64 lf) rfl
  have p1 := hP.cell 1 (v := .slice a1 k1 c1) rfl
  have p2 := hP.cell 2 (v := .slice a2 k2 c2) rfl
  replace C1 := hide (unhide C1 W hB)
  replace C2 := hide (unhide C2 W hB)
  go_wp2_with fail
  refine (unhide C0 W).mono ?_
  rintro e w1 ⟨rfl, hw1⟩
  have hw2 := hw1.symm
  subst hw2
  clear hw1 C0
  cases b0 with
  | false =>
    go_wp2
    go_ret
    exact ⟨rfl, hB⟩
  | true =>
    go_wp2_with fail
    refine (unhide C1).mono ?_
    rintro e w1 ⟨rfl, hw1⟩
    have hw2 := hw1.symm
    subst hw2
    clear hw1
    cases b1 with
    | false =>
      go_wp2
      go_ret
      exact ⟨rfl, hB⟩
    | true =>
      go_wp2_with fail
      refine (unhide C2).mono ?_
      rintro e w1 ⟨rfl, hw1⟩
      have hw2 := hw1.symm
      subst hw2
      clear hw1
      go_wp2
      go_ret
      exact ⟨by cases b2 <;> rfl, hB⟩
set_option maxRecDepth 20000 in
set_option maxHeartbeats 800000 in
theorem implCheckSig_any (p m : ByteArray) (s : Sg) (v : Value) (w : World) (hr : RdSg w v s) (hm : m.size ≤ 1048576) :
    Calls Try.prog 30 #[.string p, .string m, v] w fun e w' => e = .returned (.bool (chkB p m s)) ∧ Below w.heap.size w w' := by
  have C0 := hide (fun (W : World) (h : Below w.heap.size w W) => implSigOk_any s v W (hr.below h))
  obtain ⟨lf, l1, l2⟩ := s
  obtain ⟨v1, v2, rfl, r1, r2, q1, q2⟩ := hr
  cases ho : sgOk ⟨lf, l1, l2⟩ with
  | true =>
    rw [ho] at C0
    have f1 := sgOk_once ho
    have f2 := sgOk_path ho
    obtain ⟨_, k1, k2⟩ := sgOk_shape ho
    have hF : (onceF l1 lf m).size ≤ 4 := by
      unfold onceF
      rw [if_pos (show l1.length = 10 from k1), chopB_size]
      exact Nat.le_refl _
    have C1 := hide (fun (W : World) (h : Below w.heap.size w W) => implOnceFound_any l1 lf m v1 W (r1.below h) (by rw [sum_four16 l1 (four_yes f1)]; have : l1.length = 10 := k1; omega) (by omega))
    have C2 := hide (fun (W : World) (h : Below w.heap.size w W) => implRootBy_any (onceF l1 lf m) lf l2 v2 W (by omega) (r2.below h) (fun x hx => by rw [four_yes f2 x hx]; omega))
    have EC := hide (show chkB p m ⟨lf, l1, l2⟩ = decide (rootBy (onceF l1 lf m) lf l2 = p) by unfold chkB fndB; rw [ho]; rfl)
    rw [unhide EC]
    obtain ⟨a1, c1, rfl⟩ := r1.shape
    obtain ⟨a2, c2, rfl⟩ := r2.shape
    unfold sgv at C0 ⊢
    clear hF
    generalize onceF l1 lf m = fo at *
    generalize rootBy fo lf l2 = ro at *
    clear r1 r2 q1 q2 k1 k2 f1 f2 ho EC
    show Calls _ _ #[_, _, .agg #[.int .i64 lf, .slice a1 (l1.map sv).length c1, .slice a2 (l2.map sv).length c2]] _ _
    generalize ((Sg.mk lf l1 l2).once.map sv).length = k1 at *
    generalize ((Sg.mk lf l1 l2).path.map sv).length = k2 at *
    go_enter Try.func30, Try.ntmps30
    go_wp2_with fail
    obtain ⟨W, hW, hP, hB, hs1⟩ := one_cb w #[.int .i64 lf, .slice a1 k1 c1, .slice a2 k2 c2] 33
    rw [hW]
    clear hW
    have p0 := hP.cell 0 (v := .int .i64 lf) rfl
    have p1 := hP.cell 1 (v := .slice a1 k1 c1) rfl
    have p2 := hP.cell 2 (v := .slice a2 k2 c2) rfl
    go_wp2_with fail
    refine (unhide C0 W hB).mono ?_
    rintro e w1 ⟨rfl, hb1⟩
    have hB1 := hB.trans (hb1.mono hB.size)
    have hP1 := hP.step hb1
    clear p0 p1 p2 hb1 hP hs1 C0 hB
    go_wp2_with fail
    have KS := hide (fun (W' : World) (h : Below w1.heap.size w1 W') => (show W'.cell? ⟨w.heap.size, 0, none⟩ = some (.int .i64 lf) ∧ W'.cell? ⟨w.heap.size, 1, none⟩ = some (.slice a1 k1 c1) ∧ W'.cell? ⟨w.heap.size, 2, none⟩ = some (.slice a2 k2 c2) from ⟨(hP1.step h).cell 0 rfl, (hP1.step h).cell 1 rfl, (hP1.step h).cell 2 rfl⟩))
    have C1' := hide (fun (W' : World) (h : Below w1.heap.size w1 W') => unhide C1 W' (hB1.trans (h.mono hB1.size)))
    have C2' := hide (fun (W' : World) (h : Below w1.heap.size w1 W') => unhide C2 W' (hB1.trans (h.mono hB1.size)))
    have HT0 := (Below.refl w1.heap.size w1).drew
    clear C1 C2 hP1
    go_region_held3 (fun W => W.cell? ⟨w.heap.size, 0, none⟩ = some (.int .i64 lf) ∧ W.cell? ⟨w.heap.size, 1, none⟩ = some (.slice a1 k1 c1) ∧ W.cell? ⟨w.heap.size, 2, none⟩ = some (.slice a2 k2 c2)) (first | exact unhide KS _ HT0 | exact unhide KS _ hT2 | exact unhide KS _ hT3 | fail) (first
      | (go_at_call 51; refine (unhide C1' _ HT0).mono ?_; rintro e w2 ⟨rfl, hb2⟩; have hT2 := HT0.trans (hb2.mono HT0.size); clear hb2)
      | (go_at_call 17; refine (unhide C2' _ hT2).mono ?_; rintro e w3 ⟨rfl, hb3⟩; have hT3 := hT2.trans (hb3.mono hT2.size); clear hb3))
    all_goals
      have hF := hB1.trans (hT3.mono hB1.size)
      clear C1' C2' KS hT2 HT0
      go_wp2
      go_ret
      exact ⟨by show Ending.returned (.bool (ro.toList == p.toList)) = _; rw [same_txt16], hF⟩
  | false =>
    rw [ho] at C0
    have EC := hide (show chkB p m ⟨lf, l1, l2⟩ = false by unfold chkB; rw [ho]; rfl)
    rw [unhide EC]
    obtain ⟨a1, c1, rfl⟩ := r1.shape
    obtain ⟨a2, c2, rfl⟩ := r2.shape
    unfold sgv at C0 ⊢
    clear r1 r2 q1 q2 ho EC
    show Calls _ _ #[_, _, .agg #[.int .i64 lf, .slice a1 (l1.map sv).length c1, .slice a2 (l2.map sv).length c2]] _ _
    generalize ((Sg.mk lf l1 l2).once.map sv).length = k1 at *
    generalize ((Sg.mk lf l1 l2).path.map sv).length = k2 at *
    go_enter Try.func30, Try.ntmps30
    go_wp2_with fail
    obtain ⟨W, hW, hP, hB, hs1⟩ := one_cb w #[.int .i64 lf, .slice a1 k1 c1, .slice a2 k2 c2] 33
    rw [hW]
    clear hW
    have p0 := hP.cell 0 (v := .int .i64 lf) rfl
    have p1 := hP.cell 1 (v := .slice a1 k1 c1) rfl
    have p2 := hP.cell 2 (v := .slice a2 k2 c2) rfl
    go_wp2_with fail
    refine (unhide C0 W hB).mono ?_
    rintro e w1 ⟨rfl, hb1⟩
    have hB1 := hB.trans (hb1.mono hB.size)
    clear p0 p1 p2 hb1 hP hs1 C0 hB
    go_wp2
    go_ret
    exact ⟨rfl, hB1⟩
theorem cat_data (t : ByteArray) (f : Nat → ByteArray) (k : Nat) : (catT t f k).data.toList = t.data.toList ++ ((List.range k).map fun i => (f i).data.toList).flatten := by
  induction k with
  | zero => simp [catT]
  | succ k ih =>
    show (catT t f k ++ f k).data.toList = _
    rw [ByteArray.data_append, Array.toList_append, ih, List.range_succ, List.map_append, List.flatten_append, List.append_assoc]
    simp
theorem map_bAt {α : Type} (l : List ByteArray) (g : ByteArray → α) : l.map g = (List.range l.length).map fun i => g (bAt l i) := by
  apply List.ext_getElem
  · simp
  · intro i h1 h2
    rw [List.getElem_map, List.getElem_map, List.getElem_range]
    unfold bAt
    rw [List.getD_eq_getElem?_getD, List.getElem?_eq_getElem (by simpa using h1)]
    rfl
theorem cat_two (t : ByteArray) (f : Nat → ByteArray) (k : Nat) : catT t f k = t ++ catT ⟨#[]⟩ f k := by
  apply barr_eq
  rw [cat_data, ByteArray.data_append, Array.toList_append, cat_data]
  rfl
end Go.Proofs.Ytecononlghjepav

/- Keys of a tree by the project's own functions: a signature that is made, and one that is read, over the loaded program. -/
namespace Go.Proofs.Ytecononlghjepav
open Go.RowKit
theorem cutI16 (T : ByteArray) (i j : Nat) (w : World) (h1 : i ≤ j) (h2 : j ≤ T.size) : (Instr.slice 9 (.string T) (some (.int .i64 (i : Int))) (some (.int .i64 (j : Int))) none).run Try.prog w = .ok (.string (T.extract i j)) w := by
  rw [run_slice_string_if w 9 T .i64 .i64 (i : Int) (j : Int) Try.underlying9, if_pos (by omega), if_pos (by omega)]
  rfl
def prI (f : Nat → ByteArray) (k : Nat) : List ByteArray := (List.range k).map f
theorem prI_len (f : Nat → ByteArray) (k : Nat) : (prI f k).length = k := by unfold prI; rw [List.length_map, List.length_range]
theorem prI_succ (f : Nat → ByteArray) (k : Nat) : prI f (k + 1) = prI f k ++ [f k] := by unfold prI; rw [List.range_succ, List.map_append]; rfl
set_option maxRecDepth 20000 in
set_option maxHeartbeats 800000 in
theorem implSignAt_any (s : ByteArray) (leaf : Int) (m : ByteArray) (hs : s.size ≤ 2000000) (hm : m.size ≤ 1048576) (w : World) :
    Calls Try.prog 21 #[.string s, .int .i64 leaf, .string m] w fun e w' => (∃ v, e = .returned (.tuple #[v, .bool (decide (0 ≤ leaf ∧ leaf ≤ 3))]) ∧ OwnSg w' w.heap.size v (sgnS s leaf m)) ∧ Below w.heap.size w w' := by
  have C0 := hide (fun W => isLeaf_any leaf W)
  by_cases h : 0 ≤ leaf ∧ leaf ≤ 3
  · have C1 := hide (fun W => once_any s leaf m hs (by omega) W)
    have C2 := hide (fun W => path_any s leaf hs W)
    have ES := hide (show sgnS s leaf m = ⟨leaf, onceS (keysO s leaf) leaf m, pathL (lvsO s) leaf⟩ by unfold sgnS; rw [if_pos h])
    rw [unhide ES, decide_eq_true h]
    rw [decide_eq_true h] at C0
    generalize onceS (keysO s leaf) leaf m = L1 at *
    generalize pathL (lvsO s) leaf = L2 at *
    clear ES h
    go_enter Try.func21, Try.ntmps21
    go_wp2_with fail
    obtain ⟨W, hW, hR, hB, hs1⟩ := one_cb w #[.int .i64 0, .slice none 0 0, .slice none 0 0] 33
    rw [hW]
    clear hW
    refine (unhide C0 W).mono ?_
    rintro e w1 ⟨rfl, hw1⟩
    have hw2 := hw1.symm
    subst hw2
    clear hw1 C0
    go_wp2_with fail
    obtain ⟨V, hV, hK, hB2, hs2⟩ := one_cb W #[.string s, .int .i64 leaf] 66
    rw [hV]
    clear hV
    have hRV := hR.step hB2
    have hBV := hB.trans (hB2.mono hB.size)
    have hbW : w.heap.size ≠ W.heap.size := by omega
    have hwV : w.heap.size ≤ V.heap.size := by omega
    have KS := hide (fun (W' : World) (h : Below V.heap.size V W') => (show W'.cell? ⟨W.heap.size, 0, none⟩ = some (.string s) ∧ W'.cell? ⟨W.heap.size, 1, none⟩ = some (.int .i64 leaf) from ⟨(hK.step h).cell 0 rfl, (hK.step h).cell 1 rfl⟩))
    have KF := hide (fun (W' : World) (h : Below V.heap.size V W') (x0 x1 x2 : Value) => (show ((( W'.setCell ⟨w.heap.size, 0, none⟩ x0).setCell ⟨w.heap.size, 1, none⟩ x1).setCell ⟨w.heap.size, 2, none⟩ x2).cell? ⟨W.heap.size, 0, none⟩ = some (.string s) ∧ (((W'.setCell ⟨w.heap.size, 0, none⟩ x0).setCell ⟨w.heap.size, 1, none⟩ x1).setCell ⟨w.heap.size, 2, none⟩ x2).cell? ⟨W.heap.size, 1, none⟩ = some (.int .i64 leaf) from
      have hq := ((((hK.step h).set_other (h := w.heap.size) (k := 0) (by omega) x0).set_other (h := w.heap.size) (k := 1) (by omega) x1).set_other (h := w.heap.size) (k := 2) (by omega) x2)
      ⟨hq.cell 0 rfl, hq.cell 1 rfl⟩))
    have HR := hide (fun (W' : World) (h : Below V.heap.size V W') => hRV.step h)
    have HT0 := (Below.refl V.heap.size V).drew
    clear hK hR hRV hB hB2 hs1
    go_region_held3 (fun W' => W'.cell? ⟨W.heap.size, 0, none⟩ = some (.string s) ∧ W'.cell? ⟨W.heap.size, 1, none⟩ = some (.int .i64 leaf)) (first | exact unhide KS _ HT0 | exact unhide KF _ hT2 _ _ _ | exact unhide KS _ hT2 | exact unhide KS _ hT1 | fail) (first
      | (go_at_call 47; refine (unhide C1 _).mono ?_; rintro e w1 ⟨⟨v1, rfl, o1⟩, hb1⟩; have hT1 := HT0.trans (hb1.mono HT0.size); have s1 := o1.shape; obtain ⟨a1, c1, rfl⟩ := s1; replace o1 := hide o1; generalize hn1 : (L1.map sv).length = n1 at *)
      | (go_at_call 48; refine (unhide C2 _).mono ?_; rintro e w2 ⟨⟨v2, rfl, o2⟩, hb2⟩; have hT2 := hT1.trans (hb2.mono hT1.size); have s2 := o2.shape; obtain ⟨a2, c2, rfl⟩ := s2; replace o2 := hide o2; generalize hn2 : (L2.map sv).length = n2 at *; have hR2 := unhide HR _ hT2; have r0 := hR2.cell 0 (v := .int .i64 0) rfl; have r1 := hR2.cell 1 (v := .slice none 0 0) rfl; have r2 := hR2.cell 2 (v := .slice none 0 0) rfl; have g0 := hR2.frozen 0; have g1 := hR2.frozen 1; have g2 := hR2.frozen 2; replace hR2 := hide hR2))
    all_goals
      have hsT : V.heap.size ≤ w1.heap.size := hT1.size
      have o5 := hide ((unhide o1).below hb2)
      have ap := hide (show ∀ k, (Value.slice a1 n1 c1).ownBlock = some k → (Value.slice a2 n2 c2).ownBlock ≠ some k from fun k hk hk2 => by
        have h1 := ((unhide o1).lt k hk).2
        have h2 := ((unhide o2).lt k hk2).1
        omega)
      have of5 := hide ((unhide hR2).off (unhide o5) (by decide))
      have of4 := hide ((unhide hR2).off (unhide o2) (by decide))
      have hB4 := hBV.trans (hT2.mono hBV.size)
      have o4' := hide ((unhide o2).low (Nat.le_trans hwV hsT))
      have o5' := hide ((unhide o5).low (show w.heap.size ≤ V.drew.heap.size from hwV))
      have hF := hide ((((unhide hR2).set 0 (.int .i64 leaf)).set 1 (.slice a1 n1 c1)).set 2 (.slice a2 n2 c2))
      have hBF := hide (((hB4.setCell (p := ⟨w.heap.size, 0, none⟩) (Nat.le_refl _) (.int .i64 leaf)).setCell (p := ⟨w.heap.size, 1, none⟩) (Nat.le_refl _) (.slice a1 n1 c1)).setCell (p := ⟨w.heap.size, 2, none⟩) (Nat.le_refl _) (.slice a2 n2 c2))
      have o6 := hide ((((unhide o5').setO w.heap.size 0 (.int .i64 leaf) (unhide of5)).setO w.heap.size 1 (.slice a1 n1 c1) (unhide of5)).setO w.heap.size 2 (.slice a2 n2 c2) (unhide of5))
      have o7 := hide ((((unhide o4').setO w.heap.size 0 (.int .i64 leaf) (unhide of4)).setO w.heap.size 1 (.slice a1 n1 c1) (unhide of4)).setO w.heap.size 2 (.slice a2 n2 c2) (unhide of4))
      clear o1 o2 o5 o4' o5' of5 of4 hB4 hR2 KS KF HR HT0 hT1 hT2 hb1 hb2 r0 r1 r2 g0 g1 g2 C1 C2
      go_wp2
      exact bodyPost_ret (results_cb_tmp (by exact Try.results21) _ _ _ _ _ _ rfl (unhide hF) Try.underlying33 (by kernel_rfl)) rfl ⟨⟨_, rfl, _, _, rfl, unhide o6, unhide o7, unhide ap⟩, unhide hBF⟩
  · have ES := hide (show sgnS s leaf m = ⟨0, [], []⟩ by unfold sgnS; rw [if_neg h])
    rw [unhide ES, decide_eq_false h]
    rw [decide_eq_false h] at C0
    clear ES h
    go_enter Try.func21, Try.ntmps21
    go_wp2_with fail
    obtain ⟨W, hW, hR, hB, hs1⟩ := one_cb w #[.int .i64 0, .slice none 0 0, .slice none 0 0] 33
    rw [hW]
    clear hW
    refine (unhide C0 W).mono ?_
    rintro e w1 ⟨rfl, hw1⟩
    have hw2 := hw1.symm
    subst hw2
    clear hw1 C0
    have r0 := hR.cell 0 (v := .int .i64 0) rfl
    have r1 := hR.cell 1 (v := .slice none 0 0) rfl
    have r2 := hR.cell 2 (v := .slice none 0 0) rfl
    have g0 := hR.frozen 0
    have g1 := hR.frozen 1
    have g2 := hR.frozen 2
    go_wp2
    have hF := hide (((hR.set 0 (.int .i64 0)).set 1 (.slice none 0 0)).set 2 (.slice none 0 0))
    have hBF := hide (((hB.setCell (p := ⟨w.heap.size, 0, none⟩) (Nat.le_refl _) (.int .i64 0)).setCell (p := ⟨w.heap.size, 1, none⟩) (Nat.le_refl _) (.slice none 0 0)).setCell (p := ⟨w.heap.size, 2, none⟩) (Nat.le_refl _) (.slice none 0 0))
    exact bodyPost_ret (results_cb_tmp (by exact Try.results21) _ _ _ _ _ _ rfl (unhide hF) Try.underlying33 (by kernel_rfl)) rfl ⟨⟨_, rfl, _, _, rfl, OwnV.nil _ _ _, OwnV.nil _ _ _, fun k hk => by cases hk⟩, unhide hBF⟩
end Go.Proofs.Ytecononlghjepav

