/- Merged: TrI5, TrI6, TrI7, ArgTxs, LawTre. -/
import Derived.Test.YtljjajbkaffofavMga1
import Derived.Test.YtljjajbkaffofavMga2
import Derived.Test.YtljjajbkaffofavMga3
import Derived.Test.YtljjajbkaffofavMga4
import Derived.Test.YtljjajbkaffofavMga5
import Derived.Test.YtljjajbkaffofavMga6
import Derived.Test.YtljjajbkaffofavMga7
import Derived.LaidEqlPtr
import Derived.Lib.Builder
import Derived.Test.YtljjajbkaffofavProg
import Derived.SliceStrings
import Derived.ChangeSame
import Derived.OpenShut
import Derived.ShutString
import Derived.ProofKit
/- Trees by the project's own functions: levels, roots and paths, over the loaded program. -/
namespace Go.Proofs.Ytljjajbkaffofav
open Go.RowKit
/-- How far a tree of four leaves is joined. -/
def Stg (w : World) (v : Value) (gs : List Nat) (l : List ByteArray) : Nat → World → Value → Prop
  | 0, wr, tv => wr = w ∧ tv = v
  | 1, wr, tv => ∃ gs1, Nds wr w.heap.size tv gs1 (lvs l 1) ∧ Lnk wr gs gs1 l 2 ∧ KpS (fun q => q ∈ gs) w wr
  | 2, wr, tv => ∃ gs1 gs2, Nds wr w.heap.size tv gs2 (lvs l 2) ∧ Lnk wr gs gs1 l 2 ∧ Lnk wr gs1 gs2 (lvs l 1) 1 ∧ (∀ i, i < 2 → gAt gs1 i < gAt gs2 0 ∧ w.heap.size ≤ gAt gs1 i) ∧ KpS (fun q => q ∈ gs) w wr
  | _, _, _ => False
theorem Stg.shape {w : World} {base : Nat} {v : Value} {gs : List Nat} {l : List ByteArray} (hN : Nds w base v gs l) (hl : l.length = 4) {k : Nat} {wr : World} {tv : Value} (h : Stg w v gs l k wr tv) : ∃ a c n, tv = .slice a n c ∧ n = 4 / 2 ^ k ∧ k ≤ 2 := by
  rcases k with _ | _ | _ | k
  · obtain ⟨rfl, rfl⟩ := h
    obtain ⟨a, c, e⟩ := hN.shape
    exact ⟨a, c, _, e, hl, by omega⟩
  · obtain ⟨gs1, h1, _⟩ := h
    obtain ⟨a, c, e⟩ := h1.shape
    exact ⟨a, c, _, e, lvs_len l hl 1, by omega⟩
  · obtain ⟨gs1, gs2, h1, _⟩ := h
    obtain ⟨a, c, e⟩ := h1.shape
    exact ⟨a, c, _, e, lvs_len l hl 2, by omega⟩
  · exact h.elim
theorem stg_up {w : World} {base : Nat} {v : Value} {gs : List Nat} {l : List ByteArray} (hN : Nds w base v gs l) (hl : l.length = 4) (hs : ∀ x ∈ l, x.size ≤ 1048576) (k : Nat) (hk : k < 2) (wr : World) (tv : Value) (h : Stg w v gs l k wr tv) :
    Calls Try.prog 34 #[.int .i64 ((k + 1 : Nat) : Int), tv] wr fun e w' => ∃ v', e = .returned v' ∧ Stg w v gs l (k + 1) w' v' := by
  rcases k with _ | _ | k
  · obtain ⟨rfl, rfl⟩ := h
    refine (nodesAbove_any ((0 + 1 : Nat) : Int) l gs base tv wr hN hs (by omega)).mono ?_
    rintro e w' ⟨v', rfl, gs1, h1, h2, h3⟩
    rw [hl] at h2
    exact ⟨v', rfl, gs1, h1, h2, h3⟩
  · obtain ⟨gs1, h1, h2, h3⟩ := h
    have hl1 : (lvs l 1).length = 2 := lvs_len l hl 1
    refine (nodesAbove_any ((0 + 1 + 1 : Nat) : Int) (lvs l 1) gs1 w.heap.size tv wr h1 (lvs_size l _ (by omega) hs 1) (by omega)).mono ?_
    rintro e w' ⟨v', rfl, gs2, n1, n2, n3⟩
    rw [hl1] at n2
    have hsz := h3.size
    refine ⟨v', rfl, gs1, gs2, n1.low hsz, ?_, n2, ?_, h3.trans2 n3 (fun i hi hm => by have := (h1.mem i hm).1; omega)⟩
    · intro i hi
      obtain ⟨c1, c2⟩ := h2 i hi
      have g1 := (hN.mem _ (gAt_mem gs (2 * i) (by rw [hN.2.1]; omega))).2
      have g2 := (hN.mem _ (gAt_mem gs (2 * i + 1) (by rw [hN.2.1]; omega))).2
      exact ⟨c1.kps n3 (fun hm => by have := (h1.mem _ hm).1; omega), c2.kps n3 (fun hm => by have := (h1.mem _ hm).1; omega)⟩
    · intro i hi
      have g1 := h1.mem _ (gAt_mem gs1 i (by rw [h1.2.1, hl1]; omega))
      have hl2 : (lvL ((0 + 1 + 1 : Nat) : Int) (lvs l 1)).length = 1 := by rw [lvL_len, hl1]
      have g2 := n1.mem _ (gAt_mem gs2 0 (by rw [n1.2.1, hl2]; omega))
      exact ⟨by omega, g1.1⟩
  · omega
/-- What is left behind a tree of four leaves. -/
def Trd (w w' : World) (gs gs1 : List Nat) (l : List ByteArray) (g : Nat) : Prop :=
  Lnk w' gs gs1 l 2 ∧ Lnk w' gs1 [g] (lvs l 1) 1 ∧ (∃ b u, CB w' g 48 (tn (bAt (lvs l 2) 0) b u)) ∧ (∀ i, i < 2 → gAt gs1 i < g ∧ w.heap.size ≤ gAt gs1 i) ∧ KpS (fun q => q ∈ gs) w w'
set_option maxRecDepth 20000 in
set_option maxHeartbeats 1000000 in
theorem rootAbove_any (l : List ByteArray) (gs : List Nat) (base : Nat) (v : Value) (w : World) (hN : Nds w base v gs l) (hl : l.length = 4) (hs : ∀ x ∈ l, x.size ≤ 1048576) :
    Calls Try.prog 27 #[v] w fun e w' => ∃ g, e = .returned (pv g) ∧ ∃ gs1, Trd w w' gs gs1 l g := by
  have HS := hide (fun (k : Nat) (wr : World) (tv : Value) (h : Stg w v gs l k wr tv) => h.shape hN hl)
  have HU := hide (fun (k : Nat) (hk : k < 2) (wr : World) (tv : Value) (h : Stg w v gs l k wr tv) => stg_up hN hl hs k hk wr tv h)
  have HE := hide (show ∀ wr a n c, Stg w v gs l 2 wr (.slice a n c) → ∃ gv g, a = some ⟨gv, 0, none⟩ ∧ wr.cell? ⟨gv, 0, none⟩ = some (.pointer (some ⟨g, 0, none⟩)) ∧ ∃ gs1, Trd w wr gs gs1 l g from fun wr a n c h => by
    obtain ⟨gs1, gs2, n1, n2, n3, n4, n5⟩ := h
    have hl2 : (lvs l 2).length = 1 := lvs_len l hl 2
    obtain ⟨gv, cc, e, hlt⟩ := n1.row hl2 (by omega)
    obtain ⟨rfl, rfl, rfl⟩ := Value.slice.inj e
    have hg2 : gs2.length = 1 := by rw [n1.2.1, hl2]
    obtain ⟨g, rfl⟩ : ∃ g, gs2 = [g] := List.length_eq_one_iff.1 hg2
    refine ⟨gv, g, rfl, n1.1.cell (gAt_get [g] 0 (by omega)), gs1, n2, n3, ?_, n4, n5⟩
    exact (n1.2.2.2 0 (by omega)).2)
  have H0 := hide (show Stg w v gs l 0 w v from ⟨rfl, rfl⟩)
  clear hN hs
  generalize Stg w v gs l = St at *
  go_enter Try.func27, Try.ntmps27
  go_wp2
  go_loopw [0, 3] (fun tv ti wr => ∃ k : Nat, ti = .int .i64 ((k + 1 : Nat) : Int) ∧ Hid (St k wr tv)) (fun _ ti _ => 5 - (intOf ti).toNat)
  case atStart => exact ⟨0, rfl, H0⟩
  case round =>
    clear H0
    obtain ⟨k, rfl, HR⟩ := hrel
    obtain ⟨a, c, n, rfl, hn, hk2⟩ := unhide HS k wr _ (unhide HR)
    by_cases hlt : k < 2
    · have hn1 : n > 1 := by
        rw [hn]
        rcases show k = 0 ∨ k = 1 by omega with rfl | rfl <;> decide
      have hn2 : (1 : Int) < (n : Int) := by omega
      have c1 := hide (unhide HU k hlt wr _ (unhide HR))
      replace hn := hide hn
      clear HR HU HS HE
      go_wp2_with fail
      refine (unhide c1).mono ?_
      rintro e w1 ⟨v', rfl, h1⟩
      have HR1 := hide h1
      clear c1 h1
      go_wp2
      exact ⟨⟨k + 1, by go_num, HR1⟩, by simp [intOf]; omega⟩
    · obtain rfl : k = 2 := by omega
      have hn1 : n = 1 := by rw [hn]
      subst hn1
      obtain ⟨gv, g, rfl, d, gs1, ht⟩ := unhide HE wr _ _ _ (unhide HR)
      replace ht := hide ht
      clear HR HU HS HE hn
      go_wp2
      go_ret
      exact ⟨g, rfl, gs1, unhide ht⟩
end Go.Proofs.Ytljjajbkaffofav

/- Trees by the project's own functions: roots and paths, over the loaded program. -/
namespace Go.Proofs.Ytljjajbkaffofav
open Go.RowKit
theorem sums_le (l : List ByteArray) (h : l.length + sumS l ≤ 1048576) : ∀ x ∈ l, x.size ≤ 1048576 := by
  intro x hx
  obtain ⟨i, hi, rfl⟩ := List.getElem_of_mem hx
  have := sumS_at l i hi
  omega
theorem cell_lt15 {w : World} {g o : Nat} {v : Value} (h : w.cell? ⟨g, o, none⟩ = some v) : g < w.heap.size := by
  unfold World.cell? at h
  by_cases hg : g < w.heap.size
  · exact hg
  · rw [Array.getElem?_eq_none (show w.heap.size ≤ g by omega)] at h
    cases h
def lenOf15 : Value → Nat
  | .slice _ n _ => n
  | _ => 0
set_option maxRecDepth 20000 in
theorem isLeaf_any (z : Int) (w : World) : Calls Try.prog 25 #[.int .i64 z] w fun e w' => e = .returned (.bool (decide (0 ≤ z ∧ z ≤ 3))) ∧ w' = w := by
  by_cases h : 0 ≤ z
  · by_cases h3 : z < 4
    · have e : decide (0 ≤ z ∧ z ≤ 3) = true := decide_eq_true (by omega)
      rw [e]
      go_enter Try.func25, Try.ntmps25
      go_wp2
      go_ret
      exact ⟨rfl, rfl⟩
    · have e : decide (0 ≤ z ∧ z ≤ 3) = false := decide_eq_false (by omega)
      rw [e]
      go_enter Try.func25, Try.ntmps25
      go_wp2
      go_ret
      exact ⟨rfl, rfl⟩
  · have e : decide (0 ≤ z ∧ z ≤ 3) = false := decide_eq_false (by omega)
    rw [e]
    go_enter Try.func25, Try.ntmps25
    go_wp2
    go_ret
    exact ⟨rfl, rfl⟩
set_option maxRecDepth 20000 in
theorem stringsClone15_any (s : ByteArray) (w : World) (hs : s.size ≤ 4000000) :
    Calls Try.prog 28 #[.string s] w fun e w' => e = .returned (.string s) ∧ Below w.heap.size w w' := by
  have hlim : s.size ≤ 281474976710656 := by omega
  have C := hide (Try.stringslite_Clone s w hlim)
  go_enter Try.func28, Try.ntmps28
  go_wp2_with fail
  refine (unhide C).mono ?_
  rintro e w2 ⟨rfl, hb2⟩
  go_wp2
  go_ret
  exact ⟨rfl, hb2⟩
theorem infoNode15 : ∃ i, Try.prog.info? 48 = some i ∧ i.size ≠ 0 := by
  have h : (Try.prog.info? 48).map (fun i => i.size) = some 3 := by kernel_rfl
  cases hi : Try.prog.info? 48 with
  | none => rw [hi] at h; cases h
  | some i => rw [hi] at h; exact ⟨i, rfl, by have h3 : i.size = 3 := Option.some.inj h; omega⟩
theorem run_neq_ptr_other15 {P : Program} (w : World) {tp te : TypeId} {j : TypeInfo} {a b : Addr} {ca cb : Array Value} {ta tb : TypeId} (hp : P.underlying tp = some (.pointer te)) (hte : P.info? te = some j) (hsz : j.size ≠ 0)
    (hne : a ≠ b) (ha : w.heap[a.block]? = some (.cells ca ta (0, 0))) (hb : w.heap[b.block]? = some (.cells cb tb (0, 0))) :
    (binOp .neq tp (.pointer (some a)) (.pointer (some b))).run P w = .ok (.bool true) w := by
  have h : ∀ d : Nat, (Op.equalIn (d + 1) tp (.pointer (some a)) (.pointer (some b))).run P w = .ok false w := fun d => by
    simp [Op.equalIn, run_underlying hp, sizeOf, typeInfo, hte, hsz, run_sameAddr_other w hne ha hb]
  simp only [binOp]
  simp [Op.equal, Op.maxDepth, h 9999]
/-- Where the path from a leaf goes: the nodes it meets, and those beside them. -/
theorem trd_way {w w' : World} {gs gs1 : List Nat} {l : List ByteArray} {g : Nat} (hlt : ∀ i, i < 4 → gAt gs i < w.heap.size) (h : Trd w w' gs gs1 l g) (m : Nat) (hm : m < 4) :
    ∃ nd sb : Nat → Nat, nd 0 = gAt gs m ∧ nd 2 = g ∧ (∃ cs, CB w' g 48 cs) ∧ ∀ k, k < 2 → nd k ≠ g ∧ (∃ cs, CB w' (nd k) 48 cs) ∧ sb k < w'.heap.size ∧ w'.cell? ⟨nd k, 1, none⟩ = some (pv (sb k)) ∧ w'.cell? ⟨nd k, 2, none⟩ = some (pv (nd (k + 1))) ∧ w'.cell? ⟨sb k, 0, none⟩ = some (.string (pthN l m k)) := by
  obtain ⟨t1, t2, t3, t4, t5⟩ := h
  refine ⟨fun k => if k = 0 then gAt gs m else if k = 1 then gAt gs1 (m / 2) else g, fun k => if k = 0 then gAt gs (sibN m) else gAt gs1 (sibN (m / 2)), rfl, rfl, t3.elim (fun b h => h.elim (fun u h => ⟨_, h⟩)), ?_⟩
  intro k hk
  have hg := t4 (m / 2) (by omega)
  have hg0 := hlt m hm
  rcases show k = 0 ∨ k = 1 by omega with rfl | rfl
  · have hs0 : sibN (m / 2 ^ 0) = sibN m := by rw [Nat.pow_zero, Nat.div_one]
    show gAt gs m ≠ g ∧ (∃ cs, CB w' (gAt gs m) 48 cs) ∧ gAt gs (sibN m) < _ ∧ w'.cell? ⟨gAt gs m, 1, none⟩ = some (pv (gAt gs (sibN m))) ∧ w'.cell? ⟨gAt gs m, 2, none⟩ = some (pv (gAt gs1 (m / 2))) ∧ w'.cell? ⟨gAt gs (sibN m), 0, none⟩ = some (.string (bAt (lvs l 0) (sibN (m / 2 ^ 0))))
    rw [hs0]
    obtain ⟨c1, c2⟩ := t1 (m / 2) (by omega)
    by_cases ho : m % 2 = 1
    · have e1 : sibN m = 2 * (m / 2) := by unfold sibN; rw [if_pos ho]; omega
      have e2 : 2 * (m / 2) + 1 = m := by omega
      rw [e2] at c1 c2
      rw [← e1] at c1 c2
      exact ⟨by omega, ⟨_, c2⟩, c1.lt, c2.cell 1 rfl, c2.cell 2 rfl, c1.cell 0 rfl⟩
    · have e1 : sibN m = 2 * (m / 2) + 1 := by unfold sibN; rw [if_neg ho]; omega
      have e2 : 2 * (m / 2) = m := by omega
      rw [← e1, e2] at c1 c2
      exact ⟨by omega, ⟨_, c1⟩, c2.lt, c1.cell 1 rfl, c1.cell 2 rfl, c2.cell 0 rfl⟩
  · have hs0 : sibN (m / 2 ^ 1) = sibN (m / 2) := by rw [Nat.pow_one]
    show gAt gs1 (m / 2) ≠ g ∧ (∃ cs, CB w' (gAt gs1 (m / 2)) 48 cs) ∧ gAt gs1 (sibN (m / 2)) < _ ∧ w'.cell? ⟨gAt gs1 (m / 2), 1, none⟩ = some (pv (gAt gs1 (sibN (m / 2)))) ∧ w'.cell? ⟨gAt gs1 (m / 2), 2, none⟩ = some (pv g) ∧ w'.cell? ⟨gAt gs1 (sibN (m / 2)), 0, none⟩ = some (.string (bAt (lvs l 1) (sibN (m / 2 ^ 1))))
    rw [hs0]
    obtain ⟨c1, c2⟩ := t2 0 (by omega)
    have eg : gAt [g] 0 = g := rfl
    rw [eg] at c1 c2
    rcases show m / 2 = 0 ∨ m / 2 = 1 by omega with e | e
    · rw [e] at hg ⊢
      exact ⟨by omega, ⟨_, c1⟩, c2.lt, c1.cell 1 rfl, c1.cell 2 rfl, c2.cell 0 rfl⟩
    · rw [e] at hg ⊢
      exact ⟨by omega, ⟨_, c2⟩, c1.lt, c2.cell 1 rfl, c2.cell 2 rfl, c1.cell 0 rfl⟩
set_option maxRecDepth 20000 in
set_option maxHeartbeats 1000000 in
theorem implPathOf_any (l : List ByteArray) (leaf : Int) (v : Value) (w : World) (hr : RdV w v (l.map sv)) (hs : ∀ x ∈ l, x.size ≤ 1048576) :
    Calls Try.prog 10 #[v, .int .i64 leaf] w fun e w' => (∃ v', e = .returned v' ∧ OwnV w' w.heap.size 9 v' ((pathL l leaf).map sv)) ∧ Below w.heap.size w w' := by
  obtain ⟨i0, hi, hz0, hz1, hz2⟩ := info_parts infoTxt
  obtain ⟨iN, hiN, hzN⟩ := infoNode15
  have CI := hide (fun W => isLeaf_any leaf W)
  obtain ⟨a, c, rfl, -⟩ := hr.open
  rw [List.length_map] at hr ⊢
  by_cases h4 : l.length = 4
  · by_cases hlf : 0 ≤ leaf ∧ leaf ≤ 3
    · rw [decide_eq_true hlf] at CI
      obtain ⟨m, rfl⟩ : ∃ m : Nat, leaf = (m : Int) := ⟨leaf.toNat, by omega⟩
      have hm : m < 4 := by omega
      have EP := hide (show pathL l (m : Int) = preT (pthN l m) 2 by unfold pathL; rw [if_pos ⟨h4, hlf⟩, Int.toNat_natCast]; rfl)
      rw [unhide EP]
      have C1 := hide (nodesOf_any l _ w hr (by omega))
      have C2 := hide (fun W u gs (h : Nds W w.heap.size u gs l) => rootAbove_any l gs w.heap.size u W h h4 hs)
      have HWy := hide (show ∀ (w1 w2 : World) u gs gs1 g, Nds w1 w.heap.size u gs l → Trd w1 w2 gs gs1 l g → ∃ nd sb : Nat → Nat, nd 0 = gAt gs m ∧ nd 2 = g ∧ (∃ cs, CB w2 g 48 cs) ∧ ∀ k, k < 2 → nd k ≠ g ∧ (∃ cs, CB w2 (nd k) 48 cs) ∧ sb k < w2.heap.size ∧ w2.cell? ⟨nd k, 1, none⟩ = some (pv (sb k)) ∧ w2.cell? ⟨nd k, 2, none⟩ = some (pv (nd (k + 1))) ∧ w2.cell? ⟨sb k, 0, none⟩ = some (.string (pthN l m k)) from fun w1 w2 u gs gs1 g hN hT => trd_way (fun i hi => (hN.mem _ (gAt_mem gs i (by rw [hN.2.1]; omega))).2) hT m hm)
      have HRow := hide (show ∀ (w1 w2 : World) u gs gs1 g, Nds w1 w.heap.size u gs l → Trd w1 w2 gs gs1 l g → ∃ gv c, u = .slice (some ⟨gv, 0, none⟩) 4 c ∧ w2.cell? ⟨gv, m, none⟩ = some (pv (gAt gs m)) from fun w1 w2 u gs gs1 g hN hT => by
        obtain ⟨gv, c, e, _⟩ := hN.row h4 (by omega)
        have ho := hN.1.kps hT.2.2.2.2 (fun q hq hmm => hN.off q hmm hq)
        rw [e] at ho
        exact ⟨gv, c, e, ho.cell (gAt_get gs m (by rw [hN.2.1]; omega))⟩)
      rw [h4] at C1 ⊢
      have hm' : (m : Int) < 4 := by omega
      have hm0 : (0 : Int) ≤ (m : Int) := by omega
      have HF := hide (show ∀ k, (pthN l m k).size ≤ 1048576 from fun k => bAt_sizeT _ _ _ (lvs_size l _ (by omega) hs k))
      generalize pthN l m = F at *
      clear hr EP
      replace h4 := hide h4
      go_enter Try.func10, Try.ntmps10
      go_wp2_with fail
      refine (unhide CI _).mono ?_
      rintro e w0 ⟨rfl, hw0⟩
      have hw0' := hw0.symm
      subst hw0'
      clear hw0
      go_wp2_with fail
      refine (unhide C1).mono ?_
      rintro e w1 ⟨⟨v1, rfl, gs, hN1⟩, hb1⟩
      have c2 := hide (unhide C2 w1 v1 gs hN1)
      have hmem := hide hN1.mem
      clear C1 C2
      go_wp2_with fail
      refine (unhide c2).mono ?_
      rintro e w2 ⟨g, rfl, gs1, ht⟩
      have hB2 := hb1.trans (ht.2.2.2.2.below w.heap.size hb1.size (fun k hk hmm => by have := (unhide hmem k hmm).1; omega))
      obtain ⟨nd, sb, hn0, hn2, ⟨csR, hcR⟩, hway⟩ := unhide HWy w1 w2 v1 gs gs1 g hN1 ht
      obtain ⟨gv, cv, rfl, d0⟩ := unhide HRow w1 w2 _ gs gs1 g hN1 ht
      rw [← hn0] at d0
      have HY := hide hway
      rw [← hn2] at hcR
      have HCR := hide hcR
      clear hcR
      clear hway hN1 ht hmem c2 HWy HRow hb1 CI
      have hs2 := hB2.size
      unfold pv at d0 HY ⊢
      rw [← hn2]
      rw [← hn2] at HY
      replace hn0 := hide hn0; replace hn2 := hide hn2
      go_wp2_with (at_make; refine wpList_make_own _ rfl _ _ 22 rfl w2.heap.size 9 i0 (.string ⟨#[]⟩) 1 Try.underlying22 hi hz0 hz1 _ _ _ 2 rfl rfl (by omega) (by rw [hz2]; omega) (by unfold maxLen; omega) (Nat.le_refl _) ?_; intro w3 hown3 hgrow3; have hb0 : Below w2.heap.size w2 w3 := (Below.refl w2.heap.size w2).grown hgrow3 (Nat.le_refl _) (fun k hk => by cases hk); have d0' := (hb0.cell (p := ⟨gv, m, none⟩) (by exact cell_lt15 d0)).trans d0)
      have hr0 := hide (show OwnV w3 w2.heap.size 9 (.slice (some ⟨w2.heap.size, 0, none⟩) 0 2) ((preT F 0).map sv) from hown3)
      clear hown3 hgrow3 d0
      go_loopw [7, 8] (fun tp tn wr => ∃ k : Nat, k ≤ 2 ∧ tn = .pointer (some ⟨nd k, 0, none⟩) ∧ Hid (OwnV wr w2.heap.size 9 tp ((preT F k).map sv)) ∧ Below w2.heap.size w2 wr) (fun tp _ _ => 5 - lenOf15 tp)
      case atStart => exact ⟨0, by omega, rfl, hr0, hb0⟩
      case round =>
        clear hr0 hb0 d0'
        obtain ⟨k, hk, rfl, HO, hB⟩ := hrel
        by_cases hlt : k < 2
        · obtain ⟨y1, ⟨csk, y2c⟩, y3, y4, y5, y6⟩ := unhide HY k hlt
          have y2 := y2c.lt
          have z4 := (hB.cell (p := ⟨nd k, 1, none⟩) y2).trans y4
          have z5 := (hB.cell (p := ⟨nd k, 2, none⟩) y2).trans y5
          have z6 := (hB.cell (p := ⟨sb k, 0, none⟩) y3).trans y6
          have hFs := unhide HF k
          have CC := hide (fun W => stringsClone15_any (F k) W (by omega))
          have HPS := hide (preT_succ F k)
          have hl1 : ((preT F k).map sv).length + 1 ≤ maxLen := by rw [List.length_map, preT_len]; unfold maxLen; omega
          have hl2 : (((preT F k).map sv).length + 1) * 16 ≤ 140737488355328 := by rw [List.length_map, preT_len]; omega
          have hszB := hB.size
          obtain ⟨al, cl, hal⟩ := (unhide HO).shape
          rw [List.length_map, preT_len] at hal
          subst hal
          obtain ⟨x, hx⟩ : ∃ x, x = nd k := ⟨_, rfl⟩
          obtain ⟨x', hx'⟩ : ∃ x', x' = nd (k + 1) := ⟨_, rfl⟩
          obtain ⟨r, hrr⟩ : ∃ r, r = nd 2 := ⟨_, rfl⟩
          rw [← hx] at z4 z5 y1 y2 y5 ⊢
          rw [← hx'] at z5 y5
          rw [← hrr] at y1 ⊢
          generalize sb k = s at *
          generalize F k = fk at *
          replace y2c := hide y2c
          have NE := run_neq_ptr_other15 (P := Try.prog) wr (tp := 45) (te := 48) (a := ⟨x, 0, none⟩) (b := ⟨r, 0, none⟩) Try.underlying45 hiN hzN (fun e => y1 (Addr.mk.inj e).1) (by rw [hx]; exact (unhide y2c).below hB (unhide y2c).lt) (by rw [hrr]; exact (unhide HCR).below hB (unhide HCR).lt)
          replace hx := hide hx; replace hx' := hide hx'; replace hrr := hide hrr
          replace hl1 := hide hl1; replace hl2 := hide hl2
          replace y5 := hide y5; replace y2 := hide y2
          clear HY y2c HCR y3 y4 y6 HF
          go_wp2_with fail
          refine (unhide CC _).mono ?_
          rintro e w4 ⟨rfl, hb4⟩
          have hB4 := hB.trans (hb4.mono hB.size)
          have hO4 := hide ((unhide HO).below hb4)
          have hsz4 := hB4.size
          clear hB hb4 HO CC z4 z6
          go_wp2_with (at_builtin; refine wpList_append_grow (w := w4) rfl (.tmp 33) (.tmp 42) 22 rfl w2.heap.size 9 i0 (.string ⟨#[]⟩) 16 Try.underlying22 hi hz0 hz1 hz2 rfl _ _ (by rfl) (unhide hO4) (.string fk) rfl rfl (unhide hl1) (unhide hl2) hsz4 ?_; intro v' w5 ho5 hg5; have hB5 := (hB4.alloc hsz4 (.cells #[.string fk] 9)).grown hg5 (by simp; omega) (fun b hb => ((unhide hO4).lt b hb).1); have z8 := (hB5.cell (p := ⟨x, 2, none⟩) (unhide y2)).trans (unhide y5))
          have ho6 := hide (show OwnV w5 w2.heap.size 9 v' ((preT F (k + 1)).map sv) by rw [unhide HPS, List.map_append]; exact ho5)
          have hsh := ho5.shape
          obtain ⟨a5, c5, hv5⟩ := hsh
          rw [List.length_append, List.length_map, preT_len] at hv5
          subst hv5
          rw [unhide hx'] 
          exact ⟨⟨k + 1, by omega, rfl, ho6, hB5⟩, by show 5 - (k + 1) < 5 - k; omega⟩
        · obtain rfl : k = 2 := by omega
          have hfin := hide ((unhide HO).low hs2)
          have hB3 := hB2.trans (hB.mono hs2)
          have NE := Lib.run_neq_ptr_same (P := Try.prog) wr (tp := 45) (te := 48) ⟨nd 2, 0, none⟩ Try.underlying45 hiN
          clear HO HY
          go_wp2
          go_ret
          exact ⟨⟨_, rfl, unhide hfin⟩, hB3⟩
    · have hdf : decide (0 ≤ leaf ∧ leaf ≤ 3) = false := decide_eq_false hlf
      rw [hdf] at CI
      have EP := hide (show pathL l leaf = [] by unfold pathL; rw [if_neg (fun h => hlf h.2)])
      rw [unhide EP, h4]
      clear hr
      replace hlf := hide hlf
      go_enter Try.func10, Try.ntmps10
      go_wp2_with fail
      refine (unhide CI _).mono ?_
      rintro e w0 ⟨rfl, hw0⟩
      have hw0' := hw0.symm
      subst hw0'
      clear hw0
      go_wp2
      go_ret
      exact ⟨⟨_, rfl, OwnV.nil _ _ _⟩, Below.refl _ _⟩
  · have EP := hide (show pathL l leaf = [] by unfold pathL; rw [if_neg (fun h => h4 h.1)])
    rw [unhide EP]
    have h4' : ¬ (l.length : Int) = 4 := by omega
    have h4b : decide ((l.length : Int) = 4) = false := decide_eq_false h4'
    clear hr
    go_enter Try.func10, Try.ntmps10
    go_wp2
    go_ret
    exact ⟨⟨_, rfl, OwnV.nil _ _ _⟩, Below.refl _ _⟩
end Go.Proofs.Ytljjajbkaffofav

/- Trees by the project's own functions: the root by a path, over the loaded program. -/
namespace Go.Proofs.Ytljjajbkaffofav
open Go.RowKit
set_option maxRecDepth 20000 in
theorem leftRight_even (x p : ByteArray) (y : Nat) (hy : y < 4) (he : ¬ y % 2 = 1) (w : World) : Calls Try.prog 31 #[.string x, .int .i64 (y : Int), .string p] w fun e w' => e = .returned (.tuple #[.string x, .string p]) ∧ w' = w := by
  have h1 : (y : Int).tmod 2 = 0 := by rw [Int.tmod_eq_emod_of_nonneg (by omega)]; omega
  have h2 : (y : Int) % 2 = 0 := by omega
  go_enter Try.func31, Try.ntmps31
  go_wp2
  go_ret2
  exact ⟨rfl, rfl⟩
set_option maxRecDepth 20000 in
theorem leftRight_odd (x p : ByteArray) (y : Nat) (hy : y < 4) (he : y % 2 = 1) (w : World) : Calls Try.prog 31 #[.string x, .int .i64 (y : Int), .string p] w fun e w' => e = .returned (.tuple #[.string p, .string x]) ∧ w' = w := by
  have h1 : (y : Int).tmod 2 = 1 := by rw [Int.tmod_eq_emod_of_nonneg (by omega)]; omega
  have h2 : (y : Int) % 2 = 1 := by omega
  go_enter Try.func31, Try.ntmps31
  go_wp2
  go_ret2
  exact ⟨rfl, rfl⟩
/-- One step up, whoever stands left. -/
theorem stp_lr (level : Int) (x p : ByteArray) (y : Nat) (hy : y < 4) (hx : x.size ≤ 1048576) (hp : p.size ≤ 1048576) : ∃ a b : ByteArray,
    (∀ w, Calls Try.prog 31 #[.string x, .int .i64 (y : Int), .string p] w fun e w' => e = .returned (.tuple #[.string a, .string b]) ∧ w' = w) ∧
    (∀ w, Calls Try.prog 32 #[.int .i64 level, .int .i64 ((y / 2 : Nat) : Int), .string a, .string b] w fun e w' => e = .returned (.string (stpB level y x p)) ∧ Below w.heap.size w w') := by
  by_cases ho : y % 2 = 1
  · refine ⟨p, x, fun w => leftRight_odd x p y hy ho w, fun w => ?_⟩
    unfold stpB
    rw [if_pos ho]
    exact implNode_any level _ p x hp hx w
  · refine ⟨x, p, fun w => leftRight_even x p y hy ho w, fun w => ?_⟩
    unfold stpB
    rw [if_neg ho]
    exact implNode_any level _ x p hx hp w
set_option maxRecDepth 20000 in
set_option maxHeartbeats 1000000 in
theorem implRootBy_any (x : ByteArray) (leaf : Int) (path : List ByteArray) (v : Value) (w : World) (hx : x.size ≤ 1048576) (hr : RdV w v (path.map sv)) (hs : ∀ x ∈ path, x.size ≤ 1048576) :
    Calls Try.prog 15 #[.string x, .int .i64 leaf, v] w fun e w' => e = .returned (.string (rootBy x leaf path)) ∧ Below w.heap.size w w' := by
  have C1 := hide (fun W => isLeaf_any leaf W)
  obtain ⟨a, c, rfl, hc⟩ := hr.open
  rw [List.length_map]
  clear hr
  by_cases h2 : path.length = 2
  · by_cases hlf : 0 ≤ leaf ∧ leaf ≤ 3
    · rw [decide_eq_true hlf] at C1
      obtain ⟨m, rfl⟩ : ∃ m : Nat, leaf = (m : Int) := ⟨leaf.toNat, by omega⟩
      have hm : m < 4 := by omega
      have ER := hide (show rootBy x (m : Int) path = rbB x m path 2 by unfold rootBy; rw [if_pos ⟨h2, hlf⟩, Int.toNat_natCast])
      rw [unhide ER]
      have HN := hide (show ∀ k, rbB x m path (k + 1) = stpB ((k + 1 : Nat) : Int) (m / 2 ^ k) (rbB x m path k) (bAt path k) from fun k => rfl)
      have HC := hide (fun k (hk : k < 2) => hc k _ (bAt_getT path k (by omega)))
      have HZ := hide (fun k => rbB_size x m path k _ (show 4 ≤ 1048576 by omega) hx)
      have HP := hide (fun k => bAt_sizeT path k _ hs)
      rw [h2]
      clear hc
      replace h2 := hide h2
      go_enter Try.func15, Try.ntmps15
      go_wp2_with fail
      refine (unhide C1 _).mono ?_
      rintro e w1 ⟨rfl, hw1⟩
      have hw1' := hw1.symm
      subst hw1'
      clear hw1
      go_wp2
      go_loopw [0, 7, 23] (fun tx tf ti wr => ∃ k y : Nat, k ≤ 2 ∧ ti = .int .i64 (k : Int) ∧ tf = .int .i64 (y : Int) ∧ Hid (y = m / 2 ^ k) ∧ tx = .string (rbB x m path k) ∧ Below w.heap.size w wr) (fun _ _ ti _ => 5 - (intOf ti).toNat)
      case atStart => exact ⟨0, m, by omega, rfl, rfl, hide (by rw [Nat.pow_zero, Nat.div_one]), rfl, Below.refl _ _⟩
      case round =>
        obtain ⟨k, y, hk, rfl, rfl, hy, rfl, hB⟩ := hrel
        by_cases hlt : k < 2
        · have hk2 : (k : Int) < 2 := by omega
          have hk0 : (0 : Int) ≤ (k : Int) := by omega
          have hy4 : y < 4 := by rw [unhide hy]; exact Nat.lt_of_le_of_lt (Nat.div_le_self _ _) hm
          obtain ⟨g, o, rfl, hg, d1⟩ := unhide HC k hlt
          have d2 := (hB.cell (p := ⟨g, o + k, none⟩) hg).trans d1
          obtain ⟨y2, hy2⟩ : ∃ y2, y2 = y / 2 := ⟨_, rfl⟩
          have HY := hide (show y2 = m / 2 ^ (k + 1) by rw [hy2, unhide hy, Nat.div_div_eq_div_mul, Nat.pow_succ])
          have v1' : (y : Int) / 2 = (y2 : Int) := by omega
          have v1 : (y : Int).tdiv 2 = (y2 : Int) := by rw [Int.tdiv_eq_ediv_of_nonneg (by omega)]; omega
          obtain ⟨lv, hlv⟩ : ∃ lv : Nat, lv = k + 1 := ⟨_, rfl⟩
          have q1 : (k : Int) + 1 = (lv : Int) := by omega
          obtain ⟨la, lb, cA, cB⟩ := stp_lr ((k + 1 : Nat) : Int) (rbB x m path k) (bAt path k) y hy4 (unhide HZ k) (unhide HP k)
          have HX := unhide HN k
          rw [← unhide hy] at HX
          obtain ⟨R0, hR⟩ : ∃ R0, R0 = rbB x m path (k + 1) := ⟨_, rfl⟩
          rw [← HX, ← hR, ← hy2, ← hlv] at cB
          replace hR := hide hR
          generalize rbB x m path k = xk at *
          generalize bAt path k = pk at *
          replace cA := hide cA; replace cB := hide cB
          have hlvb : lv ≤ 3 := by omega
          replace hlv := hide hlv; replace hy2 := hide hy2
          clear HC HN HZ HP d1 HX
          go_wp2_with fail
          refine (unhide cA _).mono ?_
          rintro e w2 ⟨rfl, hw2⟩
          have hw2' := hw2.symm
          subst hw2'
          clear hw2
          go_wp2_with fail
          refine (unhide cB _).mono ?_
          rintro e w3 ⟨rfl, hb3⟩
          have hB3 := hB.trans (hb3.mono hB.size)
          clear hb3 hB cA cB
          go_wp2
          exact ⟨⟨k + 1, y2, by omega, by rw [← q1]; rfl, rfl, HY, by rw [unhide hR], hB3⟩, by simp [intOf]; omega⟩
        · obtain rfl : k = 2 := by omega
          clear HC HN HZ HP
          go_wp2
          go_ret
          exact ⟨rfl, hB⟩
    · have hdf : decide (0 ≤ leaf ∧ leaf ≤ 3) = false := decide_eq_false hlf
      rw [hdf] at C1
      have ER := hide (show rootBy x leaf path = ⟨#[]⟩ by unfold rootBy; rw [if_neg (fun h => hlf h.2)])
      rw [unhide ER, h2]
      clear hc
      replace hlf := hide hlf
      go_enter Try.func15, Try.ntmps15
      go_wp2_with fail
      refine (unhide C1 _).mono ?_
      rintro e w1 ⟨rfl, hw1⟩
      have hw1' := hw1.symm
      subst hw1'
      clear hw1
      go_wp2
      go_ret
      exact ⟨rfl, Below.refl _ _⟩
  · have ER := hide (show rootBy x leaf path = ⟨#[]⟩ by unfold rootBy; rw [if_neg (fun h => h2 h.1)])
    rw [unhide ER]
    have h2' : ¬ (path.length : Int) = 2 := by omega
    have h2b : decide ((path.length : Int) = 2) = false := decide_eq_false h2'
    clear hc
    go_enter Try.func15, Try.ntmps15
    go_wp2
    go_ret
    exact ⟨rfl, Below.refl _ _⟩
end Go.Proofs.Ytljjajbkaffofav

/- A row of texts that comes in as an argument. -/
namespace Go.Proofs.Ytljjajbkaffofav
open Go.ChangeShapes Go.WideShapes Go.ChangeAt Go.RowKit Go.WideElems
theorem lt_of_cellT {w : World} {g o : Nat} {u : Value} (h : w.cell? ⟨g, o, none⟩ = some u) : g < w.heap.size := by
  rcases Nat.lt_or_ge g w.heap.size with h1 | h1
  · exact h1
  · unfold World.cell? at h
    rw [Array.getElem?_eq_none h1] at h
    cases h
theorem open_texts_rd {H : Type} {enc : TypeId × Value → H} {W : World} {o : Option Addr} {len cap : Nat} {d : DataW H} {ps : List MemPlace} (h0 : DataW.Trod enc Try.prog W 0 (fun _ => true) true 22 (.slice o len cap) d ps) :
    ∃ ss : List ByteArray, RdV W (.slice o len cap) (ss.map sv) ∧ (∀ x ∈ ss, x.size ≤ maxLen) ∧ ss.length ≤ maxLen := by
  obtain ⟨fuel, hf⟩ := h0
  rcases open_strings Try.underlying22 Try.underlying9 (by kernel_rfl) hf with ⟨hcs, hx⟩ | ⟨a, len', cap', zs, hcs, _, hl, hm, hz, hx, hcell, hwz⟩
  · simp [Value.cells] at hcs
    obtain ⟨rfl, rfl, rfl⟩ := hcs
    exact ⟨[], .inl ⟨_, _, rfl, rfl⟩, (fun x hx => absurd hx (by simp)), by simp⟩
  · simp [Value.cells] at hcs
    obtain ⟨rfl, rfl, rfl⟩ := hcs
    simp only [if_true] at hz
    have hl2 : len ≤ zs.length := by omega
    have htl : (zs.take len).length = len := by rw [List.length_take]; omega
    refine ⟨zs.take len, ?_, fun x hx => hwz x (List.mem_of_mem_take hx), by rw [htl]; omega⟩
    by_cases h0 : len = 0
    · subst h0
      exact .inl ⟨_, _, rfl, by simp⟩
    · obtain ⟨b, off, spot⟩ := a
      have hspot : spot = none := by simpa [Addr.add] using World.cell?_spot (hcell 0 (by omega))
      subst hspot
      have hc2 : ∀ j, j < zs.length → W.cell? ⟨b, off + j, none⟩ = some (.string (zs.getD j ByteArray.empty)) := fun j hj => by rw [← Go.WideShapes.add_plain]; exact hcell j hj
      refine .inr ⟨b, off, cap, by rw [List.length_map, htl], by rw [List.length_map, htl]; omega, ?_, ?_⟩
      · have := hc2 0 (by omega)
        exact lt_of_cellT this
      · intro j x hj
        rw [List.getElem?_map] at hj
        have hjl : j < len := by
          rcases Nat.lt_or_ge j len with h | h
          · exact h
          · rw [List.getElem?_eq_none (by omega)] at hj; cases hj
        rw [List.getElem?_take, if_pos hjl] at hj
        rw [hc2 j (by omega)]
        rw [List.getElem?_eq_getElem (by omega)] at hj
        simp only [Option.map_some, Option.some.injEq] at hj
        rw [← hj, List.getD_eq_getElem?_getD, List.getElem?_eq_getElem (by omega)]
        rfl
end Go.Proofs.Ytljjajbkaffofav

/- The laws FnExactNode, LevelUp, RootOf, PathOf, RootBy, walked over the loaded program; what the project's function answers is a premise. -/
namespace Go.Proofs.Ytljjajbkaffofav
open Go.RowKit
theorem OwnV.loT {w : World} {base : Nat} {e : TypeId} {v : Value} {xs : List Value} (h : OwnV w base e v xs) : ∀ k, v.ownBlock = some k → base ≤ k ∧ k < w.heap.size := fun k hk => World.ownsRow.lt h k hk
theorem lvL_len9 (level : Int) (l : List ByteArray) (h : l.length + sumS l ≤ 1048576) : (lvL level l).length ≤ 1048576 := by rw [lvL_len]; omega
theorem pathL_len9 (l : List ByteArray) (leaf : Int) : (pathL l leaf).length ≤ 1000 := by
  unfold pathL
  split
  · rw [List.length_map, List.length_range]; omega
  · exact Nat.zero_le _
set_option maxRecDepth 20000 in
set_option maxHeartbeats 1000000 in
theorem lawPathOf_any (l : List ByteArray) (leaf : Int) (va : Value) (w : World) (CI : l.length + sumS l ≤ 1048576 → ∀ W : World, Below w.heap.size w W → ∀ (ua : Value), RdV W ua (l.map sv) → Calls Try.prog 10 #[ua, .int .i64 leaf] W fun e w' => (∃ v, e = .returned v ∧ OwnV w' W.heap.size 9 v ((pathL l leaf).map sv)) ∧ Below W.heap.size W w') (ra : RdV w va (l.map sv)) (hbx : ∀ x ∈ l, x.size ≤ maxLen) (hlx : l.length ≤ maxLen) :
    Calls Try.prog 3 #[va, .int .i64 leaf] w fun e w' => e = .returned (.bool true) ∧ Below w.heap.size w w' := by
  have CZ := hide (szStrS_any l va w ra hbx hlx)
  have RA := hide (fun (W : World) (h : Below w.heap.size w W) => ra.below h)
  obtain ⟨a1, c1, rfl⟩ := ra.shape
  clear ra hbx hlx
  rw [List.length_map] at RA CZ ⊢
  by_cases hz : l.length + sumS l ≤ 1048576
  rotate_left
  · obtain ⟨n1, hn1⟩ : ∃ n, l.length = n := ⟨_, rfl⟩
    rw [hn1] at CZ ⊢
    clear RA CI
    go_enter Try.func3, Try.ntmps3
    go_wp2_with fail
    refine (unhide CZ).mono ?_
    rintro e w1 ⟨⟨z, rfl, hzz⟩, hw1⟩
    have hw1' := hw1.symm
    subst hw1'
    clear hw1
    have hz0 : z < 0 := hzz.elim id (fun h => absurd h.2 (by rw [hn1] at hz; exact hz))
    go_wp2
    go_ret
    exact ⟨rfl, Below.refl _ _⟩
  have CS := hide (fun (W : World) (ua : Value) (h1 : RdV W ua (l.map sv)) => specPathOf_any l leaf ua W h1 (sumS_le l _ (by omega)))
  replace CI := hide (CI hz)
  have hxl : (pathL l leaf).length ≤ 1000 := pathL_len9 l leaf
  generalize pathL l leaf = xs at *
  have nl : l.length ≤ 1048576 := by omega
  obtain ⟨n1, hn1⟩ : ∃ n, l.length = n := ⟨_, rfl⟩
  have TA := hide (fun (W : World) (h : Below w.heap.size w W) => toStrS_any l _ W (unhide RA W h) nl)
  rw [hn1] at TA CZ nl ⊢
  clear RA
  replace hz := hide hz
  have HT0 := Below.refl w.heap.size w
  go_enter Try.func3, Try.ntmps3
  go_wp2_with fail
  refine (unhide CZ).mono ?_
  rintro e w1 ⟨⟨z, rfl, hzz⟩, hw1⟩
  have hw1' := hw1.symm
  subst hw1'
  clear hw1 CZ
  by_cases hz0 : z < 0
  · clear hzz
    go_wp2
    go_ret
    exact ⟨rfl, Below.refl _ _⟩
  clear hzz
  go_wp2_with fail
  refine ((unhide TA) w HT0).mono ?_
  rintro e w1 ⟨⟨p1, q1, rfl, o1⟩, hb1⟩
  have HT1 := HT0.trans (hb1.mono HT0.size)
  clear hb1
  go_wp2_with fail
  refine ((unhide CS) w1 _ o1.rdv).mono ?_
  rintro e w3 ⟨⟨vS, rfl, oS⟩, hb3⟩
  have HT3 := HT1.trans (hb3.mono HT1.size)
  have rS3 := oS.rdv
  have bS := fun k hk => (oS.loT k hk).2
  clear o1 oS hb3 HT1 CS
  go_wp2_with fail
  refine ((unhide TA) w3 HT3).mono ?_
  rintro e w4 ⟨⟨p4, q4, rfl, oX4⟩, hb4⟩
  have HT4 := HT3.trans (hb4.mono HT3.size)
  have bX := fun k hk => oX4.loT k hk
  have rS4 := rS3.below hb4
  have z34 := hb4.size
  clear rS3 hb4
  go_wp2_with fail
  refine ((unhide CI) w4 HT4 _ oX4.rdv).mono ?_
  rintro e w6 ⟨⟨vG, rfl, oG6⟩, hb6⟩
  have HT6 := HT4.trans (hb6.mono HT4.size)
  have bG := fun k hk => (oG6.loT k hk).1
  have rS6 := rS4.below hb6
  have oX6 := oX4.below hb6
  have z46 := hb6.size
  clear rS4 oX4 hb6
  go_wp2_with fail
  refine (eqStrS_any xs _ _ w6 oG6.rdv rS6 (by omega)).mono ?_
  rintro e w7 ⟨rfl, hb7⟩
  have HT7 := HT6.trans (hb7.mono HT6.size)
  have rS7 := rS6.below hb7
  have oX7 := oX6.below hb7
  have oG7 := oG6.below hb7
  clear rS6 oX6 oG6 hb7
  go_wp2_with fail
  refine ((unhide TA) w7 HT7).mono ?_
  rintro e w8 ⟨⟨p8, q8, rfl, o8⟩, hb8⟩
  have HT8 := HT7.trans (hb8.mono HT7.size)
  have rS8 := rS7.below hb8
  have oX8 := oX7.below hb8
  have oG8 := oG7.below hb8
  clear rS7 oX7 oG7 hb8
  go_wp2_with fail
  refine (eqStrS_any l _ _ w8 oX8.rdv o8.rdv (by omega)).mono ?_
  rintro e w11 ⟨rfl, hb11⟩
  have HT11 := HT8.trans (hb11.mono HT8.size)
  have rS11 := rS8.below hb11
  have oX11 := oX8.below hb11
  have oG11 := oG8.below hb11
  clear rS8 oX8 oG8 hb11 o8
  obtain ⟨M1, hM1⟩ : ∃ M, M = 1 + (l.map sv).length := ⟨_, rfl⟩
  have hM1' := hM1
  rw [List.length_map, hn1] at hM1'
  have hm1 : M1 ≤ 2000000 := by omega
  have hm10 : ¬ (M1 : Int) < 0 := by omega
  replace hM1' := hide hM1'
  have K1 := hide (markStrS_own _ w3.heap.size 1 M1 _ w11 hM1 (by rw [List.length_map, hn1]; omega) (by omega) (by omega) oX11)
  rw [show ((1 : Nat) : Int) = 1 from rfl] at K1
  replace hM1 := hide hM1
  go_wp2_with fail
  refine (unhide K1).mono ?_
  rintro e w12 ⟨rfl, _, hg12⟩
  have rS12 := rS11.grown hg12 (fun k hk h => by have h1 := bS k hk; have h2 := bX k h; omega)
  have oG12 := oG11.grown hg12 (fun k hk h => by have h1 := bX k h; have h2 := bG k hk; omega)
  have HT12 := HT11.grown hg12 HT11.size (fun k hk => by have h2 := bX k hk; have := HT3.size; omega)
  clear rS11 oX11 oG11 hg12 K1
  go_wp2_with fail
  refine (eqStrS_any xs _ _ w12 oG12.rdv rS12 (by omega)).mono ?_
  rintro e w14 ⟨rfl, hb14⟩
  have HT14 := HT12.trans (hb14.mono HT12.size)
  have rS14 := rS12.below hb14
  have oG14 := oG12.below hb14
  clear rS12 oG12 hb14
  obtain ⟨nx, hnx⟩ : ∃ n, xs.length = n := ⟨_, rfl⟩
  rw [hnx] at hxl
  obtain ⟨M3, hM3⟩ : ∃ M, M = 1 + (xs.map sv).length := ⟨_, rfl⟩
  have hM3' := hM3
  rw [List.length_map, hnx] at hM3'
  have hm3 : M3 ≤ 2000000 := by omega
  have hm30 : ¬ (M3 : Int) < 0 := by omega
  have K3 := hide (markStrS_own _ w4.heap.size 1 M3 _ w14 hM3 (by rw [List.length_map, hnx]; omega) (by omega) (by omega) oG14)
  rw [show ((1 : Nat) : Int) = 1 from rfl] at K3
  rw [List.length_map, hnx] at K3
  have K4 := hide (fun (W : World) (h : RdV W vG (mkT 1 nx)) => heldStrS_any vG 1 nx M3 W hM3' (by omega) (by omega) (by omega) h)
  rw [show ((1 : Nat) : Int) = 1 from rfl] at K4
  replace hM3 := hide hM3; replace hM3' := hide hM3'; replace hnx := hide hnx
  go_wp2_with fail
  refine (unhide K3).mono ?_
  rintro e w15 ⟨rfl, oG15, hg15⟩
  have rS15 := rS14.grown hg15 (fun k hk h => by have h1 := bS k hk; have h2 := bG k h; omega)
  have HT15 := HT14.grown hg15 HT14.size (fun k hk => by have h2 := bG k hk; have := HT3.size; omega)
  clear rS14 oG14 hg15 K3
  go_wp2_with fail
  refine ((unhide K4) w15 oG15.rdv).mono ?_
  rintro e w16 ⟨rfl, hb16⟩
  have HT16 := HT15.trans (hb16.mono HT15.size)
  have rS16 := rS15.below hb16
  have oG16 := oG15.below hb16
  clear rS15 oG15 hb16
  go_wp2_with fail
  refine ((unhide TA) w16 HT16).mono ?_
  rintro e w17 ⟨⟨p17, q17, rfl, oU17⟩, hb17⟩
  have HT17 := HT16.trans (hb17.mono HT16.size)
  have rS17 := rS16.below hb17
  have oG17 := oG16.below hb17
  clear rS16 oG16 hb17
  go_wp2_with fail
  refine ((unhide CI) w17 HT17 _ oU17.rdv).mono ?_
  rintro e w19 ⟨⟨vH, rfl, oH19⟩, hb19⟩
  have HT19 := HT17.trans (hb19.mono HT17.size)
  have rS19 := rS17.below hb19
  have oG19 := oG17.below hb19
  clear rS17 oG17 hb19 oU17
  go_wp2_with fail
  refine (eqStrS_any xs _ _ w19 oH19.rdv rS19 (by rw [unhide hnx]; omega)).mono ?_
  rintro e w20 ⟨rfl, hb20⟩
  have HT20 := HT19.trans (hb20.mono HT19.size)
  have oG20 := oG19.below hb20
  clear rS19 oG19 hb20 oH19
  go_wp2_with fail
  refine ((unhide K4) w20 oG20.rdv).mono ?_
  rintro e w21 ⟨rfl, hb21⟩
  have HT21 := HT20.trans (hb21.mono HT20.size)
  go_wp2
  go_ret
  exact ⟨rfl, HT21⟩
set_option maxRecDepth 20000 in
set_option maxHeartbeats 1000000 in
theorem lawRootBy_any (x : ByteArray) (leaf : Int) (l : List ByteArray) (va : Value) (w : World) (CI : x.size ≤ 1048576 → l.length + sumS l ≤ 1048576 → ∀ W : World, Below w.heap.size w W → ∀ (ua : Value), RdV W ua (l.map sv) → Calls Try.prog 15 #[.string x, .int .i64 leaf, ua] W fun e w' => e = .returned (.string (rootBy x leaf l)) ∧ Below W.heap.size W w') (ra : RdV w va (l.map sv)) (hbx : ∀ x ∈ l, x.size ≤ maxLen) (hlx : l.length ≤ maxLen) :
    Calls Try.prog 4 #[.string x, .int .i64 leaf, va] w fun e w' => e = .returned (.bool true) ∧ Below w.heap.size w w' := by
  have CZ := hide (szStrS_any l va w ra hbx hlx)
  have RA := hide (fun (W : World) (h : Below w.heap.size w W) => ra.below h)
  obtain ⟨a1, c1, rfl⟩ := ra.shape
  clear ra hbx hlx
  rw [List.length_map] at RA CZ ⊢
  by_cases hs0 : (1048576 : Int) < (x.size : Int)
  · go_enter Try.func4, Try.ntmps4
    go_wp2
    go_ret
    exact ⟨rfl, Below.refl _ _⟩
  have ns0 : x.size ≤ 1048576 := by omega
  by_cases hz : l.length + sumS l ≤ 1048576
  rotate_left
  · obtain ⟨n1, hn1⟩ : ∃ n, l.length = n := ⟨_, rfl⟩
    rw [hn1] at CZ ⊢
    clear RA CI
    go_enter Try.func4, Try.ntmps4
    go_wp2_with fail
    refine (unhide CZ).mono ?_
    rintro e w1 ⟨⟨z, rfl, hzz⟩, hw1⟩
    have hw1' := hw1.symm
    subst hw1'
    clear hw1
    have hz0 : z < 0 := hzz.elim id (fun h => absurd h.2 (by rw [hn1] at hz; exact hz))
    go_wp2
    go_ret
    exact ⟨rfl, Below.refl _ _⟩
  have CS := hide (fun (W : World) (ua : Value) (h1 : RdV W ua (l.map sv)) => specRootBy_any x leaf l ua W ns0 h1 (sumS_le l _ (by omega)))
  replace CI := hide (CI ns0 hz)
  have _hx := True.intro
  generalize rootBy x leaf l = xs at *
  have nl : l.length ≤ 1048576 := by omega
  obtain ⟨n1, hn1⟩ : ∃ n, l.length = n := ⟨_, rfl⟩
  have TA := hide (fun (W : World) (h : Below w.heap.size w W) => toStrS_any l _ W (unhide RA W h) nl)
  rw [hn1] at TA CZ nl ⊢
  clear RA
  replace hz := hide hz
  have HT0 := Below.refl w.heap.size w
  go_enter Try.func4, Try.ntmps4
  go_wp2_with fail
  refine (unhide CZ).mono ?_
  rintro e w1 ⟨⟨z, rfl, hzz⟩, hw1⟩
  have hw1' := hw1.symm
  subst hw1'
  clear hw1 CZ
  by_cases hz0 : z < 0
  · clear hzz
    go_wp2
    go_ret
    exact ⟨rfl, Below.refl _ _⟩
  clear hzz
  go_wp2_with fail
  refine ((unhide TA) w HT0).mono ?_
  rintro e w1 ⟨⟨p1, q1, rfl, o1⟩, hb1⟩
  have HT1 := HT0.trans (hb1.mono HT0.size)
  clear hb1
  go_wp2_with fail
  refine ((unhide CS) w1 _ o1.rdv).mono ?_
  rintro e w3 ⟨rfl, hb3⟩
  have HT3 := HT1.trans (hb3.mono HT1.size)
  clear o1 hb3 HT1 CS
  go_wp2_with fail
  refine ((unhide TA) w3 HT3).mono ?_
  rintro e w4 ⟨⟨p4, q4, rfl, oX4⟩, hb4⟩
  have HT4 := HT3.trans (hb4.mono HT3.size)
  have bX := fun k hk => oX4.loT k hk
  have z34 := hb4.size
  clear hb4
  go_wp2_with fail
  refine ((unhide CI) w4 HT4 _ oX4.rdv).mono ?_
  rintro e w6 ⟨rfl, hb6⟩
  have HT6 := HT4.trans (hb6.mono HT4.size)
  have oX6 := oX4.below hb6
  clear oX4 hb6
  go_wp2_with fail
  refine ((unhide TA) w6 HT6).mono ?_
  rintro e w8 ⟨⟨p8, q8, rfl, o8⟩, hb8⟩
  have HT8 := HT6.trans (hb8.mono HT6.size)
  have oX8 := oX6.below hb8
  clear oX6 hb8
  go_wp2_with fail
  refine (eqStrS_any l _ _ w8 oX8.rdv o8.rdv (by omega)).mono ?_
  rintro e w11 ⟨rfl, hb11⟩
  have HT11 := HT8.trans (hb11.mono HT8.size)
  have oX11 := oX8.below hb11
  clear oX8 hb11 o8
  go_wp2
  go_ret
  exact ⟨rfl, HT11⟩
end Go.Proofs.Ytljjajbkaffofav

