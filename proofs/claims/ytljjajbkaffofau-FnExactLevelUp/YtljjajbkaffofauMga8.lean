/- Merged: TrI5, TrI6, TrI7, ArgTxs, LawTre. -/
import Derived.Test.YtljjajbkaffofauMga1
import Derived.Test.YtljjajbkaffofauMga2
import Derived.Test.YtljjajbkaffofauMga3
import Derived.Test.YtljjajbkaffofauMga4
import Derived.Test.YtljjajbkaffofauMga5
import Derived.Test.YtljjajbkaffofauMga6
import Derived.Test.YtljjajbkaffofauMga7
import Derived.LaidEqlPtr
import Derived.Lib.Builder
import Derived.Test.YtljjajbkaffofauProg
import Derived.SliceStrings
import Derived.ChangeSame
import Derived.OpenShut
import Derived.ShutString
import Derived.ProofKit
/- Trees by the project's own functions: levels, roots and paths, over the loaded program. -/
namespace Go.Proofs.Ytljjajbkaffofau
open Go.RowKit
set_option maxRecDepth 20000 in
set_option maxHeartbeats 1000000 in
theorem implLevelUp_any (level : Int) (l : List ByteArray) (v : Value) (w : World) (hr : RdV w v (l.map sv)) (hs : ∀ x ∈ l, x.size ≤ 1048576) (hn : l.length ≤ 1048576) :
    Calls Try.prog 23 #[.int .i64 level, v] w fun e w' => (∃ v', e = .returned v' ∧ OwnV w' w.heap.size 9 v' ((lvL level l).map sv)) ∧ Below w.heap.size w w' := by
  obtain ⟨i0, hi, hz0, hz1, hz2⟩ := info_parts infoTxt
  have C1 := hide (nodesOf_any l v w hr hn)
  have C2 := hide (fun W u gs (h : Nds W w.heap.size u gs l) => nodesAbove_any level l gs w.heap.size u W h hs hn)
  obtain ⟨L0, hL0⟩ : ∃ L0, L0 = lvL level l := ⟨_, rfl⟩
  obtain ⟨m, hm⟩ : ∃ m, L0.length = m := ⟨_, rfl⟩
  have hmb : m ≤ 1048576 := by rw [← hm, hL0, lvL_len]; omega
  rw [← hL0] at C2 ⊢
  obtain ⟨L, hL⟩ : ∃ L : List Value, L = L0.map sv := ⟨_, rfl⟩
  have hLl := hide (show L.length = m by rw [hL, List.length_map, hm])
  have hLk := hide (show ∀ k, k < m → L[k]? = some (.string (bAt L0 k)) from fun k hk => by rw [hL]; exact bAt_getT L0 k (by omega))
  rw [← hL]
  replace hL := hide hL; replace hL0 := hide hL0; replace hm := hide hm
  clear hr hs
  go_enter Try.func23, Try.ntmps23
  go_wp2_with fail
  refine (unhide C1).mono ?_
  rintro e w1 ⟨⟨v1, rfl, gs, hN1⟩, hb1⟩
  have c2 := hide (unhide C2 w1 v1 gs hN1)
  have hmem := hide hN1.mem
  clear C1 C2 hN1
  go_wp2_with fail
  refine (unhide c2).mono ?_
  rintro e w2 ⟨v2, rfl, gs2, hN2, hLn, hK⟩
  have hB2 := hb1.trans (hK.below w.heap.size hb1.size (fun k hk hmm => by have := (unhide hmem k hmm).1; omega))
  have HR := hide (show ∀ k, k < m → ∃ gv c, v2 = .slice (some ⟨gv, 0, none⟩) m c ∧ gv < w2.heap.size ∧ w2.cell? ⟨gv, k, none⟩ = some (.pointer (some ⟨gAt gs2 k, 0, none⟩)) ∧ gAt gs2 k < w2.heap.size ∧ w2.cell? ⟨gAt gs2 k, 0, none⟩ = some (.string (bAt L0 k)) from fun k hk => by
    obtain ⟨gv, cc, e, hlt⟩ := hN2.row (unhide hm) (by omega)
    obtain ⟨_, b, u, hC⟩ := hN2.2.2.2 k (by rw [unhide hm]; exact hk)
    have ho := hN2.1
    rw [e] at ho
    exact ⟨gv, cc, e, hlt, ho.cell (gAt_get gs2 _ (by rw [hN2.2.1, unhide hm]; exact hk)), hC.lt, hC.cell 0 rfl⟩)
  obtain ⟨a2, c2', rfl⟩ := hN2.shape
  rw [unhide hm] at HR ⊢
  clear c2 hLn hK hN2 hb1 hmem
  have hs2 := hB2.size
  go_wp2_with (at_make; refine wpList_make_full _ rfl _ _ 22 rfl w2.heap.size 9 i0 (.string ⟨#[]⟩) 1 Try.underlying22 hi hz0 hz1 _ _ _ _ m rfl rfl rfl rfl (by rw [hz2]; omega) (by unfold maxLen; omega) (Nat.le_refl _) ?_; intro w3 hown3 hgrow3)
  have hr0 : OwnV w3 w2.heap.size 9 (.slice (some ⟨w2.heap.size, 0, none⟩) m m) (L.take 0 ++ List.replicate (m - 0) (.string ⟨#[]⟩)) := by
    rw [madeT] at hown3
    unfold OwnV
    simpa using hown3
  have hb0 : Below w2.heap.size w2 w3 := (Below.refl w2.heap.size w2).grown hgrow3 (Nat.le_refl _) (fun k hk => by cases hk)
  clear hown3 hgrow3
  go_loopw [18] (fun ti wr => ∃ k : Nat, k ≤ m ∧ ti = .int .i64 k ∧ Hid (OwnV wr w2.heap.size 9 (.slice (some ⟨w2.heap.size, 0, none⟩) m m) (L.take k ++ List.replicate (m - k) (.string ⟨#[]⟩))) ∧ Below w2.heap.size w2 wr) (fun ti _ => m - (intOf ti).toNat)
  case atStart => exact ⟨0, Nat.zero_le _, rfl, hide hr0, hb0⟩
  case round =>
    obtain ⟨k, hk, rfl, HO, hb⟩ := hrel
    clear hr0 hb0
    by_cases hlt : k < m
    · have hk' : (k : Int) < (m : Int) := by omega
      have hk0 : (0 : Int) ≤ (k : Int) := by omega
      obtain ⟨gv, cc, he, hgv, d1, hg2, d2⟩ := unhide HR k hlt
      obtain ⟨rfl, _, rfl⟩ := Value.slice.inj he
      have d3 := (hb.cell (p := ⟨gv, k, none⟩) hgv).trans d1
      have d4 := (hb.cell (p := ⟨gAt gs2 k, 0, none⟩) hg2).trans d2
      have HF := hide (fillV (z := .string ⟨#[]⟩) (unhide hLk k hlt) (unhide hLl))
      have hO := unhide HO
      obtain ⟨u, hu⟩ : ∃ u, (L.take k ++ List.replicate (m - k) (.string ⟨#[]⟩))[k]? = some u := ⟨_, List.getElem?_eq_getElem (by have := hO.len; omega)⟩
      have cu := hO.cell hu
      have cz := hO.frozen k
      have ho2 := hO.set k (.string (bAt L0 k))
      rw [unhide HF] at ho2
      replace ho2 := hide ho2
      have hB3 := hb.setCell (p := ⟨w2.heap.size, k, none⟩) (Nat.le_refl _) (.string (bAt L0 k))
      generalize bAt L0 k = x at *
      generalize gAt gs2 k = gk at *
      replace hu := hide hu
      clear hO HO HF HR hLk d1 d2
      go_wp2
      exact ⟨⟨k + 1, by omega, by go_num, ho2, hB3⟩, by simp [intOf]; omega⟩
    · have hk' : ¬ (k : Int) < (m : Int) := by omega
      have hkm : k = m := by omega
      have hO : OwnV wr w2.heap.size 9 (.slice (some ⟨w2.heap.size, 0, none⟩) m m) L := by
        have h := unhide HO
        rw [hkm, Nat.sub_self, List.take_of_length_le (by rw [unhide hLl]; exact Nat.le_refl _)] at h
        simpa using h
      have hfin := hide (hO.low hs2)
      have hB3 := hB2.trans (hb.mono hs2)
      clear HO HR hO
      go_wp2
      go_ret
      exact ⟨⟨_, rfl, unhide hfin⟩, hB3⟩
/-- How far a tree of four leaves is joined. -/
def Stg (w : World) (v : Value) (gs : List Nat) (l : List ByteArray) : Nat → World → Value → Prop
  | 0, wr, tv => wr = w ∧ tv = v
  | 1, wr, tv => ∃ gs1, Nds wr w.heap.size tv gs1 (lvs l 1) ∧ Lnk wr gs gs1 l 2 ∧ KpS (fun q => q ∈ gs) w wr
  | 2, wr, tv => ∃ gs1 gs2, Nds wr w.heap.size tv gs2 (lvs l 2) ∧ Lnk wr gs gs1 l 2 ∧ Lnk wr gs1 gs2 (lvs l 1) 1 ∧ (∀ i, i < 2 → gAt gs1 i < gAt gs2 0 ∧ w.heap.size ≤ gAt gs1 i) ∧ KpS (fun q => q ∈ gs) w wr
  | _, _, _ => False
theorem Stg.shape {w : World} {base : Nat} {v : Value} {gs : List Nat} {l : List ByteArray} (hN : Nds w base v gs l) (hl : l.length = 4) {k : Nat} {wr : World} {tv : Value} (h : Stg w v gs l k wr tv) : ∃ a c n, tv = .slice a n c ∧ n = 4 / 2 ^ k ∧ k ≤ 2 := by
  rcases k with _ | _ | _ | k
  · obtain ⟨rfl, rfl⟩ := h
    obtain ⟨a, c, e⟩ := hN.shape
    exact ⟨a, c, _, e, hl, by omega⟩
  · obtain ⟨gs1, h1, _⟩ := h
    obtain ⟨a, c, e⟩ := h1.shape
    exact ⟨a, c, _, e, lvs_len l hl 1, by omega⟩
  · obtain ⟨gs1, gs2, h1, _⟩ := h
    obtain ⟨a, c, e⟩ := h1.shape
    exact ⟨a, c, _, e, lvs_len l hl 2, by omega⟩
  · exact h.elim
theorem stg_up {w : World} {base : Nat} {v : Value} {gs : List Nat} {l : List ByteArray} (hN : Nds w base v gs l) (hl : l.length = 4) (hs : ∀ x ∈ l, x.size ≤ 1048576) (k : Nat) (hk : k < 2) (wr : World) (tv : Value) (h : Stg w v gs l k wr tv) :
    Calls Try.prog 38 #[.int .i64 ((k + 1 : Nat) : Int), tv] wr fun e w' => ∃ v', e = .returned v' ∧ Stg w v gs l (k + 1) w' v' := by
  rcases k with _ | _ | k
  · obtain ⟨rfl, rfl⟩ := h
    refine (nodesAbove_any ((0 + 1 : Nat) : Int) l gs base tv wr hN hs (by omega)).mono ?_
    rintro e w' ⟨v', rfl, gs1, h1, h2, h3⟩
    rw [hl] at h2
    exact ⟨v', rfl, gs1, h1, h2, h3⟩
  · obtain ⟨gs1, h1, h2, h3⟩ := h
    have hl1 : (lvs l 1).length = 2 := lvs_len l hl 1
    refine (nodesAbove_any ((0 + 1 + 1 : Nat) : Int) (lvs l 1) gs1 w.heap.size tv wr h1 (lvs_size l _ (by omega) hs 1) (by omega)).mono ?_
    rintro e w' ⟨v', rfl, gs2, n1, n2, n3⟩
    rw [hl1] at n2
    have hsz := h3.size
    refine ⟨v', rfl, gs1, gs2, n1.low hsz, ?_, n2, ?_, h3.trans2 n3 (fun i hi hm => by have := (h1.mem i hm).1; omega)⟩
    · intro i hi
      obtain ⟨c1, c2⟩ := h2 i hi
      have g1 := (hN.mem _ (gAt_mem gs (2 * i) (by rw [hN.2.1]; omega))).2
      have g2 := (hN.mem _ (gAt_mem gs (2 * i + 1) (by rw [hN.2.1]; omega))).2
      exact ⟨c1.kps n3 (fun hm => by have := (h1.mem _ hm).1; omega), c2.kps n3 (fun hm => by have := (h1.mem _ hm).1; omega)⟩
    · intro i hi
      have g1 := h1.mem _ (gAt_mem gs1 i (by rw [h1.2.1, hl1]; omega))
      have hl2 : (lvL ((0 + 1 + 1 : Nat) : Int) (lvs l 1)).length = 1 := by rw [lvL_len, hl1]
      have g2 := n1.mem _ (gAt_mem gs2 0 (by rw [n1.2.1, hl2]; omega))
      exact ⟨by omega, g1.1⟩
  · omega
/-- What is left behind a tree of four leaves. -/
def Trd (w w' : World) (gs gs1 : List Nat) (l : List ByteArray) (g : Nat) : Prop :=
  Lnk w' gs gs1 l 2 ∧ Lnk w' gs1 [g] (lvs l 1) 1 ∧ (∃ b u, CB w' g 54 (tn (bAt (lvs l 2) 0) b u)) ∧ (∀ i, i < 2 → gAt gs1 i < g ∧ w.heap.size ≤ gAt gs1 i) ∧ KpS (fun q => q ∈ gs) w w'
set_option maxRecDepth 20000 in
set_option maxHeartbeats 1000000 in
theorem rootAbove_any (l : List ByteArray) (gs : List Nat) (base : Nat) (v : Value) (w : World) (hN : Nds w base v gs l) (hl : l.length = 4) (hs : ∀ x ∈ l, x.size ≤ 1048576) :
    Calls Try.prog 40 #[v] w fun e w' => ∃ g, e = .returned (pv g) ∧ ∃ gs1, Trd w w' gs gs1 l g := by
  have HS := hide (fun (k : Nat) (wr : World) (tv : Value) (h : Stg w v gs l k wr tv) => h.shape hN hl)
  have HU := hide (fun (k : Nat) (hk : k < 2) (wr : World) (tv : Value) (h : Stg w v gs l k wr tv) => stg_up hN hl hs k hk wr tv h)
  have HE := hide (show ∀ wr a n c, Stg w v gs l 2 wr (.slice a n c) → ∃ gv g, a = some ⟨gv, 0, none⟩ ∧ wr.cell? ⟨gv, 0, none⟩ = some (.pointer (some ⟨g, 0, none⟩)) ∧ ∃ gs1, Trd w wr gs gs1 l g from fun wr a n c h => by
    obtain ⟨gs1, gs2, n1, n2, n3, n4, n5⟩ := h
    have hl2 : (lvs l 2).length = 1 := lvs_len l hl 2
    obtain ⟨gv, cc, e, hlt⟩ := n1.row hl2 (by omega)
    obtain ⟨rfl, rfl, rfl⟩ := Value.slice.inj e
    have hg2 : gs2.length = 1 := by rw [n1.2.1, hl2]
    obtain ⟨g, rfl⟩ : ∃ g, gs2 = [g] := List.length_eq_one_iff.1 hg2
    refine ⟨gv, g, rfl, n1.1.cell (gAt_get [g] 0 (by omega)), gs1, n2, n3, ?_, n4, n5⟩
    exact (n1.2.2.2 0 (by omega)).2)
  have H0 := hide (show Stg w v gs l 0 w v from ⟨rfl, rfl⟩)
  clear hN hs
  generalize Stg w v gs l = St at *
  go_enter Try.func40, Try.ntmps40
  go_wp2
  go_loopw [0, 3] (fun tv ti wr => ∃ k : Nat, ti = .int .i64 ((k + 1 : Nat) : Int) ∧ Hid (St k wr tv)) (fun _ ti _ => 5 - (intOf ti).toNat)
  case atStart => exact ⟨0, rfl, H0⟩
  case round =>
    clear H0
    obtain ⟨k, rfl, HR⟩ := hrel
    obtain ⟨a, c, n, rfl, hn, hk2⟩ := unhide HS k wr _ (unhide HR)
    by_cases hlt : k < 2
    · have hn1 : n > 1 := by
        rw [hn]
        rcases show k = 0 ∨ k = 1 by omega with rfl | rfl <;> decide
      have hn2 : (1 : Int) < (n : Int) := by omega
      have c1 := hide (unhide HU k hlt wr _ (unhide HR))
      replace hn := hide hn
      clear HR HU HS HE
      go_wp2_with fail
      refine (unhide c1).mono ?_
      rintro e w1 ⟨v', rfl, h1⟩
      have HR1 := hide h1
      clear c1 h1
      go_wp2
      exact ⟨⟨k + 1, by go_num, HR1⟩, by simp [intOf]; omega⟩
    · obtain rfl : k = 2 := by omega
      have hn1 : n = 1 := by rw [hn]
      subst hn1
      obtain ⟨gv, g, rfl, d, gs1, ht⟩ := unhide HE wr _ _ _ (unhide HR)
      replace ht := hide ht
      clear HR HU HS HE hn
      go_wp2
      go_ret
      exact ⟨g, rfl, gs1, unhide ht⟩
end Go.Proofs.Ytljjajbkaffofau

/- Trees by the project's own functions: roots and paths, over the loaded program. -/
namespace Go.Proofs.Ytljjajbkaffofau
open Go.RowKit
theorem sums_le (l : List ByteArray) (h : l.length + sumS l ≤ 1048576) : ∀ x ∈ l, x.size ≤ 1048576 := by
  intro x hx
  obtain ⟨i, hi, rfl⟩ := List.getElem_of_mem hx
  have := sumS_at l i hi
  omega
theorem cell_lt15 {w : World} {g o : Nat} {v : Value} (h : w.cell? ⟨g, o, none⟩ = some v) : g < w.heap.size := by
  unfold World.cell? at h
  by_cases hg : g < w.heap.size
  · exact hg
  · rw [Array.getElem?_eq_none (show w.heap.size ≤ g by omega)] at h
    cases h
def lenOf15 : Value → Nat
  | .slice _ n _ => n
  | _ => 0
set_option maxRecDepth 20000 in
set_option maxHeartbeats 1000000 in
theorem implRootOf_any (l : List ByteArray) (v : Value) (w : World) (hr : RdV w v (l.map sv)) (hs : ∀ x ∈ l, x.size ≤ 1048576) :
    Calls Try.prog 25 #[v] w fun e w' => e = .returned (.string (rootB l)) ∧ Below w.heap.size w w' := by
  obtain ⟨a, c, rfl, -⟩ := hr.open
  rw [List.length_map] at hr ⊢
  by_cases h4 : l.length = 4
  · have ER := hide (show rootB l = bAt (lvs l 2) 0 by unfold rootB; rw [if_pos h4])
    rw [unhide ER]
    have C1 := hide (nodesOf_any l _ w hr (by omega))
    have C2 := hide (fun W u gs (h : Nds W w.heap.size u gs l) => rootAbove_any l gs w.heap.size u W h h4 hs)
    rw [h4] at C1 ⊢
    generalize hR : bAt (lvs l 2) 0 = R at *
    replace hR := hide hR
    clear hr ER
    replace h4 := hide h4
    go_enter Try.func25, Try.ntmps25
    go_wp2_with fail
    refine (unhide C1).mono ?_
    rintro e w1 ⟨⟨v1, rfl, gs, hN1⟩, hb1⟩
    have c2 := hide (unhide C2 w1 v1 gs hN1)
    have hmem := hide hN1.mem
    clear C1 C2 hN1
    go_wp2_with fail
    refine (unhide c2).mono ?_
    rintro e w2 ⟨g, rfl, gs1, t1, t2, ⟨b, u, t3⟩, t4, t5⟩
    have hB2 := hb1.trans (t5.below w.heap.size hb1.size (fun k hk hmm => by have := (unhide hmem k hmm).1; omega))
    rw [unhide hR] at t3
    have d : w2.cell? ⟨g, 0, none⟩ = some (.string R) := t3.cell 0 rfl
    clear t1 t2 t3 t4 t5 hmem c2 hb1
    unfold pv
    go_wp2
    go_ret
    exact ⟨rfl, hB2⟩
  · have ER := hide (show rootB l = ⟨#[]⟩ by unfold rootB; rw [if_neg h4])
    rw [unhide ER]
    have h4' : ¬ (l.length : Int) = 4 := by omega
    clear hr
    go_enter Try.func25, Try.ntmps25
    go_wp2
    go_ret
    exact ⟨rfl, Below.refl _ _⟩
end Go.Proofs.Ytljjajbkaffofau

/- Trees by the project's own functions: the root by a path, over the loaded program. -/
namespace Go.Proofs.Ytljjajbkaffofau
open Go.RowKit
end Go.Proofs.Ytljjajbkaffofau

/- A row of texts that comes in as an argument. -/
namespace Go.Proofs.Ytljjajbkaffofau
open Go.ChangeShapes Go.WideShapes Go.ChangeAt Go.RowKit Go.WideElems
theorem lt_of_cellT {w : World} {g o : Nat} {u : Value} (h : w.cell? ⟨g, o, none⟩ = some u) : g < w.heap.size := by
  rcases Nat.lt_or_ge g w.heap.size with h1 | h1
  · exact h1
  · unfold World.cell? at h
    rw [Array.getElem?_eq_none h1] at h
    cases h
theorem open_texts_rd {H : Type} {enc : TypeId × Value → H} {W : World} {o : Option Addr} {len cap : Nat} {d : DataW H} {ps : List MemPlace} (h0 : DataW.Trod enc Try.prog W 0 (fun _ => true) true 22 (.slice o len cap) d ps) :
    ∃ ss : List ByteArray, RdV W (.slice o len cap) (ss.map sv) ∧ (∀ x ∈ ss, x.size ≤ maxLen) ∧ ss.length ≤ maxLen := by
  obtain ⟨fuel, hf⟩ := h0
  rcases open_strings Try.underlying22 Try.underlying9 (by kernel_rfl) hf with ⟨hcs, hx⟩ | ⟨a, len', cap', zs, hcs, _, hl, hm, hz, hx, hcell, hwz⟩
  · simp [Value.cells] at hcs
    obtain ⟨rfl, rfl, rfl⟩ := hcs
    exact ⟨[], .inl ⟨_, _, rfl, rfl⟩, (fun x hx => absurd hx (by simp)), by simp⟩
  · simp [Value.cells] at hcs
    obtain ⟨rfl, rfl, rfl⟩ := hcs
    simp only [if_true] at hz
    have hl2 : len ≤ zs.length := by omega
    have htl : (zs.take len).length = len := by rw [List.length_take]; omega
    refine ⟨zs.take len, ?_, fun x hx => hwz x (List.mem_of_mem_take hx), by rw [htl]; omega⟩
    by_cases h0 : len = 0
    · subst h0
      exact .inl ⟨_, _, rfl, by simp⟩
    · obtain ⟨b, off, spot⟩ := a
      have hspot : spot = none := by simpa [Addr.add] using World.cell?_spot (hcell 0 (by omega))
      subst hspot
      have hc2 : ∀ j, j < zs.length → W.cell? ⟨b, off + j, none⟩ = some (.string (zs.getD j ByteArray.empty)) := fun j hj => by rw [← Go.WideShapes.add_plain]; exact hcell j hj
      refine .inr ⟨b, off, cap, by rw [List.length_map, htl], by rw [List.length_map, htl]; omega, ?_, ?_⟩
      · have := hc2 0 (by omega)
        exact lt_of_cellT this
      · intro j x hj
        rw [List.getElem?_map] at hj
        have hjl : j < len := by
          rcases Nat.lt_or_ge j len with h | h
          · exact h
          · rw [List.getElem?_eq_none (by omega)] at hj; cases hj
        rw [List.getElem?_take, if_pos hjl] at hj
        rw [hc2 j (by omega)]
        rw [List.getElem?_eq_getElem (by omega)] at hj
        simp only [Option.map_some, Option.some.injEq] at hj
        rw [← hj, List.getD_eq_getElem?_getD, List.getElem?_eq_getElem (by omega)]
        rfl
end Go.Proofs.Ytljjajbkaffofau

/- The laws FnExactNode, LevelUp, RootOf, PathOf, RootBy, walked over the loaded program; what the project's function answers is a premise. -/
namespace Go.Proofs.Ytljjajbkaffofau
open Go.RowKit
theorem OwnV.loT {w : World} {base : Nat} {e : TypeId} {v : Value} {xs : List Value} (h : OwnV w base e v xs) : ∀ k, v.ownBlock = some k → base ≤ k ∧ k < w.heap.size := fun k hk => World.ownsRow.lt h k hk
theorem lvL_len9 (level : Int) (l : List ByteArray) (h : l.length + sumS l ≤ 1048576) : (lvL level l).length ≤ 1048576 := by rw [lvL_len]; omega
theorem pathL_len9 (l : List ByteArray) (leaf : Int) : (pathL l leaf).length ≤ 1000 := by
  unfold pathL
  split
  · rw [List.length_map, List.length_range]; omega
  · exact Nat.zero_le _
set_option maxRecDepth 20000 in
set_option maxHeartbeats 1000000 in
theorem lawNode_any (level : Int) (place : Int) (a : ByteArray) (b : ByteArray) (w : World) (CI : a.size ≤ 1048576 → b.size ≤ 1048576 → ∀ W : World, Below w.heap.size w W → Calls Try.prog 21 #[.int .i64 level, .int .i64 place, .string a, .string b] W fun e w' => e = .returned (.string (nodeB level place a b)) ∧ Below W.heap.size W w') :
    Calls Try.prog 6 #[.int .i64 level, .int .i64 place, .string a, .string b] w fun e w' => e = .returned (.bool true) ∧ Below w.heap.size w w' := by
  by_cases hs0 : (1048576 : Int) < (a.size : Int)
  · go_enter Try.func6, Try.ntmps6
    go_wp2
    go_ret
    exact ⟨rfl, Below.refl _ _⟩
  have ns0 : a.size ≤ 1048576 := by omega
  by_cases hs1 : (1048576 : Int) < (b.size : Int)
  · go_enter Try.func6, Try.ntmps6
    go_wp2
    go_ret
    exact ⟨rfl, Below.refl _ _⟩
  have ns1 : b.size ≤ 1048576 := by omega
  have CS := hide (fun W => specNode_any level place a b ns0 ns1 W)
  replace CI := hide (CI ns0 ns1)
  have _hx := True.intro
  generalize nodeB level place a b = xs at *
  have HT0 := Below.refl w.heap.size w
  go_enter Try.func6, Try.ntmps6
  have HT1 := HT0
  go_wp2_with fail
  refine ((unhide CS) w).mono ?_
  rintro e w3 ⟨rfl, hb3⟩
  have HT3 := HT1.trans (hb3.mono HT1.size)
  clear hb3 HT1 CS
  go_wp2_with fail
  refine ((unhide CI) w3 HT3).mono ?_
  rintro e w6 ⟨rfl, hb6⟩
  have HT6 := HT3.trans (hb6.mono HT3.size)
  clear hb6
  go_wp2
  go_ret
  exact ⟨rfl, HT6⟩
set_option maxRecDepth 20000 in
set_option maxHeartbeats 1000000 in
theorem lawLevelUp_any (level : Int) (l : List ByteArray) (va : Value) (w : World) (CI : l.length + sumS l ≤ 1048576 → ∀ W : World, Below w.heap.size w W → ∀ (ua : Value), RdV W ua (l.map sv) → Calls Try.prog 23 #[.int .i64 level, ua] W fun e w' => (∃ v, e = .returned v ∧ OwnV w' W.heap.size 9 v ((lvL level l).map sv)) ∧ Below W.heap.size W w') (ra : RdV w va (l.map sv)) (hbx : ∀ x ∈ l, x.size ≤ maxLen) (hlx : l.length ≤ maxLen) :
    Calls Try.prog 7 #[.int .i64 level, va] w fun e w' => e = .returned (.bool true) ∧ Below w.heap.size w w' := by
  have CZ := hide (szStrS_any l va w ra hbx hlx)
  have RA := hide (fun (W : World) (h : Below w.heap.size w W) => ra.below h)
  obtain ⟨a1, c1, rfl⟩ := ra.shape
  clear ra hbx hlx
  rw [List.length_map] at RA CZ ⊢
  by_cases hz : l.length + sumS l ≤ 1048576
  rotate_left
  · obtain ⟨n1, hn1⟩ : ∃ n, l.length = n := ⟨_, rfl⟩
    rw [hn1] at CZ ⊢
    clear RA CI
    go_enter Try.func7, Try.ntmps7
    go_wp2_with fail
    refine (unhide CZ).mono ?_
    rintro e w1 ⟨⟨z, rfl, hzz⟩, hw1⟩
    have hw1' := hw1.symm
    subst hw1'
    clear hw1
    have hz0 : z < 0 := hzz.elim id (fun h => absurd h.2 (by rw [hn1] at hz; exact hz))
    go_wp2
    go_ret
    exact ⟨rfl, Below.refl _ _⟩
  have CS := hide (fun (W : World) (ua : Value) (h1 : RdV W ua (l.map sv)) => specLevelUp_any level l ua W h1 (sumS_le l _ (by omega)) (by omega))
  replace CI := hide (CI hz)
  have hxl : (lvL level l).length ≤ 1048576 := lvL_len9 level l hz
  generalize lvL level l = xs at *
  have nl : l.length ≤ 1048576 := by omega
  obtain ⟨n1, hn1⟩ : ∃ n, l.length = n := ⟨_, rfl⟩
  have TA := hide (fun (W : World) (h : Below w.heap.size w W) => toStrS_any l _ W (unhide RA W h) nl)
  rw [hn1] at TA CZ nl ⊢
  clear RA
  replace hz := hide hz
  have HT0 := Below.refl w.heap.size w
  go_enter Try.func7, Try.ntmps7
  go_wp2_with fail
  refine (unhide CZ).mono ?_
  rintro e w1 ⟨⟨z, rfl, hzz⟩, hw1⟩
  have hw1' := hw1.symm
  subst hw1'
  clear hw1 CZ
  by_cases hz0 : z < 0
  · clear hzz
    go_wp2
    go_ret
    exact ⟨rfl, Below.refl _ _⟩
  clear hzz
  go_wp2_with fail
  refine ((unhide TA) w HT0).mono ?_
  rintro e w1 ⟨⟨p1, q1, rfl, o1⟩, hb1⟩
  have HT1 := HT0.trans (hb1.mono HT0.size)
  clear hb1
  go_wp2_with fail
  refine ((unhide CS) w1 _ o1.rdv).mono ?_
  rintro e w3 ⟨⟨vS, rfl, oS⟩, hb3⟩
  have HT3 := HT1.trans (hb3.mono HT1.size)
  have rS3 := oS.rdv
  have bS := fun k hk => (oS.loT k hk).2
  clear o1 oS hb3 HT1 CS
  go_wp2_with fail
  refine ((unhide TA) w3 HT3).mono ?_
  rintro e w4 ⟨⟨p4, q4, rfl, oX4⟩, hb4⟩
  have HT4 := HT3.trans (hb4.mono HT3.size)
  have bX := fun k hk => oX4.loT k hk
  have rS4 := rS3.below hb4
  have z34 := hb4.size
  clear rS3 hb4
  go_wp2_with fail
  refine ((unhide CI) w4 HT4 _ oX4.rdv).mono ?_
  rintro e w6 ⟨⟨vG, rfl, oG6⟩, hb6⟩
  have HT6 := HT4.trans (hb6.mono HT4.size)
  have bG := fun k hk => (oG6.loT k hk).1
  have rS6 := rS4.below hb6
  have oX6 := oX4.below hb6
  have z46 := hb6.size
  clear rS4 oX4 hb6
  go_wp2_with fail
  refine (eqStrS_any xs _ _ w6 oG6.rdv rS6 (by omega)).mono ?_
  rintro e w7 ⟨rfl, hb7⟩
  have HT7 := HT6.trans (hb7.mono HT6.size)
  have rS7 := rS6.below hb7
  have oX7 := oX6.below hb7
  have oG7 := oG6.below hb7
  clear rS6 oX6 oG6 hb7
  go_wp2_with fail
  refine ((unhide TA) w7 HT7).mono ?_
  rintro e w8 ⟨⟨p8, q8, rfl, o8⟩, hb8⟩
  have HT8 := HT7.trans (hb8.mono HT7.size)
  have rS8 := rS7.below hb8
  have oX8 := oX7.below hb8
  have oG8 := oG7.below hb8
  clear rS7 oX7 oG7 hb8
  go_wp2_with fail
  refine (eqStrS_any l _ _ w8 oX8.rdv o8.rdv (by omega)).mono ?_
  rintro e w11 ⟨rfl, hb11⟩
  have HT11 := HT8.trans (hb11.mono HT8.size)
  have rS11 := rS8.below hb11
  have oX11 := oX8.below hb11
  have oG11 := oG8.below hb11
  clear rS8 oX8 oG8 hb11 o8
  obtain ⟨M1, hM1⟩ : ∃ M, M = 1 + (l.map sv).length := ⟨_, rfl⟩
  have hM1' := hM1
  rw [List.length_map, hn1] at hM1'
  have hm1 : M1 ≤ 2000000 := by omega
  have hm10 : ¬ (M1 : Int) < 0 := by omega
  replace hM1' := hide hM1'
  have K1 := hide (markStrS_own _ w3.heap.size 1 M1 _ w11 hM1 (by rw [List.length_map, hn1]; omega) (by omega) (by omega) oX11)
  rw [show ((1 : Nat) : Int) = 1 from rfl] at K1
  replace hM1 := hide hM1
  go_wp2_with fail
  refine (unhide K1).mono ?_
  rintro e w12 ⟨rfl, _, hg12⟩
  have rS12 := rS11.grown hg12 (fun k hk h => by have h1 := bS k hk; have h2 := bX k h; omega)
  have oG12 := oG11.grown hg12 (fun k hk h => by have h1 := bX k h; have h2 := bG k hk; omega)
  have HT12 := HT11.grown hg12 HT11.size (fun k hk => by have h2 := bX k hk; have := HT3.size; omega)
  clear rS11 oX11 oG11 hg12 K1
  go_wp2_with fail
  refine (eqStrS_any xs _ _ w12 oG12.rdv rS12 (by omega)).mono ?_
  rintro e w14 ⟨rfl, hb14⟩
  have HT14 := HT12.trans (hb14.mono HT12.size)
  have rS14 := rS12.below hb14
  have oG14 := oG12.below hb14
  clear rS12 oG12 hb14
  obtain ⟨nx, hnx⟩ : ∃ n, xs.length = n := ⟨_, rfl⟩
  rw [hnx] at hxl
  obtain ⟨M3, hM3⟩ : ∃ M, M = 1 + (xs.map sv).length := ⟨_, rfl⟩
  have hM3' := hM3
  rw [List.length_map, hnx] at hM3'
  have hm3 : M3 ≤ 2000000 := by omega
  have hm30 : ¬ (M3 : Int) < 0 := by omega
  have K3 := hide (markStrS_own _ w4.heap.size 1 M3 _ w14 hM3 (by rw [List.length_map, hnx]; omega) (by omega) (by omega) oG14)
  rw [show ((1 : Nat) : Int) = 1 from rfl] at K3
  rw [List.length_map, hnx] at K3
  have K4 := hide (fun (W : World) (h : RdV W vG (mkT 1 nx)) => heldStrS_any vG 1 nx M3 W hM3' (by omega) (by omega) (by omega) h)
  rw [show ((1 : Nat) : Int) = 1 from rfl] at K4
  replace hM3 := hide hM3; replace hM3' := hide hM3'; replace hnx := hide hnx
  go_wp2_with fail
  refine (unhide K3).mono ?_
  rintro e w15 ⟨rfl, oG15, hg15⟩
  have rS15 := rS14.grown hg15 (fun k hk h => by have h1 := bS k hk; have h2 := bG k h; omega)
  have HT15 := HT14.grown hg15 HT14.size (fun k hk => by have h2 := bG k hk; have := HT3.size; omega)
  clear rS14 oG14 hg15 K3
  go_wp2_with fail
  refine ((unhide K4) w15 oG15.rdv).mono ?_
  rintro e w16 ⟨rfl, hb16⟩
  have HT16 := HT15.trans (hb16.mono HT15.size)
  have rS16 := rS15.below hb16
  have oG16 := oG15.below hb16
  clear rS15 oG15 hb16
  go_wp2_with fail
  refine ((unhide TA) w16 HT16).mono ?_
  rintro e w17 ⟨⟨p17, q17, rfl, oU17⟩, hb17⟩
  have HT17 := HT16.trans (hb17.mono HT16.size)
  have rS17 := rS16.below hb17
  have oG17 := oG16.below hb17
  clear rS16 oG16 hb17
  go_wp2_with fail
  refine ((unhide CI) w17 HT17 _ oU17.rdv).mono ?_
  rintro e w19 ⟨⟨vH, rfl, oH19⟩, hb19⟩
  have HT19 := HT17.trans (hb19.mono HT17.size)
  have rS19 := rS17.below hb19
  have oG19 := oG17.below hb19
  clear rS17 oG17 hb19 oU17
  go_wp2_with fail
  refine (eqStrS_any xs _ _ w19 oH19.rdv rS19 (by rw [unhide hnx]; omega)).mono ?_
  rintro e w20 ⟨rfl, hb20⟩
  have HT20 := HT19.trans (hb20.mono HT19.size)
  have oG20 := oG19.below hb20
  clear rS19 oG19 hb20 oH19
  go_wp2_with fail
  refine ((unhide K4) w20 oG20.rdv).mono ?_
  rintro e w21 ⟨rfl, hb21⟩
  have HT21 := HT20.trans (hb21.mono HT20.size)
  go_wp2
  go_ret
  exact ⟨rfl, HT21⟩
set_option maxRecDepth 20000 in
set_option maxHeartbeats 1000000 in
theorem lawRootOf_any (l : List ByteArray) (va : Value) (w : World) (CI : l.length + sumS l ≤ 1048576 → ∀ W : World, Below w.heap.size w W → ∀ (ua : Value), RdV W ua (l.map sv) → Calls Try.prog 25 #[ua] W fun e w' => e = .returned (.string (rootB l)) ∧ Below W.heap.size W w') (ra : RdV w va (l.map sv)) (hbx : ∀ x ∈ l, x.size ≤ maxLen) (hlx : l.length ≤ maxLen) :
    Calls Try.prog 8 #[va] w fun e w' => e = .returned (.bool true) ∧ Below w.heap.size w w' := by
  have CZ := hide (szStrS_any l va w ra hbx hlx)
  have RA := hide (fun (W : World) (h : Below w.heap.size w W) => ra.below h)
  obtain ⟨a1, c1, rfl⟩ := ra.shape
  clear ra hbx hlx
  rw [List.length_map] at RA CZ ⊢
  by_cases hz : l.length + sumS l ≤ 1048576
  rotate_left
  · obtain ⟨n1, hn1⟩ : ∃ n, l.length = n := ⟨_, rfl⟩
    rw [hn1] at CZ ⊢
    clear RA CI
    go_enter Try.func8, Try.ntmps8
    go_wp2_with fail
    refine (unhide CZ).mono ?_
    rintro e w1 ⟨⟨z, rfl, hzz⟩, hw1⟩
    have hw1' := hw1.symm
    subst hw1'
    clear hw1
    have hz0 : z < 0 := hzz.elim id (fun h => absurd h.2 (by rw [hn1] at hz; exact hz))
    go_wp2
    go_ret
    exact ⟨rfl, Below.refl _ _⟩
  have CS := hide (fun (W : World) (ua : Value) (h1 : RdV W ua (l.map sv)) => specRootOf_any l ua W h1 (sumS_le l _ (by omega)))
  replace CI := hide (CI hz)
  have _hx := True.intro
  generalize rootB l = xs at *
  have nl : l.length ≤ 1048576 := by omega
  obtain ⟨n1, hn1⟩ : ∃ n, l.length = n := ⟨_, rfl⟩
  have TA := hide (fun (W : World) (h : Below w.heap.size w W) => toStrS_any l _ W (unhide RA W h) nl)
  rw [hn1] at TA CZ nl ⊢
  clear RA
  replace hz := hide hz
  have HT0 := Below.refl w.heap.size w
  go_enter Try.func8, Try.ntmps8
  go_wp2_with fail
  refine (unhide CZ).mono ?_
  rintro e w1 ⟨⟨z, rfl, hzz⟩, hw1⟩
  have hw1' := hw1.symm
  subst hw1'
  clear hw1 CZ
  by_cases hz0 : z < 0
  · clear hzz
    go_wp2
    go_ret
    exact ⟨rfl, Below.refl _ _⟩
  clear hzz
  go_wp2_with fail
  refine ((unhide TA) w HT0).mono ?_
  rintro e w1 ⟨⟨p1, q1, rfl, o1⟩, hb1⟩
  have HT1 := HT0.trans (hb1.mono HT0.size)
  clear hb1
  go_wp2_with fail
  refine ((unhide CS) w1 _ o1.rdv).mono ?_
  rintro e w3 ⟨rfl, hb3⟩
  have HT3 := HT1.trans (hb3.mono HT1.size)
  clear o1 hb3 HT1 CS
  go_wp2_with fail
  refine ((unhide TA) w3 HT3).mono ?_
  rintro e w4 ⟨⟨p4, q4, rfl, oX4⟩, hb4⟩
  have HT4 := HT3.trans (hb4.mono HT3.size)
  have bX := fun k hk => oX4.loT k hk
  have z34 := hb4.size
  clear hb4
  go_wp2_with fail
  refine ((unhide CI) w4 HT4 _ oX4.rdv).mono ?_
  rintro e w6 ⟨rfl, hb6⟩
  have HT6 := HT4.trans (hb6.mono HT4.size)
  have oX6 := oX4.below hb6
  clear oX4 hb6
  go_wp2_with fail
  refine ((unhide TA) w6 HT6).mono ?_
  rintro e w8 ⟨⟨p8, q8, rfl, o8⟩, hb8⟩
  have HT8 := HT6.trans (hb8.mono HT6.size)
  have oX8 := oX6.below hb8
  clear oX6 hb8
  go_wp2_with fail
  refine (eqStrS_any l _ _ w8 oX8.rdv o8.rdv (by omega)).mono ?_
  rintro e w11 ⟨rfl, hb11⟩
  have HT11 := HT8.trans (hb11.mono HT8.size)
  have oX11 := oX8.below hb11
  clear oX8 hb11 o8
  go_wp2
  go_ret
  exact ⟨rfl, HT11⟩
end Go.Proofs.Ytljjajbkaffofau

