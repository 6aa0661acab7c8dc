/- Merged: TrI3, TrI4, TrI5, TrI6, TrI7, SgI1, SgI3, Hyp0. -/
import Derived.Test.YtjgnjjphankhnabMga1
import Derived.Test.YtjgnjjphankhnabMga2
import Derived.Test.YtjgnjjphankhnabMga3
import Derived.Test.YtjgnjjphankhnabMga4
import Derived.Test.YtjgnjjphankhnabMga5
import Derived.Test.YtjgnjjphankhnabMga6
import Derived.Test.YtjgnjjphankhnabMga7
import Derived.Test.YtjgnjjphankhnabMga8
import Derived.LaidEqlPtr
import Derived.Lib.Builder
/- Trees by the project's own functions: a row of nodes out of texts, over the loaded program. -/
namespace Go.Proofs.Ytjgnjjphankhnab
open Go.RowKit
/-- The nodes that are made so far. -/
def Ndk (w : World) (base : Nat) (gs : List Nat) (l : List ByteArray) (k : Nat) : Prop :=
  gs.length = k ∧ gs.Nodup ∧ ∀ i, i < k → base ≤ gAt gs i ∧ CB w (gAt gs i) 92 (tn (bAt l i) nilP nilP)
theorem Ndk.mem {w : World} {base : Nat} {gs : List Nat} {l : List ByteArray} {k : Nat} (h : Ndk w base gs l k) (g : Nat) (hg : g ∈ gs) : base ≤ g ∧ g < w.heap.size := by
  obtain ⟨i, hi, rfl⟩ := gAt_of_mem gs g hg
  obtain ⟨h1, h2⟩ := h.2.2 i (by rw [← h.1]; exact hi)
  exact ⟨h1, h2.lt⟩
theorem nodup_app (gs : List Nat) (g : Nat) (h : gs.Nodup) (hg : g ∉ gs) : (gs ++ [g]).Nodup := by
  rw [List.nodup_append]
  refine ⟨h, by simp, ?_⟩
  intro a ha b hb e
  rw [List.mem_singleton] at hb
  exact hg (by rw [← hb, ← e]; exact ha)
theorem Ndk.next {w w' : World} {base : Nat} {gs : List Nat} {l : List ByteArray} {k : Nat} (h : Ndk w base gs l k) (g : Nat) (hg : w.heap.size ≤ g) (hb : base ≤ w.heap.size) (hS : ∀ q ∈ gs, w'.heap[q]? = w.heap[q]?) (hn : CB w' g 92 (tn (bAt l k) nilP nilP)) : Ndk w' base (gs ++ [g]) l (k + 1) := by
  refine ⟨by rw [List.length_append, h.1]; rfl, nodup_app gs g h.2.1 (fun hm => by have := (h.mem g hm).2; omega), ?_⟩
  intro i hi
  by_cases e : i = k
  · subst e
    have e2 : gAt (gs ++ [g]) i = g := by rw [← h.1]; exact gAt_app_new gs g
    rw [e2]
    exact ⟨by omega, hn⟩
  · have hlt : i < gs.length := by rw [h.1]; omega
    rw [gAt_app_lt gs g i hlt]
    obtain ⟨h1, h2⟩ := h.2.2 i (by omega)
    refine ⟨h1, ?_⟩
    unfold CB
    rw [hS _ (gAt_mem gs i hlt)]
    exact h2
theorem Ndk.nds {w : World} {base : Nat} {gs : List Nat} {l : List ByteArray} {v : Value} (h : Ndk w base gs l l.length) (ho : OwnV w base 90 v (gs.map pv)) : Nds w base v gs l :=
  ⟨ho, h.1, h.2.1, fun i hi => ⟨(h.2.2 i hi).1, nilP, nilP, (h.2.2 i hi).2⟩⟩
set_option maxRecDepth 20000 in
set_option maxHeartbeats 1000000 in
theorem nodesOf_any (l : List ByteArray) (v : Value) (w : World) (hr : RdV w v (l.map sv)) (hn : l.length ≤ 1048576) :
    Calls Try.prog 74 #[v] w fun e w' => (∃ v', e = .returned v' ∧ ∃ gs, Nds w' w.heap.size v' gs l) ∧ Below w.heap.size w w' := by
  obtain ⟨i0, hi, hz0, hz1, hz2⟩ := info_parts infoPtr
  obtain ⟨a, c, rfl, hc⟩ := hr.open
  rw [List.length_map]
  clear hr
  obtain ⟨n, hnn⟩ : ∃ n, l.length = n := ⟨_, rfl⟩
  have HC := hide (fun k (hk : k < n) => hc k _ (bAt_getT l k (by rw [hnn]; exact hk)))
  have HN := hide (fun (W : World) (u : Value) (gs : List Nat) (h : Ndk W w.heap.size gs l n) (ho : OwnV W w.heap.size 90 u (gs.map pv)) => (show Nds W w.heap.size u gs l from (by rw [← hnn] at h; exact h.nds ho)))
  rw [hnn] at hn ⊢
  replace hnn := hide hnn
  clear hc
  go_enter Try.func74, Try.ntmps74
  go_wp2_with (at_make; refine wpList_make_full _ rfl _ _ 94 rfl w.heap.size 90 i0 (.pointer none) 1 Try.underlying94 hi hz0 hz1 _ _ _ _ n rfl rfl rfl rfl (by rw [hz2]; omega) (by unfold maxLen; omega) (Nat.le_refl _) ?_; intro w1 hown1 hgrow1)
  have hr0 : OwnV w1 w.heap.size 90 (.slice (some ⟨w.heap.size, 0, none⟩) n n) (filG [] n) := by
    have h := madeP n
    unfold nilP at h
    rw [h] at hown1
    unfold OwnV
    rw [filG_len [] n (Nat.zero_le _)]
    exact hown1
  have hb0 : Below w.heap.size w w1 := (Below.refl w.heap.size w).grown hgrow1 (Nat.le_refl _) (fun k hk => by cases hk)
  clear hown1 hgrow1
  go_loopw [11] (fun ti wr => ∃ (k : Nat) (gs : List Nat), k ≤ n ∧ ti = .int .i64 k ∧ Hid (OwnV wr w.heap.size 90 (.slice (some ⟨w.heap.size, 0, none⟩) n n) (filG gs n)) ∧ Hid (Ndk wr w.heap.size gs l k) ∧ Below w.heap.size w wr ∧ w.heap.size < wr.heap.size) (fun ti _ => n - (intOf ti).toNat)
  case atStart => exact ⟨0, [], Nat.zero_le _, rfl, hide hr0, hide ⟨rfl, List.nodup_nil, fun i hi => absurd hi (Nat.not_lt_zero _)⟩, hb0, (hr0.lt _ rfl).2⟩
  case round =>
    obtain ⟨k, gs, hk, rfl, HO, HK, hb, hszz⟩ := hrel
    clear hr0 hb0
    by_cases hlt : k < n
    · have hk' : (k : Int) < (n : Int) := by omega
      have hk0 : (0 : Int) ≤ (k : Int) := by omega
      obtain ⟨g, o, rfl, hg, d1⟩ := unhide HC k hlt
      have d2 := (hb.cell (p := ⟨g, o + k, none⟩) hg).trans d1
      obtain ⟨x, hx⟩ : ∃ x, x = bAt l k := ⟨_, rfl⟩
      rw [← hx] at d2
      clear d1 HC HN
      obtain ⟨W, hW, hCn, hbW, hsW⟩ := one_cb wr (tn x nilP nilP) 92
      have hO1 := (unhide HO).below hbW
      have hOl := hO1.len
      obtain ⟨u, hu⟩ : ∃ u, (filG gs n)[k]? = some u := ⟨_, List.getElem?_eq_getElem (by have h := filG_len gs n (by rw [(unhide HK).1]; exact hk); omega)⟩
      have cu := hO1.cell hu
      have cz := hO1.frozen k
      have ho2 := hO1.set k (pv wr.heap.size)
      rw [filG_set gs n k (unhide HK).1 hlt] at ho2
      have hne : wr.heap.size ≠ w.heap.size := by omega
      have hk2 : Ndk (W.setCell ⟨w.heap.size, k, none⟩ (pv wr.heap.size)) w.heap.size (gs ++ [wr.heap.size]) l (k + 1) := by
        have hM := (unhide HK).mem
        refine (unhide HK).next wr.heap.size (Nat.le_refl _) (Nat.le_of_lt hszz) ?_ ?_
        · intro q hq
          have hq2 := hM q hq
          have hoff : q ≠ w.heap.size := by
            intro e
            obtain ⟨i, hi1, hi2⟩ := gAt_of_mem gs q hq
            have hcb := ((unhide HK).2.2 i (by rw [← (unhide HK).1]; exact hi1)).2
            rw [hi2, e] at hcb
            exact (hcb.off (unhide HO) (by decide)) rfl
          rw [RowKit.Below.heap_setCell _ _ _ _ hoff]
          exact hbW.block q hq2.2
        · rw [← hx]
          exact hCn.set_other hne _
      have hB2 := (hb.trans (hbW.mono hb.size)).setCell (p := ⟨w.heap.size, k, none⟩) (Nat.le_refl _) (pv wr.heap.size)
      have hs2 : w.heap.size < W.heap.size := by omega
      replace ho2 := hide ho2; replace hk2 := hide hk2; replace hu := hide hu; replace hOl := hide hOl
      have hW2 : wr.alloc (.cells #[.string x, .pointer none, .pointer none] 92) = W := hW
      replace hx := hide hx
      clear hCn hW hO1 HO HK
      unfold pv at ho2 hk2 hB2
      go_wp2
      exact ⟨⟨k + 1, gs ++ [wr.heap.size], by omega, by go_num, ho2, hk2, hB2, by simpa using hs2⟩, by simp [intOf]; omega⟩
    · have hkn : k = n := by omega
      have hk' : ¬ (k : Int) < (n : Int) := by omega
      have hN := hide (unhide HN wr _ gs (by rw [← hkn]; exact unhide HK) (by have h := unhide HO; rw [filG_full gs n (by rw [(unhide HK).1, hkn])] at h; exact h))
      clear HC HN HO HK
      go_wp2
      go_ret
      exact ⟨⟨_, rfl, gs, unhide hN⟩, hb⟩
end Go.Proofs.Ytjgnjjphankhnab

/- Trees by the project's own functions: the nodes above a row of nodes, over the loaded program. -/
namespace Go.Proofs.Ytjgnjjphankhnab
open Go.RowKit
/-- Each two of gs stand beside each other, and below one of gs'. -/
def Lnk (w : World) (gs gs' : List Nat) (l : List ByteArray) (m : Nat) : Prop :=
  ∀ i, i < m → CB w (gAt gs (2 * i)) 92 (tn (bAt l (2 * i)) (pv (gAt gs (2 * i + 1))) (pv (gAt gs' i))) ∧ CB w (gAt gs (2 * i + 1)) 92 (tn (bAt l (2 * i + 1)) (pv (gAt gs (2 * i))) (pv (gAt gs' i)))
def AInv (w wr : World) (base : Nat) (v : Value) (gs : List Nat) (l : List ByteArray) (level : Int) (k : Nat) (gs' : List Nat) : Prop :=
  Ndk wr w.heap.size gs' (lvL level l) k ∧ Lnk wr gs gs' l k ∧ (∀ i, 2 * k ≤ i → i < l.length → ∃ b u, CB wr (gAt gs i) 92 (tn (bAt l i) b u)) ∧ OwnV wr base 90 v (gs.map pv) ∧ KpS (fun q => q ∈ gs) w wr
theorem AInv.next {w wr w2 : World} {base : Nat} {v : Value} {gs gs' : List Nat} {l : List ByteArray} {level : Int} {k m g : Nat} (hN : Nds w base v gs l) (h : AInv w wr base v gs l level k gs') (hk : k < l.length / 2)
    (hrow : OwnV wr w.heap.size 90 (.slice (some ⟨w.heap.size, 0, none⟩) m m) (filG gs' m))
    (hJ : JPost wr w2 (gAt gs (2 * k)) (gAt gs (2 * k + 1)) (bAt l (2 * k)) (bAt l (2 * k + 1)) (lvN level l k) g) :
    AInv w (w2.setCell ⟨w.heap.size, k, none⟩ (pv g)) base v gs l level (k + 1) (gs' ++ [g]) ∧ OwnV w2 w.heap.size 90 (.slice (some ⟨w.heap.size, 0, none⟩) m m) (filG gs' m) ∧ OwnV w2 base 90 v (gs.map pv) := by
  obtain ⟨hn1, hn2, hn3, hn4⟩ := hN
  obtain ⟨h1, h2, h3, h4, h5⟩ := h
  obtain ⟨j1, j2, j3, j4, j5⟩ := hJ
  have hN : Nds w base v gs l := ⟨hn1, hn2, hn3, hn4⟩
  have hlen : 2 * k + 1 < l.length := by omega
  have hsz := h5.size
  have hlt : w.heap.size < wr.heap.size := (hrow.lt _ rfl).2
  have hgl := hN.mem _ (gAt_mem gs (2 * k) (by omega))
  have hgr := hN.mem _ (gAt_mem gs (2 * k + 1) (by omega))
  have hinj := fun i j hi hj => gAt_inj gs hn3 i j hi hj
  have hgsN : ∀ i, i < gs.length → gAt gs i ≠ w.heap.size := fun i hi e => by have := (hN.mem _ (gAt_mem gs i hi)).2; omega
  have keep : ∀ q T cs, CB wr q T cs → q ≠ gAt gs (2 * k) → q ≠ gAt gs (2 * k + 1) → q ≠ w.heap.size → CB (w2.setCell ⟨w.heap.size, k, none⟩ (pv g)) q T cs := fun q T cs hc e1 e2 e3 =>
    (hc.kps j5 (fun e => e.elim e1 e2)).set_other e3 _
  have hrow2 : OwnV w2 w.heap.size 90 (.slice (some ⟨w.heap.size, 0, none⟩) m m) (filG gs' m) := hrow.kps j5 (fun q hq e => by
    have : w.heap.size = q := Option.some.inj hq
    rcases e with e | e <;> omega)
  have hv2 : OwnV w2 base 90 v (gs.map pv) := h4.kps j5 (by
    intro q hq e
    rcases e with e | e
    · exact hN.off _ (gAt_mem gs (2 * k) (by omega)) (by rw [← e]; exact hq)
    · exact hN.off _ (gAt_mem gs (2 * k + 1) (by omega)) (by rw [← e]; exact hq))
  refine ⟨⟨?_, ?_, ?_, ?_, ?_⟩, hrow2, hv2⟩
  · refine h1.next g j1 (by omega) ?_ ?_
    · intro q hq
      have hq2 := h1.mem q hq
      have hoff : q ≠ w.heap.size := by
        intro e
        obtain ⟨i, hi1, hi2⟩ := gAt_of_mem gs' q hq
        have hcb := (h1.2.2 i (by rw [← h1.1]; exact hi1)).2
        rw [hi2, e] at hcb
        exact (hcb.off hrow (by decide)) rfl
      rw [RowKit.Below.heap_setCell _ _ _ _ hoff]
      exact j5.2.2.2.2 q hq2.2 (fun e => by rcases e with e | e <;> omega)
    · rw [lvL_at level l k hk]
      exact j2.set_other (by omega) _
  · intro i hi
    have hl' := h1.1
    by_cases e : i = k
    · subst e
      have e2 : gAt (gs' ++ [g]) i = g := by rw [← hl']; exact gAt_app_new gs' g
      rw [e2]
      exact ⟨j3.set_other (hgsN _ (by omega)) _, j4.set_other (hgsN _ (by omega)) _⟩
    · have hik : i < k := by omega
      rw [gAt_app_lt gs' g i (by omega)]
      obtain ⟨c1, c2⟩ := h2 i hik
      exact ⟨keep _ _ _ c1 (fun e => by have := hinj _ _ (by omega) (by omega) e; omega) (fun e => by have := hinj _ _ (by omega) (by omega) e; omega) (hgsN _ (by omega)), keep _ _ _ c2 (fun e => by have := hinj _ _ (by omega) (by omega) e; omega) (fun e => by have := hinj _ _ (by omega) (by omega) e; omega) (hgsN _ (by omega))⟩
  · intro i hi hil
    obtain ⟨b, u, c1⟩ := h3 i (by omega) hil
    exact ⟨b, u, keep _ _ _ c1 (fun e => by have := hinj _ _ (by omega) (by omega) e; omega) (fun e => by have := hinj _ _ (by omega) (by omega) e; omega) (hgsN _ (by omega))⟩
  · refine hv2.setO _ _ _ ?_
    intro e
    have := (hn1.lt _ e).2
    omega
  · refine (h5.trans2 j5 ?_).set _ _ _ (fun e => absurd e (Nat.lt_irrefl _))
    intro i _ e
    rcases e with e | e
    · subst e; exact gAt_mem gs _ (by omega)
    · subst e; exact gAt_mem gs _ (by omega)
theorem lvN_at (level : Int) (l : List ByteArray) (i : Nat) : lvN level l i = nodeB level (i : Int) (bAt l (2 * i)) (bAt l (2 * i + 1)) := rfl
theorem Nds.row {w : World} {base n : Nat} {v : Value} {gs : List Nat} {l : List ByteArray} (h : Nds w base v gs l) (hl : l.length = n) (hn : 0 < n) : ∃ gv c, v = .slice (some ⟨gv, 0, none⟩) n c ∧ gv < w.heap.size := by
  have ho := h.1
  have hgl := h.2.1
  rcases ho.2 with ⟨_, h2⟩ | ⟨g, cap, cur, h1, h2, h3, rest⟩
  · rw [List.length_map] at h2; omega
  · refine ⟨g, cap, by rw [h1, List.length_map, hgl, hl], (ho.lt g (by rw [h1]; rfl)).2⟩
theorem Nds.shape {w : World} {base : Nat} {v : Value} {gs : List Nat} {l : List ByteArray} (h : Nds w base v gs l) : ∃ a c, v = .slice a l.length c := by
  obtain ⟨a, c, e⟩ := h.1.shape
  rw [List.length_map, h.2.1] at e
  exact ⟨a, c, e⟩
set_option maxRecDepth 20000 in
set_option maxHeartbeats 1000000 in
theorem nodesAbove_any (level : Int) (l : List ByteArray) (gs : List Nat) (base : Nat) (v : Value) (w : World) (hN : Nds w base v gs l) (hs : ∀ x ∈ l, x.size ≤ 1048576) (hn : l.length ≤ 1048576) :
    Calls Try.prog 84 #[.int .i64 level, v] w fun e w' => ∃ v', e = .returned v' ∧ ∃ gs', Nds w' w.heap.size v' gs' (lvL level l) ∧ Lnk w' gs gs' l (l.length / 2) ∧ KpS (fun q => q ∈ gs) w w' := by
  obtain ⟨i0, hi, hz0, hz1, hz2⟩ := info_parts infoPtr
  obtain ⟨n, hnn⟩ : ∃ n, l.length = n := ⟨_, rfl⟩
  obtain ⟨m, hm⟩ : ∃ m, m = n / 2 := ⟨_, rfl⟩
  obtain ⟨a, c, rfl⟩ := hN.shape
  have CJ := hide (show ∀ (k : Nat) W (bl ul br ur : Value), k < m → CB W (gAt gs (2 * k)) 92 (tn (bAt l (2 * k)) bl ul) → CB W (gAt gs (2 * k + 1)) 92 (tn (bAt l (2 * k + 1)) br ur) → Calls Try.prog 95 #[.int .i64 level, .int .i64 (k : Int), pv (gAt gs (2 * k)), pv (gAt gs (2 * k + 1))] W fun e w' => ∃ g, e = .returned (pv g) ∧ JPost W w' (gAt gs (2 * k)) (gAt gs (2 * k + 1)) (bAt l (2 * k)) (bAt l (2 * k + 1)) (lvN level l k) g from
    fun k W bl ul br ur hk h1 h2 => joined_any level (k : Int) _ _ _ _ (bAt_sizeT l _ _ hs) (bAt_sizeT l _ _ hs) bl ul br ur (fun e => by have := gAt_inj gs hN.2.2.1 _ _ (by rw [hN.2.1]; omega) (by rw [hN.2.1]; omega) e; omega) W h1 h2)
  have HA := hide (fun (wr w2 : World) (k : Nat) (gs' : List Nat) (g : Nat) (h : AInv w wr base (.slice a l.length c) gs l level k gs') (hk : k < m) hrow hJ => AInv.next (m := m) (g := g) (w2 := w2) hN h (by rw [hnn, ← hm]; exact hk) hrow hJ)
  have HE := hide (show ∀ (wr : World) (gs' : List Nat), AInv w wr base (.slice a l.length c) gs l level m gs' → OwnV wr w.heap.size 90 (.slice (some ⟨w.heap.size, 0, none⟩) m m) (filG gs' m) → Nds wr w.heap.size (.slice (some ⟨w.heap.size, 0, none⟩) m m) gs' (lvL level l) ∧ Lnk wr gs gs' l (l.length / 2) ∧ KpS (fun q => q ∈ gs) w wr from fun wr gs' h ho => by
    have hll : (lvL level l).length = m := by rw [lvL_len, hnn, hm]
    have h1 := h.1
    have h2 := h.2.1
    rw [filG_full gs' m h1.1] at ho
    rw [← hll] at h1
    refine ⟨h1.nds ho, ?_, h.2.2.2.2⟩
    rw [hnn, ← hm]
    exact h2)
  have H0 := hide (show ∀ w1, Below w.heap.size w w1 → AInv w w1 base (.slice a l.length c) gs l level 0 [] from fun w1 hb => ⟨⟨rfl, List.nodup_nil, fun i hi => absurd hi (Nat.not_lt_zero _)⟩, fun i hi => absurd hi (Nat.not_lt_zero _), fun i _ hil => by
      obtain ⟨_, b, u, h⟩ := hN.2.2.2 i hil
      exact ⟨b, u, h.step hb⟩, hN.1.below hb, below_kps hb _⟩)
  have HR := hide (show ∀ k, k < m → ∃ gv, a = some ⟨gv, 0, none⟩ ∧ ∀ W, OwnV W base 90 (.slice a l.length c) (gs.map pv) → W.cell? ⟨gv, 2 * k, none⟩ = some (pv (gAt gs (2 * k))) ∧ W.cell? ⟨gv, 2 * k + 1, none⟩ = some (pv (gAt gs (2 * k + 1))) from fun k hk => by
    obtain ⟨gv, cc, e, _⟩ := hN.row hnn (by omega)
    obtain ⟨rfl, _, rfl⟩ := Value.slice.inj e
    exact ⟨gv, rfl, fun W ho => ⟨ho.cell (gAt_get gs _ (by rw [hN.2.1]; omega)), ho.cell (gAt_get gs _ (by rw [hN.2.1]; omega))⟩⟩)
  rw [hnn] at hn HA HE H0 HR ⊢
  have hm2 : 2 * m ≤ n := by omega
  have hmb : m ≤ 1048576 := by omega
  have hq : (n : Int) / 2 = (m : Int) := by omega
  have hq2 : (n : Int).tdiv 2 = (m : Int) := by rw [Int.tdiv_eq_ediv_of_nonneg (by omega)]; omega
  rw [← hm] at HE ⊢
  replace hnn := hide hnn
  replace hm := hide hm
  clear hN hs
  go_enter Try.func84, Try.ntmps84
  go_wp2_with (at_make; refine wpList_make_full _ rfl _ _ 94 rfl w.heap.size 90 i0 (.pointer none) 1 Try.underlying94 hi hz0 hz1 _ _ _ _ m rfl rfl rfl rfl (by rw [hz2]; omega) (by unfold maxLen; omega) (Nat.le_refl _) ?_; intro w1 hown1 hgrow1)
  have hr0 : OwnV w1 w.heap.size 90 (.slice (some ⟨w.heap.size, 0, none⟩) m m) (filG [] m) := by
    have h := madeP m
    unfold nilP at h
    rw [h] at hown1
    unfold OwnV
    rw [filG_len [] m (Nat.zero_le _)]
    exact hown1
  have hb0 : Below w.heap.size w w1 := (Below.refl w.heap.size w).grown hgrow1 (Nat.le_refl _) (fun k hk => by cases hk)
  have ha0 := hide (unhide H0 w1 hb0)
  clear hown1 hgrow1 H0 hb0
  go_loopw [13] (fun ti wr => ∃ (k : Nat) (gs' : List Nat), k ≤ m ∧ ti = .int .i64 k ∧ Hid (OwnV wr w.heap.size 90 (.slice (some ⟨w.heap.size, 0, none⟩) m m) (filG gs' m)) ∧ Hid (AInv w wr base (.slice a n c) gs l level k gs')) (fun ti _ => m - (intOf ti).toNat)
  case atStart => exact ⟨0, [], Nat.zero_le _, rfl, hide hr0, ha0⟩
  case round =>
    obtain ⟨k, gs', hk, rfl, HO, HI⟩ := hrel
    clear hr0 ha0
    by_cases hlt : k < m
    · have hk' : (k : Int) < (m : Int) := by omega
      have hk0 : (0 : Int) ≤ (k : Int) := by omega
      obtain ⟨gv, rfl, hcl⟩ := unhide HR k hlt
      obtain ⟨p, hp⟩ : ∃ p, p = 2 * k := ⟨_, rfl⟩
      obtain ⟨q, hqq⟩ : ∃ q, q = 2 * k + 1 := ⟨_, rfl⟩
      have hp1 : (p : Int) < (n : Int) := by omega
      have hq1 : (q : Int) < (n : Int) := by omega
      have hp0 : (0 : Int) ≤ (p : Int) := by omega
      have hq0 : (0 : Int) ≤ (q : Int) := by omega
      have e1 : 2 * (k : Int) = (p : Int) := by omega
      have e2 : (p : Int) + 1 = (q : Int) := by omega
      have u1 : IntKind.i64.wrap (2 * (k : Int)) = (p : Int) := by rw [IntKind.wrap_i64]; omega
      have u2 : IntKind.i64.wrap ((p : Int) + 1) = (q : Int) := by rw [IntKind.wrap_i64]; omega
      have u3 : IntKind.i64.wrap (p : Int) = (p : Int) := by rw [IntKind.wrap_i64]; omega
      have u4 : IntKind.i64.wrap (q : Int) = (q : Int) := by rw [IntKind.wrap_i64]; omega
      obtain ⟨hi1, hi2, hi3, hi4, hi5⟩ := unhide HI
      have hkn : 2 * k + 1 < l.length := by rw [unhide hnn]; omega
      obtain ⟨bl, ul, HL⟩ := hi3 (2 * k) (Nat.le_refl _) (by omega)
      obtain ⟨br, ur, HRr⟩ := hi3 (2 * k + 1) (by omega) hkn
      have KS := hide (fun (W : World) (h : OwnV W base 90 (.slice (some ⟨gv, 0, none⟩) n c) (gs.map pv)) => hcl W h)
      have cj := hide (fun W h1 h2 => unhide CJ k W bl ul br ur hlt h1 h2)
      have hx := hide (fun w2 g hJ => unhide HA wr w2 k gs' g (unhide HI) hlt (unhide HO) hJ)
      have HFs := hide (fun g => filG_set gs' m k hi1.1 hlt g)
      have hfl := hide (filG_len gs' m (by rw [hi1.1]; exact hk))
      obtain ⟨d1, d2⟩ := unhide KS _ hi4
      rw [← hqq, ← hp] at KS cj hx
      rw [← hp] at d1
      rw [← hqq] at d2
      rw [← hp] at HL
      rw [← hqq] at HRr
      have hsw := hide (show w.heap.size < wr.heap.size from ((unhide HO).lt _ rfl).2)
      obtain ⟨uu, huu⟩ : ∃ uu, (filG gs' m)[k]? = some uu := ⟨_, List.getElem?_eq_getElem (by rw [unhide hfl]; exact hlt)⟩
      generalize lvN level l k = fk at *
      generalize bAt l p = xa at *
      generalize bAt l q = xb at *
      generalize gAt gs p = gl at *
      generalize gAt gs q = gr at *
      replace HL := hide HL; replace HRr := hide HRr; replace hp := hide hp; replace hqq := hide hqq; replace huu := hide huu
      unfold pv at d1 d2 cj KS
      clear hi1 hi2 hi3 hi4 hi5 HI CJ HA HE HR hcl hkn
      go_wp2
      go_region_held3 (fun W => W.cell? ⟨gv, p, none⟩ = some (.pointer (some ⟨gl, 0, none⟩)) ∧ W.cell? ⟨gv, q, none⟩ = some (.pointer (some ⟨gr, 0, none⟩))) (first | exact ⟨d1, d2⟩ | exact ⟨d3, d4⟩ | exact ⟨d5, d6⟩ | fail) (first
        | (go_at_call 95; refine (unhide cj _ (by exact unhide HL) (by exact unhide HRr)).mono ?_; rintro e w2 ⟨g, rfl, hJ⟩; obtain ⟨n1, n2, n3⟩ := unhide hx w2 g (by exact hJ); obtain ⟨d3, d4⟩ := unhide KS _ n3; have cu := n2.cell (unhide huu); have cz := n2.frozen k; have ho2 := n2.set k (pv g); rw [unhide HFs] at ho2; obtain ⟨d5, d6⟩ := unhide KS _ n1.2.2.2.1)
        | fail)
      all_goals
        replace ho2 := hide ho2
        replace n1 := hide n1
        unfold pv at ho2 n1
        clear n2 n3 d1 d2 d3 d4 d5 d6 hJ hx cj KS HL HRr HO HFs
        go_wp2
        exact ⟨⟨k + 1, gs' ++ [g], by omega, by go_num, ho2, n1⟩, by simp [intOf]; omega⟩
    · have hkn : k = m := by omega
      have hk' : ¬ (k : Int) < (m : Int) := by omega
      obtain ⟨r1, r2, r3⟩ := unhide HE wr gs' (by rw [← hkn]; exact unhide HI) (unhide HO)
      replace r1 := hide r1; replace r2 := hide r2; replace r3 := hide r3
      clear HE HO HI HR CJ HA
      go_wp2
      go_ret
      exact ⟨_, rfl, gs', unhide r1, unhide r2, unhide r3⟩
end Go.Proofs.Ytjgnjjphankhnab

/- Trees by the project's own functions: levels, roots and paths, over the loaded program. -/
namespace Go.Proofs.Ytjgnjjphankhnab
open Go.RowKit
/-- How far a tree of four leaves is joined. -/
def Stg (w : World) (v : Value) (gs : List Nat) (l : List ByteArray) : Nat → World → Value → Prop
  | 0, wr, tv => wr = w ∧ tv = v
  | 1, wr, tv => ∃ gs1, Nds wr w.heap.size tv gs1 (lvs l 1) ∧ Lnk wr gs gs1 l 2 ∧ KpS (fun q => q ∈ gs) w wr
  | 2, wr, tv => ∃ gs1 gs2, Nds wr w.heap.size tv gs2 (lvs l 2) ∧ Lnk wr gs gs1 l 2 ∧ Lnk wr gs1 gs2 (lvs l 1) 1 ∧ (∀ i, i < 2 → gAt gs1 i < gAt gs2 0 ∧ w.heap.size ≤ gAt gs1 i) ∧ KpS (fun q => q ∈ gs) w wr
  | _, _, _ => False
theorem Stg.shape {w : World} {base : Nat} {v : Value} {gs : List Nat} {l : List ByteArray} (hN : Nds w base v gs l) (hl : l.length = 4) {k : Nat} {wr : World} {tv : Value} (h : Stg w v gs l k wr tv) : ∃ a c n, tv = .slice a n c ∧ n = 4 / 2 ^ k ∧ k ≤ 2 := by
  rcases k with _ | _ | _ | k
  · obtain ⟨rfl, rfl⟩ := h
    obtain ⟨a, c, e⟩ := hN.shape
    exact ⟨a, c, _, e, hl, by omega⟩
  · obtain ⟨gs1, h1, _⟩ := h
    obtain ⟨a, c, e⟩ := h1.shape
    exact ⟨a, c, _, e, lvs_len l hl 1, by omega⟩
  · obtain ⟨gs1, gs2, h1, _⟩ := h
    obtain ⟨a, c, e⟩ := h1.shape
    exact ⟨a, c, _, e, lvs_len l hl 2, by omega⟩
  · exact h.elim
theorem stg_up {w : World} {base : Nat} {v : Value} {gs : List Nat} {l : List ByteArray} (hN : Nds w base v gs l) (hl : l.length = 4) (hs : ∀ x ∈ l, x.size ≤ 1048576) (k : Nat) (hk : k < 2) (wr : World) (tv : Value) (h : Stg w v gs l k wr tv) :
    Calls Try.prog 84 #[.int .i64 ((k + 1 : Nat) : Int), tv] wr fun e w' => ∃ v', e = .returned v' ∧ Stg w v gs l (k + 1) w' v' := by
  rcases k with _ | _ | k
  · obtain ⟨rfl, rfl⟩ := h
    refine (nodesAbove_any ((0 + 1 : Nat) : Int) l gs base tv wr hN hs (by omega)).mono ?_
    rintro e w' ⟨v', rfl, gs1, h1, h2, h3⟩
    rw [hl] at h2
    exact ⟨v', rfl, gs1, h1, h2, h3⟩
  · obtain ⟨gs1, h1, h2, h3⟩ := h
    have hl1 : (lvs l 1).length = 2 := lvs_len l hl 1
    refine (nodesAbove_any ((0 + 1 + 1 : Nat) : Int) (lvs l 1) gs1 w.heap.size tv wr h1 (lvs_size l _ (by omega) hs 1) (by omega)).mono ?_
    rintro e w' ⟨v', rfl, gs2, n1, n2, n3⟩
    rw [hl1] at n2
    have hsz := h3.size
    refine ⟨v', rfl, gs1, gs2, n1.low hsz, ?_, n2, ?_, h3.trans2 n3 (fun i hi hm => by have := (h1.mem i hm).1; omega)⟩
    · intro i hi
      obtain ⟨c1, c2⟩ := h2 i hi
      have g1 := (hN.mem _ (gAt_mem gs (2 * i) (by rw [hN.2.1]; omega))).2
      have g2 := (hN.mem _ (gAt_mem gs (2 * i + 1) (by rw [hN.2.1]; omega))).2
      exact ⟨c1.kps n3 (fun hm => by have := (h1.mem _ hm).1; omega), c2.kps n3 (fun hm => by have := (h1.mem _ hm).1; omega)⟩
    · intro i hi
      have g1 := h1.mem _ (gAt_mem gs1 i (by rw [h1.2.1, hl1]; omega))
      have hl2 : (lvL ((0 + 1 + 1 : Nat) : Int) (lvs l 1)).length = 1 := by rw [lvL_len, hl1]
      have g2 := n1.mem _ (gAt_mem gs2 0 (by rw [n1.2.1, hl2]; omega))
      exact ⟨by omega, g1.1⟩
  · omega
/-- What is left behind a tree of four leaves. -/
def Trd (w w' : World) (gs gs1 : List Nat) (l : List ByteArray) (g : Nat) : Prop :=
  Lnk w' gs gs1 l 2 ∧ Lnk w' gs1 [g] (lvs l 1) 1 ∧ (∃ b u, CB w' g 92 (tn (bAt (lvs l 2) 0) b u)) ∧ (∀ i, i < 2 → gAt gs1 i < g ∧ w.heap.size ≤ gAt gs1 i) ∧ KpS (fun q => q ∈ gs) w w'
set_option maxRecDepth 20000 in
set_option maxHeartbeats 1000000 in
theorem rootAbove_any (l : List ByteArray) (gs : List Nat) (base : Nat) (v : Value) (w : World) (hN : Nds w base v gs l) (hl : l.length = 4) (hs : ∀ x ∈ l, x.size ≤ 1048576) :
    Calls Try.prog 73 #[v] w fun e w' => ∃ g, e = .returned (pv g) ∧ ∃ gs1, Trd w w' gs gs1 l g := by
  have HS := hide (fun (k : Nat) (wr : World) (tv : Value) (h : Stg w v gs l k wr tv) => h.shape hN hl)
  have HU := hide (fun (k : Nat) (hk : k < 2) (wr : World) (tv : Value) (h : Stg w v gs l k wr tv) => stg_up hN hl hs k hk wr tv h)
  have HE := hide (show ∀ wr a n c, Stg w v gs l 2 wr (.slice a n c) → ∃ gv g, a = some ⟨gv, 0, none⟩ ∧ wr.cell? ⟨gv, 0, none⟩ = some (.pointer (some ⟨g, 0, none⟩)) ∧ ∃ gs1, Trd w wr gs gs1 l g from fun wr a n c h => by
    obtain ⟨gs1, gs2, n1, n2, n3, n4, n5⟩ := h
    have hl2 : (lvs l 2).length = 1 := lvs_len l hl 2
    obtain ⟨gv, cc, e, hlt⟩ := n1.row hl2 (by omega)
    obtain ⟨rfl, rfl, rfl⟩ := Value.slice.inj e
    have hg2 : gs2.length = 1 := by rw [n1.2.1, hl2]
    obtain ⟨g, rfl⟩ : ∃ g, gs2 = [g] := List.length_eq_one_iff.1 hg2
    refine ⟨gv, g, rfl, n1.1.cell (gAt_get [g] 0 (by omega)), gs1, n2, n3, ?_, n4, n5⟩
    exact (n1.2.2.2 0 (by omega)).2)
  have H0 := hide (show Stg w v gs l 0 w v from ⟨rfl, rfl⟩)
  clear hN hs
  generalize Stg w v gs l = St at *
  go_enter Try.func73, Try.ntmps73
  go_wp2
  go_loopw [0, 3] (fun tv ti wr => ∃ k : Nat, ti = .int .i64 ((k + 1 : Nat) : Int) ∧ Hid (St k wr tv)) (fun _ ti _ => 5 - (intOf ti).toNat)
  case atStart => exact ⟨0, rfl, H0⟩
  case round =>
    clear H0
    obtain ⟨k, rfl, HR⟩ := hrel
    obtain ⟨a, c, n, rfl, hn, hk2⟩ := unhide HS k wr _ (unhide HR)
    by_cases hlt : k < 2
    · have hn1 : n > 1 := by
        rw [hn]
        rcases show k = 0 ∨ k = 1 by omega with rfl | rfl <;> decide
      have hn2 : (1 : Int) < (n : Int) := by omega
      have c1 := hide (unhide HU k hlt wr _ (unhide HR))
      replace hn := hide hn
      clear HR HU HS HE
      go_wp2_with fail
      refine (unhide c1).mono ?_
      rintro e w1 ⟨v', rfl, h1⟩
      have HR1 := hide h1
      clear c1 h1
      go_wp2
      exact ⟨⟨k + 1, by go_num, HR1⟩, by simp [intOf]; omega⟩
    · obtain rfl : k = 2 := by omega
      have hn1 : n = 1 := by rw [hn]
      subst hn1
      obtain ⟨gv, g, rfl, d, gs1, ht⟩ := unhide HE wr _ _ _ (unhide HR)
      replace ht := hide ht
      clear HR HU HS HE hn
      go_wp2
      go_ret
      exact ⟨g, rfl, gs1, unhide ht⟩
end Go.Proofs.Ytjgnjjphankhnab

/- Trees by the project's own functions: roots and paths, over the loaded program. -/
namespace Go.Proofs.Ytjgnjjphankhnab
open Go.RowKit
theorem sums_le (l : List ByteArray) (h : l.length + sumS l ≤ 1048576) : ∀ x ∈ l, x.size ≤ 1048576 := by
  intro x hx
  obtain ⟨i, hi, rfl⟩ := List.getElem_of_mem hx
  have := sumS_at l i hi
  omega
theorem cell_lt15 {w : World} {g o : Nat} {v : Value} (h : w.cell? ⟨g, o, none⟩ = some v) : g < w.heap.size := by
  unfold World.cell? at h
  by_cases hg : g < w.heap.size
  · exact hg
  · rw [Array.getElem?_eq_none (show w.heap.size ≤ g by omega)] at h
    cases h
def lenOf15 : Value → Nat
  | .slice _ n _ => n
  | _ => 0
set_option maxRecDepth 20000 in
theorem isLeaf_any (z : Int) (w : World) : Calls Try.prog 26 #[.int .i64 z] w fun e w' => e = .returned (.bool (decide (0 ≤ z ∧ z ≤ 3))) ∧ w' = w := by
  by_cases h : 0 ≤ z
  · by_cases h3 : z < 4
    · have e : decide (0 ≤ z ∧ z ≤ 3) = true := decide_eq_true (by omega)
      rw [e]
      go_enter Try.func26, Try.ntmps26
      go_wp2
      go_ret
      exact ⟨rfl, rfl⟩
    · have e : decide (0 ≤ z ∧ z ≤ 3) = false := decide_eq_false (by omega)
      rw [e]
      go_enter Try.func26, Try.ntmps26
      go_wp2
      go_ret
      exact ⟨rfl, rfl⟩
  · have e : decide (0 ≤ z ∧ z ≤ 3) = false := decide_eq_false (by omega)
    rw [e]
    go_enter Try.func26, Try.ntmps26
    go_wp2
    go_ret
    exact ⟨rfl, rfl⟩
set_option maxRecDepth 20000 in
set_option maxHeartbeats 1000000 in
theorem implRootOf_any (l : List ByteArray) (v : Value) (w : World) (hr : RdV w v (l.map sv)) (hs : ∀ x ∈ l, x.size ≤ 1048576) :
    Calls Try.prog 60 #[v] w fun e w' => e = .returned (.string (rootB l)) ∧ Below w.heap.size w w' := by
  obtain ⟨a, c, rfl, -⟩ := hr.open
  rw [List.length_map] at hr ⊢
  by_cases h4 : l.length = 4
  · have ER := hide (show rootB l = bAt (lvs l 2) 0 by unfold rootB; rw [if_pos h4])
    rw [unhide ER]
    have C1 := hide (nodesOf_any l _ w hr (by omega))
    have C2 := hide (fun W u gs (h : Nds W w.heap.size u gs l) => rootAbove_any l gs w.heap.size u W h h4 hs)
    rw [h4] at C1 ⊢
    generalize hR : bAt (lvs l 2) 0 = R at *
    replace hR := hide hR
    clear hr ER
    replace h4 := hide h4
    go_enter Try.func60, Try.ntmps60
    go_wp2_with fail
    refine (unhide C1).mono ?_
    rintro e w1 ⟨⟨v1, rfl, gs, hN1⟩, hb1⟩
    have c2 := hide (unhide C2 w1 v1 gs hN1)
    have hmem := hide hN1.mem
    clear C1 C2 hN1
    go_wp2_with fail
    refine (unhide c2).mono ?_
    rintro e w2 ⟨g, rfl, gs1, t1, t2, ⟨b, u, t3⟩, t4, t5⟩
    have hB2 := hb1.trans (t5.below w.heap.size hb1.size (fun k hk hmm => by have := (unhide hmem k hmm).1; omega))
    rw [unhide hR] at t3
    have d : w2.cell? ⟨g, 0, none⟩ = some (.string R) := t3.cell 0 rfl
    clear t1 t2 t3 t4 t5 hmem c2 hb1
    unfold pv
    go_wp2
    go_ret
    exact ⟨rfl, hB2⟩
  · have ER := hide (show rootB l = ⟨#[]⟩ by unfold rootB; rw [if_neg h4])
    rw [unhide ER]
    have h4' : ¬ (l.length : Int) = 4 := by omega
    clear hr
    go_enter Try.func60, Try.ntmps60
    go_wp2
    go_ret
    exact ⟨rfl, Below.refl _ _⟩
end Go.Proofs.Ytjgnjjphankhnab

/- Trees by the project's own functions: the root by a path, over the loaded program. -/
namespace Go.Proofs.Ytjgnjjphankhnab
open Go.RowKit
set_option maxRecDepth 20000 in
theorem leftRight_even (x p : ByteArray) (y : Nat) (hy : y < 4) (he : ¬ y % 2 = 1) (w : World) : Calls Try.prog 46 #[.string x, .int .i64 (y : Int), .string p] w fun e w' => e = .returned (.tuple #[.string x, .string p]) ∧ w' = w := by
  have h1 : (y : Int).tmod 2 = 0 := by rw [Int.tmod_eq_emod_of_nonneg (by omega)]; omega
  have h2 : (y : Int) % 2 = 0 := by omega
  go_enter Try.func46, Try.ntmps46
  go_wp2
  go_ret2
  exact ⟨rfl, rfl⟩
set_option maxRecDepth 20000 in
theorem leftRight_odd (x p : ByteArray) (y : Nat) (hy : y < 4) (he : y % 2 = 1) (w : World) : Calls Try.prog 46 #[.string x, .int .i64 (y : Int), .string p] w fun e w' => e = .returned (.tuple #[.string p, .string x]) ∧ w' = w := by
  have h1 : (y : Int).tmod 2 = 1 := by rw [Int.tmod_eq_emod_of_nonneg (by omega)]; omega
  have h2 : (y : Int) % 2 = 1 := by omega
  go_enter Try.func46, Try.ntmps46
  go_wp2
  go_ret2
  exact ⟨rfl, rfl⟩
/-- One step up, whoever stands left. -/
theorem stp_lr (level : Int) (x p : ByteArray) (y : Nat) (hy : y < 4) (hx : x.size ≤ 1048576) (hp : p.size ≤ 1048576) : ∃ a b : ByteArray,
    (∀ w, Calls Try.prog 46 #[.string x, .int .i64 (y : Int), .string p] w fun e w' => e = .returned (.tuple #[.string a, .string b]) ∧ w' = w) ∧
    (∀ w, Calls Try.prog 47 #[.int .i64 level, .int .i64 ((y / 2 : Nat) : Int), .string a, .string b] w fun e w' => e = .returned (.string (stpB level y x p)) ∧ Below w.heap.size w w') := by
  by_cases ho : y % 2 = 1
  · refine ⟨p, x, fun w => leftRight_odd x p y hy ho w, fun w => ?_⟩
    unfold stpB
    rw [if_pos ho]
    exact implNode_any level _ p x hp hx w
  · refine ⟨x, p, fun w => leftRight_even x p y hy ho w, fun w => ?_⟩
    unfold stpB
    rw [if_neg ho]
    exact implNode_any level _ x p hx hp w
set_option maxRecDepth 20000 in
set_option maxHeartbeats 1000000 in
theorem implRootBy_any (x : ByteArray) (leaf : Int) (path : List ByteArray) (v : Value) (w : World) (hx : x.size ≤ 1048576) (hr : RdV w v (path.map sv)) (hs : ∀ x ∈ path, x.size ≤ 1048576) :
    Calls Try.prog 31 #[.string x, .int .i64 leaf, v] w fun e w' => e = .returned (.string (rootBy x leaf path)) ∧ Below w.heap.size w w' := by
  have C1 := hide (fun W => isLeaf_any leaf W)
  obtain ⟨a, c, rfl, hc⟩ := hr.open
  rw [List.length_map]
  clear hr
  by_cases h2 : path.length = 2
  · by_cases hlf : 0 ≤ leaf ∧ leaf ≤ 3
    · rw [decide_eq_true hlf] at C1
      obtain ⟨m, rfl⟩ : ∃ m : Nat, leaf = (m : Int) := ⟨leaf.toNat, by omega⟩
      have hm : m < 4 := by omega
      have ER := hide (show rootBy x (m : Int) path = rbB x m path 2 by unfold rootBy; rw [if_pos ⟨h2, hlf⟩, Int.toNat_natCast])
      rw [unhide ER]
      have HN := hide (show ∀ k, rbB x m path (k + 1) = stpB ((k + 1 : Nat) : Int) (m / 2 ^ k) (rbB x m path k) (bAt path k) from fun k => rfl)
      have HC := hide (fun k (hk : k < 2) => hc k _ (bAt_getT path k (by omega)))
      have HZ := hide (fun k => rbB_size x m path k _ (show 4 ≤ 1048576 by omega) hx)
      have HP := hide (fun k => bAt_sizeT path k _ hs)
      rw [h2]
      clear hc
      replace h2 := hide h2
      go_enter Try.func31, Try.ntmps31
      go_wp2_with fail
      refine (unhide C1 _).mono ?_
      rintro e w1 ⟨rfl, hw1⟩
      have hw1' := hw1.symm
      subst hw1'
      clear hw1
      go_wp2
      go_loopw [0, 7, 23] (fun tx tf ti wr => ∃ k y : Nat, k ≤ 2 ∧ ti = .int .i64 (k : Int) ∧ tf = .int .i64 (y : Int) ∧ Hid (y = m / 2 ^ k) ∧ tx = .string (rbB x m path k) ∧ Below w.heap.size w wr) (fun _ _ ti _ => 5 - (intOf ti).toNat)
      case atStart => exact ⟨0, m, by omega, rfl, rfl, hide (by rw [Nat.pow_zero, Nat.div_one]), rfl, Below.refl _ _⟩
      case round =>
        obtain ⟨k, y, hk, rfl, rfl, hy, rfl, hB⟩ := hrel
        by_cases hlt : k < 2
        · have hk2 : (k : Int) < 2 := by omega
          have hk0 : (0 : Int) ≤ (k : Int) := by omega
          have hy4 : y < 4 := by rw [unhide hy]; exact Nat.lt_of_le_of_lt (Nat.div_le_self _ _) hm
          obtain ⟨g, o, rfl, hg, d1⟩ := unhide HC k hlt
          have d2 := (hB.cell (p := ⟨g, o + k, none⟩) hg).trans d1
          obtain ⟨y2, hy2⟩ : ∃ y2, y2 = y / 2 := ⟨_, rfl⟩
          have HY := hide (show y2 = m / 2 ^ (k + 1) by rw [hy2, unhide hy, Nat.div_div_eq_div_mul, Nat.pow_succ])
          have v1' : (y : Int) / 2 = (y2 : Int) := by omega
          have v1 : (y : Int).tdiv 2 = (y2 : Int) := by rw [Int.tdiv_eq_ediv_of_nonneg (by omega)]; omega
          obtain ⟨lv, hlv⟩ : ∃ lv : Nat, lv = k + 1 := ⟨_, rfl⟩
          have q1 : (k : Int) + 1 = (lv : Int) := by omega
          obtain ⟨la, lb, cA, cB⟩ := stp_lr ((k + 1 : Nat) : Int) (rbB x m path k) (bAt path k) y hy4 (unhide HZ k) (unhide HP k)
          have HX := unhide HN k
          rw [← unhide hy] at HX
          obtain ⟨R0, hR⟩ : ∃ R0, R0 = rbB x m path (k + 1) := ⟨_, rfl⟩
          rw [← HX, ← hR, ← hy2, ← hlv] at cB
          replace hR := hide hR
          generalize rbB x m path k = xk at *
          generalize bAt path k = pk at *
          replace cA := hide cA; replace cB := hide cB
          have hlvb : lv ≤ 3 := by omega
          replace hlv := hide hlv; replace hy2 := hide hy2
          clear HC HN HZ HP d1 HX
          go_wp2_with fail
          refine (unhide cA _).mono ?_
          rintro e w2 ⟨rfl, hw2⟩
          have hw2' := hw2.symm
          subst hw2'
          clear hw2
          go_wp2_with fail
          refine (unhide cB _).mono ?_
          rintro e w3 ⟨rfl, hb3⟩
          have hB3 := hB.trans (hb3.mono hB.size)
          clear hb3 hB cA cB
          go_wp2
          exact ⟨⟨k + 1, y2, by omega, by rw [← q1]; rfl, rfl, HY, by rw [unhide hR], hB3⟩, by simp [intOf]; omega⟩
        · obtain rfl : k = 2 := by omega
          clear HC HN HZ HP
          go_wp2
          go_ret
          exact ⟨rfl, hB⟩
    · have hdf : decide (0 ≤ leaf ∧ leaf ≤ 3) = false := decide_eq_false hlf
      rw [hdf] at C1
      have ER := hide (show rootBy x leaf path = ⟨#[]⟩ by unfold rootBy; rw [if_neg (fun h => hlf h.2)])
      rw [unhide ER, h2]
      clear hc
      replace hlf := hide hlf
      go_enter Try.func31, Try.ntmps31
      go_wp2_with fail
      refine (unhide C1 _).mono ?_
      rintro e w1 ⟨rfl, hw1⟩
      have hw1' := hw1.symm
      subst hw1'
      clear hw1
      go_wp2
      go_ret
      exact ⟨rfl, Below.refl _ _⟩
  · have ER := hide (show rootBy x leaf path = ⟨#[]⟩ by unfold rootBy; rw [if_neg (fun h => h2 h.1)])
    rw [unhide ER]
    have h2' : ¬ (path.length : Int) = 2 := by omega
    have h2b : decide ((path.length : Int) = 2) = false := decide_eq_false h2'
    clear hc
    go_enter Try.func31, Try.ntmps31
    go_wp2
    go_ret
    exact ⟨rfl, Below.refl _ _⟩
end Go.Proofs.Ytjgnjjphankhnab

/- Keys of a tree by the project's own functions: the keys of a seed, public texts, signatures, over the loaded program. -/
namespace Go.Proofs.Ytjgnjjphankhnab
open Go.RowKit
theorem sum_four16 (l : List ByteArray) (h : ∀ x ∈ l, x.size = 4) : sumS l = 4 * l.length := by
  induction l with
  | nil => rfl
  | cons x xs ih =>
    show x.size + sumS xs = 4 * (xs.length + 1)
    rw [h x (by simp), ih fun y hy => h y (by simp [hy])]
    omega
theorem keysO_sum (s : ByteArray) (leaf : Int) : sumS (keysO s leaf) ≤ 1048576 := by
  rw [sum_four16 _ (keysO_size s leaf), keysO_len]; omega
set_option maxRecDepth 20000 in
set_option maxHeartbeats 400000 in
theorem keysOf_any (s : ByteArray) (leaf : Int) (hs : s.size ≤ 2000000) (w : World) :
    Calls Try.prog 76 #[.string s, .int .i64 leaf] w fun e w' => (∃ v, e = .returned v ∧ OwnV w' w.heap.size 9 v ((keysO s leaf).map sv)) ∧ Below w.heap.size w w' := by
  have C := hide (fun W => implOnceKey_any s leaf hs W)
  generalize (keysO s leaf).map sv = L at *
  go_enter Try.func76, Try.ntmps76
  go_wp2_with fail
  refine (unhide C w).mono ?_
  rintro e w1 ⟨⟨v1, rfl, o1⟩, hb1⟩
  clear C
  go_wp2
  go_ret
  exact ⟨⟨_, rfl, o1⟩, hb1⟩
set_option maxRecDepth 20000 in
set_option maxHeartbeats 1000000 in
theorem publics_any (s : ByteArray) (hs : s.size ≤ 2000000) (w : World) :
    Calls Try.prog 61 #[.string s] w fun e w' => (∃ v, e = .returned v ∧ OwnV w' w.heap.size 9 v ((lvsO s).map sv)) ∧ Below w.heap.size w w' := by
  obtain ⟨i0, hi, hz0, hz1, hz2⟩ := info_parts infoTxt
  have C1 := hide (fun (k : Nat) W => keysOf_any s (k : Int) hs W)
  have C2 := hide (fun (k : Nat) W v hr => implOncePublic_any (keysO s (k : Int)) (k : Int) v W hr (keysO_sum s _))
  have HK := hide (show ∀ k : Nat, onceP (keysO s (k : Int)) (k : Int) = lefO s k from fun k => rfl)
  have EK : lvsO s = (List.range 4).map (lefO s) := rfl
  rw [EK]
  simp only [unhide HK] at C2
  generalize lefO s = F at *
  obtain ⟨L, hL⟩ : ∃ L : List Value, L = ((List.range 4).map F).map sv := ⟨_, rfl⟩
  have hLl := hide (show L.length = 4 by rw [hL, List.length_map, List.length_map, List.length_range])
  have hLk := hide (show ∀ k, k < 4 → L[k]? = some (.string (F k)) from fun k hk => by rw [hL, List.getElem?_map, List.getElem?_map, List.getElem?_range hk]; rfl)
  rw [← hL]
  replace hL := hide hL
  clear HK EK
  go_enter Try.func61, Try.ntmps61
  go_wp2_with (at_make; refine wpList_make_full _ rfl _ _ 22 rfl w.heap.size 9 i0 (.string ⟨#[]⟩) 1 Try.underlying22 hi hz0 hz1 _ _ _ _ 4 rfl rfl rfl rfl (by rw [hz2]; omega) (by unfold maxLen; omega) (Nat.le_refl _) ?_; intro w1 hown1 hgrow1)
  have hr0 : OwnV w1 w.heap.size 9 (.slice (some ⟨w.heap.size, 0, none⟩) 4 4) (L.take 0 ++ List.replicate (4 - 0) (.string ⟨#[]⟩)) := by
    rw [madeT] at hown1
    unfold OwnV
    simpa using hown1
  have hb0 : Below w.heap.size w w1 := (Below.refl w.heap.size w).grown hgrow1 (Nat.le_refl _) (fun k hk => by cases hk)
  clear hown1 hgrow1
  go_loopw [8] (fun ti wr => ∃ k : Nat, k ≤ 4 ∧ ti = .int .i64 k ∧ Hid (OwnV wr w.heap.size 9 (.slice (some ⟨w.heap.size, 0, none⟩) 4 4) (L.take k ++ List.replicate (4 - k) (.string ⟨#[]⟩))) ∧ Below w.heap.size w wr ∧ w.heap.size < wr.heap.size) (fun ti _ => 4 - (intOf ti).toNat)
  case atStart => exact ⟨0, Nat.zero_le _, rfl, hide hr0, hb0, (hr0.lt _ rfl).2⟩
  case round =>
    obtain ⟨k, hk, rfl, HO, hb, hszz⟩ := hrel
    clear hr0 hb0
    by_cases hlt : k < 4
    · have hk' : (k : Int) < 4 := by omega
      have hk0 : (0 : Int) ≤ (k : Int) := by omega
      have c1 := hide (unhide C1 k)
      have c2 := hide (unhide C2 k)
      have HF := hide (fillV (z := .string ⟨#[]⟩) (unhide hLk k hlt) (unhide hLl))
      generalize F k = y at *
      generalize keysO s (k : Int) = K at *
      clear C1 C2
      go_wp2_with fail
      refine (unhide c1 wr).mono ?_
      rintro e w2 ⟨⟨v2, rfl, o2⟩, hb2⟩
      have hB2 := hb.trans (hb2.mono hb.size)
      have HO2 := hide ((unhide HO).below hb2)
      have hs2 := Nat.lt_of_lt_of_le hszz hb2.size
      replace c2 := hide (unhide c2 w2 v2 o2.rdv)
      clear hb2 hb HO hszz c1 o2
      go_wp2_with fail
      refine (unhide c2).mono ?_
      rintro e w4 ⟨rfl, hb4⟩
      have hB4 := hB2.trans (hb4.mono hB2.size)
      have HO4 := (unhide HO2).below hb4
      have hs4 := Nat.lt_of_lt_of_le hs2 hb4.size
      obtain ⟨u, hu⟩ : ∃ u, (L.take k ++ List.replicate (4 - k) (.string ⟨#[]⟩))[k]? = some u := ⟨_, List.getElem?_eq_getElem (by have := HO4.len; omega)⟩
      have cu := HO4.cell hu
      have cz := HO4.frozen k
      have ho2 := HO4.set k (.string y)
      rw [unhide HF] at ho2
      replace ho2 := hide ho2; replace HO4 := hide HO4
      clear hu hb4 hB2 HO2 hs2 c2
      go_wp2
      go_roundw
      case rel => exact ⟨k + 1, by omega, by go_num, ho2, hB4.setCell (p := ⟨w.heap.size, k, none⟩) (Nat.le_refl _) _, by simpa using hs4⟩
      case measure => simp [intOf]; omega
    · have hk' : ¬ (k : Int) < 4 := by omega
      obtain rfl : k = 4 := by omega
      have e2 : L.take 4 ++ List.replicate (4 - 4) (.string ⟨#[]⟩) = L := by
        rw [Nat.sub_self, List.take_of_length_le (by rw [unhide hLl]; exact Nat.le_refl _)]
        simp
      rw [e2] at HO
      go_wp2
      go_ret
      exact ⟨⟨_, rfl, unhide HO⟩, hb⟩
set_option maxRecDepth 20000 in
set_option maxHeartbeats 400000 in
theorem public_any (s : ByteArray) (hs : s.size ≤ 2000000) (w : World) :
    Calls Try.prog 41 #[.string s] w fun e w' => e = .returned (.string (pubO s)) ∧ Below w.heap.size w w' := by
  have C1 := hide (fun W => publics_any s hs W)
  have C2 := hide (fun W v hr => implRootOf_any (lvsO s) v W hr (fun x hx => by rw [lvsO_size s x hx]; omega))
  have HK := hide (show rootB (lvsO s) = pubO s from rfl)
  rw [unhide HK] at C2
  generalize pubO s = p at *
  go_enter Try.func41, Try.ntmps41
  go_wp2_with fail
  refine (unhide C1 w).mono ?_
  rintro e w1 ⟨⟨v1, rfl, o1⟩, hb1⟩
  replace C2 := hide (unhide C2 w1 v1 o1.rdv)
  clear C1 o1
  go_wp2_with fail
  refine (unhide C2).mono ?_
  rintro e w2 ⟨rfl, hb2⟩
  have hB2 := hb1.trans (hb2.mono hb1.size)
  clear C2 hb1 hb2
  go_wp2
  go_ret
  exact ⟨rfl, hB2⟩
end Go.Proofs.Ytjgnjjphankhnab

/- Keys of a tree by the project's own functions: a signature that is made, and one that is read, over the loaded program. -/
namespace Go.Proofs.Ytjgnjjphankhnab
open Go.RowKit
theorem cutI16 (T : ByteArray) (i j : Nat) (w : World) (h1 : i ≤ j) (h2 : j ≤ T.size) : (Instr.slice 9 (.string T) (some (.int .i64 (i : Int))) (some (.int .i64 (j : Int))) none).run Try.prog w = .ok (.string (T.extract i j)) w := by
  rw [run_slice_string_if w 9 T .i64 .i64 (i : Int) (j : Int) Try.underlying9, if_pos (by omega), if_pos (by omega)]
  rfl
def prI (f : Nat → ByteArray) (k : Nat) : List ByteArray := (List.range k).map f
theorem prI_len (f : Nat → ByteArray) (k : Nat) : (prI f k).length = k := by unfold prI; rw [List.length_map, List.length_range]
theorem prI_succ (f : Nat → ByteArray) (k : Nat) : prI f (k + 1) = prI f k ++ [f k] := by unfold prI; rw [List.range_succ, List.map_append]; rfl
set_option maxRecDepth 20000 in
set_option maxHeartbeats 800000 in
theorem shortsOf_any (t : ByteArray) (n : Nat) (ht : t.size = 4 * n) (hn : n ≤ 1000) (F : Nat → ByteArray) (hF : ∀ k, k < n → t.extract (k * 4) (k * 4 + 4) = F k) (w : World) :
    Calls Try.prog 36 #[.string t] w fun e w' => (∃ v, e = .returned v ∧ OwnV w' w.heap.size 9 v ((prI F n).map sv)) ∧ Below w.heap.size w w' := by
  obtain ⟨i0, hi, hz0, hz1, hz2⟩ := info_parts infoTxt
  have v1' : (t.size : Int) / 4 = (n : Int) := by omega
  have v1 : (t.size : Int).tdiv 4 = (n : Int) := by rw [Int.tdiv_eq_ediv_of_nonneg (by omega)]; omega
  have HS := hide (fun k (hk : k < n) (W : World) => show (Instr.slice 9 (.string t) (some (.int .i64 ((k * 4 : Nat) : Int))) (some (.int .i64 ((k * 4 + 4 : Nat) : Int))) none).run Try.prog W = .ok (.string (F k)) W by rw [cutI16 t (k * 4) (k * 4 + 4) W (by omega) (by omega), hF k hk])
  have HC := hide (fun k (hk : k < n) (W : World) => stringsClone14_any (F k) W (by rw [← hF k hk, ByteArray.size_extract]; omega))
  clear hF
  go_enter Try.func36, Try.ntmps36
  go_wp2_with (at_make; refine wpList_make_own _ rfl _ _ 22 rfl w.heap.size 9 i0 (.string ⟨#[]⟩) 1 Try.underlying22 hi hz0 hz1 _ _ _ n rfl rfl (by omega) (by rw [hz2]; omega) (by unfold maxLen; omega) (Nat.le_refl _) ?_; intro w1 hown1 hgrow1)
  have hb1 : Below w.heap.size w w1 := (Below.refl _ _).grown hgrow1 (Nat.le_refl _) (fun k hk => by cases hk)
  have hown0 : OwnV w1 w.heap.size 9 (.slice (some ⟨w.heap.size, 0, none⟩) 0 n) ((prI F 0).map sv) := hown1
  clear hown1 hgrow1
  go_loopw [3, 4] (fun tv ti wr => ∃ k m : Nat, k ≤ n ∧ m = k * 4 ∧ ti = .int .i64 (m : Int) ∧ Hid (OwnV wr w.heap.size 9 tv ((prI F k).map sv)) ∧ Below w.heap.size w wr) (fun _ ti _ => 4 * n - (intOf ti).toNat)
  case atStart => exact ⟨0, 0, by omega, rfl, rfl, hide hown0, hb1⟩
  case round =>
    clear hown0 hb1
    obtain ⟨k, m, hk, hm, rfl, HO, hB⟩ := hrel
    by_cases hlt : k < n
    · have hk' : (m : Int) < (t.size : Int) := by omega
      obtain ⟨m4, hm4⟩ : ∃ m4, m4 = k * 4 + 4 := ⟨_, rfl⟩
      have t1 : IntKind.i64.wrap ((m : Int) + 4) = (m4 : Int) := by rw [IntKind.wrap_i64]; omega
      have hsl := unhide HS k hlt
      have hcl := hide (unhide HC k hlt)
      rw [← hm4, ← hm] at hsl
      have HP := hide (prI_succ F k)
      have hpl : ((prI F k).map sv).length ≤ 1000 := by rw [List.length_map, prI_len]; omega
      generalize F k = x at *
      have hmm := hide hm
      have hmm4 := hide hm4
      have hlt4 : m4 ≤ 4 * n := by omega
      have hm5 : m < m4 := by omega
      clear HS HC hm hm4
      replace hpl := hide hpl
      go_wp2_with fail
      refine (unhide hcl wr).mono ?_
      rintro e w3 ⟨rfl, hb3⟩
      have hB3 := hB.trans (hb3.mono hB.size)
      have HO3 := hide ((unhide HO).below hb3)
      have hsz3 := hB3.size
      clear hb3 hB hcl HO
      go_wp2_with (at_builtin; refine wpList_append_val (w := w3) rfl (.tmp 15) (.tmp 22) 22 rfl w.heap.size 9 i0 (.string ⟨#[]⟩) 16 Try.underlying22 hi hz0 hz1 hz2 rfl u3 _ (by rfl) (unhide HO3) (.string x) rfl (by rfl) (unhide hpl) (by decide) hB3 (Nat.le_refl _) hsz3 ?_; intro v' w8 ho8 hB8)
      have ho9 := hide (show OwnV w8 w.heap.size 9 v' ((prI F (k + 1)).map sv) by rw [unhide HP, List.map_append]; exact ho8)
      clear ho8 HO3 HP hsl
      go_wp2
      exact ⟨⟨k + 1, m4, by omega, by rw [unhide hmm4]; omega, rfl, ho9, hB8⟩, by simp [intOf]; omega⟩
    · have hk' : ¬ (m : Int) < (t.size : Int) := by omega
      obtain rfl : k = n := by omega
      clear HS HC
      go_wp2
      go_ret
      exact ⟨⟨_, rfl, unhide HO⟩, hB⟩
set_option maxRecDepth 20000 in
set_option maxHeartbeats 800000 in
theorem implReadSig_any (t : ByteArray) (w : World) :
    Calls Try.prog 18 #[.string t] w fun e w' => (∃ v, e = .returned (.tuple #[v, .bool (rdOk t)]) ∧ OwnSg w' w.heap.size v (rdS t)) ∧ Below w.heap.size w w' := by
  by_cases h49 : t.size = 49
  · have h49' : (t.size : Int) = 49 := by omega
    have hix : ∀ h : 0 < t.size, (t[0]'h).toNat = byA t 0 := fun h => byA_at t 0 h
    have hbl := byA_lt t 0
    obtain ⟨b, hb⟩ : ∃ b, b = byA t 0 := ⟨_, rfl⟩
    rw [← hb] at hix hbl
    have q0 : IntKind.i64.wrap (b : Int) = (b : Int) := by rw [IntKind.wrap_i64]; omega
    have h0s : 0 < t.size := by omega
    have h1t := fun (W : World) => run_slice_string_l W 9 t Try.underlying9 .i64 1 (by omega) (by omega)
    have C0 := hide (fun W => isLeaf_any (b : Int) W)
    obtain ⟨T, hT⟩ : ∃ T, T = t.extract 1 49 := ⟨_, rfl⟩
    have hTs : T.size = 48 := by rw [hT, ByteArray.size_extract]; omega
    by_cases h4 : b < 4
    · have hin : rdIn t := ⟨h49, by omega⟩
      have ER := hide (show rdS t = ⟨(b : Int), prI (prtB t) 10, prI (fun i => prtB t (10 + i)) 2⟩ by unfold rdS; rw [if_pos (rdOk_of hin), hb]; rfl)
      rw [unhide ER, rdOk_of hin]
      rw [decide_eq_true (show 0 ≤ (b : Int) ∧ (b : Int) ≤ 3 by omega)] at C0
      have C1 := hide (fun W => shortsOf_any (T.extract 0 40) 10 (by rw [ByteArray.size_extract]; omega) (by omega) (prtB t) (fun k hk => by
        unfold prtB
        rw [hT, ByteArray.extract_extract, ByteArray.extract_extract]
        congr 1 <;> omega) W)
      have C2 := hide (fun W => shortsOf_any (T.extract 40 T.size) 2 (by rw [ByteArray.size_extract]; omega) (by omega) (fun i => prtB t (10 + i)) (fun k hk => by
        unfold prtB
        rw [hTs, hT, ByteArray.extract_extract, ByteArray.extract_extract]
        congr 1 <;> omega) W)
      generalize prI (prtB t) 10 = L1 at *
      generalize prI (fun i => prtB t (10 + i)) 2 = L2 at *
      have hc1 : ∀ W : World, (Instr.slice 9 (.string T) none (some (.int .i64 40)) none).run Try.prog W = .ok (.string (T.extract 0 40)) W := fun W => run_slice_string_h W 9 T Try.underlying9 .i64 40 (by omega) (by omega)
      have hc2 : ∀ W : World, (Instr.slice 9 (.string T) (some (.int .i64 40)) none none).run Try.prog W = .ok (.string (T.extract 40 T.size)) W := fun W => run_slice_string_l W 9 T Try.underlying9 .i64 40 (by omega) (by omega)
      generalize T.extract 0 40 = Ta at *
      generalize T.extract 40 T.size = Tb at *
      replace hb := hide hb
      clear ER hin
      go_enter Try.func18, Try.ntmps18
      go_wp2
      obtain ⟨W, hW, hR, hB, hs1⟩ := one_cb w #[.int .i64 0, .slice none 0 0, .slice none 0 0] 27
      rw [hW]
      clear hW
      go_quiet (fail)
      rw [← hT]
      have hRV := hR.step (bDN (Below.refl _ _) nq)
      have hBV := bDN hB nq
      have hwV : w.heap.size < (W.drewN nq).heap.size := hs1
      generalize W.drewN nq = V at *
      replace hT := hide hT
      clear hB hR hs1 hix h1t W h49' h49 q0 hbl h0s h4 hTs
      go_wp2_with fail
      refine (unhide C0 V).mono ?_
      rintro e w1 ⟨rfl, hw1⟩
      have hw2 := hw1.symm
      subst hw2
      clear hw1 C0
      go_wp2_with fail
      have HR := hide (fun (W' : World) (h : Below V.heap.size V W') => hRV.step h)
      have HT0 := (Below.refl V.heap.size V).drew
      clear hRV
      go_region_held3 (fun _ => True) (first | trivial | fail) (first
        | (go_at_call 36; have hq1 := hT1; refine (unhide C2 _).mono ?_; rintro e w2 ⟨⟨v2, rfl, o2⟩, hb2⟩; have hT2 := hT1.trans (hb2.mono hT1.size); have s2 := o2.shape; obtain ⟨a2, c2, rfl⟩ := s2; replace o2 := hide o2; generalize hn2 : (L2.map sv).length = n2 at *; have hR2 := unhide HR _ hT2; have r0 := hR2.cell 0 (v := .int .i64 0) rfl; have r1 := hR2.cell 1 (v := .slice none 0 0) rfl; have r2 := hR2.cell 2 (v := .slice none 0 0) rfl; have g0 := hR2.frozen 0; have g1 := hR2.frozen 1; have g2 := hR2.frozen 2; replace hR2 := hide hR2)
        | (go_at_call 36; refine (unhide C1 _).mono ?_; rintro e w1 ⟨⟨v1, rfl, o1⟩, hb1⟩; have hT1 := HT0.trans (hb1.mono HT0.size); have s1 := o1.shape; obtain ⟨a1, c1, rfl⟩ := s1; replace o1 := hide o1; generalize hn1 : (L1.map sv).length = n1 at *))
      all_goals
        have hsT : V.heap.size ≤ w1.heap.size := hT1.size
        have o5 := hide ((unhide o1).below hb2)
        have ap := hide (show ∀ k, (Value.slice a1 n1 c1).ownBlock = some k → (Value.slice a2 n2 c2).ownBlock ≠ some k from fun k hk hk2 => by
          have h1 := ((unhide o1).lt k hk).2
          have h2 := ((unhide o2).lt k hk2).1
          omega)
        have of5 := hide ((unhide hR2).off (unhide o5) (by decide))
        have of4 := hide ((unhide hR2).off (unhide o2) (by decide))
        have hB4 := hBV.trans (hT2.mono hBV.size)
        have o4' := hide ((unhide o2).low (show w.heap.size ≤ w1.heap.size by omega))
        have o5' := hide ((unhide o5).low (show w.heap.size ≤ V.drew.heap.size from Nat.le_of_lt hwV))
        have hF := hide ((((unhide hR2).set 0 (.int .i64 (b : Int))).set 1 (.slice a1 n1 c1)).set 2 (.slice a2 n2 c2))
        have hBF := hide (((hB4.setCell (p := ⟨w.heap.size, 0, none⟩) (Nat.le_refl _) (.int .i64 (b : Int))).setCell (p := ⟨w.heap.size, 1, none⟩) (Nat.le_refl _) (.slice a1 n1 c1)).setCell (p := ⟨w.heap.size, 2, none⟩) (Nat.le_refl _) (.slice a2 n2 c2))
        have o6 := hide ((((unhide o5').setO w.heap.size 0 (.int .i64 (b : Int)) (unhide of5)).setO w.heap.size 1 (.slice a1 n1 c1) (unhide of5)).setO w.heap.size 2 (.slice a2 n2 c2) (unhide of5))
        have o7 := hide ((((unhide o4').setO w.heap.size 0 (.int .i64 (b : Int)) (unhide of4)).setO w.heap.size 1 (.slice a1 n1 c1) (unhide of4)).setO w.heap.size 2 (.slice a2 n2 c2) (unhide of4))
        clear o1 o2 o5 o4' o5' of5 of4 hB4 hR2 HR HT0 hT1 hT2 hb1 hb2 r0 r1 r2 g0 g1 g2 C1 C2 hc1 hc2
        go_wp2
        exact bodyPost_ret (results_cb_tmp (by exact Try.results18) _ _ _ _ _ _ rfl (unhide hF) Try.underlying27 (by kernel_rfl)) rfl ⟨⟨_, rfl, _, _, rfl, unhide o6, unhide o7, unhide ap⟩, unhide hBF⟩
    · have hno : rdOk t = false := by
        cases e : rdOk t with
        | false => rfl
        | true => exact absurd (rdOk_in e).2 (by rw [← hb]; exact h4)
      have ER := hide (show rdS t = ⟨0, [], []⟩ by unfold rdS; rw [hno]; rfl)
      rw [unhide ER, hno]
      rw [decide_eq_false (show ¬ (0 ≤ (b : Int) ∧ (b : Int) ≤ 3) by omega)] at C0
      replace hb := hide hb
      clear ER hno
      go_enter Try.func18, Try.ntmps18
      go_wp2
      obtain ⟨W, hW, hR, hB, hs1⟩ := one_cb w #[.int .i64 0, .slice none 0 0, .slice none 0 0] 27
      rw [hW]
      clear hW
      go_quiet (fail)
      have hRV := hR.step (bDN (Below.refl _ _) nq)
      have hBV := bDN hB nq
      have hwV : w.heap.size < (W.drewN nq).heap.size := hs1
      generalize W.drewN nq = V at *
      clear hB hR hs1 hix h1t W
      go_wp2_with fail
      refine (unhide C0 V).mono ?_
      rintro e w1 ⟨rfl, hw1⟩
      have hw2 := hw1.symm
      subst hw2
      clear hw1 C0
      have r0 := hRV.cell 0 (v := .int .i64 0) rfl
      have r1 := hRV.cell 1 (v := .slice none 0 0) rfl
      have r2 := hRV.cell 2 (v := .slice none 0 0) rfl
      have g0 := hRV.frozen 0
      have g1 := hRV.frozen 1
      have g2 := hRV.frozen 2
      go_wp2
      have hF := hide (((hRV.set 0 (.int .i64 0)).set 1 (.slice none 0 0)).set 2 (.slice none 0 0))
      have hBF := hide (((hBV.setCell (p := ⟨w.heap.size, 0, none⟩) (Nat.le_refl _) (.int .i64 0)).setCell (p := ⟨w.heap.size, 1, none⟩) (Nat.le_refl _) (.slice none 0 0)).setCell (p := ⟨w.heap.size, 2, none⟩) (Nat.le_refl _) (.slice none 0 0))
      exact bodyPost_ret (results_cb_tmp (by exact Try.results18) _ _ _ _ _ _ rfl (unhide hF) Try.underlying27 (by kernel_rfl)) rfl ⟨⟨_, rfl, _, _, rfl, OwnV.nil _ _ _, OwnV.nil _ _ _, fun k hk => by cases hk⟩, unhide hBF⟩
  · have hno : rdOk t = false := by
      cases e : rdOk t with
      | false => rfl
      | true => exact absurd (rdOk_in e).1 h49
    have ER := hide (show rdS t = ⟨0, [], []⟩ by unfold rdS; rw [hno]; rfl)
    rw [unhide ER, hno]
    have h49' : ¬ (t.size : Int) = 49 := by omega
    clear ER hno h49
    go_enter Try.func18, Try.ntmps18
    go_wp2
    obtain ⟨W, hW, hR, hB, hs1⟩ := one_cb w #[.int .i64 0, .slice none 0 0, .slice none 0 0] 27
    rw [hW]
    exact bodyPost_ret (results_cb_tmp (by exact Try.results18) _ _ _ _ _ _ rfl hR Try.underlying27 (by kernel_rfl)) rfl ⟨⟨_, rfl, _, _, rfl, OwnV.nil _ _ _, OwnV.nil _ _ _, fun k hk => by cases hk⟩, hB⟩
end Go.Proofs.Ytjgnjjphankhnab

/- Trees of trees, reckoned. -/
namespace Go.Proofs.Ytjgnjjphankhnab
open Go.RowKit
structure Hy where
  top : Sg
  root : ByteArray
  low : Sg
def noSg : Sg := ⟨0, [], []⟩
def lowB (seed : ByteArray) (place : Int) : ByteArray := seed ++ oneY place ++ ⟨#[108]⟩
def topB (seed : ByteArray) : ByteArray := seed ++ ⟨#[116]⟩
def hpubO (seed : ByteArray) : ByteArray := pubO (topB seed)
def hsgnS (seed : ByteArray) (i : Int) (m : ByteArray) : Hy :=
  if 0 ≤ i ∧ i ≤ 15 then ⟨sgnS (topB seed) (i / 4) (pubO (lowB seed (i / 4))), pubO (lowB seed (i / 4)), sgnS (lowB seed (i / 4)) (i % 4) m⟩ else ⟨noSg, ⟨#[]⟩, noSg⟩
def hchkB (p m : ByteArray) (h : Hy) : Bool := chkB p h.root h.top && chkB h.root m h.low
def bothSg (h : Hy) : Bool := sgOk h.top && sgOk h.low
def hidx (h : Hy) : Int := if bothSg h = true then 4 * h.top.leaf + h.low.leaf else -1
def htxOk (h : Hy) : Bool := bothSg h && decide (h.root.size = 4)
def htx (h : Hy) : ByteArray := if htxOk h = true then sgT h.top ++ h.root ++ sgT h.low else ⟨#[]⟩
def hA (t : ByteArray) : ByteArray := t.extract 0 49
def hR (t : ByteArray) : ByteArray := t.extract 49 53
def hL (t : ByteArray) : ByteArray := t.extract 53 t.size
def hrdOk (t : ByteArray) : Bool := decide (t.size = 102) && (rdOk (hA t) && rdOk (hL t))
def hrdS (t : ByteArray) : Hy := if hrdOk t = true then ⟨rdS (hA t), hR t, rdS (hL t)⟩ else ⟨noSg, ⟨#[]⟩, noSg⟩
theorem pubO_four (s : ByteArray) : (pubO s).size = 4 := by
  unfold pubO rootB
  rw [if_pos (lvsO_len s)]
  exact bAt_four (lvs_four _ (lvsO_size s) 2) 0 (by rw [lvs_len _ (lvsO_len s) 2]; decide)
theorem div4 {i : Int} (h : 0 ≤ i ∧ i ≤ 15) : 0 ≤ i / 4 ∧ i / 4 ≤ 3 := by omega
theorem mod4 (i : Int) : 0 ≤ i % 4 ∧ i % 4 ≤ 3 := by omega
theorem sgnS_leaf (seed : ByteArray) (leaf : Int) (m : ByteArray) (h : 0 ≤ leaf ∧ leaf ≤ 3) : (sgnS seed leaf m).leaf = leaf := by unfold sgnS; rw [if_pos h]
theorem hsgn_is {seed : ByteArray} {i : Int} {m : ByteArray} (h : 0 ≤ i ∧ i ≤ 15) : hsgnS seed i m = ⟨sgnS (topB seed) (i / 4) (pubO (lowB seed (i / 4))), pubO (lowB seed (i / 4)), sgnS (lowB seed (i / 4)) (i % 4) m⟩ := by unfold hsgnS; rw [if_pos h]
theorem hsgn_both (seed : ByteArray) (i : Int) (m : ByteArray) (h : 0 ≤ i ∧ i ≤ 15) : bothSg (hsgnS seed i m) = true := by
  rw [hsgn_is h]
  unfold bothSg
  rw [sgnS_ok _ _ _ (div4 h), sgnS_ok _ _ _ (mod4 i)]
  rfl
theorem hsgn_ok (seed : ByteArray) (i : Int) (m : ByteArray) (h : 0 ≤ i ∧ i ≤ 15) : htxOk (hsgnS seed i m) = true := by
  unfold htxOk
  rw [hsgn_both seed i m h, Bool.true_and, hsgn_is h]
  exact decide_eq_true (pubO_four _)
theorem hsgn_chk (seed : ByteArray) (i : Int) (m : ByteArray) (h : 0 ≤ i ∧ i ≤ 15) : hchkB (hpubO seed) m (hsgnS seed i m) = true := by
  rw [hsgn_is h]
  unfold hchkB hpubO
  rw [sgn_chk _ _ _ (div4 h), sgn_chk _ _ _ (mod4 i)]
  rfl
theorem hsgn_idx (seed : ByteArray) (i : Int) (m : ByteArray) (h : 0 ≤ i ∧ i ≤ 15) : hidx (hsgnS seed i m) = i := by
  unfold hidx
  rw [if_pos (hsgn_both seed i m h), hsgn_is h]
  show 4 * (sgnS _ _ _).leaf + (sgnS _ _ _).leaf = i
  rw [sgnS_leaf _ _ _ (div4 h), sgnS_leaf _ _ _ (mod4 i)]
  omega
theorem htxOk_top {h : Hy} (ho : htxOk h = true) : sgOk h.top = true := by unfold htxOk bothSg at ho; simp at ho; exact ho.1.1
theorem htxOk_low {h : Hy} (ho : htxOk h = true) : sgOk h.low = true := by unfold htxOk bothSg at ho; simp at ho; exact ho.1.2
theorem htxOk_root {h : Hy} (ho : htxOk h = true) : h.root.size = 4 := by unfold htxOk bothSg at ho; simp at ho; exact ho.2
theorem htx_is {h : Hy} (ho : htxOk h = true) : htx h = sgT h.top ++ h.root ++ sgT h.low := by unfold htx; rw [if_pos ho]
theorem htx_size {h : Hy} (ho : htxOk h = true) : (htx h).size = 102 := by
  rw [htx_is ho, ByteArray.size_append, ByteArray.size_append, sgT_size (htxOk_top ho), sgT_size (htxOk_low ho), htxOk_root ho]
theorem cut_three (a b c : ByteArray) (ha : a.size = 49) (hb : b.size = 4) : (a ++ b ++ c).extract 0 49 = a ∧ (a ++ b ++ c).extract 49 53 = b ∧ (a ++ b ++ c).extract 53 (a ++ b ++ c).size = c := by
  have hab : (a ++ b).size = 53 := by rw [ByteArray.size_append, ha, hb]
  refine ⟨?_, ?_, ?_⟩
  · rw [ByteArray.append_assoc]
    exact ByteArray.extract_append_eq_left ha.symm
  · rw [ByteArray.extract_append, hab, show c.extract (49 - 53) (53 - 53) = ByteArray.empty from ByteArray.extract_eq_empty_iff.2 (by omega), ByteArray.append_empty, ByteArray.extract_append, ha,
      show a.extract 49 53 = ByteArray.empty from ByteArray.extract_eq_empty_iff.2 (by rw [ha]; omega), ByteArray.empty_append, show 53 - 49 = b.size by rw [hb], Nat.sub_self]
    exact ByteArray.extract_zero_size
  · have hs : (a ++ b ++ c).size = 53 + c.size := by rw [ByteArray.size_append, hab]
    rw [hs, ByteArray.extract_append, hab, show (a ++ b).extract 53 (53 + c.size) = ByteArray.empty from ByteArray.extract_eq_empty_iff.2 (by rw [hab]; omega), ByteArray.empty_append, Nat.sub_self, Nat.add_sub_cancel_left]
    exact ByteArray.extract_zero_size
theorem hrdOk_htx {h : Hy} (ho : htxOk h = true) : hrdOk (htx h) = true := by
  obtain ⟨e1, _, e3⟩ := cut_three (sgT h.top) h.root (sgT h.low) (sgT_size (htxOk_top ho)) (htxOk_root ho)
  unfold hrdOk hA hL
  rw [decide_eq_true (htx_size ho), htx_is ho, e1, e3, rdOk_of (rdIn_sgT (htxOk_top ho)), rdOk_of (rdIn_sgT (htxOk_low ho))]
  rfl
/-- What is written is read. -/
theorem hrd_htx {h : Hy} (ho : htxOk h = true) : hrdS (htx h) = h := by
  obtain ⟨e1, e2, e3⟩ := cut_three (sgT h.top) h.root (sgT h.low) (sgT_size (htxOk_top ho)) (htxOk_root ho)
  unfold hrdS
  rw [if_pos (hrdOk_htx ho)]
  unfold hA hR hL
  rw [htx_is ho, e1, e2, e3, rd_sgT (htxOk_top ho), rd_sgT (htxOk_low ho)]
theorem hrd_parts {t : ByteArray} (h : hrdOk t = true) : t.size = 102 ∧ rdIn (hA t) ∧ rdIn (hL t) := by
  unfold hrdOk at h
  rw [Bool.and_eq_true, Bool.and_eq_true] at h
  exact ⟨of_decide_eq_true h.1, rdOk_in h.2.1, rdOk_in h.2.2⟩
theorem hrd_is {t : ByteArray} (h : hrdOk t = true) : hrdS t = ⟨rdS (hA t), hR t, rdS (hL t)⟩ := by unfold hrdS; rw [if_pos h]
theorem hrd_both {t : ByteArray} (h : hrdOk t = true) : bothSg (hrdS t) = true := by
  obtain ⟨_, h1, h2⟩ := hrd_parts h
  rw [hrd_is h]
  unfold bothSg
  rw [rdS_ok h1, rdS_ok h2]
  rfl
theorem hrd_ok {t : ByteArray} (h : hrdOk t = true) : htxOk (hrdS t) = true := by
  unfold htxOk
  rw [hrd_both h, Bool.true_and, hrd_is h]
  apply decide_eq_true
  show (t.extract 49 53).size = 4
  rw [ByteArray.size_extract, (hrd_parts h).1]
  rfl
theorem three_cut (t : ByteArray) (hz : t.size = 102) : hA t ++ hR t ++ hL t = t := by
  unfold hA hR hL
  have e1 : t.extract 0 49 ++ t.extract 49 53 = t.extract 0 53 := by
    rw [ByteArray.extract_append_extract, Nat.min_eq_left (by omega), Nat.max_eq_right (by omega)]
  rw [e1, ByteArray.extract_append_extract, Nat.min_eq_left (by omega), Nat.max_eq_right (by omega)]
  exact ByteArray.extract_zero_size
/-- What is read is written so. -/
theorem htx_hrd {t : ByteArray} (h : hrdOk t = true) : htx (hrdS t) = t := by
  have hp := hrd_parts h
  have e := htx_is (hrd_ok h)
  have e2 := hrd_is h
  generalize hrdS t = x at *
  subst e2
  rw [e]
  have e3 := sgT_rd hp.2.1
  have e4 := sgT_rd hp.2.2
  simp only [e3, e4]
  exact three_cut t hp.1
theorem hidx_nonneg {h : Hy} (hb : bothSg h = true) : 0 ≤ hidx h := by
  unfold hidx
  rw [if_pos hb]
  unfold bothSg at hb
  rw [Bool.and_eq_true] at hb
  have h1 := (sgOk_shape hb.1).1
  have h2 := (sgOk_shape hb.2).1
  omega
end Go.Proofs.Ytjgnjjphankhnab

