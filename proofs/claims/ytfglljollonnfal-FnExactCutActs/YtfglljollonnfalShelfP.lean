/- A map of names to files: what its block is good for, as a list of files in the order of their names. -/
import Derived.Test.YtfglljollonnfalPutP
import Derived.Test.YtfglljollonnfalWithout
import Derived.Maps.OwnSet
import Derived.Maps.Ext
namespace Go.Proofs.Ytfglljollonnfal
open Go.RowKit
open Go.Maps (Keyed IsMap Tidy string_keyed)

/-- How a pointer to a file reads: the number of its block. -/
def ptrR (v : Value) : Option (DataW Unit × List MemPlace) :=
  match v with
  | .pointer (some a) => if a = ⟨a.block, 0, none⟩ then some (.lit (.int .i64 (a.block : Int)), []) else none
  | .pointer none => some (.nil, [])
  | _ => none
theorem ptrR_mk (g : Nat) : ptrR (.pointer (some ⟨g, 0, none⟩)) = some (.lit (.int .i64 (g : Int)), []) := by simp [ptrR]
theorem ptrR_inv {v : Value} {g : Nat} {ps : List MemPlace} (h : ptrR v = some (.lit (.int .i64 (g : Int)), ps)) : v = .pointer (some ⟨g, 0, none⟩) := by
  unfold ptrR at h
  split at h
  · rename_i a
    split at h
    · rename_i ha
      simp at h
      have h1 : a.block = g := by omega
      rw [ha, h1]
    · cases h
  · simp at h
  · cases h
theorem ptrR_nil {v : Value} {ps : List MemPlace} (h : ptrR v = some (.nil, ps)) : v = .pointer none := by
  unfold ptrR at h
  split at h
  · split at h
    · simp at h
    · cases h
  · rfl
  · cases h

abbrev Pf := Nat × Fl
def key (p : Pf) : List UInt8 := p.2.nm.data.toList
/-- The map reads as the list. -/
structure Ch (D : DataW Unit) (ps : List Pf) : Prop where
  size : Maps.size D = ps.length
  has : ∀ s : List UInt8, Maps.has D (.string s) = true ↔ ∃ p ∈ ps, key p = s
  at_ : ∀ p ∈ ps, ∀ z, D.atKey (.string (key p)) z = .lit (.int .i64 (p.1 : Int))
theorem isKey (s : List UInt8) : WideAt.IsKeyLit (.string s) := trivial
theorem Ch.nil : Ch (.map []) [] := ⟨rfl, fun s => by simp [Maps.has], fun p hp => by cases hp⟩
theorem Ch.put {D : DataW Unit} {ps ps' : List Pf} (h : Ch D ps) (ht : Tidy D) (p : Pf) (hm : ∀ q, q ∈ ps' ↔ q = p ∨ (q ∈ ps ∧ key q ≠ key p)) (hl : ps'.length = if (∃ q ∈ ps, key q = key p) then ps.length else ps.length + 1) :
    Ch (D.put (.string (key p)) (.lit (.int .i64 (p.1 : Int)))) ps' := by
  refine ⟨?_, fun s => ?_, fun q hq z => ?_⟩
  · rw [Maps.size_put ht, hl]
    by_cases hx : ∃ q ∈ ps, key q = key p
    · rw [if_pos hx, if_pos ((h.has _).2 hx), h.size]
    · rw [if_neg hx, if_neg (fun e => hx ((h.has _).1 e)), h.size]
  · by_cases hs : s = key p
    · subst hs
      rw [Maps.has_put_same ht.isMap (isKey _)]
      exact ⟨fun _ => ⟨p, (hm p).2 (.inl rfl), rfl⟩, fun _ => rfl⟩
    · rw [Maps.has_put_other (by intro e; exact hs (Lit.string.inj e)), h.has]
      constructor
      · rintro ⟨q, hq, e⟩
        exact ⟨q, (hm q).2 (.inr ⟨hq, by rw [e]; exact hs⟩), e⟩
      · rintro ⟨q, hq, e⟩
        rcases (hm q).1 hq with rfl | ⟨hq2, _⟩
        · exact absurd e.symm hs
        · exact ⟨q, hq2, e⟩
  · rcases (hm q).1 hq with rfl | ⟨hq2, hne⟩
    · exact Maps.atKey_put_same ht.isMap (isKey _) _ _
    · rw [Maps.atKey_put_other (by intro e; exact hne (Lit.string.inj e))]
      exact h.at_ q hq2 z
theorem Ch.del {D : DataW Unit} {ps ps' : List Pf} (h : Ch D ps) (ht : Tidy D) (s : List UInt8) (hm : ∀ q, q ∈ ps' ↔ (q ∈ ps ∧ key q ≠ s)) (hl : ps'.length + (if (∃ q ∈ ps, key q = s) then 1 else 0) = ps.length) :
    Ch (D.del (.string s)) ps' := by
  refine ⟨?_, fun t => ?_, fun q hq z => ?_⟩
  · have := Maps.size_del (k := .string s) ht
    rw [h.size] at this
    by_cases hx : ∃ q ∈ ps, key q = s
    · rw [if_pos hx] at hl
      rw [if_pos ((h.has _).2 hx)] at this
      omega
    · rw [if_neg hx] at hl
      rw [if_neg (fun e => hx ((h.has _).1 e))] at this
      omega
  · by_cases hs : t = s
    · subst hs
      rw [Maps.has_del_same]
      constructor
      · intro e; cases e
      · rintro ⟨q, hq, e⟩; exact absurd e ((hm q).1 hq).2
    · rw [Maps.has_del_other (by intro e; exact hs (Lit.string.inj e)), h.has]
      constructor
      · rintro ⟨q, hq, e⟩
        exact ⟨q, (hm q).2 ⟨hq, by rw [e]; exact hs⟩, e⟩
      · rintro ⟨q, hq, e⟩
        exact ⟨q, ((hm q).1 hq).1, e⟩
  · rw [Maps.atKey_del_other (by intro e; exact ((hm q).1 hq).2 (Lit.string.inj e))]
    exact h.at_ q ((hm q).1 hq).1 z

theorem ownsMap_tight {H : Type} {P : Program} {k : TypeId} {R : Value → Option (DataW H × List MemPlace)} {w : World} {b n : Nat} {D : DataW H} (h : w.ownsMap P k R b n D) : w.ownsMap P k R b (Maps.size D) D := by
  obtain ⟨es, clock, hb, F, hs, rfl⟩ := h
  exact ⟨es, clock, hb, F, by simp [Maps.size, length_sorted], rfl⟩

/-- Block b is a map of names to files of the call's own (blocks from base on), which are those of ps. -/
structure ShelfAt (w : World) (base b : Nat) (ps : List Pf) : Prop where
  map : ∃ D : DataW Unit, w.ownsMap Try.prog 9 ptrR b ps.length D ∧ Ch D ps
  files : ∀ p ∈ ps, FlB w p.1 63 p.2 ∧ base ≤ p.1
  apart : ∀ p ∈ ps, ∀ q ∈ ps, p.1 = q.1 → p = q
  lo : base ≤ b
theorem lawK : Keyed Try.prog 9 := string_keyed Try.underlying9
theorem ShelfAt.lt {w : World} {base b : Nat} {ps : List Pf} (h : ShelfAt w base b ps) : b < w.heap.size := by
  obtain ⟨D, h1, _⟩ := h.map
  exact h1.lt
theorem ShelfAt.notb {w : World} {base b : Nat} {ps : List Pf} (h : ShelfAt w base b ps) : ∀ p ∈ ps, p.1 ≠ b := by
  intro p hp e
  obtain ⟨D, ⟨es, clock, hb, _⟩, _⟩ := h.map
  have := (h.files p hp).1
  unfold FlB at this
  rw [e, hb] at this
  cases this
theorem ShelfAt.below {w w' : World} {base b : Nat} {ps : List Pf} (h : ShelfAt w base b ps) (hb : Below w.heap.size w w') : ShelfAt w' base b ps := by
  obtain ⟨D, h1, h2⟩ := h.map
  exact ⟨⟨D, h1.kept (row := none) (gB hb none) (by simp), h2⟩, fun p hp => ⟨(h.files p hp).1.below hb (h.files p hp).1.lt, (h.files p hp).2⟩, h.apart, h.lo⟩

/-- One more file, in a new block, behind those that there are. -/
theorem ShelfAt.more {w w' w2 : World} {base b g : Nat} {ps : List Pf} {f : Fl} {D : DataW Unit} (h : ShelfAt w base b ps) (hD : Ch D ps) (hT : Tidy D) (hgr : w.grownBy w' none) (hg : FlB w' g 63 f) (hgn : w.heap.size ≤ g) (hgb : base ≤ g)
    (hnew : ∀ p ∈ ps, key p ≠ f.nm.data.toList) (hown : w2.ownsMap Try.prog 9 ptrR b (ps.length + 1) (D.put (.string f.nm.data.toList) (.lit (.int .i64 (g : Int))))) (hg2 : w'.grownBy w2 (some b)) : ShelfAt w2 base b (ps ++ [(g, f)]) := by
  have hb := h.lt
  have hfil : ∀ p ∈ ps, p.1 < w.heap.size := fun p hp => (h.files p hp).1.lt
  refine ⟨⟨_, by rw [List.length_append]; exact hown, ?_⟩, fun p hp => ?_, ?_, h.lo⟩
  · refine Ch.put hD hT (g, f) (fun q => ?_) ?_
    · rw [List.mem_append, List.mem_singleton]
      constructor
      · rintro (hq | rfl)
        · exact .inr ⟨hq, hnew q hq⟩
        · exact .inl rfl
      · rintro (rfl | ⟨hq, _⟩)
        · exact .inr rfl
        · exact .inl hq
    · rw [if_neg (by rintro ⟨q, hq, e⟩; exact hnew q hq e), List.length_append]
      rfl
  · rw [List.mem_append, List.mem_singleton] at hp
    rcases hp with hp | rfl
    · have h1 := (h.files p hp).1
      refine ⟨?_, (h.files p hp).2⟩
      unfold FlB
      rw [hg2.block p.1 (Nat.lt_of_lt_of_le h1.lt hgr.size) (by simp; exact h.notb p hp), hgr.block p.1 h1.lt (by simp)]
      exact h1
    · refine ⟨?_, hgb⟩
      unfold FlB
      rw [hg2.block g hg.lt (by simp; omega)]
      exact hg
  · intro p hp q hq e
    rw [List.mem_append, List.mem_singleton] at hp hq
    rcases hp with hp | rfl
    · rcases hq with hq | rfl
      · exact h.apart p hp q hq e
      · have := hfil p hp
        simp at e
        omega
    · rcases hq with hq | rfl
      · have := hfil q hq
        simp at e
        omega
      · rfl

set_option maxRecDepth 20000 in
set_option maxHeartbeats 2000000 in
theorem shelfOf_any (fs : List Fl) (v : Value) (w : World) (hr : RdF w v fs) (hB : Bd fs) (hn : fs.length ≤ 2000000) (hok : okL fs = true) :
    Calls Try.prog 39 #[.agg #[v]] w fun e w' => (∃ (b : Nat) (ps : List Pf), e = .returned (.tuple #[.map (some b), .bool true]) ∧ ps.map Prod.snd = fs ∧ ShelfAt w' w.heap.size b ps) ∧ Below w.heap.size w w' := by
  have C : Hid (∀ W v, RdF W v fs → Calls Try.prog 48 #[.agg #[v]] W fun e w' => e = .returned (.bool true) ∧ Below W.heap.size W w') := fun W v h => by rw [← hok]; exact implDiskOk_any fs v W h hB hn
  have HOK := hide (okL_iff.1 hok)
  obtain ⟨a, c, rfl, hc⟩ := hr.open
  replace hr := hide hr
  have HB := hide hB
  clear hok hB
  have hmm := @run_makeMap Try.prog
  go_enter Try.func39, Try.ntmps39
  go_wp2_with (go_at_call 48; refine ((unhide C) _ _ (by exact (unhide hr).alloc _)).mono ?_; rintro e w1 ⟨rfl, hb1⟩; (have cA := ((Box.new w _ _).step hb1).cell); (have lA := ((Box.new w _ _).step hb1).lt); (have HB1 := hide (bTr (bTrA (Below.refl w.heap.size w) _) hb1)); (have s1 := sz1 hb1); replace hb1 := hide hb1)
  have hsh0 : ShelfAt (w1.alloc (.map #[] 0)) w.heap.size w1.heap.size [] := ⟨⟨_, World.ownsMap_made w1 _ _ _, Ch.nil⟩, fun p hp => (by cases hp), fun p hp => (by cases hp), by omega⟩
  clear hmm
  go_loopw [14] (fun ti wr => ∃ (k : Nat) (ps : List Pf), k ≤ fs.length ∧ ti = .int .i64 k ∧ Hid (ps.map Prod.snd = fs.take k) ∧ ShelfAt wr w.heap.size w1.heap.size ps ∧ Below w1.heap.size w1 wr) (fun ti _ => fs.length - (intOf ti).toNat)
  case atStart => exact ⟨0, [], Nat.zero_le _, rfl, rfl, hsh0, (Below.refl _ w1).alloc (Nat.le_refl _) _⟩
  case round =>
    obtain ⟨k, ps, hk, rfl, hps, hsh, hb⟩ := hrel
    clear hsh0
    have hss := hb.size
    have hlb := hsh.lt
    by_cases hlt : k < fs.length
    · obtain ⟨f, hf⟩ : ∃ f, fs[k]? = some f := ⟨fs[k], List.getElem?_eq_getElem hlt⟩
      obtain ⟨g, o, rfl, hg, hat⟩ := hc k f hf
      obtain ⟨d1, d2, d3⟩ := (hat.below (unhide HB1) hg).below hb (by omega)
      have hgr : g < wr.heap.size := by omega
      have hz1 := ((unhide HB) f (List.mem_of_getElem? hf)).1
      obtain ⟨D, hown, hch⟩ := hsh.map
      have hT := hown.tidy lawK
      have hpl : ps.length = k := by have := congrArg List.length (unhide hps); rw [List.length_map, List.length_take] at this; omega
      have hnew : ∀ p ∈ ps, key p ≠ f.nm.data.toList := by
        intro p hp e
        have hm : p.2 ∈ fs.take k := by rw [← unhide hps]; exact List.mem_map_of_mem hp
        obtain ⟨j, hj⟩ := List.mem_iff_getElem?.1 hm
        rw [List.getElem?_take] at hj
        split at hj
        · rename_i hjk
          have hlt2 := (List.pairwise_iff_getElem.1 (unhide HOK).2.2) j k (by omega) hlt hjk
          rw [List.getElem?_eq_getElem (by omega)] at hj
          rw [Option.some.inj hj, Option.some.inj ((List.getElem?_eq_getElem hlt).symm.trans hf), show p.2.nm = f.nm from ba_ext e, ltB_irrefl] at hlt2
          cases hlt2
        · cases hj
      have hps2 := hide (show (ps ++ [(wr.heap.size, f)]).map Prod.snd = fs.take (k + 1) by rw [List.map_append, unhide hps, List.take_add_one, hf]; rfl)
      have HN := hide hnew
      have HSH := hide hsh
      have HCH := hide hch
      have HTD := hide hT
      replace hf := hide hf
      have hown1 := hown.alloc (.cells #[.string f.nm, .string f.tx, .int .i64 f.kp] 63)
      have hkey : keyOf Try.prog 9 (.string f.nm) = some (.string f.nm.data.toList) := Go.WideMaps.keyOf_string_mk Try.underlying9 (by unfold maxLen; omega)
      clear hc hat hnew hsh hch hT hown
      go_wp2_with (first | (at_mapUpdate; refine wpList_mapUpdate_own _ rfl _ _ _ 68 rfl 9 84 lawK Try.underlying68 ptrR w1.heap.size ps.length D rfl hown1 (by unfold maxLen; omega) _ _ _ rfl rfl hkey _ [] (ptrR_mk wr.heap.size) ?_; intro w2 hown2 hg2) | fail)
      have hsh2 := ShelfAt.more (unhide HSH) (unhide HCH) (unhide HTD) (gB ((Below.refl _ wr).alloc (Nat.le_refl _) _) none) (FlB.new wr 63 f) (Nat.le_refl _) (by omega) (unhide HN) hown2 hg2
      have hb2 : Below w1.heap.size w1 w2 := (hb.alloc hss _).trans (gBelow hg2 (by simp; omega) (fun k hk => by cases hk; exact Nat.le_refl _))
      go_roundw
      case rel => exact ⟨k + 1, _, by omega, by go_num, unhide hps2, hsh2, hb2⟩
      case measure => simp [intOf]; omega
    · have hfin := hide (show ps.map Prod.snd = fs by rw [unhide hps, List.take_of_length_le (by omega)])
      replace hsh := hide hsh
      go_wp2
      go_ret2
      exact ⟨⟨w1.heap.size, ps, rfl, unhide hfin, unhide hsh⟩, (unhide HB1).trans (hb.mono (by omega))⟩
end Go.Proofs.Ytfglljollonnfal
