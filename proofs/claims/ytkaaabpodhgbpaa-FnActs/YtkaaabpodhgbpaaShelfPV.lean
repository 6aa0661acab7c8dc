/- A map of names to files: what its block is good for, as a list of files in the order of their names. Lists of files with their blocks: a file put in its place, a name struck. What is done on a shelf: looked up, dropped, kept. What is done on a shelf: kept, added to, moved. What a shelf refuses to add; and its files moved. A shelf's file moved. -/
import Derived.Test.YtkaaabpodhgbpaaPutP
import Derived.Test.YtkaaabpodhgbpaaWithout
import Derived.Maps.OwnSet
import Derived.Maps.Ext
namespace Go.Proofs.Ytkaaabpodhgbpaa
open Go.RowKit
open Go.Maps (Keyed IsMap Tidy string_keyed)

/-- How a pointer to a file reads: the number of its block. -/
def ptrR (v : Value) : Option (DataW Unit × List MemPlace) :=
  match v with
  | .pointer (some a) => if a = ⟨a.block, 0, none⟩ then some (.lit (.int .i64 (a.block : Int)), []) else none
  | .pointer none => some (.nil, [])
  | _ => none
theorem ptrR_mk (g : Nat) : ptrR (.pointer (some ⟨g, 0, none⟩)) = some (.lit (.int .i64 (g : Int)), []) := by simp [ptrR]
theorem ptrR_inv {v : Value} {g : Nat} {ps : List MemPlace} (h : ptrR v = some (.lit (.int .i64 (g : Int)), ps)) : v = .pointer (some ⟨g, 0, none⟩) := by
  unfold ptrR at h
  split at h
  · rename_i a
    split at h
    · rename_i ha
      simp at h
      have h1 : a.block = g := by omega
      rw [ha, h1]
    · cases h
  · simp at h
  · cases h
theorem ptrR_nil {v : Value} {ps : List MemPlace} (h : ptrR v = some (.nil, ps)) : v = .pointer none := by
  unfold ptrR at h
  split at h
  · split at h
    · simp at h
    · cases h
  · rfl
  · cases h

abbrev Pf := Nat × Fl
def key (p : Pf) : List UInt8 := p.2.nm.data.toList
/-- The map reads as the list. -/
structure Ch (D : DataW Unit) (ps : List Pf) : Prop where
  size : Maps.size D = ps.length
  has : ∀ s : List UInt8, Maps.has D (.string s) = true ↔ ∃ p ∈ ps, key p = s
  at_ : ∀ p ∈ ps, ∀ z, D.atKey (.string (key p)) z = .lit (.int .i64 (p.1 : Int))
theorem isKey (s : List UInt8) : WideAt.IsKeyLit (.string s) := trivial
theorem Ch.nil : Ch (.map []) [] := ⟨rfl, fun s => by simp [Maps.has], fun p hp => by cases hp⟩
theorem Ch.put {D : DataW Unit} {ps ps' : List Pf} (h : Ch D ps) (ht : Tidy D) (p : Pf) (hm : ∀ q, q ∈ ps' ↔ q = p ∨ (q ∈ ps ∧ key q ≠ key p)) (hl : ps'.length = if (∃ q ∈ ps, key q = key p) then ps.length else ps.length + 1) :
    Ch (D.put (.string (key p)) (.lit (.int .i64 (p.1 : Int)))) ps' := by
  refine ⟨?_, fun s => ?_, fun q hq z => ?_⟩
  · rw [Maps.size_put ht, hl]
    by_cases hx : ∃ q ∈ ps, key q = key p
    · rw [if_pos hx, if_pos ((h.has _).2 hx), h.size]
    · rw [if_neg hx, if_neg (fun e => hx ((h.has _).1 e)), h.size]
  · by_cases hs : s = key p
    · subst hs
      rw [Maps.has_put_same ht.isMap (isKey _)]
      exact ⟨fun _ => ⟨p, (hm p).2 (.inl rfl), rfl⟩, fun _ => rfl⟩
    · rw [Maps.has_put_other (by intro e; exact hs (Lit.string.inj e)), h.has]
      constructor
      · rintro ⟨q, hq, e⟩
        exact ⟨q, (hm q).2 (.inr ⟨hq, by rw [e]; exact hs⟩), e⟩
      · rintro ⟨q, hq, e⟩
        rcases (hm q).1 hq with rfl | ⟨hq2, _⟩
        · exact absurd e.symm hs
        · exact ⟨q, hq2, e⟩
  · rcases (hm q).1 hq with rfl | ⟨hq2, hne⟩
    · exact Maps.atKey_put_same ht.isMap (isKey _) _ _
    · rw [Maps.atKey_put_other (by intro e; exact hne (Lit.string.inj e))]
      exact h.at_ q hq2 z
theorem Ch.del {D : DataW Unit} {ps ps' : List Pf} (h : Ch D ps) (ht : Tidy D) (s : List UInt8) (hm : ∀ q, q ∈ ps' ↔ (q ∈ ps ∧ key q ≠ s)) (hl : ps'.length + (if (∃ q ∈ ps, key q = s) then 1 else 0) = ps.length) :
    Ch (D.del (.string s)) ps' := by
  refine ⟨?_, fun t => ?_, fun q hq z => ?_⟩
  · have := Maps.size_del (k := .string s) ht
    rw [h.size] at this
    by_cases hx : ∃ q ∈ ps, key q = s
    · rw [if_pos hx] at hl
      rw [if_pos ((h.has _).2 hx)] at this
      omega
    · rw [if_neg hx] at hl
      rw [if_neg (fun e => hx ((h.has _).1 e))] at this
      omega
  · by_cases hs : t = s
    · subst hs
      rw [Maps.has_del_same]
      constructor
      · intro e; cases e
      · rintro ⟨q, hq, e⟩; exact absurd e ((hm q).1 hq).2
    · rw [Maps.has_del_other (by intro e; exact hs (Lit.string.inj e)), h.has]
      constructor
      · rintro ⟨q, hq, e⟩
        exact ⟨q, (hm q).2 ⟨hq, by rw [e]; exact hs⟩, e⟩
      · rintro ⟨q, hq, e⟩
        exact ⟨q, ((hm q).1 hq).1, e⟩
  · rw [Maps.atKey_del_other (by intro e; exact ((hm q).1 hq).2 (Lit.string.inj e))]
    exact h.at_ q ((hm q).1 hq).1 z

theorem ownsMap_tight {H : Type} {P : Program} {k : TypeId} {R : Value → Option (DataW H × List MemPlace)} {w : World} {b n : Nat} {D : DataW H} (h : w.ownsMap P k R b n D) : w.ownsMap P k R b (Maps.size D) D := by
  obtain ⟨es, clock, hb, F, hs, rfl⟩ := h
  exact ⟨es, clock, hb, F, by simp [Maps.size, length_sorted], rfl⟩

/-- Block b is a map of names to files of the call's own (blocks from base on), which are those of ps. -/
structure ShelfAt (w : World) (base b : Nat) (ps : List Pf) : Prop where
  map : ∃ D : DataW Unit, w.ownsMap Try.prog 9 ptrR b ps.length D ∧ Ch D ps
  files : ∀ p ∈ ps, FlB w p.1 36 p.2 ∧ base ≤ p.1
  apart : ∀ p ∈ ps, ∀ q ∈ ps, p.1 = q.1 → p = q
  lo : base ≤ b
theorem lawK : Keyed Try.prog 9 := string_keyed Try.underlying9
theorem ShelfAt.lt {w : World} {base b : Nat} {ps : List Pf} (h : ShelfAt w base b ps) : b < w.heap.size := by
  obtain ⟨D, h1, _⟩ := h.map
  exact h1.lt
theorem ShelfAt.notb {w : World} {base b : Nat} {ps : List Pf} (h : ShelfAt w base b ps) : ∀ p ∈ ps, p.1 ≠ b := by
  intro p hp e
  obtain ⟨D, ⟨es, clock, hb, _⟩, _⟩ := h.map
  have := (h.files p hp).1
  unfold FlB at this
  rw [e, hb] at this
  cases this
theorem ShelfAt.below {w w' : World} {base b : Nat} {ps : List Pf} (h : ShelfAt w base b ps) (hb : Below w.heap.size w w') : ShelfAt w' base b ps := by
  obtain ⟨D, h1, h2⟩ := h.map
  exact ⟨⟨D, h1.kept (row := none) (gB hb none) (by simp), h2⟩, fun p hp => ⟨(h.files p hp).1.below hb (h.files p hp).1.lt, (h.files p hp).2⟩, h.apart, h.lo⟩

/-- One more file, in a new block, behind those that there are. -/
theorem ShelfAt.more {w w' w2 : World} {base b g : Nat} {ps : List Pf} {f : Fl} {D : DataW Unit} (h : ShelfAt w base b ps) (hD : Ch D ps) (hT : Tidy D) (hgr : w.grownBy w' none) (hg : FlB w' g 36 f) (hgn : w.heap.size ≤ g) (hgb : base ≤ g)
    (hnew : ∀ p ∈ ps, key p ≠ f.nm.data.toList) (hown : w2.ownsMap Try.prog 9 ptrR b (ps.length + 1) (D.put (.string f.nm.data.toList) (.lit (.int .i64 (g : Int))))) (hg2 : w'.grownBy w2 (some b)) : ShelfAt w2 base b (ps ++ [(g, f)]) := by
  have hb := h.lt
  have hfil : ∀ p ∈ ps, p.1 < w.heap.size := fun p hp => (h.files p hp).1.lt
  refine ⟨⟨_, by rw [List.length_append]; exact hown, ?_⟩, fun p hp => ?_, ?_, h.lo⟩
  · refine Ch.put hD hT (g, f) (fun q => ?_) ?_
    · rw [List.mem_append, List.mem_singleton]
      constructor
      · rintro (hq | rfl)
        · exact .inr ⟨hq, hnew q hq⟩
        · exact .inl rfl
      · rintro (rfl | ⟨hq, _⟩)
        · exact .inr rfl
        · exact .inl hq
    · rw [if_neg (by rintro ⟨q, hq, e⟩; exact hnew q hq e), List.length_append]
      rfl
  · rw [List.mem_append, List.mem_singleton] at hp
    rcases hp with hp | rfl
    · have h1 := (h.files p hp).1
      refine ⟨?_, (h.files p hp).2⟩
      unfold FlB
      rw [hg2.block p.1 (Nat.lt_of_lt_of_le h1.lt hgr.size) (by simp; exact h.notb p hp), hgr.block p.1 h1.lt (by simp)]
      exact h1
    · refine ⟨?_, hgb⟩
      unfold FlB
      rw [hg2.block g hg.lt (by simp; omega)]
      exact hg
  · intro p hp q hq e
    rw [List.mem_append, List.mem_singleton] at hp hq
    rcases hp with hp | rfl
    · rcases hq with hq | rfl
      · exact h.apart p hp q hq e
      · have := hfil p hp
        simp at e
        omega
    · rcases hq with hq | rfl
      · have := hfil q hq
        simp at e
        omega
      · rfl

set_option maxRecDepth 20000 in
set_option maxHeartbeats 2000000 in
theorem shelfOf_any (fs : List Fl) (v : Value) (w : World) (hr : RdF w v fs) (hB : Bd fs) (hn : fs.length ≤ 2000000) (hok : okL fs = true) :
    Calls Try.prog 34 #[.agg #[v]] w fun e w' => (∃ (b : Nat) (ps : List Pf), e = .returned (.tuple #[.map (some b), .bool true]) ∧ ps.map Prod.snd = fs ∧ ShelfAt w' w.heap.size b ps) ∧ Below w.heap.size w w' := by
  have C : Hid (∀ W v, RdF W v fs → Calls Try.prog 12 #[.agg #[v]] W fun e w' => e = .returned (.bool true) ∧ Below W.heap.size W w') := fun W v h => by rw [← hok]; exact implDiskOk_any fs v W h hB hn
  have HOK := hide (okL_iff.1 hok)
  obtain ⟨a, c, rfl, hc⟩ := hr.open
  replace hr := hide hr
  have HB := hide hB
  clear hok hB
  have hmm := @run_makeMap Try.prog
  go_enter Try.func34, Try.ntmps34
  go_wp2_with (go_at_call 12; refine ((unhide C) _ _ (by exact (unhide hr).alloc _)).mono ?_; rintro e w1 ⟨rfl, hb1⟩; (have cA := ((Box.new w _ _).step hb1).cell); (have lA := ((Box.new w _ _).step hb1).lt); (have HB1 := hide (bTr (bTrA (Below.refl w.heap.size w) _) hb1)); (have s1 := sz1 hb1); replace hb1 := hide hb1)
  have hsh0 : ShelfAt (w1.alloc (.map #[] 0)) w.heap.size w1.heap.size [] := ⟨⟨_, World.ownsMap_made w1 _ _ _, Ch.nil⟩, fun p hp => (by cases hp), fun p hp => (by cases hp), by omega⟩
  clear hmm
  go_loopw [14] (fun ti wr => ∃ (k : Nat) (ps : List Pf), k ≤ fs.length ∧ ti = .int .i64 k ∧ Hid (ps.map Prod.snd = fs.take k) ∧ ShelfAt wr w.heap.size w1.heap.size ps ∧ Below w1.heap.size w1 wr) (fun ti _ => fs.length - (intOf ti).toNat)
  case atStart => exact ⟨0, [], Nat.zero_le _, rfl, rfl, hsh0, (Below.refl _ w1).alloc (Nat.le_refl _) _⟩
  case round =>
    obtain ⟨k, ps, hk, rfl, hps, hsh, hb⟩ := hrel
    clear hsh0
    have hss := hb.size
    have hlb := hsh.lt
    by_cases hlt : k < fs.length
    · obtain ⟨f, hf⟩ : ∃ f, fs[k]? = some f := ⟨fs[k], List.getElem?_eq_getElem hlt⟩
      obtain ⟨g, o, rfl, hg, hat⟩ := hc k f hf
      obtain ⟨d1, d2, d3⟩ := (hat.below (unhide HB1) hg).below hb (by omega)
      have hgr : g < wr.heap.size := by omega
      have hz1 := ((unhide HB) f (List.mem_of_getElem? hf)).1
      obtain ⟨D, hown, hch⟩ := hsh.map
      have hT := hown.tidy lawK
      have hpl : ps.length = k := by have := congrArg List.length (unhide hps); rw [List.length_map, List.length_take] at this; omega
      have hnew : ∀ p ∈ ps, key p ≠ f.nm.data.toList := by
        intro p hp e
        have hm : p.2 ∈ fs.take k := by rw [← unhide hps]; exact List.mem_map_of_mem hp
        obtain ⟨j, hj⟩ := List.mem_iff_getElem?.1 hm
        rw [List.getElem?_take] at hj
        split at hj
        · rename_i hjk
          have hlt2 := (List.pairwise_iff_getElem.1 (unhide HOK).2.2) j k (by omega) hlt hjk
          rw [List.getElem?_eq_getElem (by omega)] at hj
          rw [Option.some.inj hj, Option.some.inj ((List.getElem?_eq_getElem hlt).symm.trans hf), show p.2.nm = f.nm from ba_ext e, ltB_irrefl] at hlt2
          cases hlt2
        · cases hj
      have hps2 := hide (show (ps ++ [(wr.heap.size, f)]).map Prod.snd = fs.take (k + 1) by rw [List.map_append, unhide hps, List.take_add_one, hf]; rfl)
      have HN := hide hnew
      have HSH := hide hsh
      have HCH := hide hch
      have HTD := hide hT
      replace hf := hide hf
      have hown1 := hown.alloc (.cells #[.string f.nm, .string f.tx, .int .i64 f.kp] 36)
      have hkey : keyOf Try.prog 9 (.string f.nm) = some (.string f.nm.data.toList) := Go.WideMaps.keyOf_string_mk Try.underlying9 (by unfold maxLen; omega)
      clear hc hat hnew hsh hch hT hown
      go_wp2_with (first | (at_mapUpdate; refine wpList_mapUpdate_own _ rfl _ _ _ 62 rfl 9 82 lawK Try.underlying62 ptrR w1.heap.size ps.length D rfl hown1 (by unfold maxLen; omega) _ _ _ rfl rfl hkey _ [] (ptrR_mk wr.heap.size) ?_; intro w2 hown2 hg2) | fail)
      have hsh2 := ShelfAt.more (unhide HSH) (unhide HCH) (unhide HTD) (gB ((Below.refl _ wr).alloc (Nat.le_refl _) _) none) (FlB.new wr 36 f) (Nat.le_refl _) (by omega) (unhide HN) hown2 hg2
      have hb2 : Below w1.heap.size w1 w2 := (hb.alloc hss _).trans (gBelow hg2 (by simp; omega) (fun k hk => by cases hk; exact Nat.le_refl _))
      go_roundw
      case rel => exact ⟨k + 1, _, by omega, by go_num, unhide hps2, hsh2, hb2⟩
      case measure => simp [intOf]; omega
    · have hfin := hide (show ps.map Prod.snd = fs by rw [unhide hps, List.take_of_length_le (by omega)])
      replace hsh := hide hsh
      go_wp2
      go_ret2
      exact ⟨⟨w1.heap.size, ps, rfl, unhide hfin, unhide hsh⟩, (unhide HB1).trans (hb.mono (by omega))⟩
end Go.Proofs.Ytkaaabpodhgbpaa

namespace Go.Proofs.Ytkaaabpodhgbpaa
open Go.RowKit
open Go.Maps (Keyed IsMap Tidy string_keyed)

def putP (ps : List Pf) (p : Pf) : List Pf := (ps.filter fun q => ltB q.2.nm p.2.nm) ++ [p] ++ (ps.filter fun q => gtB q.2.nm p.2.nm)
def withoutP (ps : List Pf) (s : ByteArray) : List Pf := ps.filter fun q => otherB s q.2
theorem putP_map (ps : List Pf) (p : Pf) : (putP ps p).map Prod.snd = putL (ps.map Prod.snd) p.2 := by
  unfold putP putL lowL highL
  rw [List.map_append, List.map_append, List.filter_map, List.filter_map]
  rfl
theorem withoutP_map (ps : List Pf) (s : ByteArray) : (withoutP ps s).map Prod.snd = withoutL (ps.map Prod.snd) s := by
  unfold withoutP withoutL
  rw [List.filter_map]
  rfl
theorem key_eq {p : Pf} {s : ByteArray} : key p = s.data.toList ↔ p.2.nm = s := ⟨fun h => ba_ext h, fun h => by unfold key; rw [h]⟩
theorem key_eq2 {p q : Pf} : key p = key q ↔ p.2.nm = q.2.nm := ⟨fun h => ba_ext h, fun h => by unfold key; rw [h]⟩
theorem ltB_ne {a b : ByteArray} (h : ltB a b = true) : a ≠ b := by
  rintro rfl
  rw [ltB_irrefl] at h
  cases h
theorem mem_putP {ps : List Pf} {p q : Pf} : q ∈ putP ps p ↔ q = p ∨ (q ∈ ps ∧ key q ≠ key p) := by
  unfold putP
  rw [List.append_assoc, List.mem_append, List.singleton_append, List.mem_cons, List.mem_filter, List.mem_filter, gtB_eq]
  constructor
  · rintro (⟨h1, h2⟩ | h | ⟨h1, h2⟩)
    · exact .inr ⟨h1, fun e => ltB_ne h2 (key_eq2.1 e)⟩
    · exact .inl h
    · exact .inr ⟨h1, fun e => ltB_ne h2 (key_eq2.1 e).symm⟩
  · rintro (h | ⟨h1, h2⟩)
    · exact .inr (.inl h)
    · rcases ltB_tri q.2.nm p.2.nm with h | h | h
      · exact .inl ⟨h1, h⟩
      · exact absurd (key_eq2.2 h) h2
      · exact .inr (.inr ⟨h1, h⟩)
theorem mem_withoutP {ps : List Pf} {s : ByteArray} {q : Pf} : q ∈ withoutP ps s ↔ (q ∈ ps ∧ key q ≠ s.data.toList) := by
  unfold withoutP otherB
  rw [List.mem_filter, Bool.not_eq_true', sameN_no, ne_eq, ne_eq, key_eq]

theorem count_le {ps : List Pf} (h : Asc (ps.map Prod.snd)) (s : ByteArray) : (ps.filter fun q => sameN q.2.nm s).length = if (∃ q ∈ ps, key q = s.data.toList) then 1 else 0 := by
  induction ps with
  | nil => simp
  | cons x r ih =>
    unfold Asc at h
    rw [List.map_cons, List.pairwise_cons] at h
    have ih' := ih h.2
    by_cases hx : x.2.nm = s
    · have hno : ¬ ∃ q ∈ r, key q = s.data.toList := by
        rintro ⟨q, hq, e⟩
        have := h.1 q.2 (List.mem_map_of_mem hq)
        exact ltB_ne this (hx.trans (key_eq.1 e).symm)
      rw [if_neg hno] at ih'
      rw [if_pos ⟨x, List.mem_cons_self, key_eq.2 hx⟩, List.filter_cons_of_pos (by exact sameN_iff.2 hx), List.length_cons, ih']
    · rw [List.filter_cons_of_neg (by rw [Bool.not_eq_true, sameN_no]; exact hx), ih']
      by_cases hr : ∃ q ∈ r, key q = s.data.toList
      · rw [if_pos hr, if_pos (by obtain ⟨q, hq, e⟩ := hr; exact ⟨q, List.mem_cons_of_mem _ hq, e⟩)]
      · rw [if_neg hr, if_neg]
        rintro ⟨q, hq, e⟩
        rcases List.mem_cons.1 hq with rfl | hq
        · exact hx (key_eq.1 e)
        · exact hr ⟨q, hq, e⟩
theorem three_parts (ps : List Pf) (s : ByteArray) : (ps.filter fun q => ltB q.2.nm s).length + (ps.filter fun q => sameN q.2.nm s).length + (ps.filter fun q => gtB q.2.nm s).length = ps.length := by
  induction ps with
  | nil => simp
  | cons x r ih =>
    rcases ltB_tri x.2.nm s with h | h | h
    · have h2 : sameN x.2.nm s = false := sameN_no.2 (ltB_ne h)
      have h3 : gtB x.2.nm s = false := by
        rw [gtB_eq, ← Bool.not_eq_true]
        intro h4
        have := ltB_trans h h4
        rw [ltB_irrefl] at this
        cases this
      rw [List.filter_cons_of_pos (by exact h), List.filter_cons_of_neg (by rw [h2]; decide), List.filter_cons_of_neg (by rw [h3]; decide)]
      simp only [List.length_cons]
      omega
    · have h1 : ltB x.2.nm s = false := by rw [h]; exact ltB_irrefl _
      have h3 : gtB x.2.nm s = false := by rw [gtB_eq, h]; exact ltB_irrefl _
      rw [List.filter_cons_of_neg (by rw [h1]; decide), List.filter_cons_of_pos (by exact sameN_iff.2 h), List.filter_cons_of_neg (by rw [h3]; decide)]
      simp only [List.length_cons]
      omega
    · have h2 : sameN x.2.nm s = false := sameN_no.2 (fun e => ltB_ne h e.symm)
      have h1 : ltB x.2.nm s = false := by
        rw [← Bool.not_eq_true]
        intro h4
        have := ltB_trans h h4
        rw [ltB_irrefl] at this
        cases this
      have h3 : gtB x.2.nm s = true := by rw [gtB_eq]; exact h
      rw [List.filter_cons_of_neg (by rw [h1]; decide), List.filter_cons_of_neg (by rw [h2]; decide), List.filter_cons_of_pos (by exact h3)]
      simp only [List.length_cons]
      omega
theorem len_putP {ps : List Pf} {p : Pf} (h : Asc (ps.map Prod.snd)) : (putP ps p).length = if (∃ q ∈ ps, key q = key p) then ps.length else ps.length + 1 := by
  have h1 := three_parts ps p.2.nm
  have h2 := count_le h p.2.nm
  unfold putP
  simp only [List.length_append, List.length_cons, List.length_nil]
  by_cases hx : ∃ q ∈ ps, key q = key p
  · rw [if_pos hx]
    rw [if_pos (show ∃ q ∈ ps, key q = p.2.nm.data.toList from hx)] at h2
    omega
  · rw [if_neg hx]
    rw [if_neg (show ¬ ∃ q ∈ ps, key q = p.2.nm.data.toList from hx)] at h2
    omega
theorem len_withoutP {ps : List Pf} (h : Asc (ps.map Prod.snd)) (s : ByteArray) : (withoutP ps s).length + (if (∃ q ∈ ps, key q = s.data.toList) then 1 else 0) = ps.length := by
  rw [← count_le h s]
  unfold withoutP otherB
  clear h
  induction ps with
  | nil => simp
  | cons x r ih =>
    by_cases hx : sameN x.2.nm s = true
    · rw [List.filter_cons_of_neg (by rw [hx]; decide), List.filter_cons_of_pos (by exact hx)]
      simp only [List.length_cons]
      omega
    · rw [Bool.not_eq_true] at hx
      rw [List.filter_cons_of_pos (by rw [hx]; rfl), List.filter_cons_of_neg (by rw [hx]; decide)]
      simp only [List.length_cons]
      omega
theorem withoutL_asc {fs : List Fl} (s : ByteArray) (h : Asc fs) : Asc (withoutL fs s) := h.sublist List.filter_sublist

/-- Ch hangs on what is there, at which key, and how many. -/
theorem Ch.congr {D D' : DataW Unit} {ps : List Pf} (h : Ch D ps) (h1 : Maps.size D' = Maps.size D) (h2 : ∀ k, Maps.has D' k = Maps.has D k) (h3 : ∀ k z, D'.atKey k z = D.atKey k z) : Ch D' ps :=
  ⟨h1.trans h.size, fun s => by rw [h2]; exact h.has s, fun p hp z => by rw [h3]; exact h.at_ p hp z⟩
/-- The same keys at the same blocks. -/
theorem Ch.same {D : DataW Unit} {ps ps' : List Pf} (h : Ch D ps) (hl : ps'.length = ps.length) (h1 : ∀ p ∈ ps', ∃ q ∈ ps, key q = key p ∧ q.1 = p.1) (h2 : ∀ q ∈ ps, ∃ p ∈ ps', key p = key q) : Ch D ps' := by
  refine ⟨h.size.trans hl.symm, fun s => ?_, fun p hp z => ?_⟩
  · rw [h.has]
    constructor
    · rintro ⟨q, hq, e⟩
      obtain ⟨p, hp, e2⟩ := h2 q hq
      exact ⟨p, hp, e2.trans e⟩
    · rintro ⟨p, hp, e⟩
      obtain ⟨q, hq, e2, _⟩ := h1 p hp
      exact ⟨q, hq, e2.trans e⟩
  · obtain ⟨q, hq, e, e2⟩ := h1 p hp
    rw [← e, ← e2]
    exact h.at_ q hq z
end Go.Proofs.Ytkaaabpodhgbpaa

namespace Go.Proofs.Ytkaaabpodhgbpaa
open Go.RowKit
open Go.Maps (Keyed IsMap Tidy string_keyed)

theorem zeroPtr (w : World) : (zeroValue 82).run Try.prog w = .ok (.pointer none) w := by kernel_rfl
theorem keyS {s : ByteArray} (h : s.size ≤ 4000000) : keyOf Try.prog 9 (.string s) = some (.string s.data.toList) := Go.WideMaps.keyOf_string_mk Try.underlying9 (by unfold maxLen; omega)
theorem ShelfAt.look {w : World} {base b : Nat} {ps : List Pf} (h : ShelfAt w base b ps) {p : Pf} (hp : p ∈ ps) {s : ByteArray} (hs : p.2.nm = s) (hz : s.size ≤ 4000000) :
    (Instr.lookup 62 (.map (some b)) (.string s) true).run Try.prog w = .ok (.tuple #[.pointer (some ⟨p.1, 0, none⟩), .bool true]) w := by
  obtain ⟨D, hown, hch⟩ := h.map
  obtain ⟨v, q, hrun, hv⟩ := hown.look_ok lawK Try.underlying62 (zeroPtr w) (show ptrR (.pointer none) = some (.nil, []) from rfl) (keyS hz)
  have h1 : Maps.has D (.string s.data.toList) = true := (hch.has _).2 ⟨p, hp, by unfold key; rw [hs]⟩
  have h2 := hch.at_ p hp .nil
  unfold key at h2
  rw [hs] at h2
  rw [h2] at hv
  rw [hrun, h1, ptrR_inv hv]
theorem ShelfAt.miss {w : World} {base b : Nat} {ps : List Pf} (h : ShelfAt w base b ps) {s : ByteArray} (hs : ∀ p ∈ ps, p.2.nm ≠ s) (hz : s.size ≤ 4000000) :
    (Instr.lookup 62 (.map (some b)) (.string s) true).run Try.prog w = .ok (.tuple #[.pointer none, .bool false]) w := by
  obtain ⟨D, hown, hch⟩ := h.map
  obtain ⟨v, q, hrun, hv⟩ := hown.look_ok lawK Try.underlying62 (zeroPtr w) (show ptrR (.pointer none) = some (.nil, []) from rfl) (keyS hz)
  have h1 : Maps.has D (.string s.data.toList) = false := by
    rw [← Bool.not_eq_true, hch.has]
    rintro ⟨p, hp, e⟩
    exact hs p hp (key_eq.1 e)
  rw [Maps.atKey_of_not_has h1] at hv
  rw [hrun, h1, ptrR_nil hv]
theorem ShelfAt.del {w w2 : World} {base b n : Nat} {ps : List Pf} {D : DataW Unit} (h : ShelfAt w base b ps) (ha : Asc (ps.map Prod.snd)) (hD : Ch D ps) (hT : Tidy D) (s : ByteArray)
    (hown : w2.ownsMap Try.prog 9 ptrR b n (D.del (.string s.data.toList))) (ht : w.mapTurned w2 b) : ShelfAt w2 base b (withoutP ps s) := by
  have hch : Ch (D.del (.string s.data.toList)) (withoutP ps s) := Ch.del hD hT _ (fun q => mem_withoutP) (len_withoutP ha s)
  refine ⟨⟨_, by rw [← hch.size]; exact ownsMap_tight hown, hch⟩, fun p hp => ?_, fun p hp q hq e => ?_, h.lo⟩
  · have hp' := (mem_withoutP.1 hp).1
    refine ⟨?_, (h.files p hp').2⟩
    unfold FlB
    rw [ht.grown.block p.1 (h.files p hp').1.lt (by simp; exact h.notb p hp')]
    exact (h.files p hp').1
  · exact h.apart p (mem_withoutP.1 hp).1 q (mem_withoutP.1 hq).1 e
/-- A file of the shelf is another one of the same name. -/
theorem ShelfAt.turn {w w' : World} {base b g : Nat} {ps : List Pf} {f f' : Fl} (h : ShelfAt w base b ps) (ha : Asc (ps.map Prod.snd)) (hp : (g, f) ∈ ps) (hn : f'.nm = f.nm) (hg : FlB w' g 36 f') (hgr : w.grownBy w' (some g)) : ShelfAt w' base b (putP ps (g, f')) := by
  obtain ⟨D, hown, hch⟩ := h.map
  have hgb : g ≠ b := h.notb (g, f) hp
  have hk : key (g, f') = key (g, f) := key_eq2.2 hn
  have hlen : (putP ps (g, f')).length = ps.length := by rw [len_putP ha, if_pos ⟨(g, f), hp, hk.symm⟩]
  refine ⟨⟨D, by rw [hlen]; exact hown.kept hgr (by simp; exact fun e => hgb e.symm), ?_⟩, fun p hpp => ?_, fun p hpp q hqq e => ?_, h.lo⟩
  · refine hch.same hlen (fun p hpp => ?_) (fun q hq => ?_)
    · rcases mem_putP.1 hpp with rfl | ⟨h1, _⟩
      · exact ⟨(g, f), hp, hk.symm, rfl⟩
      · exact ⟨p, h1, rfl, rfl⟩
    · by_cases e : key q = key (g, f')
      · exact ⟨(g, f'), mem_putP.2 (.inl rfl), e.symm⟩
      · exact ⟨q, mem_putP.2 (.inr ⟨hq, e⟩), rfl⟩
  · rcases mem_putP.1 hpp with rfl | ⟨h1, h2⟩
    · exact ⟨hg, (h.files (g, f) hp).2⟩
    · refine ⟨?_, (h.files p h1).2⟩
      have hne : p.1 ≠ g := by
        intro e
        have := h.apart p h1 (g, f) hp e
        rw [this] at h2
        exact h2 hk.symm
      unfold FlB
      rw [hgr.block p.1 (h.files p h1).1.lt (by simp; exact hne)]
      exact (h.files p h1).1
  · rcases mem_putP.1 hpp with rfl | ⟨h1, h2⟩
    · rcases mem_putP.1 hqq with rfl | ⟨h3, h4⟩
      · rfl
      · have := h.apart q h3 (g, f) hp e.symm
        rw [this] at h4
        exact absurd hk.symm h4
    · rcases mem_putP.1 hqq with rfl | ⟨h3, h4⟩
      · have := h.apart p h1 (g, f) hp e
        rw [this] at h2
        exact absurd hk.symm h2
      · exact h.apart p h1 q h3 e
def hasP (ps : List Pf) (s : ByteArray) : Bool := ps.any fun q => sameN q.2.nm s
theorem hasP_iff {ps : List Pf} {s : ByteArray} : hasP ps s = true ↔ ∃ p ∈ ps, p.2.nm = s := by
  unfold hasP
  rw [List.any_eq_true]
  simp only [sameN_iff]
theorem hasP_no {ps : List Pf} {s : ByteArray} : hasP ps s = false ↔ ∀ p ∈ ps, p.2.nm ≠ s := by
  rw [← Bool.not_eq_true, hasP_iff]
  constructor
  · intro h p hp e
    exact h ⟨p, hp, e⟩
  · rintro h ⟨p, hp, e⟩
    exact h p hp e

set_option maxRecDepth 20000 in
set_option maxHeartbeats 1000000 in
theorem drop_any (ps : List Pf) (s : ByteArray) (base b : Nat) (w : World) (h : ShelfAt w base b ps) (ha : Asc (ps.map Prod.snd)) (hz : s.size ≤ 4000000) :
    Calls Try.prog 53 #[.map (some b), .string s] w fun e w' => e = .returned (.bool (hasP ps s)) ∧ ShelfAt w' base b (withoutP ps s) ∧ Below base w w' := by
  obtain ⟨D, hown, hch⟩ := h.map
  have hT := hown.tidy lawK
  have H := hide h
  have HA := hide ha
  have HCH := hide hch
  have HT := hide hT
  have hkey := keyS hz
  have hlo := h.lo
  have hlt := h.lt
  cases hb : hasP ps s with
  | true =>
    obtain ⟨p, hp, hs⟩ := hasP_iff.1 hb
    have hrun := h.look hp hs hz
    clear h ha hch hT hb hs hp
    go_enter Try.func53, Try.ntmps53
    go_wp2_with (at_delete; refine wpList_delete_own _ rfl _ _ 62 9 rfl 82 lawK Try.underlying62 ptrR b ps.length D rfl hown _ _ rfl hkey ?_; intro w1 hown1 hturn1)
    have hsh := hide ((unhide H).del (unhide HA) (unhide HCH) (unhide HT) s hown1 hturn1)
    have hbw := hide (gBelow (B := base) hturn1.grown (by omega) (fun k hk => by cases hk; exact hlo))
    clear hown1 hturn1
    go_wp2
    go_ret
    exact ⟨rfl, unhide hsh, unhide hbw⟩
  | false =>
    have hrun := h.miss (hasP_no.1 hb) hz
    clear h ha hch hT hb
    go_enter Try.func53, Try.ntmps53
    go_wp2_with (at_delete; refine wpList_delete_own _ rfl _ _ 62 9 rfl 82 lawK Try.underlying62 ptrR b ps.length D rfl hown _ _ rfl hkey ?_; intro w1 hown1 hturn1)
    have hsh := hide ((unhide H).del (unhide HA) (unhide HCH) (unhide HT) s hown1 hturn1)
    have hbw := hide (gBelow (B := base) hturn1.grown (by omega) (fun k hk => by cases hk; exact hlo))
    clear hown1 hturn1
    go_wp2
    go_ret
    exact ⟨rfl, unhide hsh, unhide hbw⟩
end Go.Proofs.Ytkaaabpodhgbpaa

namespace Go.Proofs.Ytkaaabpodhgbpaa
open Go.RowKit
open Go.Maps (Keyed IsMap Tidy string_keyed)

theorem FlB.set0 {w : World} {g : Nat} {T : TypeId} {f : Fl} (h : FlB w g T f) (s : ByteArray) : FlB (w.setCell ⟨g, 0, none⟩ (.string s)) g T { f with nm := s } := heap_setCell_same w g 0 _ T _ h
theorem FlB.set1 {w : World} {g : Nat} {T : TypeId} {f : Fl} (h : FlB w g T f) (s : ByteArray) : FlB (w.setCell ⟨g, 1, none⟩ (.string s)) g T { f with tx := s } := heap_setCell_same w g 1 _ T _ h
theorem FlB.set2 {w : World} {g : Nat} {T : TypeId} {f : Fl} (h : FlB w g T f) (z : Int) : FlB (w.setCell ⟨g, 2, none⟩ (.int .i64 z)) g T { f with kp := z } := heap_setCell_same w g 2 _ T _ h

def keptF (f : Fl) : Fl := { f with kp := f.tx.size }
set_option maxRecDepth 20000 in
set_option maxHeartbeats 1000000 in
theorem keep_yes (ps : List Pf) (s : ByteArray) (base b g : Nat) (f : Fl) (w : World) (h : ShelfAt w base b ps) (ha : Asc (ps.map Prod.snd)) (hp : (g, f) ∈ ps) (hs : f.nm = s) (hz : s.size ≤ 4000000) :
    Calls Try.prog 51 #[.map (some b), .string s] w fun e w' => e = .returned (.bool true) ∧ ShelfAt w' base b (putP ps (g, keptF f)) ∧ Below base w w' := by
  have hrun := h.look hp hs hz
  have hf := (h.files _ hp).1
  have hlo := (h.files _ hp).2
  have hgl := hf.lt
  obtain ⟨d1, d2, d3⟩ := hf.at
  simp only [Nat.zero_add] at d2 d3
  have dz := hf.frozen
  have hsh := hide (h.turn ha hp (show (keptF f).nm = f.nm from rfl) (hf.set2 (f.tx.size : Int)) (gS w g 2 _))
  have hbw := hide ((Below.refl base w).setCell (p := ⟨g, 2, none⟩) hlo (.int .i64 (f.tx.size : Int)))
  clear h ha hp hs hf
  go_enter Try.func51, Try.ntmps51
  go_wp2
  go_ret
  exact ⟨rfl, unhide hsh, unhide hbw⟩
set_option maxHeartbeats 1000000 in
theorem keep_no (ps : List Pf) (s : ByteArray) (base b : Nat) (w : World) (h : ShelfAt w base b ps) (hp : ∀ p ∈ ps, p.2.nm ≠ s) (hz : s.size ≤ 4000000) :
    Calls Try.prog 51 #[.map (some b), .string s] w fun e w' => e = .returned (.bool false) ∧ w' = w := by
  have hrun := h.miss hp hz
  clear h hp
  go_enter Try.func51, Try.ntmps51
  go_wp2
  go_ret
  exact ⟨rfl, rfl⟩
/-- What stands there stored once more. -/
theorem ShelfAt.again {w w2 : World} {base b n : Nat} {ps : List Pf} {p : Pf} {D : DataW Unit} (h : ShelfAt w base b ps) (ha : Asc (ps.map Prod.snd)) (hD : Ch D ps) (hT : Tidy D) (hp : p ∈ ps)
    (hown : w2.ownsMap Try.prog 9 ptrR b n (D.put (.string (key p)) (.lit (.int .i64 (p.1 : Int))))) (hg2 : w.grownBy w2 (some b)) : ShelfAt w2 base b ps := by
  have huniq : ∀ q ∈ ps, key q = key p → q = p := by
    intro q hq e
    obtain ⟨i, hi⟩ := List.mem_iff_getElem?.1 hq
    obtain ⟨j, hj⟩ := List.mem_iff_getElem?.1 hp
    rcases Nat.lt_trichotomy i j with hij | hij | hij
    · have hjl := (List.getElem?_eq_some_iff.1 hj).1
      have := (List.pairwise_iff_getElem.1 ha) i j (by rw [List.length_map]; omega) (by rw [List.length_map]; exact hjl) hij
      rw [List.getElem_map, List.getElem_map] at this
      rw [List.getElem?_eq_getElem (by omega)] at hi hj
      rw [Option.some.inj hi, Option.some.inj hj] at this
      exact absurd (key_eq2.1 e) (ltB_ne this)
    · rw [hij] at hi
      exact Option.some.inj (hi.symm.trans hj)
    · have hil := (List.getElem?_eq_some_iff.1 hi).1
      have := (List.pairwise_iff_getElem.1 ha) j i (by rw [List.length_map]; omega) (by rw [List.length_map]; exact hil) hij
      rw [List.getElem_map, List.getElem_map] at this
      rw [List.getElem?_eq_getElem (by omega)] at hi hj
      rw [Option.some.inj hi, Option.some.inj hj] at this
      exact absurd (key_eq2.1 e).symm (ltB_ne this)
  have hch : Ch (D.put (.string (key p)) (.lit (.int .i64 (p.1 : Int)))) ps := by
    refine hD.put hT p (fun q => ?_) ?_
    · constructor
      · intro hq
        by_cases e : key q = key p
        · exact .inl (huniq q hq e)
        · exact .inr ⟨hq, e⟩
      · rintro (rfl | ⟨hq, _⟩)
        · exact hp
        · exact hq
    · rw [if_pos ⟨p, hp, rfl⟩]
  refine ⟨⟨_, by rw [← hch.size]; exact ownsMap_tight hown, hch⟩, fun q hq => ?_, h.apart, h.lo⟩
  refine ⟨?_, (h.files q hq).2⟩
  unfold FlB
  rw [hg2.block q.1 (h.files q hq).1.lt (by simp; exact h.notb q hq)]
  exact (h.files q hq).1
/-- One more file, in a new block, in its place. -/
theorem ShelfAt.insert {w w' w2 : World} {base b g n : Nat} {ps : List Pf} {f : Fl} {D : DataW Unit} (h : ShelfAt w base b ps) (ha : Asc (ps.map Prod.snd)) (hD : Ch D ps) (hT : Tidy D) (hgr : w.grownBy w' none) (hg : FlB w' g 36 f) (hgn : w.heap.size ≤ g) (hgb : base ≤ g)
    (hown : w2.ownsMap Try.prog 9 ptrR b n (D.put (.string f.nm.data.toList) (.lit (.int .i64 (g : Int))))) (hg2 : w'.grownBy w2 (some b)) : ShelfAt w2 base b (putP ps (g, f)) := by
  have hb := h.lt
  have hch : Ch (D.put (.string f.nm.data.toList) (.lit (.int .i64 (g : Int)))) (putP ps (g, f)) := hD.put hT (g, f) (fun q => mem_putP) (len_putP ha)
  have hin : ∀ q ∈ putP ps (g, f), q = (g, f) ∨ (q ∈ ps ∧ q.1 < w.heap.size) := by
    intro q hq
    rcases mem_putP.1 hq with h1 | ⟨h1, _⟩
    · exact .inl h1
    · exact .inr ⟨h1, (h.files q h1).1.lt⟩
  refine ⟨⟨_, by rw [← hch.size]; exact ownsMap_tight hown, hch⟩, fun p hp => ?_, ?_, h.lo⟩
  · rcases hin p hp with rfl | ⟨h1, h2⟩
    · refine ⟨?_, hgb⟩
      unfold FlB
      rw [hg2.block g hg.lt (by simp; omega)]
      exact hg
    · refine ⟨?_, (h.files p h1).2⟩
      unfold FlB
      rw [hg2.block p.1 (Nat.lt_of_lt_of_le h2 hgr.size) (by simp; exact h.notb p h1), hgr.block p.1 h2 (by simp)]
      exact (h.files p h1).1
  · intro p hp q hq e
    rcases hin p hp with rfl | ⟨h1, h2⟩
    · rcases hin q hq with rfl | ⟨h3, h4⟩
      · rfl
      · simp at e; omega
    · rcases hin q hq with rfl | ⟨h3, h4⟩
      · simp at e; omega
      · exact h.apart p h1 q h3 e
theorem putP_asc {ps : List Pf} {p : Pf} (h : Asc (ps.map Prod.snd)) : Asc ((putP ps p).map Prod.snd) := by
  rw [putP_map]
  exact putL_asc h

def addF (f : Fl) (t : ByteArray) : Fl := { f with tx := f.tx ++ t }
theorem nameOk_at2 (s : ByteArray) (b : Bool) (h : nameB s = b) (w : World) (hs : s.size ≤ 4000000) :
    Calls Try.prog 44 #[.string s] w fun e w' => e = .returned (.bool b) ∧ w' = w := by
  rw [← h]; exact nameOk_any s w hs
set_option maxRecDepth 20000 in
set_option maxHeartbeats 1000000 in
theorem add_yes (ps : List Pf) (s t : ByteArray) (base b g : Nat) (f : Fl) (w : World) (h : ShelfAt w base b ps) (ha : Asc (ps.map Prod.snd)) (hp : (g, f) ∈ ps) (hs : f.nm = s) (hn : nameB s = true) (hz : s.size ≤ 4000000) (hft : f.tx.size ≤ 20000) (hfit : f.tx.size + t.size ≤ 20000) (hl : ps.length ≤ 30) :
    Calls Try.prog 50 #[.map (some b), .string s, .string t] w fun e w' => e = .returned (.bool true) ∧ ShelfAt w' base b (putP ps (g, addF f t)) ∧ Below base w w' := by
  have hrun := h.look hp hs hz
  have hf := (h.files _ hp).1
  have hlo := (h.files _ hp).2
  have hgl := hf.lt
  obtain ⟨d1, d2, d3⟩ := hf.at
  simp only [Nat.zero_add] at d2 d3
  have dz := hf.frozen
  have hsh1 := h.turn ha hp (show (addF f t).nm = f.nm from rfl) (hf.set1 (f.tx ++ t)) (gS w g 1 _)
  obtain ⟨D, hown, hch⟩ := hsh1.map
  have hT := hide (hown.tidy lawK)
  have HA := hide (putP_asc (p := (g, addF f t)) ha)
  have HP := hide (show (g, addF f t) ∈ putP ps (g, addF f t) from mem_putP.2 (.inl rfl))
  have hkey := keyS hz
  have hkk := hide (show key (g, addF f t) = s.data.toList from key_eq.2 hs)
  have hbl := h.lo
  have hbl2 := h.lt
  have hpl : (putP ps (g, addF f t)).length ≤ 31 := by rw [len_putP ha]; split <;> omega
  have HCH := hide hch
  have HSH := hide hsh1
  have HN := hide hn
  have c1 : (f.tx.size : Int) ≤ 20000 := by omega
  have c2 : ¬ (20000 : Int) - (f.tx.size : Int) < (t.size : Int) := by omega
  have c3 : t.size ≤ 20000 := by omega
  have c4 : f.tx.size + t.size ≤ 9223372036854775807 := by omega
  clear h ha hp hs hf hch hsh1 hn hfit hft
  go_enter Try.func50, Try.ntmps50
  go_wp2_with (first
    | (go_at_call 44; refine (nameOk_at2 s _ (unhide HN) _ hz).mono ?_; rintro e w1 ⟨rfl, rfl⟩)
    | (at_mapUpdate; refine wpList_mapUpdate_own _ rfl _ _ _ 62 rfl 9 82 lawK Try.underlying62 ptrR b _ D rfl hown (by unfold maxLen; omega) _ _ _ rfl rfl hkey _ [] (ptrR_mk g) ?_; intro w2 hown2 hg2))
  rw [← unhide hkk] at hown2
  have hsh2 := hide ((unhide HSH).again (unhide HA) (unhide HCH) (unhide hT) (unhide HP) hown2 hg2)
  have hbw := hide (((Below.refl base w1).setCell (p := ⟨g, 1, none⟩) hlo (.string (f.tx ++ t))).trans (gBelow (B := base) hg2 (by simp; omega) (fun k hk => by cases hk; exact hbl)))
  go_ret
  exact ⟨rfl, unhide hsh2, unhide hbw⟩
set_option maxHeartbeats 1000000 in
theorem add_full (ps : List Pf) (s t : ByteArray) (base b g : Nat) (f : Fl) (w : World) (h : ShelfAt w base b ps) (hp : (g, f) ∈ ps) (hs : f.nm = s) (hn : nameB s = true) (hz : s.size ≤ 4000000) (hft : f.tx.size ≤ 20000) (hfit : 20000 < f.tx.size + t.size) :
    Calls Try.prog 50 #[.map (some b), .string s, .string t] w fun e w' => e = .returned (.bool false) ∧ w' = w := by
  have hrun := h.look hp hs hz
  have hf := (h.files _ hp).1
  obtain ⟨d1, d2, d3⟩ := hf.at
  simp only [Nat.zero_add] at d2 d3
  have HN := hide hn
  have c1 : (f.tx.size : Int) ≤ 20000 := by omega
  have c2 : (20000 : Int) - (f.tx.size : Int) < (t.size : Int) := by omega
  clear h hp hs hf hn hfit hft
  go_enter Try.func50, Try.ntmps50
  go_wp2_with (go_at_call 44; refine (nameOk_at2 s _ (unhide HN) _ hz).mono ?_; rintro e w1 ⟨rfl, rfl⟩)
  go_ret
  exact ⟨rfl, rfl⟩
def newF (s t : ByteArray) : Fl := ⟨s, t, 0⟩
set_option maxRecDepth 20000 in
set_option maxHeartbeats 1000000 in
theorem add_new (ps : List Pf) (s t : ByteArray) (base b : Nat) (w : World) (h : ShelfAt w base b ps) (ha : Asc (ps.map Prod.snd)) (hp : ∀ p ∈ ps, p.2.nm ≠ s) (hn : nameB s = true) (hz : s.size ≤ 4000000) (hfit : t.size ≤ 20000) (hl : ps.length < 30) :
    Calls Try.prog 50 #[.map (some b), .string s, .string t] w fun e w' => e = .returned (.bool true) ∧ (∃ g, ShelfAt w' base b (putP ps (g, newF s t))) ∧ Below base w w' := by
  have hrun := h.miss hp hz
  obtain ⟨D, hown, hch⟩ := h.map
  have hT := hide (hown.tidy lawK)
  have hsize : (Maps.size D : Int) = ps.length := by rw [hch.size]
  have hlen := (hown.alloc (.cells #[.string s, .string ⟨#[]⟩, .int .i64 0] 36)).len Try.underlying62 3
  rw [hch.size] at hlen
  have hlb : (((ps.length : Nat) : Int) == 30) = false := by rw [beq_eq_false_iff_ne]; omega
  have hkey := keyS hz
  have hbl := h.lo
  have hbl2 := h.lt
  have HCH := hide hch
  have HSH := hide h
  have HA := hide ha
  have HN := hide hn
  have c2 : ¬ (20000 : Int) < (t.size : Int) := by omega
  have he : (⟨#[]⟩ : ByteArray) ++ t = t := by apply ba_ext; simp
  clear h ha hp hch hn hsize
  go_enter Try.func50, Try.ntmps50
  go_wp2_with (first
    | (go_at_call 44; refine (nameOk_at2 s _ (unhide HN) _ hz).mono ?_; rintro e w1 ⟨rfl, hw1⟩; subst hw1)
    | (at_mapUpdate; refine wpList_mapUpdate_own _ rfl _ _ _ 62 rfl 9 82 lawK Try.underlying62 ptrR b _ D rfl (hown.alloc _) (by unfold maxLen; omega) _ _ _ rfl rfl hkey _ [] (ptrR_mk w.heap.size) ?_; intro w2 hown2 hg2))
  have hsh2 := hide ((unhide HSH).insert (g := w.heap.size) (f := newF s t) (unhide HA) (unhide HCH) (unhide hT) (gB ((Below.refl _ w).alloc (Nat.le_refl _) _) none) (FlB.new w _ (newF s t)) (Nat.le_refl _) (by omega) hown2 hg2)
  have hbw := hide (((Below.refl base w).alloc (Nat.le_trans hbl (Nat.le_of_lt hbl2)) (.cells #[.string s, .string t, .int .i64 0] 36)).trans (gBelow (B := base) hg2 (by simp; omega) (fun k hk => by cases hk; exact hbl)))
  go_ret
  exact ⟨rfl, ⟨_, unhide hsh2⟩, unhide hbw⟩
end Go.Proofs.Ytkaaabpodhgbpaa

namespace Go.Proofs.Ytkaaabpodhgbpaa
open Go.RowKit
open Go.Maps (Keyed IsMap Tidy string_keyed)

set_option maxRecDepth 20000 in
set_option maxHeartbeats 1000000 in
theorem add_many (ps : List Pf) (s t : ByteArray) (base b : Nat) (w : World) (h : ShelfAt w base b ps) (hp : ∀ p ∈ ps, p.2.nm ≠ s) (hz : s.size ≤ 4000000) (hl : ps.length = 30) :
    Calls Try.prog 50 #[.map (some b), .string s, .string t] w fun e w' => e = .returned (.bool false) ∧ ShelfAt w' base b ps ∧ Below base w w' := by
  have hrun := h.miss hp hz
  obtain ⟨D, hown, hch⟩ := h.map
  have hlen := (hown.alloc (.cells #[.string s, .string ⟨#[]⟩, .int .i64 0] 36)).len Try.underlying62 3
  rw [hch.size] at hlen
  have hlb : (((ps.length : Nat) : Int) == 30) = true := by rw [beq_iff_eq]; omega
  have hsh := hide (h.below (bTrA (Below.refl w.heap.size w) (.cells #[.string s, .string ⟨#[]⟩, .int .i64 0] 36)))
  have hbw := hide ((Below.refl base w).alloc (Nat.le_trans h.lo (Nat.le_of_lt h.lt)) (.cells #[.string s, .string ⟨#[]⟩, .int .i64 0] 36))
  clear h hp hch hown
  go_enter Try.func50, Try.ntmps50
  go_wp2
  go_ret
  exact ⟨rfl, unhide hsh, unhide hbw⟩
set_option maxRecDepth 20000 in
set_option maxHeartbeats 1000000 in
theorem add_bad (ps : List Pf) (s t : ByteArray) (base b : Nat) (w : World) (h : ShelfAt w base b ps) (hp : ∀ p ∈ ps, p.2.nm ≠ s) (hn : nameB s = false) (hz : s.size ≤ 4000000) (hl : ps.length < 30) :
    Calls Try.prog 50 #[.map (some b), .string s, .string t] w fun e w' => e = .returned (.bool false) ∧ ShelfAt w' base b ps ∧ Below base w w' := by
  have hrun := h.miss hp hz
  obtain ⟨D, hown, hch⟩ := h.map
  have hlen := (hown.alloc (.cells #[.string s, .string ⟨#[]⟩, .int .i64 0] 36)).len Try.underlying62 3
  rw [hch.size] at hlen
  have hlb : (((ps.length : Nat) : Int) == 30) = false := by rw [beq_eq_false_iff_ne]; omega
  have hsh := hide (h.below (bTrA (Below.refl w.heap.size w) (.cells #[.string s, .string ⟨#[]⟩, .int .i64 0] 36)))
  have hbw := hide ((Below.refl base w).alloc (Nat.le_trans h.lo (Nat.le_of_lt h.lt)) (.cells #[.string s, .string ⟨#[]⟩, .int .i64 0] 36))
  have HN := hide hn
  clear h hp hch hown hn
  go_enter Try.func50, Try.ntmps50
  go_wp2_with (go_at_call 44; refine (nameOk_at2 s _ (unhide HN) _ hz).mono ?_; rintro e w1 ⟨rfl, hw1⟩; subst hw1)
  go_ret
  exact ⟨rfl, unhide hsh, unhide hbw⟩
set_option maxRecDepth 20000 in
set_option maxHeartbeats 1000000 in
theorem add_long (ps : List Pf) (s t : ByteArray) (base b : Nat) (w : World) (h : ShelfAt w base b ps) (hp : ∀ p ∈ ps, p.2.nm ≠ s) (hn : nameB s = true) (hz : s.size ≤ 4000000) (hfit : 20000 < t.size) (hl : ps.length < 30) :
    Calls Try.prog 50 #[.map (some b), .string s, .string t] w fun e w' => e = .returned (.bool false) ∧ ShelfAt w' base b ps ∧ Below base w w' := by
  have hrun := h.miss hp hz
  obtain ⟨D, hown, hch⟩ := h.map
  have hlen := (hown.alloc (.cells #[.string s, .string ⟨#[]⟩, .int .i64 0] 36)).len Try.underlying62 3
  rw [hch.size] at hlen
  have hlb : (((ps.length : Nat) : Int) == 30) = false := by rw [beq_eq_false_iff_ne]; omega
  have hsh := hide (h.below (bTrA (Below.refl w.heap.size w) (.cells #[.string s, .string ⟨#[]⟩, .int .i64 0] 36)))
  have hbw := hide ((Below.refl base w).alloc (Nat.le_trans h.lo (Nat.le_of_lt h.lt)) (.cells #[.string s, .string ⟨#[]⟩, .int .i64 0] 36))
  have HN := hide hn
  have c2 : (20000 : Int) < (t.size : Int) := by omega
  clear h hp hch hown hn
  go_enter Try.func50, Try.ntmps50
  go_wp2_with (go_at_call 44; refine (nameOk_at2 s _ (unhide HN) _ hz).mono ?_; rintro e w1 ⟨rfl, hw1⟩; subst hw1)
  go_ret
  exact ⟨rfl, unhide hsh, unhide hbw⟩
/-- A file of the shelf under another name, its old one gone. -/
theorem ShelfAt.move {w w' w2 w3 : World} {base b g m : Nat} {ps : List Pf} {f f' : Fl} {D : DataW Unit} (h : ShelfAt w base b ps) (ha : Asc (ps.map Prod.snd)) (hD : Ch D ps) (hT : Tidy D) (hp : (g, f) ∈ ps) (hne : f'.nm ≠ f.nm)
    (hg : FlB w' g 36 f') (hgr : w.grownBy w' (some g)) (hT2 : Tidy (D.put (.string f'.nm.data.toList) (.lit (.int .i64 (g : Int))))) (hg2 : w'.grownBy w2 (some b))
    (hown : w3.ownsMap Try.prog 9 ptrR b m ((D.put (.string f'.nm.data.toList) (.lit (.int .i64 (g : Int)))).del (.string f.nm.data.toList))) (hg3 : w2.grownBy w3 (some b)) :
    ShelfAt w3 base b (putP (withoutP ps f.nm) (g, f')) := by
  have hb := h.lt
  have hgb : g ≠ b := h.notb (g, f) hp
  have hkk : key (g, f') ≠ key (g, f) := fun e => hne (key_eq2.1 e)
  have haw : Asc ((withoutP ps f.nm).map Prod.snd) := by rw [withoutP_map]; exact withoutL_asc _ ha
  have hch1 : Ch (D.put (.string f'.nm.data.toList) (.lit (.int .i64 (g : Int)))) (putP ps (g, f')) := hD.put hT (g, f') (fun q => mem_putP) (len_putP ha)
  have hmem : ∀ q, q ∈ putP (withoutP ps f.nm) (g, f') ↔ (q ∈ putP ps (g, f') ∧ key q ≠ f.nm.data.toList) := by
    intro q
    rw [mem_putP, mem_putP, mem_withoutP]
    constructor
    · rintro (rfl | ⟨⟨h1, h2⟩, h3⟩)
      · exact ⟨.inl rfl, hkk⟩
      · exact ⟨.inr ⟨h1, h3⟩, h2⟩
    · rintro ⟨rfl | ⟨h1, h3⟩, h2⟩
      · exact .inl rfl
      · exact .inr ⟨⟨h1, h2⟩, h3⟩
  have hlen : (putP (withoutP ps f.nm) (g, f')).length + (if (∃ q ∈ putP ps (g, f'), key q = f.nm.data.toList) then 1 else 0) = (putP ps (g, f')).length := by
    have e1 : ∃ q ∈ putP ps (g, f'), key q = f.nm.data.toList := ⟨(g, f), mem_putP.2 (.inr ⟨hp, fun e => hkk e.symm⟩), rfl⟩
    rw [if_pos e1, len_putP haw, len_putP ha]
    have hw1 := len_withoutP ha f.nm
    rw [if_pos ⟨(g, f), hp, rfl⟩] at hw1
    by_cases hx : ∃ q ∈ ps, key q = key (g, f')
    · obtain ⟨q, hq, e⟩ := hx
      rw [if_pos (show ∃ q ∈ withoutP ps f.nm, key q = key (g, f') from ⟨q, mem_withoutP.2 ⟨hq, by rw [e]; exact hkk⟩, e⟩), if_pos (show ∃ q ∈ ps, key q = key (g, f') from ⟨q, hq, e⟩)]
      exact hw1
    · rw [if_neg hx, if_neg (by rintro ⟨q, hq, e⟩; exact hx ⟨q, (mem_withoutP.1 hq).1, e⟩)]
      omega
  have hch2 := hch1.del hT2 f.nm.data.toList hmem hlen
  have hin : ∀ q ∈ putP (withoutP ps f.nm) (g, f'), q = (g, f') ∨ (q ∈ ps ∧ q.1 ≠ g) := by
    intro q hq
    rcases mem_putP.1 hq with h1 | ⟨h1, _⟩
    · exact .inl h1
    · have h2 := mem_withoutP.1 h1
      refine .inr ⟨h2.1, fun e => ?_⟩
      have := h.apart q h2.1 (g, f) hp e
      rw [this] at h2
      exact h2.2 rfl
  refine ⟨⟨_, by rw [← hch2.size]; exact ownsMap_tight hown, hch2⟩, fun p hpp => ?_, ?_, h.lo⟩
  · rcases hin p hpp with rfl | ⟨h1, h2⟩
    · refine ⟨?_, (h.files (g, f) hp).2⟩
      unfold FlB
      have hgl := hg.lt
      rw [hg3.block g (Nat.lt_of_lt_of_le hgl hg2.size) (by simp; exact hgb), hg2.block g hgl (by simp; exact hgb)]
      exact hg
    · refine ⟨?_, (h.files p h1).2⟩
      have hl0 := (h.files p h1).1.lt
      have hl1 := Nat.lt_of_lt_of_le hl0 hgr.size
      have hl2 := Nat.lt_of_lt_of_le hl1 hg2.size
      unfold FlB
      rw [hg3.block p.1 hl2 (by simp; exact h.notb p h1), hg2.block p.1 hl1 (by simp; exact h.notb p h1), hgr.block p.1 hl0 (by simp; exact h2)]
      exact (h.files p h1).1
  · intro p hpp q hqq e
    rcases hin p hpp with rfl | ⟨h1, h2⟩
    · rcases hin q hqq with rfl | ⟨h3, h4⟩
      · rfl
      · exact absurd e.symm h4
    · rcases hin q hqq with rfl | ⟨h3, h4⟩
      · exact absurd e h2
      · exact h.apart p h1 q h3 e
end Go.Proofs.Ytkaaabpodhgbpaa

namespace Go.Proofs.Ytkaaabpodhgbpaa
open Go.RowKit
open Go.Maps (Keyed IsMap Tidy string_keyed)

def movF (f : Fl) (t : ByteArray) : Fl := { f with nm := t }
set_option maxHeartbeats 1000000 in
theorem move_none (ps : List Pf) (s t : ByteArray) (base b : Nat) (w : World) (h : ShelfAt w base b ps) (hp : ∀ p ∈ ps, p.2.nm ≠ s) (hz : s.size ≤ 4000000) :
    Calls Try.prog 52 #[.map (some b), .string s, .string t] w fun e w' => e = .returned (.bool false) ∧ ShelfAt w' base b ps ∧ Below base w w' := by
  have hrun := h.miss hp hz
  have H := hide h
  clear h hp
  go_enter Try.func52, Try.ntmps52
  go_wp2
  go_ret
  exact ⟨rfl, unhide H, Below.refl _ _⟩
set_option maxRecDepth 20000 in
set_option maxHeartbeats 1000000 in
theorem move_part (ps : List Pf) (s t : ByteArray) (base b g : Nat) (f : Fl) (w : World) (h : ShelfAt w base b ps) (hp : (g, f) ∈ ps) (hs : f.nm = s) (hz : s.size ≤ 4000000) (hft : f.tx.size ≤ 20000) (hk : wholeB f = false) :
    Calls Try.prog 52 #[.map (some b), .string s, .string t] w fun e w' => e = .returned (.bool false) ∧ ShelfAt w' base b ps ∧ Below base w w' := by
  have hrun := h.look hp hs hz
  have hf := (h.files _ hp).1
  have hgl := hf.lt
  obtain ⟨d1, d2, d3⟩ := hf.at
  simp only [Nat.zero_add] at d2 d3
  have hft4 : f.tx.size ≤ 4000000 := by omega
  have HK := hide hk
  have H := hide h
  clear h hp hs hf hk
  go_enter Try.func52, Try.ntmps52
  go_wp2_with (go_at_call 28; refine (fileAllKept_at f _ (unhide HK) _ hft4).mono ?_; rintro e w1 ⟨rfl, hb1⟩)
  have H1 := hide ((unhide H).below hb1)
  have H2 := hide (hb1.mono (Nat.le_trans (unhide H).lo (Nat.le_of_lt (unhide H).lt)))
  go_ret
  exact ⟨rfl, unhide H1, unhide H2⟩
set_option maxRecDepth 20000 in
set_option maxHeartbeats 1000000 in
theorem move_yes (ps : List Pf) (s t : ByteArray) (base b g : Nat) (f : Fl) (w : World) (h : ShelfAt w base b ps) (ha : Asc (ps.map Prod.snd)) (hp : (g, f) ∈ ps) (hs : f.nm = s) (hz : s.size ≤ 4000000) (hzt : t.size ≤ 4000000) (hft : f.tx.size ≤ 20000) (hk : wholeB f = true) (hne : t ≠ s) (hn : nameB t = true) (hl : ps.length ≤ 30) :
    Calls Try.prog 52 #[.map (some b), .string s, .string t] w fun e w' => e = .returned (.bool true) ∧ ShelfAt w' base b (putP (withoutP ps s) (g, movF f t)) ∧ Below base w w' := by
  have hrun := h.look hp hs hz
  have hf := (h.files _ hp).1
  have hgl := hf.lt
  obtain ⟨d1, d2, d3⟩ := hf.at
  simp only [Nat.zero_add] at d2 d3
  have hft4 : f.tx.size ≤ 4000000 := by omega
  have HK := hide hk
  have H := hide h
  have HN := hide hn
  have HP := hide hp
  have HS := hide hs
  have HA := hide ha
  have hkey := keyS hz
  have hkeyt := keyS hzt
  have hsame : (t.toList == s.toList) = false := by
    have := sameN_no.2 hne
    exact this
  clear h hp hs hf hk hn ha
  go_enter Try.func52, Try.ntmps52
  go_wp2_with (go_at_call 28; refine (fileAllKept_at f _ (unhide HK) _ hft4).mono ?_; rintro e w1 ⟨rfl, hb1⟩)
  have H1 := hide ((unhide H).below hb1)
  have H2 := hide (hb1.mono (Nat.le_trans (unhide H).lo (Nat.le_of_lt (unhide H).lt)))
  have hf1 := ((unhide H1).files _ (unhide HP)).1
  have hlo := ((unhide H1).files _ (unhide HP)).2
  have hgl1 := hf1.lt
  have dz := hf1.frozen
  obtain ⟨d4, _, _⟩ := hf1.at
  have hbl := (unhide H1).lo
  have hbl2 := (unhide H1).lt
  have hgr1 := hide (gS w1 g 0 (.string t))
  have hset := hide (hf1.set0 t)
  have hgb := (unhide H1).notb _ (unhide HP)
  obtain ⟨D, hown, hch⟩ := (unhide H1).map
  have hT := hide (hown.tidy lawK)
  have hownS := hown.kept (unhide hgr1) (by simp; exact fun e => hgb e.symm)
  have HCH := hide hch
  have hb1h := hide hb1
  clear hch hf1 hb1 hrun d1 d2 d3 hown
  go_wp2_with (first
    | (go_at_call 44; refine (nameOk_at2 t _ (unhide HN) _ hzt).mono ?_; rintro e w2 ⟨rfl, hw2⟩; subst hw2)
    | (at_mapUpdate; refine wpList_mapUpdate_own _ rfl _ _ _ 62 rfl 9 82 lawK Try.underlying62 ptrR b _ D rfl hownS (by unfold maxLen; omega) _ _ _ rfl rfl hkeyt _ [] (ptrR_mk g) ?_; intro w3 hown3 hg3)
    | (at_delete; refine wpList_delete_own _ rfl _ _ 62 9 rfl 82 lawK Try.underlying62 ptrR b _ _ rfl hown3 _ _ rfl hkey ?_; intro w4 hown4 hturn4))
  have hs := unhide HS
  subst hs
  have hsh := hide ((unhide H1).move (f' := movF f t) (unhide HA) (unhide HCH) (unhide hT) (unhide HP) hne (unhide hset) (unhide hgr1) (hown3.tidy lawK) hg3 hown4 hturn4.grown)
  have hB := hide (((unhide H2).trans (gBelow (B := base) (unhide hgr1) (by omega) (fun k hk => by cases hk; exact hlo))).trans ((gBelow (B := base) hg3 (by simp; omega) (fun k hk => by cases hk; exact hbl)).trans (gBelow (B := base) hturn4.grown (Nat.le_trans (by simp; omega) hg3.size) (fun k hk => by cases hk; exact hbl))))
  go_ret
  exact ⟨rfl, unhide hsh, unhide hB⟩
set_option maxRecDepth 20000 in
set_option maxHeartbeats 1000000 in
theorem move_same (ps : List Pf) (s : ByteArray) (base b g : Nat) (f : Fl) (w : World) (h : ShelfAt w base b ps) (hp : (g, f) ∈ ps) (hs : f.nm = s) (hz : s.size ≤ 4000000) (hft : f.tx.size ≤ 20000) (hk : wholeB f = true) :
    Calls Try.prog 52 #[.map (some b), .string s, .string s] w fun e w' => e = .returned (.bool false) ∧ ShelfAt w' base b ps ∧ Below base w w' := by
  have hrun := h.look hp hs hz
  have hf := (h.files _ hp).1
  have hgl := hf.lt
  obtain ⟨d1, d2, d3⟩ := hf.at
  simp only [Nat.zero_add] at d2 d3
  have hft4 : f.tx.size ≤ 4000000 := by omega
  have HK := hide hk
  have H := hide h
  clear h hp hs hf hk
  go_enter Try.func52, Try.ntmps52
  go_wp2_with (go_at_call 28; refine (fileAllKept_at f _ (unhide HK) _ hft4).mono ?_; rintro e w1 ⟨rfl, hb1⟩)
  have H1 := hide ((unhide H).below hb1)
  have H2 := hide (hb1.mono (Nat.le_trans (unhide H).lo (Nat.le_of_lt (unhide H).lt)))
  go_ret
  exact ⟨rfl, unhide H1, unhide H2⟩
set_option maxRecDepth 20000 in
set_option maxHeartbeats 1000000 in
theorem move_bad (ps : List Pf) (s t : ByteArray) (base b g : Nat) (f : Fl) (w : World) (h : ShelfAt w base b ps) (hp : (g, f) ∈ ps) (hs : f.nm = s) (hz : s.size ≤ 4000000) (hzt : t.size ≤ 4000000) (hft : f.tx.size ≤ 20000) (hk : wholeB f = true) (hne : t ≠ s) (hn : nameB t = false) :
    Calls Try.prog 52 #[.map (some b), .string s, .string t] w fun e w' => e = .returned (.bool false) ∧ ShelfAt w' base b ps ∧ Below base w w' := by
  have hrun := h.look hp hs hz
  have hf := (h.files _ hp).1
  have hgl := hf.lt
  obtain ⟨d1, d2, d3⟩ := hf.at
  simp only [Nat.zero_add] at d2 d3
  have hft4 : f.tx.size ≤ 4000000 := by omega
  have HK := hide hk
  have H := hide h
  have HN := hide hn
  have hsame : (t.toList == s.toList) = false := sameN_no.2 hne
  clear h hp hs hf hk hn
  go_enter Try.func52, Try.ntmps52
  go_wp2_with (first
    | (go_at_call 28; refine (fileAllKept_at f _ (unhide HK) _ hft4).mono ?_; rintro e w1 ⟨rfl, hb1⟩)
    | (go_at_call 44; refine (nameOk_at2 t _ (unhide HN) _ hzt).mono ?_; rintro e w2 ⟨rfl, hw2⟩; subst hw2))
  have H1 := hide ((unhide H).below hb1)
  have H2 := hide (hb1.mono (Nat.le_trans (unhide H).lo (Nat.le_of_lt (unhide H).lt)))
  go_ret
  exact ⟨rfl, unhide H1, unhide H2⟩
end Go.Proofs.Ytkaaabpodhgbpaa
