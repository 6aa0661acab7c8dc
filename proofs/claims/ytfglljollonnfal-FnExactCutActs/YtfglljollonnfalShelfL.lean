/- Lists of files with their blocks: a file put in its place, a name struck. -/
import Derived.Test.YtfglljollonnfalShelfP
namespace Go.Proofs.Ytfglljollonnfal
open Go.RowKit
open Go.Maps (Keyed IsMap Tidy string_keyed)

def putP (ps : List Pf) (p : Pf) : List Pf := (ps.filter fun q => ltB q.2.nm p.2.nm) ++ [p] ++ (ps.filter fun q => gtB q.2.nm p.2.nm)
def withoutP (ps : List Pf) (s : ByteArray) : List Pf := ps.filter fun q => otherB s q.2
theorem putP_map (ps : List Pf) (p : Pf) : (putP ps p).map Prod.snd = putL (ps.map Prod.snd) p.2 := by
  unfold putP putL lowL highL
  rw [List.map_append, List.map_append, List.filter_map, List.filter_map]
  rfl
theorem withoutP_map (ps : List Pf) (s : ByteArray) : (withoutP ps s).map Prod.snd = withoutL (ps.map Prod.snd) s := by
  unfold withoutP withoutL
  rw [List.filter_map]
  rfl
theorem key_eq {p : Pf} {s : ByteArray} : key p = s.data.toList ↔ p.2.nm = s := ⟨fun h => ba_ext h, fun h => by unfold key; rw [h]⟩
theorem key_eq2 {p q : Pf} : key p = key q ↔ p.2.nm = q.2.nm := ⟨fun h => ba_ext h, fun h => by unfold key; rw [h]⟩
theorem ltB_ne {a b : ByteArray} (h : ltB a b = true) : a ≠ b := by
  rintro rfl
  rw [ltB_irrefl] at h
  cases h
theorem mem_putP {ps : List Pf} {p q : Pf} : q ∈ putP ps p ↔ q = p ∨ (q ∈ ps ∧ key q ≠ key p) := by
  unfold putP
  rw [List.append_assoc, List.mem_append, List.singleton_append, List.mem_cons, List.mem_filter, List.mem_filter, gtB_eq]
  constructor
  · rintro (⟨h1, h2⟩ | h | ⟨h1, h2⟩)
    · exact .inr ⟨h1, fun e => ltB_ne h2 (key_eq2.1 e)⟩
    · exact .inl h
    · exact .inr ⟨h1, fun e => ltB_ne h2 (key_eq2.1 e).symm⟩
  · rintro (h | ⟨h1, h2⟩)
    · exact .inr (.inl h)
    · rcases ltB_tri q.2.nm p.2.nm with h | h | h
      · exact .inl ⟨h1, h⟩
      · exact absurd (key_eq2.2 h) h2
      · exact .inr (.inr ⟨h1, h⟩)
theorem mem_withoutP {ps : List Pf} {s : ByteArray} {q : Pf} : q ∈ withoutP ps s ↔ (q ∈ ps ∧ key q ≠ s.data.toList) := by
  unfold withoutP otherB
  rw [List.mem_filter, Bool.not_eq_true', sameN_no, ne_eq, ne_eq, key_eq]

theorem count_le {ps : List Pf} (h : Asc (ps.map Prod.snd)) (s : ByteArray) : (ps.filter fun q => sameN q.2.nm s).length = if (∃ q ∈ ps, key q = s.data.toList) then 1 else 0 := by
  induction ps with
  | nil => simp
  | cons x r ih =>
    unfold Asc at h
    rw [List.map_cons, List.pairwise_cons] at h
    have ih' := ih h.2
    by_cases hx : x.2.nm = s
    · have hno : ¬ ∃ q ∈ r, key q = s.data.toList := by
        rintro ⟨q, hq, e⟩
        have := h.1 q.2 (List.mem_map_of_mem hq)
        exact ltB_ne this (hx.trans (key_eq.1 e).symm)
      rw [if_neg hno] at ih'
      rw [if_pos ⟨x, List.mem_cons_self, key_eq.2 hx⟩, List.filter_cons_of_pos (by exact sameN_iff.2 hx), List.length_cons, ih']
    · rw [List.filter_cons_of_neg (by rw [Bool.not_eq_true, sameN_no]; exact hx), ih']
      by_cases hr : ∃ q ∈ r, key q = s.data.toList
      · rw [if_pos hr, if_pos (by obtain ⟨q, hq, e⟩ := hr; exact ⟨q, List.mem_cons_of_mem _ hq, e⟩)]
      · rw [if_neg hr, if_neg]
        rintro ⟨q, hq, e⟩
        rcases List.mem_cons.1 hq with rfl | hq
        · exact hx (key_eq.1 e)
        · exact hr ⟨q, hq, e⟩
theorem three_parts (ps : List Pf) (s : ByteArray) : (ps.filter fun q => ltB q.2.nm s).length + (ps.filter fun q => sameN q.2.nm s).length + (ps.filter fun q => gtB q.2.nm s).length = ps.length := by
  induction ps with
  | nil => simp
  | cons x r ih =>
    rcases ltB_tri x.2.nm s with h | h | h
    · have h2 : sameN x.2.nm s = false := sameN_no.2 (ltB_ne h)
      have h3 : gtB x.2.nm s = false := by
        rw [gtB_eq, ← Bool.not_eq_true]
        intro h4
        have := ltB_trans h h4
        rw [ltB_irrefl] at this
        cases this
      rw [List.filter_cons_of_pos (by exact h), List.filter_cons_of_neg (by rw [h2]; decide), List.filter_cons_of_neg (by rw [h3]; decide)]
      simp only [List.length_cons]
      omega
    · have h1 : ltB x.2.nm s = false := by rw [h]; exact ltB_irrefl _
      have h3 : gtB x.2.nm s = false := by rw [gtB_eq, h]; exact ltB_irrefl _
      rw [List.filter_cons_of_neg (by rw [h1]; decide), List.filter_cons_of_pos (by exact sameN_iff.2 h), List.filter_cons_of_neg (by rw [h3]; decide)]
      simp only [List.length_cons]
      omega
    · have h2 : sameN x.2.nm s = false := sameN_no.2 (fun e => ltB_ne h e.symm)
      have h1 : ltB x.2.nm s = false := by
        rw [← Bool.not_eq_true]
        intro h4
        have := ltB_trans h h4
        rw [ltB_irrefl] at this
        cases this
      have h3 : gtB x.2.nm s = true := by rw [gtB_eq]; exact h
      rw [List.filter_cons_of_neg (by rw [h1]; decide), List.filter_cons_of_neg (by rw [h2]; decide), List.filter_cons_of_pos (by exact h3)]
      simp only [List.length_cons]
      omega
theorem len_putP {ps : List Pf} {p : Pf} (h : Asc (ps.map Prod.snd)) : (putP ps p).length = if (∃ q ∈ ps, key q = key p) then ps.length else ps.length + 1 := by
  have h1 := three_parts ps p.2.nm
  have h2 := count_le h p.2.nm
  unfold putP
  simp only [List.length_append, List.length_cons, List.length_nil]
  by_cases hx : ∃ q ∈ ps, key q = key p
  · rw [if_pos hx]
    rw [if_pos (show ∃ q ∈ ps, key q = p.2.nm.data.toList from hx)] at h2
    omega
  · rw [if_neg hx]
    rw [if_neg (show ¬ ∃ q ∈ ps, key q = p.2.nm.data.toList from hx)] at h2
    omega
theorem len_withoutP {ps : List Pf} (h : Asc (ps.map Prod.snd)) (s : ByteArray) : (withoutP ps s).length + (if (∃ q ∈ ps, key q = s.data.toList) then 1 else 0) = ps.length := by
  rw [← count_le h s]
  unfold withoutP otherB
  clear h
  induction ps with
  | nil => simp
  | cons x r ih =>
    by_cases hx : sameN x.2.nm s = true
    · rw [List.filter_cons_of_neg (by rw [hx]; decide), List.filter_cons_of_pos (by exact hx)]
      simp only [List.length_cons]
      omega
    · rw [Bool.not_eq_true] at hx
      rw [List.filter_cons_of_pos (by rw [hx]; rfl), List.filter_cons_of_neg (by rw [hx]; decide)]
      simp only [List.length_cons]
      omega
theorem withoutL_asc {fs : List Fl} (s : ByteArray) (h : Asc fs) : Asc (withoutL fs s) := h.sublist List.filter_sublist

/-- Ch hangs on what is there, at which key, and how many. -/
theorem Ch.congr {D D' : DataW Unit} {ps : List Pf} (h : Ch D ps) (h1 : Maps.size D' = Maps.size D) (h2 : ∀ k, Maps.has D' k = Maps.has D k) (h3 : ∀ k z, D'.atKey k z = D.atKey k z) : Ch D' ps :=
  ⟨h1.trans h.size, fun s => by rw [h2]; exact h.has s, fun p hp z => by rw [h3]; exact h.at_ p hp z⟩
/-- The same keys at the same blocks. -/
theorem Ch.same {D : DataW Unit} {ps ps' : List Pf} (h : Ch D ps) (hl : ps'.length = ps.length) (h1 : ∀ p ∈ ps', ∃ q ∈ ps, key q = key p ∧ q.1 = p.1) (h2 : ∀ q ∈ ps, ∃ p ∈ ps', key p = key q) : Ch D ps' := by
  refine ⟨h.size.trans hl.symm, fun s => ?_, fun p hp z => ?_⟩
  · rw [h.has]
    constructor
    · rintro ⟨q, hq, e⟩
      obtain ⟨p, hp, e2⟩ := h2 q hq
      exact ⟨p, hp, e2.trans e⟩
    · rintro ⟨p, hp, e⟩
      obtain ⟨q, hq, e2, _⟩ := h1 p hp
      exact ⟨q, hq, e2.trans e⟩
  · obtain ⟨q, hq, e, e2⟩ := h1 p hp
    rw [← e, ← e2]
    exact h.at_ q hq z
end Go.Proofs.Ytfglljollonnfal
