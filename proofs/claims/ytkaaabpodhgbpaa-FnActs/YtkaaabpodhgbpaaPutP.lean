/- Laws of no program: names in order; which lists are right behind a put, behind a loss of power. -/
import Derived.Test.YtkaaabpodhgbpaaPut
import Derived.Test.YtkaaabpodhgbpaaLoseI
import Derived.Sort.Walk0
namespace Go.Proofs.Ytkaaabpodhgbpaa
open Go.RowKit

theorem ltB_iff {a b : ByteArray} : ltB a b = true ↔ a.data.toList < b.data.toList := by
  unfold ltB
  rw [Go.Proofs.bytesLess_eq, decide_eq_true_iff, ByteArray.toList_eq, ByteArray.toList_eq]
theorem ltB_irrefl (a : ByteArray) : ltB a a = false := by
  rw [← Bool.not_eq_true, ltB_iff]
  exact List.lt_irrefl _
theorem ltB_trans {a b c : ByteArray} (h1 : ltB a b = true) (h2 : ltB b c = true) : ltB a c = true := by
  rw [ltB_iff] at *
  exact List.lt_trans h1 h2
theorem ba_ext {a b : ByteArray} (h : a.data.toList = b.data.toList) : a = b := by
  cases a with | mk d => cases b with | mk e => cases d; cases e; simp_all
theorem ltB_tri (a b : ByteArray) : ltB a b = true ∨ a = b ∨ ltB b a = true := by
  rw [ltB_iff, ltB_iff]
  rcases Classical.em (a.data.toList < b.data.toList) with h | h
  · exact .inl h
  · rcases Classical.em (b.data.toList < a.data.toList) with h2 | h2
    · exact .inr (.inr h2)
    · exact .inr (.inl (ba_ext (List.le_antisymm (List.not_lt.1 h2) (List.not_lt.1 h))))
theorem gtB_eq (a b : ByteArray) : gtB a b = ltB b a := by
  unfold gtB
  show (!(ltB a b || a.toList == b.toList)) = ltB b a
  rcases ltB_tri a b with h | h | h
  · have h2 : ltB b a = false := by
      rw [← Bool.not_eq_true]
      intro h3
      have := ltB_trans h h3
      rw [ltB_irrefl] at this
      cases this
    rw [h, h2]; rfl
  · subst h
    rw [ltB_irrefl]; simp
  · have h2 : ltB a b = false := by
      rw [← Bool.not_eq_true]
      intro h3
      have := ltB_trans h h3
      rw [ltB_irrefl] at this
      cases this
    have h3 : (a.toList == b.toList) = false := by
      rw [beq_eq_false_iff_ne]
      intro h4
      rw [ByteArray.toList_eq, ByteArray.toList_eq] at h4
      have := ba_ext h4
      subst this
      rw [ltB_irrefl] at h
      cases h
    rw [h, h2, h3]; rfl

def Asc (fs : List Fl) : Prop := fs.Pairwise fun a b => ltB a.nm b.nm = true
theorem okL_iff {fs : List Fl} : okL fs = true ↔ fs.length ≤ 30 ∧ (∀ f ∈ fs, fileB f = true) ∧ Asc fs := by
  unfold okL
  rw [Bool.and_eq_true, decide_eq_true_iff, List.all_eq_true]
  constructor
  · rintro ⟨h1, h2⟩
    have hf : ∀ (k : Nat) (f : Fl), fs[k]? = some f → fileB f = true := by
      intro k f hk
      have := h2 k (List.mem_range.2 (List.getElem?_eq_some_iff.1 hk).1)
      rw [okAt_of hk, Bool.and_eq_true] at this
      exact this.1
    have hs : ∀ (k : Nat) (a b : Fl), fs[k]? = some a → fs[k + 1]? = some b → ltB a.nm b.nm = true := by
      intro k a b ha hb
      have := h2 (k + 1) (List.mem_range.2 (List.getElem?_eq_some_iff.1 hb).1)
      rw [okAt_of hb, Bool.and_eq_true, asc_of ha hb] at this
      exact this.2
    refine ⟨h1, fun f hm => ?_, ?_⟩
    · obtain ⟨k, hk⟩ := List.mem_iff_getElem?.1 hm
      exact hf k f hk
    · unfold Asc
      rw [List.pairwise_iff_getElem]
      intro i j hi hj hij
      have key : ∀ d, ∀ (hd : i + d + 1 < fs.length), ltB (fs[i]).nm (fs[i + d + 1]).nm = true := by
        intro d
        induction d with
        | zero => intro hd; exact hs i _ _ (List.getElem?_eq_getElem hi) (List.getElem?_eq_getElem hd)
        | succ d ih =>
          intro hd
          exact ltB_trans (ih (by omega)) (hs (i + d + 1) _ _ (List.getElem?_eq_getElem (by omega)) (List.getElem?_eq_getElem hd))
      have := key (j - i - 1) (by omega)
      have e : i + (j - i - 1) + 1 = j := by omega
      simpa only [e] using this
  · rintro ⟨h1, h2, h3⟩
    refine ⟨h1, fun k hk => ?_⟩
    have hk' := List.mem_range.1 hk
    have hf := List.getElem?_eq_getElem hk'
    rw [okAt_of hf, Bool.and_eq_true]
    refine ⟨h2 _ (List.getElem_mem hk'), ?_⟩
    cases k with
    | zero => rfl
    | succ j =>
      rw [asc_of (List.getElem?_eq_getElem (show j < fs.length by omega)) hf]
      exact (List.pairwise_iff_getElem.1 h3) j (j + 1) (by omega) hk' (by omega)

theorem putL_asc {fs : List Fl} {f : Fl} (h : Asc fs) : Asc (putL fs f) := by
  unfold putL Asc lowL highL
  rw [List.append_assoc, List.pairwise_append]
  refine ⟨h.sublist List.filter_sublist, ?_, ?_⟩
  · rw [List.singleton_append, List.pairwise_cons]
    refine ⟨fun x hx => ?_, h.sublist List.filter_sublist⟩
    have := (List.mem_filter.1 hx).2
    rw [gtB_eq] at this
    exact this
  · intro x hx y hy
    have h1 := (List.mem_filter.1 hx).2
    rw [List.singleton_append, List.mem_cons] at hy
    rcases hy with rfl | hy
    · exact h1
    · have := (List.mem_filter.1 hy).2
      rw [gtB_eq] at this
      exact ltB_trans h1 this
theorem putL_len' (fs : List Fl) (f : Fl) : (putL fs f).length ≤ fs.length + 1 := by
  have key : ∀ l : List Fl, (l.filter fun x => ltB x.nm f.nm).length + (l.filter fun x => gtB x.nm f.nm).length ≤ l.length := by
    intro l
    induction l with
    | nil => simp
    | cons x r ih =>
      cases h1 : ltB x.nm f.nm with
      | false =>
        cases h2 : gtB x.nm f.nm with
        | false => simp only [List.filter_cons, h1, h2, List.length_cons]; simp; omega
        | true => simp only [List.filter_cons, h1, h2, List.length_cons]; simp; omega
      | true =>
        have h2 : gtB x.nm f.nm = false := by
          rw [gtB_eq, ← Bool.not_eq_true]
          intro h3
          have := ltB_trans h1 h3
          rw [ltB_irrefl] at this
          cases this
        simp only [List.filter_cons, h1, h2, List.length_cons]; simp; omega
  have := key fs
  unfold putL lowL highL
  simp only [List.length_append, List.length_cons, List.length_nil]
  omega
theorem putL_mem {fs : List Fl} {f x : Fl} (h : x ∈ putL fs f) : x = f ∨ x ∈ fs := by
  unfold putL lowL highL at h
  rw [List.append_assoc, List.mem_append, List.singleton_append, List.mem_cons] at h
  rcases h with h | h | h
  · exact .inr (List.mem_filter.1 h).1
  · exact .inl h
  · exact .inr (List.mem_filter.1 h).1
theorem putL_ok {fs : List Fl} {f : Fl} (h : okL fs = true) (hf : fileB f = true) (hl : fs.length < 30) : okL (putL fs f) = true := by
  rw [okL_iff] at *
  refine ⟨by have := putL_len' fs f; omega, fun x hx => ?_, putL_asc h.2.2⟩
  rcases putL_mem hx with rfl | hx
  · exact hf
  · exact h.2.1 x hx

theorem fileB_mk {f : Fl} (h1 : nameB f.nm = true) (h2 : f.tx.size ≤ 20000) (h3 : 0 ≤ f.kp ∧ f.kp ≤ f.tx.size) : fileB f = true := by
  unfold fileB keptB
  rw [h1, decide_eq_true h2, decide_eq_true h3]
  rfl
theorem fileB_name {f : Fl} (h : fileB f = true) : nameB f.nm = true := by
  unfold fileB at h
  rw [Bool.and_eq_true] at h
  exact h.1
theorem cutF_size {f : Fl} {told : Int} (h : fileB f = true) : ((cutF f told).tx.size : Int) = cutN f told := by
  have := fileB_kept h
  unfold cutF
  simp only [ByteArray.size_extract]
  unfold cutN
  omega
theorem cutF_ok {f : Fl} {told : Int} (h : fileB f = true) : fileB (cutF f told) = true := by
  have h1 := fileB_kept h
  have h2 := cutF_size (told := told) h
  have h3 : cutN f told ≤ f.tx.size := by unfold cutN; omega
  have h4 : 0 ≤ cutN f told := by unfold cutN; omega
  refine fileB_mk (f := cutF f told) (show nameB f.nm = true from fileB_name h) ?_ ?_
  · have : ((cutF f told).tx.size : Int) ≤ 20000 := by omega
    omega
  · have : (cutF f told).kp = cutN f told := rfl
    omega
theorem cutF_whole {f : Fl} {told : Int} (h : fileB f = true) : wholeB (cutF f told) = true := by
  unfold wholeB
  rw [cutF_size h]
  show (cutN f told == cutN f told) = true
  simp
theorem cutF_again {f : Fl} {told t2 : Int} (h : fileB f = true) : cutF (cutF f told) t2 = cutF f told := by
  have h2 := cutF_size (told := told) h
  have hn : cutN (cutF f told) t2 = cutN f told := by
    have : (cutF f told).kp = cutN f told := rfl
    unfold cutN at *
    omega
  have hx : (cutF f told).tx.extract 0 (cutN f told).toNat = (cutF f told).tx := by
    have : (cutN f told).toNat = (cutF f told).tx.size := by omega
    rw [this, ByteArray.extract_zero_size]
  show (⟨(cutF f told).nm, (cutF f told).tx.extract 0 (cutN (cutF f told) t2).toNat, cutN (cutF f told) t2⟩ : Fl) = _
  rw [hn, hx]
  rfl
theorem loseL_mem {fs : List Fl} {is : List Int} {x : Fl} (h : x ∈ loseL fs is) : ∃ f t, f ∈ fs ∧ x = cutF f t := by
  obtain ⟨k, hk⟩ := List.mem_iff_getElem?.1 h
  unfold loseL at hk
  rw [List.getElem?_mapIdx] at hk
  cases hf : fs[k]? with
  | none => rw [hf] at hk; cases hk
  | some f => rw [hf] at hk; exact ⟨f, is.getD k 0, List.mem_of_getElem? hf, by cases hk; rfl⟩
theorem loseL_ok {fs : List Fl} {is : List Int} (h : okL fs = true) : okL (loseL fs is) = true := by
  rw [okL_iff] at *
  refine ⟨by rw [loseL_len]; exact h.1, fun x hx => ?_, ?_⟩
  · obtain ⟨f, t, hf, rfl⟩ := loseL_mem hx
    exact cutF_ok (h.2.1 f hf)
  · unfold Asc
    rw [List.pairwise_iff_getElem]
    intro i j hi hj hij
    rw [loseL_len] at hi hj
    have h1 := loseL_at (is := is) (List.getElem?_eq_getElem hi)
    have h2 := loseL_at (is := is) (List.getElem?_eq_getElem hj)
    rw [List.getElem?_eq_getElem (by rw [loseL_len]; exact hi)] at h1
    rw [List.getElem?_eq_getElem (by rw [loseL_len]; exact hj)] at h2
    rw [Option.some.inj h1, Option.some.inj h2]
    exact (List.pairwise_iff_getElem.1 h.2.2) i j hi hj hij
theorem loseL_kept {fs : List Fl} {is : List Int} (h : okL fs = true) : allKL (loseL fs is) = true := by
  unfold allKL
  rw [loseL_ok h, Bool.true_and, List.all_eq_true]
  intro x hx
  obtain ⟨f, t, hf, rfl⟩ := loseL_mem hx
  exact cutF_whole ((okL_iff.1 h).2.1 f hf)
theorem loseL_again {fs : List Fl} {is js : List Int} (h : okL fs = true) : loseL (loseL fs is) js = loseL fs is := by
  apply List.ext_getElem?
  intro k
  cases hf : (loseL fs is)[k]? with
  | none =>
    rw [List.getElem?_eq_none_iff] at hf
    rw [List.getElem?_eq_none (by rw [loseL_len]; exact hf)]
  | some x =>
    rw [loseL_at hf]
    unfold loseL at hf
    rw [List.getElem?_mapIdx] at hf
    cases hg : fs[k]? with
    | none => rw [hg] at hf; cases hf
    | some f =>
      rw [hg] at hf
      simp only [Option.map_some, Option.some.injEq] at hf
      subst hf
      rw [cutF_again ((okL_iff.1 h).2.1 f (List.mem_of_getElem? hg))]
end Go.Proofs.Ytkaaabpodhgbpaa
