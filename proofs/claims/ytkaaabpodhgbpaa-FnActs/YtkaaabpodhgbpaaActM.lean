/- What the law FnActs needs of acts done one by one: added text stands behind, a dropped file is gone. -/
import Derived.Test.YtkaaabpodhgbpaaCutA
namespace Go.Proofs.Ytkaaabpodhgbpaa
open Go.RowKit

theorem runL_zero {cur : List Fl} {t : List Ac} (h : (runL cur t).2 = 0) : (runL cur t).1 = cur := by
  cases t with
  | nil => rfl
  | cons a t =>
    cases e : actL cur a with
    | none => rw [runL_none e]
    | some o => rw [runL_some e] at h; simp at h
theorem RunAt.more {fs cur : List Fl} {acs : List Ac} {k : Nat} (h : RunAt fs acs k cur) (hk : k < (runL fs acs).2) : ∃ a o, acs[k]? = some a ∧ actL cur a = some o := by
  unfold RunAt at h
  rw [h] at hk
  simp only at hk
  cases e : acs[k]? with
  | none =>
    rw [List.drop_eq_nil_of_le (List.getElem?_eq_none_iff.1 e)] at hk
    simp [runL] at hk
  | some a =>
    cases e2 : actL cur a with
    | none => rw [drop_at e, runL_none e2] at hk; simp at hk
    | some o => exact ⟨a, o, rfl, e2⟩
theorem RunAt.last {fs cur : List Fl} {acs : List Ac} {k : Nat} (h : RunAt fs acs k cur) (hk : k = (runL fs acs).2) : (runL fs acs).1 = cur := by
  unfold RunAt at h
  rw [h] at hk ⊢
  simp only at hk ⊢
  exact runL_zero (by omega)
theorem actL_ok {s o : List Fl} {a : Ac} (h : actL s a = some o) : okL s = true ∧ okL o = true := by
  cases e : okL s with
  | false => rw [actL_no e] at h; cases h
  | true => exact ⟨rfl, actR_ok e (by rw [← actL_yes e]; exact h)⟩
theorem find_put (s : List Fl) (f : Fl) : findL (putL s f) f.nm = some f := by
  unfold putL findL
  rw [List.find?_append, List.find?_append]
  rw [List.find?_eq_none.2 (by
    intro x hx
    rw [Bool.not_eq_true, sameN_no]
    intro e
    have := (List.mem_filter.1 hx).2
    rw [e, ltB_irrefl] at this
    cases this)]
  simp [show sameN f.nm f.nm = true from sameN_iff.2 rfl]
theorem act_added {s o : List Fl} {a : Ac} (h : actL s a = some o) (hk : a.kd = 1) : (atRes o a.nm).1 = (atRes s a.nm).1 ++ a.tx ∧ (atRes o a.nm).2 = true := by
  rw [actL_yes (actL_ok h).1] at h
  unfold actR at h
  rw [if_pos hk] at h
  have h2 := gateR_ok h
  unfold addR at h2
  split at h2
  · have ho : putL s (addF ((findL s a.nm).getD (newF a.nm noB)) a.tx) = o := by
      unfold okO at h2
      split at h2
      · cases h2; rfl
      · cases h2
    have hn : (addF ((findL s a.nm).getD (newF a.nm noB)) a.tx).nm = a.nm := by
      cases e : findL s a.nm with
      | none => rfl
      | some f => exact (findL_mem e).2
    have hf := find_put s (addF ((findL s a.nm).getD (newF a.nm noB)) a.tx)
    rw [hn, ho] at hf
    unfold atRes
    rw [hf]
    cases e : findL s a.nm with
    | none => exact ⟨rfl, rfl⟩
    | some f => exact ⟨rfl, rfl⟩
  · cases h2
theorem act_dropped {s o : List Fl} {a : Ac} (h : actL s a = some o) (hk : a.kd = 4) : (atRes o a.nm).2 = false := by
  rw [actL_yes (actL_ok h).1] at h
  unfold actR at h
  rw [if_neg (by omega), if_neg (by omega), if_neg (by omega), if_pos hk] at h
  have h2 := gateR_ok h
  unfold dropR at h2
  cases e : findL s a.nm with
  | none => rw [e] at h2; cases h2
  | some f =>
    rw [e] at h2
    cases h2
    have : findL (withoutL s a.nm) a.nm = none := by
      unfold findL
      rw [List.find?_eq_none]
      intro x hx
      have := (List.mem_filter.1 hx).2
      unfold otherB at this
      simpa using this
    unfold atRes
    rw [this]
end Go.Proofs.Ytkaaabpodhgbpaa
