/- The parts of a line: the mathematics, of no program. -/
import Derived.Test.YtkbbcjnickgfjaaDoorBase
import Derived.Lib.Fields
namespace Go.Proofs.YtkbbcjnickgfjaaDoor

/-- May it stand in a line? -/
def prB (b : UInt8) : Bool := decide (32 ≤ b.toNat ∧ b.toNat ≤ 126)
/-- A part as a cell. -/
def strv (x : List UInt8) : Value := .string ⟨x.toArray⟩
/-- The parts and whether there are any to tell. -/
def ptRes (l : List UInt8) : List (List UInt8) × Bool := if l.length ≤ 600 ∧ l.all prB = true ∧ (Lib.fields l).length ≤ 10 then (Lib.fields l, true) else ([], false)

theorem ptRes_no {l : List UInt8} (h : ¬ (l.length ≤ 600 ∧ l.all prB = true ∧ (Lib.fields l).length ≤ 10)) : ptRes l = ([], false) := by unfold ptRes; rw [if_neg h]
theorem ptRes_yes {l : List UInt8} (h1 : l.length ≤ 600) (h2 : l.all prB = true) (h3 : (Lib.fields l).length ≤ 10) : ptRes l = (Lib.fields l, true) := by unfold ptRes; rw [if_pos ⟨h1, h2, h3⟩]
theorem ptRes_len (l : List UInt8) : (ptRes l).1.length ≤ 10 := by
  unfold ptRes; split
  · rename_i h; exact h.2.2
  · simp

theorem prB_sp {b : UInt8} (h : prB b = true) (hb : b.toNat ≠ 32) : Lib.isSp b = false := by
  simp only [prB, decide_eq_true_eq] at h
  have hne : ∀ k : UInt8, k.toNat < 32 ∨ k.toNat = 32 → (b == k) = false := by
    intro k hk
    rw [beq_eq_false_iff_ne]
    intro e
    rw [e] at h hb
    omega
  unfold Lib.isSp
  rw [hne 9 (by decide), hne 10 (by decide), hne 11 (by decide), hne 12 (by decide), hne 13 (by decide), hne 32 (by decide)]
  rfl
theorem sp_32 {b : UInt8} (h : b.toNat = 32) : Lib.isSp b = true := by
  have : b = 32 := by apply UInt8.toNat_inj.1; rw [h]; rfl
  subst this; rfl

/-- Where it stands at the place i: the part that is being read begins at b, those ahead of it are out. -/
structure PtAt (s : ByteArray) (i b : Nat) (out : List (List UInt8)) : Prop where
  bi : b ≤ i
  il : i ≤ s.size
  len : out.length ≤ i
  pr : ∀ c ∈ s.data.toList.take i, prB c = true
  eq : out ++ Lib.fieldsGo ((s.data.toList.drop b).take (i - b)) (s.data.toList.drop i) = Lib.fields s.data.toList

theorem PtAt.start (s : ByteArray) : PtAt s 0 0 [] := ⟨Nat.le_refl _, Nat.zero_le _, by simp, by simp, by simp [Lib.fields]⟩

theorem pt_take (s : ByteArray) (a i : Nat) (ha : a ≤ i) (h : i < s.size) : (s.data.toList.drop a).take (i + 1 - a) = (s.data.toList.drop a).take (i - a) ++ [s[i]] := by
  have e : i + 1 - a = (i - a) + 1 := by omega
  have hl : i - a < (s.data.toList.drop a).length := by
    have : s.data.toList.length = s.size := rfl
    simp only [List.length_drop, this]; omega
  rw [e, List.take_succ_eq_append_getElem hl]
  congr 2
  rw [List.getElem_drop]
  have : a + (i - a) = i := by omega
  simp only [this]
  rfl
theorem pt_drop (s : ByteArray) (i : Nat) (h : i < s.size) : s.data.toList.drop i = s[i] :: s.data.toList.drop (i + 1) := by
  have hl : s.data.toList.length = s.size := rfl
  rw [List.drop_eq_getElem_cons (by omega)]; rfl

theorem PtAt.prNext {s : ByteArray} {i b : Nat} {out : List (List UInt8)} (h : PtAt s i b out) (hi : i < s.size) (hp : prB s[i] = true) : ∀ c ∈ s.data.toList.take (i + 1), prB c = true := by
  intro c hc
  have := pt_take s 0 i (Nat.zero_le _) hi
  simp only [List.drop_zero, Nat.sub_zero] at this
  rw [this, List.mem_append] at hc
  rcases hc with h1 | h1
  · exact h.pr c h1
  · simp only [List.mem_singleton] at h1; subst h1; exact hp

theorem PtAt.more {s : ByteArray} {i b : Nat} {out : List (List UInt8)} (h : PtAt s i b out) (hi : i < s.size) (hp : prB s[i] = true) (hc : s[i].toNat ≠ 32) : PtAt s (i + 1) b out := by
  refine ⟨by have := h.bi; omega, hi, by have := h.len; omega, h.prNext hi hp, ?_⟩
  rw [← h.eq, pt_drop s i hi, Lib.fieldsGo_more _ _ _ (prB_sp hp hc), pt_take s b i h.bi hi]

theorem PtAt.cut {s : ByteArray} {i b : Nat} {out : List (List UInt8)} (h : PtAt s i b out) (hi : i < s.size) (hc : s[i].toNat = 32) (hb : b < i) : PtAt s (i + 1) (i + 1) (out ++ [(s.data.toList.drop b).take (i - b)]) := by
  have hp : prB s[i] = true := by simp only [prB, decide_eq_true_eq]; omega
  refine ⟨Nat.le_refl _, hi, by have := h.len; simp; omega, h.prNext hi hp, ?_⟩
  have hne : (s.data.toList.drop b).take (i - b) ≠ [] := by
    intro e
    have hl : s.data.toList.length = s.size := rfl
    have := congrArg List.length e
    simp only [List.length_take, List.length_drop, hl, List.length_nil] at this
    omega
  rw [← h.eq, pt_drop s i hi, Lib.fieldsGo_end _ _ _ (sp_32 hc) hne]
  simp
theorem PtAt.skip {s : ByteArray} {i b : Nat} {out : List (List UInt8)} (h : PtAt s i b out) (hi : i < s.size) (hc : s[i].toNat = 32) (hb : ¬ b < i) : PtAt s (i + 1) (i + 1) out := by
  have hp : prB s[i] = true := by simp only [prB, decide_eq_true_eq]; omega
  refine ⟨Nat.le_refl _, hi, by have := h.len; omega, h.prNext hi hp, ?_⟩
  have e : b = i := by have := h.bi; omega
  subst e
  rw [← h.eq, pt_drop s b hi]
  simp only [Nat.sub_self, List.take_zero]
  rw [Lib.fieldsGo_sp _ _ (sp_32 hc)]
theorem PtAt.fin {s : ByteArray} {i b : Nat} {out : List (List UInt8)} (h : PtAt s i b out) (hi : ¬ i < s.size) :
    s.data.toList.all prB = true ∧ (b < i → out ++ [(s.data.toList.drop b).take (i - b)] = Lib.fields s.data.toList) ∧ (¬ b < i → out = Lib.fields s.data.toList) := by
  have hl : s.data.toList.length = s.size := rfl
  have hil := h.il
  have hall : s.data.toList.take i = s.data.toList := List.take_of_length_le (by omega)
  have hd : s.data.toList.drop i = [] := List.drop_of_length_le (by omega)
  refine ⟨?_, ?_, ?_⟩
  · rw [List.all_eq_true]; have := h.pr; rw [hall] at this; exact this
  · intro hb
    have hne : (s.data.toList.drop b).take (i - b) ≠ [] := by
      intro e
      have := congrArg List.length e
      simp only [List.length_take, List.length_drop, hl, List.length_nil] at this
      omega
    rw [← h.eq, hd]
    cases hc : (s.data.toList.drop b).take (i - b) with
    | nil => exact absurd hc hne
    | cons x t => simp [Lib.fieldsGo]
  · intro hb
    have e : b = i := by have := h.bi; omega
    rw [← h.eq, hd, e, Nat.sub_self, List.take_zero]
    simp [Lib.fieldsGo]
theorem fieldsGo_mem_len : ∀ (l cur f : List UInt8), f ∈ Lib.fieldsGo cur l → f.length ≤ cur.length + l.length := by
  intro l
  induction l with
  | nil =>
    intro cur f hf
    unfold Lib.fieldsGo at hf
    split at hf
    · simp at hf
    · simp only [List.mem_singleton] at hf; subst hf; simp
  | cons c t ih =>
    intro cur f hf
    unfold Lib.fieldsGo at hf
    split at hf
    · split at hf
      · have := ih [] f hf; simp at *; omega
      · simp only [List.mem_cons] at hf
        rcases hf with rfl | h
        · simp
        · have := ih [] f h; simp at *; omega
    · have := ih (cur ++ [c]) f hf; simp at *; omega
theorem not_pr {s : ByteArray} {i : Nat} (hi : i < s.size) (hp : prB s[i] = false) : s.data.toList.all prB = false := by
  rw [List.all_eq_false]
  refine ⟨s[i], ?_, by rw [hp]; decide⟩
  have : s[i] = s.data.toList[i]'hi := rfl
  rw [this]
  exact List.getElem_mem _
theorem extract_strv (s : ByteArray) (a b : Nat) : Value.string (s.extract a b) = strv ((s.data.toList.drop a).take (b - a)) := by
  unfold strv
  congr 1
  apply ByteArray.ext
  rw [ByteArray.data_extract]
  apply Array.ext'
  simp
end Go.Proofs.YtkbbcjnickgfjaaDoor
