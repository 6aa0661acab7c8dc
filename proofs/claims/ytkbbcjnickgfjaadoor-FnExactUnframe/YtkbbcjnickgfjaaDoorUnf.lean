/- The records of the frames that a file begins with: the mathematics. -/
import Derived.Test.YtkbbcjnickgfjaaDoorFrame
import Derived.Test.YtkbbcjnickgfjaaDoorRvo
namespace Go.Proofs.YtkbbcjnickgfjaaDoor

/-- Whether a frame whose number is n, read up to j, is whole there. -/
abbrev wholeAt (s : ByteArray) (n j : Nat) : Prop := 1 ≤ n ∧ n ≤ 9000 ∧ j + 4 + n ≤ s.size ∧ s.extract j (j + 4) = fourS (sumOf (s.extract (j + 4) (j + 4 + n)))
def frAt (s : ByteArray) (p : Nat) : Option (Nat × Nat) :=
  match rvRun s p p 1 0 with
  | none => none
  | some (n, j) => if wholeAt s n j then some (j + 4, j + 4 + n) else none

theorem frAt_none {s : ByteArray} {p : Nat} (h : rvRun s p p 1 0 = none) : frAt s p = none := by
  unfold frAt; rw [h]
theorem frAt_yes {s : ByteArray} {p n j : Nat} (h : rvRun s p p 1 0 = some (n, j)) (hw : wholeAt s n j) : frAt s p = some (j + 4, j + 4 + n) := by
  unfold frAt; rw [h]; simp only; rw [if_pos hw]
theorem frAt_no {s : ByteArray} {p n j : Nat} (h : rvRun s p p 1 0 = some (n, j)) (hw : ¬ wholeAt s n j) : frAt s p = none := by
  unfold frAt; rw [h]; simp only; rw [if_neg hw]
theorem frAt_some {s : ByteArray} {p b e : Nat} (hp : p ≤ s.size) (h : frAt s p = some (b, e)) : p < b ∧ b < e ∧ e ≤ s.size ∧ p + 6 ≤ e ∧ e - b ≤ 9000 := by
  unfold frAt at h
  cases hr : rvRun s p p 1 0 with
  | none => rw [hr] at h; cases h
  | some r =>
    obtain ⟨n, j⟩ := r
    rw [hr] at h
    simp only at h
    obtain ⟨q1, q2, q3, _, _⟩ := rvRun_own hp hr
    by_cases hw : wholeAt s n j
    · rw [if_pos hw] at h
      simp only [Option.some.injEq, Prod.mk.injEq] at h
      obtain ⟨rfl, rfl⟩ := h
      obtain ⟨w1, w2, w3, _⟩ := hw
      omega
    · rw [if_neg hw] at h; cases h

theorem frAt_end {s : ByteArray} {p : Nat} (h : s.size ≤ p) : frAt s p = none := frAt_none (rvRun_out (by omega))

/-- The records from place p on, each with the place behind it. -/
def frsF (s : ByteArray) : Nat → Nat → List (ByteArray × Nat)
  | 0, _ => []
  | f + 1, p => match frAt s p with
    | none => []
    | some (b, e) => (s.extract b e, e) :: frsF s f e
def frs (s : ByteArray) (p : Nat) : List (ByteArray × Nat) := frsF s (s.size - p) p

theorem frsF_enough (s : ByteArray) : ∀ (f g p : Nat), p ≤ s.size → s.size - p ≤ f → s.size - p ≤ g → frsF s f p = frsF s g p := by
  intro f
  induction f with
  | zero =>
    intro g p hp hf hg
    cases g with
    | zero => rfl
    | succ g => rw [frsF, frsF, frAt_end (by omega)]
  | succ f ih =>
    intro g p hp hf hg
    cases g with
    | zero => rw [frsF, frsF, frAt_end (by omega)]
    | succ g =>
      rw [frsF, frsF]
      cases h : frAt s p with
      | none => rfl
      | some r =>
        obtain ⟨b, e⟩ := r
        obtain ⟨h1, h2, h3, h4, h5⟩ := frAt_some hp h
        simp only
        rw [ih g e h3 (by omega) (by omega)]

theorem frs_none {s : ByteArray} {p : Nat} (h : frAt s p = none) : frs s p = [] := by
  unfold frs
  cases s.size - p with
  | zero => rfl
  | succ f => rw [frsF, h]
theorem frs_some {s : ByteArray} {p b e : Nat} (hp : p ≤ s.size) (h : frAt s p = some (b, e)) : frs s p = (s.extract b e, e) :: frs s e := by
  obtain ⟨h1, h2, h3, h4, h5⟩ := frAt_some hp h
  unfold frs
  rw [show s.size - p = (s.size - p - 1) + 1 by omega, frsF, h]
  simp only
  rw [frsF_enough s (s.size - p - 1) (s.size - e) e h3 (by omega) (Nat.le_refl _)]

/-- The place behind the last of those records. -/
def lastEnd (p : Nat) : List (ByteArray × Nat) → Nat
  | [] => p
  | x :: t => lastEnd x.2 t
theorem lastEnd_snoc (p : Nat) (l : List (ByteArray × Nat)) (x : ByteArray × Nat) : lastEnd p (l ++ [x]) = x.2 := by
  induction l generalizing p with
  | nil => rfl
  | cons y t ih => simp only [List.cons_append, lastEnd]; exact ih _

theorem frs_len (s : ByteArray) : ∀ (f p : Nat), p ≤ s.size → s.size - p ≤ f → 6 * (frs s p).length ≤ s.size - p := by
  intro f
  induction f with
  | zero => intro p hp hf; rw [frs_none (frAt_end (by omega))]; simp
  | succ f ih =>
    intro p hp hf
    cases h : frAt s p with
    | none => rw [frs_none h]; simp
    | some r =>
      obtain ⟨b, e⟩ := r
      obtain ⟨h1, h2, h3, h4, h5⟩ := frAt_some hp h
      rw [frs_some hp h, List.length_cons]
      have := ih e h3 (by omega)
      omega

/-- A frame stands at p just where the number reads and the sum is the text's. -/
theorem frame_test (s : ByteArray) (p n j : Nat) (hp : p ≤ s.size) (h : rvRun s p p 1 0 = some (n, j)) (hn : j + 4 + n ≤ s.size) :
    frameB (s.extract (j + 4) (j + 4 + n)) = s.extract p (j + 4 + n) ↔ s.extract j (j + 4) = fourS (sumOf (s.extract (j + 4) (j + 4 + n))) := by
  obtain ⟨h1, h2, h3, h4, h5⟩ := rvRun_own hp h
  have hsz : (s.extract (j + 4) (j + 4 + n)).size = n := by rw [ByteArray.size_extract]; omega
  have hv : (⟨(varB n).toArray⟩ : ByteArray) = s.extract p j := by
    apply ByteArray.ext
    rw [h5, ByteArray.data_extract]
    apply Array.toList_inj.1
    simp
  have hcat : s.extract p (j + 4 + n) = s.extract p j ++ s.extract j (j + 4) ++ s.extract (j + 4) (j + 4 + n) := by
    rw [ByteArray.extract_append_extract, Nat.min_eq_left (by omega), Nat.max_eq_right (by omega), ByteArray.extract_append_extract, Nat.min_eq_left (by omega), Nat.max_eq_right (by omega)]
  unfold frameB
  rw [hsz, hv, hcat]
  constructor
  · intro e
    have e1 := congrArg (fun b => b.data.toList) e
    simp only [ByteArray.data_append, Array.toList_append, List.append_assoc] at e1
    have e2 := List.append_cancel_left e1
    have e3 := List.append_cancel_right e2
    apply ByteArray.ext
    exact Array.toList_inj.1 e3.symm
  · intro e; rw [e]
end Go.Proofs.YtkbbcjnickgfjaaDoor
