/- Decimal figures of a number, and the number of figures: the mathematics, of no program. -/
import Derived.Test.YtkbbcjnickgfjaaDoorBase
namespace Go.Proofs.YtkbbcjnickgfjaaDoor

/-- The decimal figures of u, the first ahead; one nought for 0 (f: how many may stand ahead). -/
def decF : Nat → Nat → List UInt8
  | 0, u => [byteOf (48 + u)]
  | f + 1, u => if u < 10 then [byteOf (48 + u)] else decF f (u / 10) ++ [byteOf (48 + u % 10)]
def decB (u : Nat) : List UInt8 := decF u u

theorem decF_more : ∀ (f g u : Nat), u ≤ f → u ≤ g → decF f u = decF g u := by
  intro f
  induction f with
  | zero =>
    intro g u h1 h2
    have : u = 0 := by omega
    subst this
    cases g with
    | zero => rfl
    | succ g => rfl
  | succ f ih =>
    intro g u h1 h2
    cases g with
    | zero =>
      have : u = 0 := by omega
      subst this
      rfl
    | succ g =>
      unfold decF
      by_cases h : u < 10
      · rw [if_pos h, if_pos h]
      · rw [if_neg h, if_neg h, ih g (u / 10) (by omega) (by omega)]
theorem decB_small {u : Nat} (h : u < 10) : decB u = [byteOf (48 + u)] := by
  unfold decB
  cases u with
  | zero => rfl
  | succ u => unfold decF; rw [if_pos h]
theorem decB_big {u : Nat} (h : ¬ u < 10) : decB u = decB (u / 10) ++ [byteOf (48 + u % 10)] := by
  unfold decB
  cases u with
  | zero => omega
  | succ u =>
    rw [decF, if_neg h, decF_more u ((u + 1) / 10) ((u + 1) / 10) (by omega) (Nat.le_refl _)]
theorem decB_len : ∀ (k u : Nat), u < 10 ^ (k + 1) → 1 ≤ (decB u).length ∧ (decB u).length ≤ k + 1 := by
  intro k
  induction k with
  | zero => intro u h; rw [decB_small (by omega)]; simp
  | succ k ih =>
    intro u h
    by_cases hu : u < 10
    · rw [decB_small hu]; simp
    · have := ih (u / 10) (by rw [Nat.pow_succ] at h; omega)
      rw [decB_big hu, List.length_append]
      simp only [List.length_singleton]
      omega
theorem decB_pos (u : Nat) : 1 ≤ (decB u).length := by
  by_cases hu : u < 10
  · rw [decB_small hu]; simp
  · rw [decB_big hu]; simp

/-- Is it a figure? -/
def isFig (c : UInt8) : Bool := decide (48 ≤ c.toNat ∧ c.toNat ≤ 57)
/-- The number of figures. -/
def valB (l : List UInt8) : Nat := l.foldl (fun n c => 10 * n + (c.toNat - 48)) 0
theorem valB_nil : valB [] = 0 := rfl
theorem valB_snoc (l : List UInt8) (c : UInt8) : valB (l ++ [c]) = 10 * valB l + (c.toNat - 48) := by unfold valB; simp
theorem foldl_ge (l : List UInt8) : ∀ n, n ≤ l.foldl (fun n c => 10 * n + (c.toNat - 48)) n := by
  induction l with
  | nil => intro n; exact Nat.le_refl _
  | cons c t ih => intro n; rw [List.foldl_cons]; exact Nat.le_trans (by omega) (ih _)
theorem valB_append_ge (l m : List UInt8) : valB l ≤ valB (l ++ m) := by
  unfold valB; rw [List.foldl_append]; exact foldl_ge _ _
theorem foldl_pow (l : List UInt8) : ∀ n, n * 10 ^ l.length ≤ l.foldl (fun n c => 10 * n + (c.toNat - 48)) n := by
  induction l with
  | nil => intro n; simp
  | cons c t ih =>
    intro n
    rw [List.foldl_cons, List.length_cons, Nat.pow_succ]
    refine Nat.le_trans ?_ (ih _)
    calc n * (10 ^ t.length * 10) = (10 * n) * 10 ^ t.length := by rw [Nat.mul_comm (10 ^ t.length) 10, ← Nat.mul_assoc, Nat.mul_comm n 10]
      _ ≤ _ := Nat.mul_le_mul_right _ (by omega)
theorem valB_cons_ge (c : UInt8) (t : List UInt8) (h : 49 ≤ c.toNat) : 10 ^ t.length ≤ valB (c :: t) := by
  unfold valB
  rw [List.foldl_cons]
  refine Nat.le_trans ?_ (foldl_pow t _)
  calc 10 ^ t.length = 1 * 10 ^ t.length := by omega
    _ ≤ _ := Nat.mul_le_mul_right _ (by omega)
theorem valB_lt (l : List UInt8) : (∀ c ∈ l, isFig c = true) → valB l < 10 ^ l.length := by
  intro h
  induction hl : l.length generalizing l with
  | zero => have : l = [] := List.length_eq_zero_iff.1 hl; subst this; simp [valB_nil]
  | succ k ih =>
    obtain ⟨l', c, rfl⟩ : ∃ l' c, l = l' ++ [c] := by
      have hne : l ≠ [] := by intro e; subst e; simp at hl
      exact ⟨l.dropLast, l.getLast hne, (List.dropLast_concat_getLast hne).symm⟩
    have h1 := ih l' (fun c hc => h c (by simp [hc])) (by simpa using hl)
    have h2 := h c (by simp)
    simp only [isFig, decide_eq_true_eq] at h2
    rw [valB_snoc, Nat.pow_succ]
    omega

/-- No needless nought stands ahead. -/
def plainFigs (l : List UInt8) : Prop := l ≠ [] ∧ (1 < l.length → l.head? ≠ some 48)

theorem valB_ge_one {l : List UInt8} (hf : ∀ c ∈ l, isFig c = true) (hn : l ≠ []) (h0 : l.head? ≠ some 48) : 1 ≤ valB l := by
  cases l with
  | nil => exact absurd rfl hn
  | cons c t =>
    have h2 := hf c (by simp)
    simp only [isFig, decide_eq_true_eq] at h2
    have h3 : c.toNat ≠ 48 := by
      intro e
      apply h0
      simp only [List.head?_cons, Option.some.injEq]
      apply UInt8.toNat_inj.1; rw [e]; rfl
    have := valB_cons_ge c t (by omega)
    have hp : 1 ≤ 10 ^ t.length := Nat.one_le_pow _ _ (by decide)
    omega

theorem decB_valB : ∀ (k : Nat) (l : List UInt8), l.length = k → (∀ c ∈ l, isFig c = true) → plainFigs l → decB (valB l) = l := by
  intro k
  induction k with
  | zero => intro l hl _ hp; exact absurd (List.length_eq_zero_iff.1 hl) hp.1
  | succ k ih =>
    intro l hl hf hp
    obtain ⟨l', c, rfl⟩ : ∃ l' c, l = l' ++ [c] := ⟨l.dropLast, l.getLast hp.1, (List.dropLast_concat_getLast hp.1).symm⟩
    have hc := hf c (by simp)
    simp only [isFig, decide_eq_true_eq] at hc
    have hbc : byteOf c.toNat = c := by unfold byteOf; simp
    rw [valB_snoc]
    by_cases hn : l' = []
    · subst hn
      rw [valB_nil, decB_small (by omega), show 48 + (10 * 0 + (c.toNat - 48)) = c.toNat by omega, hbc]
      rfl
    · have hlen : 0 < l'.length := List.length_pos_iff.2 hn
      have hh : l'.head? ≠ some 48 := by
        have := hp.2 (by simp; omega)
        cases l' with
        | nil => exact absurd rfl hn
        | cons a t => simpa using this
      have h1 := valB_ge_one (fun c hc => hf c (by simp [hc])) hn hh
      have h2 := ih l' (by simpa using hl) (fun c hc => hf c (by simp [hc])) ⟨hn, fun _ => hh⟩
      rw [decB_big (by omega), show (10 * valB l' + (c.toNat - 48)) / 10 = valB l' by omega, show 48 + (10 * valB l' + (c.toNat - 48)) % 10 = c.toNat by omega, h2, hbc]

theorem decB_head : ∀ (n : Nat) (t : List UInt8), decB n = 48 :: t → t = [] ∧ n = 0 := by
  intro n
  induction n using Nat.strongRecOn with
  | _ n ih =>
    intro t h
    by_cases hn : n < 10
    · rw [decB_small hn] at h
      simp only [List.cons.injEq] at h
      refine ⟨h.2.symm, ?_⟩
      have := congrArg UInt8.toNat h.1
      rw [byteOf_toNat (by omega)] at this
      simp at this
      omega
    · exfalso
      rw [decB_big hn] at h
      have hp := decB_pos (n / 10)
      cases hd : decB (n / 10) with
      | nil => rw [hd] at hp; simp at hp
      | cons y ys =>
        rw [hd] at h
        simp only [List.cons_append, List.cons.injEq] at h
        have := ih (n / 10) (by omega) ys (by rw [hd, h.1])
        omega

/-- The figures of the number that figures stand for are these just where no needless nought stands ahead. -/
theorem decB_iff {l : List UInt8} (hf : ∀ c ∈ l, isFig c = true) : decB (valB l) = l ↔ plainFigs l := by
  constructor
  · intro h
    refine ⟨?_, ?_⟩
    · intro e; subst e
      have hp := decB_pos (valB [])
      rw [h] at hp
      simp at hp
    · intro hl hh
      cases l with
      | nil => simp at hh
      | cons a t =>
        simp only [List.head?_cons, Option.some.injEq] at hh
        subst hh
        have := (decB_head _ _ h).1
        subst this
        simp at hl
  · exact decB_valB _ l rfl hf

/-- What is read. -/
def rdB (l : List UInt8) : Option Nat := if l.all isFig = true ∧ valB l ≤ 1000000000 ∧ decB (valB l) = l then some (valB l) else none
end Go.Proofs.YtkbbcjnickgfjaaDoor
