/- Numbers in digits: what packing and unpacking answer; that they take each other back; squeezing and stretching. -/
import Derived.Test.YtkiocjbooegajadPly0
namespace Go.Proofs.Ytkiocjbooegajad
open Go.RowKit
/-- The number whose digits to the base c these are, least first. -/
def valC (c : Nat) : List Nat → Nat
  | [] => 0
  | x :: xs => x + c * valC c xs
/-- m digits of N to the base c, least first. -/
def dig (c : Nat) : Nat → Nat → List Nat
  | 0, _ => []
  | m + 1, N => N % c :: dig c m (N / c)
theorem dig_len (c m N : Nat) : (dig c m N).length = m := by
  induction m generalizing N with
  | zero => rfl
  | succ m ih => show (dig c m (N / c)).length + 1 = m + 1; rw [ih]
theorem dig_at (c m N i : Nat) (h : i < m) : (dig c m N)[i]? = some (N / c ^ i % c) := by
  induction m generalizing N i with
  | zero => omega
  | succ m ih =>
    cases i with
    | zero => show some (N % c) = some (N / c ^ 0 % c); rw [Nat.pow_zero, Nat.div_one]
    | succ i =>
      show (dig c m (N / c))[i]? = _
      rw [ih (N / c) i (by omega), Nat.div_div_eq_div_mul, Nat.pow_succ, Nat.mul_comm]
theorem dig_add (c m N : Nat) : dig c (m + 1) N = dig c m N ++ [N / c ^ m % c] := by
  induction m generalizing N with
  | zero => show [N % c] = [N / c ^ 0 % c]; rw [Nat.pow_zero, Nat.div_one]
  | succ m ih =>
    show N % c :: dig c (m + 1) (N / c) = N % c :: (dig c m (N / c) ++ _)
    rw [ih, Nat.div_div_eq_div_mul, Nat.pow_succ, Nat.mul_comm]
theorem valC_dig (c m N : Nat) : valC c (dig c m N) = N % c ^ m := by
  induction m generalizing N with
  | zero => show 0 = N % c ^ 0; rw [Nat.pow_zero, Nat.mod_one]
  | succ m ih =>
    show N % c + c * valC c (dig c m (N / c)) = N % c ^ (m + 1)
    rw [ih, Nat.pow_succ, Nat.mul_comm (c ^ m) c, Nat.mod_mul]
theorem dig_valC (c : Nat) (l : List Nat) (hc : 0 < c) (h : ∀ x ∈ l, x < c) : dig c l.length (valC c l) = l := by
  induction l with
  | nil => rfl
  | cons x xs ih =>
    have hx := h x (List.mem_cons_self ..)
    show (x + c * valC c xs) % c :: dig c xs.length ((x + c * valC c xs) / c) = x :: xs
    rw [Nat.add_mul_mod_self_left, Nat.mod_eq_of_lt hx, Nat.add_mul_div_left _ _ hc, Nat.div_eq_of_lt hx, Nat.zero_add, ih fun y hy => h y (List.mem_cons_of_mem _ hy)]
theorem valC_lt (c : Nat) (l : List Nat) (h : ∀ x ∈ l, x < c) : valC c l < c ^ l.length := by
  induction l with
  | nil => exact Nat.one_pos
  | cons x xs ih =>
    have hx := h x (List.mem_cons_self ..)
    have h1 := ih fun y hy => h y (List.mem_cons_of_mem _ hy)
    show x + c * valC c xs < c ^ (xs.length + 1)
    rw [Nat.pow_succ, Nat.mul_comm (c ^ xs.length) c]
    have h2 : c * (valC c xs + 1) ≤ c * c ^ xs.length := Nat.mul_le_mul_left c h1
    rw [Nat.mul_add, Nat.mul_one] at h2
    omega
theorem valC_snoc (c : Nat) (l : List Nat) (x : Nat) : valC c (l ++ [x]) = valC c l + c ^ l.length * x := by
  induction l with
  | nil => show x + c * 0 = 0 + c ^ 0 * x; rw [Nat.pow_zero]; omega
  | cons y ys ih =>
    show y + c * valC c (ys ++ [x]) = y + c * valC c ys + c ^ (ys.length + 1) * x
    rw [ih, Nat.pow_succ, Nat.mul_add, ← Nat.mul_assoc, Nat.mul_comm c (c ^ ys.length)]
    omega
theorem dig_mod (c m N M : Nat) (h : N % c ^ m = M % c ^ m) : dig c m N = dig c m M := by
  induction m generalizing N M with
  | zero => rfl
  | succ m ih =>
    rw [Nat.pow_succ, Nat.mul_comm (c ^ m) c, Nat.mod_mul, Nat.mod_mul] at h
    rcases Nat.eq_zero_or_pos c with hc | hc
    · subst hc
      simp only [Nat.mod_zero, Nat.zero_mul, Nat.add_zero] at h
      rw [h]
    · have h1 : N % c = M % c := by
        have := congrArg (· % c) h
        simpa [Nat.add_mul_mod_self_left] using this
      have h2 : N / c % c ^ m = M / c % c ^ m := by
        rw [h1] at h
        exact Nat.eq_of_mul_eq_mul_left hc (Nat.add_left_cancel h)
      show N % c :: dig c m (N / c) = M % c :: dig c m (M / c)
      rw [h1, ih _ _ h2]
/-- How many bytes n numbers of b bits take. -/
def byN (n b : Nat) : Nat := (n * b + 7) / 8
/-- The bytes of packed numbers, as numbers. -/
def pkN (b : Nat) (l : List Nat) : List Nat := dig 256 (byN l.length b) (valC (2 ^ b) l)
/-- The numbers of packed bytes. -/
def upN (b n : Nat) (s : List Nat) : List Nat := dig (2 ^ b) n (valC 256 s)
theorem pow_256 (m : Nat) : 256 ^ m = 2 ^ (8 * m) := by rw [Nat.pow_mul]
theorem pk_lt (b : Nat) (l : List Nat) (h : ∀ x ∈ l, x < 2 ^ b) : valC (2 ^ b) l < 256 ^ byN l.length b := by
  refine Nat.lt_of_lt_of_le (valC_lt _ l h) ?_
  rw [pow_256, ← Nat.pow_mul]
  refine Nat.pow_le_pow_right (by omega) ?_
  unfold byN
  rw [Nat.mul_comm b]
  omega
theorem up_pk (b : Nat) (l : List Nat) (h : ∀ x ∈ l, x < 2 ^ b) : upN b l.length (pkN b l) = l ∧ valC 256 (pkN b l) < 2 ^ (b * l.length) := by
  unfold upN pkN
  rw [valC_dig, Nat.mod_eq_of_lt (pk_lt b l h)]
  refine ⟨dig_valC _ l (Nat.pow_pos (by omega)) h, ?_⟩
  rw [Nat.pow_mul]
  exact valC_lt _ l h
theorem pk_up (b n : Nat) (s : List Nat) (hs : ∀ x ∈ s, x < 256) (hl : s.length = byN n b) (hv : valC 256 s < 2 ^ (b * n)) : pkN b (upN b n s) = s := by
  unfold pkN upN
  rw [valC_dig, dig_len, ← Nat.pow_mul, Nat.mod_eq_of_lt hv, ← hl]
  exact dig_valC 256 s (by omega) hs
/-- x squeezed to d bits. -/
def sqz (x d : Nat) : Nat := (2 ^ d * x + 1664) / 3329 % 2 ^ d
/-- y of d bits stretched. -/
def str (y d : Nat) : Nat := (3329 * y + 2 ^ (d - 1)) / 2 ^ d
def sqzZ (x d : Int) : Int := if (0 ≤ x ∧ x ≤ 3328) ∧ (1 ≤ d ∧ d ≤ 11) then (sqz x.toNat d.toNat : Int) else 0
def strZ (y d : Int) : Int := if (1 ≤ d ∧ d ≤ 11) ∧ (0 ≤ y ∧ y ≤ 2 ^ d.toNat - 1) then (str y.toNat d.toNat : Int) else 0
/-- Around 3329, how far x is from z. -/
def farN (x z : Nat) : Nat := let f := (x + 3329 - z) % 3329; if 3329 - f < f then 3329 - f else f
theorem sqz_all : allN (fun d => allN (fun x => sqz x (d + 1) < 2 ^ (d + 1) && (str (sqz x (d + 1)) (d + 1) < 3329 && farN x (str (sqz x (d + 1)) (d + 1)) ≤ (3329 + 2 ^ (d + 1)) / (2 * 2 ^ (d + 1)))) 3329) 11 = true := by decide +kernel
theorem str_all : allN (fun d => allN (fun y => sqz (str y (d + 1)) (d + 1) == y && decide (str y (d + 1) < 3329)) (2 ^ (d + 1))) 11 = true := by decide +kernel
end Go.Proofs.Ytkiocjbooegajad
