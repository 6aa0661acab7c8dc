/- Polynomials by the project: products, over the loaded program. -/
import Derived.Test.YtdannnkdapbefadPlyC
namespace Go.Proofs.Ytdannnkdapbefad
open Go.RowKit
/-- The numbers, not yet taken modulo, when k columns of row i are in. -/
def stU (A B : Nat → Int) (i k : Nat) : List Int := mk256 fun t => sumN (fun j => tmC A B j t) i + if colT i t < k then tmC A B i t else 0
theorem stU_len (A B : Nat → Int) (i k : Nat) : (stU A B i k).length = 256 := mk256_len _
theorem stU_at (A B : Nat → Int) (i k t : Nat) (ht : t < 256) : cAt (stU A B i k) t = sumN (fun j => tmC A B j t) i + if colT i t < k then tmC A B i t else 0 := mk256_at _ t ht
theorem stU_zero (A B : Nat → Int) : stU A B 0 0 = List.replicate 256 0 := by
  refine ext_pl (stU_len _ _ _ _) (by rw [List.length_replicate]) fun t ht => ?_
  rw [stU_at _ _ _ _ t ht, if_neg (by omega)]
  show 0 + 0 = cAt zeroL t
  rw [zeroL_at t ht]
  rfl
theorem stU_next (A B : Nat → Int) (i : Nat) : stU A B i 256 = stU A B (i + 1) 0 := by
  refine ext_pl (stU_len _ _ _ _) (stU_len _ _ _ _) fun t ht => ?_
  rw [stU_at _ _ _ _ t ht, stU_at _ _ _ _ t ht, if_pos (by unfold colT; omega), if_neg (by omega)]
  show _ = sumN (fun j => tmC A B j t) i + tmC A B i t + 0
  omega
theorem stU_low (A B : Nat → Int) (i k : Nat) (hi : i < 256) (hk : k < 256) (h : i + k < 256) : (stU A B i k).set (i + k) (cAt (stU A B i k) (i + k) + A i * B k) = stU A B i (k + 1) := by
  refine ext_pl (by rw [List.length_set, stU_len]) (stU_len _ _ _ _) fun t ht => ?_
  rw [cAt_set _ _ _ _ (by rw [stU_len]; omega), stU_at _ _ _ _ t ht, stU_at _ _ _ _ t ht, stU_at _ _ _ _ (i + k) h]
  by_cases e : t = i + k
  · subst e
    rw [if_pos rfl, if_neg (by unfold colT; omega), if_pos (by unfold colT; omega)]
    unfold tmC
    rw [if_pos (by omega), show i + k - i = k by omega]
    generalize A i * B k = p
    generalize sumN _ i = s
    omega
  · rw [if_neg e]
    have hc : colT i t ≠ k := by unfold colT; omega
    by_cases h2 : colT i t < k
    · rw [if_pos h2, if_pos (by omega)]
    · rw [if_neg h2, if_neg (by omega)]
theorem stU_high (A B : Nat → Int) (i k t0 : Nat) (hi : i < 256) (hk : k < 256) (h : i + k = 256 + t0) : (stU A B i k).set t0 (cAt (stU A B i k) t0 - A i * B k) = stU A B i (k + 1) := by
  refine ext_pl (by rw [List.length_set, stU_len]) (stU_len _ _ _ _) fun t ht => ?_
  rw [cAt_set _ _ _ _ (by rw [stU_len]; omega), stU_at _ _ _ _ t ht, stU_at _ _ _ _ t ht, stU_at _ _ _ _ t0 (by omega)]
  by_cases e : t = t0
  · rw [if_pos e, ← e, if_neg (by unfold colT; omega), if_pos (by unfold colT; omega)]
    unfold tmC
    rw [if_neg (by omega), show t + 256 - i = k by omega]
    generalize A i * B k = p
    generalize sumN _ i = s
    omega
  · rw [if_neg e]
    have hc : colT i t ≠ k := by unfold colT; omega
    by_cases h2 : colT i t < k
    · rw [if_pos h2, if_pos (by omega)]
    · rw [if_neg h2, if_neg (by omega)]
theorem sumN_bound (f : Nat → Int) (M : Int) (n : Nat) (h : ∀ i, i < n → -M ≤ f i ∧ f i ≤ M) : -(n * M) ≤ sumN f n ∧ sumN f n ≤ n * M := by
  induction n with
  | zero => simp [sumN]
  | succ n ih =>
    have h1 := ih fun i hi => h i (by omega)
    have h2 := h n (by omega)
    have e : ((n + 1 : Nat) : Int) * M = n * M + M := by rw [Int.natCast_add, Int.add_mul, Int.natCast_one, Int.one_mul]
    rw [e]
    show -(n * M + M) ≤ sumN f n + f n ∧ sumN f n + f n ≤ n * M + M
    generalize (n : Int) * M = z at *
    omega
theorem tm_bound {A B : Nat → Int} (hA : ∀ i, i < 256 → 0 ≤ A i ∧ A i ≤ 3328) (hB : ∀ i, i < 256 → 0 ≤ B i ∧ B i ≤ 3328) (i t : Nat) (hi : i < 256) (ht : t < 256) : -11075584 ≤ tmC A B i t ∧ tmC A B i t ≤ 11075584 := by
  unfold tmC
  split
  · have h1 := hA i hi
    have h2 := hB (t - i) (by omega)
    have p1 : 0 ≤ A i * B (t - i) := Int.mul_nonneg h1.1 h2.1
    have p2 : A i * B (t - i) ≤ 3328 * 3328 := Int.mul_le_mul h1.2 h2.2 h2.1 (by omega)
    omega
  · have h1 := hA i hi
    have h2 := hB (t + 256 - i) (by omega)
    have p1 : 0 ≤ A i * B (t + 256 - i) := Int.mul_nonneg h1.1 h2.1
    have p2 : A i * B (t + 256 - i) ≤ 3328 * 3328 := Int.mul_le_mul h1.2 h2.2 h2.1 (by omega)
    omega
theorem stU_bound {A B : Nat → Int} (hA : ∀ i, i < 256 → 0 ≤ A i ∧ A i ≤ 3328) (hB : ∀ i, i < 256 → 0 ≤ B i ∧ B i ≤ 3328) (i k t : Nat) (hi : i < 256) (ht : t < 256) : -3000000000 ≤ cAt (stU A B i k) t ∧ cAt (stU A B i k) t ≤ 3000000000 := by
  rw [stU_at _ _ _ _ t ht]
  have h1 := sumN_bound (fun j => tmC A B j t) 11075584 i (fun j hj => tm_bound hA hB j t (by omega) ht)
  have h2 := tm_bound hA hB i t hi ht
  generalize sumN (fun j => tmC A B j t) i = s at *
  generalize tmC A B i t = u at *
  split <;> omega
/-- The numbers when the first k of them are taken modulo. -/
def finU (h : Nat → Int) (k : Nat) : List Int := mk256 fun t => if t < k then h t % 3329 else h t
theorem finU_len (h : Nat → Int) (k : Nat) : (finU h k).length = 256 := mk256_len _
theorem finU_at (h : Nat → Int) (k : Nat) (hk : k < 256) : cAt (finU h k) k = h k := by unfold finU; rw [mk256_at _ k hk, if_neg (by omega)]
theorem finU_zero (A B : Nat → Int) : stU A B 256 0 = finU (cfP A B) 0 := by
  refine ext_pl (stU_len _ _ _ _) (finU_len _ _) fun t ht => ?_
  unfold finU
  rw [stU_at _ _ _ _ t ht, mk256_at _ t ht, if_neg (by omega), if_neg (by omega)]
  show sumN (fun j => tmC A B j t) 256 + 0 = sumN (fun j => tmC A B j t) 256
  omega
theorem finU_end (h : Nat → Int) : finU h 256 = mk256 fun t => h t % 3329 := mk256_congr fun _ hi => if_pos hi
theorem finU_set (h : Nat → Int) (k : Nat) (hk : k < 256) : (finU h k).set k (h k % 3329) = finU h (k + 1) := by
  refine ext_pl (by rw [List.length_set, finU_len]) (finU_len _ _) fun t ht => ?_
  rw [cAt_set _ _ _ _ (by rw [finU_len]; exact hk)]
  unfold finU
  rw [mk256_at _ t ht, mk256_at _ t ht]
  by_cases e : t = k
  · rw [if_pos e, if_pos (by omega), e]
  · rw [if_neg e]
    by_cases h : t < k
    · rw [if_pos h, if_pos (by omega)]
    · rw [if_neg h, if_neg (by omega)]
end Go.Proofs.Ytdannnkdapbefad
