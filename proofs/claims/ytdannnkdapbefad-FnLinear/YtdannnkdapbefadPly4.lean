/- Polynomials by the given model: products, over the loaded program. -/
import Derived.Test.YtdannnkdapbefadPly3
namespace Go.Proofs.Ytdannnkdapbefad
open Go.RowKit
/-- The column of row i that meets place t. -/
def colT (i t : Nat) : Nat := (t + 256 - i) % 256
def stM (A B : Nat → Int) (i k : Nat) : List Int := mk256 fun t => (sumN (fun j => tmC A B j t) i + if colT i t < k then tmC A B i t else 0) % 3329
theorem stM_len (A B : Nat → Int) (i k : Nat) : (stM A B i k).length = 256 := mk256_len _
theorem stM_at (A B : Nat → Int) (i k t : Nat) (ht : t < 256) : cAt (stM A B i k) t = (sumN (fun j => tmC A B j t) i + if colT i t < k then tmC A B i t else 0) % 3329 := mk256_at _ t ht
theorem stM_zero (A B : Nat → Int) : stM A B 0 0 = List.replicate 256 0 := by
  refine ext_pl (stM_len _ _ _ _) (by rw [List.length_replicate]) fun t ht => ?_
  rw [stM_at _ _ _ _ t ht, if_neg (by omega)]
  show (0 + 0) % 3329 = cAt zeroL t
  rw [zeroL_at t ht]
  rfl
theorem stM_next (A B : Nat → Int) (i : Nat) : stM A B i 256 = stM A B (i + 1) 0 := by
  refine ext_pl (stM_len _ _ _ _) (stM_len _ _ _ _) fun t ht => ?_
  rw [stM_at _ _ _ _ t ht, stM_at _ _ _ _ t ht, if_pos (by unfold colT; omega), if_neg (by omega)]
  show _ = (sumN (fun j => tmC A B j t) i + tmC A B i t + 0) % 3329
  omega
theorem stM_end (A B : Nat → Int) : stM A B 256 0 = mk256 fun t => cfP A B t % 3329 := by
  refine ext_pl (stM_len _ _ _ _) (mk256_len _) fun t ht => ?_
  rw [stM_at _ _ _ _ t ht, mk256_at _ t ht, if_neg (by omega)]
  show (sumN (fun j => tmC A B j t) 256 + 0) % 3329 = sumN (fun j => tmC A B j t) 256 % 3329
  omega
theorem cAt_set (l : List Int) (p : Nat) (x : Int) (t : Nat) (hp : p < l.length) : cAt (l.set p x) t = if t = p then x else cAt l t := by
  unfold cAt
  rw [List.getElem?_set]
  by_cases h : p = t
  · rw [if_pos h, if_pos hp, if_pos h.symm]; rfl
  · rw [if_neg h, if_neg (fun e => h e.symm)]
theorem stM_low (A B : Nat → Int) (i k : Nat) (hi : i < 256) (hk : k < 256) (h : i + k < 256) : (stM A B i k).set (i + k) ((cAt (stM A B i k) (i + k) + A i * B k % 3329) % 3329) = stM A B i (k + 1) := by
  refine ext_pl (by rw [List.length_set, stM_len]) (stM_len _ _ _ _) fun t ht => ?_
  rw [cAt_set _ _ _ _ (by rw [stM_len]; omega), stM_at _ _ _ _ t ht, stM_at _ _ _ _ t ht, stM_at _ _ _ _ (i + k) h]
  by_cases e : t = i + k
  · subst e
    rw [if_pos rfl, if_neg (by unfold colT; omega), if_pos (by unfold colT; omega)]
    unfold tmC
    rw [if_pos (by omega), show i + k - i = k by omega]
    generalize A i * B k = p
    generalize sumN _ i = s
    omega
  · rw [if_neg e]
    have hc : colT i t ≠ k := by unfold colT; omega
    by_cases h2 : colT i t < k
    · rw [if_pos h2, if_pos (by omega)]
    · rw [if_neg h2, if_neg (by omega)]
theorem stM_high (A B : Nat → Int) (i k : Nat) (hi : i < 256) (hk : k < 256) (h : ¬ i + k < 256) : (stM A B i k).set (i + k - 256) ((cAt (stM A B i k) (i + k - 256) + (3329 - A i * B k % 3329)) % 3329) = stM A B i (k + 1) := by
  refine ext_pl (by rw [List.length_set, stM_len]) (stM_len _ _ _ _) fun t ht => ?_
  rw [cAt_set _ _ _ _ (by rw [stM_len]; omega), stM_at _ _ _ _ t ht, stM_at _ _ _ _ t ht, stM_at _ _ _ _ (i + k - 256) (by omega)]
  by_cases e : t = i + k - 256
  · rw [if_pos e, ← e, if_neg (by unfold colT; omega), if_pos (by unfold colT; omega)]
    unfold tmC
    rw [if_neg (by omega), show t + 256 - i = k by omega]
    generalize A i * B k = p
    generalize sumN _ i = s
    omega
  · rw [if_neg e]
    have hc : colT i t ≠ k := by unfold colT; omega
    by_cases h2 : colT i t < k
    · rw [if_pos h2, if_pos (by omega)]
    · rw [if_neg h2, if_neg (by omega)]
theorem stM_bound (A B : Nat → Int) (i k t : Nat) (ht : t < 256) : 0 ≤ cAt (stM A B i k) t ∧ cAt (stM A B i k) t ≤ 3328 := by
  rw [stM_at _ _ _ _ t ht]; omega
theorem set_iv (l : List Int) (p : Nat) (x : Int) : (l.map iv).set p (.int .i64 x) = (l.set p x).map iv := by
  rw [List.map_set]; rfl
end Go.Proofs.Ytdannnkdapbefad
