/- Polynomials by the project: sums and differences, over the loaded program. -/
import Derived.Test.YtdannnkdapbefaqPly4
import Derived.Test.YtdannnkdapbefaqPlyA
import Derived.Test.YtdannnkdapbefaqPlyB
namespace Go.Proofs.Ytdannnkdapbefaq
open Go.RowKit
def filP (f : Nat → Int) (k : Nat) : List Int := mk256 fun t => if t < k then f t else 0
theorem filP_len (f : Nat → Int) (k : Nat) : (filP f k).length = 256 := mk256_len _
theorem filP_zero (f : Nat → Int) : filP f 0 = List.replicate 256 0 := by
  refine ext_pl (filP_len _ _) (by rw [List.length_replicate]) fun t ht => ?_
  unfold filP
  rw [mk256_at _ t ht, if_neg (by omega)]
  exact (zeroL_at t ht).symm
theorem filP_end (f : Nat → Int) : filP f 256 = mk256 f := by
  unfold filP
  exact mk256_congr fun _ hi => if_pos hi
theorem filP_set (f : Nat → Int) (k : Nat) (hk : k < 256) : (filP f k).set k (f k) = filP f (k + 1) := by
  refine ext_pl (by rw [List.length_set, filP_len]) (filP_len _ _) fun t ht => ?_
  rw [cAt_set _ _ _ _ (by rw [filP_len]; exact hk)]
  unfold filP
  rw [mk256_at _ t ht, mk256_at _ t ht]
  by_cases e : t = k
  · rw [if_pos e, if_pos (by omega), e]
  · rw [if_neg e]
    by_cases h : t < k
    · rw [if_pos h, if_pos (by omega)]
    · rw [if_neg h, if_neg (by omega)]
end Go.Proofs.Ytdannnkdapbefaq
