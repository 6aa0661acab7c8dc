/- InvNtt by the given model, over the loaded program. -/
import Derived.Test.YtdannnkdapbefadNtp4
namespace Go.Proofs.Ytdannnkdapbefad
open Go.RowKit
def szI (m : Nat) : Nat := 2 ^ (m + 1)
theorem szI_facts (i : Nat) (h : i < 7) : szI i = sz (6 - i) ∧ 2 ≤ szI i ∧ szI i ≤ 128 ∧ szI (i + 1) = szI i * 2 ∧ szI i < szI (i + 1) ∧ 2 ^ (7 - i) = 2 * 2 ^ (6 - i) ∧ 2 ^ (6 - i) ≤ 64 ∧ 1 ≤ 2 ^ (6 - i) ∧ 128 / szI i = 2 ^ (6 - i) := by
  match i, h with
  | 0, _ => decide
  | 1, _ => decide
  | 2, _ => decide
  | 3, _ => decide
  | 4, _ => decide
  | 5, _ => decide
  | 6, _ => decide
  | i + 7, h => exact absurd h (by omega)
/-- The first k numbers times 3303. -/
def fnL (F : Nat → Int) (k : Nat) : List Int := mk256 fun t => if t < k then F t * 3303 % 3329 else F t
theorem fnL_len (F : Nat → Int) (k : Nat) : (fnL F k).length = 256 := mk256_len _
theorem fnL_start {l : List Int} (h : okPl l = true) : fnL (cAt l) 0 = l := by
  refine ext_pl (fnL_len _ _) (okPl_yes h).1 fun t ht => ?_
  unfold fnL
  rw [mk256_at _ t ht, if_neg (by omega)]
theorem fnL_end (F : Nat → Int) : fnL F 256 = mk256 fun t => F t * 3303 % 3329 := mk256_congr fun t ht => by rw [if_pos ht]
theorem fnL_old (F : Nat → Int) (k : Nat) (h : k < 256) : cAt (fnL F k) k = F k := by unfold fnL; rw [mk256_at _ k h, if_neg (by omega)]
theorem fnL_step (F : Nat → Int) (k : Nat) (h : k < 256) : (fnL F k).set k (F k * 3303 % 3329) = fnL F (k + 1) := by
  refine ext_pl (by rw [List.length_set, fnL_len]) (fnL_len _ _) fun t ht => ?_
  rw [cAt_set _ _ _ _ (by rw [fnL_len]; exact h)]
  unfold fnL
  rw [mk256_at _ t ht, mk256_at _ t ht]
  by_cases e : t = k
  · rw [if_pos e, if_pos (by omega), e]
  · rw [if_neg e]
    by_cases c : t < k
    · rw [if_pos c, if_pos (by omega)]
    · rw [if_neg c, if_neg (by omega)]
end Go.Proofs.Ytdannnkdapbefad
