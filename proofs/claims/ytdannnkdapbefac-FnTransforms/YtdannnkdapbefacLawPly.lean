/- The laws FnExactPolyAdd, FnExactPolySub, FnExactPolyMul, walked over the loaded program; what the project's function answers is a premise. -/
import Derived.Test.YtdannnkdapbefacPly4
import Derived.Test.YtdannnkdapbefacInts9
namespace Go.Proofs.Ytdannnkdapbefac
open Go.RowKit
theorem OwnV.lo {w : World} {base : Nat} {e : TypeId} {v : Value} {xs : List Value} (h : OwnV w base e v xs) : ∀ k, v.ownBlock = some k → base ≤ k ∧ k < w.heap.size := fun k hk => World.ownsRow.lt h k hk
theorem addL_len (a b : List Int) : (addL a b).length ≤ 256 := by
  unfold addL; split
  · rw [mk256_len]; exact Nat.le_refl _
  · exact Nat.zero_le _
theorem subL_len (a b : List Int) : (subL a b).length ≤ 256 := by
  unfold subL; split
  · rw [mk256_len]; exact Nat.le_refl _
  · exact Nat.zero_le _
theorem mulL_len (a b : List Int) : (mulL a b).length ≤ 256 := by
  unfold mulL; split
  · rw [mk256_len]; exact Nat.le_refl _
  · exact Nat.zero_le _
end Go.Proofs.Ytdannnkdapbefac
