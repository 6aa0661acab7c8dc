/- The laws FnExactNtt, FnExactInvNtt, FnExactMulNtt, walked over the loaded program; what the project's function answers is a premise. -/
import Derived.Test.YtdannnkdapbefadNtp5
import Derived.Test.YtdannnkdapbefadNtp6
import Derived.Test.YtdannnkdapbefadInts9
namespace Go.Proofs.Ytdannnkdapbefad
open Go.RowKit
theorem OwnV.loN {w : World} {base : Nat} {e : TypeId} {v : Value} {xs : List Value} (h : OwnV w base e v xs) : ∀ k, v.ownBlock = some k → base ≤ k ∧ k < w.heap.size := fun k hk => World.ownsRow.lt h k hk
theorem ok_le {l : List Int} (h : okPl l = true) : l.length ≤ 256 := by rw [(okPl_yes h).1]; exact Nat.le_refl _
theorem nttL_len (a : List Int) : (nttL a).length ≤ 256 := by
  by_cases h : okPl a = true
  · exact ok_le (nttL_ok h)
  · unfold nttL; rw [if_neg h]; exact Nat.zero_le _
theorem invL_len (a : List Int) : (invL a).length ≤ 256 := by
  by_cases h : okPl a = true
  · exact ok_le (invL_ok h)
  · unfold invL; rw [if_neg h]; exact Nat.zero_le _
theorem mnL_len (a b : List Int) : (mnL a b).length ≤ 256 := by
  by_cases h : bothP a b = true
  · exact ok_le (mnL_ok (bothP_yes h).1 (bothP_yes h).2)
  · unfold mnL; rw [if_neg h]; exact Nat.zero_le _
end Go.Proofs.Ytdannnkdapbefad
