/- What laws.markText comes to. -/
import Derived.Test.YtoodokjdialakaaDecimal
import Derived.Test.YtoodokjdialakaaStrs
namespace Go.Proofs.Ytoodokjdialakaa
open Go.RowKit

/-- The text of a mark. -/
def mkS (k : Nat) : ByteArray := ⟨(109 :: decB k).toArray⟩
theorem fig_ten {m : Nat} (h : m < 10) : fig m = byteOf (48 + m) := by unfold fig; rw [if_pos h]
theorem ret_m {t l : List UInt8} (h : t = l) : Ending.returned (.string (ByteArray.mk #[109] ++ ByteArray.mk t.toArray)) = .returned (.string ⟨(109 :: l).toArray⟩) := by rw [str_cons, h]



end Go.Proofs.Ytoodokjdialakaa
