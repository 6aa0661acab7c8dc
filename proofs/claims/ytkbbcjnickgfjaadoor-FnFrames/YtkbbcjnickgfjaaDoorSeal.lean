/- What Sealed of both sides comes to, over the loaded program. -/
import Derived.Test.YtkbbcjnickgfjaaDoorSumB
import Derived.Lib.SmallJoins
namespace Go.Proofs.YtkbbcjnickgfjaaDoor
open Go.RowKit

def sumOf (s : ByteArray) : Nat := crcL 4294967295 s.data.toList
theorem sumOf_lt (s : ByteArray) : sumOf s < 4294967296 := crcL_lt (by decide) _
def fourS (c : Nat) : ByteArray := ⟨(four c).toArray⟩
theorem fourS_size (c : Nat) : (fourS c).size = 4 := rfl





def Laid (w : World) : Prop := Lib.TabIs Tryd.prog w "loop.example/g00186/impl.fourSteps" .u32 fourTab
theorem gFour : Tryd.prog.globalNamed "loop.example/g00186/impl.fourSteps" = some 0 := by kernel_rfl
theorem Laid.below {w w' : World} (h : Laid w) (hb : Below w.heap.size w w') : Laid w' := Go.Joins.tab_stays gFour h hb (Nat.le_refl _)
end Go.Proofs.YtkbbcjnickgfjaaDoor
