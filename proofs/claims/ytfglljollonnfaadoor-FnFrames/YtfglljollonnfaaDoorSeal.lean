/- What Sealed of both sides comes to, over the loaded program. -/
import Derived.Test.YtfglljollonnfaaDoorSumB
import Derived.Lib.SmallJoins
namespace Go.Proofs.YtfglljollonnfaaDoor
open Go.RowKit

def sumOf (s : ByteArray) : Nat := crcL 4294967295 s.data.toList
theorem sumOf_lt (s : ByteArray) : sumOf s < 4294967296 := crcL_lt (by decide) _
def fourS (c : Nat) : ByteArray := ⟨(four c).toArray⟩
theorem fourS_size (c : Nat) : (fourS c).size = 4 := rfl


set_option maxHeartbeats 400000 in
theorem implSealed_any (s : ByteArray) (w : World) (hs : s.size ≤ 20000) (htab : Lib.TabIs Tryd.prog w "loop.example/g00186/impl.fourSteps" .u32 fourTab) :
    Calls Tryd.prog 19 #[.string s] w fun e w' => e = .returned (.tuple #[.string (s ++ fourS (sumOf s)), .bool true]) ∧ Below w.heap.size w w' := by
  have HTab := hide htab
  clear htab
  have hl := sumOf_lt s
  have C := hide (implMore_any 4294967295 (by decide) s w (by omega) (unhide HTab))
  change Hid (Calls _ _ _ _ fun e w' => e = .returned (.int .u32 (sumOf s : Int)) ∧ w' = w) at C
  generalize sumOf s = x at C hl
  have C2 := hide (implFour_any x hl w)
  have hx := fourS_size x
  change Hid (Calls _ _ _ _ fun e w' => e = .returned (.string (fourS x)) ∧ Below w.heap.size w w') at C2
  generalize fourS x = f at C2 hx
  go_enter Tryd.func19, Tryd.ntmps19
  go_wp2_with (first
    | (go_at_call 36; refine (unhide C).mono ?_; rintro e w1 ⟨rfl, rfl⟩)
    | (go_at_call 37; refine (unhide C2).mono ?_; rintro e w2 ⟨rfl, hb⟩))
  go_ret2
  exact ⟨rfl, hb⟩


set_option maxHeartbeats 400000 in
theorem implSealed_no (s : ByteArray) (w : World) (hs : (20000 : Int) < (s.size : Int)) :
    Calls Tryd.prog 19 #[.string s] w fun e w' => e = .returned (.tuple #[.string ⟨#[]⟩, .bool false]) ∧ w' = w := by
  go_enter Tryd.func19, Tryd.ntmps19
  go_wp2
  go_ret2
  exact ⟨rfl, rfl⟩

def Laid (w : World) : Prop := Lib.TabIs Tryd.prog w "loop.example/g00186/impl.fourSteps" .u32 fourTab
theorem gFour : Tryd.prog.globalNamed "loop.example/g00186/impl.fourSteps" = some 0 := by kernel_rfl
theorem Laid.below {w w' : World} (h : Laid w) (hb : Below w.heap.size w w') : Laid w' := Go.Joins.tab_stays gFour h hb (Nat.le_refl _)
end Go.Proofs.YtfglljollonnfaaDoor
