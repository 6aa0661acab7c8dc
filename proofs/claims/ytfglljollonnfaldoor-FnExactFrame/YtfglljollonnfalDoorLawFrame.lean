/- The law of Frame, walked: at every text the two answers are the same, where the table of impl's sums holds what its text lays. -/
import Derived.Test.YtfglljollonnfalDoorFrame
namespace Go.Proofs.YtfglljollonnfalDoor
open Go.RowKit

theorem frameRes_shape (s : ByteArray) : ∃ x b, frameRes s = .tuple #[.string x, .bool b] := by
  unfold frameRes
  split
  · exact ⟨_, _, rfl⟩
  · exact ⟨_, _, rfl⟩

set_option maxHeartbeats 400000 in
theorem lawFrame_any (s : ByteArray) (w : World) (htab : Laid w) :
    Calls Tryd.prog 3 #[.string s] w fun e w' => e = .returned (.bool true) ∧ Below w.heap.size w w' := by
  have HTab := hide htab
  clear htab
  by_cases hl : (1048576 : Int) < (s.size : Int)
  · go_enter Tryd.func3, Tryd.ntmps3
    go_wp2
    go_ret
    exact ⟨rfl, Below.refl _ _⟩
  · have C1 := hide (specFrame_any s w)
    have C2 : Hid (∀ W, Laid W → Calls Tryd.prog 5 #[.string s] W fun e w' => e = .returned (frameRes s) ∧ Below W.heap.size W w') := fun W h => implFrame_any s W h
    obtain ⟨x, b, hx⟩ := frameRes_shape s
    rw [hx] at C1 C2
    go_enter Tryd.func3, Tryd.ntmps3
    go_wp2_with (first
      | (go_at_call 4; refine (unhide C1).mono ?_; rintro e w1 ⟨rfl, hb1⟩)
      | (go_at_call 5; refine ((unhide C2) _ ((unhide HTab).below hb1)).mono ?_; rintro e w2 ⟨rfl, hb2⟩))
    go_ret
    exact ⟨rfl, hb1.trans (hb2.mono hb1.size)⟩
end Go.Proofs.YtfglljollonnfalDoor
