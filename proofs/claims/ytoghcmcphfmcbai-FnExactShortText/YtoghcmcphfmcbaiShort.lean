/- What spec.ShortText and impl.ShortText come to, and the law of the two, walked. -/
import Derived.Test.YtoghcmcphfmcbaiVar
namespace Go.Proofs.Ytoghcmcphfmcbai
open Go.RowKit

set_option maxHeartbeats 400000 in
theorem lawShort_any (s : ByteArray) (w : World) :
    Calls Try.prog 5 #[.string s] w fun e w' => e = .returned (.bool true) ∧ Below w.heap.size w w' := by
  by_cases hl : (1048576 : Int) < (s.size : Int)
  · go_enter Try.func5, Try.ntmps5
    go_wp2
    go_ret
    exact ⟨rfl, Below.refl _ _⟩
  · by_cases ht : (20000 : Int) < (s.size : Int)
    · go_enter Try.func5, Try.ntmps5
      go_wp2
      go_ret
      exact ⟨rfl, Below.refl _ _⟩
    · have hv := varB_len s.size
      have hvl : (varB s.size).length ≤ 20001 := by omega
      go_enter Try.func5, Try.ntmps5
      go_wp2_with (first
        | (go_at_call 13; refine (l01Var_any s.size _ (by omega)).mono ?_; rintro e w1 ⟨rfl, hb1⟩)
        | (go_at_call 7; refine (implVar_yes s.size _ (by omega)).mono ?_; rintro e w2 ⟨rfl, hb2⟩)
        | go_in)
      go_ret
      exact ⟨rfl, hb1.trans (hb2.mono hb1.size)⟩
end Go.Proofs.Ytoghcmcphfmcbai
