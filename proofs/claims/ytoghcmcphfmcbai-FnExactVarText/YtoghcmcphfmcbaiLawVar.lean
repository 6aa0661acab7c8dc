/- The law of VarText, walked: at every number the two answers are the same. -/
import Derived.Test.YtoghcmcphfmcbaiVar
namespace Go.Proofs.Ytoghcmcphfmcbai
open Go.RowKit

set_option maxHeartbeats 400000 in
theorem lawVar_any (n : Int) (w : World) :
    Calls Try.prog 3 #[.int .i64 n] w fun e w' => e = .returned (.bool true) ∧ Below w.heap.size w w' := by
  by_cases h : 0 ≤ n ∧ n ≤ 1000000000
  · obtain ⟨m, rfl⟩ := Int.eq_ofNat_of_zero_le h.1
    have hm : m ≤ 1000000000 := by omega
    clear h
    go_enter Try.func3, Try.ntmps3
    go_wp2_with (first
      | (go_at_call 6; refine (specVar_yes m _ hm).mono ?_; rintro e w1 ⟨rfl, hb1⟩)
      | (go_at_call 7; refine (implVar_yes m _ hm).mono ?_; rintro e w2 ⟨rfl, hb2⟩))
    go_ret
    exact ⟨rfl, hb1.trans (hb2.mono hb1.size)⟩
  · have hm : n < 0 ∨ 1000000000 < n := by omega
    go_enter Try.func3, Try.ntmps3
    go_wp2_with (first
      | (go_at_call 6; refine (specVar_no n _ hm).mono ?_; rintro e w1 ⟨rfl, rfl⟩)
      | (go_at_call 7; refine (implVar_no n _ hm).mono ?_; rintro e w2 ⟨rfl, rfl⟩))
    go_ret
    exact ⟨rfl, Below.refl _ _⟩
end Go.Proofs.Ytoghcmcphfmcbai
