/- The law of ReadVar, walked: at every text and place the two answers are the same. -/
import Derived.Test.YtoghcmcphfmcbaiReadVarS
namespace Go.Proofs.Ytoghcmcphfmcbai
open Go.RowKit

set_option maxHeartbeats 400000 in
theorem lawReadVar_any (s : ByteArray) (p : Int) (w : World) :
    Calls Try.prog 4 #[.string s, .int .i64 p] w fun e w' => e = .returned (.bool true) ∧ Below w.heap.size w w' := by
  by_cases hl : (1048576 : Int) < (s.size : Int)
  · go_enter Try.func4, Try.ntmps4
    go_wp2
    go_ret
    exact ⟨rfl, Below.refl _ _⟩
  · have hs : s.size ≤ 1048576 := by omega
    have hm : s.size ≤ maxLen := by unfold maxLen; omega
    by_cases h : p < 0 ∨ (s.size : Int) < p
    · have H := hide h
      clear h
      go_enter Try.func4, Try.ntmps4
      go_wp2_with (first
        | (go_at_call 8; refine (specReadVar_no s p _ (unhide H)).mono ?_; rintro e w1 ⟨rfl, rfl⟩; unfold rvTup)
        | (go_at_call 9; refine (implReadVar_no s p _ (unhide H)).mono ?_; rintro e w2 ⟨rfl, rfl⟩; unfold rvTup))
      go_ret
      exact ⟨rfl, Below.refl _ _⟩
    · obtain ⟨q, rfl⟩ := Int.eq_ofNat_of_zero_le (show 0 ≤ p by omega)
      have hq : q ≤ s.size := by omega
      clear h
      have c1 := fun W => specReadVar_yes s q W hs hq
      have c2 := fun W => implReadVar_yes s q W hm hq
      generalize rvRun s q q 1 0 = r at c1 c2
      have C1 := hide c1
      have C2 := hide c2
      clear c1 c2
      cases r with
      | none =>
        go_enter Try.func4, Try.ntmps4
        go_wp2_with (first
          | (go_at_call 8; refine ((unhide C1) _).mono ?_; rintro e w1 ⟨rfl, hb⟩; unfold rvTup)
          | (go_at_call 9; refine ((unhide C2) _).mono ?_; rintro e w2 ⟨rfl, rfl⟩; unfold rvTup))
        go_ret
        exact ⟨rfl, hb⟩
      | some x =>
        obtain ⟨n, j⟩ := x
        go_enter Try.func4, Try.ntmps4
        go_wp2_with (first
          | (go_at_call 8; refine ((unhide C1) _).mono ?_; rintro e w1 ⟨rfl, hb⟩; unfold rvTup)
          | (go_at_call 9; refine ((unhide C2) _).mono ?_; rintro e w2 ⟨rfl, rfl⟩; unfold rvTup))
        go_ret
        exact ⟨rfl, hb⟩
end Go.Proofs.Ytoghcmcphfmcbai
