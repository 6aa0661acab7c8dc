/- More text comes, whatever the hasher is: both answers are the same. -/
import Derived.Test.YtkidgllmhdfgaabTwo
namespace Go.Proofs.Ytkidgllmhdfgaab
open Go.RowKit
def resH (a : Hs) (s : ByteArray) : Hs := if okH a = true ∧ a.ct + (s.size : Int) ≤ 1000000000 then moreH a s else a
theorem specMore_any2 (a : Hs) (s : ByteArray) (W : World) (h1 : a.st.size ≤ maxLen) (h2 : a.rs.size ≤ 1048576) (hs : s.size ≤ 1048576) :
    Calls Try.prog 16 #[hsv a, .string s] W fun e w' => e = .returned (hsv (resH a s)) ∧ Below W.heap.size W w' := by
  unfold resH
  by_cases hok : okH a = true
  · by_cases hc : a.ct + (s.size : Int) ≤ 1000000000
    · rw [if_pos ⟨hok, hc⟩]
      exact specMore_yes a s W h1 h2 (by omega) hok hc
    · rw [if_neg (fun h => hc h.2)]
      exact specMore_no a s W h1 (by unfold maxLen; omega) (by omega) (.inr ⟨hok, by omega⟩)
  · rw [if_neg (fun h => hok h.1)]
    exact specMore_no a s W h1 (by unfold maxLen; omega) (by omega) (.inl (by cases h : okH a with | true => exact absurd h hok | false => rfl))
theorem implMore_any2 (a : Hs) (s : ByteArray) (W : World) (h1 : a.st.size ≤ 1048576) (h2 : a.rs.size ≤ 1048576) (hs : s.size ≤ 1048576) :
    Calls Try.prog 10 #[hsv a, .string s] W fun e w' => e = .returned (hsv (resH a s)) ∧ Below W.heap.size W w' := by
  unfold resH
  by_cases hok : okH a = true
  · by_cases hc : a.ct + (s.size : Int) ≤ 1000000000
    · rw [if_pos ⟨hok, hc⟩]
      exact implMore_yes a s W (by unfold maxLen; omega) h2 hs hok hc
    · rw [if_neg (fun h => hc h.2)]
      exact implMore_no a s W (by omega) (by omega) hs (.inr ⟨hok, by omega⟩)
  · rw [if_neg (fun h => hok h.1)]
    exact implMore_no a s W (by omega) (by omega) hs (.inl (by cases h : okH a with | true => exact absurd h hok | false => rfl))
end Go.Proofs.Ytkidgllmhdfgaab
