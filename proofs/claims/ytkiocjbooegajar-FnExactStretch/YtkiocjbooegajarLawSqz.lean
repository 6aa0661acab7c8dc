/- The laws FnExactSqueeze, FnExactStretch, walked over the loaded program; what the project's function answers is a premise. -/
import Derived.Test.YtkiocjbooegajarPck1
namespace Go.Proofs.Ytkiocjbooegajar
open Go.RowKit
theorem lawSqueeze_any (b e : Int) (CI : ∀ W : World, Calls Try.prog 6 #[.int .i64 b, .int .i64 e] W fun x w' => x = .returned (.int .i64 (sqzZ b e)) ∧ Below W.heap.size W w') (w : World) :
    Calls Try.prog 3 #[.int .i64 b, .int .i64 e] w fun x w' => x = .returned (.bool true) ∧ Below w.heap.size w w' := by
  have CS := hide (specSqueeze_any b e w)
  replace CI := hide (CI w)
  generalize sqzZ b e = r at *
  go_enter Try.func3, Try.ntmps3
  go_wp2_with fail
  refine (unhide CS).mono ?_
  rintro x w1 ⟨rfl, hw1⟩
  have hw2 := hw1.symm
  subst hw2
  clear hw1
  go_wp2_with fail
  refine (unhide CI).mono ?_
  rintro x w2 ⟨rfl, hb2⟩
  go_wp2
  go_ret
  exact ⟨rfl, hb2⟩
theorem lawStretch_any (b e : Int) (CI : ∀ W : World, Calls Try.prog 8 #[.int .i64 b, .int .i64 e] W fun x w' => x = .returned (.int .i64 (strZ b e)) ∧ Below W.heap.size W w') (w : World) :
    Calls Try.prog 4 #[.int .i64 b, .int .i64 e] w fun x w' => x = .returned (.bool true) ∧ Below w.heap.size w w' := by
  have CS := hide (specStretch_any b e w)
  replace CI := hide (CI w)
  generalize strZ b e = r at *
  go_enter Try.func4, Try.ntmps4
  go_wp2_with fail
  refine (unhide CS).mono ?_
  rintro x w1 ⟨rfl, hw1⟩
  have hw2 := hw1.symm
  subst hw2
  clear hw1
  go_wp2_with fail
  refine (unhide CI).mono ?_
  rintro x w2 ⟨rfl, hb2⟩
  go_wp2
  go_ret
  exact ⟨rfl, hb2⟩
end Go.Proofs.Ytkiocjbooegajar
