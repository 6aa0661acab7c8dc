/- The law FnExactSmallOk, walked over the loaded program; what the project's function answers is a premise. -/
import Derived.Test.YtijkhdhapdoepasSok
namespace Go.Proofs.Ytijkhdhapdoepas
open Go.RowKit
set_option maxRecDepth 20000 in
set_option maxHeartbeats 400000 in
theorem lawSmallOk_any (a : List Int) (va : Value) (CI : a.length ≤ 1048576 → ∀ (W : World) (ua : Value), RdV W ua (a.map iv) → Calls Try.prog 10 #[ua] W fun x w' => x = .returned (.bool (smOk a)) ∧ Below W.heap.size W w') (w : World) (ra : RdV w va (a.map iv)) :
    Calls Try.prog 3 #[va] w fun x w' => x = .returned (.bool true) ∧ Below w.heap.size w w' := by
  have CS := hide (fun (W : World) (ua : Value) (h : RdV W ua (a.map iv)) => specSmallOk_any a ua W h)
  generalize smOk a = q at *
  have RA := hide (fun (W : World) (h : Below w.heap.size w W) => ra.below h)
  obtain ⟨a1, c1, rfl⟩ := ra.shape
  clear ra
  rw [List.length_map] at RA ⊢
  by_cases h1 : (1048576 : Int) < (a.length : Int)
  · go_enter Try.func3, Try.ntmps3
    go_wp2
    go_ret
    exact ⟨rfl, Below.refl _ _⟩
  have na : a.length ≤ 1048576 := by omega
  replace CI := hide (CI na)
  obtain ⟨n1, hn1⟩ : ∃ n, a.length = n := ⟨_, rfl⟩
  have TA := hide (fun (W : World) (h : Below w.heap.size w W) => toIntS_any a _ W (unhide RA W h) na)
  rw [hn1] at TA h1 na ⊢
  clear RA
  have HT0 := Below.refl w.heap.size w
  go_enter Try.func3, Try.ntmps3
  go_wp2_with fail
  refine ((unhide TA) w HT0).mono ?_
  rintro x w1 ⟨⟨p1, q1, rfl, o1⟩, hb1⟩
  have HT1 := HT0.trans (hb1.mono HT0.size)
  clear hb1
  go_wp2_with fail
  refine ((unhide CS) w1 _ o1.rdv).mono ?_
  rintro x w2 ⟨rfl, hw2⟩
  have hw2' := hw2.symm
  subst hw2'
  clear hw2
  go_wp2_with fail
  refine ((unhide TA) w1 HT1).mono ?_
  rintro x w3 ⟨⟨p3, q3, rfl, o3⟩, hb3⟩
  have HT3 := HT1.trans (hb3.mono HT1.size)
  clear hb3 o1
  go_wp2_with fail
  refine ((unhide CI) w3 _ o3.rdv).mono ?_
  rintro x w4 ⟨rfl, hb4⟩
  have HT4 := HT3.trans (hb4.mono HT3.size)
  have o4 := o3.below hb4
  clear hb4 o3
  go_wp2_with fail
  refine ((unhide TA) w4 HT4).mono ?_
  rintro x w5 ⟨⟨p5, q5, rfl, o5⟩, hb5⟩
  have HT5 := HT4.trans (hb5.mono HT4.size)
  have o6 := o4.below hb5
  clear hb5 o4
  go_wp2_with fail
  refine (eqIntS_any a _ _ w5 o6.rdv o5.rdv (by omega)).mono ?_
  rintro x w6 ⟨rfl, hb6⟩
  have HT6 := HT5.trans (hb6.mono HT5.size)
  clear hb6
  go_wp2
  go_ret
  exact ⟨rfl, HT6⟩
end Go.Proofs.Ytijkhdhapdoepas
