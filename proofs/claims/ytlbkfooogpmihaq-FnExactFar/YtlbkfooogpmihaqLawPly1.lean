/- The laws FnExactPowQ, FnExactPolyOk, FnExactTurn7, FnExactFar, walked over the loaded program; what the project's function answers is a premise. -/
import Derived.Test.YtlbkfooogpmihaqPly2
import Derived.Test.YtlbkfooogpmihaqPly5
namespace Go.Proofs.Ytlbkfooogpmihaq
open Go.RowKit
set_option maxRecDepth 20000 in
set_option maxHeartbeats 400000 in
theorem lawFar_any (a b : List Int) (va vb : Value) (CI : a.length ≤ 1048576 → b.length ≤ 1048576 → ∀ (W : World) (ua ub : Value), RdV W ua (a.map iv) → RdV W ub (b.map iv) → Calls Try.prog 9 #[ua, ub] W fun x w' => x = .returned (.int .i64 (farL a b)) ∧ Below W.heap.size W w') (w : World) (ra : RdV w va (a.map iv)) (rb : RdV w vb (b.map iv)) :
    Calls Try.prog 3 #[va, vb] w fun x w' => x = .returned (.bool true) ∧ Below w.heap.size w w' := by
  have CS := hide (fun (W : World) (ua ub : Value) (h1 : RdV W ua (a.map iv)) (h2 : RdV W ub (b.map iv)) => specFar_any a b ua ub W h1 h2)
  generalize farL a b = q at *
  have RA := hide (fun (W : World) (h : Below w.heap.size w W) => ra.below h)
  have RB := hide (fun (W : World) (h : Below w.heap.size w W) => rb.below h)
  obtain ⟨a1, c1, rfl⟩ := ra.shape
  obtain ⟨a2, c2, rfl⟩ := rb.shape
  clear ra rb
  rw [List.length_map] at RA ⊢
  rw [List.length_map] at RB ⊢
  by_cases h1 : (1048576 : Int) < (a.length : Int)
  · go_enter Try.func3, Try.ntmps3
    go_wp2
    go_ret
    exact ⟨rfl, Below.refl _ _⟩
  by_cases h2 : (1048576 : Int) < (b.length : Int)
  · go_enter Try.func3, Try.ntmps3
    go_wp2
    go_ret
    exact ⟨rfl, Below.refl _ _⟩
  have na : a.length ≤ 1048576 := by omega
  have nb : b.length ≤ 1048576 := by omega
  replace CI := hide (CI na nb)
  obtain ⟨n1, hn1⟩ : ∃ n, a.length = n := ⟨_, rfl⟩
  obtain ⟨n2, hn2⟩ : ∃ n, b.length = n := ⟨_, rfl⟩
  have TA := hide (fun (W : World) (h : Below w.heap.size w W) => toIntS_any a _ W (unhide RA W h) na)
  have TB := hide (fun (W : World) (h : Below w.heap.size w W) => toIntS_any b _ W (unhide RB W h) nb)
  rw [hn1] at TA h1 na ⊢
  rw [hn2] at TB h2 nb ⊢
  clear RA RB
  have HT0 := Below.refl w.heap.size w
  go_enter Try.func3, Try.ntmps3
  go_wp2_with fail
  refine ((unhide TA) w HT0).mono ?_
  rintro x w1 ⟨⟨p1, q1, rfl, o1⟩, hb1⟩
  have HT1 := HT0.trans (hb1.mono HT0.size)
  clear hb1
  go_wp2_with fail
  refine ((unhide TB) w1 HT1).mono ?_
  rintro x w2 ⟨⟨p2, q2, rfl, o2⟩, hb2⟩
  have HT2 := HT1.trans (hb2.mono HT1.size)
  have o1' := o1.below hb2
  clear hb2 o1
  go_wp2_with fail
  refine ((unhide CS) w2 _ _ o1'.rdv o2.rdv).mono ?_
  rintro x w3 ⟨rfl, hb3⟩
  have HT3 := HT2.trans (hb3.mono HT2.size)
  clear hb3 o1' o2
  go_wp2_with fail
  refine ((unhide TA) w3 HT3).mono ?_
  rintro x w4 ⟨⟨p4, q4, rfl, o4⟩, hb4⟩
  have HT4 := HT3.trans (hb4.mono HT3.size)
  clear hb4
  go_wp2_with fail
  refine ((unhide TB) w4 HT4).mono ?_
  rintro x w5 ⟨⟨p5, q5, rfl, oY5⟩, hb5⟩
  have HT5 := HT4.trans (hb5.mono HT4.size)
  have oX5 := o4.below hb5
  clear hb5 o4
  go_wp2_with fail
  refine ((unhide CI) w5 _ _ oX5.rdv oY5.rdv).mono ?_
  rintro x w6 ⟨rfl, hb6⟩
  have HT6 := HT5.trans (hb6.mono HT5.size)
  have oX6 := oX5.below hb6
  have oY6 := oY5.below hb6
  clear hb6 oX5 oY5
  go_wp2_with fail
  refine ((unhide TA) w6 HT6).mono ?_
  rintro x w7 ⟨⟨p7, q7, rfl, o7⟩, hb7⟩
  have HT7 := HT6.trans (hb7.mono HT6.size)
  have oX7 := oX6.below hb7
  have oY7 := oY6.below hb7
  clear hb7 oX6 oY6
  go_wp2_with fail
  refine (eqIntS_any a _ _ w7 oX7.rdv o7.rdv (by omega)).mono ?_
  rintro x w8 ⟨rfl, hb8⟩
  have HT8 := HT7.trans (hb8.mono HT7.size)
  have oY8 := oY7.below hb8
  clear hb8 oX7 oY7 o7
  go_wp2_with fail
  refine ((unhide TB) w8 HT8).mono ?_
  rintro x w9 ⟨⟨p9, q9, rfl, o9⟩, hb9⟩
  have HT9 := HT8.trans (hb9.mono HT8.size)
  have oY9 := oY8.below hb9
  clear hb9 oY8
  go_wp2_with fail
  refine (eqIntS_any b _ _ w9 oY9.rdv o9.rdv (by omega)).mono ?_
  rintro x w10 ⟨rfl, hb10⟩
  have HT10 := HT9.trans (hb10.mono HT9.size)
  clear hb10
  go_wp2
  go_ret
  exact ⟨rfl, HT10⟩
end Go.Proofs.Ytlbkfooogpmihaq
