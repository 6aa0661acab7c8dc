/- The laws FnExactChop, FnExactChainOf, FnExactDigitsOf, over the loaded program, the project's functions as premises. -/
import Derived.Test.YtfjfjiolmadbaatChn2
import Derived.Test.YtfjfjiolmadbaatInts9
namespace Go.Proofs.Ytfjfjiolmadbaat
open Go.RowKit
set_option maxRecDepth 20000 in
theorem lawChop_any (s : ByteArray) (w : World) (CI : s.size ≤ 1048576 → ∀ W : World, Below w.heap.size w W → Calls Try.prog 8 #[.string s] W fun e w' => e = .returned (.string (chopB s)) ∧ Below W.heap.size W w') :
    Calls Try.prog 3 #[.string s] w fun e w' => e = .returned (.bool true) ∧ Below w.heap.size w w' := by
  by_cases h1 : (1048576 : Int) < (s.size : Int)
  · go_enter Try.func3, Try.ntmps3
    go_wp2
    go_ret
    exact ⟨rfl, Below.refl _ _⟩
  have ns : s.size ≤ 1048576 := by omega
  have CS := hide (specChop_any s (by omega) w)
  replace CI := hide (CI ns)
  generalize chopB s = q at *
  go_enter Try.func3, Try.ntmps3
  go_wp2_with fail
  refine (unhide CS).mono ?_
  rintro e w1 ⟨rfl, hb1⟩
  go_wp2_with fail
  refine (unhide CI w1 hb1).mono ?_
  rintro e w2 ⟨rfl, hb2⟩
  have hT := hb1.trans (hb2.mono hb1.size)
  clear CS CI hb1 hb2
  go_wp2
  go_ret
  exact ⟨rfl, hT⟩
set_option maxRecDepth 20000 in
theorem lawChainOf_any (x : ByteArray) (a b c d : Int) (w : World) (CI : x.size ≤ 1048576 → ∀ W : World, Below w.heap.size w W → Calls Try.prog 10 #[.string x, .int .i64 a, .int .i64 b, .int .i64 c, .int .i64 d] W fun e w' => e = .returned (.string (chnB x a b c (stepsN d))) ∧ Below W.heap.size W w') :
    Calls Try.prog 4 #[.string x, .int .i64 a, .int .i64 b, .int .i64 c, .int .i64 d] w fun e w' => e = .returned (.bool true) ∧ Below w.heap.size w w' := by
  by_cases h1 : (1048576 : Int) < (x.size : Int)
  · go_enter Try.func4, Try.ntmps4
    go_wp2
    go_ret
    exact ⟨rfl, Below.refl _ _⟩
  have ns : x.size ≤ 1048576 := by omega
  have CS := hide (specChain_any x a b c d ns w)
  replace CI := hide (CI ns)
  generalize chnB x a b c (stepsN d) = q at *
  go_enter Try.func4, Try.ntmps4
  go_wp2_with fail
  refine (unhide CS).mono ?_
  rintro e w1 ⟨rfl, hb1⟩
  go_wp2_with fail
  refine (unhide CI w1 hb1).mono ?_
  rintro e w2 ⟨rfl, hb2⟩
  have hT := hb1.trans (hb2.mono hb1.size)
  clear CS CI hb1 hb2
  go_wp2
  go_ret
  exact ⟨rfl, hT⟩
set_option maxRecDepth 20000 in
set_option maxHeartbeats 1000000 in
theorem lawDigitsOf_any {T : TypeId} (m : ByteArray) (w : World) (CI : m.size ≤ 1048576 → ∀ W : World, Below w.heap.size w W → Calls Try.prog 12 #[.string m] W fun e w' => (∃ v, e = .returned v ∧ OwnV w' W.heap.size T v ((digL m).map iv)) ∧ Below W.heap.size W w') :
    Calls Try.prog 5 #[.string m] w fun e w' => e = .returned (.bool true) ∧ Below w.heap.size w w' := by
  by_cases h1 : (1048576 : Int) < (m.size : Int)
  · go_enter Try.func5, Try.ntmps5
    go_wp2
    go_ret
    exact ⟨rfl, Below.refl _ _⟩
  have ns : m.size ≤ 1048576 := by omega
  have CS := hide (specDigits_any m (by omega) w)
  replace CI := hide (CI ns)
  have hxl := digL_len m
  generalize digL m = xs at *
  go_enter Try.func5, Try.ntmps5
  go_wp2_with fail
  refine (unhide CS).mono ?_
  rintro e w1 ⟨⟨vS, rfl, oS⟩, hb1⟩
  have rS1 := oS.rdv
  have bS := fun k hk => (oS.lt k hk).2
  clear oS CS
  go_wp2_with fail
  refine (unhide CI w1 hb1).mono ?_
  rintro e w2 ⟨⟨vG, rfl, oG2⟩, hb2⟩
  have HT2 := hb1.trans (hb2.mono hb1.size)
  have bG := fun k hk => (oG2.lt k hk).1
  have rS2 := rS1.below hb2
  have z1 := hb1.size
  clear rS1 hb2 hb1
  go_wp2_with fail
  refine (eqIntS_any xs _ _ w2 oG2.rdv rS2 (by omega)).mono ?_
  rintro e w3 ⟨rfl, hb3⟩
  have HT3 := HT2.trans (hb3.mono HT2.size)
  have rS3 := rS2.below hb3
  have oG3 := oG2.below hb3
  clear rS2 oG2 hb3 HT2
  have hM3 : 11 = 1 + (xs.map iv).length := by rw [List.length_map, hxl]
  have K3 := hide (markIntS_own _ w1.heap.size 1 11 _ w3 hM3 (by rw [List.length_map]; omega) (by omega) oG3)
  rw [show ((1 : Nat) : Int) = 1 from rfl, List.length_map, hxl] at K3
  have K4 := hide (fun (W : World) (h : RdV W vG (mkI 1 10)) => heldIntS_any vG 1 10 11 W rfl (by omega) (by omega) h)
  rw [show ((1 : Nat) : Int) = 1 from rfl] at K4
  replace hM3 := hide hM3
  go_wp2_with fail
  refine (unhide K3).mono ?_
  rintro e w4 ⟨rfl, oG4, hg4⟩
  have rS4 := rS3.grown hg4 (fun k hk h => by have h1 := bS k hk; have h2 := bG k h; omega)
  have HT4 := HT3.grown hg4 HT3.size (fun k hk => by have h2 := bG k hk; omega)
  clear rS3 oG3 hg4 K3 HT3
  go_wp2_with fail
  refine ((unhide K4) w4 oG4.rdv).mono ?_
  rintro e w5 ⟨rfl, hw5⟩
  have hw5' := hw5.symm
  subst hw5'
  clear hw5
  go_wp2_with fail
  refine (unhide CI w4 HT4).mono ?_
  rintro e w6 ⟨⟨vH, rfl, oH6⟩, hb6⟩
  have HT6 := HT4.trans (hb6.mono HT4.size)
  have rS6 := rS4.below hb6
  have oG6 := oG4.below hb6
  clear rS4 oG4 hb6 HT4 CI
  go_wp2_with fail
  refine (eqIntS_any xs _ _ w6 oH6.rdv rS6 (by omega)).mono ?_
  rintro e w7 ⟨rfl, hb7⟩
  have HT7 := HT6.trans (hb7.mono HT6.size)
  have oG7 := oG6.below hb7
  clear rS6 oH6 oG6 hb7 HT6
  go_wp2_with fail
  refine ((unhide K4) w7 oG7.rdv).mono ?_
  rintro e w8 ⟨rfl, hw8⟩
  have hw8' := hw8.symm
  subst hw8'
  clear hw8 K4
  go_wp2
  go_ret
  exact ⟨rfl, HT7⟩
end Go.Proofs.Ytfjfjiolmadbaat
