/- The law of Unframe, walked: at every file the two answers are the same, and what is answered owns its memory. -/
import Derived.Test.YtkbbcjnickgfjaaDoorUnfS
import Derived.Test.YtkbbcjnickgfjaaDoorMarks
import Derived.Lib.SmallJoins
namespace Go.Proofs.YtkbbcjnickgfjaaDoor
open Go.RowKit

theorem markS_one (v : Value) (base M : Nat) (xs : List Value) (w : World) (hM : M = 1 + xs.length) (hl : xs.length ≤ 4000) (hbase : base ≤ w.heap.size) (ho : OwnV w base 9 v xs) :
    Calls Tryd.prog 13 #[v, .int .i64 1] w fun e w' => e = .returned (.int .i64 (M : Int)) ∧ OwnV w' base 9 v (marks 1 xs.length) ∧ Below base w w' := by
  subst hM
  exact markS_any v base 1 xs w hl (Nat.le_refl _) (by omega) hbase ho
theorem heldS_one (v : Value) (base M n : Nat) (w : World) (hM : M = 1 + n) (hl : n ≤ 4000) (ho : OwnV w base 9 v (marks 1 n)) :
    Calls Tryd.prog 14 #[v, .int .i64 1] w fun e w' => e = .returned (.int .i64 (M : Int)) ∧ Below w.heap.size w w' := by
  subst hM
  exact heldS_any v base 1 n w hl (Nat.le_refl _) (by omega) ho

theorem recV_strv (l : List (ByteArray × Nat)) : l.map recV = (l.map fun x => x.1.data.toList).map strv := by
  rw [List.map_map]
  apply List.map_congr_left
  intro x _
  show Value.string x.1 = Value.string ⟨x.1.data.toList.toArray⟩
  simp
theorem unfL_len (s : ByteArray) : (unfL s).length ≤ 3333 := by
  unfold unfL
  split
  · have := frs_len s s.size 0 (Nat.zero_le _) (by omega); omega
  · simp

set_option maxRecDepth 20000 in
set_option maxHeartbeats 1000000 in
theorem lawUnframe_any (s : ByteArray) (w : World) (htab : Laid w) :
    Calls Tryd.prog 4 #[.string s] w fun e w' => e = .returned (.bool true) ∧ Below w.heap.size w w' := by
  by_cases hl : (1048576 : Int) < (s.size : Int)
  · clear htab
    go_enter Tryd.func4, Tryd.ntmps4
    go_wp2
    go_ret
    exact ⟨rfl, Below.refl _ _⟩
  · have HT := hide htab
    clear htab
    have hlen := unfL_len s
    have C1 : Hid (∀ W, Calls Tryd.prog 11 #[.string s] W fun e w' => UfEnd (unfL s) W e w') := fun W => specUnframe_any s W
    have C2 : Hid (∀ W, Laid W → Calls Tryd.prog 9 #[.string s] W fun e w' => UfEnd (unfL s) W e w') := fun W h => implUnframe_any s W h
    unfold UfEnd at C1 C2
    rw [recV_strv] at C1 C2
    have hlen2 : ((unfL s).map fun x => x.1.data.toList).length ≤ 3333 := by rw [List.length_map]; exact hlen
    clear hlen
    generalize ((unfL s).map fun x => x.1.data.toList) = l at hlen2 C1 C2
    generalize lastEnd 0 (unfL s) = b at C1 C2
    go_enter Tryd.func4, Tryd.ntmps4
    go_wp2_with fail
    refine ((unhide C1) _).mono ?_
    rintro e w1 ⟨v0, rfl, ho0, hb1⟩
    go_wp2_with fail
    refine ((unhide C2) _ ((unhide HT).below hb1)).mono ?_
    rintro e w2 ⟨vg, rfl, hog, hb2⟩
    have ho0' := ho0.below hb2
    go_wp2_with fail
    refine (eqS_any l vg v0 _ _ w2 (by omega) hog ho0').mono ?_
    rintro e w3 ⟨rfl, hb3⟩
    have hog3 := hog.below hb3
    have ho03 := ho0'.below hb3
    obtain ⟨M, hM⟩ : ∃ M : Nat, M = 1 + (l.map strv).length := ⟨_, rfl⟩
    have hM11 : M ≤ 3334 := by rw [hM, List.length_map]; omega
    have HM := hide hM
    clear hM
    have s12 := hb1.size
    have s23 := hb2.size
    have s34 := hb3.size
    go_wp2_with fail
    refine (markS_one vg _ M _ w3 (unhide HM) (by rw [List.length_map]; omega) (by omega) hog3).mono ?_
    rintro e w4 ⟨rfl, hom, hb4⟩
    have ho04 := ho03.below_at hb4 (fun g hg => (ho0.lt g hg).2)
    have s45 := hb4.size
    go_wp2_with fail
    refine (heldS_one vg _ M _ w4 (unhide HM) (by rw [List.length_map]; omega) hom).mono ?_
    rintro e w5 ⟨rfl, hb5⟩
    have ho05 := ho04.below hb5
    have hom5 := hom.below hb5
    have s56 := hb5.size
    have hbw5 : Below w.heap.size w w5 := (((hb1.trans (hb2.mono (by omega))).trans (hb3.mono (by omega))).trans (hb4.mono (by omega))).trans (hb5.mono (by omega))
    go_wp2_with fail
    refine ((unhide C2) _ ((unhide HT).below hbw5)).mono ?_
    rintro e w6 ⟨vh, rfl, hoh, hb6⟩
    have ho06 := ho05.below hb6
    have hom6 := hom5.below hb6
    have s67 := hb6.size
    go_wp2_with fail
    refine (eqS_any l vh v0 _ _ w6 (by omega) hoh ho06).mono ?_
    rintro e w7 ⟨rfl, hb7⟩
    have hom7 := hom6.below hb7
    have s78 := hb7.size
    go_wp2_with fail
    refine (heldS_one vg _ M _ w7 (unhide HM) (by rw [List.length_map]; omega) hom7).mono ?_
    rintro e w8 ⟨rfl, hb8⟩
    go_wp2
    go_ret
    exact ⟨rfl, ((hbw5.trans (hb6.mono (by omega))).trans (hb7.mono (by omega))).trans (hb8.mono (by omega))⟩
end Go.Proofs.YtkbbcjnickgfjaaDoor
