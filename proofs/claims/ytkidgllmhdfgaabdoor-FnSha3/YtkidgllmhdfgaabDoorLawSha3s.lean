/- The law FnSha3, walked over the loaded program. -/
import Derived.Test.YtkidgllmhdfgaabDoorDrawJ
import Derived.Test.YtkidgllmhdfgaabDoorLawSpg
namespace Go.Proofs.YtkidgllmhdfgaabDoor
open Go.RowKit
set_option maxRecDepth 20000 in
set_option maxHeartbeats 400000 in
theorem lawSha3s_any (w : World) (o : Option Addr) (n c : Nat) (hs : Src w w.heap.size o n) (hL : Laid w) :
    Calls Tryd.prog 5 #[.slice o n c] w fun e w' => e = .returned (.bool true) ∧ Below w.heap.size w w' := by
  have HS := hide hs
  have HL := hide hL
  clear hs hL
  by_cases hbig : (1048576 : Int) < (n : Int)
  · have hd : decide ((1048576 : Int) < (n : Int)) = true := by rw [decide_eq_true_iff]; exact hbig
    go_enter Tryd.func5, Tryd.ntmps5
    go_wp2_with (go_at_call 6; refine (big_any w o n c).mono ?_; rintro e w1 ⟨rfl, rfl⟩)
    go_ret
    exact ⟨rfl, Below.refl _ _⟩
  · have hd : decide ((1048576 : Int) < (n : Int)) = false := by rw [decide_eq_false_iff_not]; exact hbig
    have hn : n ≤ 1048576 := by omega
    go_enter Tryd.func5, Tryd.ntmps5
    go_wp2_with fail
    refine (big_any w o n c).mono ?_
    rintro e w0 ⟨rfl, hw0⟩
    have hw0' := hw0.symm
    subst hw0'
    clear hw0
    go_wp2_with fail
    refine (drawSha3_any w o n c (unhide HS) hn).mono ?_
    rintro e w1 ⟨s, hsz, rfl, hb1⟩
    have hL1 := (unhide HL).below hb1
    have hs1 := hb1.size
    have C1 := hide (fun W hL => implSha3_any s (by omega) W hL)
    have C2 := hide (fun W => specSha3_any s (by omega) W)
    have hdz : ((textN (absorbL s 136 6)).extract 0 32).size = 32 := by rw [ByteArray.size_extract, textN_size (absorbL_ok s 136 6).1]; rfl
    generalize (textN (absorbL s 136 6)).extract 0 32 = dg at *
    replace hb1 := hide hb1
    go_wp2_with fail
    refine ((unhide C1) w1 hL1).mono ?_
    rintro e w2 ⟨rfl, hb2⟩
    have hs2 := hb2.size
    have hL2 := hL1.below hb2
    have HB2 := hide ((unhide hb1).trans (hb2.mono hs1))
    clear hb1 hb2
    have hs02 := (unhide HB2).size
    go_wp2_with fail
    refine ((unhide C2) w2).mono ?_
    rintro e w3 ⟨rfl, hb3⟩
    have hL3 := hL2.below hb3
    have hs3 := hb3.size
    have HB3 := hide ((unhide HB2).trans (hb3.mono hs02))
    clear HB2 hb3
    go_wp2_with fail
    refine ((unhide C1) w3 hL3).mono ?_
    rintro e w4 ⟨rfl, hb4⟩
    have HB4 := hide ((unhide HB3).trans (hb4.mono (by omega)))
    clear HB3 hb4
    go_wp2
    go_ret
    exact ⟨rfl, unhide HB4⟩
end Go.Proofs.YtkidgllmhdfgaabDoor
