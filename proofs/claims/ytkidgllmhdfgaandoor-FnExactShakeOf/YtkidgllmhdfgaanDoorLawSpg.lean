/- The laws of one function each: Permute, Sha3Of, ShakeOf; over the loaded program. -/
import Derived.Test.YtkidgllmhdfgaanDoorSpk8
namespace Go.Proofs.YtkidgllmhdfgaanDoor
open Go.RowKit
set_option maxRecDepth 20000 in
set_option maxHeartbeats 400000 in
theorem specShake_yes (s : ByteArray) (hs : s.size ≤ 10000000) (n : Nat) (hn : n ≤ 4000) (w : World) :
    Calls Tryd.prog 8 #[.string s, .int .i64 (n : Int)] w fun e w' => e = .returned (.tuple #[.string ⟨(shakeL s n).toArray⟩, .bool true]) ∧ Below w.heap.size w w' := by
  have C0 := hide (fun W => in_any (n : Int) 0 4000 W)
  rw [show (decide (0 ≤ (n : Int)) && decide ((n : Int) ≤ 4000)) = true by simp; omega] at C0
  have C1 := hide (fun W => specStreamNew_any s hs W)
  have hok := absorbL_ok s 168 31
  have C2 : Hid (∀ W, Calls Tryd.prog 20 #[smv (newS s), .int .i64 (n : Int)] W fun e w' => e = .returned (.tuple #[smv ⟨textN (endS (textN (absorbL s 168 31)) 0 n).a, ((endS (textN (absorbL s 168 31)) 0 n).p : Int)⟩, .string ⟨(endS (textN (absorbL s 168 31)) 0 n).out.toArray⟩]) ∧ Below W.heap.size W w') := hide (fun W => specTake_yes (textN (absorbL s 168 31)) 0 n (textN_size hok.1) (by decide) hn W)
  have HE : Hid (shakeL s n = (endS (textN (absorbL s 168 31)) 0 n).out) := hide (by unfold shakeL endS; rw [lanes_text hok])
  generalize endS (textN (absorbL s 168 31)) 0 n = ge at *
  obtain ⟨ga, gp, go⟩ := ge
  dsimp only at *
  generalize textN ga = tga at *
  generalize newS s = ns at *
  obtain ⟨nst, np⟩ := ns
  unfold smv at C1 C2
  dsimp only at C1 C2
  clear hok
  go_enter Tryd.func8, Tryd.ntmps8
  go_wp2_with fail
  refine ((unhide C0) w).mono ?_
  rintro e w0 ⟨rfl, rfl⟩
  go_wp2_with fail
  refine ((unhide C1) w0).mono ?_
  rintro e w1 ⟨rfl, hb1⟩
  go_wp2_with fail
  refine ((unhide C2) w1).mono ?_
  rintro e w2 ⟨rfl, hb2⟩
  have hs1 := hb1.size
  have hs2 := hb2.size
  have HT := hide (hb1.trans (hb2.mono hs1))
  clear hb1 hb2
  go_wp2
  go_ret2
  refine ⟨by rw [unhide HE]; rfl, ?_⟩
  exact (unhide HT).alloc (by omega) _
set_option maxRecDepth 20000 in
theorem specShake_no (s : ByteArray) (n : Int) (hn : ¬ (0 ≤ n ∧ n ≤ 4000)) (w : World) :
    Calls Tryd.prog 8 #[.string s, .int .i64 n] w fun e w' => e = .returned (.tuple #[.string ⟨#[]⟩, .bool false]) ∧ Below w.heap.size w w' := by
  have C0 := hide (fun W => in_any n 0 4000 W)
  rw [show (decide (0 ≤ n) && decide (n ≤ 4000)) = false by simp; omega] at C0
  go_enter Tryd.func8, Tryd.ntmps8
  go_wp2_with fail
  refine ((unhide C0) w).mono ?_
  rintro e w0 ⟨rfl, rfl⟩
  go_wp2
  go_ret2
  exact ⟨rfl, Below.refl _ _⟩
set_option maxRecDepth 20000 in
theorem lawPermute_true (s : ByteArray) (w : World) (hL : Laid w) :
    Calls Tryd.prog 3 #[.string s] w fun e w' => e = .returned (.bool true) ∧ Below w.heap.size w w' := by
  by_cases hs : (1048576 : Int) < (s.size : Int)
  · go_enter Tryd.func3, Tryd.ntmps3
    go_wp2
    go_ret
    exact ⟨rfl, Below.refl _ _⟩
  · have C1 := hide (fun W => specPermute_any s W)
    have C2 := hide (fun W hL => implPermute_any s (by omega) W hL)
    generalize permT s = out at *
    have HL := hide hL
    clear hL
    go_enter Tryd.func3, Tryd.ntmps3
    go_wp2_with fail
    refine ((unhide C1) w).mono ?_
    rintro e w1 ⟨rfl, hb1⟩
    have hs1 := hb1.size
    have hL1 := hide ((unhide HL).below hb1)
    go_wp2_with fail
    refine ((unhide C2) w1 (unhide hL1)).mono ?_
    rintro e w2 ⟨rfl, hb2⟩
    have HT := hide (hb1.trans (hb2.mono hs1))
    clear hb1 hb2
    go_wp2
    go_ret
    exact ⟨rfl, unhide HT⟩
set_option maxRecDepth 20000 in
theorem lawSha3_true (s : ByteArray) (w : World) (hL : Laid w) :
    Calls Tryd.prog 5 #[.string s] w fun e w' => e = .returned (.bool true) ∧ Below w.heap.size w w' := by
  by_cases hs : (1048576 : Int) < (s.size : Int)
  · go_enter Tryd.func5, Tryd.ntmps5
    go_wp2
    go_ret
    exact ⟨rfl, Below.refl _ _⟩
  · have C1 := hide (fun W => specSha3_any s (by omega) W)
    have C2 := hide (fun W hL => implSha3_any s (by omega) W hL)
    generalize (textN (absorbL s 136 6)).extract 0 32 = out at *
    have HL := hide hL
    clear hL
    go_enter Tryd.func5, Tryd.ntmps5
    go_wp2_with fail
    refine ((unhide C1) w).mono ?_
    rintro e w1 ⟨rfl, hb1⟩
    have hs1 := hb1.size
    have hL1 := hide ((unhide HL).below hb1)
    go_wp2_with fail
    refine ((unhide C2) w1 (unhide hL1)).mono ?_
    rintro e w2 ⟨rfl, hb2⟩
    have HT := hide (hb1.trans (hb2.mono hs1))
    clear hb1 hb2
    go_wp2
    go_ret
    exact ⟨rfl, unhide HT⟩
set_option maxRecDepth 20000 in
theorem lawShake_true (s : ByteArray) (n : Int) (w : World) (hL : Laid w) :
    Calls Tryd.prog 4 #[.string s, .int .i64 n] w fun e w' => e = .returned (.bool true) ∧ Below w.heap.size w w' := by
  by_cases hs : (1048576 : Int) < (s.size : Int)
  · go_enter Tryd.func4, Tryd.ntmps4
    go_wp2
    go_ret
    exact ⟨rfl, Below.refl _ _⟩
  · obtain ⟨out, ok, C1, C2⟩ : ∃ (out : ByteArray) (ok : Bool), Hid (∀ W, Calls Tryd.prog 8 #[.string s, .int .i64 n] W fun e w' => e = .returned (.tuple #[.string out, .bool ok]) ∧ Below W.heap.size W w') ∧ Hid (∀ W, Laid W → Calls Tryd.prog 9 #[.string s, .int .i64 n] W fun e w' => e = .returned (.tuple #[.string out, .bool ok]) ∧ Below W.heap.size W w') := by
      by_cases hn : 0 ≤ n ∧ n ≤ 4000
      · obtain ⟨m, rfl⟩ : ∃ m : Nat, n = (m : Int) := ⟨n.toNat, by omega⟩
        exact ⟨_, _, hide (fun W => specShake_yes s (by omega) m (by omega) W), hide (fun W hL => implShake_yes s (by omega) m (by omega) W hL)⟩
      · exact ⟨_, _, hide (fun W => specShake_no s n hn W), hide (fun W _ => implShake_no s n hn W)⟩
    have HL := hide hL
    clear hL
    go_enter Tryd.func4, Tryd.ntmps4
    go_wp2_with fail
    refine ((unhide C1) w).mono ?_
    rintro e w1 ⟨rfl, hb1⟩
    have hs1 := hb1.size
    have hL1 := hide ((unhide HL).below hb1)
    go_wp2_with fail
    refine ((unhide C2) w1 (unhide hL1)).mono ?_
    rintro e w2 ⟨rfl, hb2⟩
    have HT := hide (hb1.trans (hb2.mono hs1))
    clear hb1 hb2
    go_wp2
    go_ret
    exact ⟨rfl, unhide HT⟩
end Go.Proofs.YtkidgllmhdfgaanDoor
