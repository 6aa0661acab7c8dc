/- The laws of SumMore, SumOf, Sealed and Unsealed, walked: at every argument the two answers are the same, where the table of impl's sums holds what its text lays. -/
import Derived.Test.YthoeebdibhdeoakDoorUnseal
namespace Go.Proofs.YthoeebdibhdeoakDoor
open Go.RowKit

def Laid (w : World) : Prop := Lib.TabIs Tryd.prog w "loop.example/g00186/impl.fourSteps" .u32 fourTab
theorem gFour : Tryd.prog.globalNamed "loop.example/g00186/impl.fourSteps" = some 0 := by kernel_rfl
theorem Laid.below {w w' : World} (h : Laid w) (hb : Below w.heap.size w w') : Laid w' := Go.Joins.tab_stays gFour h hb (Nat.le_refl _)

set_option maxHeartbeats 400000 in
theorem lawSumMore_any (c : Nat) (hc : c < 4294967296) (s : ByteArray) (w : World) (htab : Laid w) :
    Calls Tryd.prog 3 #[.int .u32 (c : Int), .string s] w fun e w' => e = .returned (.bool true) ∧ Below w.heap.size w w' := by
  have HTab := hide htab
  clear htab
  by_cases hl : (1048576 : Int) < (s.size : Int)
  · go_enter Tryd.func3, Tryd.ntmps3
    go_wp2
    go_ret
    exact ⟨rfl, Below.refl _ _⟩
  · have C1 := hide (specMore_any c hc s w (by omega))
    have C2 := hide (implSumMore_any c hc s w (by omega) (unhide HTab))
    generalize crcL c s.data.toList = x at C1 C2
    go_enter Tryd.func3, Tryd.ntmps3
    go_wp2_with (first
      | (go_at_call 7; refine (unhide C1).mono ?_; rintro e w1 ⟨rfl, rfl⟩)
      | (go_at_call 8; refine (unhide C2).mono ?_; rintro e w2 ⟨rfl, rfl⟩))
    go_ret
    exact ⟨rfl, Below.refl _ _⟩

theorem lawSumMore_int (n : Int) (h0 : 0 ≤ n) (h1 : n ≤ 4294967295) (s : ByteArray) (w : World) (htab : Laid w) :
    Calls Tryd.prog 3 #[.int .u32 n, .string s] w fun e w' => e = .returned (.bool true) ∧ Below w.heap.size w w' := by
  have := lawSumMore_any n.toNat (by omega) s w htab
  rwa [Int.toNat_of_nonneg h0] at this

set_option maxHeartbeats 400000 in
theorem lawSumOf_any (s : ByteArray) (w : World) (htab : Laid w) :
    Calls Tryd.prog 4 #[.string s] w fun e w' => e = .returned (.bool true) ∧ Below w.heap.size w w' := by
  have HTab := hide htab
  clear htab
  by_cases hl : (1048576 : Int) < (s.size : Int)
  · go_enter Tryd.func4, Tryd.ntmps4
    go_wp2
    go_ret
    exact ⟨rfl, Below.refl _ _⟩
  · have C1 := hide (specSumOf_any s w (by omega))
    have C2 := hide (implSumOf_any s w (by omega) (unhide HTab))
    generalize crcL 4294967295 s.data.toList = x at C1 C2
    go_enter Tryd.func4, Tryd.ntmps4
    go_wp2_with (first
      | (go_at_call 9; refine (unhide C1).mono ?_; rintro e w1 ⟨rfl, rfl⟩)
      | (go_at_call 10; refine (unhide C2).mono ?_; rintro e w2 ⟨rfl, rfl⟩))
    go_ret
    exact ⟨rfl, Below.refl _ _⟩

set_option maxHeartbeats 400000 in
theorem lawSealed_of (s : ByteArray) (w : World) (x : ByteArray) (b : Bool) (htab : Hid (Laid w)) (hs : ¬ (1048576 : Int) < (s.size : Int))
    (C1 : Hid (∀ W, Calls Tryd.prog 11 #[.string s] W fun e w' => e = .returned (.tuple #[.string x, .bool b]) ∧ Below W.heap.size W w'))
    (C2 : Hid (∀ W, Laid W → Calls Tryd.prog 12 #[.string s] W fun e w' => e = .returned (.tuple #[.string x, .bool b]) ∧ Below W.heap.size W w')) :
    Calls Tryd.prog 5 #[.string s] w fun e w' => e = .returned (.bool true) ∧ Below w.heap.size w w' := by
  go_enter Tryd.func5, Tryd.ntmps5
  go_wp2_with (first
    | (go_at_call 11; refine ((unhide C1) _).mono ?_; rintro e w1 ⟨rfl, hb1⟩)
    | (go_at_call 12; refine ((unhide C2) _ ((unhide htab).below hb1)).mono ?_; rintro e w2 ⟨rfl, hb2⟩))
  go_ret
  exact ⟨rfl, hb1.trans (hb2.mono hb1.size)⟩

set_option maxHeartbeats 400000 in
theorem lawSealed_any (s : ByteArray) (w : World) (htab : Laid w) :
    Calls Tryd.prog 5 #[.string s] w fun e w' => e = .returned (.bool true) ∧ Below w.heap.size w w' := by
  have HTab := hide htab
  clear htab
  by_cases hl : (1048576 : Int) < (s.size : Int)
  · go_enter Tryd.func5, Tryd.ntmps5
    go_wp2
    go_ret
    exact ⟨rfl, Below.refl _ _⟩
  · by_cases h : (20000 : Int) < (s.size : Int)
    · refine lawSealed_of s w ⟨#[]⟩ false HTab hl (hide fun W => (specSealed_no s W h).mono ?_) (hide fun W _ => (implSealed_no s W h).mono ?_)
      · rintro e w' ⟨rfl, rfl⟩; exact ⟨rfl, Below.refl _ _⟩
      · rintro e w' ⟨rfl, rfl⟩; exact ⟨rfl, Below.refl _ _⟩
    · exact lawSealed_of s w _ _ HTab hl (hide fun W => specSealed_any s W (by omega)) (hide fun W hW => implSealed_any s W (by omega) hW)

set_option maxHeartbeats 400000 in
theorem lawUnsealed_of (s : ByteArray) (w : World) (x : ByteArray) (b : Bool) (htab : Hid (Laid w)) (hs : ¬ (1048576 : Int) < (s.size : Int))
    (C1 : Hid (∀ W, Calls Tryd.prog 13 #[.string s] W fun e w' => e = .returned (.tuple #[.string x, .bool b]) ∧ Below W.heap.size W w'))
    (C2 : Hid (∀ W, Laid W → Calls Tryd.prog 14 #[.string s] W fun e w' => e = .returned (.tuple #[.string x, .bool b]) ∧ Below W.heap.size W w')) :
    Calls Tryd.prog 6 #[.string s] w fun e w' => e = .returned (.bool true) ∧ Below w.heap.size w w' := by
  go_enter Tryd.func6, Tryd.ntmps6
  go_wp2_with (first
    | (go_at_call 13; refine ((unhide C1) _).mono ?_; rintro e w1 ⟨rfl, hb1⟩)
    | (go_at_call 14; refine ((unhide C2) _ ((unhide htab).below hb1)).mono ?_; rintro e w2 ⟨rfl, hb2⟩))
  go_ret
  exact ⟨rfl, hb1.trans (hb2.mono hb1.size)⟩

set_option maxHeartbeats 400000 in
theorem lawUnsealed_any (s : ByteArray) (w : World) (htab : Laid w) :
    Calls Tryd.prog 6 #[.string s] w fun e w' => e = .returned (.bool true) ∧ Below w.heap.size w w' := by
  have HTab := hide htab
  clear htab
  by_cases hl : (1048576 : Int) < (s.size : Int)
  · go_enter Tryd.func6, Tryd.ntmps6
    go_wp2
    go_ret
    exact ⟨rfl, Below.refl _ _⟩
  · by_cases h : (s.size : Int) < 4 ∨ (20004 : Int) < (s.size : Int)
    · exact lawUnsealed_of s w _ _ HTab hl (hide fun W => specUnsealed_no s W h (by omega)) (hide fun W _ => implUnsealed_no s W h (by omega))
    · have hn : (s.size : Int) - 4 = ((s.size - 4 : Nat) : Int) := by omega
      have h2 : ¬ (20000 : Int) < ((s.size - 4 : Nat) : Int) := by omega
      by_cases hab : s.extract (s.size - 4) s.size = fourS (sumOf (s.extract 0 (s.size - 4)))
      · exact lawUnsealed_of s w _ _ HTab hl (hide fun W => specUnsealed_in s _ W hn h2 _ _ rfl rfl hab) (hide fun W hW => implUnsealed_in s _ W hn h2 hW _ _ rfl rfl hab)
      · exact lawUnsealed_of s w _ _ HTab hl (hide fun W => specUnsealed_out s _ W hn h2 _ _ rfl rfl hab) (hide fun W hW => implUnsealed_out s _ W hn h2 hW _ _ rfl rfl hab)
end Go.Proofs.YthoeebdibhdeoakDoor
