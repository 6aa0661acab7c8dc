/- What Frame of both sides comes to, over the loaded program. -/
import Derived.Test.YtkbbcjnickgfjaaDoorSeal
import Derived.Test.YtkbbcjnickgfjaaDoorVar
namespace Go.Proofs.YtkbbcjnickgfjaaDoor
open Go.RowKit

/-- The frame of a text: its length, its sum, itself. -/
def frameB (s : ByteArray) : ByteArray := ⟨(varB s.size).toArray⟩ ++ fourS (sumOf s) ++ s

def frameRes (s : ByteArray) : Value := if 1 ≤ s.size ∧ s.size ≤ 9000 then .tuple #[.string (frameB s), .bool true] else .tuple #[.string ⟨#[]⟩, .bool false]

theorem varB_len5 (n : Nat) (h : n ≤ 9000) : (varB n).length ≤ 2 := by
  by_cases h1 : n ≤ 127
  · rw [varB_small h1]; simp
  · rw [varB_big h1, varB_small (by omega)]; simp

set_option maxHeartbeats 800000 in
theorem specFrame_yes (s : ByteArray) (w : World) (h1 : 1 ≤ s.size) (h2 : s.size ≤ 9000) :
    Calls Tryd.prog 27 #[.string s] w fun e w' => e = .returned (.tuple #[.string (frameB s), .bool true]) ∧ Below w.heap.size w w' := by
  have C0 := hide (l01In_yes (s.size : Int) 1 9000 w (by omega) (by omega))
  have CV := hide (l01Var_any s.size w (by omega))
  have hl := sumOf_lt s
  have C : Hid (∀ W, Calls Tryd.prog 35 #[.string s] W fun e w' => e = .returned (.int .u32 (sumOf s : Int)) ∧ w' = W) := fun W => specSumOf_any s W (by omega)
  unfold frameB
  have hv := varB_len5 s.size h2
  have hvs : (ByteArray.mk (varB s.size).toArray).size = (varB s.size).length := List.size_toArray
  rw [← hvs] at hv
  generalize ByteArray.mk (varB s.size).toArray = vb at CV hv
  clear hvs
  generalize sumOf s = x at C hl ⊢
  have C2 : Hid (∀ W, Calls Tryd.prog 34 #[.int .u32 (x : Int)] W fun e w' => e = .returned (.string (fourS x)) ∧ Below W.heap.size W w') := fun W => specFour_any x hl W
  have hx := fourS_size x
  generalize fourS x = f at C2 hx ⊢
  go_enter Tryd.func27, Tryd.ntmps27
  go_wp2_with (first
    | (go_at_call 32; refine (unhide C0).mono ?_; rintro e w0 ⟨rfl, rfl⟩)
    | (go_at_call 33; refine (unhide CV).mono ?_; rintro e w1 ⟨rfl, hb1⟩)
    | (go_at_call 35; refine ((unhide C) _).mono ?_; rintro e w2 ⟨rfl, rfl⟩)
    | (go_at_call 34; refine ((unhide C2) _).mono ?_; rintro e w3 ⟨rfl, hb3⟩))
  go_ret2
  exact ⟨rfl, hb1.trans (hb3.mono hb1.size)⟩

set_option maxHeartbeats 400000 in
theorem specFrame_no (s : ByteArray) (w : World) (h : ¬ (1 ≤ s.size ∧ s.size ≤ 9000)) :
    Calls Tryd.prog 27 #[.string s] w fun e w' => e = .returned (.tuple #[.string ⟨#[]⟩, .bool false]) ∧ w' = w := by
  have C0 := hide (l01In_no (s.size : Int) 1 9000 w (by omega))
  go_enter Tryd.func27, Tryd.ntmps27
  go_wp2_with (go_at_call 32; refine (unhide C0).mono ?_; rintro e w0 ⟨rfl, rfl⟩)
  go_ret2
  exact ⟨rfl, rfl⟩

theorem specFrame_any (s : ByteArray) (w : World) :
    Calls Tryd.prog 27 #[.string s] w fun e w' => e = .returned (frameRes s) ∧ Below w.heap.size w w' := by
  unfold frameRes
  by_cases h : 1 ≤ s.size ∧ s.size ≤ 9000
  · rw [if_pos h]; exact specFrame_yes s w h.1 h.2
  · rw [if_neg h]
    refine (specFrame_no s w h).mono ?_
    rintro e w' ⟨rfl, rfl⟩
    exact ⟨rfl, Below.refl _ _⟩

set_option maxHeartbeats 800000 in
theorem implFrame_yes (s : ByteArray) (w : World) (h1 : 1 ≤ s.size) (h2 : s.size ≤ 9000) (htab : Laid w) :
    Calls Tryd.prog 8 #[.string s] w fun e w' => e = .returned (.tuple #[.string (frameB s), .bool true]) ∧ Below w.heap.size w w' := by
  have HTab := hide htab
  clear htab
  have CV := hide (implVar_yes s.size w (by omega))
  have hl := sumOf_lt s
  have C : Hid (∀ W, Laid W → Calls Tryd.prog 22 #[.int .u32 4294967295, .string s] W fun e w' => e = .returned (.int .u32 (sumOf s : Int)) ∧ w' = W) := fun W h => implMore_any 4294967295 (by decide) s W (by omega) h
  unfold frameB
  have hv := varB_len5 s.size h2
  have hvs : (ByteArray.mk (varB s.size).toArray).size = (varB s.size).length := List.size_toArray
  rw [← hvs] at hv
  generalize ByteArray.mk (varB s.size).toArray = vb at CV hv
  clear hvs
  generalize sumOf s = x at C hl ⊢
  have C2 : Hid (∀ W, Calls Tryd.prog 23 #[.int .u32 (x : Int)] W fun e w' => e = .returned (.string (fourS x)) ∧ Below W.heap.size W w') := fun W => implFour_any x hl W
  have hx := fourS_size x
  generalize fourS x = f at C2 hx ⊢
  go_enter Tryd.func8, Tryd.ntmps8
  go_wp2_with (first
    | (go_at_call 21; refine (unhide CV).mono ?_; rintro e w1 ⟨rfl, hb1⟩)
    | (go_at_call 22; refine ((unhide C) _ ((unhide HTab).below hb1)).mono ?_; rintro e w2 ⟨rfl, rfl⟩)
    | (go_at_call 23; refine ((unhide C2) _).mono ?_; rintro e w3 ⟨rfl, hb3⟩))
  go_ret2
  exact ⟨rfl, hb1.trans (hb3.mono hb1.size)⟩

set_option maxHeartbeats 400000 in
theorem implFrame_no (s : ByteArray) (w : World) (h : s.size < 1 ∨ 9000 < s.size) :
    Calls Tryd.prog 8 #[.string s] w fun e w' => e = .returned (.tuple #[.string ⟨#[]⟩, .bool false]) ∧ w' = w := by
  by_cases h1 : (s.size : Int) < 1
  · go_enter Tryd.func8, Tryd.ntmps8
    go_wp2
    go_ret2
    exact ⟨rfl, rfl⟩
  · have h2 : (9000 : Int) < (s.size : Int) := by omega
    clear h
    go_enter Tryd.func8, Tryd.ntmps8
    go_wp2
    go_ret2
    exact ⟨rfl, rfl⟩

theorem implFrame_any (s : ByteArray) (w : World) (htab : Laid w) :
    Calls Tryd.prog 8 #[.string s] w fun e w' => e = .returned (frameRes s) ∧ Below w.heap.size w w' := by
  unfold frameRes
  by_cases h : 1 ≤ s.size ∧ s.size ≤ 9000
  · rw [if_pos h]; exact implFrame_yes s w h.1 h.2 htab
  · rw [if_neg h]
    refine (implFrame_no s w (by omega)).mono ?_
    rintro e w' ⟨rfl, rfl⟩
    exact ⟨rfl, Below.refl _ _⟩
end Go.Proofs.YtkbbcjnickgfjaaDoor
