/- What impl.frameAt comes to: the frame at a place of a file. -/
import Derived.Test.YtkbbcjnickgfjaaDoorUnf
import Derived.Test.YtkbbcjnickgfjaaDoorReadVar
import Derived.Deep.RegionHeld3
import Derived.Deep.QuietTactic
import Derived.BigQuiet
namespace Go.Proofs.YtkbbcjnickgfjaaDoor
open Go.RowKit

theorem bytes_ne' {a b : ByteArray} (h : a ≠ b) : (a.toList == b.toList) = false := by
  rw [← beq_toListBytes]
  show (a.data == b.data) = false
  rw [beq_eq_false_iff_ne]
  intro e
  apply h
  cases a
  cases b
  simp_all

def frTup (s : ByteArray) : Option (Nat × Nat) → Value
  | none => .tuple #[.string ⟨#[]⟩, .int .i64 0, .bool false]
  | some (b, e) => .tuple #[.string (s.extract b e), .int .i64 (e : Int), .bool true]

set_option maxRecDepth 20000 in
set_option maxHeartbeats 400000 in
theorem frameAt_out (s : ByteArray) (p : Nat) (w : World) (hs : s.size ≤ 20000) (hp : p ≤ s.size) (h : rvRun s p p 1 0 = none) :
    Calls Tryd.prog 30 #[.string s, .int .i64 p] w fun e w' => e = .returned (frTup s none) ∧ Below w.heap.size w w' := by
  have C := hide (implReadVar_yes s p w (by unfold maxLen; omega) hp)
  rw [h] at C
  unfold rvTup at C
  unfold frTup
  go_enter Tryd.func30, Tryd.ntmps30
  go_wp2_with (go_at_call 36; refine (unhide C).mono ?_; rintro e w1 ⟨rfl, rfl⟩)
  go_ret3
  exact ⟨rfl, Below.refl _ _⟩

set_option maxRecDepth 20000 in
set_option maxHeartbeats 1000000 in
theorem frameAt_short (s : ByteArray) (p n j : Nat) (w : World) (hs : s.size ≤ 20000) (hp : p ≤ s.size) (h : rvRun s p p 1 0 = some (n, j)) (hj : j ≤ s.size) (hn : n ≤ 1000000000) (hb : n < 1 ∨ 9000 < n ∨ s.size < j + 4 + n) :
    Calls Tryd.prog 30 #[.string s, .int .i64 p] w fun e w' => e = .returned (frTup s none) ∧ Below w.heap.size w w' := by
  have C := hide (implReadVar_yes s p w (by unfold maxLen; omega) hp)
  rw [h] at C
  unfold rvTup at C
  unfold frTup
  by_cases c1 : (n : Int) < 1
  · clear hb
    go_enter Tryd.func30, Tryd.ntmps30
    go_wp2_with (go_at_call 36; refine (unhide C).mono ?_; rintro e w1 ⟨rfl, rfl⟩)
    go_ret3
    exact ⟨rfl, Below.refl _ _⟩
  by_cases c2 : (9000 : Int) < (n : Int)
  · clear hb
    go_enter Tryd.func30, Tryd.ntmps30
    go_wp2_with (go_at_call 36; refine (unhide C).mono ?_; rintro e w1 ⟨rfl, rfl⟩)
    go_ret3
    exact ⟨rfl, Below.refl _ _⟩
  have c3 : (s.size : Int) - ((j : Int) + 4) < (n : Int) := by omega
  clear hb
  go_enter Tryd.func30, Tryd.ntmps30
  go_wp2_with (go_at_call 36; refine (unhide C).mono ?_; rintro e w1 ⟨rfl, rfl⟩)
  go_ret3
  exact ⟨rfl, Below.refl _ _⟩

set_option maxRecDepth 20000 in
set_option maxHeartbeats 1000000 in
theorem frameAt_in (s : ByteArray) (p n j b0 e0 : Nat) (w : World) (hs : s.size ≤ 20000) (hp : p ≤ s.size) (h : rvRun s p p 1 0 = some (n, j)) (h1 : 1 ≤ n) (h2 : n ≤ 9000) (hb0 : (j : Int) + 4 = (b0 : Int)) (he0 : (b0 : Int) + (n : Int) = (e0 : Int)) (he : e0 ≤ s.size)
    (htab : Laid w) (a b : ByteArray) (ha : s.extract b0 e0 = a) (hb : s.extract j b0 = b) (hab : b = fourS (sumOf a)) :
    Calls Tryd.prog 30 #[.string s, .int .i64 p] w fun e w' => e = .returned (.tuple #[.string a, .int .i64 (e0 : Int), .bool true]) ∧ Below w.heap.size w w' := by
  have HTab := hide htab
  clear htab
  have CR := hide (implReadVar_yes s p w (by unfold maxLen; omega) hp)
  rw [h] at CR
  unfold rvTup at CR
  clear h hp
  have hsa : a.size ≤ 1048580 := by rw [← ha, ByteArray.size_extract]; omega
  have hl := sumOf_lt a
  have C := hide (fun (W : World) (h : Lib.TabIs Tryd.prog W "loop.example/g00186/impl.fourSteps" .u32 fourTab) => implMore_any 4294967295 (by decide) a W hsa h)
  change Hid (∀ W, _ → Calls _ _ _ W fun e w' => e = .returned (.int .u32 (sumOf a : Int)) ∧ w' = W) at C
  generalize sumOf a = x at C hl hab
  have C2 := hide (fun W => implFour_any x hl W)
  change Hid (∀ W, Calls _ _ _ _ fun e w' => e = .returned (.string (fourS x)) ∧ Below W.heap.size W w') at C2
  generalize fourS x = f at C2 hab
  subst hab
  have g1 : ¬ (n : Int) < 1 := by omega
  have g2 : ¬ (9000 : Int) < (n : Int) := by omega
  have g3 : ¬ (s.size : Int) - (b0 : Int) < (n : Int) := by omega
  have g4 : (0 : Int) ≤ (b0 : Int) := by omega
  have g5 : (b0 : Int) ≤ (e0 : Int) := by omega
  have g6 : (e0 : Int) ≤ (s.size : Int) := by omega
  have g7 : (j : Int) ≤ (b0 : Int) := by omega
  have g8 : (b0 : Int) ≤ (s.size : Int) := by omega
  have g9 : (0 : Int) ≤ (j : Int) := by omega
  go_enter Tryd.func30, Tryd.ntmps30
  go_wp2_with (go_at_call 36; refine (unhide CR).mono ?_; rintro e w1 ⟨rfl, rfl⟩)
  go_region_held3 (fun _ => True) (trivial) (first
    | (go_at_call 22; refine ((unhide C) _ (by exact unhide HTab)).mono ?_; rintro e w1 ⟨rfl, rfl⟩)
    | (go_at_call 23; refine ((unhide C2) _).mono ?_; rintro e w2 ⟨rfl, hb2⟩))
  go_wp2
  go_ret3
  exact ⟨rfl, ((Below.refl _ _).drew).trans hb2⟩

set_option maxRecDepth 20000 in
set_option maxHeartbeats 1000000 in
theorem frameAt_torn (s : ByteArray) (p n j b0 e0 : Nat) (w : World) (hs : s.size ≤ 20000) (hp : p ≤ s.size) (h : rvRun s p p 1 0 = some (n, j)) (h1 : 1 ≤ n) (h2 : n ≤ 9000) (hb0 : (j : Int) + 4 = (b0 : Int)) (he0 : (b0 : Int) + (n : Int) = (e0 : Int)) (he : e0 ≤ s.size)
    (htab : Laid w) (a b : ByteArray) (ha : s.extract b0 e0 = a) (hb : s.extract j b0 = b) (hab : b ≠ fourS (sumOf a)) :
    Calls Tryd.prog 30 #[.string s, .int .i64 p] w fun e w' => e = .returned (.tuple #[.string ⟨#[]⟩, .int .i64 0, .bool false]) ∧ Below w.heap.size w w' := by
  have HTab := hide htab
  clear htab
  have CR := hide (implReadVar_yes s p w (by unfold maxLen; omega) hp)
  rw [h] at CR
  unfold rvTup at CR
  clear h hp
  have hsa : a.size ≤ 1048580 := by rw [← ha, ByteArray.size_extract]; omega
  have hl := sumOf_lt a
  have C := hide (fun (W : World) (h : Lib.TabIs Tryd.prog W "loop.example/g00186/impl.fourSteps" .u32 fourTab) => implMore_any 4294967295 (by decide) a W hsa h)
  change Hid (∀ W, _ → Calls _ _ _ W fun e w' => e = .returned (.int .u32 (sumOf a : Int)) ∧ w' = W) at C
  generalize sumOf a = x at C hl hab
  have C2 := hide (fun W => implFour_any x hl W)
  change Hid (∀ W, Calls _ _ _ _ fun e w' => e = .returned (.string (fourS x)) ∧ Below W.heap.size W w') at C2
  generalize fourS x = f at C2 hab
  have hne : (b.toList == f.toList) = false := bytes_ne' hab
  clear hab
  have g1 : ¬ (n : Int) < 1 := by omega
  have g2 : ¬ (9000 : Int) < (n : Int) := by omega
  have g3 : ¬ (s.size : Int) - (b0 : Int) < (n : Int) := by omega
  have g4 : (0 : Int) ≤ (b0 : Int) := by omega
  have g5 : (b0 : Int) ≤ (e0 : Int) := by omega
  have g6 : (e0 : Int) ≤ (s.size : Int) := by omega
  have g7 : (j : Int) ≤ (b0 : Int) := by omega
  have g8 : (b0 : Int) ≤ (s.size : Int) := by omega
  have g9 : (0 : Int) ≤ (j : Int) := by omega
  go_enter Tryd.func30, Tryd.ntmps30
  go_wp2_with (go_at_call 36; refine (unhide CR).mono ?_; rintro e w1 ⟨rfl, rfl⟩)
  go_region_held3 (fun _ => True) (trivial) (first
    | (go_at_call 22; refine ((unhide C) _ (by exact unhide HTab)).mono ?_; rintro e w1 ⟨rfl, rfl⟩)
    | (go_at_call 23; refine ((unhide C2) _).mono ?_; rintro e w2 ⟨rfl, hb2⟩))
  go_wp2
  go_ret3
  exact ⟨rfl, ((Below.refl _ _).drew).trans hb2⟩

theorem frameAt_any (s : ByteArray) (p : Nat) (w : World) (hs : s.size ≤ 20000) (hp : p ≤ s.size) (htab : Laid w) :
    Calls Tryd.prog 30 #[.string s, .int .i64 p] w fun e w' => e = .returned (frTup s (frAt s p)) ∧ Below w.heap.size w w' := by
  cases h : rvRun s p p 1 0 with
  | none => rw [frAt_none h]; exact frameAt_out s p w hs hp h
  | some r =>
    obtain ⟨n, j⟩ := r
    obtain ⟨q1, q2, q3, q4, _⟩ := rvRun_own hp h
    by_cases hb : n < 1 ∨ 9000 < n ∨ s.size < j + 4 + n
    · rw [frAt_no h (fun hw => by obtain ⟨w1, w2, w3, _⟩ := hw; omega)]
      exact frameAt_short s p n j w hs hp h q2 q4 hb
    · by_cases hf : s.extract j (j + 4) = fourS (sumOf (s.extract (j + 4) (j + 4 + n)))
      · rw [frAt_yes h ⟨by omega, by omega, by omega, hf⟩]
        exact frameAt_in s p n j (j + 4) (j + 4 + n) w hs hp h (by omega) (by omega) (by omega) (by omega) (by omega) htab _ _ rfl rfl hf
      · rw [frAt_no h (fun hw => hf hw.2.2.2)]
        exact frameAt_torn s p n j (j + 4) (j + 4 + n) w hs hp h (by omega) (by omega) (by omega) (by omega) (by omega) htab _ _ rfl rfl hf
end Go.Proofs.YtkbbcjnickgfjaaDoor
