/- What Unsealed of both sides comes to, over the loaded program. -/
import Derived.Test.YthoeebdibhdeoaaDoorSeal
import Derived.Test.YthoeebdibhdeoaaDoorShelf
import Derived.Deep.RegionHeld3
import Derived.Deep.QuietTactic
import Derived.BigQuiet
namespace Go.Proofs.YthoeebdibhdeoaaDoor
open Go.RowKit

theorem bytes_ne {a b : ByteArray} (h : a ≠ b) : (a.toList == b.toList) = false := by
  rw [← beq_toListBytes]
  show (a.data == b.data) = false
  rw [beq_eq_false_iff_ne]
  intro e
  apply h
  cases a
  cases b
  simp_all

set_option maxRecDepth 20000 in
set_option maxHeartbeats 400000 in
theorem implUnsealed_in (s : ByteArray) (n : Nat) (w : World) (hn : (s.size : Int) - 4 = (n : Int)) (h2 : ¬ (20000 : Int) < (n : Int))
    (htab : Lib.TabIs Tryd.prog w "loop.example/g00186/impl.fourSteps" .u32 fourTab) (a b : ByteArray) (ha : s.extract 0 n = a) (hb : s.extract n s.size = b) (hab : b = fourS (sumOf a)) :
    Calls Tryd.prog 19 #[.string s] w fun e w' => e = .returned (.tuple #[.string a, .bool true]) ∧ Below w.heap.size w w' := by
  have HTab := hide htab
  clear htab
  have hsa : a.size ≤ 1048580 := by rw [← ha, ByteArray.size_extract]; omega
  have hl := sumOf_lt a
  have C := hide (fun (W : World) (h : Lib.TabIs Tryd.prog W "loop.example/g00186/impl.fourSteps" .u32 fourTab) => implMore_any 4294967295 (by decide) a W hsa h)
  change Hid (∀ W, _ → Calls _ _ _ W fun e w' => e = .returned (.int .u32 (sumOf a : Int)) ∧ w' = W) at C
  generalize sumOf a = x at C hl hab
  have C2 := hide (fun W => implFour_any x hl W)
  change Hid (∀ W, Calls _ _ _ _ fun e w' => e = .returned (.string (fourS x)) ∧ Below W.heap.size W w') at C2
  generalize fourS x = f at C2 hab
  subst hab
  have h3 : (0 : Int) ≤ (n : Int) := by omega
  have h4 : (n : Int) ≤ (s.size : Int) := by omega
  have h5 : ¬ (n : Int) < 0 := by omega
  go_enter Tryd.func19, Tryd.ntmps19
  go_wp2
  go_region_held3 (fun _ => True) (trivial) (first
    | (go_at_call 32; refine ((unhide C) _ (by exact unhide HTab)).mono ?_; rintro e w1 ⟨rfl, rfl⟩)
    | (go_at_call 33; refine ((unhide C2) _).mono ?_; rintro e w2 ⟨rfl, hb2⟩))
  have HS := hide (show a.size ≤ 281474976710656 by omega)
  go_wp2_with (first
      | (go_at_call 36; refine (Tryd.stringslite_Clone _ _ (unhide HS)).mono ?_; rintro e w3 ⟨rfl, hb3⟩)
      | go_in)
  go_ret2
  exact ⟨rfl, ((Below.refl w.heap.size w).drew).trans (hb2.trans (hb3.mono hb2.size))⟩
set_option maxRecDepth 20000 in
set_option maxHeartbeats 400000 in
theorem implUnsealed_out (s : ByteArray) (n : Nat) (w : World) (hn : (s.size : Int) - 4 = (n : Int)) (h2 : ¬ (20000 : Int) < (n : Int))
    (htab : Lib.TabIs Tryd.prog w "loop.example/g00186/impl.fourSteps" .u32 fourTab) (a b : ByteArray) (ha : s.extract 0 n = a) (hb : s.extract n s.size = b) (hab : b ≠ fourS (sumOf a)) :
    Calls Tryd.prog 19 #[.string s] w fun e w' => e = .returned (.tuple #[.string ⟨#[]⟩, .bool false]) ∧ Below w.heap.size w w' := by
  have HTab := hide htab
  clear htab
  have hsa : a.size ≤ 1048580 := by rw [← ha, ByteArray.size_extract]; omega
  have hl := sumOf_lt a
  have C := hide (fun (W : World) (h : Lib.TabIs Tryd.prog W "loop.example/g00186/impl.fourSteps" .u32 fourTab) => implMore_any 4294967295 (by decide) a W hsa h)
  change Hid (∀ W, _ → Calls _ _ _ W fun e w' => e = .returned (.int .u32 (sumOf a : Int)) ∧ w' = W) at C
  generalize sumOf a = x at C hl hab
  have C2 := hide (fun W => implFour_any x hl W)
  change Hid (∀ W, Calls _ _ _ _ fun e w' => e = .returned (.string (fourS x)) ∧ Below W.heap.size W w') at C2
  generalize fourS x = f at C2 hab
  have hne : (b.toList == f.toList) = false := bytes_ne hab
  have h3 : (0 : Int) ≤ (n : Int) := by omega
  have h4 : (n : Int) ≤ (s.size : Int) := by omega
  have h5 : ¬ (n : Int) < 0 := by omega
  go_enter Tryd.func19, Tryd.ntmps19
  go_wp2
  go_region_held3 (fun _ => True) (trivial) (first
    | (go_at_call 32; refine ((unhide C) _ (by exact unhide HTab)).mono ?_; rintro e w1 ⟨rfl, rfl⟩)
    | (go_at_call 33; refine ((unhide C2) _).mono ?_; rintro e w2 ⟨rfl, hb2⟩))
  go_wp2
  go_ret2
  exact ⟨rfl, ((Below.refl w.heap.size w).drew).trans hb2⟩

set_option maxHeartbeats 400000 in
theorem implUnsealed_no (s : ByteArray) (w : World) (h : (s.size : Int) < 4 ∨ (20004 : Int) < (s.size : Int)) (hs : s.size ≤ 1048580) :
    Calls Tryd.prog 19 #[.string s] w fun e w' => e = .returned (.tuple #[.string ⟨#[]⟩, .bool false]) ∧ Below w.heap.size w w' := by
  by_cases h0 : (s.size : Int) - 4 < 0
  · go_enter Tryd.func19, Tryd.ntmps19
    go_wp2
    go_ret2
    exact ⟨rfl, Below.refl _ _⟩
  · have h1 : (20000 : Int) < (s.size : Int) - 4 := by omega
    clear h
    go_enter Tryd.func19, Tryd.ntmps19
    go_wp2
    go_ret2
    exact ⟨rfl, Below.refl _ _⟩
end Go.Proofs.YthoeebdibhdeoaaDoor
