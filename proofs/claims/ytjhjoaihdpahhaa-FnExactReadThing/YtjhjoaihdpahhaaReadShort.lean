/- The law of ReadShort, walked: at every text and place the two answers are the same. -/
import Derived.Test.YtjhjoaihdpahhaaReadVarS
import Derived.Test.YtjhjoaihdpahhaaShelf
namespace Go.Proofs.Ytjhjoaihdpahhaa
open Go.RowKit

theorem rvRun_some {s : ByteArray} {a : Nat} : ∀ (f i u n m j : Nat), s.size - i ≤ f → rvRun s a i u n = some (m, j) → j ≤ s.size ∧ m ≤ 1000000000 := by
  intro f
  induction f with
  | zero =>
    intro i u n m j hf h
    rw [rvRun_out (by omega)] at h
    cases h
  | succ f ih =>
    intro i u n m j hf h
    by_cases h1 : i < s.size ∧ i < a + 5
    · by_cases hb : 127 < s[i].toNat
      · rw [rvRun_on h1.1 h1.2 hb] at h
        exact ih _ _ _ _ _ (by omega) h
      · by_cases hn : (s[i].toNat = 0 ∧ a < i) ∨ 1000000000 < n + s[i].toNat % 128 * u
        · rw [rvRun_no h1.1 h1.2 hb hn] at h; cases h
        · rw [rvRun_yes h1.1 h1.2 hb hn] at h
          simp only [Option.some.injEq, Prod.mk.injEq] at h
          omega
    · rw [rvRun_out h1] at h; cases h

/-! spec.ReadShort, over what ReadVar answers -/



/-! impl.ReadShort, over what ReadVar answers -/
set_option maxHeartbeats 400000 in
theorem implRS_none (s : ByteArray) (p : Int) (w : World) (C : Hid (∀ W, Calls Try.prog 32 #[.string s, .int .i64 p] W fun e w' => e = .returned (rvTup none) ∧ Below W.heap.size W w')) :
    Calls Try.prog 33 #[.string s, .int .i64 p] w fun e w' => e = .returned (.tuple #[.string ⟨#[]⟩, .int .i64 0, .bool false]) ∧ Below w.heap.size w w' := by
  go_enter Try.func33, Try.ntmps33
  go_wp2_with (go_at_call 32; refine ((unhide C) _).mono ?_; rintro e w1 ⟨rfl, hb⟩; unfold rvTup)
  go_ret3
  exact ⟨rfl, hb⟩

set_option maxHeartbeats 400000 in
theorem implRS_bad (s : ByteArray) (p : Int) (n j : Nat) (w : World) (C : Hid (∀ W, Calls Try.prog 32 #[.string s, .int .i64 p] W fun e w' => e = .returned (rvTup (some (n, j))) ∧ Below W.heap.size W w'))
    (_hs : s.size ≤ 1048576) (hj : j ≤ s.size) (hn : n ≤ 1000000000) (hbad : (20000 : Int) < (n : Int) ∨ (s.size : Int) - (j : Int) < (n : Int)) :
    Calls Try.prog 33 #[.string s, .int .i64 p] w fun e w' => e = .returned (.tuple #[.string ⟨#[]⟩, .int .i64 0, .bool false]) ∧ Below w.heap.size w w' := by
  by_cases h1 : (20000 : Int) < (n : Int)
  · clear hbad
    go_enter Try.func33, Try.ntmps33
    go_wp2_with (go_at_call 32; refine ((unhide C) _).mono ?_; rintro e w1 ⟨rfl, hb⟩; unfold rvTup)
    go_ret3
    exact ⟨rfl, hb⟩
  · have h2 : (s.size : Int) - (j : Int) < (n : Int) := by omega
    clear hbad
    go_enter Try.func33, Try.ntmps33
    go_wp2_with (go_at_call 32; refine ((unhide C) _).mono ?_; rintro e w1 ⟨rfl, hb⟩; unfold rvTup)
    go_ret3
    exact ⟨rfl, hb⟩

set_option maxHeartbeats 400000 in
theorem implRS_good (s : ByteArray) (p : Int) (n j : Nat) (w : World) (C : Hid (∀ W, Calls Try.prog 32 #[.string s, .int .i64 p] W fun e w' => e = .returned (rvTup (some (n, j))) ∧ Below W.heap.size W w'))
    (hs : s.size ≤ 1048576) (h1 : ¬ (20000 : Int) < (n : Int)) (h2 : ¬ (s.size : Int) - (j : Int) < (n : Int)) :
    Calls Try.prog 33 #[.string s, .int .i64 p] w fun e w' => e = .returned (.tuple #[.string (s.extract j (j + n)), .int .i64 ((j + n : Nat) : Int), .bool true]) ∧ Below w.heap.size w w' := by
  have h3 : (j : Int) ≤ (j : Int) + (n : Int) := by omega
  have h4 : (j : Int) + (n : Int) ≤ (s.size : Int) := by omega
  have h5 : (0 : Int) ≤ (j : Int) := by omega
  have hsz : ∀ b, (s.extract j b).size ≤ 281474976710656 := fun b => by rw [ByteArray.size_extract]; omega
  have HS := hide hsz
  clear hsz
  go_enter Try.func33, Try.ntmps33
  go_wp2_with (first
      | (go_at_call 32; refine ((unhide C) _).mono ?_; rintro e w1 ⟨rfl, hb⟩; unfold rvTup)
      | (go_at_call 36; refine (Try.stringslite_Clone _ _ (unhide HS _)).mono ?_; rintro e w3 ⟨rfl, hb3⟩)
      | go_in)
  go_ret3
  exact ⟨rfl, hb.trans (hb3.mono hb.size)⟩



end Go.Proofs.Ytjhjoaihdpahhaa
