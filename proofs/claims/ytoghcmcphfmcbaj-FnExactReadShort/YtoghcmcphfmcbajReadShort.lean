/- The law of ReadShort, walked: at every text and place the two answers are the same. -/
import Derived.Test.YtoghcmcphfmcbajReadVarS
import Derived.Test.YtoghcmcphfmcbajShelf
namespace Go.Proofs.Ytoghcmcphfmcbaj
open Go.RowKit

theorem rvRun_some {s : ByteArray} {a : Nat} : ∀ (f i u n m j : Nat), s.size - i ≤ f → rvRun s a i u n = some (m, j) → j ≤ s.size ∧ m ≤ 1000000000 := by
  intro f
  induction f with
  | zero =>
    intro i u n m j hf h
    rw [rvRun_out (by omega)] at h
    cases h
  | succ f ih =>
    intro i u n m j hf h
    by_cases h1 : i < s.size ∧ i < a + 5
    · by_cases hb : 127 < s[i].toNat
      · rw [rvRun_on h1.1 h1.2 hb] at h
        exact ih _ _ _ _ _ (by omega) h
      · by_cases hn : (s[i].toNat = 0 ∧ a < i) ∨ 1000000000 < n + s[i].toNat % 128 * u
        · rw [rvRun_no h1.1 h1.2 hb hn] at h; cases h
        · rw [rvRun_yes h1.1 h1.2 hb hn] at h
          simp only [Option.some.injEq, Prod.mk.injEq] at h
          omega
    · rw [rvRun_out h1] at h; cases h

/-! spec.ReadShort, over what ReadVar answers -/
set_option maxHeartbeats 400000 in
theorem specRS_none (s : ByteArray) (p : Int) (w : World) (C : Hid (∀ W, Calls Try.prog 15 #[.string s, .int .i64 p] W fun e w' => e = .returned (rvTup none) ∧ Below W.heap.size W w')) :
    Calls Try.prog 7 #[.string s, .int .i64 p] w fun e w' => e = .returned (.tuple #[.string ⟨#[]⟩, .int .i64 0, .bool false]) ∧ Below w.heap.size w w' := by
  go_enter Try.func7, Try.ntmps7
  go_wp2_with (go_at_call 15; refine ((unhide C) _).mono ?_; rintro e w1 ⟨rfl, hb⟩; unfold rvTup)
  go_ret3
  exact ⟨rfl, hb⟩

set_option maxHeartbeats 400000 in
theorem specRS_bad (s : ByteArray) (p : Int) (n j : Nat) (w : World) (C : Hid (∀ W, Calls Try.prog 15 #[.string s, .int .i64 p] W fun e w' => e = .returned (rvTup (some (n, j))) ∧ Below W.heap.size W w'))
    (_hs : s.size ≤ 1048576) (hj : j ≤ s.size) (hn : n ≤ 1000000000) (hbad : (20000 : Int) < (n : Int) ∨ (s.size : Int) - (j : Int) < (n : Int)) :
    Calls Try.prog 7 #[.string s, .int .i64 p] w fun e w' => e = .returned (.tuple #[.string ⟨#[]⟩, .int .i64 0, .bool false]) ∧ Below w.heap.size w w' := by
  by_cases h1 : (20000 : Int) < (n : Int)
  · clear hbad
    go_enter Try.func7, Try.ntmps7
    go_wp2_with (go_at_call 15; refine ((unhide C) _).mono ?_; rintro e w1 ⟨rfl, hb⟩; unfold rvTup)
    go_ret3
    exact ⟨rfl, hb⟩
  · have h2 : (s.size : Int) - (j : Int) < (n : Int) := by omega
    clear hbad
    go_enter Try.func7, Try.ntmps7
    go_wp2_with (go_at_call 15; refine ((unhide C) _).mono ?_; rintro e w1 ⟨rfl, hb⟩; unfold rvTup)
    go_ret3
    exact ⟨rfl, hb⟩

set_option maxHeartbeats 400000 in
theorem specRS_good (s : ByteArray) (p : Int) (n j : Nat) (w : World) (C : Hid (∀ W, Calls Try.prog 15 #[.string s, .int .i64 p] W fun e w' => e = .returned (rvTup (some (n, j))) ∧ Below W.heap.size W w'))
    (hs : s.size ≤ 1048576) (h1 : ¬ (20000 : Int) < (n : Int)) (h2 : ¬ (s.size : Int) - (j : Int) < (n : Int)) :
    Calls Try.prog 7 #[.string s, .int .i64 p] w fun e w' => e = .returned (.tuple #[.string (s.extract j (j + n)), .int .i64 ((j + n : Nat) : Int), .bool true]) ∧ Below w.heap.size w w' := by
  have h3 : (j : Int) ≤ (j : Int) + (n : Int) := by omega
  have h4 : (j : Int) + (n : Int) ≤ (s.size : Int) := by omega
  have h5 : (0 : Int) ≤ (j : Int) := by omega
  have hsz : ∀ b, (s.extract j b).size ≤ 281474976710656 := fun b => by rw [ByteArray.size_extract]; omega
  have HS := hide hsz
  clear hsz
  go_enter Try.func7, Try.ntmps7
  go_wp2_with (first
      | (go_at_call 15; refine ((unhide C) _).mono ?_; rintro e w1 ⟨rfl, hb⟩; unfold rvTup))
  go_ret3
  exact ⟨rfl, hb⟩

/-! impl.ReadShort, over what ReadVar answers -/
set_option maxHeartbeats 400000 in
theorem implRS_none (s : ByteArray) (p : Int) (w : World) (C : Hid (∀ W, Calls Try.prog 16 #[.string s, .int .i64 p] W fun e w' => e = .returned (rvTup none) ∧ Below W.heap.size W w')) :
    Calls Try.prog 8 #[.string s, .int .i64 p] w fun e w' => e = .returned (.tuple #[.string ⟨#[]⟩, .int .i64 0, .bool false]) ∧ Below w.heap.size w w' := by
  go_enter Try.func8, Try.ntmps8
  go_wp2_with (go_at_call 16; refine ((unhide C) _).mono ?_; rintro e w1 ⟨rfl, hb⟩; unfold rvTup)
  go_ret3
  exact ⟨rfl, hb⟩

set_option maxHeartbeats 400000 in
theorem implRS_bad (s : ByteArray) (p : Int) (n j : Nat) (w : World) (C : Hid (∀ W, Calls Try.prog 16 #[.string s, .int .i64 p] W fun e w' => e = .returned (rvTup (some (n, j))) ∧ Below W.heap.size W w'))
    (_hs : s.size ≤ 1048576) (hj : j ≤ s.size) (hn : n ≤ 1000000000) (hbad : (20000 : Int) < (n : Int) ∨ (s.size : Int) - (j : Int) < (n : Int)) :
    Calls Try.prog 8 #[.string s, .int .i64 p] w fun e w' => e = .returned (.tuple #[.string ⟨#[]⟩, .int .i64 0, .bool false]) ∧ Below w.heap.size w w' := by
  by_cases h1 : (20000 : Int) < (n : Int)
  · clear hbad
    go_enter Try.func8, Try.ntmps8
    go_wp2_with (go_at_call 16; refine ((unhide C) _).mono ?_; rintro e w1 ⟨rfl, hb⟩; unfold rvTup)
    go_ret3
    exact ⟨rfl, hb⟩
  · have h2 : (s.size : Int) - (j : Int) < (n : Int) := by omega
    clear hbad
    go_enter Try.func8, Try.ntmps8
    go_wp2_with (go_at_call 16; refine ((unhide C) _).mono ?_; rintro e w1 ⟨rfl, hb⟩; unfold rvTup)
    go_ret3
    exact ⟨rfl, hb⟩

set_option maxHeartbeats 400000 in
theorem implRS_good (s : ByteArray) (p : Int) (n j : Nat) (w : World) (C : Hid (∀ W, Calls Try.prog 16 #[.string s, .int .i64 p] W fun e w' => e = .returned (rvTup (some (n, j))) ∧ Below W.heap.size W w'))
    (hs : s.size ≤ 1048576) (h1 : ¬ (20000 : Int) < (n : Int)) (h2 : ¬ (s.size : Int) - (j : Int) < (n : Int)) :
    Calls Try.prog 8 #[.string s, .int .i64 p] w fun e w' => e = .returned (.tuple #[.string (s.extract j (j + n)), .int .i64 ((j + n : Nat) : Int), .bool true]) ∧ Below w.heap.size w w' := by
  have h3 : (j : Int) ≤ (j : Int) + (n : Int) := by omega
  have h4 : (j : Int) + (n : Int) ≤ (s.size : Int) := by omega
  have h5 : (0 : Int) ≤ (j : Int) := by omega
  have hsz : ∀ b, (s.extract j b).size ≤ 281474976710656 := fun b => by rw [ByteArray.size_extract]; omega
  have HS := hide hsz
  clear hsz
  go_enter Try.func8, Try.ntmps8
  go_wp2_with (first
      | (go_at_call 16; refine ((unhide C) _).mono ?_; rintro e w1 ⟨rfl, hb⟩; unfold rvTup)
      | (go_at_call 24; refine (Try.stringslite_Clone _ _ (unhide HS _)).mono ?_; rintro e w3 ⟨rfl, hb3⟩)
      | go_in)
  go_ret3
  exact ⟨rfl, hb.trans (hb3.mono hb.size)⟩

set_option maxHeartbeats 400000 in
theorem lawRS_of (s : ByteArray) (p : Int) (w : World) (v : Value) (x : ByteArray) (n : Int) (b : Bool) (hv : v = .tuple #[.string x, .int .i64 n, .bool b]) (hs : ¬ (1048576 : Int) < (s.size : Int))
    (C1 : Hid (∀ W, Calls Try.prog 7 #[.string s, .int .i64 p] W fun e w' => e = .returned v ∧ Below W.heap.size W w'))
    (C2 : Hid (∀ W, Calls Try.prog 8 #[.string s, .int .i64 p] W fun e w' => e = .returned v ∧ Below W.heap.size W w')) :
    Calls Try.prog 3 #[.string s, .int .i64 p] w fun e w' => e = .returned (.bool true) ∧ Below w.heap.size w w' := by
  subst hv
  go_enter Try.func3, Try.ntmps3
  go_wp2_with (first
    | (go_at_call 7; refine ((unhide C1) _).mono ?_; rintro e w1 ⟨rfl, hb1⟩)
    | (go_at_call 8; refine ((unhide C2) _).mono ?_; rintro e w2 ⟨rfl, hb2⟩))
  go_ret
  exact ⟨rfl, hb1.trans (hb2.mono hb1.size)⟩

set_option maxHeartbeats 400000 in
theorem lawReadShort_any (s : ByteArray) (p : Int) (w : World) :
    Calls Try.prog 3 #[.string s, .int .i64 p] w fun e w' => e = .returned (.bool true) ∧ Below w.heap.size w w' := by
  by_cases hl : (1048576 : Int) < (s.size : Int)
  · go_enter Try.func3, Try.ntmps3
    go_wp2
    go_ret
    exact ⟨rfl, Below.refl _ _⟩
  · have hs : s.size ≤ 1048576 := by omega
    have hm : s.size ≤ maxLen := by unfold maxLen; omega
    have hbelow : ∀ (W : World) (v : Value), (Calls Try.prog 16 #[.string s, .int .i64 p] W fun e w' => e = .returned v ∧ w' = W) → Calls Try.prog 16 #[.string s, .int .i64 p] W fun e w' => e = .returned v ∧ Below W.heap.size W w' := by
      intro W v h
      refine h.mono ?_
      rintro e w' ⟨rfl, rfl⟩
      exact ⟨rfl, Below.refl _ _⟩
    by_cases h : p < 0 ∨ (s.size : Int) < p
    · exact lawRS_of s p w _ _ _ _ rfl hl (hide fun W => specRS_none s p W (hide fun W => by
          refine (specReadVar_no s p W h).mono ?_
          rintro e w' ⟨rfl, rfl⟩
          exact ⟨rfl, Below.refl _ _⟩)) (hide fun W => implRS_none s p W (hide fun W => hbelow W _ (implReadVar_no s p W h)))
    · obtain ⟨q, rfl⟩ := Int.eq_ofNat_of_zero_le (show 0 ≤ p by omega)
      have hq : q ≤ s.size := by omega
      have c1 := fun W => specReadVar_yes s q W hs hq
      have c2 := fun W => hbelow W _ (implReadVar_yes s q W hm hq)
      have hr := fun m j => rvRun_some (s := s) (a := q) _ q 1 0 m j (Nat.le_refl _)
      generalize rvRun s q q 1 0 = r at c1 c2 hr
      cases r with
      | none => exact lawRS_of s q w _ _ _ _ rfl hl (hide fun W => specRS_none s q W (hide c1)) (hide fun W => implRS_none s q W (hide c2))
      | some x =>
        obtain ⟨n, j⟩ := x
        obtain ⟨hj, hn⟩ := hr n j rfl
        by_cases hbad : (20000 : Int) < (n : Int) ∨ (s.size : Int) - (j : Int) < (n : Int)
        · exact lawRS_of s q w _ _ _ _ rfl hl (hide fun W => specRS_bad s q n j W (hide c1) hs hj hn hbad) (hide fun W => implRS_bad s q n j W (hide c2) hs hj hn hbad)
        · exact lawRS_of s q w _ _ _ _ rfl hl (hide fun W => specRS_good s q n j W (hide c1) hs (by omega) (by omega)) (hide fun W => implRS_good s q n j W (hide c2) hs (by omega) (by omega))
end Go.Proofs.Ytoghcmcphfmcbaj
