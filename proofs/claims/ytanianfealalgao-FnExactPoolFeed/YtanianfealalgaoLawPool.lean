/- The laws FnExactPoolNew, PoolFeed, walked over the loaded program; what the project's functions answer is a premise of each. -/
import Derived.Test.YtanianfealalgaoPol3
namespace Go.Proofs.Ytanianfealalgao
open Go.RowKit
set_option maxRecDepth 20000 in
set_option maxHeartbeats 400000 in
theorem lawPoolNew_any (s : ByteArray) (CI : s.size ≤ 1048576 → ∀ W : World, Calls Try.prog 8 #[.string s] W fun e w' => e = .returned (hsv (newP s)) ∧ Below W.heap.size W w') (w : World) :
    Calls Try.prog 3 #[.string s] w fun e w' => e = .returned (.bool true) ∧ Below w.heap.size w w' := by
  by_cases hl : (1048576 : Int) < (s.size : Int)
  · go_enter Try.func3, Try.ntmps3
    go_wp2
    go_ret
    exact ⟨rfl, Below.refl _ _⟩
  have hs : s.size ≤ 1048576 := by omega
  have CS := hide (fun W => specPoolNew_any s hs W)
  replace CI := hide (CI hs)
  have CE := hide (fun W => eqPool_any (newP s) W)
  generalize newP s = d at CS CI CE
  obtain ⟨ds, dr, dc⟩ := d
  unfold hsv at CS CI CE
  dsimp only at CS CI CE
  go_enter Try.func3, Try.ntmps3
  go_wp2_with fail
  refine ((unhide CS) _).mono ?_
  rintro e w1 ⟨rfl, hb1⟩
  go_wp2_with fail
  obtain ⟨W1, hW1, hB1, hbb1, hl1⟩ := one_hash w1 ⟨ds, dr, dc⟩ 23
  dsimp only at hW1
  rw [hW1]
  clear hW1
  refine ((unhide CI) _).mono ?_
  rintro e w2 ⟨rfl, hb2⟩
  have hB2 := hB1.step hb2
  have HT2 := (hb1.trans (hbb1.mono hb1.size)).trans (hb2.mono (Nat.le_of_lt (Nat.lt_of_le_of_lt hb1.size hl1)))
  have hl2 := hB2.lt
  have hs2 := HT2.size
  replace hB2 := hide hB2
  replace HT2 := hide HT2
  clear hb1 hbb1 hB1 hb2 hl1
  have k0 := (unhide hB2).c0
  have k1 := (unhide hB2).c1
  have k2 := (unhide hB2).c2
  dsimp only at k0 k1 k2
  go_wp2_with fail
  obtain ⟨W3, hW3, hB3, hbb3, hl3⟩ := one_hash w2 ⟨ds, dr, dc⟩ 23
  dsimp only at hW3
  rw [hW3]
  clear hW3
  have HT3 := hide ((unhide HT2).trans (hbb3.mono hs2))
  refine ((unhide CE) _).mono ?_
  rintro e w4 ⟨rfl, hb4⟩
  have HT4 := hide ((unhide HT3).trans (hb4.mono (Nat.le_trans hs2 (Nat.le_of_lt hl3))))
  clear hb4 hbb3 hB3
  go_wp2
  go_ret
  exact ⟨rfl, unhide HT4⟩
set_option maxRecDepth 20000 in
set_option maxHeartbeats 800000 in
theorem lawPoolFeed_any (a : Hs) (s : ByteArray) (CI : ∀ W : World, a.st.size ≤ 1048576 → a.rs.size ≤ 1048576 → s.size ≤ 1048576 → Calls Try.prog 17 #[hsv a, .string s] W fun e w' => e = .returned (hsv (feedP a s)) ∧ Below W.heap.size W w') (w : World) (h1 : a.st.size ≤ maxLen) (h2 : a.rs.size ≤ maxLen) :
    Calls Try.prog 6 #[hsv a, .string s] w fun e w' => e = .returned (.bool true) ∧ Below w.heap.size w w' := by
  have CZ := hide (fun W => szPool_any a 1048576 W h1 h2 (by decide))
  have CT := hide (fun W => toPool_any a W)
  have CS := hide (fun (W : World) (h : a.rs.size ≤ 1048576) (h' : s.size ≤ 1048576) => specPoolFeed_any a s h1 (by unfold maxLen; exact Nat.le_trans h (by decide)) h' W)
  replace CI := hide CI
  have CE := hide (fun W => eqPool_any (feedP a s) W)
  generalize feedP a s = d at CS CI CE
  by_cases hl : (1048576 : Int) < (s.size : Int)
  · unfold hsv
    clear h1 h2
    go_enter Try.func6, Try.ntmps6
    go_wp2_with fail
    obtain ⟨W, hW, hB, hb, hlt⟩ := one_hash w a 27
    rw [hW]
    clear hW
    go_wp2
    go_ret
    exact ⟨rfl, hb⟩
  have hs : s.size ≤ 1048576 := by omega
  unfold hsv
  clear h1 h2
  go_enter Try.func6, Try.ntmps6
  go_wp2_with fail
  obtain ⟨W, hW, hB, hb, hlt⟩ := one_hash w a 27
  rw [hW]
  clear hW
  have HW := hide hB
  refine ((unhide CZ) W).mono ?_
  rintro e w1 ⟨⟨r, rfl, hr⟩, hb1⟩
  have HB1 := hide ((unhide HW).step hb1)
  have k1 := (unhide HB1).c0
  have k2 := (unhide HB1).c1
  have k3 := (unhide HB1).c2
  have HT1 := hide (hb.trans (hb1.mono (Nat.le_of_lt hlt)))
  have hl1 := (unhide HB1).lt
  clear hB hb hb1
  rcases hr with rfl | ⟨m, rfl, hm⟩
  · go_wp2
    go_ret
    exact ⟨rfl, unhide HT1⟩
  · have hz : a.rs.size ≤ 1048576 := by omega
    have hz2 : a.st.size ≤ 1048576 := by omega
    replace hm := hide hm
    go_wp2_with fail
    refine ((unhide CT) _).mono ?_
    rintro e w2 ⟨rfl, hb2⟩
    unfold hsv
    go_wp2_with fail
    refine ((unhide CS) _ hz hs).mono ?_
    rintro e w3 ⟨rfl, hb3⟩
    have hb13 := hb2.trans (hb3.mono hb2.size)
    have HB3 := hide ((unhide HB1).step hb13)
    have q1 := (unhide HB3).c0
    have q2 := (unhide HB3).c1
    have q3 := (unhide HB3).c2
    have hl3 := (unhide HB3).lt
    have HT3 := hide ((unhide HT1).trans (hb13.mono (Nat.le_of_lt hl1)))
    clear hb2 hb3 hb13
    obtain ⟨ds, dr, dc⟩ := d
    unfold hsv
    dsimp only
    go_wp2_with fail
    obtain ⟨W4, hW4, hB4, hbb4, hl4⟩ := one_hash w3 ⟨ds, dr, dc⟩ 23
    dsimp only at hW4
    rw [hW4]
    clear hW4
    refine ((unhide CT) _).mono ?_
    rintro e w5 ⟨rfl, hb5⟩
    unfold hsv
    go_wp2_with fail
    refine ((unhide CI) _ hz2 hz hs).mono ?_
    rintro e w6 ⟨rfl, hb6⟩
    have hb46 := hb5.trans (hb6.mono hb5.size)
    have HB6 := hide (hB4.step hb46)
    have t0 := (unhide HB6).c0
    have t1 := (unhide HB6).c1
    have t2 := (unhide HB6).c2
    dsimp only at t0 t1 t2
    have hl6 := (unhide HB6).lt
    have hb36 := hbb4.trans (hb46.mono (Nat.le_of_lt hl4))
    have hs36 := hb36.size
    have HT6 := hide ((unhide HT3).trans (hb36.mono (Nat.le_of_lt hl3)))
    have hs06 := (unhide HT6).size
    clear hb5 hb6 hb46 hb36 hB4 hbb4 q1 q2 q3 k1 k2 k3
    unfold hsv
    dsimp only
    go_wp2_with fail
    obtain ⟨W7, hW7, hB7, hbb7, hl7⟩ := one_hash w6 ⟨ds, dr, dc⟩ 23
    dsimp only at hW7
    rw [hW7]
    clear hW7
    have HT7 := hide ((unhide HT6).trans (hbb7.mono hs06))
    unfold hsv at CE
    dsimp only at CE
    refine ((unhide CE) _).mono ?_
    rintro e w8 ⟨rfl, hb8⟩
    have HT8 := hide ((unhide HT7).trans (hb8.mono (Nat.le_trans hs06 (Nat.le_of_lt hl7))))
    clear hb8 hbb7 hB7
    go_wp2
    go_ret
    exact ⟨rfl, unhide HT8⟩
end Go.Proofs.Ytanianfealalgao
