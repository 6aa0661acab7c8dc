/- The laws FnExactDigestOf, FnExactHashEnd and FnExactHashMore, walked over the loaded program. -/
import Derived.Test.YtkidgllmhdfgaamShaQ
namespace Go.Proofs.Ytkidgllmhdfgaam
open Go.RowKit
set_option maxRecDepth 20000 in
set_option maxHeartbeats 400000 in
theorem lawDigestOf_any (s : ByteArray) (w : World) :
    Calls Try.prog 3 #[.string s] w fun e w' => e = .returned (.bool true) ∧ Below w.heap.size w w' := by
  by_cases hl : (1048576 : Int) < (s.size : Int)
  · go_enter Try.func3, Try.ntmps3
    go_wp2
    go_ret
    exact ⟨rfl, Below.refl _ _⟩
  · have C1 := hide (fun W => specDigest_any s (by omega) W)
    have C2 := hide (fun W => implDigest_any s (by omega) W)
    rw [show endV (blocksW first8 s 0 (s.size / 64)) (s.extract (64 * (s.size / 64)) s.size) s.size = digB s from rfl] at C2
    generalize digB s = d at C1 C2
    go_enter Try.func3, Try.ntmps3
    go_wp2_with fail
    refine ((unhide C1) w).mono ?_
    rintro e w1 ⟨rfl, hb1⟩
    go_wp2_with fail
    refine ((unhide C2) w1).mono ?_
    rintro e w2 ⟨rfl, hb2⟩
    have hb12 := hb1.trans (hb2.mono hb1.size)
    clear hb1 hb2
    go_wp2
    go_ret
    exact ⟨rfl, hb12⟩
set_option maxRecDepth 20000 in
set_option maxHeartbeats 800000 in
theorem lawHashEnd_any (a : Hs) (w : World) (h1 : a.st.size ≤ maxLen) (h2 : a.rs.size ≤ maxLen) :
    Calls Try.prog 7 #[hsv a] w fun e w' => e = .returned (.bool true) ∧ Below w.heap.size w w' := by
  have CZ := hide (fun W => szHasher_any a 1048576 W h1 h2 (by decide))
  have CT := hide (fun W => toHasher_any a W)
  have CS := hide (fun W h => specEnd_any a W h1 h)
  have CI := hide (fun W h => implEnd_any a W h1 h)
  generalize (if okH a = true then endV (stOf a.st) a.rs a.ct.toNat else ⟨#[]⟩) = d at CS CI
  unfold hsv
  clear h1 h2
  go_enter Try.func7, Try.ntmps7
  go_wp2_with fail
  obtain ⟨W, hW, hB, hb, hlt⟩ := one_hash w a 29
  rw [hW]
  clear hW
  have HW := hide hB
  refine ((unhide CZ) W).mono ?_
  rintro e w1 ⟨⟨r, rfl, hr⟩, hb1⟩
  have HB1 := hide ((unhide HW).step hb1)
  have k1 := (unhide HB1).c0
  have k2 := (unhide HB1).c1
  have k3 := (unhide HB1).c2
  have HT1 := hide (hb.trans (hb1.mono (Nat.le_of_lt hlt)))
  have hl1 := (unhide HB1).lt
  clear hB hb hb1
  rcases hr with rfl | ⟨m, rfl, hm⟩
  · go_wp2
    go_ret
    exact ⟨rfl, unhide HT1⟩
  · have hz : a.rs.size ≤ 4000000 := by omega
    replace hm := hide hm
    go_wp2_with fail
    refine ((unhide CT) _).mono ?_
    rintro e w2 ⟨rfl, hb2⟩
    unfold hsv
    go_wp2_with fail
    refine ((unhide CS) _ hz).mono ?_
    rintro e w3 ⟨rfl, hb3⟩
    have hb13 := hb2.trans (hb3.mono hb2.size)
    have HB3 := hide ((unhide HB1).step hb13)
    have q1 := (unhide HB3).c0
    have q2 := (unhide HB3).c1
    have q3 := (unhide HB3).c2
    have hl3 := (unhide HB3).lt
    have HT3 := hide ((unhide HT1).trans (hb13.mono (Nat.le_of_lt hl1)))
    clear hb2 hb3 hb13
    go_wp2_with fail
    refine ((unhide CT) _).mono ?_
    rintro e w4 ⟨rfl, hb4⟩
    unfold hsv
    go_wp2_with fail
    refine ((unhide CI) _ hz).mono ?_
    rintro e w5 ⟨rfl, hb5⟩
    have HT5 := hide ((unhide HT3).trans ((hb4.trans (hb5.mono hb4.size)).mono (Nat.le_of_lt hl3)))
    clear hb4 hb5
    go_wp2
    go_ret
    exact ⟨rfl, unhide HT5⟩
def resH (a : Hs) (s : ByteArray) : Hs := if okH a = true ∧ a.ct + (s.size : Int) ≤ 1000000000 then moreH a s else a
theorem specMore_any2 (a : Hs) (s : ByteArray) (W : World) (h1 : a.st.size ≤ maxLen) (h2 : a.rs.size ≤ 1048576) (hs : s.size ≤ 1048576) :
    Calls Try.prog 17 #[hsv a, .string s] W fun e w' => e = .returned (hsv (resH a s)) ∧ Below W.heap.size W w' := by
  unfold resH
  by_cases hok : okH a = true
  · by_cases hc : a.ct + (s.size : Int) ≤ 1000000000
    · rw [if_pos ⟨hok, hc⟩]
      exact specMore_yes a s W h1 h2 (by omega) hok hc
    · rw [if_neg (fun h => hc h.2)]
      exact specMore_no a s W h1 (by unfold maxLen; omega) (by omega) (.inr ⟨hok, by omega⟩)
  · rw [if_neg (fun h => hok h.1)]
    exact specMore_no a s W h1 (by unfold maxLen; omega) (by omega) (.inl (by cases h : okH a with | true => exact absurd h hok | false => rfl))
theorem implMore_any2 (a : Hs) (s : ByteArray) (W : World) (h1 : a.st.size ≤ 1048576) (h2 : a.rs.size ≤ 1048576) (hs : s.size ≤ 1048576) :
    Calls Try.prog 18 #[hsv a, .string s] W fun e w' => e = .returned (hsv (resH a s)) ∧ Below W.heap.size W w' := by
  unfold resH
  by_cases hok : okH a = true
  · by_cases hc : a.ct + (s.size : Int) ≤ 1000000000
    · rw [if_pos ⟨hok, hc⟩]
      exact implMore_yes a s W (by unfold maxLen; omega) h2 hs hok hc
    · rw [if_neg (fun h => hc h.2)]
      exact implMore_no a s W (by omega) (by omega) hs (.inr ⟨hok, by omega⟩)
  · rw [if_neg (fun h => hok h.1)]
    exact implMore_no a s W (by omega) (by omega) hs (.inl (by cases h : okH a with | true => exact absurd h hok | false => rfl))
set_option maxRecDepth 20000 in
set_option maxHeartbeats 800000 in
theorem lawHashMore_any (a : Hs) (s : ByteArray) (w : World) (h1 : a.st.size ≤ maxLen) (h2 : a.rs.size ≤ maxLen) :
    Calls Try.prog 6 #[hsv a, .string s] w fun e w' => e = .returned (.bool true) ∧ Below w.heap.size w w' := by
  have CZ := hide (fun W => szHasher_any a 1048576 W h1 h2 (by decide))
  have CT := hide (fun W => toHasher_any a W)
  have CS := hide (fun W h h' => specMore_any2 a s W h1 h h')
  have CI := hide (fun W => implMore_any2 a s W)
  have CE := hide (fun W => eqHasher_any (resH a s) W)
  generalize resH a s = d at CS CI CE
  by_cases hl : (1048576 : Int) < (s.size : Int)
  · unfold hsv
    clear h1 h2
    go_enter Try.func6, Try.ntmps6
    go_wp2_with fail
    obtain ⟨W, hW, hB, hb, hlt⟩ := one_hash w a 29
    rw [hW]
    clear hW
    go_wp2
    go_ret
    exact ⟨rfl, hb⟩
  have hs : s.size ≤ 1048576 := by omega
  unfold hsv
  clear h1 h2
  go_enter Try.func6, Try.ntmps6
  go_wp2_with fail
  obtain ⟨W, hW, hB, hb, hlt⟩ := one_hash w a 29
  rw [hW]
  clear hW
  have HW := hide hB
  refine ((unhide CZ) W).mono ?_
  rintro e w1 ⟨⟨r, rfl, hr⟩, hb1⟩
  have HB1 := hide ((unhide HW).step hb1)
  have k1 := (unhide HB1).c0
  have k2 := (unhide HB1).c1
  have k3 := (unhide HB1).c2
  have HT1 := hide (hb.trans (hb1.mono (Nat.le_of_lt hlt)))
  have hl1 := (unhide HB1).lt
  clear hB hb hb1
  rcases hr with rfl | ⟨m, rfl, hm⟩
  · go_wp2
    go_ret
    exact ⟨rfl, unhide HT1⟩
  · have hz : a.rs.size ≤ 1048576 := by omega
    have hz2 : a.st.size ≤ 1048576 := by omega
    replace hm := hide hm
    go_wp2_with fail
    refine ((unhide CT) _).mono ?_
    rintro e w2 ⟨rfl, hb2⟩
    unfold hsv
    go_wp2_with fail
    refine ((unhide CS) _ hz hs).mono ?_
    rintro e w3 ⟨rfl, hb3⟩
    have hb13 := hb2.trans (hb3.mono hb2.size)
    have HB3 := hide ((unhide HB1).step hb13)
    have q1 := (unhide HB3).c0
    have q2 := (unhide HB3).c1
    have q3 := (unhide HB3).c2
    have hl3 := (unhide HB3).lt
    have HT3 := hide ((unhide HT1).trans (hb13.mono (Nat.le_of_lt hl1)))
    clear hb2 hb3 hb13
    obtain ⟨ds, dr, dc⟩ := d
    unfold hsv
    dsimp only
    go_wp2_with fail
    obtain ⟨W4, hW4, hB4, hbb4, hl4⟩ := one_hash w3 ⟨ds, dr, dc⟩ 25
    dsimp only at hW4
    rw [hW4]
    clear hW4
    refine ((unhide CT) _).mono ?_
    rintro e w5 ⟨rfl, hb5⟩
    unfold hsv
    go_wp2_with fail
    refine ((unhide CI) _ hz2 hz hs).mono ?_
    rintro e w6 ⟨rfl, hb6⟩
    have hb46 := hb5.trans (hb6.mono hb5.size)
    have HB6 := hide (hB4.step hb46)
    have t0 := (unhide HB6).c0
    have t1 := (unhide HB6).c1
    have t2 := (unhide HB6).c2
    dsimp only at t0 t1 t2
    have hl6 := (unhide HB6).lt
    have hb36 := hbb4.trans (hb46.mono (Nat.le_of_lt hl4))
    have hs36 := hb36.size
    have HT6 := hide ((unhide HT3).trans (hb36.mono (Nat.le_of_lt hl3)))
    have hs06 := (unhide HT6).size
    clear hb5 hb6 hb46 hb36 hB4 hbb4 q1 q2 q3 k1 k2 k3
    unfold hsv
    dsimp only
    go_wp2_with fail
    obtain ⟨W7, hW7, hB7, hbb7, hl7⟩ := one_hash w6 ⟨ds, dr, dc⟩ 25
    dsimp only at hW7
    rw [hW7]
    clear hW7
    have HT7 := hide ((unhide HT6).trans (hbb7.mono hs06))
    unfold hsv at CE
    dsimp only at CE
    refine ((unhide CE) _).mono ?_
    rintro e w8 ⟨rfl, hb8⟩
    have HT8 := hide ((unhide HT7).trans (hb8.mono (Nat.le_trans hs06 (Nat.le_of_lt hl7))))
    clear hb8 hbb7 hB7
    go_wp2
    go_ret
    exact ⟨rfl, unhide HT8⟩
end Go.Proofs.Ytkidgllmhdfgaam
