/- Powers of two, numbers squeezed and stretched, by the given model, over the loaded program. -/
import Derived.Test.YtkiocjbooegajarPck0
import Derived.Test.YtkiocjbooegajarPly1
namespace Go.Proofs.Ytkiocjbooegajar
open Go.RowKit
theorem two_le (n m : Nat) (h : n ≤ m) : 2 ^ n ≤ 2 ^ m := Nat.pow_le_pow_right (by omega) h
set_option maxRecDepth 20000 in
set_option maxHeartbeats 400000 in
theorem two_any (n : Nat) (hn : n ≤ 40) (w : World) :
    Calls Try.prog 10 #[.int .i64 (n : Int)] w fun e w' => e = .returned (.int .i64 ((2 ^ n : Nat) : Int)) ∧ w' = w := by
  obtain ⟨R, hR⟩ : ∃ R : Nat, R = 2 ^ n := ⟨_, rfl⟩
  rw [← hR]
  replace hR := hide hR
  go_enter Try.func10, Try.ntmps10
  go_wp2
  go_loopw [3, 4] (fun tq ti wr => ∃ k p : Nat, k ≤ n ∧ Hid (p = 2 ^ k) ∧ tq = .int .i64 (p : Int) ∧ ti = .int .i64 (k : Int) ∧ wr = w) (fun _ ti _ => n - (intOf ti).toNat)
  case atStart => exact ⟨0, 1, by omega, hide rfl, rfl, rfl, rfl⟩
  case round =>
    obtain ⟨k, p, hk, hp, rfl, rfl, hw⟩ := hrel
    have hw' := hw.symm
    subst hw'
    clear hw
    by_cases hlt : k < n
    · have hk' : (k : Int) < (n : Int) := by omega
      have hb : p ≤ 2 ^ 40 := by rw [unhide hp]; exact two_le k 40 (by omega)
      obtain ⟨p2, hp2⟩ : ∃ p2 : Nat, p2 = 2 * p := ⟨_, rfl⟩
      have w1 : IntKind.i64.wrap (2 * (p : Int)) = (p2 : Int) := by rw [IntKind.wrap_i64]; omega
      have hn2 := hide (show p2 = 2 ^ (k + 1) by rw [hp2, unhide hp, Nat.pow_succ]; omega)
      replace hp2 := hide hp2
      clear hb
      go_wp2
      exact ⟨⟨k + 1, p2, by omega, hn2, by first | rfl | trivial, by go_num, by first | rfl | trivial⟩, by simp [intOf]; omega⟩
    · have hk' : ¬ (k : Int) < (n : Int) := by omega
      have hke : k = n := by omega
      have E := hide (show R = p by rw [unhide hR, unhide hp, hke])
      replace hke := hide hke
      go_wp2
      go_ret
      exact ⟨by rw [unhide E]; rfl, rfl⟩
set_option maxRecDepth 20000 in
set_option maxHeartbeats 400000 in
theorem specSqueeze_any (x d : Int) (w : World) :
    Calls Try.prog 5 #[.int .i64 x, .int .i64 d] w fun e w' => e = .returned (.int .i64 (sqzZ x d)) ∧ w' = w := by
  have C1 := hide (inb9 x 0 3328 w)
  have C2 := hide (inb9 d 1 11 w)
  by_cases h1 : 0 ≤ x ∧ x ≤ 3328
  · rw [show decide ((0 : Int) ≤ x ∧ x ≤ 3328) = true by rw [decide_eq_true_iff]; exact h1] at C1
    by_cases h2 : 1 ≤ d ∧ d ≤ 11
    · rw [show decide ((1 : Int) ≤ d ∧ d ≤ 11) = true by rw [decide_eq_true_iff]; exact h2] at C2
      have E := hide (show sqzZ x d = (sqz x.toNat d.toNat : Int) by unfold sqzZ; rw [if_pos ⟨h1, h2⟩])
      obtain ⟨m, rfl⟩ : ∃ m : Nat, x = (m : Int) := ⟨x.toNat, by omega⟩
      obtain ⟨n, rfl⟩ : ∃ n : Nat, d = (n : Int) := ⟨d.toNat, by omega⟩
      rw [Int.toNat_natCast, Int.toNat_natCast] at E
      have CT := hide (two_any n (by omega) w)
      have hp : 1 ≤ 2 ^ n ∧ 2 ^ n ≤ 2048 := ⟨Nat.pow_pos (by omega), two_le n 11 (by omega)⟩
      unfold sqz at E
      generalize 2 ^ n = p at *
      have hm : p * m ≤ 2048 * 3328 := Nat.mul_le_mul hp.2 (by omega)
      obtain ⟨q, hq⟩ : ∃ q : Nat, q = p * m := ⟨_, rfl⟩
      rw [← hq] at hm E
      obtain ⟨s, hs⟩ : ∃ s : Nat, s = q + 1664 := ⟨_, rfl⟩
      obtain ⟨t, ht⟩ : ∃ t : Nat, t = s / 3329 := ⟨_, rfl⟩
      obtain ⟨u, hu⟩ : ∃ u : Nat, u = t % p := ⟨_, rfl⟩
      rw [← hs, ← ht, ← hu] at E
      have hup : u < p := by rw [hu]; exact Nat.mod_lt _ (by omega)
      have w1 : IntKind.i64.wrap ((p : Int) * (m : Int)) = (q : Int) := by rw [show (p : Int) * (m : Int) = (q : Int) by rw [hq]; exact (Int.natCast_mul p m).symm, IntKind.wrap_i64]; omega
      have w2 : IntKind.i64.wrap ((q : Int) + 1664) = (s : Int) := by rw [IntKind.wrap_i64]; omega
      have w3 : (s : Int).tdiv 3329 = (t : Int) := by rw [Int.tdiv_eq_ediv_of_nonneg (by omega)]; omega
      have w3' : (s : Int) / 3329 = (t : Int) := by omega
      have w4 : IntKind.i64.wrap (t : Int) = (t : Int) := by rw [IntKind.wrap_i64]; omega
      have w5' : (t : Int) % (p : Int) = (u : Int) := by rw [hu]; exact (Int.natCast_emod t p).symm
      have w5 : (t : Int).tmod (p : Int) = (u : Int) := by rw [Int.tmod_eq_emod_of_nonneg (by omega)]; exact w5'
      have w6 : IntKind.i64.wrap (u : Int) = (u : Int) := by rw [IntKind.wrap_i64]; omega
      have w7 : ¬ (p : Int) = 0 := by omega
      replace hq := hide hq; replace hs := hide hs; replace ht := hide ht; replace hu := hide hu
      go_enter Try.func5, Try.ntmps5
      go_wp2_with fail
      refine (unhide C1).mono ?_
      rintro e w1 ⟨rfl, hw1⟩
      have hw2 := hw1.symm
      subst hw2
      clear hw1
      go_wp2_with fail
      refine (unhide C2).mono ?_
      rintro e w1 ⟨rfl, hw1⟩
      have hw2 := hw1.symm
      subst hw2
      clear hw1
      go_wp2_with fail
      refine (unhide CT).mono ?_
      rintro e w1 ⟨rfl, hw1⟩
      have hw2 := hw1.symm
      subst hw2
      clear hw1
      go_wp2_with fail
      refine (unhide CT).mono ?_
      rintro e w1 ⟨rfl, hw1⟩
      have hw2 := hw1.symm
      subst hw2
      clear hw1
      go_wp2
      go_ret
      exact ⟨by rw [unhide E]; rfl, rfl⟩
    · rw [show decide ((1 : Int) ≤ d ∧ d ≤ 11) = false by rw [decide_eq_false_iff_not]; exact h2] at C2
      have E := hide (show sqzZ x d = 0 by unfold sqzZ; rw [if_neg (fun h => h2 h.2)])
      rw [unhide E]
      go_enter Try.func5, Try.ntmps5
      go_wp2_with fail
      refine (unhide C1).mono ?_
      rintro e w1 ⟨rfl, hw1⟩
      have hw2 := hw1.symm
      subst hw2
      clear hw1
      go_wp2_with fail
      refine (unhide C2).mono ?_
      rintro e w1 ⟨rfl, hw1⟩
      have hw2 := hw1.symm
      subst hw2
      clear hw1
      go_wp2
      go_ret
      exact ⟨rfl, rfl⟩
  · rw [show decide ((0 : Int) ≤ x ∧ x ≤ 3328) = false by rw [decide_eq_false_iff_not]; exact h1] at C1
    have E := hide (show sqzZ x d = 0 by unfold sqzZ; rw [if_neg (fun h => h1 h.1)])
    rw [unhide E]
    go_enter Try.func5, Try.ntmps5
    go_wp2_with fail
    refine (unhide C1).mono ?_
    rintro e w1 ⟨rfl, hw1⟩
    have hw2 := hw1.symm
    subst hw2
    clear hw1
    go_wp2
    go_ret
    exact ⟨rfl, rfl⟩
set_option maxRecDepth 20000 in
set_option maxHeartbeats 400000 in
theorem specStretch_any (y d : Int) (w : World) :
    Calls Try.prog 7 #[.int .i64 y, .int .i64 d] w fun e w' => e = .returned (.int .i64 (strZ y d)) ∧ w' = w := by
  have C1 := hide (inb9 d 1 11 w)
  by_cases h1 : 1 ≤ d ∧ d ≤ 11
  · rw [show decide ((1 : Int) ≤ d ∧ d ≤ 11) = true by rw [decide_eq_true_iff]; exact h1] at C1
    obtain ⟨n, rfl⟩ : ∃ n : Nat, d = (n : Int) := ⟨d.toNat, by omega⟩
    have CT := hide (two_any n (by omega) w)
    have hp : 1 ≤ 2 ^ n ∧ 2 ^ n ≤ 2048 := ⟨Nat.pow_pos (by omega), two_le n 11 (by omega)⟩
    obtain ⟨p, hpp⟩ : ∃ p : Nat, p = 2 ^ n := ⟨_, rfl⟩
    rw [← hpp] at CT hp
    have C2 := hide (inb9 y 0 ((p : Int) - 1) w)
    obtain ⟨p1, hp1⟩ : ∃ p1 : Int, p1 = (p : Int) - 1 := ⟨_, rfl⟩
    rw [← hp1] at C2
    have w0 : IntKind.i64.wrap ((p : Int) - 1) = p1 := by rw [IntKind.wrap_i64]; omega
    by_cases h2 : 0 ≤ y ∧ y ≤ p1
    · rw [show decide ((0 : Int) ≤ y ∧ y ≤ p1) = true by rw [decide_eq_true_iff]; exact h2] at C2
      have E := hide (show strZ y (n : Int) = (str y.toNat n : Int) by
        unfold strZ
        rw [Int.toNat_natCast, if_pos ⟨h1, h2.1, by rw [show (2 : Int) ^ n = ((2 ^ n : Nat) : Int) by rw [Int.natCast_pow]; rfl, ← hpp]; omega⟩])
      obtain ⟨m, rfl⟩ : ∃ m : Nat, y = (m : Int) := ⟨y.toNat, by omega⟩
      rw [Int.toNat_natCast] at E
      obtain ⟨n1, hn1⟩ : ∃ n1 : Nat, n1 = n - 1 := ⟨_, rfl⟩
      have CU := hide (two_any n1 (by omega) w)
      have hr : 1 ≤ 2 ^ n1 ∧ 2 ^ n1 ≤ 2048 := ⟨Nat.pow_pos (by omega), two_le n1 11 (by omega)⟩
      unfold str at E
      rw [← hn1, ← hpp] at E
      generalize 2 ^ n1 = r at *
      obtain ⟨q, hq⟩ : ∃ q : Nat, q = 3329 * m := ⟨_, rfl⟩
      obtain ⟨s, hs⟩ : ∃ s : Nat, s = q + r := ⟨_, rfl⟩
      obtain ⟨t, ht⟩ : ∃ t : Nat, t = s / p := ⟨_, rfl⟩
      rw [← hq, ← hs, ← ht] at E
      have htb : t ≤ s := by rw [ht]; exact Nat.div_le_self _ _
      have w1 : IntKind.i64.wrap (3329 * (m : Int)) = (q : Int) := by rw [IntKind.wrap_i64]; omega
      have w2 : IntKind.i64.wrap ((n : Int) - 1) = (n1 : Int) := by rw [IntKind.wrap_i64]; omega
      have w3 : IntKind.i64.wrap ((q : Int) + (r : Int)) = (s : Int) := by rw [IntKind.wrap_i64]; omega
      have w4' : (s : Int) / (p : Int) = (t : Int) := by rw [ht]; exact (Int.natCast_ediv s p).symm
      have w4 : (s : Int).tdiv (p : Int) = (t : Int) := by rw [Int.tdiv_eq_ediv_of_nonneg (by omega)]; exact w4'
      have w5 : IntKind.i64.wrap (t : Int) = (t : Int) := by rw [IntKind.wrap_i64]; omega
      have w7 : ¬ (p : Int) = 0 := by omega
      replace hq := hide hq; replace hs := hide hs; replace ht := hide ht; replace hn1 := hide hn1; replace hp1 := hide hp1; replace hpp := hide hpp
      go_enter Try.func7, Try.ntmps7
      go_wp2_with fail
      refine (unhide C1).mono ?_
      rintro e w1 ⟨rfl, hw1⟩
      have hw2 := hw1.symm
      subst hw2
      clear hw1
      go_wp2_with fail
      refine (unhide CT).mono ?_
      rintro e w1 ⟨rfl, hw1⟩
      have hw2 := hw1.symm
      subst hw2
      clear hw1
      go_wp2_with fail
      refine (unhide C2).mono ?_
      rintro e w1 ⟨rfl, hw1⟩
      have hw2 := hw1.symm
      subst hw2
      clear hw1
      go_wp2_with fail
      refine (unhide CU).mono ?_
      rintro e w1 ⟨rfl, hw1⟩
      have hw2 := hw1.symm
      subst hw2
      clear hw1
      go_wp2_with fail
      refine (unhide CT).mono ?_
      rintro e w1 ⟨rfl, hw1⟩
      have hw2 := hw1.symm
      subst hw2
      clear hw1
      go_wp2
      go_ret
      exact ⟨by rw [unhide E]; rfl, rfl⟩
    · rw [show decide ((0 : Int) ≤ y ∧ y ≤ p1) = false by rw [decide_eq_false_iff_not]; exact h2] at C2
      have E := hide (show strZ y (n : Int) = 0 by
        unfold strZ
        rw [Int.toNat_natCast, if_neg (fun h => h2 ⟨h.2.1, by have h3 := h.2.2; rw [show (2 : Int) ^ n = ((2 ^ n : Nat) : Int) by rw [Int.natCast_pow]; rfl, ← hpp] at h3; omega⟩)])
      rw [unhide E]
      replace hp1 := hide hp1; replace hpp := hide hpp
      go_enter Try.func7, Try.ntmps7
      go_wp2_with fail
      refine (unhide C1).mono ?_
      rintro e w1 ⟨rfl, hw1⟩
      have hw2 := hw1.symm
      subst hw2
      clear hw1
      go_wp2_with fail
      refine (unhide CT).mono ?_
      rintro e w1 ⟨rfl, hw1⟩
      have hw2 := hw1.symm
      subst hw2
      clear hw1
      go_wp2_with fail
      refine (unhide C2).mono ?_
      rintro e w1 ⟨rfl, hw1⟩
      have hw2 := hw1.symm
      subst hw2
      clear hw1
      go_wp2
      go_ret
      exact ⟨rfl, rfl⟩
  · rw [show decide ((1 : Int) ≤ d ∧ d ≤ 11) = false by rw [decide_eq_false_iff_not]; exact h1] at C1
    have E := hide (show strZ y d = 0 by unfold strZ; rw [if_neg (fun h => h1 h.1)])
    rw [unhide E]
    go_enter Try.func7, Try.ntmps7
    go_wp2_with fail
    refine (unhide C1).mono ?_
    rintro e w1 ⟨rfl, hw1⟩
    have hw2 := hw1.symm
    subst hw2
    clear hw1
    go_wp2
    go_ret
    exact ⟨rfl, rfl⟩
end Go.Proofs.Ytkiocjbooegajar
