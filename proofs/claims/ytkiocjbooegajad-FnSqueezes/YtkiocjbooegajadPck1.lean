/- Powers of two, numbers squeezed and stretched, by the given model, over the loaded program. -/
import Derived.Test.YtkiocjbooegajadPck0
import Derived.Test.YtkiocjbooegajadPly1
namespace Go.Proofs.Ytkiocjbooegajad
open Go.RowKit
theorem two_le (n m : Nat) (h : n ≤ m) : 2 ^ n ≤ 2 ^ m := Nat.pow_le_pow_right (by omega) h
set_option maxRecDepth 20000 in
set_option maxHeartbeats 400000 in
theorem two_any (n : Nat) (hn : n ≤ 40) (w : World) :
    Calls Try.prog 31 #[.int .i64 (n : Int)] w fun e w' => e = .returned (.int .i64 ((2 ^ n : Nat) : Int)) ∧ w' = w := by
  obtain ⟨R, hR⟩ : ∃ R : Nat, R = 2 ^ n := ⟨_, rfl⟩
  rw [← hR]
  replace hR := hide hR
  go_enter Try.func31, Try.ntmps31
  go_wp2
  go_loopw [3, 4] (fun tq ti wr => ∃ k p : Nat, k ≤ n ∧ Hid (p = 2 ^ k) ∧ tq = .int .i64 (p : Int) ∧ ti = .int .i64 (k : Int) ∧ wr = w) (fun _ ti _ => n - (intOf ti).toNat)
  case atStart => exact ⟨0, 1, by omega, hide rfl, rfl, rfl, rfl⟩
  case round =>
    obtain ⟨k, p, hk, hp, rfl, rfl, hw⟩ := hrel
    have hw' := hw.symm
    subst hw'
    clear hw
    by_cases hlt : k < n
    · have hk' : (k : Int) < (n : Int) := by omega
      have hb : p ≤ 2 ^ 40 := by rw [unhide hp]; exact two_le k 40 (by omega)
      obtain ⟨p2, hp2⟩ : ∃ p2 : Nat, p2 = 2 * p := ⟨_, rfl⟩
      have w1 : IntKind.i64.wrap (2 * (p : Int)) = (p2 : Int) := by rw [IntKind.wrap_i64]; omega
      have hn2 := hide (show p2 = 2 ^ (k + 1) by rw [hp2, unhide hp, Nat.pow_succ]; omega)
      replace hp2 := hide hp2
      clear hb
      go_wp2
      exact ⟨⟨k + 1, p2, by omega, hn2, by first | rfl | trivial, by go_num, by first | rfl | trivial⟩, by simp [intOf]; omega⟩
    · have hk' : ¬ (k : Int) < (n : Int) := by omega
      have hke : k = n := by omega
      have E := hide (show R = p by rw [unhide hR, unhide hp, hke])
      replace hke := hide hke
      go_wp2
      go_ret
      exact ⟨by rw [unhide E]; rfl, rfl⟩
set_option maxRecDepth 20000 in
set_option maxHeartbeats 400000 in
theorem specSqueeze_any (x d : Int) (w : World) :
    Calls Try.prog 14 #[.int .i64 x, .int .i64 d] w fun e w' => e = .returned (.int .i64 (sqzZ x d)) ∧ w' = w := by
  have C1 := hide (inb9 x 0 3328 w)
  have C2 := hide (inb9 d 1 11 w)
  by_cases h1 : 0 ≤ x ∧ x ≤ 3328
  · rw [show decide ((0 : Int) ≤ x ∧ x ≤ 3328) = true by rw [decide_eq_true_iff]; exact h1] at C1
    by_cases h2 : 1 ≤ d ∧ d ≤ 11
    · rw [show decide ((1 : Int) ≤ d ∧ d ≤ 11) = true by rw [decide_eq_true_iff]; exact h2] at C2
      have E := hide (show sqzZ x d = (sqz x.toNat d.toNat : Int) by unfold sqzZ; rw [if_pos ⟨h1, h2⟩])
      obtain ⟨m, rfl⟩ : ∃ m : Nat, x = (m : Int) := ⟨x.toNat, by omega⟩
      obtain ⟨n, rfl⟩ : ∃ n : Nat, d = (n : Int) := ⟨d.toNat, by omega⟩
      rw [Int.toNat_natCast, Int.toNat_natCast] at E
      have CT := hide (two_any n (by omega) w)
      have hp : 1 ≤ 2 ^ n ∧ 2 ^ n ≤ 2048 := ⟨Nat.pow_pos (by omega), two_le n 11 (by omega)⟩
      unfold sqz at E
      generalize 2 ^ n = p at *
      have hm : p * m ≤ 2048 * 3328 := Nat.mul_le_mul hp.2 (by omega)
      obtain ⟨q, hq⟩ : ∃ q : Nat, q = p * m := ⟨_, rfl⟩
      rw [← hq] at hm E
      obtain ⟨s, hs⟩ : ∃ s : Nat, s = q + 1664 := ⟨_, rfl⟩
      obtain ⟨t, ht⟩ : ∃ t : Nat, t = s / 3329 := ⟨_, rfl⟩
      obtain ⟨u, hu⟩ : ∃ u : Nat, u = t % p := ⟨_, rfl⟩
      rw [← hs, ← ht, ← hu] at E
      have hup : u < p := by rw [hu]; exact Nat.mod_lt _ (by omega)
      have w1 : IntKind.i64.wrap ((p : Int) * (m : Int)) = (q : Int) := by rw [show (p : Int) * (m : Int) = (q : Int) by rw [hq]; exact (Int.natCast_mul p m).symm, IntKind.wrap_i64]; omega
      have w2 : IntKind.i64.wrap ((q : Int) + 1664) = (s : Int) := by rw [IntKind.wrap_i64]; omega
      have w3 : (s : Int).tdiv 3329 = (t : Int) := by rw [Int.tdiv_eq_ediv_of_nonneg (by omega)]; omega
      have w3' : (s : Int) / 3329 = (t : Int) := by omega
      have w4 : IntKind.i64.wrap (t : Int) = (t : Int) := by rw [IntKind.wrap_i64]; omega
      have w5' : (t : Int) % (p : Int) = (u : Int) := by rw [hu]; exact (Int.natCast_emod t p).symm
      have w5 : (t : Int).tmod (p : Int) = (u : Int) := by rw [Int.tmod_eq_emod_of_nonneg (by omega)]; exact w5'
      have w6 : IntKind.i64.wrap (u : Int) = (u : Int) := by rw [IntKind.wrap_i64]; omega
      have w7 : ¬ (p : Int) = 0 := by omega
      replace hq := hide hq; replace hs := hide hs; replace ht := hide ht; replace hu := hide hu
      go_enter Try.func14, Try.ntmps14
      go_wp2_with fail
      refine (unhide C1).mono ?_
      rintro e w1 ⟨rfl, hw1⟩
      have hw2 := hw1.symm
      subst hw2
      clear hw1
      go_wp2_with fail
      refine (unhide C2).mono ?_
      rintro e w1 ⟨rfl, hw1⟩
      have hw2 := hw1.symm
      subst hw2
      clear hw1
      go_wp2_with fail
      refine (unhide CT).mono ?_
      rintro e w1 ⟨rfl, hw1⟩
      have hw2 := hw1.symm
      subst hw2
      clear hw1
      go_wp2_with fail
      refine (unhide CT).mono ?_
      rintro e w1 ⟨rfl, hw1⟩
      have hw2 := hw1.symm
      subst hw2
      clear hw1
      go_wp2
      go_ret
      exact ⟨by rw [unhide E]; rfl, rfl⟩
    · rw [show decide ((1 : Int) ≤ d ∧ d ≤ 11) = false by rw [decide_eq_false_iff_not]; exact h2] at C2
      have E := hide (show sqzZ x d = 0 by unfold sqzZ; rw [if_neg (fun h => h2 h.2)])
      rw [unhide E]
      go_enter Try.func14, Try.ntmps14
      go_wp2_with fail
      refine (unhide C1).mono ?_
      rintro e w1 ⟨rfl, hw1⟩
      have hw2 := hw1.symm
      subst hw2
      clear hw1
      go_wp2_with fail
      refine (unhide C2).mono ?_
      rintro e w1 ⟨rfl, hw1⟩
      have hw2 := hw1.symm
      subst hw2
      clear hw1
      go_wp2
      go_ret
      exact ⟨rfl, rfl⟩
  · rw [show decide ((0 : Int) ≤ x ∧ x ≤ 3328) = false by rw [decide_eq_false_iff_not]; exact h1] at C1
    have E := hide (show sqzZ x d = 0 by unfold sqzZ; rw [if_neg (fun h => h1 h.1)])
    rw [unhide E]
    go_enter Try.func14, Try.ntmps14
    go_wp2_with fail
    refine (unhide C1).mono ?_
    rintro e w1 ⟨rfl, hw1⟩
    have hw2 := hw1.symm
    subst hw2
    clear hw1
    go_wp2
    go_ret
    exact ⟨rfl, rfl⟩
end Go.Proofs.Ytkiocjbooegajad
