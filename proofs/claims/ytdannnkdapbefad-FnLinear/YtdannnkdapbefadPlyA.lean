/- Polynomials by the project: numbers modulo 3329, powers, bits turned, over the loaded program. -/
import Derived.Test.YtdannnkdapbefadPly5
import Derived.Test.YtdannnkdapbefadPly2
namespace Go.Proofs.Ytdannnkdapbefad
open Go.RowKit
theorem around_parts (n : Int) : (0 ≤ n.tmod 3329 ∧ n.tmod 3329 = n % 3329) ∨ (n.tmod 3329 < 0 ∧ n.tmod 3329 + 3329 = n % 3329) := by
  have e := @Int.tmod_eq_emod n 3329
  split at e
  · left; rw [e]; omega
  · rename_i hn
    right
    have h0 : ¬ 3329 ∣ n := fun hd => hn (.inr hd)
    have e2 : n.tmod 3329 = n % 3329 - 3329 := e
    rw [e2]
    omega
theorem around_any (n : Int) (w : World) :
    Calls Try.prog 23 #[.int .i64 n] w fun e w' => e = .returned (.int .i64 (n % 3329)) ∧ w' = w := by
  have hp := around_parts n
  have hm : 0 ≤ n % 3329 ∧ n % 3329 ≤ 3328 := by omega
  obtain ⟨m, hmm⟩ : ∃ m, m = n % 3329 := ⟨_, rfl⟩
  obtain ⟨x, hx⟩ : ∃ x, x = n.tmod 3329 := ⟨_, rfl⟩
  rw [← hmm] at hp hm ⊢
  rw [← hx] at hp
  have hx' := hx.symm
  have ew : IntKind.i64.wrap x = x := by rw [IntKind.wrap_i64]; omega
  clear hx
  replace hmm := hide hmm
  rcases hp with ⟨h1, h2⟩ | ⟨h1, h2⟩
  · have h3 : ¬ x < 0 := by omega
    subst h2
    go_enter Try.func23, Try.ntmps23
    go_wp2
    go_ret
    exact ⟨rfl, rfl⟩
  · have e3 : IntKind.i64.wrap (x + 3329) = m := by rw [h2, IntKind.wrap_i64]; omega
    replace h2 := hide h2
    go_enter Try.func23, Try.ntmps23
    go_wp2
    go_ret
    exact ⟨rfl, rfl⟩
set_option maxRecDepth 20000 in
set_option maxHeartbeats 800000 in
theorem implPowQ_w (b e : Int) (W : World) :
    Calls Try.prog 24 #[.int .i64 b, .int .i64 e] W fun x w' => x = .returned (.int .i64 (powQ b e)) ∧ w' = W := by
  have CI := hide (fun n => around_any n W)
  by_cases he : 0 ≤ e ∧ e ≤ 1000000000
  · have EQ := hide (show powQ b e = powM (b % 3329) e.toNat by unfold powQ; rw [if_pos he])
    obtain ⟨n, rfl⟩ : ∃ n : Nat, e = (n : Int) := ⟨e.toNat, by omega⟩
    rw [Int.toNat_natCast] at EQ
    have hn : n ≤ 1000000000 := by omega
    have g1 : ¬ (n : Int) < 0 := by omega
    have g2 : ¬ (1000000000 : Int) < (n : Int) := by omega
    obtain ⟨m, hm⟩ : ∃ m, m = b % 3329 := ⟨_, rfl⟩
    have hm1 : 0 ≤ m ∧ m ≤ 3328 := by omega
    have CB := hide (unhide CI b)
    rw [← hm] at EQ CB
    have hstart := hide (show AlQ (1 * m ^ n) (m ^ n) by rw [Int.one_mul]; exact AlQ.refl _)
    replace hm := hide hm
    go_enter Try.func24, Try.ntmps24
    go_wp2_with (go_at_call 23; refine (unhide CB).mono ?_; rintro e w1 ⟨rfl, hw1⟩; have hw2 := hw1.symm; subst hw2; clear hw1)
    clear CB
    go_loopw [1, 5, 6] (fun te tq tb wr => ∃ (B O : Int) (E : Nat), (0 ≤ B ∧ B ≤ 3328) ∧ (0 ≤ O ∧ O ≤ 3328) ∧ E ≤ 1000000000 ∧ tb = .int .i64 B ∧ te = .int .i64 (E : Int) ∧ tq = .int .i64 O ∧ Hid (AlQ (O * B ^ E) (m ^ n)) ∧ wr = W) (fun te _ _ _ => (intOf te).toNat)
    case atStart => exact ⟨m, 1, n, hm1, by omega, hn, rfl, rfl, rfl, hstart, rfl⟩
    case round =>
      clear hstart
      obtain ⟨B, O, E, hB, hO, hE, rfl, rfl, rfl, HA, hw⟩ := hrel
      have hw' := hw.symm
      subst hw'
      clear hw
      by_cases hpos : 0 < E
      · have hpos' : (0 : Int) < (E : Int) := by omega
        have q1 : 0 ≤ B * B := Int.mul_nonneg hB.1 hB.1
        have q2 : B * B ≤ 3328 * 3328 := Int.mul_le_mul hB.2 hB.2 hB.1 (by omega)
        obtain ⟨s, hs⟩ : ∃ s, s = B * B := ⟨_, rfl⟩
        rw [← hs] at q1 q2
        obtain ⟨s2, hs2⟩ : ∃ s2, s2 = s % 3329 := ⟨_, rfl⟩
        have w1 : IntKind.i64.wrap (B * B) = s := by rw [← hs, IntKind.wrap_i64]; omega
        have CS := hide (unhide CI s)
        rw [← hs2] at CS
        obtain ⟨h, hh⟩ : ∃ h, h = E / 2 := ⟨_, rfl⟩
        have w4 : (E : Int).tdiv 2 = (h : Int) := by rw [Int.tdiv_eq_ediv_of_nonneg (by omega)]; omega
        have w4' : (E : Int) / 2 = (h : Int) := by omega
        have w5 : IntKind.i64.wrap (h : Int) = (h : Int) := by rw [IntKind.wrap_i64]; omega
        have hs2b : 0 ≤ s2 ∧ s2 ≤ 3328 := by omega
        have hhb : h ≤ 1000000000 ∧ h < E := by omega
        by_cases hodd : E % 2 = 1
        · have HA2 := alq_odd (unhide HA) hodd
          have r1 : 0 ≤ O * B := Int.mul_nonneg hO.1 hB.1
          have r2 : O * B ≤ 3328 * 3328 := Int.mul_le_mul hO.2 hB.2 hB.1 (by omega)
          obtain ⟨p, hp⟩ : ∃ p, p = O * B := ⟨_, rfl⟩
          rw [← hp] at r1 r2
          obtain ⟨p2, hp2⟩ : ∃ p2, p2 = p % 3329 := ⟨_, rfl⟩
          rw [← hp, ← hs, ← hp2, ← hs2, ← hh] at HA2
          have v1 : IntKind.i64.wrap (O * B) = p := by rw [← hp, IntKind.wrap_i64]; omega
          have CP := hide (unhide CI p)
          rw [← hp2] at CP
          have v4 : (E : Int).tmod 2 = 1 := by rw [Int.tmod_eq_emod_of_nonneg (by omega)]; omega
          have v4' : (E : Int) % 2 = 1 := by omega
          have hp2b : 0 ≤ p2 ∧ p2 ≤ 3328 := by omega
          replace HA2 := hide HA2
          replace hs := hide hs; replace hs2 := hide hs2; replace hh := hide hh; replace hp := hide hp; replace hp2 := hide hp2; replace hodd := hide hodd
          clear HA CI
          go_wp2_with fail
          refine (unhide CP).mono ?_
          rintro e w1 ⟨rfl, hw1⟩
          have hw2 := hw1.symm
          subst hw2
          clear hw1
          go_wp2_with fail
          refine (unhide CS).mono ?_
          rintro e w1 ⟨rfl, hw1⟩
          have hw2 := hw1.symm
          subst hw2
          clear hw1
          go_wp2
          exact ⟨⟨s2, p2, h, hs2b, hp2b, hhb.1, by first | rfl | trivial, by go_num, by first | rfl | trivial, HA2, by first | rfl | trivial⟩, by simp [intOf]; omega⟩
        · have HA2 := alq_even (unhide HA) hodd
          rw [← hs, ← hs2, ← hh] at HA2
          have v4 : (E : Int).tmod 2 = 0 := by rw [Int.tmod_eq_emod_of_nonneg (by omega)]; omega
          have v4' : (E : Int) % 2 = 0 := by omega
          replace HA2 := hide HA2
          replace hs := hide hs; replace hs2 := hide hs2; replace hh := hide hh; replace hodd := hide hodd
          clear HA CI
          go_wp2_with (go_at_call 23; refine (unhide CS).mono ?_; rintro e w1 ⟨rfl, hw1⟩; have hw2 := hw1.symm; subst hw2; clear hw1)
          exact ⟨⟨s2, O, h, hs2b, hO, hhb.1, by first | rfl | trivial, by go_num, by first | rfl | trivial, HA2, by first | rfl | trivial⟩, by simp [intOf]; omega⟩
      · have hpos' : ¬ (0 : Int) < (E : Int) := by omega
        obtain rfl : E = 0 := by omega
        have E2 := hide (show powQ b (n : Int) = O by rw [unhide EQ]; exact alq_end (unhide HA) hO.1 hO.2)
        clear HA
        go_wp2
        go_ret
        exact ⟨by rw [unhide E2]; rfl, rfl⟩
  · have EQ := hide (show powQ b e = 0 by unfold powQ; rw [if_neg he])
    rw [unhide EQ]
    by_cases h1 : e < 0
    · clear he CI
      go_enter Try.func24, Try.ntmps24
      go_wp2
      go_ret
      exact ⟨rfl, rfl⟩
    · have h2 : 1000000000 < e := by omega
      clear he CI
      go_enter Try.func24, Try.ntmps24
      go_wp2
      go_ret
      exact ⟨rfl, rfl⟩
theorem implPowQ_any (b e : Int) (W : World) :
    Calls Try.prog 24 #[.int .i64 b, .int .i64 e] W fun x w' => x = .returned (.int .i64 (powQ b e)) ∧ Below W.heap.size W w' :=
  (implPowQ_w b e W).mono fun _ _ ⟨h1, h2⟩ => ⟨h1, by rw [h2]; exact Below.refl _ _⟩
end Go.Proofs.Ytdannnkdapbefad
