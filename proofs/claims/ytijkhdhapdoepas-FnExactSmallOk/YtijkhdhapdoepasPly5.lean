/- Powers by the given model, over the loaded program. -/
import Derived.Test.YtijkhdhapdoepasPly1
namespace Go.Proofs.Ytijkhdhapdoepas
open Go.RowKit
def powQ (b e : Int) : Int := if 0 ≤ e ∧ e ≤ 1000000000 then powM (b % 3329) e.toNat else 0
theorem alq_odd {O B c : Int} {E : Nat} (h : AlQ (O * B ^ E) c) (ho : E % 2 = 1) : AlQ (O * B % 3329 * (B * B % 3329) ^ (E / 2)) c := by
  refine AlQ.trans ?_ h
  rw [powM_half B E, if_pos ho]
  have h1 : AlQ (O * B % 3329 * (B * B % 3329) ^ (E / 2)) (O * B * (B * B) ^ (E / 2)) := (AlQ.mod _).mul (powM_al (AlQ.mod _) _)
  rw [show O * ((B * B) ^ (E / 2) * B) = O * B * (B * B) ^ (E / 2) by rw [Int.mul_comm ((B * B) ^ (E / 2)) B, Int.mul_assoc]]
  exact h1
theorem alq_even {O B c : Int} {E : Nat} (h : AlQ (O * B ^ E) c) (ho : ¬ E % 2 = 1) : AlQ (O * (B * B % 3329) ^ (E / 2)) c := by
  refine AlQ.trans ?_ h
  rw [powM_half B E, if_neg ho, Int.mul_one]
  exact (AlQ.refl _).mul (powM_al (AlQ.mod _) _)
theorem alq_end {O B c : Int} (h : AlQ (O * B ^ 0) c) (h1 : 0 ≤ O) (h2 : O ≤ 3328) : c % 3329 = O := by
  rw [Int.pow_zero, Int.mul_one] at h
  unfold AlQ at h
  omega
set_option maxRecDepth 20000 in
set_option maxHeartbeats 800000 in
theorem specPowQ_any (b e : Int) (w : World) :
    Calls Try.prog 43 #[.int .i64 b, .int .i64 e] w fun x w' => x = .returned (.int .i64 (powQ b e)) ∧ w' = w := by
  have CI := hide (inb9 e 0 1000000000 w)
  by_cases he : 0 ≤ e ∧ e ≤ 1000000000
  · rw [show decide ((0 : Int) ≤ e ∧ e ≤ 1000000000) = true by rw [decide_eq_true_iff]; exact he] at CI
    have EQ := hide (show powQ b e = powM (b % 3329) e.toNat by unfold powQ; rw [if_pos he])
    obtain ⟨n, rfl⟩ : ∃ n : Nat, e = (n : Int) := ⟨e.toNat, by omega⟩
    rw [Int.toNat_natCast] at EQ
    have hn : n ≤ 1000000000 := by omega
    obtain ⟨m, hm⟩ : ∃ m, m = b % 3329 := ⟨_, rfl⟩
    have hm1 : 0 ≤ m ∧ m ≤ 3328 := by omega
    rw [← hm] at EQ
    have hbm : b.tmod 3329 = m ∨ (b.tmod 3329 < 0 ∧ b.tmod 3329 + 3329 = m) := by
      have e := @Int.tmod_eq_emod b 3329
      split at e
      · left; rw [e]; omega
      · rename_i hn
        right
        have h0 : ¬ 3329 ∣ b := fun hd => hn (.inr hd)
        have e2 : b.tmod 3329 = b % 3329 - 3329 := e
        rw [e2]
        omega
    have wm : ∀ x : Int, 0 ≤ x → x ≤ 100000000 → IntKind.i64.wrap x = x := fun x h1 h2 => by rw [IntKind.wrap_i64]; omega
    have wmm := wm m hm1.1 (by omega)
    have hstart := hide (show AlQ (1 * m ^ n) (m ^ n) by rw [Int.one_mul]; exact AlQ.refl _)
    replace hm := hide hm
    rcases hbm with h | ⟨h1, h2⟩
    · have hge : ¬ m < 0 := by omega
      go_enter Try.func43, Try.ntmps43
      go_wp2_with (go_at_call 36; refine (unhide CI).mono ?_; rintro e w1 ⟨rfl, hw1⟩; have hw2 := hw1.symm; subst hw2; clear hw1)
      go_loopw [0, 1, 5] (fun tb te tq wr => ∃ (B O : Int) (E : Nat), (0 ≤ B ∧ B ≤ 3328) ∧ (0 ≤ O ∧ O ≤ 3328) ∧ E ≤ 1000000000 ∧ tb = .int .i64 B ∧ te = .int .i64 (E : Int) ∧ tq = .int .i64 O ∧ Hid (AlQ (O * B ^ E) (m ^ n)) ∧ wr = w) (fun _ te _ _ => (intOf te).toNat)
      case atStart => exact ⟨m, 1, n, hm1, by omega, hn, rfl, rfl, rfl, hstart, rfl⟩
      case round =>
        clear hstart
        obtain ⟨B, O, E, hB, hO, hE, rfl, rfl, rfl, HA, hw⟩ := hrel
        have hw' := hw.symm
        subst hw'
        clear hw
        by_cases hpos : 0 < E
        · have hpos' : (0 : Int) < (E : Int) := by omega
          have q1 : 0 ≤ B * B := Int.mul_nonneg hB.1 hB.1
          have q2 : B * B ≤ 3328 * 3328 := Int.mul_le_mul hB.2 hB.2 hB.1 (by omega)
          obtain ⟨s, hs⟩ : ∃ s, s = B * B := ⟨_, rfl⟩
          rw [← hs] at q1 q2
          obtain ⟨s2, hs2⟩ : ∃ s2, s2 = s % 3329 := ⟨_, rfl⟩
          have w1 : IntKind.i64.wrap (B * B) = s := by rw [← hs, IntKind.wrap_i64]; omega
          have w2 : s.tmod 3329 = s2 := by rw [Int.tmod_eq_emod_of_nonneg (by omega)]; omega
          have w2' : s % 3329 = s2 := hs2.symm
          have w3 : IntKind.i64.wrap s2 = s2 := by rw [IntKind.wrap_i64]; omega
          obtain ⟨h, hh⟩ : ∃ h, h = E / 2 := ⟨_, rfl⟩
          have w4 : (E : Int).tdiv 2 = (h : Int) := by rw [Int.tdiv_eq_ediv_of_nonneg (by omega)]; omega
          have w4' : (E : Int) / 2 = (h : Int) := by omega
          have w5 : IntKind.i64.wrap (h : Int) = (h : Int) := by rw [IntKind.wrap_i64]; omega
          have hs2b : 0 ≤ s2 ∧ s2 ≤ 3328 := by omega
          have hhb : h ≤ 1000000000 ∧ h < E := by omega
          by_cases hodd : E % 2 = 1
          · have HA2 := alq_odd (unhide HA) hodd
            have r1 : 0 ≤ O * B := Int.mul_nonneg hO.1 hB.1
            have r2 : O * B ≤ 3328 * 3328 := Int.mul_le_mul hO.2 hB.2 hB.1 (by omega)
            obtain ⟨p, hp⟩ : ∃ p, p = O * B := ⟨_, rfl⟩
            rw [← hp] at r1 r2
            obtain ⟨p2, hp2⟩ : ∃ p2, p2 = p % 3329 := ⟨_, rfl⟩
            rw [← hp, ← hs, ← hp2, ← hs2, ← hh] at HA2
            have v1 : IntKind.i64.wrap (O * B) = p := by rw [← hp, IntKind.wrap_i64]; omega
            have v2 : p.tmod 3329 = p2 := by rw [Int.tmod_eq_emod_of_nonneg (by omega)]; omega
            have v2' : p % 3329 = p2 := hp2.symm
            have v3 : IntKind.i64.wrap p2 = p2 := by rw [IntKind.wrap_i64]; omega
            have v4 : (E : Int).tmod 2 = 1 := by rw [Int.tmod_eq_emod_of_nonneg (by omega)]; omega
            have v4' : (E : Int) % 2 = 1 := by omega
            have hp2b : 0 ≤ p2 ∧ p2 ≤ 3328 := by omega
            replace HA2 := hide HA2
            replace hs := hide hs; replace hs2 := hide hs2; replace hh := hide hh; replace hp := hide hp; replace hp2 := hide hp2; replace hodd := hide hodd
            clear HA
            go_wp2
            exact ⟨⟨s2, p2, h, hs2b, hp2b, hhb.1, by first | rfl | trivial, by go_num, by first | rfl | trivial, HA2, by first | rfl | trivial⟩, by simp [intOf]; omega⟩
          · have HA2 := alq_even (unhide HA) hodd
            rw [← hs, ← hs2, ← hh] at HA2
            have v4 : (E : Int).tmod 2 = 0 := by rw [Int.tmod_eq_emod_of_nonneg (by omega)]; omega
            have v4' : (E : Int) % 2 = 0 := by omega
            replace HA2 := hide HA2
            replace hs := hide hs; replace hs2 := hide hs2; replace hh := hide hh; replace hodd := hide hodd
            clear HA
            go_wp2
            exact ⟨⟨s2, O, h, hs2b, hO, hhb.1, by first | rfl | trivial, by go_num, by first | rfl | trivial, HA2, by first | rfl | trivial⟩, by simp [intOf]; omega⟩
        · have hpos' : ¬ (0 : Int) < (E : Int) := by omega
          obtain rfl : E = 0 := by omega
          have E2 := hide (show powQ b (n : Int) = O by rw [unhide EQ]; exact alq_end (unhide HA) hO.1 hO.2)
          clear HA
          go_wp2
          go_ret
          exact ⟨by rw [unhide E2]; rfl, rfl⟩
    · obtain ⟨x, hx⟩ : ∃ x, x = b.tmod 3329 := ⟨_, rfl⟩
      rw [← hx] at h1 h2
      have ew : IntKind.i64.wrap x = x := by rw [IntKind.wrap_i64]; omega
      have ew2 : IntKind.i64.wrap (x + 3329) = m := by rw [h2]; exact wmm
      have hx' := hx.symm
      clear hx
      go_enter Try.func43, Try.ntmps43
      go_wp2_with (go_at_call 36; refine (unhide CI).mono ?_; rintro e w1 ⟨rfl, hw1⟩; have hw2 := hw1.symm; subst hw2; clear hw1)
      go_loopw [0, 1, 5] (fun tb te tq wr => ∃ (B O : Int) (E : Nat), (0 ≤ B ∧ B ≤ 3328) ∧ (0 ≤ O ∧ O ≤ 3328) ∧ E ≤ 1000000000 ∧ tb = .int .i64 B ∧ te = .int .i64 (E : Int) ∧ tq = .int .i64 O ∧ Hid (AlQ (O * B ^ E) (m ^ n)) ∧ wr = w) (fun _ te _ _ => (intOf te).toNat)
      case atStart => exact ⟨m, 1, n, hm1, by omega, hn, rfl, rfl, rfl, hstart, rfl⟩
      case round =>
        clear hstart
        obtain ⟨B, O, E, hB, hO, hE, rfl, rfl, rfl, HA, hw⟩ := hrel
        have hw' := hw.symm
        subst hw'
        clear hw
        by_cases hpos : 0 < E
        · have hpos' : (0 : Int) < (E : Int) := by omega
          have q1 : 0 ≤ B * B := Int.mul_nonneg hB.1 hB.1
          have q2 : B * B ≤ 3328 * 3328 := Int.mul_le_mul hB.2 hB.2 hB.1 (by omega)
          obtain ⟨s, hs⟩ : ∃ s, s = B * B := ⟨_, rfl⟩
          rw [← hs] at q1 q2
          obtain ⟨s2, hs2⟩ : ∃ s2, s2 = s % 3329 := ⟨_, rfl⟩
          have w1 : IntKind.i64.wrap (B * B) = s := by rw [← hs, IntKind.wrap_i64]; omega
          have w2 : s.tmod 3329 = s2 := by rw [Int.tmod_eq_emod_of_nonneg (by omega)]; omega
          have w2' : s % 3329 = s2 := hs2.symm
          have w3 : IntKind.i64.wrap s2 = s2 := by rw [IntKind.wrap_i64]; omega
          obtain ⟨h, hh⟩ : ∃ h, h = E / 2 := ⟨_, rfl⟩
          have w4 : (E : Int).tdiv 2 = (h : Int) := by rw [Int.tdiv_eq_ediv_of_nonneg (by omega)]; omega
          have w4' : (E : Int) / 2 = (h : Int) := by omega
          have w5 : IntKind.i64.wrap (h : Int) = (h : Int) := by rw [IntKind.wrap_i64]; omega
          have hs2b : 0 ≤ s2 ∧ s2 ≤ 3328 := by omega
          have hhb : h ≤ 1000000000 ∧ h < E := by omega
          by_cases hodd : E % 2 = 1
          · have HA2 := alq_odd (unhide HA) hodd
            have r1 : 0 ≤ O * B := Int.mul_nonneg hO.1 hB.1
            have r2 : O * B ≤ 3328 * 3328 := Int.mul_le_mul hO.2 hB.2 hB.1 (by omega)
            obtain ⟨p, hp⟩ : ∃ p, p = O * B := ⟨_, rfl⟩
            rw [← hp] at r1 r2
            obtain ⟨p2, hp2⟩ : ∃ p2, p2 = p % 3329 := ⟨_, rfl⟩
            rw [← hp, ← hs, ← hp2, ← hs2, ← hh] at HA2
            have v1 : IntKind.i64.wrap (O * B) = p := by rw [← hp, IntKind.wrap_i64]; omega
            have v2 : p.tmod 3329 = p2 := by rw [Int.tmod_eq_emod_of_nonneg (by omega)]; omega
            have v2' : p % 3329 = p2 := hp2.symm
            have v3 : IntKind.i64.wrap p2 = p2 := by rw [IntKind.wrap_i64]; omega
            have v4 : (E : Int).tmod 2 = 1 := by rw [Int.tmod_eq_emod_of_nonneg (by omega)]; omega
            have v4' : (E : Int) % 2 = 1 := by omega
            have hp2b : 0 ≤ p2 ∧ p2 ≤ 3328 := by omega
            replace HA2 := hide HA2
            replace hs := hide hs; replace hs2 := hide hs2; replace hh := hide hh; replace hp := hide hp; replace hp2 := hide hp2; replace hodd := hide hodd
            clear HA
            go_wp2
            exact ⟨⟨s2, p2, h, hs2b, hp2b, hhb.1, by first | rfl | trivial, by go_num, by first | rfl | trivial, HA2, by first | rfl | trivial⟩, by simp [intOf]; omega⟩
          · have HA2 := alq_even (unhide HA) hodd
            rw [← hs, ← hs2, ← hh] at HA2
            have v4 : (E : Int).tmod 2 = 0 := by rw [Int.tmod_eq_emod_of_nonneg (by omega)]; omega
            have v4' : (E : Int) % 2 = 0 := by omega
            replace HA2 := hide HA2
            replace hs := hide hs; replace hs2 := hide hs2; replace hh := hide hh; replace hodd := hide hodd
            clear HA
            go_wp2
            exact ⟨⟨s2, O, h, hs2b, hO, hhb.1, by first | rfl | trivial, by go_num, by first | rfl | trivial, HA2, by first | rfl | trivial⟩, by simp [intOf]; omega⟩
        · have hpos' : ¬ (0 : Int) < (E : Int) := by omega
          obtain rfl : E = 0 := by omega
          have E2 := hide (show powQ b (n : Int) = O by rw [unhide EQ]; exact alq_end (unhide HA) hO.1 hO.2)
          clear HA
          go_wp2
          go_ret
          exact ⟨by rw [unhide E2]; rfl, rfl⟩
  · rw [show decide ((0 : Int) ≤ e ∧ e ≤ 1000000000) = false by rw [decide_eq_false_iff_not]; exact he] at CI
    have EQ := hide (show powQ b e = 0 by unfold powQ; rw [if_neg he])
    rw [unhide EQ]
    go_enter Try.func43, Try.ntmps43
    go_wp2_with (go_at_call 36; refine (unhide CI).mono ?_; rintro e w1 ⟨rfl, hw1⟩; have hw2 := hw1.symm; subst hw2; clear hw1)
    go_ret
    exact ⟨rfl, rfl⟩
end Go.Proofs.Ytijkhdhapdoepas
