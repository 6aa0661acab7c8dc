/- Chains by the given model: what is chopped, chains, over the loaded program. -/
import Derived.Test.YtljjajbkaffofauChn0
import Derived.Laws.DeepStrings4
namespace Go.Proofs.Ytljjajbkaffofau
open Go.RowKit
theorem specChop_any (s : ByteArray) (hs : s.size ≤ 4000000) (w : World) :
    Calls Try.prog 27 #[.string s] w fun e w' => e = .returned (.string (chopB s)) ∧ Below w.heap.size w w' := by
  have C := hide (specDigest_any s hs w)
  have hz : (digB s).size = 32 := V8.text_size _
  have E := hide (show chopB s = (digB s).extract 0 4 from rfl)
  rw [unhide E]
  have hz' : (4 : Int) ≤ ((digB s).size : Int) := by omega
  generalize digB s = d at *
  replace hz := hide hz
  go_enter Try.func27, Try.ntmps27
  go_wp2_with fail
  refine (unhide C).mono ?_
  rintro e w1 ⟨rfl, hb1⟩
  go_wp2
  go_ret
  exact ⟨rfl, hb1⟩
theorem steps_facts (z : Int) (k : Nat) (h : k ≤ stepsN z) : (k < stepsN z ∧ (k : Int) < z ∧ (k : Int) < 15) ∨ (k = stepsN z ∧ (¬ (k : Int) < z ∨ ((k : Int) < z ∧ ¬ (k : Int) < 15))) := by
  unfold stepsN at *
  by_cases hz : z ≤ 15
  · rw [if_pos hz] at *; omega
  · rw [if_neg hz] at *; omega
set_option maxRecDepth 20000 in
set_option maxHeartbeats 800000 in
theorem specChain_any (x : ByteArray) (leaf chain frm steps : Int) (hx : x.size ≤ 1048576) (w : World) :
    Calls Try.prog 26 #[.string x, .int .i64 leaf, .int .i64 chain, .int .i64 frm, .int .i64 steps] w fun e w' => e = .returned (.string (chnB x leaf chain frm (stepsN steps))) ∧ Below w.heap.size w w' := by
  have CB := hide (fun z W => specByteY_any z W)
  have CC := hide (fun s hs W => specChop_any s hs W)
  have HS := hide (fun k => chnB_size x leaf chain frm k hx)
  have HN := hide (show ∀ k, chnB x leaf chain frm (k + 1) = chopB (oneY leaf ++ oneY chain ++ oneY (frm.tmod 256 + (k : Int)) ++ chnB x leaf chain frm k) from fun k => rfl)
  have H0 := hide (show chnB x leaf chain frm 0 = x from rfl)
  have hl15 := stepsN_le steps
  obtain ⟨r, hr⟩ : ∃ r, frm.tmod 256 = r := ⟨_, rfl⟩
  have hr1 : -255 ≤ r ∧ r ≤ 255 := by
    have h1 := Int.tmod_lt_of_pos frm (show (0 : Int) < 256 by decide)
    have h2 := Int.lt_tmod_of_pos frm (show (0 : Int) < 256 by decide)
    omega
  have er : IntKind.i64.wrap r = r := by rw [IntKind.wrap_i64]; omega
  rw [hr] at HN
  generalize chnB x leaf chain frm = F at *
  obtain ⟨N, hN⟩ : ∃ N, N = stepsN steps := ⟨_, rfl⟩
  rw [← hN] at hl15 ⊢
  have SF := hide (show ∀ k : Nat, k ≤ N → (k < N ∧ (k : Int) < steps ∧ (k : Int) < 15) ∨ (k = N ∧ (¬ (k : Int) < steps ∨ ((k : Int) < steps ∧ ¬ (k : Int) < 15))) from fun k h => by rw [hN] at h ⊢; exact steps_facts steps k h)
  replace hN := hide hN
  go_enter Try.func26, Try.ntmps26
  go_wp2
  go_loopw [0, 11] (fun tx ti wr => ∃ k : Nat, k ≤ N ∧ ti = .int .i64 (k : Int) ∧ tx = .string (F k) ∧ Below w.heap.size w wr) (fun _ ti _ => 20 - (intOf ti).toNat)
  case atStart => exact ⟨0, Nat.zero_le _, rfl, by rw [unhide H0], Below.refl _ _⟩
  case round =>
    obtain ⟨k, hk, rfl, rfl, hB⟩ := hrel
    rcases unhide SF k hk with ⟨h1, h2, h3⟩ | ⟨h1, h2⟩
    · obtain ⟨q, hq⟩ : ∃ q : Int, q = r + (k : Int) := ⟨_, rfl⟩
      have e1 : IntKind.i64.wrap (r + (k : Int)) = q := by rw [IntKind.wrap_i64]; omega
      have HF := unhide HN k
      rw [← hq] at HF
      have hs := unhide HS k
      have za := oneY_size leaf
      have zb := oneY_size chain
      have zc := oneY_size q
      have c1 := hide (unhide CB leaf)
      have c2 := hide (unhide CB chain)
      have c3 := hide (unhide CB q)
      generalize oneY leaf = ya at *
      generalize oneY chain = yb at *
      generalize oneY q = yc at *
      generalize F k = fk at *
      have za' : ya.size ≤ 1 := by omega
      have zb' : yb.size ≤ 1 := by omega
      have zc' : yc.size ≤ 1 := by omega
      have c4 := hide (unhide CC (ya ++ yb ++ yc ++ fk) (by rw [ByteArray.size_append, ByteArray.size_append, ByteArray.size_append]; omega))
      rw [← HF] at c4
      replace HF := hide HF; replace hq := hide hq; replace za := hide za; replace zb := hide zb; replace zc := hide zc
      have hF2 : ∃ G, G = F (k + 1) := ⟨_, rfl⟩
      obtain ⟨G, hG⟩ := hF2
      rw [← hG] at c4
      replace hG := hide hG
      clear CB CC
      go_wp2_with fail
      refine (unhide c1 wr).mono ?_
      rintro e w1 ⟨rfl, hb1⟩
      have hB1 := hB.trans (hb1.mono hB.size)
      clear hb1 hB c1
      go_wp2_with fail
      refine (unhide c2 w1).mono ?_
      rintro e w2 ⟨rfl, hb2⟩
      have hB2 := hB1.trans (hb2.mono hB1.size)
      clear hb2 hB1 c2
      go_wp2_with fail
      refine (unhide c3 w2).mono ?_
      rintro e w3 ⟨rfl, hb3⟩
      have hB3 := hB2.trans (hb3.mono hB2.size)
      clear hb3 hB2 c3
      go_wp2_with fail
      refine (unhide c4 w3).mono ?_
      rintro e w4 ⟨rfl, hb4⟩
      have hB4 := hB3.trans (hb4.mono hB3.size)
      clear hb4 hB3 c4
      go_wp2
      exact ⟨⟨k + 1, by omega, by go_num, by rw [unhide hG], hB4⟩, by simp [intOf]; omega⟩
    · rcases h2 with h2 | ⟨h2, h3⟩
      · have d1 : decide ((k : Int) < steps) = false := by rw [decide_eq_false_iff_not]; omega
        replace h1 := hide h1
        go_wp2
        go_ret
        exact ⟨by rw [← unhide h1]; rfl, hB⟩
      · have d1 : decide ((k : Int) < 15) = false := by rw [decide_eq_false_iff_not]; omega
        replace h1 := hide h1
        go_wp2
        go_ret
        exact ⟨by rw [← unhide h1]; rfl, hB⟩
end Go.Proofs.Ytljjajbkaffofau
