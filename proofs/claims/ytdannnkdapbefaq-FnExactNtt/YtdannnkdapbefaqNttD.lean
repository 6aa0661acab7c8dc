/- Products of transforms by the project: pairs, over the loaded program. -/
import Derived.Test.YtdannnkdapbefaqNttA
namespace Go.Proofs.Ytdannnkdapbefaq
open Go.RowKit
theorem pairFactor_any (k : Nat) (hk : k < 128) (g : Int) (hg : powQ 17 ((2 * t7 k + 1 : Nat) : Int) = g) (w : World) :
    Calls Try.prog 32 #[.int .i64 (k : Int)] w fun e w' => e = .returned (.int .i64 g) ∧ w' = w := by
  obtain ⟨T1, T2⟩ := zt_turn k hk
  have C1 := hide (implTurn7_w (k : Int) w)
  have C2 := hide (implPowQ_w 17 ((2 * t7 k + 1 : Nat) : Int) w)
  rw [T1] at C1
  rw [hg] at C2
  have hl := t7_lt k
  obtain ⟨m, hm⟩ : ∃ m : Nat, m = 2 * t7 k := ⟨_, rfl⟩
  obtain ⟨n, hn⟩ : ∃ n : Nat, n = m + 1 := ⟨_, rfl⟩
  rw [← hm, ← hn] at C2
  have w1 : IntKind.i64.wrap (2 * (t7 k : Int)) = (m : Int) := by rw [IntKind.wrap_i64]; omega
  have w2 : IntKind.i64.wrap ((m : Int) + 1) = (n : Int) := by rw [IntKind.wrap_i64]; omega
  clear T1 T2 hg
  replace hm := hide hm; replace hn := hide hn
  generalize t7 k = tz at *
  go_enter Try.func32, Try.ntmps32
  go_wp2_with fail
  refine (unhide C1).mono ?_
  rintro e w2 ⟨rfl, rfl⟩
  go_wp2_with fail
  refine (unhide C2).mono ?_
  rintro e w2 ⟨rfl, rfl⟩
  go_wp2
  go_ret
  exact ⟨rfl, rfl⟩
set_option maxRecDepth 20000 in
theorem pairAt_any (g o c i m en : Nat) (w : World) (hi : i < 128) (hm : m = 2 * i) (he : en = m + 2) (hc : 256 ≤ c) :
    Calls Try.prog 31 #[.slice (some ⟨g, o, none⟩) 256 c, .int .i64 (i : Int)] w fun e w' => e = .returned (.slice (some ⟨g, o + m, none⟩) 2 2) ∧ w' = w := by
  have w1 : IntKind.i64.wrap (2 * (i : Int)) = (m : Int) := by rw [IntKind.wrap_i64]; omega
  have w2 : IntKind.i64.wrap ((m : Int) + 2) = (en : Int) := by rw [IntKind.wrap_i64]; omega
  have a1 : (0 : Int) ≤ (m : Int) := by omega
  have a2 : (m : Int) ≤ (en : Int) := by omega
  have a3 : (en : Int) ≤ (c : Int) := by omega
  have a4 : (0 : Int) ≤ (en : Int) := by omega
  have b1 : en - m = 2 := by omega
  have b2 : ¬ en = m := by omega
  replace hm := hide hm; replace he := hide he; replace hc := hide hc; replace hi := hide hi
  go_enter Try.func31, Try.ntmps31
  go_wp2
  go_ret
  exact ⟨rfl, rfl⟩
set_option maxRecDepth 20000 in
set_option maxHeartbeats 800000 in
theorem pairProduct_any (A0 A1 B0 B1 g : Int) (ga oa gb ob : Nat) (w : World) (hga : ga < w.heap.size) (hgb : gb < w.heap.size) (dA0 : w.cell? ⟨ga, oa, none⟩ = some (.int .i64 A0)) (dA1 : w.cell? ⟨ga, oa + 1, none⟩ = some (.int .i64 A1)) (dB0 : w.cell? ⟨gb, ob, none⟩ = some (.int .i64 B0)) (dB1 : w.cell? ⟨gb, ob + 1, none⟩ = some (.int .i64 B1))
    (bA0 : 0 ≤ A0 ∧ A0 ≤ 3328) (bA1 : 0 ≤ A1 ∧ A1 ≤ 3328) (bB0 : 0 ≤ B0 ∧ B0 ≤ 3328) (bB1 : 0 ≤ B1 ∧ B1 ≤ 3328) (bg : 0 ≤ g ∧ g ≤ 3328) :
    Calls Try.prog 30 #[.slice (some ⟨ga, oa, none⟩) 2 2, .slice (some ⟨gb, ob, none⟩) 2 2, .int .i64 g] w fun e w' => e = .returned (.agg #[.int .i64 ((A0 * B0 + A1 * B1 * g) % 3329), .int .i64 ((A0 * B1 + A1 * B0) % 3329)]) ∧ Below w.heap.size w w' := by
  have m00 := mul_rng bA0 bB0
  have m11 := mul_rng bA1 bB1
  have m01 := mul_rng bA0 bB1
  have m10 := mul_rng bA1 bB0
  obtain ⟨P00, h00⟩ : ∃ p, p = A0 * B0 := ⟨_, rfl⟩
  obtain ⟨P11, h11⟩ : ∃ p, p = A1 * B1 := ⟨_, rfl⟩
  obtain ⟨P01, h01⟩ : ∃ p, p = A0 * B1 := ⟨_, rfl⟩
  obtain ⟨P10, h10⟩ : ∃ p, p = A1 * B0 := ⟨_, rfl⟩
  rw [← h00] at m00 ⊢
  rw [← h11] at m11 ⊢
  rw [← h01] at m01 ⊢
  rw [← h10] at m10 ⊢
  have x1 : 0 ≤ P11 * g := Int.mul_nonneg m11.1 bg.1
  have x2 : P11 * g ≤ 11075584 * 3328 := Int.mul_le_mul m11.2 bg.2 bg.1 (by omega)
  obtain ⟨X, hX⟩ : ∃ p, p = P11 * g := ⟨_, rfl⟩
  rw [← hX] at x1 x2 ⊢
  obtain ⟨S0, hS0⟩ : ∃ p, p = P00 + X := ⟨_, rfl⟩
  obtain ⟨S1, hS1⟩ : ∃ p, p = P01 + P10 := ⟨_, rfl⟩
  rw [← hS0, ← hS1]
  have q1 : IntKind.i64.wrap (A0 * B0) = P00 := by rw [← h00, IntKind.wrap_i64]; omega
  have q2 : IntKind.i64.wrap (A1 * B1) = P11 := by rw [← h11, IntKind.wrap_i64]; omega
  have q3 : IntKind.i64.wrap (P11 * g) = X := by rw [← hX, IntKind.wrap_i64]; omega
  have q4 : IntKind.i64.wrap (P00 + X) = S0 := by rw [IntKind.wrap_i64]; omega
  have q5 : IntKind.i64.wrap (A0 * B1) = P01 := by rw [← h01, IntKind.wrap_i64]; omega
  have q6 : IntKind.i64.wrap (A1 * B0) = P10 := by rw [← h10, IntKind.wrap_i64]; omega
  have q7 : IntKind.i64.wrap (P01 + P10) = S1 := by rw [IntKind.wrap_i64]; omega
  obtain ⟨fz, hfz⟩ : ∃ f : Int → Int, f = fun n => n % 3329 := ⟨_, rfl⟩
  have CI := hide (show ∀ n W, Calls Try.prog 29 #[.int .i64 n] W fun e w' => e = .returned (.int .i64 (fz n)) ∧ w' = W from fun n W => by rw [hfz]; exact around_any n W)
  rw [show S0 % 3329 = fz S0 by rw [hfz], show S1 % 3329 = fz S1 by rw [hfz]]
  have KS := hide (fun (W : World) (h : Below w.heap.size w W) => (⟨(h.cell (p := ⟨ga, oa, none⟩) hga).trans dA0, (h.cell (p := ⟨ga, oa + 1, none⟩) hga).trans dA1, (h.cell (p := ⟨gb, ob, none⟩) hgb).trans dB0, (h.cell (p := ⟨gb, ob + 1, none⟩) hgb).trans dB1⟩ : W.cell? ⟨ga, oa, none⟩ = some (.int .i64 A0) ∧ W.cell? ⟨ga, oa + 1, none⟩ = some (.int .i64 A1) ∧ W.cell? ⟨gb, ob, none⟩ = some (.int .i64 B0) ∧ W.cell? ⟨gb, ob + 1, none⟩ = some (.int .i64 B1)))
  replace hfz := hide hfz; replace h00 := hide h00; replace h11 := hide h11; replace h01 := hide h01; replace h10 := hide h10; replace hX := hide hX; replace hS0 := hide hS0; replace hS1 := hide hS1
  clear dA0 dA1 dB0 dB1
  go_enter Try.func30, Try.ntmps30
  go_wp2
  have hB0 : Below w.heap.size w (w.alloc (.cells #[.int .i64 0, .int .i64 0] 36)) := (Below.refl _ _).alloc (Nat.le_refl _) _
  obtain ⟨s1, s2, s3, s4⟩ := (unhide KS) _ hB0
  go_region_held3 (fun W => W.cell? ⟨ga, oa, none⟩ = some (.int .i64 A0) ∧ W.cell? ⟨ga, oa + 1, none⟩ = some (.int .i64 A1) ∧ W.cell? ⟨gb, ob, none⟩ = some (.int .i64 B0) ∧ W.cell? ⟨gb, ob + 1, none⟩ = some (.int .i64 B1)) (first | exact ⟨s1, s2, s3, s4⟩ | exact (unhide KS) _ ((Below.refl _ _).alloc (Nat.le_refl _) _).drew | fail) (first | (go_at_call 29; refine (unhide CI _ _).mono ?_; rintro e w2 ⟨rfl, rfl⟩))
  go_wp2
  have HX : (w.alloc (.cells #[.int .i64 (fz S0), .int .i64 (fz S1)] 36)).heap[w.heap.size]? = some (.cells #[.int .i64 (fz S0), .int .i64 (fz S1)] 36 (0, 0)) := heap_alloc_new w _
  refine bodyPost_ret (v := .agg #[.int .i64 (fz S0), .int .i64 (fz S1)]) (results_cell_row Try.results30 _ _ w.heap.size 36 _ (0, 0) _ rfl HX Try.underlying36 rfl (by rfl)) rfl ⟨rfl, ((Below.refl _ _).alloc (Nat.le_refl _) _).drew⟩
end Go.Proofs.Ytdannnkdapbefaq
