/- Squeezing and stretching by the project, over the loaded program. -/
import Derived.Test.YtkiocjbooegajadPckA
import Derived.Deep.RegionHeld3
namespace Go.Proofs.Ytkiocjbooegajad
open Go.RowKit
set_option maxRecDepth 20000 in
theorem implSqueeze_any (x d : Int) (w : World) :
    Calls Try.prog 12 #[.int .i64 x, .int .i64 d] w fun e w' => e = .returned (.int .i64 (sqzZ x d)) ∧ Below w.heap.size w w' := by
  have C1 := hide (fun W => squeezeBitsOk_any d W)
  have hR := Below.refl w.heap.size w
  by_cases hd : 1 ≤ d ∧ d ≤ 11
  · rw [decide_eq_true hd] at C1
    by_cases h0 : x < 0
    · have E := hide (show sqzZ x d = 0 by unfold sqzZ; rw [if_neg (by omega)])
      go_enter Try.func12, Try.ntmps12
      go_wp2_with fail
      refine (unhide C1 _).mono ?_
      rintro e w2 ⟨rfl, hw2⟩
      have hw3 := hw2.symm
      subst hw3
      clear hw2
      go_wp2
      go_ret
      exact ⟨by rw [unhide E]; rfl, hR⟩
    · by_cases h1 : 3329 ≤ x
      · have E := hide (show sqzZ x d = 0 by unfold sqzZ; rw [if_neg (by omega)])
        go_enter Try.func12, Try.ntmps12
        go_wp2_with fail
        refine (unhide C1 _).mono ?_
        rintro e w2 ⟨rfl, hw2⟩
        have hw3 := hw2.symm
        subst hw3
        clear hw2
        go_wp2
        go_ret
        exact ⟨by rw [unhide E]; rfl, hR⟩
      · obtain ⟨n, rfl⟩ : ∃ n : Nat, x = (n : Int) := ⟨x.toNat, by omega⟩
        obtain ⟨k, rfl⟩ : ∃ k : Nat, d = (k : Int) := ⟨d.toNat, by omega⟩
        have E := hide (show sqzZ (n : Int) (k : Int) = (sqz n k : Int) by unfold sqzZ; rw [if_pos (by omega), Int.toNat_natCast, Int.toNat_natCast])
        obtain ⟨p, hp⟩ : ∃ p : Nat, p = 2 ^ k := ⟨_, rfl⟩
        have hpb : 1 ≤ p ∧ p ≤ 2048 := by rw [hp]; exact ⟨Nat.pow_pos (by omega), Nat.pow_le_pow_right (n := 2) (by omega) (show k ≤ 11 by omega)⟩
        have hw := wrap_two k p (by omega) hp
        have hm : n * p ≤ 3328 * 2048 := Nat.mul_le_mul (by omega) hpb.2
        obtain ⟨y, hy⟩ : ∃ y : Nat, y = n * p := ⟨_, rfl⟩
        rw [← hy] at hm
        have hy2 : (n : Int) * 2 ^ k = (y : Int) := by
          rw [hy, Int.natCast_mul, hp, Int.natCast_pow]; rfl
        have hw1 : RowKit.wrap64 ((n : Int) * 2 ^ k) = (y : Int) := by rw [hy2, IntWalk.wrap64_in _ (by omega)]
        obtain ⟨q, hq⟩ : ∃ q : Nat, q = (y + 1664) / 3329 := ⟨_, rfl⟩
        obtain ⟨r, hr⟩ : ∃ r : Nat, r = q % p := ⟨_, rfl⟩
        have ER := hide (show sqz n k = r by unfold sqz; rw [hr, hq, hy, hp, Nat.mul_comm])
        have v1' : ((y : Int) + 1664) / 3329 = (q : Int) := by omega
        have v1 : ((y : Int) + 1664).tdiv 3329 = (q : Int) := by rw [Int.tdiv_eq_ediv_of_nonneg (by omega)]; omega
        have v2' : (q : Int) % (p : Int) = (r : Int) := by rw [hr]; exact (Int.natCast_emod q p).symm
        have v2 : (q : Int).tmod (p : Int) = (r : Int) := by rw [Int.tmod_eq_emod_of_nonneg (by omega)]; exact v2'
        have hp0 : ¬ (p : Int) = 0 := by omega
        have hk0 : (0 : Int) ≤ (k : Int) := by omega
        have hk6 : (k : Int) ≤ 64 := by omega
        have hqb : q ≤ 4000 := by omega
        have hrb : r ≤ 4000 := by rw [hr]; exact Nat.le_trans (Nat.mod_le _ _) hqb
        rw [unhide E, unhide ER]
        replace hp := hide hp; replace hy := hide hy; replace hq := hide hq; replace hr := hide hr
        go_enter Try.func12, Try.ntmps12
        go_wp2_with fail
        refine (unhide C1 _).mono ?_
        rintro e w2 ⟨rfl, hw2⟩
        have hw3 := hw2.symm
        subst hw3
        clear hw2
        go_wp2
        go_region
        all_goals go_wp2
        all_goals go_ret
        all_goals exact ⟨rfl, hR.drew⟩
  · rw [decide_eq_false hd] at C1
    have E := hide (show sqzZ x d = 0 by unfold sqzZ; rw [if_neg (fun h => hd h.2)])
    go_enter Try.func12, Try.ntmps12
    go_wp2_with fail
    refine (unhide C1 _).mono ?_
    rintro e w2 ⟨rfl, hw2⟩
    have hw3 := hw2.symm
    subst hw3
    clear hw2
    go_wp2
    go_ret
    exact ⟨by rw [unhide E]; rfl, hR⟩
set_option maxRecDepth 20000 in
theorem implStretch_any (y d : Int) (w : World) :
    Calls Try.prog 13 #[.int .i64 y, .int .i64 d] w fun e w' => e = .returned (.int .i64 (strZ y d)) ∧ Below w.heap.size w w' := by
  have C1 := hide (fun W => squeezeBitsOk_any d W)
  have hR := Below.refl w.heap.size w
  by_cases hd : 1 ≤ d ∧ d ≤ 11
  · rw [decide_eq_true hd] at C1
    obtain ⟨k, rfl⟩ : ∃ k : Nat, d = (k : Int) := ⟨d.toNat, by omega⟩
    have C2 := hide (fun W => inBits_any y k (by omega) W)
    have hpe : ((2 ^ k : Nat) : Int) = (2 : Int) ^ k := by rw [Int.natCast_pow]; rfl
    by_cases h0 : 0 ≤ y ∧ y ≤ ((2 ^ k : Nat) : Int) - 1
    · rw [decide_eq_true h0] at C2
      obtain ⟨n, rfl⟩ : ∃ n : Nat, y = (n : Int) := ⟨y.toNat, by omega⟩
      have E := hide (show strZ (n : Int) (k : Int) = (str n k : Int) by unfold strZ; rw [if_pos (by rw [Int.toNat_natCast, ← hpe]; exact ⟨hd, h0⟩), Int.toNat_natCast, Int.toNat_natCast])
      obtain ⟨p, hp⟩ : ∃ p : Nat, p = 2 ^ k := ⟨_, rfl⟩
      rw [← hp] at h0 hpe
      have hpb : 1 ≤ p ∧ p ≤ 2048 := by rw [hp]; exact ⟨Nat.pow_pos (by omega), Nat.pow_le_pow_right (n := 2) (by omega) (show k ≤ 11 by omega)⟩
      obtain ⟨k1, hk1⟩ : ∃ k1 : Nat, k1 = k - 1 := ⟨_, rfl⟩
      obtain ⟨p1, hp1⟩ : ∃ p1 : Nat, p1 = 2 ^ k1 := ⟨_, rfl⟩
      have hp1b : 1 ≤ p1 ∧ p1 ≤ 2048 := by rw [hp1]; exact ⟨Nat.pow_pos (by omega), Nat.pow_le_pow_right (n := 2) (by omega) (show k1 ≤ 11 by omega)⟩
      have hw := wrap_two k1 p1 (by omega) hp1
      have v0 : IntKind.i64.wrap ((k : Int) - 1) = (k1 : Int) := by rw [IntKind.wrap_i64]; omega
      have v0' : (k : Int) - 1 = (k1 : Int) := by omega
      obtain ⟨q, hq⟩ : ∃ q : Nat, q = (3329 * n + p1) / p := ⟨_, rfl⟩
      have ER := hide (show str n k = q by unfold str; rw [hq, hp, hp1, hk1])
      have v1 : ((3329 : Int) * (n : Int) + (p1 : Int)) / 2 ^ k = (q : Int) := by
        rw [← hpe, hq]
        rw [show (3329 : Int) * (n : Int) + (p1 : Int) = ((3329 * n + p1 : Nat) : Int) by omega]
        exact (Int.natCast_ediv _ p).symm
      have hk0 : (0 : Int) ≤ (k : Int) := by omega
      have hk6 : (k : Int) ≤ 64 := by omega
      have hk10 : (0 : Int) ≤ (k1 : Int) := by omega
      have hk16 : (k1 : Int) ≤ 64 := by omega
      rw [unhide E, unhide ER]
      replace hp := hide hp; replace hp1 := hide hp1; replace hq := hide hq; replace hk1 := hide hk1; replace hpe := hide hpe
      go_enter Try.func13, Try.ntmps13
      go_wp2_with fail
      refine (unhide C1 _).mono ?_
      rintro e w2 ⟨rfl, hw2⟩
      have hw3 := hw2.symm
      subst hw3
      clear hw2
      go_wp2_with fail
      refine (unhide C2 _).mono ?_
      rintro e w2 ⟨rfl, hw2⟩
      have hw3 := hw2.symm
      subst hw3
      clear hw2
      go_wp2
      go_ret
      exact ⟨rfl, hR⟩
    · rw [decide_eq_false h0] at C2
      have E := hide (show strZ y (k : Int) = 0 by unfold strZ; rw [if_neg (fun h => h0 (by rw [hpe]; rw [Int.toNat_natCast] at h; exact h.2))])
      replace hpe := hide hpe
      go_enter Try.func13, Try.ntmps13
      go_wp2_with fail
      refine (unhide C1 _).mono ?_
      rintro e w2 ⟨rfl, hw2⟩
      have hw3 := hw2.symm
      subst hw3
      clear hw2
      go_wp2_with fail
      refine (unhide C2 _).mono ?_
      rintro e w2 ⟨rfl, hw2⟩
      have hw3 := hw2.symm
      subst hw3
      clear hw2
      go_wp2
      go_ret
      exact ⟨by rw [unhide E]; rfl, hR⟩
  · rw [decide_eq_false hd] at C1
    have E := hide (show strZ y d = 0 by unfold strZ; rw [if_neg (fun h => hd h.1)])
    go_enter Try.func13, Try.ntmps13
    go_wp2_with fail
    refine (unhide C1 _).mono ?_
    rintro e w2 ⟨rfl, hw2⟩
    have hw3 := hw2.symm
    subst hw3
    clear hw2
    go_wp2
    go_ret
    exact ⟨by rw [unhide E]; rfl, hR⟩
end Go.Proofs.Ytkiocjbooegajad
