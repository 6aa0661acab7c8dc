/- What spec.ReadVar comes to, over the loaded program. -/
import Derived.Test.YtkbbcjnickgfjaaDoorReadVar
import Derived.Deep.RegionWith
import Derived.Deep.RegionHeld3
namespace Go.Proofs.YtkbbcjnickgfjaaDoor
open Go.RowKit

set_option maxRecDepth 20000 in
set_option maxHeartbeats 400000 in
theorem specReadVar_no (s : ByteArray) (p : Int) (w : World) (hp : p < 0 ∨ (s.size : Int) < p) :
    Calls Tryd.prog 26 #[.string s, .int .i64 p] w fun e w' => e = .returned (rvTup none) ∧ w' = w := by
  go_enter Tryd.func26, Tryd.ntmps26
  go_wp2_with (go_at_call 32; refine (l01In_no _ _ _ _ hp).mono ?_; rintro e w' ⟨rfl, rfl⟩)
  go_ret3
  exact ⟨rfl, rfl⟩

theorem l01Var_at (x : Int) (m : Nat) (hx : x = (m : Int)) (w : World) (hm : m ≤ 1000000000) :
    Calls Tryd.prog 33 #[.int .i64 x] w fun e w' => e = .returned (.string ⟨(varB m).toArray⟩) ∧ Below w.heap.size w w' := by
  subst hx; exact l01Var_any m w hm

set_option maxRecDepth 20000 in
set_option maxHeartbeats 1000000 in
theorem specReadVar_yes (s : ByteArray) (p : Nat) (w : World) (hs : s.size ≤ 1048576) (hp : p ≤ s.size) :
    Calls Tryd.prog 26 #[.string s, .int .i64 p] w fun e w' => e = .returned (rvTup (rvRun s p p 1 0)) ∧ Below w.heap.size w w' := by
  go_enter Tryd.func26, Tryd.ntmps26
  go_wp2_with (go_at_call 32; refine (l01In_yes _ _ _ _ (by omega) (by omega)).mono ?_; rintro e w' ⟨rfl, rfl⟩)
  go_loop [7, 8, 9] (fun tn tu ti => ∃ i u n : Nat, p ≤ i ∧ i ≤ p + 5 ∧ i ≤ s.size ∧ RvAt s p i u n ∧ tn = .int .i64 n ∧ ti = .int .i64 i ∧ tu = .int .i64 u) (fun _ _ ti => s.size - (intOf ti).toNat)
  case atStart => exact ⟨p, 1, 0, Nat.le_refl _, by omega, hp, RvAt.start s p, rfl, rfl, rfl⟩
  case round =>
    obtain ⟨i, u, n, hpi, hi5, his, hat, rfl, rfl, rfl⟩ := hrel
    obtain ⟨hu, hu4, hu5⟩ := hat.bound hi5 hpi
    have hless := hat.less
    by_cases hlt : i < s.size
    · have hbb : s[i].toNat < 256 := s[i].toNat_lt
      by_cases h5 : i < p + 5
      · have hu4' := hu4 h5
        have h5' : (i : Int) < (p : Int) + 5 := by omega
        have hq0 : (0 : Int) ≤ (s[i].toNat : Int) % 128 * (u : Int) := Int.mul_nonneg (by omega) (by omega)
        have hq1 : (s[i].toNat : Int) % 128 * (u : Int) ≤ 34091302912 := Int.le_trans (Int.mul_le_mul (show (s[i].toNat : Int) % 128 ≤ 127 by omega) (show (u : Int) ≤ 268435456 by omega) (by omega) (by omega)) (by omega)
        clear hu hu4 hu5
        by_cases hb : 127 < s[i].toNat
        · have hx := hat.next hpi hlt h5 hb
          have hb' : ¬ (s[i].toNat : Int) < 128 := by omega
          go_wp2
          go_round
          case rel => exact ⟨i + 1, u * 128, n + s[i].toNat % 128 * u, by omega, by omega, by omega, hx, by go_num, by go_num, by go_num⟩
          case measure => simp [intOf]; omega
        · have hb' : (s[i].toNat : Int) < 128 := by omega
          by_cases hbig : 1000000000 < n + s[i].toNat % 128 * u
          · have hbig' : (1000000000 : Int) < (n : Int) + (s[i].toNat : Int) % 128 * (u : Int) := by rw [rv_cast]; omega
            have hfin := rvRun_no (u := u) (n := n) hlt h5 hb (.inr hbig)
            rw [hat.same] at hfin
            have HF := hide hfin
            clear hfin hbig
            go_wp2
            go_region
            all_goals
              go_wp2
              go_ret3
              exact ⟨rvTup_none (unhide HF), (Below.refl _ _).drew⟩
          · have hbig' : decide ((1000000000 : Int) < (n : Int) + (s[i].toNat : Int) % 128 * (u : Int)) = false := by rw [rv_cast, decide_eq_false_iff_not]; omega
            have hw1 : IntKind.i64.wrap ((i : Int) + 1) = (i : Int) + 1 := by rw [IntKind.wrap_i64]; omega
            have hi1 : (p : Int) ≤ (i : Int) + 1 := by omega
            have hi2 : (i : Int) + 1 ≤ (s.size : Int) := by omega
            have hi3 : (0 : Int) ≤ (p : Int) := by omega
            go_wp2
            go_region_held3 (fun _ => True) (trivial) (first | (go_at_call 33; refine (l01Var_at _ (n + s[i].toNat % 128 * u) (rv_cast _ _ _) _ (by omega)).mono ?_; rintro e w1 ⟨rfl, hb1⟩))
            clear hw1 hi1 hi2 hi3 hbig'
            by_cases hz : s[i].toNat = 0 ∧ p < i
            · have ht := (hat.test hpi hlt hb).2 hz
              have hfin := rvRun_no (u := u) (n := n) hlt h5 hb (.inl hz)
              rw [hat.same] at hfin
              have HF := hide hfin
              clear hfin hz hbig hq0 hq1
              go_wp2
              all_goals first
                | (rename_i hx; rw [ht] at hx; exact absurd hx (by decide))
                | (go_ret3; exact ⟨rvTup_none (unhide HF), ((Below.refl _ w').drew).trans hb1⟩)
            · have ht := (hat.test hpi hlt hb).1 hz
              have hfin := rvRun_yes (u := u) (n := n) hlt h5 hb (by omega)
              rw [hat.same] at hfin
              have HF := hide hfin
              clear hfin hz hbig hq0 hq1
              go_wp2
              all_goals first
                | (rename_i hx; rw [ht] at hx; exact absurd hx (by decide))
                | (go_ret3; exact ⟨rvTup_some (unhide HF), ((Below.refl _ w').drew).trans hb1⟩)
      · have h5' : ¬ (i : Int) < (p : Int) + 5 := by omega
        clear hu hu4 hu5
        go_wp2
        go_ret3
        exact ⟨rvTup_none (by rw [← hat.same, rvRun_out (by omega)]), Below.refl _ _⟩
    · clear hu4 hu5
      go_wp2
      go_ret3
      exact ⟨rvTup_none (by rw [← hat.same, rvRun_out (by omega)]), Below.refl _ _⟩

end Go.Proofs.YtkbbcjnickgfjaaDoor
