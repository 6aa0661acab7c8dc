/- What spec.ReadVar and impl.ReadVar come to, over the loaded program. -/
import Derived.Test.YtkbbcjnickgfjaaDoorVar
import Derived.Test.YtkbbcjnickgfjaaDoorRv
namespace Go.Proofs.YtkbbcjnickgfjaaDoor
open Go.RowKit

/-- The three results of ReadVar. -/
def rvTup : Option (Nat × Nat) → Value
  | none => .tuple #[.int .i64 0, .int .i64 0, .bool false]
  | some (n, j) => .tuple #[.int .i64 (n : Int), .int .i64 (j : Int), .bool true]

theorem rvTup_none {x : Option (Nat × Nat)} (h : x = none) : Ending.returned (.tuple #[.int .i64 0, .int .i64 0, .bool false]) = .returned (rvTup x) := by subst h; rfl
theorem rvTup_some {x : Option (Nat × Nat)} {n j : Nat} (h : x = some (n, j)) : Ending.returned (.tuple #[.int .i64 (n : Int), .int .i64 (j : Int), .bool true]) = .returned (rvTup x) := by subst h; rfl

set_option maxRecDepth 20000 in
set_option maxHeartbeats 400000 in
theorem implReadVar_no (s : ByteArray) (p : Int) (w : World) (hp : p < 0 ∨ (s.size : Int) < p) :
    Calls Tryd.prog 36 #[.string s, .int .i64 p] w fun e w' => e = .returned (rvTup none) ∧ w' = w := by
  by_cases h0 : p < 0
  · go_enter Tryd.func36, Tryd.ntmps36
    go_wp2
    go_ret3
    exact ⟨rfl, rfl⟩
  · have h1 : (s.size : Int) < p := by omega
    go_enter Tryd.func36, Tryd.ntmps36
    go_wp2
    go_ret3
    exact ⟨rfl, rfl⟩

set_option maxRecDepth 20000 in
set_option maxHeartbeats 400000 in
theorem implReadVar_yes (s : ByteArray) (p : Nat) (w : World) (hs : s.size ≤ maxLen) (hp : p ≤ s.size) :
    Calls Tryd.prog 36 #[.string s, .int .i64 p] w fun e w' => e = .returned (rvTup (rvRun s p p 1 0)) ∧ w' = w := by
  unfold maxLen at hs
  have h0 : ¬ (p : Int) < 0 := by omega
  have h1 : ¬ (s.size : Int) < (p : Int) := by omega
  go_enter Tryd.func36, Tryd.ntmps36
  go_wp2
  go_loop [7, 8, 9] (fun tn ti tu => ∃ i u n : Nat, p ≤ i ∧ i ≤ p + 5 ∧ i ≤ s.size ∧ RvAt s p i u n ∧ tn = .int .i64 n ∧ ti = .int .i64 i ∧ tu = .int .i64 u) (fun _ ti _ => s.size - (intOf ti).toNat)
  case atStart => exact ⟨p, 1, 0, Nat.le_refl _, by omega, hp, RvAt.start s p, rfl, rfl, rfl⟩
  case round =>
    obtain ⟨i, u, n, hpi, hi5, his, hat, rfl, rfl, rfl⟩ := hrel
    obtain ⟨hu, hu4, hu5⟩ := hat.bound hi5 hpi
    have hless := hat.less
    by_cases hlt : i < s.size
    · have hbb : s[i].toNat < 256 := s[i].toNat_lt
      by_cases h5 : i < p + 5
      · have hu4' := hu4 h5
        have hu6 : (u : Int) ≤ 1000000000 := by omega
        have hq0 : (0 : Int) ≤ (s[i].toNat : Int) % 128 * (u : Int) := Int.mul_nonneg (by omega) (by omega)
        have hq1 : (s[i].toNat : Int) % 128 * (u : Int) ≤ 34091302912 := Int.le_trans (Int.mul_le_mul (show (s[i].toNat : Int) % 128 ≤ 127 by omega) (show (u : Int) ≤ 268435456 by omega) (by omega) (by omega)) (by omega)
        clear hu hu4 hu5
        by_cases hb : 127 < s[i].toNat
        · have hx := hat.next hpi hlt h5 hb
          go_wp2
          go_round
          case rel => exact ⟨i + 1, u * 128, n + s[i].toNat % 128 * u, by omega, by omega, by omega, hx, by go_num, by go_num, by go_num⟩
          case measure => simp [intOf]; omega
        · by_cases hz : s[i].toNat = 0 ∧ p < i
          · have hz1 : ((s[i].toNat : Int) == 0) = true := by rw [beq_iff_eq]; omega
            have hz2 : (p : Int) < (i : Int) := by omega
            have hfin := rvRun_no (u := u) (n := n) hlt h5 hb (.inl hz)
            rw [hat.same] at hfin
            have HF := hide hfin
            clear hfin hz
            go_wp2
            go_ret3
            exact ⟨rvTup_none (unhide HF), rfl⟩
          · by_cases hbig : 1000000000 < n + s[i].toNat % 128 * u
            · have hfin := rvRun_no (u := u) (n := n) hlt h5 hb (.inr hbig)
              rw [hat.same] at hfin
              have HF := hide hfin
              have hbig' : (1000000000 : Int) < (n : Int) + (s[i].toNat : Int) % 128 * (u : Int) := by rw [rv_cast]; omega
              clear hfin hbig
              by_cases hz0 : s[i].toNat = 0
              · have hz1 : ((s[i].toNat : Int) == 0) = true := by rw [beq_iff_eq]; omega
                have hz2 : ¬ (p : Int) < (i : Int) := by omega
                clear hz hz0
                go_wp2
                go_ret3
                exact ⟨rvTup_none (unhide HF), rfl⟩
              · have hz1 : ((s[i].toNat : Int) == 0) = false := by rw [beq_eq_false_iff_ne]; omega
                clear hz hz0
                go_wp2
                go_ret3
                exact ⟨rvTup_none (unhide HF), rfl⟩
            · have hfin := rvRun_yes (u := u) (n := n) hlt h5 hb (by omega)
              rw [hat.same] at hfin
              have HF := hide hfin
              have hbig' : ¬ (1000000000 : Int) < (n : Int) + (s[i].toNat : Int) % 128 * (u : Int) := by rw [rv_cast]; omega
              clear hfin hbig
              by_cases hz0 : s[i].toNat = 0
              · have hz1 : ((s[i].toNat : Int) == 0) = true := by rw [beq_iff_eq]; omega
                have hz2 : ¬ (p : Int) < (i : Int) := by omega
                clear hz hz0
                go_wp2
                go_ret3
                exact ⟨rvTup_some (unhide HF), rfl⟩
              · have hz1 : ((s[i].toNat : Int) == 0) = false := by rw [beq_eq_false_iff_ne]; omega
                clear hz hz0
                go_wp2
                go_ret3
                exact ⟨rvTup_some (unhide HF), rfl⟩
      · have hu6 : ¬ (u : Int) ≤ 1000000000 := by have := hu5 h5; omega
        clear hu hu4 hu5
        go_wp2
        go_ret3
        exact ⟨rvTup_none (by rw [← hat.same, rvRun_out (by omega)]), rfl⟩
    · clear hu4 hu5
      go_wp2
      go_ret3
      exact ⟨rvTup_none (by rw [← hat.same, rvRun_out (by omega)]), rfl⟩

end Go.Proofs.YtkbbcjnickgfjaaDoor
