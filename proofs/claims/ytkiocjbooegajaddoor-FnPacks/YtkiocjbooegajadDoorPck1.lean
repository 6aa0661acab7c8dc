/- Powers of two, numbers squeezed and stretched, by the given model, over the loaded program. -/
import Derived.Test.YtkiocjbooegajadDoorPck0
import Derived.Test.YtkiocjbooegajadDoorPly1
namespace Go.Proofs.YtkiocjbooegajadDoor
open Go.RowKit
theorem two_le (n m : Nat) (h : n ≤ m) : 2 ^ n ≤ 2 ^ m := Nat.pow_le_pow_right (by omega) h
set_option maxRecDepth 20000 in
set_option maxHeartbeats 400000 in
theorem two_any (n : Nat) (hn : n ≤ 40) (w : World) :
    Calls Tryd.prog 18 #[.int .i64 (n : Int)] w fun e w' => e = .returned (.int .i64 ((2 ^ n : Nat) : Int)) ∧ w' = w := by
  obtain ⟨R, hR⟩ : ∃ R : Nat, R = 2 ^ n := ⟨_, rfl⟩
  rw [← hR]
  replace hR := hide hR
  go_enter Tryd.func18, Tryd.ntmps18
  go_wp2
  go_loopw [3, 4] (fun tq ti wr => ∃ k p : Nat, k ≤ n ∧ Hid (p = 2 ^ k) ∧ tq = .int .i64 (p : Int) ∧ ti = .int .i64 (k : Int) ∧ wr = w) (fun _ ti _ => n - (intOf ti).toNat)
  case atStart => exact ⟨0, 1, by omega, hide rfl, rfl, rfl, rfl⟩
  case round =>
    obtain ⟨k, p, hk, hp, rfl, rfl, hw⟩ := hrel
    have hw' := hw.symm
    subst hw'
    clear hw
    by_cases hlt : k < n
    · have hk' : (k : Int) < (n : Int) := by omega
      have hb : p ≤ 2 ^ 40 := by rw [unhide hp]; exact two_le k 40 (by omega)
      obtain ⟨p2, hp2⟩ : ∃ p2 : Nat, p2 = 2 * p := ⟨_, rfl⟩
      have w1 : IntKind.i64.wrap (2 * (p : Int)) = (p2 : Int) := by rw [IntKind.wrap_i64]; omega
      have hn2 := hide (show p2 = 2 ^ (k + 1) by rw [hp2, unhide hp, Nat.pow_succ]; omega)
      replace hp2 := hide hp2
      clear hb
      go_wp2
      exact ⟨⟨k + 1, p2, by omega, hn2, by first | rfl | trivial, by go_num, by first | rfl | trivial⟩, by simp [intOf]; omega⟩
    · have hk' : ¬ (k : Int) < (n : Int) := by omega
      have hke : k = n := by omega
      have E := hide (show R = p by rw [unhide hR, unhide hp, hke])
      replace hke := hide hke
      go_wp2
      go_ret
      exact ⟨by rw [unhide E]; rfl, rfl⟩
end Go.Proofs.YtkiocjbooegajadDoor
