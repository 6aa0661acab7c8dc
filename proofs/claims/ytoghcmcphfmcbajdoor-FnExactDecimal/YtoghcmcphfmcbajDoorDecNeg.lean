/- What spec.Decimal comes to at numbers below 0, over the loaded program. -/
import Derived.Test.YtoghcmcphfmcbajDoorDecimal
namespace Go.Proofs.YtoghcmcphfmcbajDoor
open Go.RowKit

theorem ret_minus {t l : List UInt8} (h : t = l) : Ending.returned (.string (ByteArray.mk #[45] ++ ByteArray.mk t.toArray)) = .returned (.string ⟨(45 :: l).toArray⟩) := by rw [str_cons, h]

set_option maxHeartbeats 400000 in
theorem decimal_neg (n : Nat) (w : World) (h0 : n ≠ 0) (hn : n ≤ 9223372036854775808) (z : Int) (hz : z = -(n : Int)) :
    Calls Tryd.prog 5 #[.int .i64 z] w fun e w' => e = .returned (.string ⟨(45 :: decB n).toArray⟩) ∧ Below w.heap.size w w' := by
  have h1 : (z == 0) = false := by rw [beq_eq_false_iff_ne]; omega
  have h2 : z < 0 := by omega
  have HZ := hide hz
  clear hz
  go_enter Tryd.func5, Tryd.ntmps5
  go_wp2
  go_loopw [0, 4] (fun ti ts wr => ∃ (m : Nat) (t : List UInt8) (x : Int), m ≤ 9223372036854775808 ∧ DecAt n m t ∧ Hid (x = -(m : Int)) ∧ ti = .int .i64 x ∧ ts = .string ⟨t.toArray⟩ ∧ Below w.heap.size w wr) (fun ti _ _ => (intOf ti).natAbs)
  case atStart => exact ⟨n, [], z, hn, DecAt.start h0, HZ, rfl, rfl, Below.refl _ _⟩
  case round =>
    obtain ⟨m, t, x, hm, hat, HX, rfl, rfl, hb⟩ := hrel
    clear h1 h2 HZ
    have hsz := hb.size
    have hx0 : x ≤ 0 := by have := unhide HX; omega
    have hl := hat.1
    by_cases hm0 : m = 0
    · have hfin := hide (hat.done hm0)
      have h3 : (x == 0) = true := by rw [beq_iff_eq]; have := unhide HX; omega
      go_wp2
      go_ret
      exact ⟨ret_minus (unhide hfin), hb⟩
    · have hx := hat.next (by omega) hm0
      have h3 : (x == 0) = false := by rw [beq_eq_false_iff_ne]; have := unhide HX; omega
      have hconv := fun (W : World) (b : UInt8) => run_string_new (P := Tryd.prog) 31 9 5 Tryd.underlying31 Tryd.underlying5 Tryd.underlying9 W b
      obtain ⟨y, hy⟩ : ∃ y : Int, y = -((m / 10 : Nat) : Int) := ⟨_, rfl⟩
      have e2 : x.tdiv 10 = y := by rw [unhide HX, hy, Int.neg_tdiv, Int.tdiv_eq_ediv_of_nonneg (by omega)]; omega
      have hy0 : y ≤ 0 := by omega
      have hy1 : -9223372036854775808 ≤ y := by omega
      have HY := hide hy
      clear hy
      by_cases hd : m % 10 = 0
      · have e1 : x.tmod 10 = 0 := by rw [unhide HX, Int.neg_tmod, Int.tmod_eq_emod_of_nonneg (by omega)]; omega
        rw [hd] at hx
        go_wp2_with (go_at_call 12; refine (figure_at _ 0 (by omega) _ (by omega)).mono ?_; rintro e w' ⟨rfl, rfl⟩)
        go_roundw
        case rel => exact ⟨m / 10, fig 0 :: t, y, by omega, hx, HY, by go_num, str_cons _ _, hb.alloc hsz _⟩
        case measure => have h1 := unhide HX; have h2 := unhide HY; simp [intOf]; omega
      · obtain ⟨d, hdd⟩ : ∃ d, d = m % 10 := ⟨_, rfl⟩
        have e1 : x.tmod 10 = -(d : Int) := by rw [unhide HX, Int.neg_tmod, Int.tmod_eq_emod_of_nonneg (by omega)]; omega
        have hd1 : 0 < d := by omega
        have hd2 : d < 10 := by omega
        rw [← hdd] at hx
        clear hdd hd
        go_wp2_with (go_at_call 12; refine (figure_at _ d (by omega) _ (by omega)).mono ?_; rintro e w' ⟨rfl, rfl⟩)
        go_roundw
        case rel => exact ⟨m / 10, fig d :: t, y, by omega, hx, HY, by go_num, str_cons _ _, hb.alloc hsz _⟩
        case measure => have h1 := unhide HX; have h2 := unhide HY; simp [intOf]; omega
end Go.Proofs.YtoghcmcphfmcbajDoor
