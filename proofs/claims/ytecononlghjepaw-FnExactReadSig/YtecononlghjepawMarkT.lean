/- What laws.markText comes to. -/
import Derived.Test.YtecononlghjepawDecimal
import Derived.Test.YtecononlghjepawStrs
namespace Go.Proofs.Ytecononlghjepaw
open Go.RowKit

/-- The text of a mark. -/
def mkS (k : Nat) : ByteArray := ⟨(109 :: decB k).toArray⟩
theorem fig_ten {m : Nat} (h : m < 10) : fig m = byteOf (48 + m) := by unfold fig; rw [if_pos h]
theorem ret_m {t l : List UInt8} (h : t = l) : Ending.returned (.string (ByteArray.mk #[109] ++ ByteArray.mk t.toArray)) = .returned (.string ⟨(109 :: l).toArray⟩) := by rw [str_cons, h]

set_option maxHeartbeats 400000 in
theorem markText_any (n : Nat) (w : World) (h0 : 1 ≤ n) (hn : n ≤ 1000000000) :
    Calls Try.prog 39 #[.int .i64 n] w fun e w' => e = .returned (.string (mkS n)) ∧ Below w.heap.size w w' := by
  have h1 : ¬ (n : Int) ≤ 0 := by omega
  go_enter Try.func39, Try.ntmps39
  go_wp2
  go_loopw [0, 3] (fun ti ts wr => ∃ (m : Nat) (t : List UInt8), m ≤ 1000000000 ∧ DecAt n m t ∧ ti = .int .i64 m ∧ ts = .string ⟨t.toArray⟩ ∧ Below w.heap.size w wr) (fun ti _ _ => (intOf ti).toNat)
  case atStart => exact ⟨n, [], hn, DecAt.start (by omega), rfl, rfl, Below.refl _ _⟩
  case round =>
    obtain ⟨m, t, hm, hat, rfl, rfl, hb⟩ := hrel
    clear h1
    have hsz := hb.size
    by_cases hz : m = 0
    · have hfin := hide (hat.done hz)
      have hl := hat.1
      subst hz
      go_wp2
      go_ret
      exact ⟨ret_m (unhide hfin), hb⟩
    · have hx := hat.next (by omega) hz
      have hl := hat.1
      have h3 : (0 : Int) < (m : Int) := by omega
      have hcv : ((fig (m % 10)).toNat : Int) = 48 + (m : Int) % 10 := by rw [fig_ten (by omega), byteOf_toNat (by omega)]; omega
      have hconv := fun (W : World) => run_string_new (P := Try.prog) 55 9 5 Try.underlying55 Try.underlying5 Try.underlying9 W (fig (m % 10))
      rw [hcv] at hconv
      clear hcv
      go_wp2
      go_roundw
      case rel => exact ⟨m / 10, fig (m % 10) :: t, by omega, hx, by go_num, str_cons _ _, hb.alloc hsz _⟩
      case measure => simp [intOf]; omega

theorem markText_at (z : Int) (n : Nat) (hz : z = n) (w : World) (h0 : 1 ≤ n) (hn : n ≤ 1000000000) :
    Calls Try.prog 39 #[.int .i64 z] w fun e w' => e = .returned (.string (mkS n)) ∧ Below w.heap.size w w' := by
  rw [hz]; exact markText_any n w h0 hn

end Go.Proofs.Ytecononlghjepaw
