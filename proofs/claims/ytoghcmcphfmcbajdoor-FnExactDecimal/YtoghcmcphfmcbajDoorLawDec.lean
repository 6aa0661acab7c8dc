/- The law of Decimal, walked: at every int the two answers are the same, where the library's table of powers of ten holds what its text lays. -/
import Derived.Test.YtoghcmcphfmcbajDoorDecNeg
import Derived.Test.YtoghcmcphfmcbajDoorShelf
import Derived.Lib.ItoaNum
import Derived.Lib.SmallJoins
namespace Go.Proofs.YtoghcmcphfmcbajDoor
open Go.RowKit

theorem decDigits_eq_decB (u : Nat) : Lib.decDigits u = decB u := by
  induction u using Nat.strongRecOn with
  | _ u ih =>
    by_cases h : u < 10
    · rw [Lib.decDigits, dif_pos h, decB_small h]; rfl
    · rw [Lib.decDigits, dif_neg h, decB_big h, ih (u / 10) (by omega)]; rfl

theorem below_grow (w : World) (k : Nat) (os : Array Obj) : Below w.heap.size w (Go.Sort.grow (w.drewN k) os) := by
  refine ⟨rfl, rfl, rfl, ?_, ?_⟩
  · show w.heap.size ≤ (w.heap ++ os).size
    simp
  · intro i hi
    show (w.heap ++ os)[i]? = w.heap[i]?
    rw [Array.getElem?_append_left hi]

theorem gPow : Tryd.prog.globalNamed "internal/strconv.uint64pow10" = some 2 := by kernel_rfl

theorem specDecimal_any (n : Int) (w : World) (h0 : -9223372036854775808 ≤ n) (h1 : n ≤ 9223372036854775807) :
    Calls Tryd.prog 5 #[.int .i64 n] w fun e w' => e = .returned (.string ⟨(Lib.itoa n).toArray⟩) ∧ Below w.heap.size w w' := by
  unfold Lib.itoa
  by_cases h : n < 0
  · rw [if_pos h, decDigits_eq_decB]
    exact decimal_neg n.natAbs w (by omega) (by omega) n (by omega)
  · rw [if_neg h, decDigits_eq_decB]
    have := decimal_nat n.toNat w (by omega)
    rwa [Int.toNat_of_nonneg (by omega)] at this

set_option maxHeartbeats 400000 in
theorem lawDecimal_any (n : Int) (w : World) (h0 : -9223372036854775808 ≤ n) (h1 : n ≤ 9223372036854775807) (htab : Lib.TabIs Tryd.prog w "internal/strconv.uint64pow10" .u64 Lib.pow10Tab) :
    Calls Tryd.prog 3 #[.int .i64 n] w fun e w' => e = .returned (.bool true) ∧ Below w.heap.size w w' := by
  have HT := hide htab
  clear htab
  go_enter Tryd.func3, Tryd.ntmps3
  go_wp2_with (first
    | (go_at_call 5; refine (specDecimal_any n _ h0 h1).mono ?_; rintro e w1 ⟨rfl, hb1⟩)
    | (go_at_call 13; refine (Tryd.strconv_Itoa n h0 h1 _ (Go.Joins.tab_stays gPow (unhide HT) hb1 (Nat.le_refl _))).mono ?_; rintro e w2 ⟨rfl, k, os, rfl⟩)
    | go_in)
  go_ret
  exact ⟨rfl, hb1.trans ((below_grow _ _ _).mono hb1.size)⟩
end Go.Proofs.YtoghcmcphfmcbajDoor
