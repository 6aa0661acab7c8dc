/- What spec.Unhex comes to, over the loaded program. -/
import Derived.Test.YthoeebdibhdeoaaDoorChecked
import Derived.Test.YthoeebdibhdeoaaDoorUh
namespace Go.Proofs.YthoeebdibhdeoaaDoor
open Go.RowKit

theorem Tryd.infoBU : (Tryd.prog.info? 5).map (fun i => (i.zero, i.size, i.bytes)) = some (some (.int .u8 0), 1, 1) := by kernel_rfl
theorem cs_oneU {c : Int} {b : UInt8} (h : c = (b.toNat : Int)) : (#[Value.int .u8 c] : Array Value).toList = [b].map bv := by simp [bv, h]

theorem halfV_cases {c : Nat} {o : Option Nat} (e : halfV c = o) : (48 ≤ c ∧ c ≤ 57 ∧ o = some (c - 48)) ∨ (97 ≤ c ∧ c ≤ 102 ∧ o = some (c - 87)) ∨ (c < 48 ∧ o = none) ∨ (57 < c ∧ c < 97 ∧ o = none) ∨ (102 < c ∧ o = none) := by
  unfold halfV at e
  split at e
  · exact .inl ⟨by omega, by omega, e.symm⟩
  · split at e
    · exact .inr (.inl ⟨by omega, by omega, e.symm⟩)
    · by_cases h1 : c < 48
      · exact .inr (.inr (.inl ⟨h1, e.symm⟩))
      · by_cases h2 : c < 97
        · exact .inr (.inr (.inr (.inl ⟨by omega, h2, e.symm⟩)))
        · exact .inr (.inr (.inr (.inr ⟨by omega, e.symm⟩)))

theorem ret_int {k : IntKind} {a b : Int} (h : a = b) : Ending.returned (.int k a) = .returned (.int k b) := by rw [h]
theorem ret_ib {k : IntKind} {a b : Int} {c : Bool} (h : a = b) : Ending.returned (.tuple #[.int k a, .bool c]) = .returned (.tuple #[.int k b, .bool c]) := by rw [h]

def l01V (o : Option Nat) : Int := match o with | none => -1 | some h => (h : Int)


def halfT (o : Option Nat) : Value := match o with | none => .tuple #[.int .u8 0, .bool false] | some h => .tuple #[.int .u8 (h : Int), .bool true]

theorem halfByte_any (c : Nat) (w : World) (hc : c < 256) :
    Calls Tryd.prog 30 #[.int .u8 c] w fun e w' => e = .returned (halfT (halfV c)) ∧ w' = w := by
  rcases halfV_cases (c := c) rfl with ⟨h1, h2, h3⟩ | ⟨h1, h2, h3⟩ | ⟨h1, h3⟩ | ⟨h1, h2, h3⟩ | ⟨h1, h3⟩
  all_goals
    rw [h3]
    clear h3
    simp only [halfT]
    go_enter Tryd.func30, Tryd.ntmps30
    go_wp2
    go_ret2
    refine ⟨?_, rfl⟩
    first | rfl | exact ret_ib (by omega)


end Go.Proofs.YthoeebdibhdeoaaDoor
