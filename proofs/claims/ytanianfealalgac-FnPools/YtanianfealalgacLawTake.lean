/- The law FnExactPoolTake, walked over the loaded program; what the project's function answers is a premise. -/
import Derived.Test.YtanianfealalgacPol2
namespace Go.Proofs.Ytanianfealalgac
open Go.RowKit
def mayT (a : Hs) (z : Int) : Bool := okP a && (decide (0 ≤ z) && (decide (z ≤ 200) && !(decide (a.ct = 20))))
theorem mayT_yes {a : Hs} {z : Int} (h : mayT a z = true) : okP a = true ∧ 0 ≤ z ∧ z ≤ 200 ∧ ¬ a.ct = 20 := by
  simpa [mayT] using h
theorem mayT_is {a : Hs} {z : Int} (h1 : okP a = true) (h2 : 0 ≤ z) (h3 : z ≤ 200) (h4 : ¬ a.ct = 20) : mayT a z = true := by
  simp [mayT, h1, h2, h3, h4]
def tkH (a : Hs) (z : Int) : Hs := if mayT a z = true then takeH a z.toNat else hz
def tkB (a : Hs) (z : Int) : ByteArray := if mayT a z = true then takeB a z.toNat else ⟨#[]⟩
def tkO (a : Hs) (z : Int) : Bool := if mayT a z = true then true else false
theorem specTake_any (a : Hs) (z : Int) (h1 : a.st.size ≤ maxLen) (h2 : a.rs.size ≤ maxLen) (w : World) :
    Calls Try.prog 7 #[hsv a, .int .i64 z] w fun e w' => e = .returned (.tuple #[hsv (tkH a z), .string (tkB a z), .bool (tkO a z)]) ∧ Below w.heap.size w w' := by
  unfold tkH tkB tkO
  by_cases h : mayT a z = true
  · rw [if_pos h, if_pos h, if_pos h]
    obtain ⟨c1, c2, c3, c4⟩ := mayT_yes h
    obtain ⟨n, rfl⟩ : ∃ n : Nat, z = (n : Int) := ⟨z.toNat, by omega⟩
    have := okP_yes c1
    rw [Int.toNat_natCast]
    exact specTake_yes a c1 (by omega) n (by omega) w
  · rw [if_neg h, if_neg h, if_neg h]
    refine specTake_no a z ?_ h1 h2 w
    by_cases c1 : okP a = true
    · by_cases c2 : 0 ≤ z
      · by_cases c3 : z ≤ 200
        · by_cases c4 : a.ct = 20
          · exact .inr (.inr (.inr c4))
          · exact absurd (mayT_is c1 c2 c3 c4) h
        · exact .inr (.inr (.inl (by omega)))
      · exact .inr (.inl (by omega))
    · exact .inl (by simpa using c1)
end Go.Proofs.Ytanianfealalgac
