/- What the project's pools give, in the words of the laws. -/
import Derived.Test.YtanianfealalgaoPolC
import Derived.Test.YtanianfealalgaoLawTake
namespace Go.Proofs.Ytanianfealalgao
open Go.RowKit
theorem implPoolTake_any (a : Hs) (z : Int) (h1 : a.st.size ≤ 1048576) (h2 : a.rs.size ≤ 1048576) (w : World) :
    Calls Try.prog 15 #[hsv a, .int .i64 z] w fun e w' => e = .returned (.tuple #[hsv (tkH a z), .string (tkB a z), .bool (tkO a z)]) ∧ Below w.heap.size w w' := by
  unfold tkH tkB tkO
  have h1' : a.st.size ≤ maxLen := by unfold maxLen; omega
  have h2' : a.rs.size ≤ maxLen := by unfold maxLen; omega
  by_cases h : mayT a z = true
  · rw [if_pos h, if_pos h, if_pos h]
    obtain ⟨c1, c2, c3, c4⟩ := mayT_yes h
    obtain ⟨n, rfl⟩ : ∃ n : Nat, z = (n : Int) := ⟨z.toNat, by omega⟩
    have := okP_yes c1
    rw [Int.toNat_natCast]
    exact implTake_yes a c1 (by omega) n (by omega) w
  · rw [if_neg h, if_neg h, if_neg h]
    refine implTake_no a z ?_ h1' h2' w
    by_cases c1 : okP a = true
    · by_cases c2 : 0 ≤ z
      · by_cases c3 : z ≤ 200
        · by_cases c4 : a.ct = 20
          · exact .inr (.inr (.inr c4))
          · exact absurd (mayT_is c1 c2 c3 c4) h
        · exact .inr (.inr (.inl (by omega)))
      · exact .inr (.inl (by omega))
    · exact .inl (by simpa using c1)
end Go.Proofs.Ytanianfealalgao
