/- Polynomials by the project: numbers modulo 3329, powers, bits turned, over the loaded program. -/
import Derived.Test.YtijkhdhapdoepasPly5
import Derived.Test.YtijkhdhapdoepasPly2
namespace Go.Proofs.Ytijkhdhapdoepas
open Go.RowKit
theorem around_parts (n : Int) : (0 ≤ n.tmod 3329 ∧ n.tmod 3329 = n % 3329) ∨ (n.tmod 3329 < 0 ∧ n.tmod 3329 + 3329 = n % 3329) := by
  have e := @Int.tmod_eq_emod n 3329
  split at e
  · left; rw [e]; omega
  · rename_i hn
    right
    have h0 : ¬ 3329 ∣ n := fun hd => hn (.inr hd)
    have e2 : n.tmod 3329 = n % 3329 - 3329 := e
    rw [e2]
    omega
theorem around_any (n : Int) (w : World) :
    Calls Try.prog 68 #[.int .i64 n] w fun e w' => e = .returned (.int .i64 (n % 3329)) ∧ w' = w := by
  have hp := around_parts n
  have hm : 0 ≤ n % 3329 ∧ n % 3329 ≤ 3328 := by omega
  obtain ⟨m, hmm⟩ : ∃ m, m = n % 3329 := ⟨_, rfl⟩
  obtain ⟨x, hx⟩ : ∃ x, x = n.tmod 3329 := ⟨_, rfl⟩
  rw [← hmm] at hp hm ⊢
  rw [← hx] at hp
  have hx' := hx.symm
  have ew : IntKind.i64.wrap x = x := by rw [IntKind.wrap_i64]; omega
  clear hx
  replace hmm := hide hmm
  rcases hp with ⟨h1, h2⟩ | ⟨h1, h2⟩
  · have h3 : ¬ x < 0 := by omega
    subst h2
    go_enter Try.func68, Try.ntmps68
    go_wp2
    go_ret
    exact ⟨rfl, rfl⟩
  · have e3 : IntKind.i64.wrap (x + 3329) = m := by rw [h2, IntKind.wrap_i64]; omega
    replace h2 := hide h2
    go_enter Try.func68, Try.ntmps68
    go_wp2
    go_ret
    exact ⟨rfl, rfl⟩
end Go.Proofs.Ytijkhdhapdoepas
