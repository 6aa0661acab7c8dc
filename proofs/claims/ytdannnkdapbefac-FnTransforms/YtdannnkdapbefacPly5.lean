/- Powers by the given model, over the loaded program. -/
import Derived.Test.YtdannnkdapbefacPly1
namespace Go.Proofs.Ytdannnkdapbefac
open Go.RowKit
def powQ (b e : Int) : Int := if 0 ≤ e ∧ e ≤ 1000000000 then powM (b % 3329) e.toNat else 0
theorem alq_odd {O B c : Int} {E : Nat} (h : AlQ (O * B ^ E) c) (ho : E % 2 = 1) : AlQ (O * B % 3329 * (B * B % 3329) ^ (E / 2)) c := by
  refine AlQ.trans ?_ h
  rw [powM_half B E, if_pos ho]
  have h1 : AlQ (O * B % 3329 * (B * B % 3329) ^ (E / 2)) (O * B * (B * B) ^ (E / 2)) := (AlQ.mod _).mul (powM_al (AlQ.mod _) _)
  rw [show O * ((B * B) ^ (E / 2) * B) = O * B * (B * B) ^ (E / 2) by rw [Int.mul_comm ((B * B) ^ (E / 2)) B, Int.mul_assoc]]
  exact h1
theorem alq_even {O B c : Int} {E : Nat} (h : AlQ (O * B ^ E) c) (ho : ¬ E % 2 = 1) : AlQ (O * (B * B % 3329) ^ (E / 2)) c := by
  refine AlQ.trans ?_ h
  rw [powM_half B E, if_neg ho, Int.mul_one]
  exact (AlQ.refl _).mul (powM_al (AlQ.mod _) _)
theorem alq_end {O B c : Int} (h : AlQ (O * B ^ 0) c) (h1 : 0 ≤ O) (h2 : O ≤ 3328) : c % 3329 = O := by
  rw [Int.pow_zero, Int.mul_one] at h
  unfold AlQ at h
  omega
end Go.Proofs.Ytdannnkdapbefac
