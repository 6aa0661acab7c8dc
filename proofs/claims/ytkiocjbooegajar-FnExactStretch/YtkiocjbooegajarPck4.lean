/- Unpack by the given model, over the loaded program. -/
import Derived.Test.YtkiocjbooegajarPck2
import Derived.Test.YtkiocjbooegajarPly3
import Derived.Deep.RegionHeld3
namespace Go.Proofs.Ytkiocjbooegajar
open Go.RowKit
theorem valC_app (c : Nat) (l m : List Nat) : valC c (l ++ m) = valC c l + c ^ l.length * valC c m := by
  induction l with
  | nil => show valC c m = 0 + c ^ 0 * valC c m; rw [Nat.pow_zero]; omega
  | cons y ys ih =>
    show y + c * valC c (ys ++ m) = y + c * valC c ys + c ^ (ys.length + 1) * valC c m
    rw [ih, Nat.pow_succ, Nat.mul_add, ← Nat.mul_assoc, Nat.mul_comm c (c ^ ys.length)]
    omega
def bysN (s : ByteArray) : List Nat := s.data.toList.map (·.toNat)
theorem bysN_len (s : ByteArray) : (bysN s).length = s.size := by unfold bysN; rw [List.length_map]; rfl
theorem bysN_lt (s : ByteArray) : ∀ x ∈ bysN s, x < 256 := by
  intro x hx
  obtain ⟨y, _, rfl⟩ := List.mem_map.1 hx
  exact y.toNat_lt
theorem uN_rest (xs : List Nat) (at' : Nat) (h : at' ≤ xs.length) : ∃ r, valC 256 xs = pN 8 xs at' + 2 ^ (8 * at') * r := by
  refine ⟨valC 256 (xs.drop at'), ?_⟩
  have e : xs = xs.take at' ++ xs.drop at' := (List.take_append_drop _ _).symm
  have h1 := valC_app 256 (xs.take at') (xs.drop at')
  rw [← e, List.length_take, Nat.min_eq_left h, pow_256] at h1
  exact h1
theorem div_add2 {N ct B T x : Nat} (h : ct + B = T) : (N + 2 ^ T * x) / 2 ^ B = N / 2 ^ B + x * 2 ^ ct := by
  rw [← h, Nat.pow_add, Nat.mul_comm (2 ^ ct) (2 ^ B), Nat.mul_assoc, Nat.add_mul_div_left _ _ (Nat.pow_pos (by omega)), Nat.mul_comm x]
theorem mod_same {A x b ct : Nat} (h : b ≤ ct) : (A + x * 2 ^ ct) % 2 ^ b = A % 2 ^ b := by
  obtain ⟨d, rfl⟩ : ∃ d, ct = b + d := ⟨ct - b, by omega⟩
  rw [Nat.pow_add, ← Nat.mul_assoc, Nat.mul_comm x, Nat.mul_assoc, Nat.add_mul_mod_self_left]
theorem div_next (N b i : Nat) : N / 2 ^ (b * i) / 2 ^ b = N / 2 ^ (b * (i + 1)) := by rw [Nat.div_div_eq_div_mul, ← Nat.pow_add, Nat.mul_add, Nat.mul_one]
/-- Whether s is a packing of n numbers of so many bits. -/
def upOk (s : ByteArray) (bits n : Int) : Bool := decide (1 ≤ bits ∧ bits ≤ 12) && (decide (0 ≤ n ∧ n ≤ 1000) && (decide (s.size = byN n.toNat bits.toNat) && decide (valC 256 (bysN s) / 2 ^ (bits.toNat * n.toNat) = 0)))
def upL (s : ByteArray) (bits n : Int) : List Int := if upOk s bits n = true then (upN bits.toNat n.toNat (bysN s)).map (fun (x : Nat) => (x : Int)) else []
def digI (b i S : Nat) : List Int := (dig (2 ^ b) i S).map fun (x : Nat) => (x : Int)
theorem digI_add (b i S : Nat) : digI b (i + 1) S = digI b i S ++ [((S / 2 ^ (b * i) % 2 ^ b : Nat) : Int)] := by
  unfold digI
  rw [dig_add, List.map_append, ← Nat.pow_mul]
  rfl
theorem digI_len (b i S : Nat) : (digI b i S).length = i := by unfold digI; rw [List.length_map, dig_len]
end Go.Proofs.Ytkiocjbooegajar
