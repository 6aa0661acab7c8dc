/- Numbers packed: the state in the midst of packing. -/
import Derived.Test.YtkiocjbooegajaqDoorPck1
namespace Go.Proofs.YtkiocjbooegajaqDoor
open Go.RowKit
/-- The number that the first i numbers of b bits make. -/
def pN (b : Nat) (xs : List Nat) (i : Nat) : Nat := valC (2 ^ b) (xs.take i)
theorem pN_add (b : Nat) (xs : List Nat) (i : Nat) (h : i < xs.length) : pN b xs (i + 1) = pN b xs i + 2 ^ (b * i) * xs[i] := by
  unfold pN
  rw [List.take_add_one, List.getElem?_eq_getElem h]
  show valC (2 ^ b) (xs.take i ++ [xs[i]]) = _
  rw [valC_snoc, List.length_take, Nat.min_eq_left (by omega), ← Nat.pow_mul]
theorem pN_lt (b : Nat) (xs : List Nat) (i : Nat) (h : ∀ x ∈ xs, x < 2 ^ b) : pN b xs i < 2 ^ (b * i) := by
  unfold pN
  refine Nat.lt_of_lt_of_le (valC_lt _ _ (fun x hx => h x (List.mem_of_mem_take hx))) ?_
  rw [← Nat.pow_mul]
  exact Nat.pow_le_pow_right (by omega) (Nat.mul_le_mul_left b (by rw [List.length_take]; omega))
theorem pN_all (b : Nat) (xs : List Nat) : pN b xs xs.length = valC (2 ^ b) xs := by unfold pN; rw [List.take_length]
theorem have_lt {N ct m T : Nat} (h : N < 2 ^ T) (ht : ct + 8 * m = T) : N / 256 ^ m < 2 ^ ct := by
  rw [Nat.div_lt_iff_lt_mul (Nat.pow_pos (by omega)), pow_256, ← Nat.pow_add, ht]
  exact h
theorem have_add {N ct m T x : Nat} (ht : ct + 8 * m = T) : (N + 2 ^ T * x) / 256 ^ m = N / 256 ^ m + x * 2 ^ ct := by
  rw [← ht, Nat.pow_add, ← pow_256, Nat.mul_comm (2 ^ ct) (256 ^ m), Nat.mul_assoc, Nat.add_mul_div_left _ _ (Nat.pow_pos (by omega)), Nat.mul_comm x]
theorem dig_same {N ct m T x : Nat} (ht : ct + 8 * m = T) : dig 256 m (N + 2 ^ T * x) = dig 256 m N := by
  refine dig_mod 256 m _ _ ?_
  rw [← ht, Nat.pow_add, ← pow_256, Nat.mul_comm (2 ^ ct) (256 ^ m), Nat.mul_assoc, Nat.add_mul_mod_self_left]
theorem have_next (N m : Nat) : N / 256 ^ m / 256 = N / 256 ^ (m + 1) := by rw [Nat.div_div_eq_div_mul, Nat.pow_succ]
/-- Bytes of numbers. -/
def bysL (l : List Nat) : List UInt8 := l.map byteOf
theorem bysL_add (N m : Nat) : bysL (dig 256 (m + 1) N) = bysL (dig 256 m N) ++ [byteOf (N / 256 ^ m % 256)] := by
  unfold bysL; rw [dig_add, List.map_append]; rfl
theorem bysL_len (m N : Nat) : (bysL (dig 256 m N)).length = m := by unfold bysL; rw [List.length_map, dig_len]
/-- Whether the numbers l can be packed with so many bits. -/
def pkOk (l : List Int) (bits : Int) : Bool := decide (1 ≤ bits ∧ bits ≤ 12) && l.all fun x => decide (0 ≤ x ∧ x ≤ ((2 ^ bits.toNat : Nat) : Int) - 1)
def natsL (l : List Int) : List Nat := l.map Int.toNat
def pkB (l : List Int) (bits : Int) : ByteArray := if pkOk l bits = true then ⟨(bysL (pkN bits.toNat (natsL l))).toArray⟩ else ⟨#[]⟩
theorem pkOk_yes {l : List Int} {bits : Int} (h : pkOk l bits = true) : (1 ≤ bits ∧ bits ≤ 12) ∧ ∀ x ∈ l, 0 ≤ x ∧ x ≤ ((2 ^ bits.toNat : Nat) : Int) - 1 := by
  unfold pkOk at h
  rw [Bool.and_eq_true, decide_eq_true_iff, List.all_eq_true] at h
  exact ⟨h.1, fun x hx => by simpa using h.2 x hx⟩
theorem pkOk_of {l : List Int} {bits : Int} (h1 : 1 ≤ bits ∧ bits ≤ 12) (h : ∀ x ∈ l, 0 ≤ x ∧ x ≤ ((2 ^ bits.toNat : Nat) : Int) - 1) : pkOk l bits = true := by
  unfold pkOk
  rw [Bool.and_eq_true, decide_eq_true_iff, List.all_eq_true]
  exact ⟨h1, fun x hx => by simpa using h x hx⟩
theorem pkOk_no {l : List Int} {bits : Int} (k : Nat) (hk : k < l.length) (h : ¬ (0 ≤ cAt l k ∧ cAt l k ≤ ((2 ^ bits.toNat : Nat) : Int) - 1)) : pkOk l bits = false := by
  cases e : pkOk l bits with
  | false => rfl
  | true =>
    have := (pkOk_yes e).2 l[k] (List.getElem_mem _)
    rw [← cAt_lt hk] at this
    exact absurd this h
theorem nats_lt {l : List Int} {b : Nat} (h : ∀ x ∈ l, 0 ≤ x ∧ x ≤ ((2 ^ b : Nat) : Int) - 1) : ∀ x ∈ natsL l, x < 2 ^ b := by
  intro x hx
  obtain ⟨y, hy, rfl⟩ := List.mem_map.1 hx
  have := h y hy
  generalize 2 ^ b = p at *
  omega
theorem nats_at (l : List Int) (k : Nat) (hk : k < l.length) : (natsL l)[k]'(by unfold natsL; rw [List.length_map]; exact hk) = (cAt l k).toNat := by
  unfold natsL
  rw [List.getElem_map, cAt_lt hk]
end Go.Proofs.YtkiocjbooegajaqDoor
