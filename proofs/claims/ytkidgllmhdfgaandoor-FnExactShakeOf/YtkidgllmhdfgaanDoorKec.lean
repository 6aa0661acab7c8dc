/- The sponge's lanes, reckoned on whole numbers below 2^64. -/
import Derived.Test.YtkidgllmhdfgaanDoorBase
namespace Go.Proofs.YtkidgllmhdfgaanDoor
open Go.RowKit
def M64 : Nat := 18446744073709551616
/- a lane turned left by n bits -/
def rol (n x : Nat) : Nat := if n = 0 then x else (x * 2 ^ n) % M64 + x / 2 ^ (64 - n)
theorem rol_lt {n x : Nat} (hn : n < 64) (hx : x < M64) : rol n x < M64 := by
  unfold rol
  split
  · exact hx
  · have e : 2 ^ n * 2 ^ (64 - n) = M64 := by rw [← Nat.pow_add, show n + (64 - n) = 64 by omega]; rfl
    have hp : 0 < 2 ^ (64 - n) := Nat.two_pow_pos _
    have h1 : x / 2 ^ (64 - n) < 2 ^ n := Nat.div_lt_of_lt_mul (by rw [Nat.mul_comm, e]; exact hx)
    have h2 : (x * 2 ^ n) % M64 + 2 ^ n ≤ M64 := by
      have h3 : (x * 2 ^ n) % M64 = (x % 2 ^ (64 - n)) * 2 ^ n := by rw [← e, Nat.mul_comm (2 ^ n) (2 ^ (64 - n)), Nat.mul_mod_mul_right]
      have h4 : x % 2 ^ (64 - n) + 1 ≤ 2 ^ (64 - n) := Nat.mod_lt _ hp
      have h5 := Nat.mul_le_mul_right (2 ^ n) h4
      rw [Nat.add_mul, Nat.one_mul, Nat.mul_comm (2 ^ (64 - n)) (2 ^ n), e] at h5
      rw [h3]
      exact h5
    omega
/- the tables -/
def turnsL : List Nat := [0, 1, 62, 28, 27, 36, 44, 6, 55, 20, 3, 10, 43, 25, 39, 41, 45, 15, 21, 8, 18, 2, 61, 56, 14]
def numsL : List Nat := [1, 32898, 9223372036854808714, 9223372039002292224, 32907, 2147483649, 9223372039002292353, 9223372036854808585, 138, 136, 2147516425, 2147483658, 2147516555, 9223372036854775947, 9223372036854808713, 9223372036854808579, 9223372036854808578, 9223372036854775936, 32778, 9223372039002259466, 9223372039002292353, 9223372036854808704, 2147483649, 9223372039002292232]
def ln (a : List Nat) (i : Nat) : Nat := a.getD i 0
/- one of the twenty-four rounds, of 25 lanes -/
def thC (a : List Nat) (x : Nat) : Nat := ln a x ^^^ ln a (x + 5) ^^^ ln a (x + 10) ^^^ ln a (x + 15) ^^^ ln a (x + 20)
def thD (a : List Nat) (x : Nat) : Nat := thC a ((x + 4) % 5) ^^^ rol 1 (thC a ((x + 1) % 5))
/- where the lane i = y + 5 ((2x + 3y) mod 5) of the next state comes from -/
def fromXY (i : Nat) : Nat × Nat := ((3 * (i / 5) + i % 5) % 5, i % 5)
def rhoPi (a : List Nat) : List Nat := (List.range 25).map fun i => rol (ln turnsL ((fromXY i).1 + 5 * (fromXY i).2)) (ln a ((fromXY i).1 + 5 * (fromXY i).2) ^^^ thD a (fromXY i).1)
def chiL (b : List Nat) : List Nat := (List.range 25).map fun i => ln b i ^^^ ((18446744073709551615 - ln b ((i % 5 + 1) % 5 + 5 * (i / 5))) &&& ln b ((i % 5 + 2) % 5 + 5 * (i / 5)))
def kRound (a : List Nat) (num : Nat) : List Nat := (chiL (rhoPi a)).set 0 (ln (chiL (rhoPi a)) 0 ^^^ num)
def kRounds (a : List Nat) : Nat → List Nat
  | 0 => a
  | n + 1 => kRound (kRounds a n) (ln numsL n)
def keccak (a : List Nat) : List Nat := kRounds a 24
theorem place_of : ∀ x, x < 5 → ∀ y, y < 5 → fromXY (y + 5 * ((2 * x + 3 * y) % 5)) = (x, y) := by decide
/- the tables as they are reckoned -/
def tStep (t : Nat) : Nat × Nat × List Nat → Nat × Nat × List Nat
  | (x, y, l) => (y, (2 * x + 3 * y) % 5, l.set (x + 5 * y) ((t + 1) * (t + 2) / 2 % 64))
def turnSt : Nat → Nat × Nat × List Nat
  | 0 => (1, 0, List.replicate 25 0)
  | t + 1 => tStep t (turnSt t)
theorem turnSt_end : (turnSt 24).2.2 = turnsL := by decide +kernel
def rStep (r : Nat) : Nat := if 256 ≤ r * 2 then (r * 2 - 256) ^^^ 113 else r * 2
def regAt : Nat → Nat
  | 0 => 1
  | t + 1 => rStep (regAt t)
def bitAt : Nat → Nat
  | 0 => 1
  | j + 1 => bitAt j ^ 2 * 2 % M64
def numSt (r : Nat) : Nat → Nat
  | 0 => 0
  | j + 1 => numSt r j + (if regAt (7 * r + j) % 2 = 1 then bitAt j else 0)
theorem numSt_all : (List.range 24).map (fun r => numSt r 7) = numsL := by decide +kernel
/- lanes of bytes, the least byte first, and back -/
def laneL : List UInt8 → Nat
  | [] => 0
  | b :: l => b.toNat + 256 * laneL l
def laneB (x : Nat) : Nat → List UInt8
  | 0 => []
  | n + 1 => byteOf (x % 256) :: laneB (x / 256) n
theorem laneB_len (x n : Nat) : (laneB x n).length = n := by
  induction n generalizing x with
  | zero => rfl
  | succ n ih => simp [laneB, ih]
theorem lane_back (x n : Nat) (h : x < 256 ^ n) : laneL (laneB x n) = x := by
  induction n generalizing x with
  | zero => simp at h; simp [laneB, laneL, h]
  | succ n ih =>
    have hd : x / 256 < 256 ^ n := Nat.div_lt_of_lt_mul (by rw [Nat.pow_succ, Nat.mul_comm] at h; exact h)
    simp only [laneB, laneL, ih (x / 256) hd, byteOf_toNat (Nat.mod_lt x (by decide : 0 < 256))]
    omega
end Go.Proofs.YtkidgllmhdfgaanDoor
