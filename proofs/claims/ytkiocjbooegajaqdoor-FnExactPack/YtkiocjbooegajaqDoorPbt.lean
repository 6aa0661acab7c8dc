/- Laws of no program: the digits of a number when a bit above it is set. -/
import Derived.Test.YtkiocjbooegajaqDoorPck4
namespace Go.Proofs.YtkiocjbooegajaqDoor
theorem dig_bit (b m k u V : Nat) (hu : u < b) (hV : V < 2 ^ (b * k + u)) :
    dig (2 ^ b) m (V + 2 ^ (b * k + u)) = (dig (2 ^ b) m V).set k (V / 2 ^ (b * k) + 2 ^ u) := by
  refine List.ext_getElem? fun i => ?_
  rw [List.getElem?_set, dig_len]
  rcases Nat.lt_or_ge i m with hi | hi
  · rw [dig_at _ _ _ _ hi, dig_at _ _ _ _ hi, ← Nat.pow_mul]
    rcases Nat.lt_trichotomy i k with h | h | h
    · rw [if_neg (by omega)]
      have e1 : b * i + b ≤ b * k := by have := Nat.mul_le_mul_left b h; rw [Nat.succ_eq_add_one, Nat.mul_add, Nat.mul_one] at this; exact this
      have h1 := div_add2 (N := V) (ct := b * k + u - b * i) (B := b * i) (T := b * k + u) (x := 1) (by omega)
      rw [Nat.mul_one] at h1
      rw [h1, mod_same (by omega)]
    · subst h
      rw [if_pos rfl, if_pos hi]
      have h1 := div_add2 (N := V) (ct := u) (B := b * i) (T := b * i + u) (x := 1) (by omega)
      rw [Nat.mul_one, Nat.one_mul] at h1
      have h2 : V / 2 ^ (b * i) < 2 ^ u := by
        rw [Nat.div_lt_iff_lt_mul (Nat.pow_pos (by omega)), ← Nat.pow_add, Nat.add_comm u]
        exact hV
      have h3 : 2 ^ (u + 1) ≤ 2 ^ b := Nat.pow_le_pow_right (by omega) (by omega)
      rw [Nat.pow_succ] at h3
      rw [h1, Nat.mod_eq_of_lt (by omega)]
    · rw [if_neg (by omega)]
      have e1 : b * k + b ≤ b * i := by have := Nat.mul_le_mul_left b h; rw [Nat.succ_eq_add_one, Nat.mul_add, Nat.mul_one] at this; exact this
      have h3 : 2 ^ (b * k + u + 1) ≤ 2 ^ (b * i) := Nat.pow_le_pow_right (by omega) (by omega)
      rw [Nat.pow_succ] at h3
      rw [Nat.div_eq_of_lt (show V + 2 ^ (b * k + u) < 2 ^ (b * i) by omega), Nat.div_eq_of_lt (show V < 2 ^ (b * i) by omega)]
  · rw [List.getElem?_eq_none (by rw [dig_len]; exact hi), List.getElem?_eq_none (by rw [dig_len]; exact hi)]
    by_cases e : k = i
    · rw [if_pos e, if_neg (by omega)]
    · rw [if_neg e]
theorem dig_zero (c m : Nat) : dig c m 0 = List.replicate m 0 := by
  refine List.ext_getElem? fun i => ?_
  rcases Nat.lt_or_ge i m with hi | hi
  · rw [dig_at _ _ _ _ hi, List.getElem?_replicate, if_pos hi, Nat.zero_div, Nat.zero_mod]
  · rw [List.getElem?_eq_none (by rw [dig_len]; exact hi), List.getElem?_replicate, if_neg (by omega)]
theorem digI_bit (b m k u V : Nat) (hu : u < b) (hV : V < 2 ^ (b * k + u)) :
    digI b m (V + 2 ^ (b * k + u)) = (digI b m V).set k ((V / 2 ^ (b * k) + 2 ^ u : Nat) : Int) := by
  unfold digI
  rw [dig_bit b m k u V hu hV, List.map_set]
theorem digI_zero (b m : Nat) : digI b m 0 = List.replicate m 0 := by
  unfold digI
  rw [dig_zero, List.map_replicate]
  rfl
theorem digI_at (b m V k u : Nat) (hk : k < m) (hu : u < b) (hV : V < 2 ^ (b * k + u)) : cAt (digI b m V) k = ((V / 2 ^ (b * k) : Nat) : Int) ∧ V / 2 ^ (b * k) < 2 ^ u := by
  have h2 : V / 2 ^ (b * k) < 2 ^ u := by
    rw [Nat.div_lt_iff_lt_mul (Nat.pow_pos (by omega)), ← Nat.pow_add, Nat.add_comm u]
    exact hV
  refine ⟨?_, h2⟩
  have h3 : 2 ^ u ≤ 2 ^ b := Nat.pow_le_pow_right (by omega) (by omega)
  have h4 := dig_at (2 ^ b) m V k hk
  rw [← Nat.pow_mul, Nat.mod_eq_of_lt (by omega)] at h4
  rw [cAt_lt (by rw [digI_len]; exact hk)]
  unfold digI
  rw [List.getElem_map]
  have h5 := List.getElem?_eq_getElem (show k < (dig (2 ^ b) m V).length by rw [dig_len]; exact hk)
  rw [h4] at h5
  rw [← Option.some.inj h5]
theorem bys_bit (m k u V : Nat) (hu : u < 8) (hV : V < 2 ^ (8 * k + u)) :
    bysL (dig 256 m (V + 2 ^ (8 * k + u))) = (bysL (dig 256 m V)).set k (byteOf (V / 2 ^ (8 * k) + 2 ^ u)) := by
  have h := dig_bit 8 m k u V hu hV
  rw [show (2 : Nat) ^ 8 = 256 from rfl] at h
  unfold bysL
  rw [h, List.map_set]
theorem bys_at (m k u V : Nat) (hk : k < m) (hu : u < 8) (hV : V < 2 ^ (8 * k + u)) : (bysL (dig 256 m V))[k]? = some (byteOf (V / 2 ^ (8 * k))) ∧ V / 2 ^ (8 * k) < 2 ^ u := by
  have h2 : V / 2 ^ (8 * k) < 2 ^ u := by
    rw [Nat.div_lt_iff_lt_mul (Nat.pow_pos (by omega)), ← Nat.pow_add, Nat.add_comm u]
    exact hV
  refine ⟨?_, h2⟩
  have h3 : 2 ^ u ≤ 2 ^ 8 := Nat.pow_le_pow_right (by omega) (by omega)
  have h4 := dig_at 256 m V k hk
  rw [pow_256, Nat.mod_eq_of_lt (by omega)] at h4
  unfold bysL
  rw [List.getElem?_map, h4]
  rfl
theorem bys_zero (m : Nat) : bysL (dig 256 m 0) = List.replicate m (0 : UInt8) := by
  unfold bysL
  rw [dig_zero, List.map_replicate]
  rfl
theorem or_bit (x u : Nat) (h : x < 2 ^ u) : x ||| 2 ^ u = x + 2 ^ u := by
  have := Nat.two_pow_add_eq_or_of_lt h 1
  rw [Nat.mul_one] at this
  rw [Nat.or_comm, ← this, Nat.add_comm]
theorem and_bit (x u : Nat) : x &&& 2 ^ u = if x / 2 ^ u % 2 = 1 then 2 ^ u else 0 := by
  have hx : x.testBit u = decide (x / 2 ^ u % 2 = 1) := Nat.testBit_eq_decide_div_mod_eq
  refine Nat.eq_of_testBit_eq fun i => ?_
  rw [Nat.testBit_and, Nat.testBit_two_pow]
  by_cases e : u = i
  · subst e
    rw [hx, decide_eq_true (rfl : u = u), Bool.and_true]
    by_cases h : x / 2 ^ u % 2 = 1
    · rw [if_pos h, decide_eq_true h, Nat.testBit_two_pow, decide_eq_true rfl]
    · rw [if_neg h, decide_eq_false h, Nat.zero_testBit]
  · rw [decide_eq_false e, Bool.and_false]
    by_cases h : x / 2 ^ u % 2 = 1
    · rw [if_pos h, Nat.testBit_two_pow, decide_eq_false e]
    · rw [if_neg h, Nat.zero_testBit]
theorem mod_bit (x j : Nat) : x % 2 ^ (j + 1) = x % 2 ^ j + 2 ^ j * (x / 2 ^ j % 2) := Nat.mod_pow_succ
/-- The number of the first i numbers, and of the next one's first j bits. -/
def pV (b : Nat) (xs : List Nat) (i j : Nat) : Nat := pN b xs i + 2 ^ (b * i) * (xs.getD i 0 % 2 ^ j)
theorem pV_zero (b : Nat) (xs : List Nat) (i : Nat) : pV b xs i 0 = pN b xs i := by unfold pV; rw [Nat.pow_zero, Nat.mod_one, Nat.mul_zero, Nat.add_zero]
theorem pV_full (b : Nat) (xs : List Nat) (i : Nat) (hi : i < xs.length) (h : ∀ x ∈ xs, x < 2 ^ b) : pV b xs i b = pN b xs (i + 1) := by
  unfold pV
  rw [pN_add b xs i hi, List.getD_eq_getElem?_getD, List.getElem?_eq_getElem hi, Option.getD_some, Nat.mod_eq_of_lt (h _ (List.getElem_mem hi))]
theorem pV_lt (b : Nat) (xs : List Nat) (i j : Nat) (h : ∀ x ∈ xs, x < 2 ^ b) : pV b xs i j < 2 ^ (b * i + j) := by
  unfold pV
  have h1 := pN_lt b xs i h
  have h2 : xs.getD i 0 % 2 ^ j < 2 ^ j := Nat.mod_lt _ (Nat.pow_pos (by omega))
  have h3 : 2 ^ (b * i) * (xs.getD i 0 % 2 ^ j + 1) ≤ 2 ^ (b * i) * 2 ^ j := Nat.mul_le_mul_left _ h2
  rw [Nat.mul_add, Nat.mul_one] at h3
  rw [Nat.pow_add]
  omega
theorem pV_bit (b : Nat) (xs : List Nat) (i j : Nat) : pV b xs i (j + 1) = if xs.getD i 0 / 2 ^ j % 2 = 1 then pV b xs i j + 2 ^ (b * i + j) else pV b xs i j := by
  unfold pV
  rw [mod_bit, Nat.mul_add]
  by_cases h : xs.getD i 0 / 2 ^ j % 2 = 1
  · rw [if_pos h, h, Nat.mul_one, Nat.pow_add]; omega
  · rw [if_neg h, show xs.getD i 0 / 2 ^ j % 2 = 0 by omega, Nat.mul_zero, Nat.mul_zero, Nat.add_zero]
theorem u8_or9 (a b : Nat) (ha : a < 256) (hb : b < 256) : Go.bits .or .u8 (a : Int) (b : Int) = ((a ||| b : Nat) : Int) := by
  have h : a ||| b < 2 ^ 8 := Nat.or_lt_two_pow (n := 8) ha hb
  have hk : IntKind.u8.bits = 8 := rfl
  simp only [Go.bits, BitVec.ofInt_natCast, BitVec.toNat_or, BitVec.toNat_ofNat, hk]
  rw [Nat.mod_eq_of_lt (show a < 2 ^ 8 by omega), Nat.mod_eq_of_lt (show b < 2 ^ 8 by omega), IntKind.wrap_u8]
  omega
theorem u8_and9 (a b : Nat) (ha : a < 256) (hb : b < 256) : Go.bits .and .u8 (a : Int) (b : Int) = ((a &&& b : Nat) : Int) := by
  have h : a &&& b < 2 ^ 8 := Nat.and_lt_two_pow a (n := 8) hb
  have hk : IntKind.u8.bits = 8 := rfl
  simp only [Go.bits, BitVec.ofInt_natCast, BitVec.toNat_and, BitVec.toNat_ofNat, hk]
  rw [Nat.mod_eq_of_lt (show a < 2 ^ 8 by omega), Nat.mod_eq_of_lt (show b < 2 ^ 8 by omega), IntKind.wrap_u8]
  omega
/-- One shifted by so many places, as the machine reckons it. -/
theorem wrap_two (b p : Nat) (hb : b ≤ 60) (hp : p = 2 ^ b) : RowKit.wrap64 ((2 : Int) ^ b) = (p : Int) := by
  have h1 : ((2 : Int) ^ b) = ((2 ^ b : Nat) : Int) := by rw [Int.natCast_pow]; rfl
  have h2 : 2 ^ b ≤ 2 ^ 60 := Nat.pow_le_pow_right (by omega) hb
  rw [h1, IntWalk.wrap64_in _ (by omega), hp]
end Go.Proofs.YtkiocjbooegajaqDoor
