/- Chains, reckoned: what is chopped, chains, digits, keys for once. -/
import Derived.Test.YtecononlghjepawMrk
import Derived.Test.YtecononlghjepawByY
import Derived.Test.YtecononlghjepawPly3
namespace Go.Proofs.Ytecononlghjepaw
open Go.RowKit
def digB (_ : ByteArray) : ByteArray := ⟨Array.replicate 32 0⟩
theorem digB_size0 (s : ByteArray) : (digB s).size = 32 := rfl
def chopB (s : ByteArray) : ByteArray := (digB s).extract 0 4
theorem chopB_size (s : ByteArray) : (chopB s).size = 4 := by
  have h := digB_size0 s
  unfold chopB
  rw [ByteArray.size_extract, h]
  rfl
/-- The text x behind k steps of a chain. -/
def chnB (x : ByteArray) (leaf chain frm : Int) : Nat → ByteArray
  | 0 => x
  | k + 1 => chopB (oneY leaf ++ oneY chain ++ oneY (frm.tmod 256 + (k : Int)) ++ chnB x leaf chain frm k)
def stepsN (z : Int) : Nat := if z ≤ 15 then z.toNat else 15
theorem stepsN_le (z : Int) : stepsN z ≤ 15 := by unfold stepsN; split <;> omega
theorem oneY_size (z : Int) : (oneY z).size = 1 := rfl
theorem chnB_size (x : ByteArray) (leaf chain frm : Int) (k : Nat) (h : x.size ≤ 1048576) : (chnB x leaf chain frm k).size ≤ 1048576 := by
  cases k with
  | zero => exact h
  | succ k => show (chopB _).size ≤ _; rw [chopB_size]; omega
/-- The digit i of the digits of m. -/
def byA (s : ByteArray) (i : Nat) : Nat := (s.data.getD i 0).toNat
def dgN (s : ByteArray) (i : Nat) : Nat := if i % 2 = 0 then byA s (i / 2) / 16 else byA s (i / 2) % 16
/-- How much is left of the first k pairs of digits. -/
def lfN (s : ByteArray) : Nat → Nat
  | 0 => 0
  | k + 1 => lfN s k + 30 - byA s k / 16 - byA s k % 16
def digL (m : ByteArray) : List Int := preL (fun i => (dgN (chopB m) i : Int)) 8 ++ [((lfN (chopB m) 4 / 16 : Nat) : Int), ((lfN (chopB m) 4 % 16 : Nat) : Int)]
theorem byA_lt (s : ByteArray) (i : Nat) : byA s i < 256 := UInt8.toNat_lt _
theorem digL_len (m : ByteArray) : (digL m).length = 10 := by unfold digL; rw [List.length_append, preL_len]; rfl
theorem lfN_le (s : ByteArray) (k : Nat) : lfN s k ≤ 30 * k := by
  induction k with
  | zero => exact Nat.le_refl _
  | succ k ih => show lfN s k + 30 - byA s k / 16 - byA s k % 16 ≤ _; omega
/-- The digit i, as a number. -/
def dgAt (m : ByteArray) (i : Nat) : Nat := if i < 8 then dgN (chopB m) i else if i = 8 then lfN (chopB m) 4 / 16 else lfN (chopB m) 4 % 16
theorem digL_at (m : ByteArray) (i : Nat) (h : i < 10) : (digL m)[i]? = some (dgAt m i : Int) := by
  unfold digL dgAt
  by_cases h8 : i < 8
  · rw [List.getElem?_append_left (by rw [preL_len]; exact h8), if_pos h8]
    unfold preL
    rw [List.getElem?_map, List.getElem?_range h8]
    rfl
  · rw [List.getElem?_append_right (by rw [preL_len]; omega), preL_len, if_neg h8]
    have h9 : i = 8 ∨ i = 9 := by omega
    rcases h9 with rfl | rfl
    · rfl
    · rfl
theorem dgAt_le (m : ByteArray) (i : Nat) : dgAt m i ≤ 15 := by
  unfold dgAt dgN
  have h1 := byA_lt (chopB m) (i / 2)
  have h2 := lfN_le (chopB m) 4
  split
  · split <;> omega
  · split <;> omega
def keyO (seed : ByteArray) (leaf : Int) (i : Nat) : ByteArray := chopB (seed ++ oneY leaf ++ oneY (i : Int) ++ ⟨#[111]⟩)
def keysO (seed : ByteArray) (leaf : Int) : List ByteArray := (List.range 10).map (keyO seed leaf)
def bAt (l : List ByteArray) (i : Nat) : ByteArray := l.getD i ⟨#[]⟩
/-- The texts f 0 .. f (k - 1), one behind the other. -/
def catC (f : Nat → ByteArray) : Nat → ByteArray
  | 0 => ⟨#[]⟩
  | k + 1 => catC f k ++ f k
def onceP (l : List ByteArray) (leaf : Int) : ByteArray := if l.length = 10 then chopB (catC (fun i => chnB (bAt l i) leaf (i : Int) 0 15) 10) else ⟨#[]⟩
def onceS (l : List ByteArray) (leaf : Int) (m : ByteArray) : List ByteArray := if l.length = 10 then (List.range 10).map (fun i => chnB (bAt l i) leaf (i : Int) 0 (dgAt m i)) else []
def onceF (l : List ByteArray) (leaf : Int) (m : ByteArray) : ByteArray := if l.length = 10 then chopB (catC (fun i => chnB (bAt l i) leaf (i : Int) (dgAt m i : Int) (15 - dgAt m i)) 10) else ⟨#[]⟩
/-- A chain goes on where it stopped. -/
theorem chn_on (x : ByteArray) (leaf chain : Int) (a b : Nat) (ha : a < 256) : chnB (chnB x leaf chain 0 a) leaf chain (a : Int) b = chnB x leaf chain 0 (a + b) := by
  induction b with
  | zero => rfl
  | succ b ih =>
    show chopB (oneY leaf ++ oneY chain ++ oneY ((a : Int).tmod 256 + (b : Int)) ++ chnB (chnB x leaf chain 0 a) leaf chain (a : Int) b) = chopB (oneY leaf ++ oneY chain ++ oneY ((0 : Int).tmod 256 + ((a + b : Nat) : Int)) ++ chnB x leaf chain 0 (a + b))
    rw [ih, Int.tmod_eq_emod_of_nonneg (by omega), show (0 : Int).tmod 256 = 0 from rfl, show (a : Int) % 256 + (b : Int) = 0 + ((a + b : Nat) : Int) by omega]
theorem catC_congr {f g : Nat → ByteArray} (k : Nat) (h : ∀ i, i < k → f i = g i) : catC f k = catC g k := by
  induction k with
  | zero => rfl
  | succ k ih => show catC f k ++ f k = catC g k ++ g k; rw [ih fun i hi => h i (by omega), h k (by omega)]
/-- What is signed is found to be of its key. -/
theorem once_found (l : List ByteArray) (leaf : Int) (m : ByteArray) (hl : l.length = 10) : onceF (onceS l leaf m) leaf m = onceP l leaf := by
  have hs : onceS l leaf m = (List.range 10).map (fun i => chnB (bAt l i) leaf (i : Int) 0 (dgAt m i)) := by unfold onceS; rw [if_pos hl]
  have hsl : (onceS l leaf m).length = 10 := by rw [hs, List.length_map, List.length_range]
  unfold onceF onceP
  rw [if_pos hsl, if_pos hl]
  refine congrArg chopB (catC_congr 10 fun i hi => ?_)
  have hb : bAt (onceS l leaf m) i = chnB (bAt l i) leaf (i : Int) 0 (dgAt m i) := by
    rw [hs]
    unfold bAt
    rw [List.getD_eq_getElem?_getD, List.getElem?_map, List.getElem?_range hi]
    rfl
  have hd := dgAt_le m i
  rw [hb, chn_on _ _ _ _ _ (by omega), show dgAt m i + (15 - dgAt m i) = 15 by omega]
theorem catC_le (f : Nat → ByteArray) (n k : Nat) (h : ∀ i, (f i).size ≤ n) : (catC f k).size ≤ k * n := by
  induction k with
  | zero => exact Nat.zero_le _
  | succ k ih =>
    show (catC f k ++ f k).size ≤ _
    rw [ByteArray.size_append, Nat.succ_mul]
    have := h k
    omega
end Go.Proofs.Ytecononlghjepaw
