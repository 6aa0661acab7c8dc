/- Trees, reckoned: nodes, levels, roots, paths. -/
import Derived.Test.YtecononlghjepawChn0
namespace Go.Proofs.Ytecononlghjepaw
open Go.RowKit
def nodeB (level place : Int) (a b : ByteArray) : ByteArray := chopB (oneY level ++ oneY place ++ a ++ b ++ ⟨#[110]⟩)
theorem nodeB_size (level place : Int) (a b : ByteArray) : (nodeB level place a b).size = 4 := chopB_size _
def lvN (level : Int) (l : List ByteArray) (i : Nat) : ByteArray := nodeB level (i : Int) (bAt l (2 * i)) (bAt l (2 * i + 1))
def lvL (level : Int) (l : List ByteArray) : List ByteArray := (List.range (l.length / 2)).map (lvN level l)
theorem lvL_len (level : Int) (l : List ByteArray) : (lvL level l).length = l.length / 2 := by unfold lvL; rw [List.length_map, List.length_range]
theorem lvL_at (level : Int) (l : List ByteArray) (i : Nat) (h : i < l.length / 2) : bAt (lvL level l) i = lvN level l i := by
  unfold bAt lvL
  rw [List.getD_eq_getElem?_getD, List.getElem?_map, List.getElem?_range h]
  rfl
theorem lvL_size (level : Int) (l : List ByteArray) : ∀ x ∈ lvL level l, x.size = 4 := by
  intro x hx
  unfold lvL at hx
  obtain ⟨i, _, rfl⟩ := List.mem_map.1 hx
  exact nodeB_size _ _ _ _
/-- The row behind k levels. -/
def lvs (l : List ByteArray) : Nat → List ByteArray
  | 0 => l
  | k + 1 => lvL ((k + 1 : Nat) : Int) (lvs l k)
theorem lvs_len (l : List ByteArray) (hl : l.length = 4) (k : Nat) : (lvs l k).length = 4 / 2 ^ k := by
  induction k with
  | zero => rw [Nat.pow_zero, Nat.div_one]; exact hl
  | succ k ih => show (lvL _ (lvs l k)).length = _; rw [lvL_len, ih, Nat.div_div_eq_div_mul, Nat.pow_succ]
theorem lvs_size (l : List ByteArray) (n : Nat) (hn : 4 ≤ n) (h : ∀ x ∈ l, x.size ≤ n) (k : Nat) : ∀ x ∈ lvs l k, x.size ≤ n := by
  cases k with
  | zero => exact h
  | succ k => intro x hx; rw [lvL_size _ _ x hx]; exact hn
def rootB (l : List ByteArray) : ByteArray := if l.length = 4 then bAt (lvs l 2) 0 else ⟨#[]⟩
/-- The other one of a pair. -/
def sibN (i : Nat) : Nat := if i % 2 = 1 then i - 1 else i + 1
def pthN (l : List ByteArray) (leaf k : Nat) : ByteArray := bAt (lvs l k) (sibN (leaf / 2 ^ k))
def pathL (l : List ByteArray) (leaf : Int) : List ByteArray := if l.length = 4 ∧ (0 ≤ leaf ∧ leaf ≤ 3) then (List.range 2).map (pthN l leaf.toNat) else []
def stpB (level : Int) (i : Nat) (x p : ByteArray) : ByteArray := if i % 2 = 1 then nodeB level ((i / 2 : Nat) : Int) p x else nodeB level ((i / 2 : Nat) : Int) x p
def rbB (x : ByteArray) (leaf : Nat) (path : List ByteArray) : Nat → ByteArray
  | 0 => x
  | k + 1 => stpB ((k + 1 : Nat) : Int) (leaf / 2 ^ k) (rbB x leaf path k) (bAt path k)
theorem rbB_size (x : ByteArray) (leaf : Nat) (path : List ByteArray) (k n : Nat) (hn : 4 ≤ n) (h : x.size ≤ n) : (rbB x leaf path k).size ≤ n := by
  cases k with
  | zero => exact h
  | succ k =>
    show (stpB _ _ _ _).size ≤ n
    unfold stpB
    split <;> rw [nodeB_size] <;> exact hn
def rootBy (x : ByteArray) (leaf : Int) (path : List ByteArray) : ByteArray := if path.length = 2 ∧ (0 ≤ leaf ∧ leaf ≤ 3) then rbB x leaf.toNat path 2 else ⟨#[]⟩
theorem pathL_len (l : List ByteArray) (leaf : Int) (hl : l.length = 4) (h : 0 ≤ leaf ∧ leaf ≤ 3) : (pathL l leaf).length = 2 := by unfold pathL; rw [if_pos ⟨hl, h⟩, List.length_map, List.length_range]
theorem pathL_at (l : List ByteArray) (leaf : Int) (hl : l.length = 4) (h : 0 ≤ leaf ∧ leaf ≤ 3) (k : Nat) (hk : k < 2) : bAt (pathL l leaf) k = pthN l leaf.toNat k := by
  unfold pathL bAt
  rw [if_pos ⟨hl, h⟩, List.getD_eq_getElem?_getD, List.getElem?_map, List.getElem?_range hk]
  rfl
/-- One step up the path is the node above. -/
theorem stp_up (l : List ByteArray) (hl : l.length = 4) (k i : Nat) (hk : k < 2) (hi : i < 4 / 2 ^ k) : stpB ((k + 1 : Nat) : Int) i (bAt (lvs l k) i) (bAt (lvs l k) (sibN i)) = bAt (lvs l (k + 1)) (i / 2) := by
  have hlen := lvs_len l hl k
  have h2 : i / 2 < (lvs l k).length / 2 := by
    rw [hlen]
    have : k = 0 ∨ k = 1 := by omega
    rcases this with rfl | rfl
    · rw [Nat.pow_zero, Nat.div_one] at hi ⊢; omega
    · rw [Nat.pow_one] at hi ⊢; omega
  show _ = bAt (lvL ((k + 1 : Nat) : Int) (lvs l k)) (i / 2)
  rw [lvL_at _ _ _ h2]
  unfold lvN stpB sibN
  by_cases h : i % 2 = 1
  · rw [if_pos h, if_pos h, show 2 * (i / 2) = i - 1 by omega, show i - 1 + 1 = i by omega]
  · rw [if_neg h, if_neg h, show 2 * (i / 2) = i by omega]
theorem rb_up (l : List ByteArray) (hl : l.length = 4) (leaf : Nat) (h : leaf < 4) (path : List ByteArray) (hp : ∀ k, k < 2 → bAt path k = pthN l leaf k) : ∀ k, k ≤ 2 → rbB (bAt l leaf) leaf path k = bAt (lvs l k) (leaf / 2 ^ k) := by
  intro k
  induction k with
  | zero => intro _; rw [Nat.pow_zero, Nat.div_one]; rfl
  | succ k ih =>
    intro hk
    show stpB ((k + 1 : Nat) : Int) (leaf / 2 ^ k) (rbB (bAt l leaf) leaf path k) (bAt path k) = _
    have hlt : leaf / 2 ^ k < 4 / 2 ^ k := by
      have : k = 0 ∨ k = 1 := by omega
      rcases this with rfl | rfl
      · rw [Nat.pow_zero, Nat.div_one]; omega
      · rw [Nat.pow_one]; omega
    rw [ih (by omega), hp k (by omega), pthN, stp_up l hl k _ (by omega) hlt, Nat.div_div_eq_div_mul, Nat.pow_succ]
/-- A path with its leaf makes the root. -/
theorem root_by (l : List ByteArray) (hl : l.length = 4) (leaf : Nat) (h : leaf < 4) : rootBy (bAt l leaf) (leaf : Int) (pathL l (leaf : Int)) = rootB l := by
  have h03 : (0 : Int) ≤ (leaf : Int) ∧ (leaf : Int) ≤ 3 := by omega
  unfold rootBy rootB
  rw [if_pos ⟨pathL_len l _ hl h03, h03⟩, if_pos hl, Int.toNat_natCast, rb_up l hl leaf h _ (fun k hk => by rw [pathL_at l _ hl h03 k hk, Int.toNat_natCast]) 2 (by omega)]
  rw [show leaf / 2 ^ 2 = 0 by rw [show (2 : Nat) ^ 2 = 4 from rfl]; omega]
end Go.Proofs.Ytecononlghjepaw
