/- The laws' helpers on rows of texts, over the loaded program. -/
import Derived.Test.YtoodokjdialakaaInts
import Derived.Test.YtoodokjdialakaaMarkT
import Derived.BigQuiet
import Derived.Deep.RegionHeld3
namespace Go.Proofs.Ytoodokjdialakaa
open Go.RowKit
def sv (b : ByteArray) : Value := .string b
theorem sv_get (l : List ByteArray) (k : Nat) (h : k < l.length) : (l.map sv)[k]? = some (.string l[k]) := by rw [List.getElem?_map, List.getElem?_eq_getElem h]; rfl
theorem infoTxt : (Try.prog.info? 9).map (fun i => (i.zero, i.size, i.bytes)) = some (some (.string ⟨#[]⟩), 1, 16) := by kernel_rfl
theorem madeT (n : Nat) : (madeCells (Value.string ⟨#[]⟩).cells (n * 1)).toList = List.replicate n (.string ⟨#[]⟩) := by
  unfold madeCells
  apply List.ext_getElem?
  intro j
  rw [Array.toList_map, Array.toList_range, List.getElem?_map, List.getElem?_replicate, Nat.mul_one]
  by_cases hj : j < n
  · rw [List.getElem?_range hj, if_pos hj]
    show some ((#[Value.string ⟨#[]⟩] : Array Value)[j % 1]!) = _
    rw [Nat.mod_one]; rfl
  · rw [List.getElem?_eq_none (by simp; omega), if_neg hj]; rfl
/-- How many bytes the texts have together. -/
def sumS : List ByteArray → Nat
  | [] => 0
  | x :: xs => x.size + sumS xs
theorem sumS_take (l : List ByteArray) (k : Nat) (h : k < l.length) : sumS (l.take (k + 1)) = sumS (l.take k) + l[k].size := by
  induction l generalizing k with
  | nil => exact absurd h (Nat.not_lt_zero _)
  | cons x xs ih =>
    cases k with
    | zero => show x.size + sumS (xs.take 0) = 0 + x.size; rw [List.take_zero]; show x.size + 0 = _; omega
    | succ k =>
      show x.size + sumS (xs.take (k + 1)) = x.size + sumS (xs.take k) + (xs[k]'(by simpa using h)).size
      rw [ih k (by simpa using h)]
      omega
theorem sumS_all (l : List ByteArray) : sumS (l.take l.length) = sumS l := by rw [List.take_length]
theorem sumS_at (l : List ByteArray) (k : Nat) (h : k < l.length) : l[k].size ≤ sumS l := by
  induction l generalizing k with
  | nil => exact absurd h (Nat.not_lt_zero _)
  | cons x xs ih =>
    show _ ≤ x.size + sumS xs
    cases k with
    | zero => show x.size ≤ _; omega
    | succ k => have := ih k (by simpa using h); show (xs[k]'(by simpa using h)).size ≤ _; omega
/-- The marks from k on, n of them, as cells. -/
def mkT (k n : Nat) : List Value := (List.range n).map fun i => .string (mkS (k + i))
theorem mkT_len (k n : Nat) : (mkT k n).length = n := by unfold mkT; simp
theorem mkT_succ (k n : Nat) : mkT k (n + 1) = mkT k n ++ [.string (mkS (k + n))] := by unfold mkT; rw [List.range_succ, List.map_append]; rfl
theorem mkT_at (k n i : Nat) (h : i < n) : (mkT k n)[i]? = some (.string (mkS (k + i))) := by
  unfold mkT
  rw [List.getElem?_map, List.getElem?_range h]
  rfl
theorem mkT_set (k i : Nat) (xs : List Value) (h : i < xs.length) : (mkT k i ++ xs.drop i).set i (.string (mkS (k + i))) = mkT k (i + 1) ++ xs.drop (i + 1) := by
  rw [List.drop_eq_getElem_cons h, List.set_append_right _ _ (by rw [mkT_len]; exact Nat.le_refl _), mkT_len, Nat.sub_self, List.set_cons_zero, mkT_succ]
  simp
theorem tR (w : World) (r : Option Nat) : w.grownBy w r := ⟨rfl, rfl, rfl, Nat.le_refl _, fun _ _ _ => rfl⟩
theorem tB {w w' : World} (hb : Below w.heap.size w w') (r : Option Nat) : w.grownBy w' r := ⟨hb.os, hb.tape, hb.output, hb.size, fun k hk _ => hb.block k hk⟩
theorem tS (w : World) (g o : Nat) (u : Value) : w.grownBy (w.setCell ⟨g, o, none⟩ u) (some g) := ⟨rfl, rfl, rfl, by simp, fun k _ hk => RowKit.Below.heap_setCell _ _ _ _ (fun e => hk (by rw [e]))⟩
theorem tT {a b c : World} {r : Option Nat} (h : a.grownBy b r) (k : b.grownBy c r) : a.grownBy c r :=
  ⟨k.os.trans h.os, k.tape.trans h.tape, k.output.trans h.output, Nat.le_trans h.size k.size, fun i hi hr => (k.block i (Nat.lt_of_lt_of_le hi h.size) hr).trans (h.block i hi hr)⟩
end Go.Proofs.Ytoodokjdialakaa
