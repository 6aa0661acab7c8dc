/- What laws.toIntS, eqIntS, markIntS come to. -/
import Derived.Test.YtecononlghjepawRows1
import Derived.Test.YtecononlghjepawProg
namespace Go.Proofs.Ytecononlghjepaw
open Go.RowKit

theorem infoInt : (Try.prog.info? 3).map (fun i => (i.zero, i.size, i.bytes)) = some (some (.int .i64 0), 1, 8) := by kernel_rfl
theorem madeI (n : Nat) : (madeCells (Value.int .i64 0).cells (n * 1)).toList = List.replicate n (.int .i64 0) := by
  unfold madeCells
  apply List.ext_getElem?
  intro j
  rw [Array.toList_map, Array.toList_range, List.getElem?_map, List.getElem?_replicate, Nat.mul_one]
  by_cases hj : j < n
  · rw [List.getElem?_range hj, if_pos hj]
    show some ((#[Value.int .i64 0] : Array Value)[j % 1]!) = _
    rw [Nat.mod_one]; rfl
  · rw [List.getElem?_eq_none (by simp; omega), if_neg hj]; rfl
theorem fillV {xs : List Value} {k n : Nat} {x z : Value} (hf : xs[k]? = some x) (hn : xs.length = n) : (xs.take k ++ List.replicate (n - k) z).set k x = xs.take (k + 1) ++ List.replicate (n - (k + 1)) z := by
  have hk : k < xs.length := (List.getElem?_eq_some_iff.1 hf).1
  have hl : (xs.take k).length = k := by rw [List.length_take]; omega
  rw [List.set_append_right _ _ (by omega), hl, Nat.sub_self, show n - k = (n - (k + 1)) + 1 by omega, List.replicate_succ, List.set_cons_zero, List.take_add_one, hf, List.append_assoc]
  rfl
theorem OwnV.len {w : World} {base n : Nat} {a : Option Addr} {c : Nat} {e : TypeId} {xs : List Value} (h : OwnV w base e (.slice a n c) xs) : xs.length = n := by
  rcases h.2 with ⟨h1, h2⟩ | ⟨g', cap, cur, h1, _⟩
  · simp only [Value.slice.injEq] at h1; omega
  · simp only [Value.slice.injEq] at h1; exact h1.2.1.symm

def mkI (k n : Nat) : List Value := (List.range n).map fun i => .int .i64 ((k + i : Nat) : Int)
theorem mkI_len (k n : Nat) : (mkI k n).length = n := by unfold mkI; simp
theorem mkI_succ (k n : Nat) : mkI k (n + 1) = mkI k n ++ [.int .i64 ((k + n : Nat) : Int)] := by unfold mkI; rw [List.range_succ, List.map_append]; rfl
theorem mkI_set (k i : Nat) (xs : List Value) (h : i < xs.length) : (mkI k i ++ xs.drop i).set i (.int .i64 ((k + i : Nat) : Int)) = mkI k (i + 1) ++ xs.drop (i + 1) := by
  rw [List.drop_eq_getElem_cons h, List.set_append_right _ _ (by rw [mkI_len]; exact Nat.le_refl _), mkI_len, Nat.sub_self, List.set_cons_zero, mkI_succ]
  simp
end Go.Proofs.Ytecononlghjepaw
