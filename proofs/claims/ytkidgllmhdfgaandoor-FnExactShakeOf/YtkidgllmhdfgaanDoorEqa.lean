/- Laws of no program: arrays of arrays of lanes, compared. -/
import Derived.Test.YtkidgllmhdfgaanDoorLan
import Derived.Laws.StructEq
namespace Go.Proofs.YtkidgllmhdfgaanDoor
open Go.RowKit
theorem run_equalIn_all {P : Program} (w : World) (d : Nat) (t e : TypeId) (n m : Nat) (ht : P.underlying t = some (.array n e)) (hsz : ∀ w, (sizeOf e).run P w = .ok m w) (xs ys : Array Value) (R : Nat → Bool) (A B : Nat → Value)
    (hA : ∀ i, i < n → (part e xs (i * m)).run P w = .ok (A i) w) (hB : ∀ i, i < n → (part e ys (i * m)).run P w = .ok (B i) w) (hR : ∀ i, i < n → (Op.equalIn d e (A i) (B i)).run P w = .ok (R i) w) :
    (Op.equalIn (d + 1) t (.agg xs) (.agg ys)).run P w = .ok ((List.range n).all R) w := by
  rw [List.range_eq_range', Op.equalIn]
  simp only [Sem.run_bind, run_underlying ht, Result.andThen_ok, hsz, Std.Legacy.Range.forIn_eq_forIn_range', Std.Legacy.Range.size, Nat.sub_zero, Nat.add_sub_cancel, Nat.div_one]
  have hl : ∀ i ∈ List.range' 0 n 1, i < n := fun i hi => by simpa using (List.mem_range'_1.1 hi).2
  generalize List.range' 0 n 1 = l at hl ⊢
  induction l with
  | nil => simp
  | cons i l ih =>
    have hi : i < n := hl i (by simp)
    simp only [List.forIn_cons, Sem.run_bind, hA i hi, hB i hi, hR i hi, Result.andThen_ok, List.all_cons]
    cases hb : R i
    · simp
    · simp only [Bool.not_true, Bool.false_eq_true, if_false, Sem.run_pure, Result.andThen_ok, Bool.true_and]
      exact ih fun j hj => hl j (by simp [hj])
theorem run_equal_five {P : Program} (w : World) (d : Nat) (t e : TypeId) (ht : P.underlying t = some (.array 5 e)) (he : P.underlying e = some (.int .u64)) (hsz : ∀ w, (sizeOf e).run P w = .ok 1 w) (l l' : List Nat) (hl : l.length = 5) (hl' : l'.length = 5) :
    (Op.equalIn (d + 2) t (aggL l) (aggL l')).run P w = .ok ((List.range 5).all fun i => ln l i == ln l' i) w := by
  have key : ∀ (l : List Nat), l.length = 5 → ∀ i, i < 5 → (part e (l.map u64v).toArray (i * 1)).run P w = .ok (.int .u64 (ln l i : Int)) w := by
    intro l hl i hi
    simp [part, isAgg, run_underlying he, ln, u64v, List.getElem?_eq_getElem (show i < l.length by omega)]
  refine run_equalIn_all w (d + 1) t e 5 1 ht hsz _ _ _ _ _ (key l hl) (key l' hl') ?_
  intro i _
  rw [run_equalIn_int w d e .u64 .u64 _ _ he]
  congr 1
  rw [Bool.eq_iff_iff]
  simp
  omega
theorem all_five {l l' : List Nat} (h : l.length = 25) (h' : l'.length = 25) : ((List.range 5).all fun y => (List.range 5).all fun x => ln ((l.drop (y * 5)).take 5) x == ln ((l'.drop (y * 5)).take 5) x) = decide (l = l') := by
  have row : ∀ (a : List Nat) (o j : Nat), j < 5 → ln ((a.drop o).take 5) j = ln a (o + j) := by
    intro a o j hj
    unfold ln
    rw [List.getD_eq_getElem?_getD, List.getD_eq_getElem?_getD, List.getElem?_take_of_lt hj, List.getElem?_drop]
  rw [Bool.eq_iff_iff]
  simp only [List.all_eq_true, List.mem_range, beq_iff_eq, decide_eq_true_eq]
  constructor
  · intro k
    apply lanes_ext h h'
    intro i hi
    have := k (i / 5) (by omega) (i % 5) (Nat.mod_lt _ (by decide))
    rw [row _ _ _ (Nat.mod_lt _ (by decide)), row _ _ _ (Nat.mod_lt _ (by decide)), show i / 5 * 5 + i % 5 = i by omega] at this
    exact this
  · intro k y _ x _
    rw [k]
theorem run_equal_lanes {P : Program} (w : World) (d : Nat) (t r e : TypeId) (ht : P.underlying t = some (.array 5 r)) (hr : P.underlying r = some (.array 5 e)) (he : P.underlying e = some (.int .u64)) (hsr : ∀ w, (sizeOf r).run P w = .ok 5 w) (hse : ∀ w, (sizeOf e).run P w = .ok 1 w)
    (l l' : List Nat) (hl : l.length = 25) (hl' : l'.length = 25) : (Op.equalIn (d + 3) t (aggL l) (aggL l')).run P w = .ok (decide (l = l')) w := by
  have key : ∀ (l : List Nat), l.length = 25 → ∀ i, i < 5 → (part r (l.map u64v).toArray (i * 5)).run P w = .ok (aggL ((l.drop (i * 5)).take 5)) w := by
    intro l hl i hi
    simp [part, isAgg, run_underlying hr, hsr, aggL]
  rw [← all_five hl hl']
  refine run_equalIn_all w (d + 2) t r 5 5 ht hsr _ _ _ _ _ (key l hl) (key l' hl') ?_
  intro i hi
  exact run_equal_five w d r e hr he hse _ _ (by simp; omega) (by simp; omega)
end Go.Proofs.YtkidgllmhdfgaanDoor
