/- Laws of no program: two numbers appended in a region that draws its order. -/
import Derived.Test.YtecononlghjepawPly3
namespace Go.Proofs.Ytecononlghjepaw
open Go.RowKit
theorem step_append_w9 {P : Program} {w W : World} {ops : Array Oper} {o : Oper} {a : Act} {K : Act → World → Prop} {Q : Exit → Act → World → Prop} {E : Prop} {e : TypeId} {x1 x2 : Int} (hW : W = w.alloc (.cells #[.int .i64 x1, .int .i64 x2] e)) (hg : o.guard = none) (s y : Operand) (t : TypeId)
    (ho : o.op = .call { callee := .builtin .append, args := #[s, y], argTypes := #[t, t] })
    (base B : Nat) (i : TypeInfo) (z : Value) (nb : Nat) (ht : P.underlying t = some (.slice e)) (hi : P.info? e = some i) (hz : i.zero = some z) (hsize : i.size = 1) (hby : i.bytes = nb) (hzs : z.cells.size = 1)
    (v : Value) (xs : List Value) (hs : a.eval s = v) (hown : OwnV w base e v xs)
    (hx : a.eval y = .slice (some ⟨w.heap.size, 0, none⟩) 2 2)
    (h63 : xs.length + 2 ≤ maxLen) (hbytes : (xs.length + 2) * nb ≤ 140737488355328) (hB : B ≤ base) (hbase : base ≤ w.heap.size) {w00 : World} (hbel : Below B w00 w)
    (h : ∀ v' w', OwnV w' base e v' (xs ++ [.int .i64 x1, .int .i64 x2]) → Below B w00 w' → K (a.put o.dst v') w') :
    if Region.wanted o (yielded ops a.tmps) = true then Oper.wp P o a W K Q else E := by
  subst hW
  have hw : Region.wanted o (yielded ops a.tmps) = true := by simp [Region.wanted, hg]
  rw [if_pos hw]
  exact wp_append_vals s y t ho base B e i z nb ht hi hz hsize hby hzs v xs hs (hown.alloc _) w.heap.size #[.int .i64 x1, .int .i64 x2] (heap_alloc_new w _) [.int .i64 x1, .int .i64 x2] rfl (by intro u hu; simp only [List.mem_cons, List.not_mem_nil, or_false] at hu; rcases hu with rfl | rfl <;> rfl) 2 2 rfl hx h63 hbytes hB (by simp; omega) (hbel.alloc (by omega) _) h
theorem pre_two (f : Nat → Int) (k : Nat) : preL f (2 * (k + 1)) = preL f (2 * k) ++ [f (2 * k), f (2 * k + 1)] := by
  rw [show 2 * (k + 1) = 2 * k + 1 + 1 by omega, preL_succ, preL_succ, List.append_assoc]
  rfl
end Go.Proofs.Ytecononlghjepaw
