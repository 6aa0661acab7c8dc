/- Polynomials by the given model: sums and differences, over the loaded program. -/
import Derived.Test.YtecononlghjepawPly2
namespace Go.Proofs.Ytecononlghjepaw
open Go.RowKit
theorem step_append_v9 {P : Program} {w W : World} {ops : Array Oper} {o : Oper} {a : Act} {K : Act → World → Prop} {Q : Exit → Act → World → Prop} {E : Prop} {e : TypeId} {x : Int} (hW : W = w.alloc (.cells #[.int .i64 x] e)) (hg : o.guard = none) (s y : Operand) (t : TypeId)
    (ho : o.op = .call { callee := .builtin .append, args := #[s, y], argTypes := #[t, t] })
    (base B : Nat) (i : TypeInfo) (z : Value) (nb : Nat) (ht : P.underlying t = some (.slice e)) (hi : P.info? e = some i) (hz : i.zero = some z) (hsize : i.size = 1) (hby : i.bytes = nb) (hzs : z.cells.size = 1)
    (v : Value) (xs : List Value) (hs : a.eval s = v) (hown : OwnV w base e v xs)
    (hx : a.eval y = .slice (some ⟨w.heap.size, 0, none⟩) 1 1)
    (h63 : xs.length + 1 ≤ maxLen) (hbytes : (xs.length + 1) * nb ≤ 140737488355328) (hB : B ≤ base) (hbase : base ≤ w.heap.size) {w00 : World} (hbel : Below B w00 w)
    (h : ∀ v' w', OwnV w' base e v' (xs ++ [.int .i64 x]) → Below B w00 w' → K (a.put o.dst v') w') :
    if Region.wanted o (yielded ops a.tmps) = true then Oper.wp P o a W K Q else E := by
  subst hW
  have hw : Region.wanted o (yielded ops a.tmps) = true := by simp [Region.wanted, hg]
  rw [if_pos hw]
  exact wp_append_vals s y t ho base B e i z nb ht hi hz hsize hby hzs v xs hs (hown.alloc _) w.heap.size #[.int .i64 x] (heap_alloc_new w _) [.int .i64 x] rfl (by intro u hu; simp only [List.mem_singleton] at hu; subst hu; rfl) 1 1 rfl hx h63 hbytes hB (by simp; omega) (hbel.alloc (by omega) _) h
def preL (f : Nat → Int) (k : Nat) : List Int := (List.range k).map f
theorem preL_len (f : Nat → Int) (k : Nat) : (preL f k).length = k := by unfold preL; rw [List.length_map, List.length_range]
theorem preL_succ (f : Nat → Int) (k : Nat) : preL f (k + 1) = preL f k ++ [f k] := by unfold preL; rw [List.range_succ, List.map_append]; rfl
end Go.Proofs.Ytecononlghjepaw
