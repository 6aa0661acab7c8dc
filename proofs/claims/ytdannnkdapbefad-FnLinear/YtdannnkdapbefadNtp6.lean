/- MulNtt by the given model, over the loaded program. -/
import Derived.Test.YtdannnkdapbefadNtp3
import Derived.Deep.RegionHeld3
import Derived.Deep.QuietTactic
import Derived.BigQuiet
namespace Go.Proofs.Ytdannnkdapbefad
open Go.RowKit
theorem step_append_w9 {P : Program} {w W : World} {ops : Array Oper} {o : Oper} {a : Act} {K : Act → World → Prop} {Q : Exit → Act → World → Prop} {E : Prop} {e : TypeId} {x1 x2 : Int} (hW : W = w.alloc (.cells #[.int .i64 x1, .int .i64 x2] e)) (hg : o.guard = none) (s y : Operand) (t : TypeId)
    (ho : o.op = .call { callee := .builtin .append, args := #[s, y], argTypes := #[t, t] })
    (base B : Nat) (i : TypeInfo) (z : Value) (nb : Nat) (ht : P.underlying t = some (.slice e)) (hi : P.info? e = some i) (hz : i.zero = some z) (hsize : i.size = 1) (hby : i.bytes = nb) (hzs : z.cells.size = 1)
    (v : Value) (xs : List Value) (hs : a.eval s = v) (hown : OwnV w base e v xs)
    (hx : a.eval y = .slice (some ⟨w.heap.size, 0, none⟩) 2 2)
    (h63 : xs.length + 2 ≤ maxLen) (hbytes : (xs.length + 2) * nb ≤ 140737488355328) (hB : B ≤ base) (hbase : base ≤ w.heap.size) {w00 : World} (hbel : Below B w00 w)
    (h : ∀ v' w', OwnV w' base e v' (xs ++ [.int .i64 x1, .int .i64 x2]) → Below B w00 w' → K (a.put o.dst v') w') :
    if Region.wanted o (yielded ops a.tmps) = true then Oper.wp P o a W K Q else E := by
  subst hW
  have hw : Region.wanted o (yielded ops a.tmps) = true := by simp [Region.wanted, hg]
  rw [if_pos hw]
  exact wp_append_vals s y t ho base B e i z nb ht hi hz hsize hby hzs v xs hs (hown.alloc _) w.heap.size #[.int .i64 x1, .int .i64 x2] (heap_alloc_new w _) [.int .i64 x1, .int .i64 x2] rfl (by intro u hu; simp only [List.mem_cons, List.not_mem_nil, or_false] at hu; rcases hu with rfl | rfl <;> rfl) 2 2 rfl hx h63 hbytes hB (by simp; omega) (hbel.alloc (by omega) _) h
theorem gm_rng (k : Nat) : 0 ≤ gm k ∧ gm k ≤ 3328 := by unfold gm powM; omega
theorem gm_pow (k : Nat) : powQ 17 (2 * (t7 k : Int) + 1) = gm k := by
  have := t7_lt k
  unfold powQ gm
  rw [if_pos (by omega), show (2 * (t7 k : Int) + 1).toNat = 2 * t7 k + 1 by omega]
  rfl
theorem pre_two (f : Nat → Int) (k : Nat) : preL f (2 * (k + 1)) = preL f (2 * k) ++ [f (2 * k), f (2 * k + 1)] := by
  rw [show 2 * (k + 1) = 2 * k + 1 + 1 by omega, preL_succ, preL_succ, List.append_assoc]
  rfl
theorem mnF_even (F G : Nat → Int) (k : Nat) : mnF F G (2 * k) = F (2 * k) * G (2 * k) + F (2 * k + 1) * G (2 * k + 1) * gm k := by
  unfold mnF; rw [if_pos (by omega), show 2 * k / 2 = k by omega]
theorem mnF_odd (F G : Nat → Int) (k : Nat) : mnF F G (2 * k + 1) = F (2 * k) * G (2 * k + 1) + F (2 * k + 1) * G (2 * k) := by
  unfold mnF; rw [if_neg (by omega), show 2 * k + 1 - 1 = 2 * k by omega]
theorem mul_rng {x y : Int} (hx : 0 ≤ x ∧ x ≤ 3328) (hy : 0 ≤ y ∧ y ≤ 3328) : 0 ≤ x * y ∧ x * y ≤ 11075584 := by
  constructor
  · exact Int.mul_nonneg hx.1 hy.1
  · have h := Int.mul_le_mul hx.2 hy.2 hy.1 (by omega)
    omega
end Go.Proofs.Ytdannnkdapbefad
