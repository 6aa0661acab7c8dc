/- The laws' own helpers on one act: its size is counted, a copy is made. -/
import Derived.Test.YtkaaabpodhgbpaaActTX
import Derived.Test.YtkaaabpodhgbpaaLose
namespace Go.Proofs.Ytkaaabpodhgbpaa
open Go.RowKit

theorem AcB.step {w w' : World} {g : Nat} {T : TypeId} {a : Ac} (h : AcB w g T a) (hb : Below w.heap.size w w') : AcB w' g T a := h.below hb h.lt
theorem AcB.alloc {w : World} {g : Nat} {T : TypeId} {a : Ac} (h : AcB w g T a) (o : Obj) : AcB (w.alloc o) g T a := h.below ((Below.refl _ w).alloc (Nat.le_refl _) _) h.lt
theorem AcB.grown {w w' : World} {g : Nat} {T : TypeId} {a : Ac} {r : Option Nat} (h : AcB w g T a) (hg : w.grownBy w' r) (hne : r ≠ some g) : AcB w' g T a :=
  (hg.block g h.lt (fun e => hne e.symm)).trans h
theorem two_act (w : World) (a : Ac) (D A : TypeId) (v : Value) : ∃ W, (w.alloc (.cells #[v] D)).alloc (.cells #[.int .i64 a.kd, .string a.nm, .string a.tx, .string a.to] A) = W ∧
    Box W w.heap.size D v ∧ AcB W (w.heap.size + 1) A a ∧ Below w.heap.size w W ∧ W.heap.size = w.heap.size + 2 := by
  refine ⟨_, rfl, (Box.new w D v).alloc _, ?_, ((Below.refl _ w).alloc (Nat.le_refl _) _).alloc (by simp) _, by simp⟩
  unfold AcB
  have := heap_alloc_new (w.alloc (.cells #[v] D)) (.cells #[.int .i64 a.kd, .string a.nm, .string a.tx, .string a.to] A)
  simpa using this

theorem one_box (w : World) (T : TypeId) (v : Value) : ∃ W, w.alloc (.cells #[v] T) = W ∧ Box W w.heap.size T v ∧ Below w.heap.size w W ∧ W.heap.size = w.heap.size + 1 :=
  ⟨_, rfl, Box.new w T v, (Below.refl _ w).alloc (Nat.le_refl _) _, by simp⟩

def acSz (a : Ac) : Nat := a.nm.size + a.tx.size + a.to.size

end Go.Proofs.Ytkaaabpodhgbpaa
