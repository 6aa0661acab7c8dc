/- The laws' own helpers on one act: its size is counted, a copy is made. -/
import Derived.Test.YtfglljollonnfalActX
import Derived.Test.YtfglljollonnfalLose
namespace Go.Proofs.Ytfglljollonnfal
open Go.RowKit

theorem AcB.step {w w' : World} {g : Nat} {T : TypeId} {a : Ac} (h : AcB w g T a) (hb : Below w.heap.size w w') : AcB w' g T a := h.below hb h.lt
theorem AcB.alloc {w : World} {g : Nat} {T : TypeId} {a : Ac} (h : AcB w g T a) (o : Obj) : AcB (w.alloc o) g T a := h.below ((Below.refl _ w).alloc (Nat.le_refl _) _) h.lt
theorem AcB.grown {w w' : World} {g : Nat} {T : TypeId} {a : Ac} {r : Option Nat} (h : AcB w g T a) (hg : w.grownBy w' r) (hne : r ≠ some g) : AcB w' g T a :=
  (hg.block g h.lt (fun e => hne e.symm)).trans h
theorem two_act (w : World) (a : Ac) (D A : TypeId) (v : Value) : ∃ W, (w.alloc (.cells #[v] D)).alloc (.cells #[.int .i64 a.kd, .string a.nm, .string a.tx, .string a.to] A) = W ∧
    Box W w.heap.size D v ∧ AcB W (w.heap.size + 1) A a ∧ Below w.heap.size w W ∧ W.heap.size = w.heap.size + 2 := by
  refine ⟨_, rfl, (Box.new w D v).alloc _, ?_, ((Below.refl _ w).alloc (Nat.le_refl _) _).alloc (by simp) _, by simp⟩
  unfold AcB
  have := heap_alloc_new (w.alloc (.cells #[v] D)) (.cells #[.int .i64 a.kd, .string a.nm, .string a.tx, .string a.to] A)
  simpa using this

theorem one_box (w : World) (T : TypeId) (v : Value) : ∃ W, w.alloc (.cells #[v] T) = W ∧ Box W w.heap.size T v ∧ Below w.heap.size w W ∧ W.heap.size = w.heap.size + 1 :=
  ⟨_, rfl, Box.new w T v, (Below.refl _ w).alloc (Nat.le_refl _) _, by simp⟩

def acSz (a : Ac) : Nat := a.nm.size + a.tx.size + a.to.size

set_option maxHeartbeats 400000 in
theorem szAct_any (a : Ac) (l : Nat) (w : World) (h1 : a.nm.size ≤ maxLen) (h2 : a.tx.size ≤ maxLen) (h3 : a.to.size ≤ maxLen) (hl : l ≤ 1048576) :
    Calls Try.prog 9 #[acv a, .int .i64 l] w fun e w' => (∃ r : Int, e = .returned (.int .i64 r) ∧ (r = -1 ∨ ∃ m : Nat, r = m ∧ m + acSz a = l)) ∧ Below w.heap.size w w' := by
  unfold maxLen at h1 h2 h3
  unfold acv
  by_cases c1 : (l : Int) - a.nm.size < 0
  · go_enter Try.func9, Try.ntmps9
    go_wp2
    go_ret
    exact ⟨⟨_, rfl, .inl rfl⟩, (Below.refl _ _).alloc (Nat.le_refl _) _⟩
  · by_cases c2 : (l : Int) - a.nm.size - a.tx.size < 0
    · go_enter Try.func9, Try.ntmps9
      go_wp2
      go_ret
      exact ⟨⟨_, rfl, .inl rfl⟩, (Below.refl _ _).alloc (Nat.le_refl _) _⟩
    · by_cases c3 : (l : Int) - a.nm.size - a.tx.size - a.to.size < 0
      · go_enter Try.func9, Try.ntmps9
        go_wp2
        go_ret
        exact ⟨⟨_, rfl, .inl rfl⟩, (Below.refl _ _).alloc (Nat.le_refl _) _⟩
      · go_enter Try.func9, Try.ntmps9
        go_wp2
        go_ret
        exact ⟨⟨_, rfl, .inr ⟨l - acSz a, by unfold acSz; omega, by unfold acSz; omega⟩⟩, (Below.refl _ _).alloc (Nat.le_refl _) _⟩
set_option maxHeartbeats 400000 in
theorem toAct_any (a : Ac) (w : World) :
    Calls Try.prog 12 #[acv a] w fun e w' => e = .returned (acv a) ∧ Below w.heap.size w w' := by
  unfold acv
  go_enter Try.func12, Try.ntmps12
  go_wp2
  exact bodyPost_ret (v := acv a) (by simp [results, Try.results12, go_sem, acv]) rfl ⟨rfl, (((Below.refl w.heap.size w).alloc (Nat.le_refl _) _).alloc (by simp) _).alloc (by simp; omega) _⟩
end Go.Proofs.Ytfglljollonnfal
