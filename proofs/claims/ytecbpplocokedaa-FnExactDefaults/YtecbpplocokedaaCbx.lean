/- Laws of no program: a block that holds a variable of several cells. -/
import Derived.Test.YtecbpplocokedaaRows1
import Derived.Laws.Rows
import Derived.Laws.ResultCell
namespace Go.Proofs.Ytecbpplocokedaa
open Go.RowKit
/-- Block g is a variable that holds these cells. -/
def CB (w : World) (g : Nat) (T : TypeId) (cs : Array Value) : Prop := w.heap[g]? = some (.cells cs T (0, 0))
theorem CB.lt {w : World} {g : Nat} {T : TypeId} {cs : Array Value} (h : CB w g T cs) : g < w.heap.size := by
  rcases Nat.lt_or_ge g w.heap.size with h1 | h1
  · exact h1
  · unfold CB at h
    rw [Array.getElem?_eq_none h1] at h; cases h
theorem CB.below {w w' : World} {g B : Nat} {T : TypeId} {cs : Array Value} (h : CB w g T cs) (hb : Below B w w') (hg : g < B) : CB w' g T cs := by
  unfold CB at h ⊢
  rw [hb.block g hg]; exact h
theorem CB.step {w w' : World} {g : Nat} {T : TypeId} {cs : Array Value} (h : CB w g T cs) (hb : Below w.heap.size w w') : CB w' g T cs := h.below hb h.lt
theorem CB.grown {w w' : World} {g : Nat} {r : Option Nat} {T : TypeId} {cs : Array Value} (hA : CB w g T cs) (hG : w.grownBy w' r) (hne : r ≠ some g) : CB w' g T cs := by
  have h := hG.block g hA.lt (fun e => hne e.symm)
  unfold CB at hA ⊢
  rw [h]
  exact hA
theorem CB.cell {w : World} {g : Nat} {T : TypeId} {cs : Array Value} (h : CB w g T cs) (k : Nat) {v : Value} (hv : cs[k]? = some v) : w.cell? ⟨g, k, none⟩ = some v := by
  rw [cell_of_row w g k _ T (0, 0) h]
  exact hv
theorem CB.frozen {w : World} {g : Nat} {T : TypeId} {cs : Array Value} (h : CB w g T cs) (k : Nat) : w.frozen? ⟨g, k, none⟩ = false := frozen_of_row w g k _ T h
theorem CB.set {w : World} {g : Nat} {T : TypeId} {cs : Array Value} (h : CB w g T cs) (k : Nat) (v : Value) : CB (w.setCell ⟨g, k, none⟩ v) g T (cs.setIfInBounds k v) := by
  unfold CB
  rw [heap_setCell_same w g k _ T v h]
theorem CB.set_other {w : World} {g h k : Nat} {T : TypeId} {cs : Array Value} (hA : CB w g T cs) (hne : g ≠ h) (v : Value) : CB (w.setCell ⟨h, k, none⟩ v) g T cs := by
  unfold CB at hA ⊢
  rw [Below.heap_setCell _ _ _ g hne]
  exact hA
theorem CB.alloc {w : World} {g : Nat} {T : TypeId} {cs : Array Value} (h : CB w g T cs) (o : Obj) : CB (w.alloc o) g T cs := by
  have hl := h.lt
  unfold CB at h ⊢
  rw [heap_alloc_old w o hl]
  exact h
theorem CB.new (w : World) (cs : Array Value) (T : TypeId) : CB (w.alloc (.cells cs T)) w.heap.size T cs := by
  unfold CB
  exact heap_alloc_new w _
theorem CB.off {w : World} {g base : Nat} {T e : TypeId} {cs : Array Value} {v : Value} {xs : List Value} (hA : CB w g T cs) (ho : OwnV w base e v xs) (hT : T ≠ e) : v.ownBlock ≠ some g := by
  intro hv
  rcases ho.2 with ⟨h1, _⟩ | ⟨g', cap, cur, h1, _, h3, _⟩
  · rw [h1] at hv; cases hv
  · rw [h1] at hv
    have hv' : (some g' : Option Nat) = some g := hv
    have hg : g' = g := Option.some.inj hv'
    subst hg
    unfold CB at hA
    rw [hA] at h3
    have h4 := Option.some.inj h3
    injection h4 with h5 h6
    exact hT h6
theorem tS0 (w : World) (g o : Nat) (u : Value) : w.grownBy (w.setCell ⟨g, o, none⟩ u) (some g) := ⟨rfl, rfl, rfl, by simp, fun k _ hk => RowKit.Below.heap_setCell _ _ _ _ (fun e => hk (by rw [e]))⟩
theorem OwnV.setO {w : World} {base : Nat} {e : TypeId} {v : Value} {xs : List Value} (h : OwnV w base e v xs) (g k : Nat) (u : Value) (hne : v.ownBlock ≠ some g) : OwnV (w.setCell ⟨g, k, none⟩ u) base e v xs := h.grown (tS0 w g k u) fun j hj e => hne (by rw [hj, e])
theorem results_cb {P : Program} {fn : Func} {p : Tmp} {ty : TypeId} (h : fn.results = #[.cell p ty]) (tmps : Array Value) (w : World) (g : Nat) (T : TypeId) (cs : Array Value) (fs : Array Field)
    (hp : tmps.getD p undef = .pointer (some ⟨g, 0, none⟩)) (hA : CB w g T cs) (hu : P.underlying ty = some (.struct fs)) (hi : (P.info? ty).map (·.size) = some cs.size) :
    (results fn tmps).run P w = .ok (.agg cs) w :=
  results_cell_row h tmps w g T _ (0, 0) _ hp hA hu rfl hi
theorem results_cb_tmp {P : Program} {fn : Func} {p u : Tmp} {ty : TypeId} (h : fn.results = #[.cell p ty, .tmp u]) (tmps : Array Value) (w : World) (g : Nat) (T : TypeId) (cs : Array Value) (fs : Array Field)
    (hp : tmps.getD p undef = .pointer (some ⟨g, 0, none⟩)) (hA : CB w g T cs) (hu : P.underlying ty = some (.struct fs)) (hi : (P.info? ty).map (·.size) = some cs.size) :
    (results fn tmps).run P w = .ok (.tuple #[.agg cs, tmps.getD u undef]) w := by
  rw [results_cell_tmp h, hp]
  simp [asAddr, Result.andThen, run_loadVar_row w g T ty cs (0, 0) (.struct fs) hA hu rfl hi]
theorem one_cb (w : World) (c1 : Array Value) (T1 : TypeId) : ∃ W, w.alloc (.cells c1 T1) = W ∧ CB W w.heap.size T1 c1 ∧ Below w.heap.size w W ∧ w.heap.size < W.heap.size := by
  refine ⟨_, rfl, CB.new w c1 T1, (Below.refl _ w).alloc (Nat.le_refl _) _, by simp⟩
theorem two_cb (w : World) (c1 c2 : Array Value) (T1 T2 : TypeId) : ∃ W, (w.alloc (.cells c1 T1)).alloc (.cells c2 T2) = W ∧ CB W w.heap.size T1 c1 ∧ CB W (w.heap.size + 1) T2 c2 ∧ Below w.heap.size w W ∧ w.heap.size + 1 < W.heap.size := by
  obtain ⟨W, hW, hA, hb, hlt⟩ := one_cb w c1 T1
  rw [hW]
  have hs : W.heap.size = w.heap.size + 1 := by rw [← hW]; simp
  refine ⟨_, rfl, hA.alloc _, ?_, hb.alloc (by omega) _, by simp; omega⟩
  have h := CB.new W c2 T2
  rw [hs] at h
  exact h
theorem three_cb (w : World) (c1 c2 c3 : Array Value) (T1 T2 T3 : TypeId) : ∃ W, ((w.alloc (.cells c1 T1)).alloc (.cells c2 T2)).alloc (.cells c3 T3) = W ∧ CB W w.heap.size T1 c1 ∧ CB W (w.heap.size + 1) T2 c2 ∧ CB W (w.heap.size + 1 + 1) T3 c3 ∧ Below w.heap.size w W ∧ w.heap.size + 1 + 1 < W.heap.size := by
  obtain ⟨W, hW, hA, hA2, hb, hlt⟩ := two_cb w c1 c2 T1 T2
  rw [hW]
  have hs : W.heap.size = w.heap.size + 1 + 1 := by rw [← hW]; simp
  refine ⟨_, rfl, hA.alloc _, hA2.alloc _, ?_, hb.alloc (by omega) _, by simp; omega⟩
  have h := CB.new W c3 T3
  rw [hs] at h
  exact h
end Go.Proofs.Ytecbpplocokedaa
