/- Laws of no program: a stream in a variable; what a stream is. -/
import Derived.Test.YtkidgllmhdfgaanDoorBase
import Derived.Laws.Rows
namespace Go.Proofs.YtkidgllmhdfgaanDoor
open Go.RowKit
structure Sm where
  (st : ByteArray) (p : Int)
def smv (x : Sm) : Value := .agg #[.string x.st, .int .i64 x.p]
def okS (x : Sm) : Bool := decide (x.st.size = 200) && (decide (0 ≤ x.p) && decide (x.p ≤ 168))
theorem okS_yes {x : Sm} (h : okS x = true) : x.st.size = 200 ∧ 0 ≤ x.p ∧ x.p ≤ 168 := by
  unfold okS at h
  simpa using h
/-- Block g is a variable that holds the stream. -/
def SB (w : World) (g : Nat) (T : TypeId) (a : Sm) : Prop := w.heap[g]? = some (.cells #[.string a.st, .int .i64 a.p] T (0, 0))
theorem SB.lt {w : World} {g : Nat} {T : TypeId} {a : Sm} (h : SB w g T a) : g < w.heap.size := by
  rcases Nat.lt_or_ge g w.heap.size with h1 | h1
  · exact h1
  · unfold SB at h
    rw [Array.getElem?_eq_none h1] at h; cases h
theorem SB.below {w w' : World} {g B : Nat} {T : TypeId} {a : Sm} (h : SB w g T a) (hb : Below B w w') (hg : g < B) : SB w' g T a := by
  unfold SB at h ⊢
  rw [hb.block g hg]; exact h
theorem SB.step {w w' : World} {g : Nat} {T : TypeId} {a : Sm} (h : SB w g T a) (hb : Below w.heap.size w w') : SB w' g T a := h.below hb h.lt
theorem SB.grown {w w' : World} {g h : Nat} {T : TypeId} {a : Sm} (hA : SB w g T a) (hG : w.grownBy w' (some h)) (hne : g ≠ h) : SB w' g T a := by
  have hl := hA.lt
  unfold SB at hA ⊢
  rw [hG.block g hl (by simpa using hne)]
  exact hA
theorem SB.c0 {w : World} {g : Nat} {T : TypeId} {a : Sm} (h : SB w g T a) : w.cell? ⟨g, 0, none⟩ = some (.string a.st) := by unfold SB at h; simp [World.cell?, h]
theorem SB.c1 {w : World} {g : Nat} {T : TypeId} {a : Sm} (h : SB w g T a) : w.cell? ⟨g, 1, none⟩ = some (.int .i64 a.p) := by unfold SB at h; simp [World.cell?, h]
theorem SB.frozen {w : World} {g : Nat} {T : TypeId} {a : Sm} (h : SB w g T a) (k : Nat) : w.frozen? ⟨g, k, none⟩ = false := frozen_of_row w g k _ T h
theorem SB.set0 {w : World} {g : Nat} {T : TypeId} {a : Sm} (h : SB w g T a) (s : ByteArray) : SB (w.setCell ⟨g, 0, none⟩ (.string s)) g T ⟨s, a.p⟩ := by
  unfold SB
  rw [heap_setCell_same w g 0 _ T (.string s) h]
  rfl
theorem SB.set1 {w : World} {g : Nat} {T : TypeId} {a : Sm} (h : SB w g T a) (z : Int) : SB (w.setCell ⟨g, 1, none⟩ (.int .i64 z)) g T ⟨a.st, z⟩ := by
  unfold SB
  rw [heap_setCell_same w g 1 _ T (.int .i64 z) h]
  rfl
theorem SB.set2 {w : World} {g : Nat} {T : TypeId} {a : Sm} (h : SB w g T a) (b : Sm) : SB ((w.setCell ⟨g, 0, none⟩ (.string b.st)).setCell ⟨g, 1, none⟩ (.int .i64 b.p)) g T b := (h.set0 b.st).set1 b.p
theorem SB.set_other {w : World} {g h k : Nat} {T : TypeId} {a : Sm} (hA : SB w g T a) (hne : g ≠ h) (v : Value) : SB (w.setCell ⟨h, k, none⟩ v) g T a := by
  unfold SB at hA ⊢
  rw [Below.heap_setCell _ _ _ g hne]
  exact hA
theorem SB.alloc {w : World} {g : Nat} {T : TypeId} {a : Sm} (h : SB w g T a) (o : Obj) : SB (w.alloc o) g T a := by
  have hl := h.lt
  unfold SB at h ⊢
  rw [heap_alloc_old w o hl]
  exact h
theorem results_sm {P : Program} {fn : Func} {p : Tmp} {ty : TypeId} (h : fn.results = #[.cell p ty]) (tmps : Array Value) (w : World) (g : Nat) (T : TypeId) (a : Sm) (fs : Array Field)
    (hp : tmps.getD p undef = .pointer (some ⟨g, 0, none⟩)) (hA : SB w g T a) (hu : P.underlying ty = some (.struct fs)) (hi : (P.info? ty).map (·.size) = some 2) :
    (results fn tmps).run P w = .ok (smv a) w :=
  results_cell_row h tmps w g T _ (0, 0) _ hp hA hu rfl hi
theorem one_sm (w : World) (a : Sm) (T : TypeId) : ∃ W, w.alloc (.cells #[.string a.st, .int .i64 a.p] T) = W ∧ SB W w.heap.size T a ∧ Below w.heap.size w W ∧ w.heap.size < W.heap.size := by
  refine ⟨_, rfl, ?_, (Below.refl _ w).alloc (Nat.le_refl _) _, by simp⟩
  unfold SB
  exact heap_alloc_new w _
theorem two_sm (w : World) (a b : Sm) (T T' : TypeId) : ∃ W, (w.alloc (.cells #[.string a.st, .int .i64 a.p] T)).alloc (.cells #[.string b.st, .int .i64 b.p] T') = W ∧ SB W w.heap.size T a ∧ SB W (w.heap.size + 1) T' b ∧ Below w.heap.size w W ∧ w.heap.size + 1 < W.heap.size := by
  obtain ⟨W, hW, hA, hb, hlt⟩ := one_sm w a T
  rw [hW]
  refine ⟨_, rfl, hA.alloc _, ?_, hb.alloc (Nat.le_of_lt hlt) _, ?_⟩
  · have e : w.heap.size + 1 = W.heap.size := by rw [← hW]; simp
    unfold SB
    rw [e]
    exact heap_alloc_new W _
  · rw [← hW]; simp
end Go.Proofs.YtkidgllmhdfgaanDoor
