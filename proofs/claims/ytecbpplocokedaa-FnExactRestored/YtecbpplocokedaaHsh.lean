/- A hasher, and the laws' helpers on one; whether it is right, by spec and by impl, over the loaded program. -/
import Derived.Test.YtecbpplocokedaaProg
import Derived.Test.YtecbpplocokedaaChecked
import Derived.Test.YtecbpplocokedaaBase
import Derived.Laws.Rows
namespace Go.Proofs.Ytecbpplocokedaa
open Go.RowKit
set_option linter.unusedVariables false

structure Hs where
  st : ByteArray
  rs : ByteArray
  ct : Int
def hsv (h : Hs) : Value := .agg #[.string h.st, .string h.rs, .int .i64 h.ct]
def okH (h : Hs) : Bool := decide (h.st.size = 32) && (decide (0 ≤ h.ct) && (decide (h.ct ≤ 1000000000) && decide (h.ct % 64 = (h.rs.size : Int))))

theorem okH_no1 {a : Hs} (h : ¬ (a.st.size : Int) = 32) : okH a = false := by
  unfold okH; rw [decide_eq_false (by omega : ¬ a.st.size = 32)]; rfl
theorem okH_no2 {a : Hs} (h : ¬ 0 ≤ a.ct) : okH a = false := by
  unfold okH; rw [decide_eq_false h]; simp
theorem okH_no3 {a : Hs} (h : ¬ a.ct ≤ 1000000000) : okH a = false := by
  unfold okH; rw [decide_eq_false h]; simp
theorem okH_no4 {a : Hs} (h : ¬ a.ct % 64 = (a.rs.size : Int)) : okH a = false := by
  unfold okH; rw [decide_eq_false h]; simp
theorem okH_is {a : Hs} (h1 : (a.st.size : Int) = 32) (h2 : 0 ≤ a.ct) (h3 : a.ct ≤ 1000000000) : okH a = (a.ct % 64 == (a.rs.size : Int)) := by
  unfold okH; rw [decide_eq_true (by omega : a.st.size = 32), decide_eq_true h2, decide_eq_true h3]; rfl
theorem okH_is' {a : Hs} (h1 : (a.st.size : Int) = 32) (h2 : 0 ≤ a.ct) (h3 : a.ct ≤ 1000000000) : okH a = ((a.rs.size : Int) == a.ct % 64) := by
  rw [okH_is h1 h2 h3]; exact Bool.beq_comm
theorem okH_yes {a : Hs} (h : okH a = true) : a.st.size = 32 ∧ 0 ≤ a.ct ∧ a.ct ≤ 1000000000 ∧ a.ct % 64 = (a.rs.size : Int) := by
  unfold okH at h
  simpa using h
/-- Block g is a variable that holds the hasher. -/
def HB (w : World) (g : Nat) (T : TypeId) (a : Hs) : Prop := w.heap[g]? = some (.cells #[.string a.st, .string a.rs, .int .i64 a.ct] T (0, 0))
theorem HB.lt {w : World} {g : Nat} {T : TypeId} {a : Hs} (h : HB w g T a) : g < w.heap.size := by
  rcases Nat.lt_or_ge g w.heap.size with h1 | h1
  · exact h1
  · unfold HB at h
    rw [Array.getElem?_eq_none h1] at h; cases h
theorem HB.below {w w' : World} {g B : Nat} {T : TypeId} {a : Hs} (h : HB w g T a) (hb : Below B w w') (hg : g < B) : HB w' g T a := by
  unfold HB at h ⊢
  rw [hb.block g hg]; exact h
theorem HB.step {w w' : World} {g : Nat} {T : TypeId} {a : Hs} (h : HB w g T a) (hb : Below w.heap.size w w') : HB w' g T a := h.below hb h.lt
theorem HB.c0 {w : World} {g : Nat} {T : TypeId} {a : Hs} (h : HB w g T a) : w.cell? ⟨g, 0, none⟩ = some (.string a.st) := by unfold HB at h; simp [World.cell?, h]
theorem HB.c1 {w : World} {g : Nat} {T : TypeId} {a : Hs} (h : HB w g T a) : w.cell? ⟨g, 1, none⟩ = some (.string a.rs) := by unfold HB at h; simp [World.cell?, h]
theorem HB.c2 {w : World} {g : Nat} {T : TypeId} {a : Hs} (h : HB w g T a) : w.cell? ⟨g, 2, none⟩ = some (.int .i64 a.ct) := by unfold HB at h; simp [World.cell?, h]
theorem HB.frozen {w : World} {g : Nat} {T : TypeId} {a : Hs} (h : HB w g T a) (k : Nat) : w.frozen? ⟨g, k, none⟩ = false := frozen_of_row w g k _ T h
theorem HB.set3 {w : World} {g : Nat} {T : TypeId} {a : Hs} (h : HB w g T a) (b : Hs) : HB (((w.setCell ⟨g, 0, none⟩ (.string b.st)).setCell ⟨g, 1, none⟩ (.string b.rs)).setCell ⟨g, 2, none⟩ (.int .i64 b.ct)) g T b := by
  have e0 := heap_setCell_same w g 0 _ T (.string b.st) h
  have e1 := heap_setCell_same _ g 1 _ T (.string b.rs) e0
  have e2 := heap_setCell_same _ g 2 _ T (.int .i64 b.ct) e1
  unfold HB
  rw [e2]
  rfl
theorem results_hash {P : Program} {fn : Func} {p : Tmp} {ty : TypeId} (h : fn.results = #[.cell p ty]) (tmps : Array Value) (w : World) (g : Nat) (T : TypeId) (a : Hs) (fs : Array Field)
    (hp : tmps.getD p undef = .pointer (some ⟨g, 0, none⟩)) (hA : HB w g T a) (hu : P.underlying ty = some (.struct fs)) (hi : (P.info? ty).map (·.size) = some 3) :
    (results fn tmps).run P w = .ok (hsv a) w :=
  results_cell_row h tmps w g T _ (0, 0) _ hp hA hu rfl hi
theorem one_hash (w : World) (a : Hs) (T : TypeId) : ∃ W, w.alloc (.cells #[.string a.st, .string a.rs, .int .i64 a.ct] T) = W ∧ HB W w.heap.size T a ∧ Below w.heap.size w W ∧ w.heap.size < W.heap.size := by
  refine ⟨_, rfl, ?_, (Below.refl _ w).alloc (Nat.le_refl _) _, by simp⟩
  unfold HB
  exact heap_alloc_new w _
theorem stored_hash (w : World) (T : TypeId) (st rs : ByteArray) (ct : Int) : ∃ W, ((((w.alloc (.cells #[.string ⟨#[]⟩, .string ⟨#[]⟩, .int .i64 0] T)).setCell ⟨w.heap.size, 0, none⟩ (.string st)).setCell ⟨w.heap.size, 1, none⟩ (.string rs)).setCell ⟨w.heap.size, 2, none⟩ (.int .i64 ct)) = W ∧
    HB W w.heap.size T ⟨st, rs, ct⟩ ∧ Below w.heap.size w W ∧ w.heap.size < W.heap.size := by
  obtain ⟨W, hW, hB, hb, hlt⟩ := one_hash w ⟨⟨#[]⟩, ⟨#[]⟩, 0⟩ T
  dsimp only at hW
  rw [hW]
  refine ⟨_, rfl, hB.set3 ⟨st, rs, ct⟩, ?_, by simpa using hlt⟩
  exact ((hb.setCell (p := ⟨w.heap.size, 0, none⟩) (Nat.le_refl _) _).setCell (p := ⟨w.heap.size, 1, none⟩) (Nat.le_refl _) _).setCell (p := ⟨w.heap.size, 2, none⟩) (Nat.le_refl _) _
set_option maxRecDepth 20000 in
set_option maxHeartbeats 800000 in
theorem specOk_any (a : Hs) (w : World) (h1 : a.st.size ≤ maxLen) (h2 : a.rs.size ≤ maxLen) :
    Calls Try.prog 64 #[hsv a] w fun e w' => e = .returned (.bool (okH a)) ∧ Below w.heap.size w w' := by
  unfold maxLen at h1 h2
  unfold hsv
  by_cases c1 : (a.st.size : Int) = 32
  · by_cases c4 : (a.rs.size : Int) < 64
    · by_cases c2 : 0 ≤ a.ct
      · by_cases c3 : a.ct ≤ 1000000000
        · have t : a.ct.tmod 64 = a.ct % 64 := Int.tmod_eq_emod_of_nonneg c2
          go_enter Try.func64, Try.ntmps64
          go_wp2
          go_ret
          exact ⟨by rw [okH_is c1 c2 c3]; rfl, (Below.refl _ _).alloc (Nat.le_refl _) _⟩
        · go_enter Try.func64, Try.ntmps64
          go_wp2
          go_ret
          exact ⟨by rw [okH_no3 (by omega)]; rfl, (Below.refl _ _).alloc (Nat.le_refl _) _⟩
      · go_enter Try.func64, Try.ntmps64
        go_wp2
        go_ret
        exact ⟨by rw [okH_no2 (by omega)]; rfl, (Below.refl _ _).alloc (Nat.le_refl _) _⟩
    · have c5 : ¬ a.ct % 64 = (a.rs.size : Int) := by omega
      go_enter Try.func64, Try.ntmps64
      go_wp2
      go_ret
      exact ⟨by rw [okH_no4 c5]; rfl, (Below.refl _ _).alloc (Nat.le_refl _) _⟩
  · go_enter Try.func64, Try.ntmps64
    go_wp2
    go_ret
    exact ⟨by rw [okH_no1 c1]; rfl, (Below.refl _ _).alloc (Nat.le_refl _) _⟩
end Go.Proofs.Ytecbpplocokedaa
