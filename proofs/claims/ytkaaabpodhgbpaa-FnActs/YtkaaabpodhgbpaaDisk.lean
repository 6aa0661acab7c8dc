/- Which lists of files are right disks, and what impl.DiskOk and spec.DiskOk come to. -/
import Derived.Test.YtkaaabpodhgbpaaSzTo
import Derived.Laws.Cover1
namespace Go.Proofs.Ytkaaabpodhgbpaa
open Go.RowKit

def ltB (a b : ByteArray) : Bool := Op.bytesLess a.toList b.toList
def inB (x lo hi : Int) : Bool := decide (lo ≤ x ∧ x ≤ hi)
def nameB (s : ByteArray) : Bool := decide (1 ≤ s.size ∧ s.size ≤ 8)
def keptB (f : Fl) : Bool := decide (0 ≤ f.kp ∧ f.kp ≤ f.tx.size)
def fileB (f : Fl) : Bool := nameB f.nm && (decide (f.tx.size ≤ 20000) && keptB f)
def ascB (fs : List Fl) (i : Nat) : Bool :=
  match i with
  | 0 => true
  | j + 1 => match fs[j]?, fs[j + 1]? with
    | some a, some b => ltB a.nm b.nm
    | _, _ => true
def okAt (fs : List Fl) (i : Nat) : Bool :=
  match fs[i]? with
  | some f => fileB f && ascB fs i
  | none => true
def okL (fs : List Fl) : Bool := decide (fs.length ≤ 30) && (List.range fs.length).all (okAt fs)
/-- How large texts may be where a walk meets them. -/
def Bd (fs : List Fl) : Prop := ∀ f ∈ fs, f.nm.size ≤ 4000000 ∧ f.tx.size ≤ 4000000

theorem okL_long {fs : List Fl} (h : 30 < fs.length) : okL fs = false := by
  unfold okL
  rw [decide_eq_false (by omega)]
  rfl
theorem okL_no {fs : List Fl} {i : Nat} (hi : i < fs.length) (h : okAt fs i = false) : okL fs = false := by
  unfold okL
  have : (List.range fs.length).all (okAt fs) = false := by
    rw [List.all_eq_false]
    exact ⟨i, List.mem_range.2 hi, by rw [h]; decide⟩
  rw [this, Bool.and_false]
theorem okL_yes {fs : List Fl} (hl : fs.length ≤ 30) (h : ∀ i, i < fs.length → okAt fs i = true) : okL fs = true := by
  unfold okL
  rw [decide_eq_true hl, Bool.true_and, List.all_eq_true]
  exact fun i hi => h i (List.mem_range.1 hi)
theorem okAt_of {fs : List Fl} {i : Nat} {f : Fl} (h : fs[i]? = some f) : okAt fs i = (fileB f && ascB fs i) := by unfold okAt; rw [h]
theorem asc_of {fs : List Fl} {j : Nat} {a b : Fl} (h1 : fs[j]? = some a) (h2 : fs[j + 1]? = some b) : ascB fs (j + 1) = ltB a.nm b.nm := by
  unfold ascB
  simp only [h1, h2]

set_option maxHeartbeats 400000 in
theorem nameOk_any (s : ByteArray) (w : World) (hs : s.size ≤ 4000000) :
    Calls Try.prog 44 #[.string s] w fun e w' => e = .returned (.bool (nameB s)) ∧ w' = w := by
  by_cases h1 : (1 : Int) ≤ s.size
  · by_cases h2 : (s.size : Int) ≤ 8
    · have H := hide (show nameB s = true by unfold nameB; rw [decide_eq_true_iff]; omega)
      go_enter Try.func44, Try.ntmps44
      go_wp2
      go_ret
      exact ⟨by first | exact retB (unhide H) | exact retB ((unhide H).trans (by rw [eq_comm, decide_eq_false_iff_not]; omega)), rfl⟩
    · have H := hide (show nameB s = false by unfold nameB; rw [decide_eq_false_iff_not]; omega)
      go_enter Try.func44, Try.ntmps44
      go_wp2
      go_ret
      exact ⟨by first | exact retB (unhide H) | exact retB ((unhide H).trans (by rw [eq_comm, decide_eq_false_iff_not]; omega)), rfl⟩
  · have H := hide (show nameB s = false by unfold nameB; rw [decide_eq_false_iff_not]; omega)
    go_enter Try.func44, Try.ntmps44
    go_wp2
    go_ret
    exact ⟨by first | exact retB (unhide H) | exact retB ((unhide H).trans (by rw [eq_comm, decide_eq_false_iff_not]; omega)), rfl⟩
set_option maxHeartbeats 400000 in
theorem l01In_any (x lo hi : Int) (w : World) :
    Calls Try.prog 40 #[.int .i64 x, .int .i64 lo, .int .i64 hi] w fun e w' => e = .returned (.bool (inB x lo hi)) ∧ w' = w := by
  by_cases h1 : lo ≤ x
  · by_cases h2 : x ≤ hi
    · have H := hide (show inB x lo hi = true by unfold inB; rw [decide_eq_true_iff]; omega)
      go_enter Try.func40, Try.ntmps40
      go_wp2
      go_ret
      exact ⟨by first | exact retB (unhide H) | exact retB ((unhide H).trans (by rw [eq_comm, decide_eq_false_iff_not]; omega)), rfl⟩
    · have H := hide (show inB x lo hi = false by unfold inB; rw [decide_eq_false_iff_not]; omega)
      go_enter Try.func40, Try.ntmps40
      go_wp2
      go_ret
      exact ⟨by first | exact retB (unhide H) | exact retB ((unhide H).trans (by rw [eq_comm, decide_eq_false_iff_not]; omega)), rfl⟩
  · have H := hide (show inB x lo hi = false by unfold inB; rw [decide_eq_false_iff_not]; omega)
    go_enter Try.func40, Try.ntmps40
    go_wp2
    go_ret
    exact ⟨by first | exact retB (unhide H) | exact retB ((unhide H).trans (by rw [eq_comm, decide_eq_false_iff_not]; omega)), rfl⟩
theorem l01In_at (x lo hi : Int) (b : Bool) (h : inB x lo hi = b) (w : World) :
    Calls Try.prog 40 #[.int .i64 x, .int .i64 lo, .int .i64 hi] w fun e w' => e = .returned (.bool b) ∧ w' = w := by
  rw [← h]; exact l01In_any x lo hi w
set_option maxHeartbeats 400000 in
theorem l03Name_any (s : ByteArray) (w : World) (hs : s.size ≤ 4000000) :
    Calls Try.prog 57 #[.string s] w fun e w' => e = .returned (.bool (nameB s)) ∧ w' = w := by
  have H := hide (show inB s.size 1 8 = nameB s by unfold nameB inB; rw [decide_eq_decide]; omega)
  go_enter Try.func57, Try.ntmps57
  go_wp2_with (go_at_call 40; refine (l01In_at _ _ _ _ (unhide H) _).mono ?_; rintro e w1 ⟨rfl, rfl⟩)
  go_ret
  exact ⟨rfl, rfl⟩
theorem l03Name_at (s : ByteArray) (b : Bool) (h : nameB s = b) (w : World) (hs : s.size ≤ 4000000) :
    Calls Try.prog 57 #[.string s] w fun e w' => e = .returned (.bool b) ∧ w' = w := by
  rw [← h]; exact l03Name_any s w hs
theorem nameOk_at (s : ByteArray) (b : Bool) (h : nameB s = b) (w : World) (hs : s.size ≤ 4000000) :
    Calls Try.prog 44 #[.string s] w fun e w' => e = .returned (.bool b) ∧ w' = w := by
  rw [← h]; exact nameOk_any s w hs
set_option maxHeartbeats 1000000 in
theorem fileOk_any (f : Fl) (w : World) (h1 : f.nm.size ≤ 4000000) (h2 : f.tx.size ≤ 4000000) :
    Calls Try.prog 29 #[flv f] w fun e w' => e = .returned (.bool (fileB f)) ∧ Below w.heap.size w w' := by
  cases hN : nameB f.nm with
  | false =>
    have H := hide (show fileB f = false by unfold fileB; rw [hN]; rfl)
    replace hN := hide hN
    go_enter Try.func29, Try.ntmps29
    go_wp2_with (go_at_call 44; refine (nameOk_at _ _ (unhide hN) _ h1).mono ?_; rintro e w1 ⟨rfl, rfl⟩)
    go_ret
    exact ⟨by first | exact retB (unhide H) | exact retB ((unhide H).trans (by rw [eq_comm, decide_eq_false_iff_not]; omega)), (Below.refl w.heap.size w).alloc (Nat.le_refl _) _⟩
  | true =>
    replace hN := hide hN
    by_cases c1 : (f.tx.size : Int) ≤ 20000
    · by_cases c2 : (0 : Int) ≤ f.kp
      · by_cases c3 : f.kp ≤ (f.tx.size : Int)
        · have H := hide (show fileB f = true by unfold fileB keptB; rw [unhide hN, decide_eq_true (by omega), decide_eq_true (by omega)]; rfl)
          go_enter Try.func29, Try.ntmps29
          go_wp2_with (go_at_call 44; refine (nameOk_at _ _ (unhide hN) _ h1).mono ?_; rintro e w1 ⟨rfl, rfl⟩)
          go_ret
          exact ⟨by first | exact retB (unhide H) | exact retB ((unhide H).trans (by rw [eq_comm, decide_eq_false_iff_not]; omega)), (Below.refl w.heap.size w).alloc (Nat.le_refl _) _⟩
        · have H := hide (show fileB f = false by unfold fileB keptB; rw [decide_eq_false (p := 0 ≤ f.kp ∧ _) (by omega)]; simp)
          go_enter Try.func29, Try.ntmps29
          go_wp2_with (go_at_call 44; refine (nameOk_at _ _ (unhide hN) _ h1).mono ?_; rintro e w1 ⟨rfl, rfl⟩)
          go_ret
          exact ⟨by first | exact retB (unhide H) | exact retB ((unhide H).trans (by rw [eq_comm, decide_eq_false_iff_not]; omega)), (Below.refl w.heap.size w).alloc (Nat.le_refl _) _⟩
      · have H := hide (show fileB f = false by unfold fileB keptB; rw [decide_eq_false (p := 0 ≤ f.kp ∧ _) (by omega)]; simp)
        go_enter Try.func29, Try.ntmps29
        go_wp2_with (go_at_call 44; refine (nameOk_at _ _ (unhide hN) _ h1).mono ?_; rintro e w1 ⟨rfl, rfl⟩)
        go_ret
        exact ⟨by first | exact retB (unhide H) | exact retB ((unhide H).trans (by rw [eq_comm, decide_eq_false_iff_not]; omega)), (Below.refl w.heap.size w).alloc (Nat.le_refl _) _⟩
    · have H := hide (show fileB f = false by unfold fileB; rw [decide_eq_false (by omega)]; simp)
      go_enter Try.func29, Try.ntmps29
      go_wp2_with (go_at_call 44; refine (nameOk_at _ _ (unhide hN) _ h1).mono ?_; rintro e w1 ⟨rfl, rfl⟩)
      go_ret
      exact ⟨by first | exact retB (unhide H) | exact retB ((unhide H).trans (by rw [eq_comm, decide_eq_false_iff_not]; omega)), (Below.refl w.heap.size w).alloc (Nat.le_refl _) _⟩
theorem fileOk_at (f : Fl) (b : Bool) (h : fileB f = b) (w : World) (h1 : f.nm.size ≤ 4000000) (h2 : f.tx.size ≤ 4000000) :
    Calls Try.prog 29 #[flv f] w fun e w' => e = .returned (.bool b) ∧ Below w.heap.size w w' := by
  rw [← h]; exact fileOk_any f w h1 h2
end Go.Proofs.Ytkaaabpodhgbpaa
