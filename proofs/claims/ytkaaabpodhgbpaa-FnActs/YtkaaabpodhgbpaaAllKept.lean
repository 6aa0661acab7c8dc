/- Is all of each file kept: what impl.AllKept and spec.AllKept come to. -/
import Derived.Test.YtkaaabpodhgbpaaDiskIS
namespace Go.Proofs.Ytkaaabpodhgbpaa
open Go.RowKit

def wholeB (f : Fl) : Bool := f.kp == (f.tx.size : Int)
def allKL (fs : List Fl) : Bool := okL fs && fs.all wholeB

theorem okL_mem {fs : List Fl} (h : okL fs = true) {k : Nat} {f : Fl} (hf : fs[k]? = some f) : fileB f = true := by
  unfold okL at h
  rw [Bool.and_eq_true, List.all_eq_true] at h
  have := h.2 k (List.mem_range.2 (List.getElem?_eq_some_iff.1 hf).1)
  rw [okAt_of hf, Bool.and_eq_true] at this
  exact this.1
theorem fileB_kept {f : Fl} (h : fileB f = true) : 0 ≤ f.kp ∧ f.kp ≤ f.tx.size ∧ f.tx.size ≤ 20000 := by
  unfold fileB keptB at h
  rw [Bool.and_eq_true, Bool.and_eq_true, decide_eq_true_iff, decide_eq_true_iff] at h
  omega
theorem allKL_no {fs : List Fl} {k : Nat} {f : Fl} (hf : fs[k]? = some f) (h : wholeB f = false) : allKL fs = false := by
  unfold allKL
  have : fs.all wholeB = false := by
    rw [List.all_eq_false]
    exact ⟨f, List.mem_of_getElem? hf, by rw [h]; decide⟩
  rw [this, Bool.and_false]
theorem allKL_of {fs : List Fl} (h : ∀ (j : Nat) (f : Fl), fs[j]? = some f → wholeB f = true) : allKL fs = okL fs := by
  unfold allKL
  have : fs.all wholeB = true := by
    rw [List.all_eq_true]
    intro f hf
    obtain ⟨j, hj⟩ := List.mem_iff_getElem?.1 hf
    exact h j f hj
  rw [this, Bool.and_true]

set_option maxHeartbeats 400000 in
theorem fileAllKept_any (f : Fl) (w : World) (_ : f.tx.size ≤ 4000000) :
    Calls Try.prog 28 #[flv f] w fun e w' => e = .returned (.bool (wholeB f)) ∧ Below w.heap.size w w' := by
  have H := hide (show wholeB f = (f.kp == (f.tx.size : Int)) from rfl)
  go_enter Try.func28, Try.ntmps28
  go_wp2
  go_ret
  exact ⟨retB (unhide H), (Below.refl w.heap.size w).alloc (Nat.le_refl _) _⟩
theorem fileAllKept_at (f : Fl) (b : Bool) (h : wholeB f = b) (w : World) (h2 : f.tx.size ≤ 4000000) :
    Calls Try.prog 28 #[flv f] w fun e w' => e = .returned (.bool b) ∧ Below w.heap.size w w' := by
  rw [← h]; exact fileAllKept_any f w h2
set_option maxRecDepth 20000 in
set_option maxHeartbeats 1000000 in
theorem implAllKept_any (fs : List Fl) (v : Value) (w : World) (hr : RdF w v fs) (hB : Bd fs) (hn : fs.length ≤ 2000000) :
    Calls Try.prog 11 #[.agg #[v]] w fun e w' => e = .returned (.bool (allKL fs)) ∧ Below w.heap.size w w' := by
  have C : Hid (∀ W v, RdF W v fs → Calls Try.prog 12 #[.agg #[v]] W fun e w' => e = .returned (.bool (okL fs)) ∧ Below W.heap.size W w') := fun W v h => implDiskOk_any fs v W h hB hn
  obtain ⟨a, c, rfl, hc⟩ := hr.open
  replace hr := hide hr
  obtain ⟨n, hnn⟩ : ∃ n, fs.length = n := ⟨_, rfl⟩
  rw [hnn] at hn hr ⊢
  replace hnn := hide hnn
  go_enter Try.func11, Try.ntmps11
  go_wp2
  go_loopw [8] (fun ti wr => ∃ k : Nat, k ≤ n ∧ ti = .int .i64 k ∧ Hid (∀ (j : Nat) (f' : Fl), j < k → fs[j]? = some f' → wholeB f' = true) ∧ Below (w.heap.size + 1) (w.alloc (.cells #[.slice a n c] 26)) wr) (fun ti _ => n - (intOf ti).toNat)
  case atStart => exact ⟨0, Nat.zero_le _, rfl, fun j f' hj => by omega, Below.refl _ _⟩
  case round =>
    obtain ⟨k, hk, rfl, hok, hb⟩ := hrel
    have hss := hb.size
    have hs1 : w.heap.size + 1 ≤ wr.heap.size := by simpa using hss
    have hs2 : w.heap.size < wr.heap.size := by omega
    have hbox : wr.cell? ⟨w.heap.size, 0, none⟩ = some (.slice a n c) := (hb.cell (p := ⟨w.heap.size, 0, none⟩) (by show w.heap.size < _; omega)).trans (by simp)
    have hba : Below w.heap.size w wr := ((Below.refl w.heap.size w).alloc (Nat.le_refl _) _).trans (hb.mono (by omega))
    by_cases hlt : k < n
    · have hk' : k < fs.length := by rw [unhide hnn]; exact hlt
      obtain ⟨f, hf⟩ : ∃ f, fs[k]? = some f := ⟨fs[k], List.getElem?_eq_getElem hk'⟩
      obtain ⟨g, o, rfl, hg, hat⟩ := hc k f hf
      obtain ⟨d1, d2, d3⟩ := hat.below hba hg
      have hgr : g < wr.heap.size := by omega
      have hz := (hB f (List.mem_of_getElem? hf)).2
      cases hs : wholeB f with
      | true =>
        replace hf := hide hf
        have HS := hide hs
        clear hc hat hs
        go_wp2_with (go_at_call 28; refine (fileAllKept_at f _ (unhide HS) _ hz).mono ?_; rintro e w2 ⟨rfl, hb2⟩)
        go_roundw
        case rel =>
          refine ⟨k + 1, by omega, by go_num, fun j f' hj hf' => ?_, hb.trans ((((Below.refl _ wr).alloc (Nat.le_refl _) _).trans (hb2.mono (by simp))).mono hs1)⟩
          rcases Nat.lt_or_ge j k with h | h
          · exact unhide hok j f' h hf'
          · have : j = k := by omega
            subst this
            rw [unhide hf] at hf'
            cases hf'
            exact unhide HS
        case measure => simp [intOf]; omega
      | false =>
        have H := hide (allKL_no hf hs)
        replace hf := hide hf
        have HS := hide hs
        clear hc hat hs
        go_wp2_with (go_at_call 28; refine (fileAllKept_at f _ (unhide HS) _ hz).mono ?_; rintro e w2 ⟨rfl, hb2⟩)
        go_ret
        exact ⟨retB (unhide H), hba.trans ((((Below.refl _ wr).alloc (Nat.le_refl _) _).trans (hb2.mono (by simp))).mono (by omega))⟩
    · have H := hide (allKL_of (fs := fs) fun j f' hf' => unhide hok j f' (by have := (List.getElem?_eq_some_iff.1 hf').1; rw [unhide hnn] at this; omega) hf')
      have hr2 := hide ((unhide hr).below hba)
      clear hc
      go_wp2_with (go_at_call 12; refine ((unhide C) _ _ (unhide hr2)).mono ?_; rintro e w2 ⟨rfl, hb2⟩)
      go_ret
      exact ⟨retB (unhide H), hba.trans (hb2.mono (by omega))⟩
end Go.Proofs.Ytkaaabpodhgbpaa
