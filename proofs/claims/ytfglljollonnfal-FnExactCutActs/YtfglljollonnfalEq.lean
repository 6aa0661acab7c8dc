/- What laws.eqFile, eqFileS, eqDisk come to where both are the same. -/
import Derived.Test.YtfglljollonnfalTo
namespace Go.Proofs.Ytfglljollonnfal
open Go.RowKit

set_option maxHeartbeats 400000 in
theorem eqFile_any (f : Fl) (w : World) :
    Calls Try.prog 61 #[flv f, flv f] w fun e w' => e = .returned (.bool true) ∧ Below w.heap.size w w' := by
  go_enter Try.func61, Try.ntmps61
  go_wp2
  go_ret
  exact ⟨rfl, ((Below.refl w.heap.size w).alloc (Nat.le_refl _) _).alloc (by simp) _⟩
set_option maxRecDepth 20000 in
set_option maxHeartbeats 1000000 in
theorem eqFileS_any (fs : List Fl) (v1 v2 : Value) (w : World) (hr1 : RdF w v1 fs) (hr2 : RdF w v2 fs) (hn : fs.length ≤ 2000000) :
    Calls Try.prog 42 #[v1, v2] w fun e w' => e = .returned (.bool true) ∧ Below w.heap.size w w' := by
  obtain ⟨a1, c1, rfl, hc1⟩ := hr1.open
  obtain ⟨a2, c2, rfl, hc2⟩ := hr2.open
  clear hr1 hr2
  obtain ⟨n, hnn⟩ : ∃ n, fs.length = n := ⟨_, rfl⟩
  rw [hnn] at hn ⊢
  replace hnn := hide hnn
  go_enter Try.func42, Try.ntmps42
  go_wp2
  go_loopw [5] (fun ti wr => ∃ k : Nat, k ≤ n ∧ ti = .int .i64 k ∧ Below w.heap.size w wr) (fun ti _ => n - (intOf ti).toNat)
  case atStart => exact ⟨0, Nat.zero_le _, rfl, Below.refl _ _⟩
  case round =>
    obtain ⟨k, hk, rfl, hb⟩ := hrel
    by_cases hlt : k < n
    · have hk' : k < fs.length := by rw [unhide hnn]; exact hlt
      obtain ⟨f, hf⟩ : ∃ f, fs[k]? = some f := ⟨fs[k], List.getElem?_eq_getElem hk'⟩
      obtain ⟨g1, o1, rfl, hg1, hat1⟩ := hc1 k f hf
      obtain ⟨g2, o2, rfl, hg2, hat2⟩ := hc2 k f hf
      obtain ⟨d1, d2, d3⟩ := hat1.below hb hg1
      obtain ⟨d4, d5, d6⟩ := hat2.below hb hg2
      have hss := hb.size
      have F1 := hide (hat1.below hb hg1)
      have F2 := hide (hat2.below hb hg2)
      have hgw1 : g1 < wr.heap.size := by omega
      have hgw2 : g2 < wr.heap.size := by omega
      have hi0 : (0 : Int) ≤ (k : Int) := by omega
      have hi1 : (k : Int) < (n : Int) := by omega
      replace hf := hide hf
      clear hc1 hc2 hat1 hat2
      go_wp2
      go_region_held3 (fun W => W.cell? ⟨g1, o1 + k * 3, none⟩ = some (.string f.nm) ∧ W.cell? ⟨g1, o1 + k * 3 + 1, none⟩ = some (.string f.tx) ∧ W.cell? ⟨g1, o1 + k * 3 + 2, none⟩ = some (.int .i64 f.kp) ∧ W.cell? ⟨g2, o2 + k * 3, none⟩ = some (.string f.nm) ∧ W.cell? ⟨g2, o2 + k * 3 + 1, none⟩ = some (.string f.tx) ∧ W.cell? ⟨g2, o2 + k * 3 + 2, none⟩ = some (.int .i64 f.kp)) (first | exact ⟨d1, d2, d3, d4, d5, d6⟩ | (have q1 := FlAt.below (w := wr.drew) (unhide F1) hb1 hgw1; have q2 := FlAt.below (w := wr.drew) (unhide F2) hb1 hgw2; exact ⟨q1.1, q1.2.1, q1.2.2, q2.1, q2.2.1, q2.2.2⟩)) (first | (go_at_call 61; refine (eqFile_any f _).mono ?_; rintro e w1 ⟨rfl, hb1⟩))
      go_wp2
      go_roundw
      case rel => exact ⟨k + 1, by omega, by go_num, hb.drew.trans (hb1.mono hss)⟩
      case measure => simp [intOf]; omega
    · go_wp2
      go_ret
      exact ⟨rfl, hb⟩
set_option maxHeartbeats 400000 in
theorem eqDisk_any (fs : List Fl) (v1 v2 : Value) (w : World) (hr1 : RdF w v1 fs) (hr2 : RdF w v2 fs) (hn : fs.length ≤ 2000000) :
    Calls Try.prog 14 #[.agg #[v1], .agg #[v2]] w fun e w' => e = .returned (.bool true) ∧ Below w.heap.size w w' := by
  have H : Hid (∀ W, RdF W v1 fs → RdF W v2 fs → Calls Try.prog 42 #[v1, v2] W fun e w' => e = .returned (.bool true) ∧ Below W.heap.size W w') := fun W h1 h2 => eqFileS_any fs v1 v2 W h1 h2 hn
  obtain ⟨a1, c1, rfl⟩ := hr1.shape
  obtain ⟨a2, c2, rfl⟩ := hr2.shape
  replace hr1 := hide hr1
  replace hr2 := hide hr2
  clear hn
  go_enter Try.func14, Try.ntmps14
  go_wp2_with (go_at_call 42; refine ((unhide H) _ (by exact ((unhide hr1).alloc _).alloc _) (by exact ((unhide hr2).alloc _).alloc _)).mono ?_; rintro e w1 ⟨rfl, hb1⟩)
  go_ret
  exact ⟨rfl, (((Below.refl w.heap.size w).alloc (Nat.le_refl _) _).alloc (by simp) _).trans (hb1.mono (by simp; omega))⟩
end Go.Proofs.Ytfglljollonnfal
