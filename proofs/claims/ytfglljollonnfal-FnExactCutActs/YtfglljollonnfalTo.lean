/- What laws.toFile, toFileS, toDisk come to: a copy of the call's own. -/
import Derived.Test.YtfglljollonnfalSz
namespace Go.Proofs.Ytfglljollonnfal
open Go.RowKit

theorem infoFile : (Try.prog.info? 63).map (fun i => (i.zero, i.size, i.bytes)) = some (some (flv flz), 3, 40) := by kernel_rfl

set_option maxHeartbeats 400000 in
theorem toFile_any (f : Fl) (w : World) :
    Calls Try.prog 53 #[flv f] w fun e w' => e = .returned (flv f) ∧ Below w.heap.size w w' := by
  unfold flv
  go_enter Try.func53, Try.ntmps53
  go_wp2
  exact bodyPost_ret (v := flv f) (by simp [results, Try.results53, go_sem, flv]) rfl ⟨rfl, (((Below.refl w.heap.size w).alloc (Nat.le_refl _) _).alloc (by simp) _).alloc (by simp; omega) _⟩
set_option maxRecDepth 20000 in
set_option maxHeartbeats 1000000 in
theorem toFileS_any (fs : List Fl) (v : Value) (w : World) (hr : RdF w v fs) (hn : fs.length ≤ 1048576) :
    Calls Try.prog 38 #[v] w fun e w' => (∃ a c, e = .returned (.slice a fs.length c) ∧ OwnF w' w.heap.size 63 (.slice a fs.length c) fs) ∧ Below w.heap.size w w' := by
  obtain ⟨i0, hi, hz0, hz1, hz2⟩ := info_parts infoFile
  obtain ⟨a, c, rfl, hc⟩ := hr.open
  clear hr
  obtain ⟨n, hnn⟩ : ∃ n, fs.length = n := ⟨_, rfl⟩
  rw [hnn] at hn ⊢
  replace hnn := hide hnn
  go_enter Try.func38, Try.ntmps38
  go_wp2_with (at_make; refine wpList_make_full _ rfl _ _ 29 rfl w.heap.size 63 i0 (flv flz) 3 Try.underlying29 hi hz0 hz1 _ _ _ _ n rfl rfl rfl rfl (by rw [hz2]; omega) (by unfold maxLen; omega) (Nat.le_refl _) ?_; intro w1 hown1 hgrow1)
  have hr0 : OwnF w1 w.heap.size 63 (.slice (some ⟨w.heap.size, 0, none⟩) n n) (fs.take 0 ++ List.replicate (n - 0) flz) := OwnF.made hown1
  have hb0 : Below w.heap.size w w1 := (Below.refl w.heap.size w).grown hgrow1 (Nat.le_refl _) (fun k hk => by cases hk)
  clear hown1 hgrow1
  go_loopw [4] (fun ti wr => ∃ k : Nat, k ≤ n ∧ ti = .int .i64 k ∧ OwnF wr w.heap.size 63 (.slice (some ⟨w.heap.size, 0, none⟩) n n) (fs.take k ++ List.replicate (n - k) flz) ∧ Below w.heap.size w wr) (fun ti _ => n - (intOf ti).toNat)
  case atStart => exact ⟨0, Nat.zero_le _, rfl, hr0, hb0⟩
  case round =>
    obtain ⟨k, hk, rfl, ho, hb⟩ := hrel
    by_cases hlt : k < n
    · have hk' : k < fs.length := by rw [unhide hnn]; exact hlt
      obtain ⟨f, hf⟩ : ∃ f, fs[k]? = some f := ⟨fs[k], List.getElem?_eq_getElem hk'⟩
      obtain ⟨g, o, rfl, hg, hat⟩ := hc k f hf
      obtain ⟨c1', c2', c3'⟩ := hat.below hb hg
      have hss := hb.size
      replace hf := hide hf
      clear hc hat hr0 hb0
      go_wp2_with (go_at_call 53; refine (toFile_any f _).mono ?_; rintro e w2 ⟨rfl, hb1⟩; have ho1 := ho.below hb1; obtain ⟨fo, _, d1, d2, d3⟩ := OwnF.cells3 ho1 hlt; have hfz := OwnF.frozen ho1)
      have ho2 := ho1.set3 hlt f
      rw [take_fill (unhide hf) (unhide hnn)] at ho2
      go_roundw
      case rel => exact ⟨k + 1, by omega, by go_num, ho2, (((hb.trans (hb1.mono hss)).setCell (p := ⟨w.heap.size, k * 3, none⟩) (Nat.le_refl _) _).setCell (p := ⟨w.heap.size, k * 3 + 1, none⟩) (Nat.le_refl _) _).setCell (p := ⟨w.heap.size, k * 3 + 2, none⟩) (Nat.le_refl _) _⟩
      case measure => simp [intOf]; omega
    · have e1 : k = n := by omega
      have e2 : fs.take k ++ List.replicate (n - k) flz = fs := by
        rw [e1, Nat.sub_self, List.take_of_length_le (by rw [unhide hnn]; exact Nat.le_refl _)]
        simp
      rw [e2] at ho
      go_wp2
      go_ret
      exact ⟨⟨_, _, rfl, ho⟩, hb⟩

set_option maxHeartbeats 400000 in
theorem toDisk_any (fs : List Fl) (v : Value) (w : World) (hr : RdF w v fs) (hn : fs.length ≤ 1048576) :
    Calls Try.prog 11 #[.agg #[v]] w fun e w' => (∃ a c, e = .returned (.agg #[.slice a fs.length c]) ∧ OwnF w' w.heap.size 63 (.slice a fs.length c) fs) ∧ Below w.heap.size w w' := by
  have H : Hid (∀ W, RdF W v fs → Calls Try.prog 38 #[v] W fun e w' => (∃ a c, e = .returned (.slice a fs.length c) ∧ OwnF w' W.heap.size 63 (.slice a fs.length c) fs) ∧ Below W.heap.size W w') := fun W h => toFileS_any fs v W h hn
  obtain ⟨a, c, rfl⟩ := hr.shape
  replace hr := hide hr
  clear hn
  go_enter Try.func11, Try.ntmps11
  go_wp2_with (go_at_call 38; refine ((unhide H) _ (by exact (((unhide hr).alloc _).alloc _).alloc _)).mono ?_; rintro e w1 ⟨⟨a', c', rfl, ho⟩, hb1⟩; obtain ⟨hcc, hff⟩ := bcell hb1)
  have hz : w.heap.size + 1 + 1 < w1.heap.size := by have := hb1.size; simp at this; omega
  have e3 : (((w.alloc (.cells #[.slice a fs.length c] 24)).alloc (.cells #[.slice none 0 0] 31)).alloc (.cells #[.slice none 0 0] 31)).heap.size = w.heap.size + 1 + 1 + 1 := by simp
  refine bodyPost_ret (v := .agg #[.slice a' fs.length c']) (by simp [results, Try.results11, go_sem, hcc]) rfl ⟨⟨_, _, rfl, ?_⟩, ?_⟩
  · exact ((ho.other (a := ⟨w.heap.size + 1 + 1, 0, none⟩) (by rw [e3]; show w.heap.size + 1 + 1 < _; omega) _).other (a := ⟨w.heap.size + 1, 0, none⟩) (by rw [e3]; show w.heap.size + 1 < _; omega) _).low (by rw [e3]; omega)
  · exact ((((((Below.refl w.heap.size w).alloc (Nat.le_refl _) _).alloc (by simp) _).alloc (by simp; omega) _).trans (hb1.mono (by simp; omega))).setCell (p := ⟨w.heap.size + 1 + 1, 0, none⟩) (by show _ ≤ w.heap.size + 1 + 1; omega) _).setCell (p := ⟨w.heap.size + 1, 0, none⟩) (by show _ ≤ w.heap.size + 1; omega) _
end Go.Proofs.Ytfglljollonnfal
