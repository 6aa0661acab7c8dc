/- A disk copied, file by file: what impl.copiedDisk comes to. -/
import Derived.Test.YtkaaabpodhgbpaaLoseI
namespace Go.Proofs.Ytkaaabpodhgbpaa
open Go.RowKit

theorem take_snocF {fs : List Fl} {k : Nat} {f : Fl} (h : fs[k]? = some f) : fs.take (k + 1) = fs.take k ++ [f] := by
  rw [List.take_add_one, h]; rfl
theorem two_alloc (w : World) (D : TypeId) (u v : Value) : ∃ W, (w.alloc (.cells #[u] D)).alloc (.cells #[v] D) = W ∧ Box W w.heap.size D u ∧ Box W (w.heap.size + 1) D v ∧ W.heap.size = w.heap.size + 1 + 1 ∧ Below w.heap.size w W := by
  refine ⟨_, rfl, (Box.new w D u).alloc _, ?_, by simp, bTrA (bTrA (Below.refl w.heap.size w) _) _⟩
  simpa using Box.new (w.alloc (.cells #[u] D)) D v

set_option maxRecDepth 20000 in
set_option maxHeartbeats 4000000 in
theorem copiedDisk_any (fs : List Fl) (v : Value) (w : World) (hr : RdF w v fs) (hB : Bd fs) (hn : fs.length ≤ 2000000) :
    Calls Try.prog 35 #[.agg #[v]] w fun e w' => (∃ a c, e = .returned (.agg #[.slice a fs.length c]) ∧ OwnF w' w.heap.size 36 (.slice a fs.length c) fs) ∧ Below w.heap.size w w' := by
  obtain ⟨i0, hi, hz0, hz1, hz2⟩ := info_parts infoFile
  obtain ⟨a, c, rfl, hc⟩ := hr.open
  replace hr := hide hr
  go_enter Try.func35, Try.ntmps35
  go_wp2_with (fail)
  obtain ⟨w1, e1, _, hres, hsz, hbw1⟩ := two_alloc w 26 (.slice a fs.length c) (.slice none 0 0)
  rw [e1, ← hsz]
  clear e1
  have hz : w.heap.size + 1 < w1.heap.size := by omega
  have hsz1 : w.heap.size ≤ w1.heap.size := by omega
  have HSZ := hide hsz
  clear hsz
  replace hres := hide hres
  go_loopw [9] (fun ti wr => ∃ (k : Nat) (a' : Option Addr) (c' : Nat), k ≤ fs.length ∧ ti = .int .i64 k ∧ Box wr w1.heap.size 26 (.slice a' k c') ∧ OwnF wr (w1.heap.size + 1) 36 (.slice a' k c') (fs.take k) ∧ Below w1.heap.size w1 wr) (fun ti _ => fs.length - (intOf ti).toNat)
  case atStart => exact ⟨0, none, 0, Nat.zero_le _, rfl, Box.new w1 _ _, OwnF.nil _ _ _, (Below.refl _ w1).alloc (Nat.le_refl _) _⟩
  case round =>
    obtain ⟨k, a', c', hk, rfl, hbx, hown, hb⟩ := hrel
    have hss := hb.size
    have hbl := hbx.lt
    obtain ⟨pre, hpre⟩ : ∃ pre, fs.take k = pre := ⟨_, rfl⟩
    rw [hpre] at hown
    replace hpre := hide hpre
    by_cases hlt : k < fs.length
    · have hk' := hlt
      obtain ⟨f, hf⟩ : ∃ f, fs[k]? = some f := ⟨fs[k], List.getElem?_eq_getElem hk'⟩
      obtain ⟨g, o, rfl, hg, hat⟩ := hc k f hf
      obtain ⟨d1, d2, d3⟩ := (hat.below hbw1 hg).below hb (Nat.lt_of_lt_of_le hg hsz1)
      have hgr : g < wr.heap.size := by omega
      obtain ⟨z1, z2⟩ := hB f (List.mem_of_getElem? hf)
      have HT2 := hide (take_snocF hf)
      rw [unhide hpre] at HT2
      replace hf := hide hf
      clear hat hc
      go_wp2
      have hW0c : FlAt (wr.alloc (.cells #[.string f.nm, .string f.tx, .int .i64 f.kp] 36)) wr.heap.size 0 f := ⟨by simp, by simp, by simp⟩
      have hbx0 := hbx.alloc (.cells #[.string f.nm, .string f.tx, .int .i64 f.kp] 36)
      have hown0 := hown.alloc (.cells #[.string f.nm, .string f.tx, .int .i64 f.kp] 36)
      have hb0 := hb.alloc hss (.cells #[.string f.nm, .string f.tx, .int .i64 f.kp] 36)
      have hs0 : wr.heap.size < (wr.alloc (.cells #[.string f.nm, .string f.tx, .int .i64 f.kp] 36)).heap.size := by simp
      generalize (wr.alloc (.cells #[.string f.nm, .string f.tx, .int .i64 f.kp] 36)) = W0 at *
      obtain ⟨c0, c1, c2⟩ := hW0c
      simp only [Nat.zero_add] at c1 c2
      have cb := hbx0.cell
      have hs1 : w1.heap.size < W0.heap.size := by omega
      replace hb := hide hb
      replace hbx := hide hbx
      replace hown := hide hown
      replace hbx0 := hide hbx0
      clear d1 d2 d3
      have hz80 := hbx0.frozen
      go_region_law (first
          | (refine step_call rfl (F := 43) (copied_any f _ z1 z2) (by go_simp) ?_; rintro e w2 ⟨rfl, hb2⟩; refine ⟨_, rfl, ?_⟩; have ho2 := OwnF.below (w := W0.drew) hown0 hb2; (have s2 : W0.heap.size ≤ w2.heap.size := hb2.size); (have hbx2 := Box.below (w := W0.drew) (unhide hbx0) hb2 hs1); have cb2 := hbx2.cell; (have hl12 : w1.heap.size < w2.heap.size := Nat.lt_of_lt_of_le hs1 s2))
          | (refine step_append_file rfl (.tmp 14) (.tmp 17) 24 rfl (w1.heap.size + 1) w1.heap.size 36 i0 (flv flz) 40 Try.underlying24 hi hz0 hz1 hz2 rfl _ _ rfl (ho2.alloc _) w2.heap.size _ (heap_alloc_new w2 _) f rfl 1 rfl k hown0.len (by omega) (by decide) (Nat.le_succ _) (by simp; omega) ((hb0.drew.trans (hb2.mono (Nat.le_of_lt hs1))).alloc (by omega) _) ?_; intro a3 c3 w3 ho3 hb3 hkp3 hs3; (have hbx3 : Box w3 w1.heap.size 26 (.slice a' k c') := (hkp3 _ (by simp; omega) (fun e => by have := (ho2.lt _ e).1; omega)).trans (hbx2.alloc _)); have cb3 := hbx3.cell; have cz3 := hbx3.frozen))
      all_goals
        have ho4 := ho3.other (a := ⟨w1.heap.size, 0, none⟩) (Nat.lt_succ_self _) (.slice a3 (k + 1) c3)
        rw [← unhide HT2] at ho4
        have hbx4 := hbx3.set (.slice a3 (k + 1) c3)
        have hb4 := hb3.setCell (p := ⟨w1.heap.size, 0, none⟩) (Nat.le_refl _) (.slice a3 (k + 1) c3)
        go_wp2
        go_roundw
        case rel => exact ⟨k + 1, a3, c3, by omega, by go_num, hbx4, ho4, hb4⟩
        case measure => simp [intOf]; omega
    · have hkn : k = fs.length := by omega
      have H : pre = fs := by rw [← unhide hpre]; exact List.take_of_length_le (by omega)
      subst H
      have cb := hbx.cell
      have hrs := (unhide hres).below hb hz
      have cr := hrs.cell
      have cz := hrs.frozen
      have hbf := hide ((hbw1.trans (hb.mono hsz1)).setCell (p := ⟨w.heap.size + 1, 0, none⟩) (Nat.le_succ _) (.slice a' k c'))
      have hof := hide ((hown.other (a := ⟨w.heap.size + 1, 0, none⟩) (by show w.heap.size + 1 < _; omega) (.slice a' k c')).low (base' := w.heap.size) (by omega))
      replace hkn := hide hkn
      go_wp2
      refine bodyPost_ret (v := .agg #[.slice a' k c']) (by simp [results, Try.results35, go_sem, cr]) rfl ?_
      rw [← unhide hkn]
      exact ⟨⟨a', c', rfl, unhide hof⟩, unhide hbf⟩
end Go.Proofs.Ytkaaabpodhgbpaa
