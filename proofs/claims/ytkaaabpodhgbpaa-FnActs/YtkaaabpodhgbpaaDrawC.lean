/- What spec.DrawCutActs comes to: some disk, some acts, some number, some numbers. -/
import Derived.Test.YtkaaabpodhgbpaaDrawF
import Derived.Test.YtkaaabpodhgbpaaDrawL
import Derived.Test.YtkaaabpodhgbpaaCutA
namespace Go.Proofs.Ytkaaabpodhgbpaa
open Go.RowKit

theorem l01Place_at {w : World} {base g n c : Nat} {o : Option Addr} (h : Cur w base g o n c) (hn : n ≤ 1048576) (v : Int) (m : Nat) (hv : v = (m : Int)) (hm : 0 < m) (hm2 : m ≤ 1000000) :
    Calls Try.prog 32 #[.pointer (some ⟨g, 0, none⟩), .int .i64 v] w fun e w' => ∃ z : Int, e = .returned (.int .i64 z) ∧ w.grownBy w' (some g) ∧ Cur w' base g o n c := by
  rw [hv]; exact l01Place_any h hn m hm hm2
set_option maxRecDepth 20000 in
set_option maxHeartbeats 8000000 in
theorem drawCutActs_any (w : World) (o : Option Addr) (n c : Nat) (hs : Src w w.heap.size o n) (hn : n ≤ 1048576) :
    Calls Try.prog 14 #[.slice o n c] w fun e w' => ∃ (fs : List Fl) (a1 : Option Addr) (c1 : Nat) (acs : List Ac) (a2 : Option Addr) (c2 : Nat) (z : Int) (is : List Int) (v3 : Value),
      (fs.length ≤ 40 ∧ Bd fs) ∧ (acs.length ≤ 9 ∧ ∀ a ∈ acs, Short a) ∧ is.length ≤ 6 ∧ e = .returned (.tuple #[.agg #[.slice a1 fs.length c1], .slice a2 acs.length c2, .int .i64 z, v3]) ∧ RdF w' (.slice a1 fs.length c1) fs ∧ (RdA w' (.slice a2 acs.length c2) acs ∧ Capped (.slice a2 acs.length c2)) ∧ RdV w' v3 (is.map iv) ∧ Below w.heap.size w w' := by
  obtain ⟨W0, e0, xR0, hb0, z0⟩ : ∃ W, w.alloc (.cells #[.slice none 0 0] 26) = W ∧ Box W w.heap.size 26 (.slice none 0 0) ∧ Below w.heap.size w W ∧ w.heap.size < W.heap.size := ⟨_, rfl, Box.new w _ _, (Below.refl _ w).alloc (Nat.le_refl _) _, by simp⟩
  have HS := hide (show Src W0 W0.heap.size o n from (hs.below hb0 (Nat.le_refl _)).up (by omega))
  clear hs
  replace xR0 := hide xR0
  replace hb0 := hide hb0
  replace e0 := hide e0
  go_enter Try.func14, Try.ntmps14
  go_wp2_with fail
  rw [unhide e0]
  clear e0
  go_at_call 21
  refine (l01New_any W0 o n c (unhide HS) hn).mono ?_
  rintro e w1 ⟨rfl, hb1, hc1⟩
  have s1 : W0.heap.size < w1.heap.size := hc1.lt
  have xR1 := hide ((unhide xR0).step hb1)
  have HB1 := hide ((unhide hb0).trans (hb1.mono (by omega)))
  replace hc1 := hide hc1
  replace hb1 := hide hb1
  go_wp2_with fail
  go_at_call 30
  refine (l03Disk_any (unhide hc1) hn).mono ?_
  rintro e w2a ⟨fs, a1, c1, ⟨hfl, hfB⟩, rfl, ow2a, hg2a, hc2a⟩
  have s2a : w1.heap.size ≤ w2a.heap.size := hg2a.size
  obtain ⟨w2, e2, xD2, hb2, z2⟩ : ∃ W, w2a.alloc (.cells #[.slice a1 fs.length c1] 26) = W ∧ Box W w2a.heap.size 26 (.slice a1 fs.length c1) ∧ Below w2a.heap.size w2a W ∧ w2a.heap.size < W.heap.size := ⟨_, rfl, Box.new w2a _ _, (Below.refl _ w2a).alloc (Nat.le_refl _) _, by simp⟩
  have ow2 := hide (ow2a.below hb2)
  have hc2 := hide (hc2a.below hb2 (by omega))
  have hg2 := hide (gT hg2a (gB hb2 (some W0.heap.size)))
  have s2 : w1.heap.size ≤ w2.heap.size := by omega
  have cD2 := xD2.cell
  replace xD2 := hide xD2
  replace hfB := hide hfB
  replace e2 := hide e2
  clear ow2a hc2a hg2a hb2
  go_wp2_with fail
  rw [unhide e2]
  clear e2 cD2
  go_at_call 31
  refine (l03Acts_any (unhide hc2) hn fs _ (unhide ow2).rd (fun k hk => by have := ((unhide ow2).lt k hk).1; omega) (fun k hk => ((unhide ow2).lt k hk).2) (unhide hfB) (by omega)).mono ?_
  rintro e w3 ⟨acs, a2, c2, ⟨hal, haS⟩, rfl, ow3, hg3, hc3⟩
  have s3 : w2.heap.size ≤ w3.heap.size := hg3.size
  have xD3 := hide ((unhide xD2).grown hg3 (by simp; omega))
  have cD3 := (unhide xD3).cell
  have lD3 := (unhide xD3).lt
  have of3 := hide ((unhide ow2).grown hg3 (fun k hk => by have := ((unhide ow2).lt k hk).1; simp; omega))
  have G3 := hide (gT (unhide hg2) hg3)
  replace hc3 := hide hc3
  replace ow3 := hide ow3
  replace haS := hide haS
  replace hg3 := hide hg3
  have hwr : IntKind.i64.wrap ((acs.length : Int) + 1) = (acs.length : Int) + 1 := by rw [IntKind.wrap_i64]; omega
  go_wp2_with fail
  have hc3d := hide ((unhide hc3).below (Below.refl w3.heap.size w3).drew (by omega))
  go_region_law (first
    | (refine step_call rfl (F := 32) (l01Place_at (unhide hc3d) hn ((acs.length : Int) + 1) (acs.length + 1) (by omega) (by omega) (by omega)) (by go_simp) ?_; rintro e w4 ⟨z, rfl, hg4, hc4⟩; refine ⟨_, rfl, ?_⟩; (have s4 : w3.heap.size ≤ w4.heap.size := hg4.size); (have xD4 := hide ((unhide xD3).drew.grown hg4 (by simp; omega))); (have cD4 := (unhide xD4).cell); (have lD4 := (unhide xD4).lt); (have of4 := hide ((unhide of3).drew.grown hg4 (fun k hk => by have := ((unhide of3).lt k hk).1; simp; omega))); (have oa4 := hide ((unhide ow3).drew.grown hg4 (fun k hk => by have := ((unhide ow3).lt k hk).1; simp; omega))); (have G4 := hide (gT (unhide G3) (gT (gB (Below.refl w3.heap.size w3).drew (some W0.heap.size)) hg4))); (replace hc4 := hide hc4); (replace hg4 := hide hg4))
    | (refine step_call rfl (F := 33) (l03Left_any (unhide hc4) hn) (by go_simp) ?_; rintro e w5 ⟨is, v3, hil, rfl, ov5, hg5, hc5⟩; refine ⟨_, rfl, ?_⟩; (have s5 : w4.heap.size ≤ w5.heap.size := hg5.size); (have xD5 := hide ((unhide xD4).grown hg5 (by simp; omega))); (have cD5 := (unhide xD5).cell); (have lD5 := (unhide xD5).lt); (have of5 := hide ((unhide of4).grown hg5 (fun k hk => by have := ((unhide of4).lt k hk).1; simp; omega))); (have oa5 := hide ((unhide oa4).grown hg5 (fun k hk => by have := ((unhide oa4).lt k hk).1; simp; omega))); (have G5 := hide (gT (unhide G4) hg5)); (have xR5 := (unhide xR1).grown (unhide G5) (by simp; omega)); (have HB5 := bTrG2 (unhide HB1) (unhide G5) (by omega) (by omega)); (have B6 := hide (HB5.setCell (p := ⟨w.heap.size, 0, none⟩) (Nat.le_refl _) (.slice a1 fs.length c1))); (have of6 := hide ((unhide of5).other (a := ⟨w.heap.size, 0, none⟩) (by show w.heap.size < _; omega) (.slice a1 fs.length c1))); (have oa6 := hide ((unhide oa5).other (a := ⟨w.heap.size, 0, none⟩) (by show w.heap.size < _; omega) (.slice a1 fs.length c1))); (have ov6 := hide (ov5.rdv.grown (gS w5 w.heap.size 0 (.slice a1 fs.length c1)) (fun k hk => by have := (World.ownsRow.lt ov5 k hk).1; simp; omega))); (have xR6 := hide (xR5.set (.slice a1 fs.length c1))); (have cr5 := xR5.cell); (have cz5 := xR5.frozen); (have lr5 := xR5.lt); (replace hc5 := hide hc5); (replace ov5 := hide ov5); (replace hg5 := hide hg5); (replace xR5 := hide xR5); (replace HB5 := hide HB5); (generalize hW6 : w5.setCell ⟨w.heap.size, 0, none⟩ (.slice a1 fs.length c1) = w6 at B6 of6 oa6 ov6 xR6); (have cr6 := (unhide xR6).cell); (have lr6 := (unhide xR6).lt)))
  all_goals
    go_wp2
    refine bodyPost_ret (v := .tuple #[.agg #[.slice a1 fs.length c1], .slice a2 acs.length c2, .int .i64 z, v3]) (by simp [results, Try.results14, go_sem, cr6]) rfl ?_
    exact ⟨fs, a1, c1, acs, a2, c2, z, is, v3, ⟨hfl, unhide hfB⟩, ⟨hal, unhide haS⟩, hil, rfl, (unhide of6).rd, (unhide oa6).rdac, unhide ov6, unhide B6⟩
end Go.Proofs.Ytkaaabpodhgbpaa
