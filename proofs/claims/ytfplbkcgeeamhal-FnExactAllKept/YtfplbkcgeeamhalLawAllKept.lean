/- The law of AllKept, walked. -/
import Derived.Test.YtfplbkcgeeamhalLawDiskOk
import Derived.Test.YtfplbkcgeeamhalAllKept
namespace Go.Proofs.Ytfplbkcgeeamhal
open Go.RowKit

set_option maxRecDepth 20000 in
set_option maxHeartbeats 2000000 in
theorem lawAllKept_any (fs : List Fl) (v : Value) (w : World) (hr : RdF w v fs) (hn : fs.length ≤ maxLen) (hz : ∀ f ∈ fs, f.nm.size ≤ maxLen ∧ f.tx.size ≤ maxLen) :
    Calls Try.prog 7 #[.agg #[v]] w fun e w' => e = .returned (.bool true) ∧ Below w.heap.size w w' := by
  have C0 : Hid (∀ W, RdF W v fs → Calls Try.prog 8 #[.agg #[v], .int .i64 1048576] W fun e w' => (∃ r : Int, e = .returned (.int .i64 r) ∧ SzEnd fs r) ∧ Below W.heap.size W w') := fun W h => szDisk_any fs v W h hn hz
  obtain ⟨a, c, rfl⟩ := hr.shape
  replace hr := hide hr
  clear hn hz
  go_enter Try.func7, Try.ntmps7
  go_wp2_with fail
  refine ((unhide C0) _ ((unhide hr).alloc _)).mono ?_
  rintro e w1 ⟨⟨r, rfl, hr1⟩, hb1⟩
  have hcell1 : w1.cell? ⟨w.heap.size, 0, none⟩ = some (.slice a fs.length c) := (hb1.cell (p := ⟨w.heap.size, 0, none⟩) (by simp)).trans (by simp)
  have hbw1 : Below w.heap.size w w1 := ((Below.refl w.heap.size w).alloc (Nat.le_refl _) _).trans (hb1.mono (by simp))
  have hs1 : w.heap.size + 1 ≤ w1.heap.size := by have := hb1.size; simpa using this
  have hr1' := hide ((unhide hr).below hbw1)
  by_cases hneg : r < 0
  · go_wp2
    go_ret
    exact ⟨rfl, hbw1⟩
  · have hsum : ∃ m : Nat, r = m ∧ m + fs.length + flsSz fs = 1048576 := hr1.resolve_left (by omega)
    obtain ⟨m, _, hsum⟩ := hsum
    obtain ⟨hBd, hlen⟩ := bd_of hsum
    have hBd := hide hBd
    clear hsum hr1
    have CT : Hid (∀ W, RdF W (.slice a fs.length c) fs → Calls Try.prog 11 #[.agg #[.slice a fs.length c]] W fun e w' => (∃ a c, e = .returned (.agg #[.slice a fs.length c]) ∧ OwnF w' W.heap.size 63 (.slice a fs.length c) fs) ∧ Below W.heap.size W w') := fun W h => toDisk_any fs _ W h hlen
    have CE : Hid (∀ W v1 v2, RdF W v1 fs → RdF W v2 fs → Calls Try.prog 14 #[.agg #[v1], .agg #[v2]] W fun e w' => e = .returned (.bool true) ∧ Below W.heap.size W w') := fun W v1 v2 h1 h2 => eqDisk_any fs v1 v2 W h1 h2 (by omega)
    have CS : Hid (∀ W v1, RdF W v1 fs → Calls Try.prog 30 #[.agg #[v1]] W fun e w' => e = .returned (.bool (allKL fs)) ∧ Below W.heap.size W w') := fun W v1 h1 => specAllKept_any fs v1 W h1 (unhide hBd) (by omega)
    have CI : Hid (∀ W v1, RdF W v1 fs → Calls Try.prog 31 #[.agg #[v1]] W fun e w' => e = .returned (.bool (allKL fs)) ∧ Below W.heap.size W w') := fun W v1 h1 => implAllKept_any fs v1 W h1 (unhide hBd) (by omega)
    generalize allKL fs = okb at CS CI
    go_wp2_with fail
    refine ((unhide CT) _ (unhide hr1')).mono ?_
    rintro e w2 ⟨⟨a2, c2, rfl, ho2⟩, hb2⟩
    go_wp2_with fail
    refine ((unhide CS) _ _ ho2.rd).mono ?_
    rintro e w3 ⟨rfl, hb3⟩
    have s12 := hb2.size
    have s23 := hb3.size
    have hb13 : Below w1.heap.size w1 w3 := hb2.trans (hb3.mono s12)
    have hcell3 : w3.cell? ⟨w.heap.size, 0, none⟩ = some (.slice a fs.length c) := (hb13.cell (p := ⟨w.heap.size, 0, none⟩) hs1).trans hcell1
    have hr3 := hide ((unhide hr1').below hb13)
    clear hcell1
    go_wp2_with fail
    refine ((unhide CT) _ (unhide hr3)).mono ?_
    rintro e w4 ⟨⟨a4, c4, rfl, ho4⟩, hb4⟩
    have s34 := hb4.size
    have HR4 := hide (ho4.rd.alloc (.cells #[.slice a4 fs.length c4] 31))
    go_wp2_with fail
    refine ((unhide CI) _ _ (unhide HR4)).mono ?_
    rintro e w5 ⟨rfl, hb5⟩
    have s45 : w4.heap.size + 1 ≤ w5.heap.size := by have := hb5.size; simpa using this
    have hb35 : Below w3.heap.size w3 w5 := hb4.trans ((((Below.refl _ w4).alloc (Nat.le_refl _) _).trans (hb5.mono (by simp))).mono s34)
    have hcell5 : w5.cell? ⟨w.heap.size, 0, none⟩ = some (.slice a fs.length c) := (hb35.cell (p := ⟨w.heap.size, 0, none⟩) (by show w.heap.size < _; omega)).trans hcell3
    have hx5 : w5.cell? ⟨w4.heap.size, 0, none⟩ = some (.slice a4 fs.length c4) := (hb5.cell (p := ⟨w4.heap.size, 0, none⟩) (by simp)).trans (by simp)
    have HR5 := hide ((unhide HR4).below hb5)
    have hr5 := hide ((unhide hr3).below hb35)
    have hb15 := hide (hbw1.trans ((hb13.trans (hb35.mono (by omega))).mono (by omega)))
    clear hcell3
    have hl1 : w.heap.size < w5.heap.size := by omega
    have hl2 : w4.heap.size < w5.heap.size := by omega
    replace hb1 := hide hb1
    replace hb2 := hide hb2
    replace hb3 := hide hb3
    replace hb4 := hide hb4
    replace hb5 := hide hb5
    replace hb13 := hide hb13
    replace hb35 := hide hb35
    replace ho2 := hide ho2
    replace ho4 := hide ho4
    go_wp2_with fail
    go_region_held3 (fun W => W.cell? ⟨w4.heap.size, 0, none⟩ = some (.slice a4 fs.length c4) ∧ W.cell? ⟨w.heap.size, 0, none⟩ = some (.slice a fs.length c)) (first | exact ⟨hx5, hcell5⟩ | exact ⟨(hb6.cell (p := ⟨w4.heap.size, 0, none⟩) hl2).trans hx5, (hb6.cell (p := ⟨w.heap.size, 0, none⟩) hl1).trans hcell5⟩ | (have hb67 := hb6.trans (hb7.mono hb6.size); exact ⟨(hb67.cell (p := ⟨w4.heap.size, 0, none⟩) hl2).trans hx5, (hb67.cell (p := ⟨w.heap.size, 0, none⟩) hl1).trans hcell5⟩)) (first
      | (go_at_call 11; refine ((unhide CT) _ (by exact (unhide hr5).drew)).mono ?_; rintro e w6 ⟨⟨a6, c6, rfl, ho6⟩, hb6⟩)
      | (go_at_call 14; refine ((unhide CE) _ _ _ (by exact ((unhide HR5).drew).below hb6) (by exact ho6.rd)).mono ?_; rintro e w7 ⟨rfl, hb7⟩))
    go_wp2
    go_ret
    exact ⟨rfl, (unhide hb15).drew.trans ((hb6.trans (hb7.mono hb6.size)).mono (by show _ ≤ w5.heap.size; omega))⟩
end Go.Proofs.Ytfplbkcgeeamhal
