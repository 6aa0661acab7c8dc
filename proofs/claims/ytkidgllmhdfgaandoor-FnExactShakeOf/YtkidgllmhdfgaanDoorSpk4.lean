/- The given model's round, over the loaded program: the walk. -/
import Derived.Test.YtkidgllmhdfgaanDoorSpk3
import Derived.Test.YtkidgllmhdfgaanDoorSpg3
namespace Go.Proofs.YtkidgllmhdfgaanDoor
open Go.RowKit
theorem bel_drew {B : Nat} {a w : World} (h : Below B a w) (n : Nat) : Below B a (w.drewN n) := ⟨h.os, h.tape, h.output, h.size, h.block⟩
set_option maxRecDepth 20000 in
set_option maxHeartbeats 8000000 in
theorem specRound_any (a : List Nat) (ha : LanesOk a) (num : Nat) (hnum : num < M64) (ga ca gt base : Nat) (w : World) (hOA : OwnV w base 31 (.slice (some ⟨ga, 0, none⟩) 25 ca) (a.map u64v)) (hOT : OwnV w base 3 (.slice (some ⟨gt, 0, none⟩) 25 25) (turnsL.map iv)) :
    Calls Tryd.prog 28 #[.slice (some ⟨ga, 0, none⟩) 25 ca, .slice (some ⟨gt, 0, none⟩) 25 25, .int .u64 (num : Int)] w fun e w' => (∃ g, e = .returned (.slice (some ⟨g, 0, none⟩) 25 25) ∧ OwnV w' w.heap.size 31 (.slice (some ⟨g, 0, none⟩) 25 25) ((kRound a num).map u64v)) ∧ Below w.heap.size w w' := by
  have hmk5 : ∀ w : World, (Instr.makeSlice 28 (.int .i64 5) (.int .i64 5)).run Tryd.prog w = .ok (.slice (some ⟨w.heap.size, 0, none⟩) 5 5) (w.alloc (.cells (madeCells #[.int .u64 0] 5) 31)) := fun w => run_make_row' (P := Tryd.prog) 28 31 (.int .u64 0) 8 Tryd.underlying28 Tryd.infoLane rfl .i64 .i64 5 (by omega) (by omega) w
  have hmk25 : ∀ w : World, (Instr.makeSlice 28 (.int .i64 25) (.int .i64 25)).run Tryd.prog w = .ok (.slice (some ⟨w.heap.size, 0, none⟩) 25 25) (w.alloc (.cells (madeCells #[.int .u64 0] 25) 31)) := fun w => run_make_row' (P := Tryd.prog) 28 31 (.int .u64 0) 8 Tryd.underlying28 Tryd.infoLane rfl .i64 .i64 25 (by omega) (by omega) w
  have hga := (hOA.lt ga rfl).2
  have hgt := (hOT.lt gt rfl).2
  have HOA := hide hOA
  have HOT := hide hOT
  have hMO : Hid (∀ (W : World) (n : Nat), n ≤ 25 → OwnV (W.alloc (.cells (madeCells #[.int .u64 0] n) 31)) W.heap.size 31 (.slice (some ⟨W.heap.size, 0, none⟩) n n) ((List.replicate n 0).map u64v)) := hide (fun W n hn => by
    rw [← zero_lan]
    exact made_own W (.int .u64 0) n 31 (by unfold maxLen; omega) (fun i => by rw [Nat.mod_one]; rfl))
  have HB0 := hide ((Below.refl w.heap.size w).alloc (Nat.le_refl _) (.cells (madeCells #[.int .u64 0] 5) 31))
  have HC0 := hide ((unhide hMO) w 5 (by decide))
  have hnec : Hid (ga ≠ w.heap.size) := hide (by omega)
  clear hOA hOT
  go_enter Tryd.func28, Tryd.ntmps28
  go_wp2
  go_loopw [8] (fun ti wr => ∃ k : Nat, k ≤ 5 ∧ ti = .int .i64 (k : Int) ∧ Hid (OwnV wr w.heap.size 31 (.slice (some ⟨w.heap.size, 0, none⟩) 5 5) ((cL a k).map u64v)) ∧ Hid (Below w.heap.size w wr)) (fun ti _ => 5 - (intOf ti).toNat)
  case atStart => exact ⟨0, by omega, rfl, HC0, HB0⟩
  case round =>
    clear HB0 HC0
    obtain ⟨k, hk, rfl, HC, HB⟩ := hrel
    have hOAr := (unhide HOA).below (unhide HB)
    by_cases hlt : k < 5
    · have lk : (k : Int) < 5 := by omega
      have lk25 : (k : Int) < 25 := by omega
      obtain ⟨p1, hp1⟩ : ∃ p, p = 5 + k := ⟨_, rfl⟩
      obtain ⟨p2, hp2⟩ : ∃ p, p = 10 + k := ⟨_, rfl⟩
      obtain ⟨p3, hp3⟩ : ∃ p, p = 15 + k := ⟨_, rfl⟩
      obtain ⟨p4, hp4⟩ : ∃ p, p = 20 + k := ⟨_, rfl⟩
      have e1 : IntKind.i64.wrap ((k : Int) + 5) = (p1 : Int) := by rw [IntKind.wrap_i64]; omega
      have e2 : IntKind.i64.wrap ((k : Int) + 10) = (p2 : Int) := by rw [IntKind.wrap_i64]; omega
      have e3 : IntKind.i64.wrap ((k : Int) + 15) = (p3 : Int) := by rw [IntKind.wrap_i64]; omega
      have e4 : IntKind.i64.wrap ((k : Int) + 20) = (p4 : Int) := by rw [IntKind.wrap_i64]; omega
      have b1 : (p1 : Int) < 25 := by omega
      have b2 : (p2 : Int) < 25 := by omega
      have b3 : (p3 : Int) < 25 := by omega
      have b4 : (p4 : Int) < 25 := by omega
      have c0 := hOAr.cell (lan_get a k (by rw [ha.1]; omega))
      have c1 := hOAr.cell (lan_get a p1 (by rw [ha.1]; omega))
      have c2 := hOAr.cell (lan_get a p2 (by rw [ha.1]; omega))
      have c3 := hOAr.cell (lan_get a p3 (by rw [ha.1]; omega))
      have c4 := hOAr.cell (lan_get a p4 (by rw [ha.1]; omega))
      have l0 := ha.ln k
      have l1 := ha.ln p1
      have l2 := ha.ln p2
      have l3 := ha.ln p3
      have l4 := ha.ln p4
      have cc := (unhide HC).cell (lan_get (cL a k) k (by rw [cL_len]; exact hlt))
      have fc := (unhide HC).frozen k
      have h5 := five a k
      rw [← hp1, ← hp2, ← hp3, ← hp4] at h5
      generalize ln a k = a0 at *
      generalize ln a p1 = a1 at *
      generalize ln a p2 = a2 at *
      generalize ln a p3 = a3 at *
      generalize ln a p4 = a4 at *
      obtain ⟨r1, hr1⟩ : ∃ r, r = a0 ^^^ a1 := ⟨_, rfl⟩
      have x1 : bits .xor .u64 (a0 : Int) (a1 : Int) = (r1 : Int) := by rw [hr1]; exact u64_xor_nat a0 a1 l0 l1
      have y1 : r1 < M64 := by rw [hr1]; exact lt64_xor l0 l1
      obtain ⟨r2, hr2⟩ : ∃ r, r = r1 ^^^ a2 := ⟨_, rfl⟩
      have x2 : bits .xor .u64 (r1 : Int) (a2 : Int) = (r2 : Int) := by rw [hr2]; exact u64_xor_nat r1 a2 y1 l2
      have y2 : r2 < M64 := by rw [hr2]; exact lt64_xor y1 l2
      obtain ⟨r3, hr3⟩ : ∃ r, r = r2 ^^^ a3 := ⟨_, rfl⟩
      have x3 : bits .xor .u64 (r2 : Int) (a3 : Int) = (r3 : Int) := by rw [hr3]; exact u64_xor_nat r2 a3 y2 l3
      have y3 : r3 < M64 := by rw [hr3]; exact lt64_xor y2 l3
      obtain ⟨r4, hr4⟩ : ∃ r, r = r3 ^^^ a4 := ⟨_, rfl⟩
      have x4 : bits .xor .u64 (r3 : Int) (a4 : Int) = (r4 : Int) := by rw [hr4]; exact u64_xor_nat r3 a4 y3 l4
      rw [← hr1, ← hr2, ← hr3, ← hr4] at h5
      have HC3 : Hid (∀ n, OwnV ((wr.drewN n).setCell ⟨w.heap.size, k, none⟩ (.int .u64 (r4 : Int))) w.heap.size 31 (.slice (some ⟨w.heap.size, 0, none⟩) 5 5) ((cL a (k + 1)).map u64v)) := hide (fun n => by
        have := ((unhide HC).drewN n).set k (.int .u64 (r4 : Int))
        rw [lan_set, ← h5, cL_set a k hlt] at this
        rw [← h5]
        exact this)
      replace hr1 := hide hr1; replace hr2 := hide hr2; replace hr3 := hide hr3; replace hr4 := hide hr4
      replace hp1 := hide hp1; replace hp2 := hide hp2; replace hp3 := hide hp3; replace hp4 := hide hp4
      clear hOAr HC l0 l1 l2 l3 l4 y1 y2 y3 h5
      go_wp2
      go_region_held3 (fun W => W.cell? ⟨ga, k, none⟩ = some (.int .u64 (a0 : Int)) ∧ W.cell? ⟨ga, p1, none⟩ = some (.int .u64 (a1 : Int)) ∧ W.cell? ⟨ga, p2, none⟩ = some (.int .u64 (a2 : Int)) ∧ W.cell? ⟨ga, p3, none⟩ = some (.int .u64 (a3 : Int)) ∧ W.cell? ⟨ga, p4, none⟩ = some (.int .u64 (a4 : Int))) (first | exact ⟨c0, c1, c2, c3, c4⟩ | exact ⟨cell_off c0 (unhide hnec), cell_off c1 (unhide hnec), cell_off c2 (unhide hnec), cell_off c3 (unhide hnec), cell_off c4 (unhide hnec)⟩) (fail)
      go_wp2
      go_roundw
      all_goals first | exact ⟨k + 1, by omega, by go_num, hide ((unhide HC3) 1), hide ((bel_drew (unhide HB) 1).setCell (p := ⟨w.heap.size, k, none⟩) (Nat.le_refl _) _)⟩ | (simp [intOf]; omega)
    · have hk5 : k = 5 := by omega
      have nk : ¬ (k : Int) < 5 := by omega
      have HC5 := hide (show OwnV wr w.heap.size 31 (.slice (some ⟨w.heap.size, 0, none⟩) 5 5) ((cL a 5).map u64v) by rw [show cL a 5 = cL a k by rw [hk5]]; exact unhide HC)
      replace hk5 := hide hk5
      have hsr := ((unhide HC5).lt w.heap.size rfl).2
      have HB1 := hide ((unhide HB).alloc (by omega) (.cells (madeCells #[.int .u64 0] 25) 31))
      have HC6 := hide ((unhide HC5).alloc (.cells (madeCells #[.int .u64 0] 25) 31))
      have HBB := hide ((unhide hMO) wr 25 (by decide))
      rw [← bP_zero a] at HBB
      obtain ⟨gb, hgb⟩ : ∃ g, g = wr.heap.size := ⟨_, rfl⟩
      rw [← hgb] at HBB hsr
      have hgbl : gb < (wr.alloc (.cells (madeCells #[.int .u64 0] 25) 31)).heap.size := by rw [hgb]; simp
      have HGB := hide hgb.symm
      clear hgb HC HB hOAr HC5
      have hneb1 : Hid (ga ≠ gb) := hide (by omega)
      have hneb2 : Hid (gt ≠ gb) := hide (by omega)
      have hneb3 : Hid (w.heap.size ≠ gb) := hide (by omega)
      go_wp2
      rw [unhide HGB]
      generalize wr.alloc (.cells (madeCells #[.int .u64 0] 25) 31) = ws at *
      go_loopw [10] (fun ti wq => ∃ x : Nat, x ≤ 5 ∧ ti = .int .i64 (x : Int) ∧ Hid (OwnV wq w.heap.size 31 (.slice (some ⟨w.heap.size, 0, none⟩) 5 5) ((cL a 5).map u64v)) ∧ Hid (OwnV wq gb 31 (.slice (some ⟨gb, 0, none⟩) 25 25) ((bP a (5 * x + 0)).map u64v)) ∧ Hid (Below w.heap.size w wq)) (fun ti _ => 5 - (intOf ti).toNat)
      case atStart => exact ⟨0, by omega, rfl, HC6, HBB, HB1⟩
      case round =>
        clear HC6 HBB HB1 nk
        obtain ⟨x, hx, rfl, HC, HBB, HB⟩ := hrel
        by_cases hlx : x < 5
        · have lx : (x : Int) < 5 := by omega
          obtain ⟨u, hu⟩ : ∃ u, u = (x + 4) % 5 := ⟨_, rfl⟩
          obtain ⟨v, hv⟩ : ∃ v, v = (x + 1) % 5 := ⟨_, rfl⟩
          have lu : u < 5 := by omega
          have lv : v < 5 := by omega
          have lu' : (u : Int) < 5 := by omega
          have lv' : (v : Int) < 5 := by omega
          have eu : ((x : Int) + 4).tmod 5 = (u : Int) := by rw [Int.tmod_eq_emod_of_nonneg (by omega)]; omega
          have ev : ((x : Int) + 1).tmod 5 = (v : Int) := by rw [Int.tmod_eq_emod_of_nonneg (by omega)]; omega
          have wu : IntKind.i64.wrap ((x : Int) + 4) = (x : Int) + 4 := by rw [IntKind.wrap_i64]; omega
          have wv : IntKind.i64.wrap ((x : Int) + 1) = (x : Int) + 1 := by rw [IntKind.wrap_i64]; omega
          have cu := (unhide HC).cell (lan_get (cL a 5) u (by rw [cL_len]; exact lu))
          have cv := (unhide HC).cell (lan_get (cL a 5) v (by rw [cL_len]; exact lv))
          rw [cL_ln a u lu] at cu
          rw [cL_ln a v lv] at cv
          have hD : thD a x = thC a u ^^^ rol 1 (thC a v) := by unfold thD; rw [hu, hv]
          have lcu := thC_lt ha u
          have lcv := thC_lt ha v
          generalize thC a u = cu' at *
          generalize thC a v = cv' at *
          have lro := rol_lt (show 1 < 64 by decide) lcv
          have CR : Hid (∀ W, Calls Tryd.prog 38 #[.int .u64 (cv' : Int), .int .i64 1] W fun e w' => e = .returned (.int .u64 (rol 1 cv' : Int)) ∧ ∃ m, w' = W.drewN m) := hide (fun W => left_any cv' 1 lcv (by decide) W)
          generalize rol 1 cv' = rv at *
          obtain ⟨d, hd⟩ : ∃ d, d = cu' ^^^ rv := ⟨_, rfl⟩
          have xd : bits .xor .u64 (cu' : Int) (rv : Int) = (d : Int) := by rw [hd]; exact u64_xor_nat cu' rv lcu lro
          have ld : d < M64 := by rw [hd]; exact lt64_xor lcu lro
          rw [← hd] at hD
          replace hu := hide hu; replace hv := hide hv; replace hd := hide hd
          replace hD := hide hD; replace ld := hide ld
          clear lcu lcv lro
          go_wp2
          go_quiet ((first | (go_at_call 38; exact Calls.quiet_of ((unhide CR) _))))
          go_wp2
          clear cu cv
          go_loopw [12] (fun ti wz => ∃ y : Nat, y ≤ 5 ∧ ti = .int .i64 (y : Int) ∧ Hid (OwnV wz w.heap.size 31 (.slice (some ⟨w.heap.size, 0, none⟩) 5 5) ((cL a 5).map u64v)) ∧ Hid (OwnV wz gb 31 (.slice (some ⟨gb, 0, none⟩) 25 25) ((bP a (5 * x + y)).map u64v)) ∧ Hid (Below w.heap.size w wz)) (fun ti _ => 5 - (intOf ti).toNat)
          case atStart => exact ⟨0, by omega, rfl, hide ((unhide HC).drewN _), hide ((unhide HBB).drewN _), hide (bel_drew (unhide HB) _)⟩
          case round =>
            clear HC HBB HB
            obtain ⟨y, hy, rfl, HC, HBB, HB⟩ := hrel
            by_cases hly : y < 5
            · have ly : (y : Int) < 5 := by omega
              obtain ⟨z, hz⟩ : ∃ z, z = (2 * x + 3 * y) % 5 := ⟨_, rfl⟩
              obtain ⟨r, hr⟩ : ∃ r, r = y + 5 * z := ⟨_, rfl⟩
              obtain ⟨p, hp⟩ : ∃ p, p = x + 5 * y := ⟨_, rfl⟩
              have w1 : IntKind.i64.wrap (2 * (x : Int)) = 2 * (x : Int) := by rw [IntKind.wrap_i64]; omega
              have w2 : IntKind.i64.wrap (3 * (y : Int)) = 3 * (y : Int) := by rw [IntKind.wrap_i64]; omega
              have w3 : IntKind.i64.wrap (2 * (x : Int) + 3 * (y : Int)) = 2 * (x : Int) + 3 * (y : Int) := by rw [IntKind.wrap_i64]; omega
              have ez : (2 * (x : Int) + 3 * (y : Int)).tmod 5 = (z : Int) := by rw [Int.tmod_eq_emod_of_nonneg (by omega)]; omega
              have w4 : IntKind.i64.wrap (5 * (z : Int)) = 5 * (z : Int) := by rw [IntKind.wrap_i64]; omega
              have er : IntKind.i64.wrap ((y : Int) + 5 * (z : Int)) = (r : Int) := by rw [IntKind.wrap_i64]; omega
              have w5 : IntKind.i64.wrap (5 * (y : Int)) = 5 * (y : Int) := by rw [IntKind.wrap_i64]; omega
              have ep : IntKind.i64.wrap ((x : Int) + 5 * (y : Int)) = (p : Int) := by rw [IntKind.wrap_i64]; omega
              have lr : (r : Int) < 25 := by omega
              have lp : (p : Int) < 25 := by omega
              have cA := ((unhide HOA).below (unhide HB)).cell (lan_get a p (by rw [ha.1]; omega))
              have cT := ((unhide HOT).below (unhide HB)).cell (iv_get turnsL p (by show p < 25; omega))
              have cB := (unhide HBB).cell (lan_get (bP a (5 * x + y)) r (by rw [bP_len]; omega))
              have fB := (unhide HBB).frozen r
              have HS := bP_set a x y hlx hly
              rw [← hz, ← hr, ← hp, unhide hD] at HS
              have lA := ha.ln p
              have lT := turnsL_lt p
              have xq : bits .xor .u64 (ln a p : Int) (d : Int) = ((ln a p ^^^ d : Nat) : Int) := u64_xor_nat _ d lA (unhide ld)
              have lq : ln a p ^^^ d < M64 := lt64_xor lA (unhide ld)
              have CR2 := hide (fun W => left_any (ln a p ^^^ d) (ln turnsL p) lq lT W)
              generalize ln a p ^^^ d = q at *
              generalize ln a p = ap at *
              generalize ln turnsL p = tp at *
              generalize rol tp q = res at *
              have HB3 : Hid (∀ n, OwnV ((wr.drewN n).setCell ⟨gb, r, none⟩ (.int .u64 (res : Int))) gb 31 (.slice (some ⟨gb, 0, none⟩) 25 25) ((bP a (5 * x + (y + 1))).map u64v)) := hide (fun n => by
                have := ((unhide HBB).drewN n).set r (.int .u64 (res : Int))
                rw [lan_set, HS] at this
                exact this)
              have HC3 : Hid (∀ n, OwnV ((wr.drewN n).setCell ⟨gb, r, none⟩ (.int .u64 (res : Int))) w.heap.size 31 (.slice (some ⟨w.heap.size, 0, none⟩) 5 5) ((cL a 5).map u64v)) := hide (fun n => ((unhide HC).drewN n).set_off _ (unhide hneb3))
              have hgbw : Hid (w.heap.size ≤ gb) := hide (by omega)
              replace hz := hide hz; replace hr := hide hr; replace hp := hide hp
              clear HC HBB HS lA lT lq
              go_wp2
              go_region_held3 (fun W => W.cell? ⟨ga, p, none⟩ = some (.int .u64 (ap : Int)) ∧ W.cell? ⟨gt, p, none⟩ = some (.int .i64 (tp : Int))) (first | exact ⟨cA, cT⟩ | exact ⟨cell_off cA (unhide hneb1), cell_off cT (unhide hneb2)⟩ | fail) (first | (go_at_call 38; refine ((unhide CR2) _).mono ?_; rintro e w9 ⟨rfl, n9, rfl⟩))
              go_wp2
              go_roundw
              all_goals first | exact ⟨y + 1, by omega, by go_num, hide ((unhide HC3) _), hide ((unhide HB3) _), hide ((bel_drew (unhide HB) _).setCell (p := ⟨gb, r, none⟩) (unhide hgbw) _)⟩ | (simp [intOf]; omega)
            · have hy5 : y = 5 := by omega
              have nk : ¬ (y : Int) < 5 := by omega
              have HB5 := hide (show OwnV wr gb 31 (.slice (some ⟨gb, 0, none⟩) 25 25) ((bP a (5 * (x + 1) + 0)).map u64v) by rw [show 5 * (x + 1) + 0 = 5 * x + y by omega]; exact unhide HBB)
              replace hy5 := hide hy5
              clear HBB
              go_wp2
              go_roundw
              all_goals first | exact ⟨x + 1, by omega, by go_num, HC, HB5, HB⟩ | (simp [intOf]; omega)
        · have hx5 : x = 5 := by omega
          have nx : ¬ (x : Int) < 5 := by omega
          have HBF := hide (show OwnV wr gb 31 (.slice (some ⟨gb, 0, none⟩) 25 25) ((rhoPi a).map u64v) by rw [← bP_end, show bP a 25 = bP a (5 * x + 0) by rw [hx5]]; exact unhide HBB)
          replace hx5 := hide hx5
          clear HBB HC
          have hrp := rhoPi_ok ha
          have HK : Hid (kRound a num = (chiL (rhoPi a)).set 0 (ln (chiL (rhoPi a)) 0 ^^^ num)) := hide rfl
          generalize rhoPi a = bb at *
          have hsq := ((unhide HBF).lt gb rfl).2
          have HB1 := hide ((unhide HB).alloc (by omega) (.cells (madeCells #[.int .u64 0] 25) 31))
          have HBG := hide ((unhide HBF).alloc (.cells (madeCells #[.int .u64 0] 25) 31))
          have HOO := hide ((unhide hMO) wr 25 (by decide))
          rw [← oP_zero bb] at HOO
          obtain ⟨go, hgo⟩ : ∃ g, g = wr.heap.size := ⟨_, rfl⟩
          rw [← hgo] at HOO hsq
          have HGO := hide hgo.symm
          clear hgo HB HBF
          have hneo : Hid (gb ≠ go) := hide (by omega)
          have hgow : Hid (w.heap.size ≤ go) := hide (by omega)
          go_wp2
          rw [unhide HGO]
          generalize wr.alloc (.cells (madeCells #[.int .u64 0] 25) 31) = wt at *
          go_loopw [14] (fun ti wq => ∃ x : Nat, x ≤ 5 ∧ ti = .int .i64 (x : Int) ∧ Hid (OwnV wq gb 31 (.slice (some ⟨gb, 0, none⟩) 25 25) (bb.map u64v)) ∧ Hid (OwnV wq go 31 (.slice (some ⟨go, 0, none⟩) 25 25) ((oP bb (5 * x + 0)).map u64v)) ∧ Hid (Below w.heap.size w wq)) (fun ti _ => 5 - (intOf ti).toNat)
          case atStart => exact ⟨0, by omega, rfl, HBG, HOO, HB1⟩
          case round =>
            clear HBG HOO HB1 nx
            obtain ⟨x, hx, rfl, HBB, HO, HB⟩ := hrel
            by_cases hlx : x < 5
            · have lx : (x : Int) < 5 := by omega
              go_wp2
              go_loopw [15] (fun ti wz => ∃ y : Nat, y ≤ 5 ∧ ti = .int .i64 (y : Int) ∧ Hid (OwnV wz gb 31 (.slice (some ⟨gb, 0, none⟩) 25 25) (bb.map u64v)) ∧ Hid (OwnV wz go 31 (.slice (some ⟨go, 0, none⟩) 25 25) ((oP bb (5 * x + y)).map u64v)) ∧ Hid (Below w.heap.size w wz)) (fun ti _ => 5 - (intOf ti).toNat)
              case atStart => exact ⟨0, by omega, rfl, HBB, HO, HB⟩
              case round =>
                clear HBB HO HB
                obtain ⟨y, hy, rfl, HBB, HO, HB⟩ := hrel
                by_cases hly : y < 5
                · have ly : (y : Int) < 5 := by omega
                  obtain ⟨p, hp⟩ : ∃ p, p = x + 5 * y := ⟨_, rfl⟩
                  obtain ⟨u, hu⟩ : ∃ u, u = (x + 1) % 5 := ⟨_, rfl⟩
                  obtain ⟨v, hv⟩ : ∃ v, v = (x + 2) % 5 := ⟨_, rfl⟩
                  obtain ⟨p1, hp1⟩ : ∃ p, p = u + 5 * y := ⟨_, rfl⟩
                  obtain ⟨p2, hp2⟩ : ∃ p, p = v + 5 * y := ⟨_, rfl⟩
                  have w5 : IntKind.i64.wrap (5 * (y : Int)) = 5 * (y : Int) := by rw [IntKind.wrap_i64]; omega
                  have ep : IntKind.i64.wrap ((x : Int) + 5 * (y : Int)) = (p : Int) := by rw [IntKind.wrap_i64]; omega
                  have wu : IntKind.i64.wrap ((x : Int) + 1) = (x : Int) + 1 := by rw [IntKind.wrap_i64]; omega
                  have wv : IntKind.i64.wrap ((x : Int) + 2) = (x : Int) + 2 := by rw [IntKind.wrap_i64]; omega
                  have eu : ((x : Int) + 1).tmod 5 = (u : Int) := by rw [Int.tmod_eq_emod_of_nonneg (by omega)]; omega
                  have ev : ((x : Int) + 2).tmod 5 = (v : Int) := by rw [Int.tmod_eq_emod_of_nonneg (by omega)]; omega
                  have ep1 : IntKind.i64.wrap ((u : Int) + 5 * (y : Int)) = (p1 : Int) := by rw [IntKind.wrap_i64]; omega
                  have ep2 : IntKind.i64.wrap ((v : Int) + 5 * (y : Int)) = (p2 : Int) := by rw [IntKind.wrap_i64]; omega
                  have lp : (p : Int) < 25 := by omega
                  have lp1 : (p1 : Int) < 25 := by omega
                  have lp2 : (p2 : Int) < 25 := by omega
                  have c0 := (unhide HBB).cell (lan_get bb p (by rw [hrp.1]; omega))
                  have c1 := (unhide HBB).cell (lan_get bb p1 (by rw [hrp.1]; omega))
                  have c2 := (unhide HBB).cell (lan_get bb p2 (by rw [hrp.1]; omega))
                  have cO := (unhide HO).cell (lan_get (oP bb (5 * x + y)) p (by rw [oP_len]; omega))
                  have fO := (unhide HO).frozen p
                  have HS := oP_set bb x y hlx hly
                  rw [← hu, ← hv, ← hp, ← hp1, ← hp2] at HS
                  have l0 := hrp.ln p
                  have l1 := hrp.ln p1
                  have l2 := hrp.ln p2
                  generalize ln bb p = v0 at *
                  generalize ln bb p1 = v1 at *
                  generalize ln bb p2 = v2 at *
                  obtain ⟨m1, hm1⟩ : ∃ m, m = 18446744073709551615 - v1 := ⟨_, rfl⟩
                  have hv1 : v1 < 18446744073709551616 := l1
                  have em1 : IntKind.u64.wrap (18446744073709551615 - (v1 : Int)) = (m1 : Int) := by rw [IntKind.wrap_u64]; omega
                  have lm1 : m1 < 18446744073709551616 := by omega
                  rw [← hm1] at HS
                  obtain ⟨m2, hm2⟩ : ∃ m, m = m1 &&& v2 := ⟨_, rfl⟩
                  have em2 : bits .and .u64 (m1 : Int) (v2 : Int) = (m2 : Int) := by rw [hm2]; exact u64_and_nat m1 v2 lm1 l2
                  have lm2 : m2 < M64 := by rw [hm2]; exact lt64_and l2
                  rw [← hm2] at HS
                  obtain ⟨res, hres⟩ : ∃ m, m = v0 ^^^ m2 := ⟨_, rfl⟩
                  have em3 : bits .xor .u64 (v0 : Int) (m2 : Int) = (res : Int) := by rw [hres]; exact u64_xor_nat v0 m2 l0 lm2
                  rw [← hres] at HS
                  have HO3 : Hid (∀ n, OwnV ((wr.drewN n).setCell ⟨go, p, none⟩ (.int .u64 (res : Int))) go 31 (.slice (some ⟨go, 0, none⟩) 25 25) ((oP bb (5 * x + (y + 1))).map u64v)) := hide (fun n => by
                    have := ((unhide HO).drewN n).set p (.int .u64 (res : Int))
                    rw [lan_set, HS] at this
                    exact this)
                  have HB3 : Hid (∀ n, OwnV ((wr.drewN n).setCell ⟨go, p, none⟩ (.int .u64 (res : Int))) gb 31 (.slice (some ⟨gb, 0, none⟩) 25 25) (bb.map u64v)) := hide (fun n => ((unhide HBB).drewN n).set_off _ (unhide hneo))
                  replace hp := hide hp; replace hu := hide hu; replace hv := hide hv; replace hp1 := hide hp1; replace hp2 := hide hp2
                  replace hm1 := hide hm1; replace hm2 := hide hm2; replace hres := hide hres
                  clear HBB HO HS l0 l1 l2 lm2
                  go_wp2
                  go_region_held3 (fun W => W.cell? ⟨gb, p, none⟩ = some (.int .u64 (v0 : Int)) ∧ W.cell? ⟨gb, p1, none⟩ = some (.int .u64 (v1 : Int)) ∧ W.cell? ⟨gb, p2, none⟩ = some (.int .u64 (v2 : Int))) (first | exact ⟨c0, c1, c2⟩ | exact ⟨cell_off c0 (unhide hneo), cell_off c1 (unhide hneo), cell_off c2 (unhide hneo)⟩ | fail) (fail)
                  go_wp2
                  go_roundw
                  all_goals first | exact ⟨y + 1, by omega, by go_num, hide ((unhide HB3) 1), hide ((unhide HO3) 1), hide ((bel_drew (unhide HB) 1).setCell (p := ⟨go, p, none⟩) (unhide hgow) _)⟩ | (simp [intOf]; omega)
                · have hy5 : y = 5 := by omega
                  have ny : ¬ (y : Int) < 5 := by omega
                  have HO5 := hide (show OwnV wr go 31 (.slice (some ⟨go, 0, none⟩) 25 25) ((oP bb (5 * (x + 1) + 0)).map u64v) by rw [show 5 * (x + 1) + 0 = 5 * x + y by omega]; exact unhide HO)
                  replace hy5 := hide hy5
                  clear HO
                  go_wp2
                  go_roundw
                  all_goals first | exact ⟨x + 1, by omega, by go_num, HBB, HO5, HB⟩ | (simp [intOf]; omega)
            · have hx5 : x = 5 := by omega
              have nx : ¬ (x : Int) < 5 := by omega
              have hOF : OwnV wr go 31 (.slice (some ⟨go, 0, none⟩) 25 25) ((chiL bb).map u64v) := by rw [← oP_end, show oP bb 25 = oP bb (5 * x + 0) by rw [hx5]]; exact unhide HO
              have hch := chiL_ok hrp
              have l0 := hch.ln 0
              have c0 := hOF.cell (lan_get (chiL bb) 0 (by rw [hch.1]; decide))
              have f0 := hOF.frozen 0
              generalize chiL bb = ch at *
              generalize ln ch 0 = v0 at *
              have xo : bits .xor .u64 (v0 : Int) (num : Int) = ((v0 ^^^ num : Nat) : Int) := u64_xor_nat v0 num l0 hnum
              have hF := hOF.set 0 (.int .u64 ((v0 ^^^ num : Nat) : Int))
              rw [lan_set, ← unhide HK] at hF
              generalize v0 ^^^ num = z at *
              replace hF := hide hF
              replace hx5 := hide hx5
              have HBE := hide ((unhide HB).setCell (p := ⟨go, 0, none⟩) (unhide hgow) (.int .u64 (z : Int)))
              clear HO hOF HBB HB l0
              go_wp2
              go_ret
              exact ⟨⟨_, rfl, (unhide hF).low (unhide hgow)⟩, unhide HBE⟩
end Go.Proofs.YtkidgllmhdfgaanDoor
