/- The first step of a round, by impl, over the loaded program. -/
import Derived.Test.YtkidgllmhdfgaanDoorSpg2
namespace Go.Proofs.YtkidgllmhdfgaanDoor
open Go.RowKit
theorem LnAt.set_other {w : World} {g h k : Nat} {T : TypeId} {l : List Nat} (hA : LnAt w g T l) (hne : g ≠ h) (v : Value) : LnAt (w.setCell ⟨h, k, none⟩ v) g T l := by
  unfold LnAt at hA ⊢
  rw [Below.heap_setCell _ _ _ g hne]
  exact hA
theorem grown_past {a w : World} {g h k : Nat} (hG : a.grownBy w (some g)) (hh : a.heap.size ≤ h) (v : Value) : a.grownBy (w.setCell ⟨h, k, none⟩ v) (some g) := by
  refine ⟨hG.os, hG.tape, hG.output, ?_, ?_⟩
  · have := hG.size; simpa [World.setCell] using this
  · intro q hq hne
    rw [← hG.block q hq hne]
    exact Below.heap_setCell _ _ _ q (show q ≠ h by omega)
theorem grown_alloc {a w : World} {g : Nat} (hG : a.grownBy w (some g)) (o : Obj) : a.grownBy (w.alloc o) (some g) := by
  refine ⟨hG.os, hG.tape, hG.output, ?_, ?_⟩
  · have := hG.size; show a.heap.size ≤ (w.heap.push o).size; rw [Array.size_push]; omega
  · intro q hq hne
    rw [← hG.block q hq hne]
    exact heap_alloc_old w o (Nat.lt_of_lt_of_le hq hG.size)
theorem one_z5 (w : World) (T : TypeId) (a : List Nat) : LnAt (w.alloc (.cells #[.int .u64 0, .int .u64 0, .int .u64 0, .int .u64 0, .int .u64 0] T)) w.heap.size T (cL a 0) := LnAt.new w T [0, 0, 0, 0, 0]
theorem five (a : List Nat) (k : Nat) : thC a k = (((ln a k ^^^ ln a (5 + k)) ^^^ ln a (10 + k)) ^^^ ln a (15 + k)) ^^^ ln a (20 + k) := by
  unfold thC
  rw [Nat.add_comm k 5, Nat.add_comm k 10, Nat.add_comm k 15, Nat.add_comm k 20]
set_option maxRecDepth 20000 in
set_option maxHeartbeats 2000000 in
theorem theta_any (a : List Nat) (ha : LanesOk a) (g : Nat) (w : World) (hA : LnAt w g 34 a) :
    Calls Tryd.prog 31 #[.pointer (some ⟨g, 0, none⟩)] w fun e w' => e = .returned (.tuple #[]) ∧ LnAt w' g 34 (thetaL a) ∧ w.grownBy w' (some g) := by
  have hgl := hA.lt
  have HA := hide (hA.alloc (.cells #[.int .u64 0, .int .u64 0, .int .u64 0, .int .u64 0, .int .u64 0] 32))
  have HC := hide (one_z5 w 32 a)
  have HG := hide (grown_alloc (World.grownBy.refl w (some g)) (.cells #[.int .u64 0, .int .u64 0, .int .u64 0, .int .u64 0, .int .u64 0] 32))
  have hne : g ≠ w.heap.size := by omega
  replace hne := hide hne
  clear hA
  go_enter Tryd.func31, Tryd.ntmps31
  go_wp2
  go_loopw [7] (fun ti wr => ∃ k : Nat, k ≤ 5 ∧ ti = .int .i64 (k : Int) ∧ Hid (LnAt wr g 34 a) ∧ Hid (LnAt wr w.heap.size 32 (cL a k)) ∧ Hid (w.grownBy wr (some g))) (fun ti _ => 5 - (intOf ti).toNat)
  case atStart => exact ⟨0, by omega, rfl, HA, HC, HG⟩
  case round =>
    clear HA HC HG
    obtain ⟨k, hk, rfl, HA, HC, HG⟩ := hrel
    by_cases hlt : k < 5
    · have lk : (k : Int) < 5 := by omega
      obtain ⟨p1, hp1⟩ : ∃ p, p = 5 + k := ⟨_, rfl⟩
      obtain ⟨p2, hp2⟩ : ∃ p, p = 10 + k := ⟨_, rfl⟩
      obtain ⟨p3, hp3⟩ : ∃ p, p = 15 + k := ⟨_, rfl⟩
      obtain ⟨p4, hp4⟩ : ∃ p, p = 20 + k := ⟨_, rfl⟩
      have X0 := idxX g 0 k k lk (by omega)
      have X1 := idxX g 5 k p1 lk hp1
      have X2 := idxX g 10 k p2 lk hp2
      have X3 := idxX g 15 k p3 lk hp3
      have X4 := idxX g 20 k p4 lk hp4
      have XC := idxX w.heap.size 0 k k lk (by omega)
      have hA := unhide HA
      have c0 := hA.cell k (by rw [ha.1]; omega)
      have c1 := hA.cell p1 (by rw [ha.1]; omega)
      have c2 := hA.cell p2 (by rw [ha.1]; omega)
      have c3 := hA.cell p3 (by rw [ha.1]; omega)
      have c4 := hA.cell p4 (by rw [ha.1]; omega)
      have l0 := ha.ln k
      have l1 := ha.ln p1
      have l2 := ha.ln p2
      have l3 := ha.ln p3
      have l4 := ha.ln p4
      have cc := (unhide HC).cell k (by rw [cL_len]; omega)
      have fc := (unhide HC).frozen k
      have h5 := five a k
      rw [← hp1, ← hp2, ← hp3, ← hp4] at h5
      generalize ln a k = a0 at *
      generalize ln a p1 = a1 at *
      generalize ln a p2 = a2 at *
      generalize ln a p3 = a3 at *
      generalize ln a p4 = a4 at *
      obtain ⟨r1, hr1⟩ : ∃ r, r = a0 ^^^ a1 := ⟨_, rfl⟩
      have x1 : bits .xor .u64 (a0 : Int) (a1 : Int) = (r1 : Int) := by rw [hr1]; exact u64_xor_nat a0 a1 l0 l1
      have y1 : r1 < M64 := by rw [hr1]; exact lt64_xor l0 l1
      obtain ⟨r2, hr2⟩ : ∃ r, r = r1 ^^^ a2 := ⟨_, rfl⟩
      have x2 : bits .xor .u64 (r1 : Int) (a2 : Int) = (r2 : Int) := by rw [hr2]; exact u64_xor_nat r1 a2 y1 l2
      have y2 : r2 < M64 := by rw [hr2]; exact lt64_xor y1 l2
      obtain ⟨r3, hr3⟩ : ∃ r, r = r2 ^^^ a3 := ⟨_, rfl⟩
      have x3 : bits .xor .u64 (r2 : Int) (a3 : Int) = (r3 : Int) := by rw [hr3]; exact u64_xor_nat r2 a3 y2 l3
      have y3 : r3 < M64 := by rw [hr3]; exact lt64_xor y2 l3
      obtain ⟨r4, hr4⟩ : ∃ r, r = r3 ^^^ a4 := ⟨_, rfl⟩
      have x4 : bits .xor .u64 (r3 : Int) (a4 : Int) = (r4 : Int) := by rw [hr4]; exact u64_xor_nat r3 a4 y3 l4
      rw [← hr1, ← hr2, ← hr3, ← hr4] at h5
      have HC3 : Hid (∀ n, LnAt ((wr.drewN n).setCell ⟨w.heap.size, k, none⟩ (.int .u64 (r4 : Int))) w.heap.size 32 (cL a (k + 1))) := hide (fun n => by
        have := ((unhide HC).drewN n).set k r4
        rw [← h5, cL_set a k hlt] at this
        rw [← h5]
        exact this)
      have HA3 : Hid (∀ n, LnAt ((wr.drewN n).setCell ⟨w.heap.size, k, none⟩ (.int .u64 (r4 : Int))) g 34 a) := hide (fun n => (hA.drewN n).set_other (unhide hne) _)
      replace hr1 := hide hr1; replace hr2 := hide hr2; replace hr3 := hide hr3; replace hr4 := hide hr4
      replace hp1 := hide hp1; replace hp2 := hide hp2; replace hp3 := hide hp3; replace hp4 := hide hp4
      clear hA HA HC l0 l1 l2 l3 l4 y1 y2 y3 h5
      go_wp2
      go_region_held3 (fun W => W.cell? ⟨g, k, none⟩ = some (.int .u64 (a0 : Int)) ∧ W.cell? ⟨g, p1, none⟩ = some (.int .u64 (a1 : Int)) ∧ W.cell? ⟨g, p2, none⟩ = some (.int .u64 (a2 : Int)) ∧ W.cell? ⟨g, p3, none⟩ = some (.int .u64 (a3 : Int)) ∧ W.cell? ⟨g, p4, none⟩ = some (.int .u64 (a4 : Int))) (first | exact ⟨c0, c1, c2, c3, c4⟩ | exact ⟨cell_off c0 (unhide hne), cell_off c1 (unhide hne), cell_off c2 (unhide hne), cell_off c3 (unhide hne), cell_off c4 (unhide hne)⟩) (fail)
      go_wp2
      go_roundw
      case rel => exact ⟨k + 1, by omega, by go_num, (unhide HA3) _, (unhide HC3) _, hide (grown_past (grown_drew (unhide HG) _) (Nat.le_refl _) _)⟩
      case measure => simp [intOf]; omega
    · have hk5 : k = 5 := by omega
      have nk : ¬ (k : Int) < 5 := by omega
      have HA5 := hide (show LnAt wr g 34 (thP a (5 * 0 + 0)) by rw [show 5 * 0 + 0 = 0 from rfl, thP_zero ha.1]; exact unhide HA)
      have HC5 := hide (show LnAt wr w.heap.size 32 (cL a 5) by rw [← hk5]; exact unhide HC)
      replace hk5 := hide hk5
      clear HA HC
      go_wp2
      go_loopw [47] (fun ti wq => ∃ x : Nat, x ≤ 5 ∧ ti = .int .i64 (x : Int) ∧ Hid (LnAt wq g 34 (thP a (5 * x + 0))) ∧ Hid (LnAt wq w.heap.size 32 (cL a 5)) ∧ Hid (w.grownBy wq (some g))) (fun ti _ => 5 - (intOf ti).toNat)
      case atStart => exact ⟨0, by omega, rfl, HA5, HC5, HG⟩
      case round =>
        clear HA5 HC5 HG nk
        obtain ⟨x, hx, rfl, HA, HC, HG⟩ := hrel
        by_cases hlx : x < 5
        · have lx : (x : Int) < 5 := by omega
          obtain ⟨u, hu⟩ : ∃ u, u = (x + 4) % 5 := ⟨_, rfl⟩
          obtain ⟨v, hv⟩ : ∃ v, v = (x + 1) % 5 := ⟨_, rfl⟩
          have lu : u < 5 := by omega
          have lv : v < 5 := by omega
          have lu' : (u : Int) < 5 := by omega
          have lv' : (v : Int) < 5 := by omega
          have eu : ((x : Int) + 4).tmod 5 = (u : Int) := by rw [Int.tmod_eq_emod_of_nonneg (by omega)]; omega
          have ev : ((x : Int) + 1).tmod 5 = (v : Int) := by rw [Int.tmod_eq_emod_of_nonneg (by omega)]; omega
          have wu : IntKind.i64.wrap ((x : Int) + 4) = (x : Int) + 4 := by rw [IntKind.wrap_i64]; omega
          have wv : IntKind.i64.wrap ((x : Int) + 1) = (x : Int) + 1 := by rw [IntKind.wrap_i64]; omega
          have XU := idxX w.heap.size 0 u u lu' (by omega)
          have XV := idxX w.heap.size 0 v v lv' (by omega)
          have cu := (unhide HC).cell u (by rw [cL_len]; omega)
          have cv := (unhide HC).cell v (by rw [cL_len]; omega)
          rw [cL_ln a u lu] at cu
          rw [cL_ln a v lv] at cv
          have hD : thD a x = thC a u ^^^ rol 1 (thC a v) := by unfold thD; rw [hu, hv]
          have lcu := thC_lt ha u
          have lcv := thC_lt ha v
          generalize thC a u = cu' at *
          generalize thC a v = cv' at *
          have lro := rol_lt (show 1 < 64 by decide) lcv
          have CR := hide (fun W => rotl64_any cv' 1 lcv (by decide) (by decide) W)
          rw [show 1 % 64 = 1 from rfl] at CR
          generalize rol 1 cv' = rv at *
          obtain ⟨d, hd⟩ : ∃ d, d = cu' ^^^ rv := ⟨_, rfl⟩
          have xd : bits .xor .u64 (cu' : Int) (rv : Int) = (d : Int) := by rw [hd]; exact u64_xor_nat cu' rv lcu lro
          have ld : d < M64 := by rw [hd]; exact lt64_xor lcu lro
          rw [← hd] at hD
          replace hu := hide hu; replace hv := hide hv; replace hd := hide hd
          replace hD := hide hD; replace ld := hide ld
          clear lcu lcv lro
          go_wp2
          go_quiet ((first | (go_at_call 40; exact Calls.quiet_of ((unhide CR) _))))
          go_wp2
          clear cu cv XU XV
          go_loopw [62] (fun ti wz => ∃ y : Nat, y ≤ 5 ∧ ti = .int .i64 (y : Int) ∧ Hid (LnAt wz g 34 (thP a (5 * x + y))) ∧ Hid (LnAt wz w.heap.size 32 (cL a 5)) ∧ Hid (w.grownBy wz (some g))) (fun ti _ => 5 - (intOf ti).toNat)
          case atStart => exact ⟨0, by omega, rfl, hide ((unhide HA).drewN _), hide ((unhide HC).drewN _), hide (grown_drew (unhide HG) _)⟩
          case round =>
            clear HA HC HG
            obtain ⟨y, hy, rfl, HA, HC, HG⟩ := hrel
            by_cases hly : y < 5
            · have ly : (y : Int) < 5 := by omega
              obtain ⟨o, ho⟩ : ∃ o, o = 5 * y := ⟨_, rfl⟩
              obtain ⟨p, hp⟩ : ∃ p, p = 5 * y + x := ⟨_, rfl⟩
              have I1 := idxY g y o ly ho
              have I2 := idxX g o x p lx (by omega)
              have hA := unhide HA
              have c0 := hA.cell p (by rw [thP_len]; omega)
              have f0 := hA.frozen p
              rw [hp, thP_at a x y hlx hly, ← hp] at c0
              have HS := thP_set a x y hlx hly
              rw [← hp, unhide hD] at HS
              have lp := ha.ln p
              generalize ln a p = q at *
              have xq : bits .xor .u64 (q : Int) (d : Int) = ((q ^^^ d : Nat) : Int) := u64_xor_nat q d lp (unhide ld)
              have HA3 : Hid (∀ n, LnAt ((wr.drewN n).setCell ⟨g, p, none⟩ (.int .u64 ((q ^^^ d : Nat) : Int))) g 34 (thP a (5 * x + (y + 1)))) := hide (fun n => by
                have := (hA.drewN n).set p (q ^^^ d)
                rwa [HS] at this)
              have HC3 : Hid (∀ n, LnAt ((wr.drewN n).setCell ⟨g, p, none⟩ (.int .u64 ((q ^^^ d : Nat) : Int))) w.heap.size 32 (cL a 5)) := hide (fun n => ((unhide HC).drewN n).set_other (Ne.symm (unhide hne)) _)
              obtain ⟨z, hz⟩ : ∃ z, z = q ^^^ d := ⟨_, rfl⟩
              rw [← hz] at xq HA3 HC3
              replace hz := hide hz; replace ho := hide ho; replace hp := hide hp
              clear hA HA HC HS lp
              go_wp2
              go_region
              all_goals go_wp2
              all_goals go_roundw
              all_goals first | exact ⟨y + 1, by omega, by go_num, hide ((unhide HA3) 1), hide ((unhide HC3) 1), hide (grown_cell (grown_drew (unhide HG) 1) _)⟩ | (simp [intOf]; omega)
            · have hy5 : y = 5 := by omega
              have nk : ¬ (y : Int) < 5 := by omega
              have HA5 := hide (show LnAt wr g 34 (thP a (5 * (x + 1) + 0)) by rw [show 5 * (x + 1) + 0 = 5 * x + y by omega]; exact unhide HA)
              replace hy5 := hide hy5
              clear HA
              go_wp2
              go_roundw
              all_goals first | exact ⟨x + 1, by omega, by go_num, HA5, HC, HG⟩ | (simp [intOf]; omega)
        · have hx5 : x = 5 := by omega
          have nk : ¬ (x : Int) < 5 := by omega
          have HA5 := hide (show LnAt wr g 34 (thetaL a) by rw [← thP_end, show 25 = 5 * x + 0 by omega]; exact unhide HA)
          replace hx5 := hide hx5
          clear HA
          go_wp2
          go_end0
          exact ⟨rfl, unhide HA5, unhide HG⟩
end Go.Proofs.YtkidgllmhdfgaanDoor
