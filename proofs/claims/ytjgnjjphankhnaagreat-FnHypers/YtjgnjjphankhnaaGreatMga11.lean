/- Merged: HyI1, HyI3, Sig1, Sig2, Sig3, Sig4, LawSig, DrawT, DrawN, DrawH, DrawY, DrawV, DrawG, Pik9. -/
import Derived.Test.YtjgnjjphankhnaaGreatMga1
import Derived.Test.YtjgnjjphankhnaaGreatMga2
import Derived.Test.YtjgnjjphankhnaaGreatMga3
import Derived.Test.YtjgnjjphankhnaaGreatMga4
import Derived.Test.YtjgnjjphankhnaaGreatMga5
import Derived.Test.YtjgnjjphankhnaaGreatMga6
import Derived.Test.YtjgnjjphankhnaaGreatMga7
import Derived.Test.YtjgnjjphankhnaaGreatMga8
import Derived.Test.YtjgnjjphankhnaaGreatMga9
import Derived.Test.YtjgnjjphankhnaaGreatMga10
import Derived.Laws.EntriesVeiled
import Derived.LoopN
import Derived.Deep.DeepCutAuto
import Derived.Deep.RegionHeld3
import Derived.BigQuiet
/- Trees of trees by the project's own functions: the keys of an index, and public texts, over the loaded program. -/
namespace Go.Proofs.YtjgnjjphankhnaaGreat
open Go.RowKit
theorem results_arrC {P : Program} {fn : Func} {p : Tmp} {ty : TypeId} (h : fn.results = #[.cell p ty]) (tmps : Array Value) (w : World) (g : Nat) (T : TypeId) (cs : Array Value) (n : Nat) (e : TypeId)
    (hp : tmps.getD p undef = .pointer (some ⟨g, 0, none⟩)) (hA : CB w g T cs) (hu : P.underlying ty = some (.array n e)) (hi : (P.info? ty).map (·.size) = some cs.size) :
    (results fn tmps).run P w = .ok (.agg cs) w :=
  results_cell_row h tmps w g T _ (0, 0) _ hp hA hu rfl hi
theorem topB_size (s : ByteArray) : (topB s).size = s.size + 1 := by unfold topB; rw [ByteArray.size_append]; rfl
theorem lowB_size (s : ByteArray) (p : Int) : (lowB s p).size = s.size + 2 := by unfold lowB; rw [ByteArray.size_append, ByteArray.size_append, oneY_size]; rfl
set_option maxRecDepth 20000 in
set_option maxHeartbeats 400000 in
theorem topKey_any (s : ByteArray) (i : Int) (hi : 0 ≤ i ∧ i ≤ 15) (hs : s.size ≤ 1048576) (w : World) :
    Calls Tryz.prog 66 #[.string s, .int .i64 i] w fun e w' => e = .returned (.agg #[.string (topB s), .int .i64 (i / 4)]) ∧ Below w.heap.size w w' := by
  obtain ⟨q, hq⟩ : ∃ q : Int, q = i / 4 := ⟨_, rfl⟩
  have t1 : i.tdiv 4 = q := by rw [Int.tdiv_eq_ediv_of_nonneg hi.1]; omega
  have t1' : i / 4 = q := hq.symm
  have t3 : IntKind.i64.wrap q = q := by rw [IntKind.wrap_i64]; omega
  have h1 : ¬ 9223372036854775807 < s.size + 1 := by omega
  have h2 : s.size + 1 ≤ 9223372036854775807 := by omega
  have HE := hide (show s ++ ⟨#[116]⟩ = topB s from rfl)
  rw [t1', ← unhide HE]
  clear hq HE hi
  go_enter Tryz.func66, Tryz.ntmps66
  go_wp2
  obtain ⟨W, hW, hR, hB, hs1⟩ := one_cb w #[.string (s ++ ⟨#[116]⟩), .int .i64 q] 58
  rw [hW]
  exact bodyPost_ret (results_cb (by exact Tryz.results66) _ _ _ _ _ _ rfl hR Tryz.underlying58 (by kernel_rfl)) rfl ⟨rfl, hB⟩
set_option maxRecDepth 20000 in
set_option maxHeartbeats 400000 in
theorem lowKey_any (s : ByteArray) (i : Int) (hi : 0 ≤ i ∧ i ≤ 15) (hs : s.size ≤ 1048576) (w : World) :
    Calls Tryz.prog 67 #[.string s, .int .i64 i] w fun e w' => e = .returned (.agg #[.string (lowB s (i / 4)), .int .i64 (i % 4)]) ∧ Below w.heap.size w w' := by
  obtain ⟨q, hq⟩ : ∃ q : Int, q = i / 4 := ⟨_, rfl⟩
  obtain ⟨r, hr⟩ : ∃ r : Int, r = i % 4 := ⟨_, rfl⟩
  have t1 : i.tdiv 4 = q := by rw [Int.tdiv_eq_ediv_of_nonneg hi.1]; omega
  have t1' : i / 4 = q := hq.symm
  have t2 : i.tmod 4 = r := by rw [Int.tmod_eq_emod_of_nonneg hi.1]; omega
  have t2' : i % 4 = r := hr.symm
  have t3 : IntKind.i64.wrap q = q := by rw [IntKind.wrap_i64]; omega
  have t4 : IntKind.i64.wrap r = r := by rw [IntKind.wrap_i64]; omega
  have CB0 := hide (fun W => implByteY_any q W)
  have za := oneY_size q
  have HE := hide (show s ++ oneY q ++ ⟨#[108]⟩ = lowB s q from rfl)
  rw [t1', t2', ← unhide HE]
  generalize oneY q = y at *
  have h1 : ¬ 9223372036854775807 < s.size + y.size := by omega
  have h2 : ¬ 9223372036854775807 < (s ++ y).size + 1 := by rw [ByteArray.size_append]; omega
  have h3 : (s ++ y).size + 1 ≤ 9223372036854775807 := by rw [ByteArray.size_append]; omega
  have h4 : s.size + y.size ≤ 9223372036854775807 := by omega
  have h5 : (s ++ y).size = s.size + y.size := ByteArray.size_append
  replace za := hide za
  clear hq hr HE hi
  go_enter Tryz.func67, Tryz.ntmps67
  go_wp2_with fail
  obtain ⟨W, hW, hR, hB, hs1⟩ := one_cb w #[.string ⟨#[]⟩, .int .i64 0] 58
  rw [hW]
  clear hW
  refine (unhide CB0 W).mono ?_
  rintro e w1 ⟨rfl, hb1⟩
  have hB1 := hB.trans (hb1.mono hB.size)
  have hR1 := hR.step hb1
  clear CB0 hb1 hR hB
  have r0 := hR1.cell 0 (v := .string ⟨#[]⟩) rfl
  have r1 := hR1.cell 1 (v := .int .i64 0) rfl
  have g0 := hR1.frozen 0
  have g1 := hR1.frozen 1
  go_wp2
  have hF := hide ((hR1.set 0 (.string (s ++ y ++ ⟨#[108]⟩))).set 1 (.int .i64 r))
  have hBF := hide ((hB1.setCell (p := ⟨w.heap.size, 0, none⟩) (Nat.le_refl _) (.string (s ++ y ++ ⟨#[108]⟩))).setCell (p := ⟨w.heap.size, 1, none⟩) (Nat.le_refl _) (.int .i64 r))
  exact bodyPost_ret (results_cb (by exact Tryz.results67) _ _ _ _ _ _ rfl (unhide hF) Tryz.underlying58 (by kernel_rfl)) rfl ⟨rfl, unhide hBF⟩
theorem idx17a (f g : Nat) (W : World) : (Instr.index 98 (.agg #[.func (.func f) #[] #[], .func (.func g) #[] #[]]) (.int .i64 0)).run Tryz.prog W = .ok (.func (.func f) #[] #[]) W := by kernel_rfl
theorem idx17b (f g : Nat) (W : World) : (Instr.index 98 (.agg #[.func (.func f) #[] #[], .func (.func g) #[] #[]]) (.int .i64 1)).run Tryz.prog W = .ok (.func (.func g) #[] #[]) W := by kernel_rfl
set_option maxRecDepth 20000 in
set_option maxHeartbeats 1600000 in
theorem keysAt_any (s : ByteArray) (i : Int) (hi : 0 ≤ i ∧ i ≤ 15) (hs : s.size ≤ 1048576) (w : World) :
    Calls Tryz.prog 43 #[.string s, .int .i64 i] w fun e w' => e = .returned (.agg #[.string (topB s), .int .i64 (i / 4), .string (lowB s (i / 4)), .int .i64 (i % 4)]) ∧ Below w.heap.size w w' := by
  have C1 := hide (fun W => topKey_any s i hi hs W)
  have C2 := hide (fun W => lowKey_any s i hi hs W)
  generalize topB s = tb at *
  generalize lowB s (i / 4) = lb at *
  generalize i / 4 = q at *
  generalize i % 4 = r at *
  have X1 := idx17a 66 67
  have X2 := idx17b 66 67
  clear hi
  go_enter Tryz.func43, Tryz.ntmps43
  go_wp2_with fail
  obtain ⟨W, hW, hA, hN, hK, hB, hs1⟩ := three_cb w #[.string ⟨#[]⟩, .int .i64 0, .string ⟨#[]⟩, .int .i64 0] #[.func (.func 66) #[] #[], .func (.func 67) #[] #[]] #[.string ⟨#[]⟩, .int .i64 0, .string ⟨#[]⟩, .int .i64 0] 66 98 66
  rw [hW]
  clear hW
  refine wp_loop_rounds 3 ?_
  rw [rounds_succ]
  go_wp2_with fail
  refine (unhide C1 W).mono ?_
  rintro e w1 ⟨rfl, hb1⟩
  have hB1 := hB.trans (hb1.mono hB.size)
  have hA1 := hA.step hb1
  have hK1 := hK.step hb1
  have r0 := hK1.cell 0 (v := .string ⟨#[]⟩) rfl
  have r1 := hK1.cell 1 (v := .int .i64 0) rfl
  have g0 := hK1.frozen 0
  have g1 := hK1.frozen 1
  clear hb1 hA hK hB hN C1
  go_wp2_with fail
  have hK2 : CB _ _ _ #[.string tb, .int .i64 q, .string ⟨#[]⟩, .int .i64 0] := (hK1.set 0 (.string tb)).set 1 (.int .i64 q)
  have hA2 := (hA1.set_other (h := w.heap.size + 1 + 1) (k := 0) (by omega) (.string tb)).set_other (h := w.heap.size + 1 + 1) (k := 1) (by omega) (.int .i64 q)
  have hB2 := (hB1.setCell (p := ⟨w.heap.size + 1 + 1, 0, none⟩) (by show w.heap.size ≤ w.heap.size + 1 + 1; omega) (.string tb)).setCell (p := ⟨w.heap.size + 1 + 1, 1, none⟩) (by show w.heap.size ≤ w.heap.size + 1 + 1; omega) (.int .i64 q)
  generalize (w1.setCell ⟨w.heap.size + 1 + 1, 0, none⟩ (.string tb)).setCell ⟨w.heap.size + 1 + 1, 1, none⟩ (.int .i64 q) = W2 at *
  clear hK1 hA1 hB1 r0 r1 g0 g1
  rw [rounds_succ]
  go_wp2_with fail
  refine (unhide C2 W2).mono ?_
  rintro e w3 ⟨rfl, hb3⟩
  have hB3 := hB2.trans (hb3.mono hB2.size)
  have hA3 := hA2.step hb3
  have hK3 := hK2.step hb3
  have r2 := hK3.cell 2 (v := .string ⟨#[]⟩) rfl
  have r3 := hK3.cell 3 (v := .int .i64 0) rfl
  have g2 := hK3.frozen 2
  have g3 := hK3.frozen 3
  clear hb3 hA2 hK2 hB2 C2
  go_wp2_with fail
  have hK4 : CB _ _ _ #[.string tb, .int .i64 q, .string lb, .int .i64 r] := (hK3.set 2 (.string lb)).set 3 (.int .i64 r)
  have hA4 := (hA3.set_other (h := w.heap.size + 1 + 1) (k := 2) (by omega) (.string lb)).set_other (h := w.heap.size + 1 + 1) (k := 3) (by omega) (.int .i64 r)
  have hB4 := (hB3.setCell (p := ⟨w.heap.size + 1 + 1, 2, none⟩) (by show w.heap.size ≤ w.heap.size + 1 + 1; omega) (.string lb)).setCell (p := ⟨w.heap.size + 1 + 1, 3, none⟩) (by show w.heap.size ≤ w.heap.size + 1 + 1; omega) (.int .i64 r)
  generalize (w3.setCell ⟨w.heap.size + 1 + 1, 2, none⟩ (.string lb)).setCell ⟨w.heap.size + 1 + 1, 3, none⟩ (.int .i64 r) = W4 at *
  clear hK3 hA3 hB3 r2 r3 g2 g3
  have x0 := hK4.cell 0 (v := .string tb) rfl
  have x1 := hK4.cell 1 (v := .int .i64 q) rfl
  have x2 := hK4.cell 2 (v := .string lb) rfl
  have x3 := hK4.cell 3 (v := .int .i64 r) rfl
  have r0 := hA4.cell 0 (v := .string ⟨#[]⟩) rfl
  have r1 := hA4.cell 1 (v := .int .i64 0) rfl
  have r2 := hA4.cell 2 (v := .string ⟨#[]⟩) rfl
  have r3 := hA4.cell 3 (v := .int .i64 0) rfl
  have g0 := hA4.frozen 0
  have g1 := hA4.frozen 1
  have g2 := hA4.frozen 2
  have g3 := hA4.frozen 3
  rw [rounds_succ]
  go_wp2
  have hF := hide ((((hA4.set 0 (.string tb)).set 1 (.int .i64 q)).set 2 (.string lb)).set 3 (.int .i64 r))
  have hBF := hide ((((hB4.setCell (p := ⟨w.heap.size, 0, none⟩) (Nat.le_refl _) (.string tb)).setCell (p := ⟨w.heap.size, 1, none⟩) (Nat.le_refl _) (.int .i64 q)).setCell (p := ⟨w.heap.size, 2, none⟩) (Nat.le_refl _) (.string lb)).setCell (p := ⟨w.heap.size, 3, none⟩) (Nat.le_refl _) (.int .i64 r))
  exact bodyPost_ret (results_arrC (by exact Tryz.results43) _ _ _ _ _ _ _ rfl (unhide hF) Tryz.underlying66 (by kernel_rfl)) rfl ⟨rfl, unhide hBF⟩
end Go.Proofs.YtjgnjjphankhnaaGreat

/- Trees of trees by the project's own functions: public texts and signatures, over the loaded program. -/
namespace Go.Proofs.YtjgnjjphankhnaaGreat
open Go.RowKit
theorem CB.apart {w : World} {g h : Nat} {T U : TypeId} {cs ds : Array Value} (hA : CB w g T cs) (hB : CB w h U ds) (hne : T ≠ U) : g ≠ h := fun e => by
  subst e
  unfold CB at hA hB
  rw [hA] at hB
  injection hB with hB
  injection hB with h1 h2
  exact hne h2
theorem idx17c (a b : ByteArray) (q r : Int) (W : World) : (Instr.index 66 (.agg #[.string a, .int .i64 q, .string b, .int .i64 r]) (.int .i64 0)).run Tryz.prog W = .ok (.agg #[.string a, .int .i64 q]) W := by kernel_rfl
theorem fld17 (a : ByteArray) (q : Int) (W : World) : (Instr.field 58 (.agg #[.string a, .int .i64 q]) 0).run Tryz.prog W = .ok (.string a) W := by kernel_rfl
set_option maxRecDepth 20000 in
set_option maxHeartbeats 400000 in
theorem implHyperPublic_any (s : ByteArray) (hs : s.size ≤ 1048576) (w : World) :
    Calls Tryz.prog 17 #[.string s] w fun e w' => e = .returned (.string (hpubO s)) ∧ Below w.heap.size w w' := by
  have C1 := hide (fun W => keysAt_any s 0 (by omega) hs W)
  have C2 := hide (fun W => public_any (topB s) (by rw [topB_size]; omega) W)
  have HP := hide (show pubO (topB s) = hpubO s from rfl)
  rw [unhide HP] at C2
  generalize hpubO s = p at *
  generalize topB s = tb at *
  generalize lowB s (0 / 4) = lb at *
  generalize (0 : Int) / 4 = q at *
  generalize (0 : Int) % 4 = r at *
  have X1 := idx17c tb lb q r
  have X2 := fld17 tb q
  clear HP
  go_enter Tryz.func17, Tryz.ntmps17
  go_wp2_with fail
  refine (unhide C1 w).mono ?_
  rintro e w1 ⟨rfl, hb1⟩
  clear C1
  go_wp2_with fail
  refine (unhide C2 w1).mono ?_
  rintro e w2 ⟨rfl, hb2⟩
  have hB2 := hb1.trans (hb2.mono hb1.size)
  clear C2 hb1 hb2
  go_wp2
  go_ret
  exact ⟨rfl, hB2⟩
set_option maxRecDepth 20000 in
set_option maxHeartbeats 1600000 in
theorem implHyperSign_any (s : ByteArray) (i : Int) (m : ByteArray) (hs : s.size ≤ 1048576) (hm : m.size ≤ 1048576) (w : World) :
    Calls Tryz.prog 18 #[.string s, .int .i64 i, .string m] w fun e w' => (∃ v, e = .returned (.tuple #[v, .bool (decide (0 ≤ i ∧ i ≤ 15))]) ∧ OwnHy w' w.heap.size v (hsgnS s i m)) ∧ Below w.heap.size w w' := by
  by_cases h : 0 ≤ i ∧ i ≤ 15
  · have C1 := hide (fun W => keysAt_any s i h hs W)
    obtain ⟨q, hq⟩ : ∃ q : Int, q = i / 4 := ⟨_, rfl⟩
    obtain ⟨r, hr⟩ : ∃ r : Int, r = i % 4 := ⟨_, rfl⟩
    rw [← hq, ← hr] at C1
    have hq3 : 0 ≤ q ∧ q ≤ 3 := by omega
    have hr3 : 0 ≤ r ∧ r ≤ 3 := by omega
    have hlz : (lowB s q).size ≤ 2000000 := by rw [lowB_size]; omega
    have htz : (topB s).size ≤ 2000000 := by rw [topB_size]; omega
    have hrz : (pubO (lowB s q)).size ≤ 1048576 := by rw [pubO_four]; omega
    have C2 := hide (fun W => public_any (lowB s q) hlz W)
    have C3 := hide (fun W => sign_any (topB s) q (pubO (lowB s q)) htz hrz W)
    have C4 := hide (fun W => sign_any (lowB s q) r m hlz hm W)
    have E3 := hide (show sgnS (topB s) q (pubO (lowB s q)) = ⟨q, onceS (keysO (topB s) q) q (pubO (lowB s q)), pathL (lvsO (topB s)) q⟩ by unfold sgnS; rw [if_pos hq3])
    have E4 := hide (show sgnS (lowB s q) r m = ⟨r, onceS (keysO (lowB s q) r) r m, pathL (lvsO (lowB s q)) r⟩ by unfold sgnS; rw [if_pos hr3])
    rw [← unhide E3] at C3
    rw [← unhide E4] at C4
    have ES := hide (show hsgnS s i m = ⟨sgnS (topB s) q (pubO (lowB s q)), pubO (lowB s q), sgnS (lowB s q) r m⟩ by rw [hsgn_is h, hq, hr])
    rw [unhide ES, decide_eq_true h]
    generalize sgnS (topB s) q (pubO (lowB s q)) = ST at *
    generalize sgnS (lowB s q) r m = SL at *
    generalize pubO (lowB s q) = ro at *
    generalize lowB s q = lo at *
    generalize topB s = tb at *
    have i1 : ¬ i < 0 := by omega
    have i2 : ¬ 16 ≤ i := by omega
    have i3 : i < 16 := by omega
    replace hq := hide hq; replace hr := hide hr
    clear ES E3 E4 h hq3 hr3 hlz htz hrz
    go_enter Tryz.func18, Tryz.ntmps18
    go_wp2_with fail
    obtain ⟨W, hW, hR, hB, hs1⟩ := one_cb w #[.int .i64 0, .slice none 0 0, .slice none 0 0, .string ⟨#[]⟩, .int .i64 0, .slice none 0 0, .slice none 0 0] 41
    rw [hW]
    clear hW
    refine (unhide C1 W).mono ?_
    rintro e w1 ⟨rfl, hb1⟩
    have T1 := hB.trans (hb1.mono hB.size)
    have hR1 := hR.step hb1
    clear hb1 hB hR C1 hs1
    go_wp2_with fail
    obtain ⟨W1, hW, hY, hB1, hs1⟩ := one_cb w1 #[.string tb, .int .i64 q, .string lo, .int .i64 r] 66
    rw [hW]
    clear hW
    have T2 := T1.trans (hB1.mono T1.size)
    have hR2 := hR1.step hB1
    have y0 := hY.cell 0 (v := .string tb) rfl
    have y1 := hY.cell 1 (v := .int .i64 q) rfl
    have y2 := hY.cell 2 (v := .string lo) rfl
    have y3 := hY.cell 3 (v := .int .i64 r) rfl
    clear T1 hR1 hB1
    go_cut [9, 10] (fun t9 t10 wx => ∃ g9 g10 : Nat, t9 = .pointer (some ⟨g9, 0, none⟩) ∧ t10 = .pointer (some ⟨g10, 0, none⟩) ∧ Hid (CB wx g9 58 #[.string tb, .int .i64 q] ∧ CB wx g10 58 #[.string lo, .int .i64 r] ∧ CB wx w.heap.size 41 #[.int .i64 0, .slice none 0 0, .slice none 0 0, .string ⟨#[]⟩, .int .i64 0, .slice none 0 0, .slice none 0 0] ∧ Below w.heap.size w wx))
    case first =>
      have hne := hR2
      go_region
      · obtain ⟨V, hV, k1, k2, k3, k4⟩ := two_cb W1 #[.string tb, .int .i64 q] #[.string lo, .int .i64 r] 58 58
        rw [hV]
        go_wp2_with fail
        go_meet
        case rel => exact ⟨_, _, rfl, rfl, hide ⟨k1, k2, hne.step k3.drew, (T2.trans (k3.mono T2.size)).drew⟩⟩
      · obtain ⟨V, hV, k1, k2, k3, k4⟩ := two_cb W1 #[.string lo, .int .i64 r] #[.string tb, .int .i64 q] 58 58
        rw [hV]
        go_wp2_with fail
        go_meet
        case rel => exact ⟨_, _, rfl, rfl, hide ⟨k2, k1, hne.step k3.drew, (T2.trans (k3.mono T2.size)).drew⟩⟩
    case rest =>
      obtain ⟨g9, g10, rfl, rfl, HC⟩ := hcut
      obtain ⟨hT, hL, hR3, T3⟩ := unhide HC
      have l0 := hL.cell 0 (v := .string lo) rfl
      have l1 := hL.cell 1 (v := .int .i64 r) rfl
      clear HC hY y0 y1 y2 y3 hR2 T2 hs1
      go_wp2_with fail
      refine (unhide C2 wc).mono ?_
      rintro e w4 ⟨rfl, hb4⟩
      have T4 := T3.trans (hb4.mono T3.size)
      have hR4 := hR3.step hb4
      have hT4 := hT.step hb4
      have hL4 := hL.step hb4
      have n9 := CB.apart hR4 hT4 (by decide)
      have n10 := CB.apart hR4 hL4 (by decide)
      clear hb4 hR3 hT hL T3 C2 l0 l1
      go_wp2_with fail
      have KS := hide (fun (W' : World) (h : Below w4.heap.size w4 W') => (show CB W' g9 58 #[.string tb, .int .i64 q] ∧ CB W' g10 58 #[.string lo, .int .i64 r] from ⟨hT4.step h, hL4.step h⟩))
      have HR := hide (fun (W' : World) (h : Below w4.heap.size w4 W') => hR4.step h)
      have HT0 := (Below.refl w4.heap.size w4).drew
      have hw4 : w.heap.size ≤ w4.heap.size := T4.size
      clear hT4 hL4 hR4
      refine wp_region_held_drew (S := fun W => CB W g9 58 #[.string tb, .int .i64 q] ∧ CB W g10 58 #[.string lo, .int .i64 r]) (by kernel_rfl) (unhide KS _ HT0) (fun hHeld => ?_)
      refine wpAnyH_take (i := 0) (v := .agg #[.string tb, .int .i64 q]) rfl (by kernel_rfl) (by kernel_rfl) (by kernel_rfl) (fun _ _ _ h => h) (Or.inl ⟨by kernel_rfl, fun W hS => by obtain ⟨s4, s10⟩ := hS; have p0 := s4.cell 0 (v := (.string tb)) rfl; have p1 := s4.cell 1 (v := (.int .i64 q)) rfl; go_simp⟩) hHeld ?_
      refine wpAnyH_take (i := 1) (v := .string ro) rfl (by kernel_rfl) (by kernel_rfl) (by kernel_rfl) (fun _ _ _ h => h) (Or.inl ⟨by kernel_rfl, fun W hS => by obtain ⟨s4, s10⟩ := hS; go_simp⟩) hHeld ?_
      refine wpAnyH_take (i := 3) (v := .string ro) rfl (by kernel_rfl) (by kernel_rfl) (by kernel_rfl) (fun _ _ _ h => h) (Or.inl ⟨by kernel_rfl, fun W hS => by obtain ⟨s4, s10⟩ := hS; go_simp⟩) hHeld ?_
      refine wpAnyH_take (i := 4) (v := .agg #[.string lo, .int .i64 r]) rfl (by kernel_rfl) (by kernel_rfl) (by kernel_rfl) (fun _ _ _ h => h) (Or.inl ⟨by kernel_rfl, fun W hS => by obtain ⟨s4, s10⟩ := hS; have p0 := s10.cell 0 (v := (.string lo)) rfl; have p1 := s10.cell 1 (v := (.int .i64 r)) rfl; go_simp⟩) hHeld ?_
      refine wpAnyH_take (i := 5) (v := .string m) rfl (by kernel_rfl) (by kernel_rfl) (by kernel_rfl) (fun _ _ _ h => h) (Or.inl ⟨by kernel_rfl, fun W hS => by obtain ⟨s4, s10⟩ := hS; go_simp⟩) hHeld ?_
      refine wpAnyH_ready (rs := [2]) (by kernel_rfl) (by simp) ?_
      refine AllReadyH.cons rfl (fun K hK => ?_) AllReadyH.nil
      go_simp
      refine (unhide C3 _).mono ?_
      rintro e w6 ⟨⟨v1, rfl, o1⟩, hb6⟩
      obtain ⟨a1, n1, c1, a2, n2, c2, rfl⟩ := o1.open
      have hT1 := HT0.trans (hb6.mono HT0.size)
      replace o1 := hide o1
      refine hK.out _ _ (unhide KS _ hT1) (fun hHeld => ?_)
      clear hK K C3
      refine wpAnyH_ready (rs := [6]) (by kernel_rfl) (by simp) ?_
      refine AllReadyH.cons rfl (fun K hK => ?_) AllReadyH.nil
      go_simp
      refine (unhide C4 _).mono ?_
      rintro e w7 ⟨⟨v2, rfl, o2⟩, hb7⟩
      obtain ⟨a3, n3, c3, a4, n4, c4, rfl⟩ := o2.open
      have hT2 := hT1.trans (hb7.mono hT1.size)
      replace o2 := hide o2
      have hR7 := unhide HR _ hT2
      refine hK.out _ _ (unhide KS _ hT2) (fun hHeld => ?_)
      clear hK K C4
      refine wpAnyH_take (i := 7) (v := .agg #[.int .i64 ST.leaf, .slice a1 n1 c1, .slice a2 n2 c2, .string ro, .int .i64 SL.leaf, .slice a3 n3 c3, .slice a4 n4 c4]) rfl (by kernel_rfl) (by kernel_rfl) (by kernel_rfl) (fun _ _ _ h => h) (Or.inl ⟨by kernel_rfl, fun W hS => by obtain ⟨s4, s10⟩ := hS; go_simp⟩) hHeld ?_
      have r0 := hR7.cell 0 (v := (.int .i64 0)) rfl
      have r1 := hR7.cell 1 (v := (.slice none 0 0)) rfl
      have r2 := hR7.cell 2 (v := (.slice none 0 0)) rfl
      have r3 := hR7.cell 3 (v := (.string ⟨#[]⟩)) rfl
      have r4 := hR7.cell 4 (v := (.int .i64 0)) rfl
      have r5 := hR7.cell 5 (v := (.slice none 0 0)) rfl
      have r6 := hR7.cell 6 (v := (.slice none 0 0)) rfl
      have z0 := hR7.frozen 0
      have z1 := hR7.frozen 1
      have z2 := hR7.frozen 2
      have z3 := hR7.frozen 3
      have z4 := hR7.frozen 4
      have z5 := hR7.frozen 5
      have z6 := hR7.frozen 6
      have G9 := gSet (gSet (gSet (gSet (gSet (gSet (gSet (gR9 w7 (some w.heap.size)) 0 (.int .i64 ST.leaf)) 1 (.slice a1 n1 c1)) 2 (.slice a2 n2 c2)) 3 (.string ro)) 4 (.int .i64 SL.leaf)) 5 (.slice a3 n3 c3)) 6 (.slice a4 n4 c4)
      refine wpAnyH_ready (rs := [8]) (by kernel_rfl) (by simp) ?_
      refine AllReadyH.cons rfl (fun K hK => ?_) AllReadyH.nil
      go_simp
      refine hK.out _ _ ⟨(unhide KS _ hT2).1.grown G9 (fun e => n9 (Option.some.inj e)), (unhide KS _ hT2).2.grown G9 (fun e => n10 (Option.some.inj e))⟩ (fun hHeld => ?_)
      clear hK K r0 r1 r2 r3 r4 r5 r6 z0 z1 z2 z3 z4 z5 z6
      refine wpAnyH_take (i := 9) (v := .bool true) rfl (by kernel_rfl) (by kernel_rfl) (by kernel_rfl) (fun _ _ _ h => h) (Or.inl ⟨by kernel_rfl, fun W hS => by obtain ⟨s4, s10⟩ := hS; go_simp⟩) hHeld ?_
      refine wpAnyH_done (by kernel_rfl) ?_ _
      simp only [Act.put, List.getElem_toArray, List.getElem_cons_zero, List.getElem_cons_succ, List.setIfInBounds_toArray, List.set_cons_zero, List.set_cons_succ]
      have hR8 := hR7
      have hs6 : w4.heap.size ≤ w6.heap.size := hT1.size
      have hF := hide ((((((((hR8).set 0 (.int .i64 ST.leaf)).set 1 (.slice a1 n1 c1)).set 2 (.slice a2 n2 c2)).set 3 (.string ro)).set 4 (.int .i64 SL.leaf)).set 5 (.slice a3 n3 c3)).set 6 (.slice a4 n4 c4))
      have T7 := T4.trans (hT2.mono hw4)
      have T9 := hide (T7.grown G9 T7.size (fun k hk => by cases hk; exact Nat.le_refl _))
      have ap := hide (show ∀ k, ((Value.slice a1 n1 c1).ownBlock = some k ∨ (Value.slice a2 n2 c2).ownBlock = some k) → (Value.slice a3 n3 c3).ownBlock ≠ some k ∧ (Value.slice a4 n4 c4).ownBlock ≠ some k from fun k hk => by
        have h1 := (OwnSg.bounds (lf := ST.leaf) (unhide o1) k hk).2
        exact ⟨fun e => by have h2 := (OwnSg.bounds (lf := SL.leaf) (unhide o2) k (.inl e)).1; omega, fun e => by have h2 := (OwnSg.bounds (lf := SL.leaf) (unhide o2) k (.inr e)).1; omega⟩)
      have p1 := hide (((unhide o1).below hb7).low (show w.heap.size ≤ w4.drew.heap.size from hw4))
      have p2 := hide ((unhide o2).low (show w.heap.size ≤ w6.heap.size from Nat.le_trans hw4 hs6))
      have of5 := hide (OwnSg.offs (lf := ST.leaf) (unhide p1) hR8 (by decide))
      have of6 := hide (OwnSg.offs (lf := SL.leaf) (unhide p2) hR8 (by decide))
      have o7 := hide (OwnSg.grownO (lf := ST.leaf) (unhide p1) G9 (unhide of5).1 (unhide of5).2)
      have o8 := hide (OwnSg.grownO (lf := SL.leaf) (unhide p2) G9 (unhide of6).1 (unhide of6).2)
      clear KS HR HT0 hT1 hT2 hb6 hb7 hR7 hR8 G9 T7 p1 p2 of5 of6 o1 o2 T4 hHeld
      go_wp2
      exact bodyPost_ret (results_cb_tmp (by exact Tryz.results18) _ _ _ _ _ _ rfl (unhide hF) Tryz.underlying41 (by kernel_rfl)) rfl ⟨⟨_, rfl, _, _, _, _, rfl, unhide o7, unhide o8, unhide ap⟩, unhide T9⟩
  · have ES := hide (show hsgnS s i m = ⟨noSg, ⟨#[]⟩, noSg⟩ by unfold hsgnS; rw [if_neg h])
    rw [unhide ES, decide_eq_false h]
    clear ES
    by_cases h0 : i < 0
    · clear h
      go_enter Tryz.func18, Tryz.ntmps18
      go_wp2
      obtain ⟨W, hW, hR, hB, hs1⟩ := one_cb w #[.int .i64 0, .slice none 0 0, .slice none 0 0, .string ⟨#[]⟩, .int .i64 0, .slice none 0 0, .slice none 0 0] 41
      rw [hW]
      exact bodyPost_ret (results_cb_tmp (by exact Tryz.results18) _ _ _ _ _ _ rfl hR Tryz.underlying41 (by kernel_rfl)) rfl ⟨⟨_, rfl, _, _, _, _, rfl, ⟨_, _, rfl, OwnV.nil _ _ _, OwnV.nil _ _ _, fun k hk => by cases hk⟩, ⟨_, _, rfl, OwnV.nil _ _ _, OwnV.nil _ _ _, fun k hk => by cases hk⟩, fun k hk => by rcases hk with hk | hk <;> cases hk⟩, hB⟩
    · have i2 : 16 ≤ i := by omega
      have i3 : ¬ i < 16 := by omega
      clear h
      go_enter Tryz.func18, Tryz.ntmps18
      go_wp2
      obtain ⟨W, hW, hR, hB, hs1⟩ := one_cb w #[.int .i64 0, .slice none 0 0, .slice none 0 0, .string ⟨#[]⟩, .int .i64 0, .slice none 0 0, .slice none 0 0] 41
      rw [hW]
      exact bodyPost_ret (results_cb_tmp (by exact Tryz.results18) _ _ _ _ _ _ rfl hR Tryz.underlying41 (by kernel_rfl)) rfl ⟨⟨_, rfl, _, _, _, _, rfl, ⟨_, _, rfl, OwnV.nil _ _ _, OwnV.nil _ _ _, fun k hk => by cases hk⟩, ⟨_, _, rfl, OwnV.nil _ _ _, OwnV.nil _ _ _, fun k hk => by cases hk⟩, fun k hk => by rcases hk with hk | hk <;> cases hk⟩, hB⟩
end Go.Proofs.YtjgnjjphankhnaaGreat

/- Keys of a tree by the given model: leaves, public texts, signatures, over the loaded program. -/
namespace Go.Proofs.YtjgnjjphankhnaaGreat
open Go.RowKit
set_option maxRecDepth 20000 in
set_option maxHeartbeats 800000 in
theorem specLeaves_any (s : ByteArray) (hs : s.size ≤ 2000000) (w : World) :
    Calls Tryz.prog 70 #[.string s] w fun e w' => (∃ v, e = .returned v ∧ OwnV w' w.heap.size 9 v ((lvsO s).map sv)) ∧ Below w.heap.size w w' := by
  obtain ⟨i0, hi, hz0, hz1, hz2⟩ := info_parts infoTxt
  have C1 := hide (fun (i : Nat) W => specOnceKeyL_any s (i : Int) hs W)
  have C2 := hide (fun (i : Nat) W v hr => specOncePublic_any (keysO s (i : Int)) (i : Int) v W hr (fun x hx => by rw [keysO_size s _ x hx]; omega))
  have HK := hide (show ∀ i : Nat, onceP (keysO s (i : Int)) (i : Int) = lefO s i from fun i => rfl)
  have EK := hide (show lvsO s = preS (lefO s) 4 from rfl)
  rw [unhide EK]
  generalize lefO s = F at *
  clear EK
  go_enter Tryz.func70, Tryz.ntmps70
  have ho0 : OwnV (w.alloc (.cells #[] 9)) w.heap.size 9 (.slice (some ⟨w.heap.size, 0, none⟩) 0 0) ((preS F 0).map sv) := World.ownsRow_made w #[] 0 (Nat.le_refl _) (by decide) (by simp)
  replace ho0 := hide ho0
  have hb0 := (Below.refl w.heap.size w).alloc (Nat.le_refl _) (.cells #[] 9)
  go_wp2
  go_loopw [3, 4] (fun tv ti wr => ∃ k : Nat, k ≤ 4 ∧ ti = .int .i64 (k : Int) ∧ Hid (OwnV wr w.heap.size 9 tv ((preS F k).map sv)) ∧ Below w.heap.size w wr) (fun _ ti _ => 4 - (intOf ti).toNat)
  case atStart => exact ⟨0, by omega, rfl, ho0, hb0⟩
  case round =>
    clear ho0 hb0
    obtain ⟨k, hk, rfl, HO, hB⟩ := hrel
    by_cases hlt : k < 4
    · have hk' : (k : Int) < 4 := by omega
      have c1 := hide (unhide C1 k)
      have c2 := hide (unhide C2 k)
      rw [unhide HK k] at c2
      have HP := hide (preS_succ F k)
      have hpl : ((preS F k).map sv).length ≤ 1000 := by rw [List.length_map, preS_len]; omega
      generalize F k = fk at *
      replace hpl := hide hpl
      clear C1 C2
      go_wp2_with fail
      refine (unhide c1 wr).mono ?_
      rintro e w1 ⟨⟨v1, rfl, o1⟩, hb1⟩
      have hB1 := hB.trans (hb1.mono hB.size)
      have HO1 := hide ((unhide HO).below hb1)
      replace c2 := hide (unhide c2 w1 v1 o1.rdv)
      clear hb1 hB c1 HO o1
      go_wp2_with fail
      refine (unhide c2).mono ?_
      rintro e w3 ⟨rfl, hb3⟩
      have hB3 := hB1.trans (hb3.mono hB1.size)
      have HO3 := hide ((unhide HO1).below hb3)
      have hsz3 := hB3.size
      clear hb3 hB1 c2 HO1
      go_wp2_with (at_builtin; refine wpList_append_val (w := w3) rfl (.tmp 10) (.tmp 16) 29 rfl w.heap.size 9 i0 (.string ⟨#[]⟩) 16 Tryz.underlying29 hi hz0 hz1 hz2 rfl u3 _ (by rfl) (unhide HO3) (.string fk) rfl (by rfl) (unhide hpl) (by decide) hB3 (Nat.le_refl _) hsz3 ?_; intro v' w8 ho8 hB8)
      have ho9 := hide (show OwnV w8 w.heap.size 9 v' ((preS F (k + 1)).map sv) by rw [unhide HP, List.map_append]; exact ho8)
      clear ho8 HO3 HP
      go_wp2
      exact ⟨⟨k + 1, by omega, by go_num, ho9, hB8⟩, by simp [intOf]; omega⟩
    · have hk' : ¬ (k : Int) < 4 := by omega
      obtain rfl : k = 4 := by omega
      go_wp2
      go_ret
      exact ⟨⟨_, rfl, unhide HO⟩, hB⟩
set_option maxRecDepth 20000 in
set_option maxHeartbeats 800000 in
theorem specPublicOf_any (s : ByteArray) (hs : s.size ≤ 2000000) (w : World) :
    Calls Tryz.prog 45 #[.string s] w fun e w' => e = .returned (.string (pubO s)) ∧ Below w.heap.size w w' := by
  have C1 := hide (fun W => specLeaves_any s hs W)
  have C2 := hide (fun W v hr => specRootOf_any (lvsO s) v W hr (fun x hx => by rw [lvsO_size s x hx]; omega))
  have HK := hide (show rootB (lvsO s) = pubO s from rfl)
  rw [unhide HK] at C2
  generalize pubO s = p at *
  go_enter Tryz.func45, Tryz.ntmps45
  go_wp2_with fail
  refine (unhide C1 w).mono ?_
  rintro e w1 ⟨⟨v1, rfl, o1⟩, hb1⟩
  replace C2 := hide (unhide C2 w1 v1 o1.rdv)
  clear C1 o1
  go_wp2_with fail
  refine (unhide C2).mono ?_
  rintro e w2 ⟨rfl, hb2⟩
  have hB2 := hb1.trans (hb2.mono hb1.size)
  clear C2 hb1 hb2
  go_wp2
  go_ret
  exact ⟨rfl, hB2⟩
end Go.Proofs.YtjgnjjphankhnaaGreat

/- Keys of a tree by the given model: whether a signature is right, over the loaded program. -/
namespace Go.Proofs.YtjgnjjphankhnaaGreat
open Go.RowKit
set_option maxRecDepth 20000 in
set_option maxHeartbeats 800000 in
theorem specSigOk_any (s : Sg) (v : Value) (w : World) (hr : RdSg w v s) (n1 : s.once.length ≤ 2000000) (n2 : s.path.length ≤ 2000000) :
    Calls Tryz.prog 40 #[v] w fun e w' => e = .returned (.bool (sgOk s)) ∧ Below w.heap.size w w' := by
  obtain ⟨lf, l1, l2⟩ := s
  obtain ⟨v1, v2, rfl, r1, r2, -⟩ := hr
  have C0 := hide (fun W => inb9 lf 0 3 W)
  obtain ⟨a1, c1, rfl, hc1⟩ := r1.open
  obtain ⟨a2, c2, rfl, hc2⟩ := r2.open
  clear r1 r2
  replace hc1 : ∀ k, k < l1.length → ∃ g o, a1 = some ⟨g, o, none⟩ ∧ g < w.heap.size ∧ w.cell? ⟨g, o + k, none⟩ = some (.string (bAt l1 k)) := fun k hk => hc1 k _ (bAt_get l1 k hk)
  replace hc2 : ∀ k, k < l2.length → ∃ g o, a2 = some ⟨g, o, none⟩ ∧ g < w.heap.size ∧ w.cell? ⟨g, o + k, none⟩ = some (.string (bAt l2 k)) := fun k hk => hc2 k _ (bAt_get l2 k hk)
  unfold sgv
  show Calls _ _ #[.agg #[.int .i64 lf, .slice a1 (l1.map sv).length c1, .slice a2 (l2.map sv).length c2]] _ _
  rw [List.length_map, List.length_map]
  by_cases h : 0 ≤ lf ∧ lf ≤ 3
  · rw [decide_eq_true h] at C0
    by_cases h1 : l1.length = 10
    · by_cases h2 : l2.length = 2
      · have E1 := hide (fun (h3 : ∀ k, k < 10 → (bAt l1 k).size = 4) (h4 : ∀ k, k < 2 → (bAt l2 k).size = 4) => show sgOk ⟨lf, l1, l2⟩ = true from sgOk_of ⟨h, h1, h2⟩ (four_bAt (l := l1) fun k hk => h3 k (by omega)) (four_bAt (l := l2) fun k hk => h4 k (by omega)))
        have E2 := hide (fun k (hk : k < 10) (hx : ¬ (bAt l1 k).size = 4) => show sgOk ⟨lf, l1, l2⟩ = false from sgOk_no2 (four_no (l := l1) k (by omega) hx))
        have E3 := hide (fun k (hk : k < 2) (hx : ¬ (bAt l2 k).size = 4) => show sgOk ⟨lf, l1, l2⟩ = false from sgOk_no3 (four_no (l := l2) k (by omega) hx))
        rw [h1] at hc1 ⊢
        rw [h2] at hc2 ⊢
        generalize sgOk ⟨lf, l1, l2⟩ = R at *
        generalize bAt l1 = F1 at *
        generalize bAt l2 = F2 at *
        clear h h1 h2 n1 n2
        go_enter Tryz.func40, Tryz.ntmps40
        go_wp2_with fail
        obtain ⟨W, hW, hP, hB, hs1⟩ := one_cb w #[.int .i64 lf, .slice a1 10 c1, .slice a2 2 c2] 31
        rw [hW]
        clear hW
        refine (unhide C0 W).mono ?_
        rintro e w1 ⟨rfl, hw1⟩
        have hw2 := hw1.symm
        subst hw2
        clear hw1 C0
        have p1 := hP.cell 1 (v := .slice a1 10 c1) rfl
        have p2 := hP.cell 2 (v := .slice a2 2 c2) rfl
        replace hP := hide hP
        go_wp2
        go_loopw [3] (fun ti wr => ∃ k : Nat, k ≤ 10 ∧ ti = .int .i64 (k : Int) ∧ Hid (∀ j, j < k → (F1 j).size = 4) ∧ wr = W) (fun ti _ => 10 - (intOf ti).toNat)
        case atStart => exact ⟨0, by omega, rfl, hide (fun j hj => absurd hj (by omega)), rfl⟩
        case round =>
          obtain ⟨k, hk, rfl, HK, hw⟩ := hrel
          have hw' := hw.symm
          subst hw'
          clear hw
          by_cases hlt : k < 10
          · have hk' : (k : Int) < 10 := by omega
            obtain ⟨g, o, rfl, hg, d1⟩ := hc1 k hlt
            replace d1 := (hB.cell (p := ⟨g, o + k, none⟩) hg).trans d1
            by_cases hx : (F1 k).size = 4
            · have HK2 := hide (show ∀ j, j < k + 1 → (F1 j).size = 4 from fun j hj => by
                by_cases e : j = k
                · rw [e]; exact hx
                · exact unhide HK j (by omega))
              generalize F1 k = told at d1 hx
              clear hc1 hc2 HK
              go_wp2
              exact ⟨⟨k + 1, by omega, by go_num, HK2, by first | rfl | trivial⟩, by simp [intOf]; omega⟩
            · have E := hide (unhide E2 k hlt hx)
              have hx' : ¬ ((F1 k).size : Int) = 4 := by omega
              generalize F1 k = told at d1 hx'
              clear hc1 hc2 HK E1 E2 E3 hx
              go_wp2
              go_ret
              exact ⟨by rw [unhide E]; rfl, hB⟩
          · have hk' : ¬ (k : Int) < 10 := by omega
            have HK2 := hide (show ∀ j, j < 10 → (F1 j).size = 4 from fun j hj => unhide HK j (by omega))
            clear hc1 HK
            go_wp2
            go_loopw [4] (fun ti wr => ∃ k : Nat, k ≤ 2 ∧ ti = .int .i64 (k : Int) ∧ Hid (∀ j, j < k → (F2 j).size = 4) ∧ wr = W) (fun ti _ => 2 - (intOf ti).toNat)
            case atStart => exact ⟨0, by omega, rfl, hide (fun j hj => absurd hj (by omega)), rfl⟩
            case round =>
              obtain ⟨k, hk, rfl, HK, hw⟩ := hrel
              have hw' := hw.symm
              subst hw'
              clear hw
              by_cases hlt2 : k < 2
              · have hk2 : (k : Int) < 2 := by omega
                obtain ⟨g, o, rfl, hg, d1⟩ := hc2 k hlt2
                replace d1 := (hB.cell (p := ⟨g, o + k, none⟩) hg).trans d1
                by_cases hx : (F2 k).size = 4
                · have HK3 := hide (show ∀ j, j < k + 1 → (F2 j).size = 4 from fun j hj => by
                    by_cases e : j = k
                    · rw [e]; exact hx
                    · exact unhide HK j (by omega))
                  generalize F2 k = told at d1 hx
                  clear hc2 HK
                  go_wp2
                  exact ⟨⟨k + 1, by omega, by go_num, HK3, by first | rfl | trivial⟩, by simp [intOf]; omega⟩
                · have E := hide (unhide E3 k hlt2 hx)
                  have hx' : ¬ ((F2 k).size : Int) = 4 := by omega
                  generalize F2 k = told at d1 hx'
                  clear hc2 HK E1 E2 E3 hx
                  go_wp2
                  go_ret
                  exact ⟨by rw [unhide E]; rfl, hB⟩
              · have hk2 : ¬ (k : Int) < 2 := by omega
                have E := hide (unhide E1 (unhide HK2) (fun j hj => unhide HK j (by omega)))
                clear hc2 HK HK2 E1 E2 E3
                go_wp2
                go_ret
                exact ⟨by rw [unhide E]; rfl, hB⟩
      · have E := hide (show sgOk ⟨lf, l1, l2⟩ = false from sgOk_no1 fun x => h2 x.2.2)
        rw [unhide E, h1]
        have h2' : ¬ (l2.length : Int) = 2 := by omega
        generalize l2.length = m2 at *
        clear E h hc1 hc2 h2
        go_enter Tryz.func40, Tryz.ntmps40
        go_wp2_with fail
        obtain ⟨W, hW, hP, hB, hs1⟩ := one_cb w #[.int .i64 lf, .slice a1 10 c1, .slice a2 m2 c2] 31
        rw [hW]
        clear hW
        refine (unhide C0 W).mono ?_
        rintro e w1 ⟨rfl, hw1⟩
        have hw2 := hw1.symm
        subst hw2
        clear hw1 C0
        have p1 := hP.cell 1 (v := .slice a1 10 c1) rfl
        have p2 := hP.cell 2 (v := .slice a2 m2 c2) rfl
        go_wp2
        go_ret
        exact ⟨rfl, hB⟩
    · have E := hide (show sgOk ⟨lf, l1, l2⟩ = false from sgOk_no1 fun x => h1 x.2.1)
      rw [unhide E]
      have h1' : ¬ (l1.length : Int) = 10 := by omega
      generalize l1.length = m1 at *
      generalize l2.length = m2 at *
      clear E h hc1 hc2 h1
      go_enter Tryz.func40, Tryz.ntmps40
      go_wp2_with fail
      obtain ⟨W, hW, hP, hB, hs1⟩ := one_cb w #[.int .i64 lf, .slice a1 m1 c1, .slice a2 m2 c2] 31
      rw [hW]
      clear hW
      refine (unhide C0 W).mono ?_
      rintro e w1 ⟨rfl, hw1⟩
      have hw2 := hw1.symm
      subst hw2
      clear hw1 C0
      have p1 := hP.cell 1 (v := .slice a1 m1 c1) rfl
      go_wp2
      go_ret
      exact ⟨rfl, hB⟩
  · have E := hide (show sgOk ⟨lf, l1, l2⟩ = false from sgOk_no1 fun x => h x.1)
    rw [unhide E]
    rw [decide_eq_false h] at C0
    generalize l1.length = m1 at *
    generalize l2.length = m2 at *
    clear E h hc1 hc2
    go_enter Tryz.func40, Tryz.ntmps40
    go_wp2_with fail
    obtain ⟨W, hW, hP, hB, hs1⟩ := one_cb w #[.int .i64 lf, .slice a1 m1 c1, .slice a2 m2 c2] 31
    rw [hW]
    clear hW
    refine (unhide C0 W).mono ?_
    rintro e w1 ⟨rfl, hw1⟩
    have hw2 := hw1.symm
    subst hw2
    clear hw1 C0
    go_wp2
    go_ret
    exact ⟨rfl, hB⟩
theorem same_txt (a b : ByteArray) : (a.toList == b.toList) = decide (a = b) := by
  have e : ∀ x : ByteArray, x.toList = x.data.toList := fun x => ByteArray.toList_eq x
  by_cases h : a = b
  · subst h
    rw [decide_eq_true rfl]
    exact beq_self_eq_true _
  · rw [decide_eq_false h]
    apply beq_false_of_ne
    rw [e, e]
    exact fun h2 => h (ByteArray.ext (Array.toList_inj.1 h2))
theorem sumS_four (l : List ByteArray) (h : ∀ x ∈ l, x.size = 4) : sumS l = 4 * l.length := by
  induction l with
  | nil => rfl
  | cons x xs ih =>
    show x.size + sumS xs = 4 * (xs.length + 1)
    rw [h x (by simp), ih fun y hy => h y (by simp [hy])]
    omega
theorem onceF_size (l : List ByteArray) (leaf : Int) (m : ByteArray) : (onceF l leaf m).size ≤ 4 := by
  unfold onceF
  split
  · rw [chopB_size]; omega
  · show 0 ≤ 4; omega
set_option maxRecDepth 20000 in
set_option maxHeartbeats 800000 in
theorem specCheckSig_any (p m : ByteArray) (s : Sg) (v : Value) (w : World) (hr : RdSg w v s) (n1 : s.once.length ≤ 2000000) (n2 : s.path.length ≤ 2000000) (hm : m.size ≤ 1048576) :
    Calls Tryz.prog 14 #[.string p, .string m, v] w fun e w' => e = .returned (.bool (chkB p m s)) ∧ Below w.heap.size w w' := by
  have C0 := hide (fun (W : World) (h : Below w.heap.size w W) => specSigOk_any s v W (hr.below h) n1 n2)
  obtain ⟨lf, l1, l2⟩ := s
  obtain ⟨v1, v2, rfl, r1, r2, -⟩ := hr
  cases ho : sgOk ⟨lf, l1, l2⟩ with
  | true =>
    rw [ho] at C0
    have f1 := sgOk_once ho
    have f2 := sgOk_path ho
    obtain ⟨_, k1, k2⟩ := sgOk_shape ho
    have C1 := hide (fun (W : World) (h : Below w.heap.size w W) => specOnceFound_any l1 lf m v1 W (r1.below h) (by rw [sumS_four l1 (four_yes f1)]; have : l1.length = 10 := k1; omega) hm)
    have C2 := hide (fun (W : World) (h : Below w.heap.size w W) => specRootBy_any (onceF l1 lf m) lf l2 v2 W (by have := onceF_size l1 lf m; omega) (r2.below h) (fun x hx => by rw [four_yes f2 x hx]; omega))
    have EC := hide (show chkB p m ⟨lf, l1, l2⟩ = decide (rootBy (onceF l1 lf m) lf l2 = p) by unfold chkB fndB; rw [ho]; rfl)
    rw [unhide EC]
    obtain ⟨a1, c1, rfl⟩ := r1.shape
    obtain ⟨a2, c2, rfl⟩ := r2.shape
    unfold sgv at C0 ⊢
    generalize onceF l1 lf m = fo at *
    generalize rootBy fo lf l2 = ro at *
    clear r1 r2 n1 n2 k1 k2 f1 f2 ho EC
    show Calls _ _ #[_, _, .agg #[.int .i64 lf, .slice a1 (l1.map sv).length c1, .slice a2 (l2.map sv).length c2]] _ _
    generalize ((Sg.mk lf l1 l2).once.map sv).length = k1 at *
    generalize ((Sg.mk lf l1 l2).path.map sv).length = k2 at *
    go_enter Tryz.func14, Tryz.ntmps14
    go_wp2_with fail
    obtain ⟨W, hW, hP, hB, hs1⟩ := one_cb w #[.int .i64 lf, .slice a1 k1 c1, .slice a2 k2 c2] 31
    rw [hW]
    clear hW
    have KS := hide (fun (W' : World) (h : Below W.heap.size W W') => (show W'.cell? ⟨w.heap.size, 0, none⟩ = some (.int .i64 lf) ∧ W'.cell? ⟨w.heap.size, 1, none⟩ = some (.slice a1 k1 c1) ∧ W'.cell? ⟨w.heap.size, 2, none⟩ = some (.slice a2 k2 c2) from ⟨(hP.step h).cell 0 rfl, (hP.step h).cell 1 rfl, (hP.step h).cell 2 rfl⟩))
    have C0' := hide (fun (W' : World) (h : Below W.heap.size W W') => unhide C0 W' (hB.trans (h.mono hB.size)))
    have C1' := hide (fun (W' : World) (h : Below W.heap.size W W') => unhide C1 W' (hB.trans (h.mono hB.size)))
    have C2' := hide (fun (W' : World) (h : Below W.heap.size W W') => unhide C2 W' (hB.trans (h.mono hB.size)))
    have HT0 := (Below.refl W.heap.size W).drew
    clear C0 C1 C2 hP
    go_region_held3 (fun W => W.cell? ⟨w.heap.size, 0, none⟩ = some (.int .i64 lf) ∧ W.cell? ⟨w.heap.size, 1, none⟩ = some (.slice a1 k1 c1) ∧ W.cell? ⟨w.heap.size, 2, none⟩ = some (.slice a2 k2 c2)) (first | exact unhide KS _ HT0 | exact unhide KS _ hT1 | exact unhide KS _ hT2 | exact unhide KS _ hT3 | fail) (first
      | (go_at_call 40; refine (unhide C0' _ HT0).mono ?_; rintro e w1 ⟨rfl, hb1⟩; have hT1 := HT0.trans (hb1.mono HT0.size); clear hb1)
      | (go_at_call 42; refine (unhide C1' _ hT1).mono ?_; rintro e w2 ⟨rfl, hb2⟩; have hT2 := hT1.trans (hb2.mono hT1.size); clear hb2)
      | (go_at_call 41; refine (unhide C2' _ hT2).mono ?_; rintro e w3 ⟨rfl, hb3⟩; have hT3 := hT2.trans (hb3.mono hT2.size); clear hb3))
    all_goals
      have hF := hB.trans (hT3.mono hB.size)
      clear C0' C1' C2' KS hT1 hT2 HT0
      go_wp2
      go_ret
      exact ⟨by show Ending.returned (.bool (ro.toList == p.toList)) = _; rw [same_txt], hF⟩
  | false =>
    rw [ho] at C0
    have EC := hide (show chkB p m ⟨lf, l1, l2⟩ = false by unfold chkB; rw [ho]; rfl)
    rw [unhide EC]
    obtain ⟨a1, c1, rfl⟩ := r1.shape
    obtain ⟨a2, c2, rfl⟩ := r2.shape
    unfold sgv at C0 ⊢
    clear r1 r2 n1 n2 ho EC
    show Calls _ _ #[_, _, .agg #[.int .i64 lf, .slice a1 (l1.map sv).length c1, .slice a2 (l2.map sv).length c2]] _ _
    generalize ((Sg.mk lf l1 l2).once.map sv).length = k1 at *
    generalize ((Sg.mk lf l1 l2).path.map sv).length = k2 at *
    go_enter Tryz.func14, Tryz.ntmps14
    go_wp2_with fail
    obtain ⟨W, hW, hP, hB, hs1⟩ := one_cb w #[.int .i64 lf, .slice a1 k1 c1, .slice a2 k2 c2] 31
    rw [hW]
    clear hW
    have KS := hide (fun (W' : World) (h : Below W.heap.size W W') => (show W'.cell? ⟨w.heap.size, 0, none⟩ = some (.int .i64 lf) ∧ W'.cell? ⟨w.heap.size, 1, none⟩ = some (.slice a1 k1 c1) ∧ W'.cell? ⟨w.heap.size, 2, none⟩ = some (.slice a2 k2 c2) from ⟨(hP.step h).cell 0 rfl, (hP.step h).cell 1 rfl, (hP.step h).cell 2 rfl⟩))
    have C0' := hide (fun (W' : World) (h : Below W.heap.size W W') => unhide C0 W' (hB.trans (h.mono hB.size)))
    have HT0 := (Below.refl W.heap.size W).drew
    clear C0 hP
    refine wp_region_held_drew (S := fun W => W.cell? ⟨w.heap.size, 0, none⟩ = some (.int .i64 lf) ∧ W.cell? ⟨w.heap.size, 1, none⟩ = some (.slice a1 k1 c1) ∧ W.cell? ⟨w.heap.size, 2, none⟩ = some (.slice a2 k2 c2)) (by kernel_rfl) (unhide KS _ HT0) (fun hHeld => ?_)
    refine wpAnyH_take (i := 0) (v := .agg #[.int .i64 lf, .slice a1 k1 c1, .slice a2 k2 c2]) rfl (by kernel_rfl) (by kernel_rfl) (by kernel_rfl) (fun _ _ _ h => h) (Or.inl ⟨by kernel_rfl, fun W hS => by obtain ⟨s0, s1, s2⟩ := hS; go_simp⟩) hHeld ?_
    refine wpAnyH_ready (rs := [1]) (by kernel_rfl) (by simp) ?_
    refine AllReadyH.cons rfl (fun K hK => ?_) AllReadyH.nil
    go_simp
    refine (unhide C0' _ HT0).mono ?_
    rintro e w1 ⟨rfl, hb1⟩
    have hT1 := HT0.trans (hb1.mono HT0.size)
    have hF := hB.trans (hT1.mono hB.size)
    refine hK.out _ _ (unhide KS _ hT1) (fun hHeld => ?_)
    clear hK K hb1 HT0 C0'
    refine wpAnyH_take (i := 2) (v := .bool false) rfl (by kernel_rfl) (by kernel_rfl) (by kernel_rfl) (fun _ _ _ h => h) (Or.inl ⟨by kernel_rfl, fun W hS => by go_simp⟩) hHeld ?_
    refine wpAnyH_take (i := 3) (v := undef) rfl (by kernel_rfl) (by kernel_rfl) (by kernel_rfl) (fun _ _ _ h => h) (Or.inr ⟨by kernel_rfl, rfl⟩) hHeld ?_
    refine wpAnyH_take (i := 4) (v := undef) rfl (by kernel_rfl) (by kernel_rfl) (by kernel_rfl) (fun _ _ _ h => h) (Or.inr ⟨by kernel_rfl, rfl⟩) hHeld ?_
    refine wpAnyH_take (i := 5) (v := undef) rfl (by kernel_rfl) (by kernel_rfl) (by kernel_rfl) (fun _ _ _ h => h) (Or.inr ⟨by kernel_rfl, rfl⟩) hHeld ?_
    refine wpAnyH_take (i := 6) (v := undef) rfl (by kernel_rfl) (by kernel_rfl) (by kernel_rfl) (fun _ _ _ h => h) (Or.inr ⟨by kernel_rfl, rfl⟩) hHeld ?_
    refine wpAnyH_take (i := 7) (v := undef) rfl (by kernel_rfl) (by kernel_rfl) (by kernel_rfl) (fun _ _ _ h => h) (Or.inr ⟨by kernel_rfl, rfl⟩) hHeld ?_
    refine wpAnyH_take (i := 8) (v := undef) rfl (by kernel_rfl) (by kernel_rfl) (by kernel_rfl) (fun _ _ _ h => h) (Or.inr ⟨by kernel_rfl, rfl⟩) hHeld ?_
    refine wpAnyH_take (i := 9) (v := undef) rfl (by kernel_rfl) (by kernel_rfl) (by kernel_rfl) (fun _ _ _ h => h) (Or.inr ⟨by kernel_rfl, rfl⟩) hHeld ?_
    refine wpAnyH_take (i := 10) (v := undef) rfl (by kernel_rfl) (by kernel_rfl) (by kernel_rfl) (fun _ _ _ h => h) (Or.inr ⟨by kernel_rfl, rfl⟩) hHeld ?_
    refine wpAnyH_take (i := 11) (v := undef) rfl (by kernel_rfl) (by kernel_rfl) (by kernel_rfl) (fun _ _ _ h => h) (Or.inr ⟨by kernel_rfl, rfl⟩) hHeld ?_
    refine wpAnyH_take (i := 12) (v := undef) rfl (by kernel_rfl) (by kernel_rfl) (by kernel_rfl) (fun _ _ _ h => h) (Or.inr ⟨by kernel_rfl, rfl⟩) hHeld ?_
    refine wpAnyH_take (i := 13) (v := undef) rfl (by kernel_rfl) (by kernel_rfl) (by kernel_rfl) (fun _ _ _ h => h) (Or.inr ⟨by kernel_rfl, rfl⟩) hHeld ?_
    refine wpAnyH_take (i := 14) (v := undef) rfl (by kernel_rfl) (by kernel_rfl) (by kernel_rfl) (fun _ _ _ h => h) (Or.inr ⟨by kernel_rfl, rfl⟩) hHeld ?_
    refine wpAnyH_take (i := 15) (v := undef) rfl (by kernel_rfl) (by kernel_rfl) (by kernel_rfl) (fun _ _ _ h => h) (Or.inr ⟨by kernel_rfl, rfl⟩) hHeld ?_
    refine wpAnyH_take (i := 16) (v := .bool false) rfl (by kernel_rfl) (by kernel_rfl) (by kernel_rfl) (fun _ _ _ h => h) (Or.inl ⟨by kernel_rfl, fun W hS => by go_simp⟩) hHeld ?_
    refine wpAnyH_take (i := 17) (v := .bool false) rfl (by kernel_rfl) (by kernel_rfl) (by kernel_rfl) (fun _ _ _ h => h) (Or.inl ⟨by kernel_rfl, fun W hS => by go_simp⟩) hHeld ?_
    refine wpAnyH_done (by kernel_rfl) ?_ _
    simp only [Act.put, List.getElem_toArray, List.getElem_cons_zero, List.getElem_cons_succ, List.setIfInBounds_toArray, List.set_cons_zero, List.set_cons_succ]
    clear KS hHeld hT1
    go_wp2
    go_ret
    exact ⟨rfl, hF⟩
end Go.Proofs.YtjgnjjphankhnaaGreat

/- Keys of a tree by the given model: a signature's text, over the loaded program. -/
namespace Go.Proofs.YtjgnjjphankhnaaGreat
open Go.RowKit
end Go.Proofs.YtjgnjjphankhnaaGreat

/- Keys of a tree by the given model: a signature that is read, over the loaded program. -/
namespace Go.Proofs.YtjgnjjphankhnaaGreat
open Go.RowKit
theorem cut16 (T : ByteArray) (i j : Nat) (w : World) (h1 : i ≤ j) (h2 : j ≤ T.size) : (Instr.slice 9 (.string T) (some (.int .i64 (i : Int))) (some (.int .i64 (j : Int))) none).run Tryz.prog w = .ok (.string (T.extract i j)) w := by
  rw [run_slice_string_if w 9 T .i64 .i64 (i : Int) (j : Int) Tryz.underlying9, if_pos (by omega), if_pos (by omega)]
  rfl
/-- The texts of the first k parts, and of those behind the tenth. -/
def onK (F : Nat → ByteArray) (k : Nat) : List ByteArray := (List.range (min k 10)).map F
def ptK (F : Nat → ByteArray) (k : Nat) : List ByteArray := (List.range (k - 10)).map fun i => F (10 + i)
theorem onK_succ (F : Nat → ByteArray) (k : Nat) (h : k < 10) : onK F (k + 1) = onK F k ++ [F k] := by
  unfold onK
  rw [Nat.min_eq_left (by omega), Nat.min_eq_left (by omega), List.range_succ, List.map_append]
  rfl
theorem onK_ten (F : Nat → ByteArray) (k : Nat) (h : 10 ≤ k) : onK F k = onK F 10 := by unfold onK; rw [Nat.min_eq_right h]; rfl
theorem onK_len (F : Nat → ByteArray) (k : Nat) : (onK F k).length ≤ 10 := by unfold onK; rw [List.length_map, List.length_range]; exact Nat.min_le_right _ _
theorem ptK_len (F : Nat → ByteArray) (k : Nat) (h : k ≤ 12) : (ptK F k).length ≤ 2 := by unfold ptK; rw [List.length_map, List.length_range]; omega
theorem ptK_succ (F : Nat → ByteArray) (k : Nat) (h : 10 ≤ k) : ptK F (k + 1) = ptK F k ++ [F k] := by
  unfold ptK
  rw [show k + 1 - 10 = (k - 10) + 1 by omega, List.range_succ, List.map_append]
  show _ ++ [F (10 + (k - 10))] = _
  rw [show 10 + (k - 10) = k by omega]
theorem ptK_low (F : Nat → ByteArray) (k : Nat) (h : k ≤ 10) : ptK F k = [] := by unfold ptK; rw [show k - 10 = 0 by omega]; rfl
end Go.Proofs.YtjgnjjphankhnaaGreat

/- The laws FnExactSignAt, FnExactReadSig, walked over the loaded program; what the project's functions answer are premises. -/
namespace Go.Proofs.YtjgnjjphankhnaaGreat
open Go.RowKit
theorem MkSg.low {w w' : World} {base B : Nat} {v : Value} {s : Sg} (h : MkSg w base v s) (hb : Below B w w') (hB : w.heap.size ≤ B) : MkSg w' base v s := h.below (hb.mono hB)
theorem OwnSg.belowAt {w w' : World} {base B : Nat} {v : Value} {s : Sg} (h : OwnSg w base v s) (hb : Below B w w') (hB : w.heap.size ≤ B) : OwnSg w' base v s := h.below (hb.mono hB)
end Go.Proofs.YtjgnjjphankhnaaGreat

/- What big, DrawSumOf and DrawPlaces come to: some text of fewer than 40 bytes; twelve numbers below 10000. -/
namespace Go.Proofs.YtjgnjjphankhnaaGreat
open Go.RowKit

set_option maxRecDepth 20000 in
set_option maxHeartbeats 400000 in
theorem big_any (w : World) (o : Option Addr) (n c : Nat) :
    Calls Tryz.prog 5 #[.slice o n c] w fun e w' => e = .returned (.bool (decide ((1048576 : Int) < (n : Int)))) ∧ w' = w := by
  go_enter Tryz.func5, Tryz.ntmps5
  go_wp2
  go_ret
  exact ⟨rfl, rfl⟩


theorem Tryz.infoIC : (Tryz.prog.info? 3).map (fun i => (i.zero, i.size, i.bytes)) = some (some (.int .i64 0), 1, 8) := by kernel_rfl

def ints (xs : List Nat) : List Value := xs.map fun (x : Nat) => Value.int .i64 (x : Int)

set_option maxRecDepth 20000 in
set_option maxHeartbeats 400000 in
theorem drawPlaces_any (w : World) (o : Option Addr) (n c : Nat) (hs : Src w w.heap.size o n) (hn : n ≤ 1048576) :
    Calls Tryz.prog 7 #[.slice o n c] w fun e w' => ∃ (v : Value) (xs : List Nat), xs.length = 12 ∧ (∀ x ∈ xs, x < 10000) ∧ e = .returned v ∧ OwnV w' w.heap.size 3 v (ints xs) ∧ Below w.heap.size w w' := by
  obtain ⟨i0, hi, hz0, hz1, hz2⟩ := info_parts Tryz.infoIC
  have HS := hide hs
  clear hs
  go_enter Tryz.func7, Tryz.ntmps7
  go_wp2_with fail
  go_at_call 25
  refine (l01New_any w o n c (unhide HS) hn).mono ?_
  rintro e w1 ⟨rfl, hb1, hc1⟩
  replace hc1 := hide hc1
  go_wp2_with fail
  go_at_call 30
  refine (l01Byte_any (unhide hc1) hn).mono ?_
  rintro e w2 ⟨x, hx, rfl, ho2, hc2⟩
  have hb2 := hb1.trans (ho2.below (Nat.le_refl _))
  have hg := hc2.lt
  replace hc2 := hide hc2
  replace ho2 := hide ho2
  clear hb1 hc1
  go_wp2
  go_loopw [4, 5] (fun v ti wr => ∃ (k : Nat) (xs : List Nat), k ≤ 12 ∧ xs.length = k ∧ ti = .int .i64 (k : Int) ∧ Hid (∀ x ∈ xs, x < 10000) ∧ OwnV wr w2.heap.size 3 v (ints xs) ∧ Below w.heap.size w wr ∧ w2.heap.size ≤ wr.heap.size ∧ Hid (Cur wr w.heap.size w.heap.size o n c))
    (fun _ ti _ => 12 - (intOf ti).toNat)
  case atStart => exact ⟨0, [], Nat.zero_le _, rfl, rfl, hide (by simp), World.ownsRow_made w2 #[] 0 (Nat.le_refl _) (by decide) (by simp), hb2.alloc hb2.size _, by simp, (unhide hc2).below ((Below.refl (w.heap.size + 1) w2).alloc (by omega) _) (by omega)⟩
  case round =>
    obtain ⟨k, xs, hk, hxl, rfl, HX, hown, hb, hsz, HC⟩ := hrel
    clear hc2 ho2 hb2
    by_cases hlt : k < 12
    · go_wp2_with fail
      go_at_call 29
      refine (l01Below_any (unhide HC) hn 10000 (by decide) (by decide)).mono ?_
      rintro e w3 ⟨y, hy, rfl, ho, hc3⟩
      have hown1 := hown.only ho hg
      have hb3 := hb.trans (ho.below (Nat.le_refl _))
      have hsz3 : w2.heap.size ≤ w3.heap.size := by rw [ho.size]; exact hsz
      have hil : (ints xs).length ≤ 12 := by simp [ints]; omega
      replace hc3 := hide hc3
      replace ho := hide ho
      clear hown hb HC
      go_wp2_with (at_builtin; refine wpList_append_vals rfl (.tmp 15) (.tmp 18) 26 rfl w2.heap.size w2.heap.size 3 i0 (.int .i64 0) 8 Tryz.underlying26 hi hz0 hz1 hz2 rfl _ (ints xs) rfl hown1 _ [.int .i64 (y : Int)] rfl (by intro u hu; simp only [List.mem_singleton] at hu; subst hu; rfl) 1 1 rfl rfl (by unfold maxLen; omega) (by omega) (Nat.le_refl _) hsz3 (Below.refl _ w3) ?_; intro v' w4 hown' hb4)
      have hc4 := hide ((unhide hc3).below hb4 hg)
      have hb' := hb3.trans (hb4.mono (show w.heap.size ≤ w2.heap.size by omega))
      have hsz4 : w2.heap.size ≤ w4.heap.size := Nat.le_trans hsz3 hb4.size
      have hown2 : OwnV w4 w2.heap.size 3 v' (ints (xs ++ [y])) := by unfold ints at hown' ⊢; rw [List.map_append]; exact hown'
      clear hown1 hb3 hb4 hc3 hown'
      go_wp2
      go_roundw
      case rel => exact ⟨k + 1, xs ++ [y], by omega, by simp [hxl], by go_num, hide (by intro z hz; rw [List.mem_append] at hz; rcases hz with hz | hz; exact unhide HX z hz; simp only [List.mem_singleton] at hz; omega), hown2, hb', hsz4, hc4⟩
      case measure => simp [intOf]; omega
    · have hke : k = 12 := by omega
      have hw : w.heap.size ≤ w2.heap.size := by omega
      replace hown := hide hown
      go_wp2
      go_ret
      exact ⟨_, xs, by omega, unhide HX, rfl, (unhide hown).low hw, hb⟩

end Go.Proofs.YtjgnjjphankhnaaGreat

/- More draws by contracts: once in so many times, one of a list of numbers, many bytes of one kind, a number, a text. -/
namespace Go.Proofs.YtjgnjjphankhnaaGreat
open Go.RowKit

set_option maxRecDepth 20000 in
set_option maxHeartbeats 400000 in
theorem l01Once_any {w : World} {base g n c : Nat} {o : Option Addr} (h : Cur w base g o n c) (hn : n ≤ 1048576) (m : Nat) (hm : 0 < m) (hm2 : m ≤ 4294967296) :
    Calls Tryz.prog 47 #[.pointer (some ⟨g, 0, none⟩), .int .i64 (m : Int)] w fun e w' => ∃ b : Bool, e = .returned (.bool b) ∧ Only g w w' ∧ Cur w' base g o n c := by
  have H := hide h
  clear h
  go_enter Tryz.func47, Tryz.ntmps47
  go_wp2_with (go_at_call 29; refine (l01Below_any (unhide H) hn m hm hm2).mono ?_; rintro e w1 ⟨x, hx, rfl, ho, hc⟩; replace hc := hide hc)
  go_ret
  exact ⟨_, rfl, ho, unhide hc⟩

/-- A row of numbers in block b. -/
def Nums (w : World) (b k : Nat) : Prop := ∀ j, j < k → ∃ z : Int, -9223372036854775808 ≤ z ∧ z ≤ 9223372036854775807 ∧ w.cell? ⟨b, j, none⟩ = some (.int .i64 z)

set_option maxRecDepth 20000 in
set_option maxHeartbeats 400000 in
theorem l01PickInt_any {w : World} {base g n c : Nat} {o : Option Addr} (h : Cur w base g o n c) (hn : n ≤ 1048576) (b k cap : Nat) (hk : 0 < k) (hk2 : k ≤ 1000) (hN : Nums w b k) (hbg : b ≠ g) :
    Calls Tryz.prog 48 #[.pointer (some ⟨g, 0, none⟩), .slice (some ⟨b, 0, none⟩) k cap] w fun e w' => ∃ z : Int, -9223372036854775808 ≤ z ∧ z ≤ 9223372036854775807 ∧ e = .returned (.int .i64 z) ∧ Only g w w' ∧ Cur w' base g o n c := by
  have H := hide h
  have HN := hide hN
  clear h hN
  go_enter Tryz.func48, Tryz.ntmps48
  go_wp2_with fail
  go_at_call 29
  refine (l01Below_any (unhide H) hn k hk (by omega)).mono ?_
  rintro e w1 ⟨x, hx, rfl, ho, hc⟩
  replace hc := hide hc
  obtain ⟨z, hz1, hz2, hcell⟩ := (unhide HN) x hx
  have hcell1 : w1.cell? ⟨b, x, none⟩ = some (.int .i64 z) := (World.cell?_of_block (w := w) (ho.block b hbg)).trans hcell
  replace ho := hide ho
  have hx0 : (0 : Int) ≤ (x : Int) := by omega
  have hx1 : (x : Int) < (k : Int) := by omega
  go_wp2
  go_ret
  exact ⟨z, hz1, hz2, rfl, unhide ho, unhide hc⟩



end Go.Proofs.YtjgnjjphankhnaaGreat

/- The draws of chapter 5 by contracts, over the loaded program. -/
namespace Go.Proofs.YtjgnjjphankhnaaGreat
open Go.RowKit
set_option maxRecDepth 20000 in
set_option maxHeartbeats 400000 in
theorem l01PickP_any {w : World} {base g n c : Nat} {o : Option Addr} (p : Int → Prop) (h : Cur w base g o n c) (hn : n ≤ 1048576) (b k cap : Nat) (hk : 0 < k) (hk2 : k ≤ 1000) (hN : ∀ j, j < k → ∃ z, w.cell? ⟨b, j, none⟩ = some (.int .i64 z) ∧ p z) (hbg : b ≠ g) :
    Calls Tryz.prog 48 #[.pointer (some ⟨g, 0, none⟩), .slice (some ⟨b, 0, none⟩) k cap] w fun e w' => ∃ z : Int, p z ∧ e = .returned (.int .i64 z) ∧ Only g w w' ∧ Cur w' base g o n c := by
  have H := hide h
  have HN := hide hN
  clear h hN
  go_enter Tryz.func48, Tryz.ntmps48
  go_wp2_with fail
  go_at_call 29
  refine (l01Below_any (unhide H) hn k hk (by omega)).mono ?_
  rintro e w1 ⟨x, hx, rfl, ho, hc⟩
  replace hc := hide hc
  obtain ⟨z, hcell, hz⟩ := (unhide HN) x hx
  have hcell1 : w1.cell? ⟨b, x, none⟩ = some (.int .i64 z) := (World.cell?_of_block (w := w) (ho.block b hbg)).trans hcell
  replace ho := hide ho
  replace hz := hide hz
  have hx0 : (0 : Int) ≤ (x : Int) := by omega
  have hx1 : (x : Int) < (k : Int) := by omega
  go_wp2
  go_ret
  exact ⟨z, unhide hz, rfl, unhide ho, unhide hc⟩
end Go.Proofs.YtjgnjjphankhnaaGreat

/- Drawn polynomials, by contracts, over the loaded program. -/
namespace Go.Proofs.YtjgnjjphankhnaaGreat
open Go.RowKit
theorem gTB9 {w w1 w2 : World} {r : Option Nat} (h : w.grownBy w1 r) (hb : Below w.heap.size w1 w2) : w.grownBy w2 r :=
  ⟨by rw [hb.os, h.os], by rw [hb.tape, h.tape], by rw [hb.output, h.output], Nat.le_trans h.size hb.size, fun j hj hr => by rw [hb.block j hj, h.block j hj hr]⟩
theorem gO9 {g : Nat} {w w' : World} (h : Only g w w') : w.grownBy w' (some g) := ⟨h.os, h.tape, h.output, by rw [h.size]; exact Nat.le_refl _, fun k _ hk => h.block k (fun e => hk (by rw [e]))⟩
def rngL (l : List Int) : Prop := ∀ x ∈ l, 0 ≤ x ∧ x ≤ 3328
theorem rngL_add {l : List Int} (h : rngL l) {x : Int} (hx : 0 ≤ x ∧ x ≤ 3328) : rngL (l ++ [x]) := by
  intro y hy
  rw [List.mem_append] at hy
  rcases hy with h1 | h1
  · exact h y h1
  · rw [List.mem_singleton] at h1; rw [h1]; exact hx
theorem rngL_set {l : List Int} (h : rngL l) (k : Nat) {x : Int} (hx : 0 ≤ x ∧ x ≤ 3328) : rngL (l.set k x) := by
  intro y hy
  rcases List.mem_or_eq_of_mem_set hy with h1 | h1
  · exact h y h1
  · rw [h1]; exact hx
theorem okPl_rng {l : List Int} (hl : l.length = 256) (h : rngL l) : okPl l = true :=
  okPl_of hl fun i hi => by rw [cAt_lt (by omega)]; exact h _ (List.getElem_mem _)
theorem map_add_iv (l : List Int) (x : Int) : l.map iv ++ [.int .i64 x] = (l ++ [x]).map iv := by rw [List.map_append]; rfl
theorem OwnV.some9 {w : World} {base n c : Nat} {a : Option Addr} {e : TypeId} {xs : List Value} (h : OwnV w base e (.slice a n c) xs) (hn : 0 < n) : ∃ g, a = some ⟨g, 0, none⟩ ∧ base ≤ g ∧ g < w.heap.size := by
  rcases h.2 with ⟨h1, _⟩ | ⟨g, cap, cur, h1, hb, h2, _⟩
  · simp only [Value.slice.injEq] at h1; omega
  · simp only [Value.slice.injEq] at h1
    refine ⟨g, h1.1, hb, ?_⟩
    rcases Nat.lt_or_ge g w.heap.size with h3 | h3
    · exact h3
    · rw [Array.getElem?_eq_none h3] at h2; cases h2
end Go.Proofs.YtjgnjjphankhnaaGreat

/- Draws of a seed and two places, over the loaded program. -/
namespace Go.Proofs.YtjgnjjphankhnaaGreat
open Go.RowKit
theorem nums5v (w : World) (T : TypeId) (a b : Int) (ha : -9223372036854775808 ≤ a ∧ a ≤ 9223372036854775807) (hb : -9223372036854775808 ≤ b ∧ b ≤ 9223372036854775807) : Nums (w.alloc (.cells #[.int .i64 (-1), .int .i64 a, .int .i64 b, .int .i64 9223372036854775807, .int .i64 (-9223372036854775808)] T)) w.heap.size 5 := by
  intro j hj
  rw [cell_of_row _ w.heap.size j _ T (0, 0) (heap_alloc_new w _)]
  match j, hj with
  | 0, _ => exact ⟨_, by decide, by decide, rfl⟩
  | 1, _ => exact ⟨a, ha.1, ha.2, rfl⟩
  | 2, _ => exact ⟨b, hb.1, hb.2, rfl⟩
  | 3, _ => exact ⟨_, by decide, by decide, rfl⟩
  | 4, _ => exact ⟨_, by decide, by decide, rfl⟩
  | j + 5, hj => exact absurd hj (by omega)

set_option maxRecDepth 20000 in
set_option maxHeartbeats 1000000 in
theorem l01Place_v {w : World} {base g n c : Nat} {o : Option Addr} (h : Cur w base g o n c) (hn : n ≤ 1048576) (m : Nat) (hm : 0 < m) (hm2 : m ≤ 1000000) :
    Calls Tryz.prog 27 #[.pointer (some ⟨g, 0, none⟩), .int .i64 (m : Int)] w fun e w' => ∃ z : Int, e = .returned (.int .i64 z) ∧ w.grownBy w' (some g) ∧ Cur w' base g o n c := by
  have hg := h.lt
  have H := hide h
  clear h
  go_enter Tryz.func27, Tryz.ntmps27
  go_wp2_with fail
  go_at_call 47
  refine (l01Once_any (unhide H) hn 15 (by decide) (by decide)).mono ?_
  rintro e w1 ⟨b, rfl, ho1, hc1⟩
  have G1 := hide (gO9 ho1)
  have s1 : w.heap.size ≤ w1.heap.size := by rw [ho1.size]; exact Nat.le_refl _
  replace hc1 := hide hc1
  clear ho1
  cases b with
  | true =>
    go_wp2_with fail
    go_at_call 48
    refine (l01PickInt_any ((unhide hc1).below ((Below.refl w1.heap.size w1).alloc (Nat.le_refl _) _) (by omega)) hn w1.heap.size 5 5 (by decide) (by decide) (nums5v w1 _ (m : Int) ((m : Int) + 1) (by omega) (by omega)) (by omega)).mono ?_
    rintro e w2 ⟨z, _, _, rfl, ho2, hc2⟩
    have G2 := hide (gT (unhide G1) (gT (gB ((Below.refl w1.heap.size w1).alloc (Nat.le_refl _) _) (some g)) (gO9 ho2)))
    replace hc2 := hide hc2
    replace ho2 := hide ho2
    go_wp2
    go_ret
    exact ⟨z, rfl, unhide G2, unhide hc2⟩
  | false =>
    go_wp2_with fail
    go_at_call 29
    refine (l01Below_any (unhide hc1) hn m hm (by omega)).mono ?_
    rintro e w2 ⟨x, hx, rfl, ho2, hc2⟩
    have G2 := hide (gT (unhide G1) (gO9 ho2))
    replace hc2 := hide hc2
    replace ho2 := hide ho2
    go_wp2
    go_ret
    exact ⟨(x : Int), rfl, unhide G2, unhide hc2⟩
end Go.Proofs.YtjgnjjphankhnaaGreat

/- The draws that leave every block but the cursor's. -/
namespace Go.Proofs.YtjgnjjphankhnaaGreat
open Go.RowKit
theorem gO {g : Nat} {w w' : World} (h : Only g w w') : w.grownBy w' (some g) := ⟨h.os, h.tape, h.output, by rw [h.size]; exact Nat.le_refl _, fun k _ hk => h.block k (fun e => hk (by rw [e]))⟩
theorem gTB {w w1 w2 : World} {r : Option Nat} (h : w.grownBy w1 r) (hb : Below w.heap.size w1 w2) : w.grownBy w2 r :=
  ⟨hb.os.trans h.os, hb.tape.trans h.tape, hb.output.trans h.output, Nat.le_trans h.size hb.size, fun i hi hr => (hb.block i hi).trans (h.block i hi hr)⟩
set_option maxRecDepth 20000 in
set_option maxHeartbeats 400000 in
theorem l01Text_g {w : World} {base g n c : Nat} {o : Option Addr} (h : Cur w base g o n c) (hn : n ≤ 1048576) (m : Nat) (hm : m ≤ 5000) :
    Calls Tryz.prog 28 #[.pointer (some ⟨g, 0, none⟩), .int .i64 (m : Int)] w fun e w' => ∃ l : List UInt8, l.length = m ∧ e = .returned (.string ⟨l.toArray⟩) ∧ w.grownBy w' (some g) ∧ Cur w' base g o n c := by
  obtain ⟨i0, hi, hz0, hz1, hz2⟩ := info_parts Tryz.infoBC
  have H := hide h
  clear h
  have h0 : ¬ (5000 : Int) < (m : Int) := by omega
  go_enter Tryz.func28, Tryz.ntmps28
  go_wp2
  have hg := (unhide H).lt
  have hlo := (unhide H).lo
  go_loopw [5, 6] (fun v ti wr => ∃ (k : Nat) (pre : List UInt8), k ≤ m ∧ pre.length = k ∧ ti = .int .i64 (k : Int) ∧ OwnB wr w.heap.size 5 v pre ∧ w.grownBy wr (some g) ∧ Hid (Cur wr base g o n c))
    (fun _ ti _ => m - (intOf ti).toNat)
  case atStart => exact ⟨0, [], Nat.zero_le _, rfl, rfl, World.ownsRow_made w #[] 0 (Nat.le_refl _) (by decide) (by simp), gB ((Below.refl w.heap.size w).alloc (Nat.le_refl _) _) _, (unhide H).below ((Below.refl (g + 1) w).alloc (by omega) _) (by omega)⟩
  case round =>
    clear H h0
    obtain ⟨k, pre, hk, hpl, rfl, hown, hb, HC⟩ := hrel
    have hsz := hb.size
    by_cases hlt : k < m
    · go_wp2_with fail
      go_at_call 30
      refine (l01Byte_any (unhide HC) hn).mono ?_
      rintro e w1 ⟨x, hx, rfl, ho, hc1⟩
      have hown1 := hown.only ho hg
      have hb1 := gT hb (gO ho)
      have hsz1 := hb1.size
      replace hc1 := hide hc1
      replace ho := hide ho
      clear hown hb HC
      have hbx : ((byteOf x).toNat : Int) = (x : Int) := by rw [byteOf_toNat hx]
      go_wp2_with (at_builtin; refine wpList_append_bytes rfl (.tmp 15) (.tmp 19) 22 rfl w.heap.size w.heap.size 5 i0 Tryz.underlying22 hi hz0 hz1 hz2 _ pre rfl hown1 _ [byteOf x] (cs_at hbx) 1 1 rfl rfl (by omega) (Nat.le_refl _) hsz1 (Below.refl _ w1) ?_; intro v' w2 hown' hb2)
      have hc2 := hide ((unhide hc1).below hb2 hg)
      have hb' := gTB hb1 hb2
      clear hown1 hb1 hb2 hc1
      go_wp2
      go_roundw
      case rel => exact ⟨k + 1, pre ++ [byteOf x], by omega, by simp [hpl], by go_num, hown', hb', hc2⟩
      case measure => simp [intOf]; omega
    · have hke : k = m := by omega
      have hc := run_string_owned (P := Tryz.prog) wr 22 9 5 w.heap.size _ _ Tryz.underlying22 Tryz.underlying5 Tryz.underlying9 hown
      clear hown
      go_wp2
      go_ret
      exact ⟨pre, by omega, rfl, hb, unhide HC⟩

theorem HB.grown {w w' : World} {k g : Nat} {T : TypeId} {a : Hs} (h : HB w k T a) (hg : w.grownBy w' (some g)) (hne : k ≠ g) : HB w' k T a := by
  have hl := h.lt
  unfold HB at h ⊢
  rw [hg.block k hl (fun e => hne (Option.some.inj e))]; exact h
end Go.Proofs.YtjgnjjphankhnaaGreat

/- A text that is picked out of short ones, over the loaded program. -/
namespace Go.Proofs.YtjgnjjphankhnaaGreat
open Go.RowKit
def Txt9 (w : World) (b k : Nat) : Prop := ∀ j, j < k → ∃ s : ByteArray, s.size ≤ 9 ∧ w.cell? ⟨b, j, none⟩ = some (.string s)
set_option maxHeartbeats 400000 in
theorem l01Pick_9 {w : World} {base g n c : Nat} {o : Option Addr} (h : Cur w base g o n c) (hn : n ≤ 1048576) (b k cap : Nat) (hk : 0 < k) (hk2 : k ≤ 1000) (hN : Txt9 w b k) (hbg : b ≠ g) :
    Calls Tryz.prog 46 #[.pointer (some ⟨g, 0, none⟩), .slice (some ⟨b, 0, none⟩) k cap] w fun e w' => ∃ s : ByteArray, s.size ≤ 9 ∧ e = .returned (.string s) ∧ Only g w w' ∧ Cur w' base g o n c := by
  have H := hide h
  have HN := hide hN
  clear h hN
  go_enter Tryz.func46, Tryz.ntmps46
  go_wp2_with fail
  go_at_call 29
  refine (l01Below_any (unhide H) hn k hk (by omega)).mono ?_
  rintro e w1 ⟨x, hx, rfl, ho, hc⟩
  replace hc := hide hc
  obtain ⟨z, hz1, hcell⟩ := (unhide HN) x hx
  have hcell1 : w1.cell? ⟨b, x, none⟩ = some (.string z) := (World.cell?_of_block (w := w) (ho.block b hbg)).trans hcell
  replace ho := hide ho
  have hx0 : (0 : Int) ≤ (x : Int) := by omega
  have hx1 : (x : Int) < (k : Int) := by omega
  go_wp2
  go_ret
  exact ⟨z, hz1, rfl, unhide ho, unhide hc⟩
theorem txt9_4 (w : World) (T : TypeId) : Txt9 (w.alloc (.cells #[.string ⟨#[]⟩, .string ⟨#[97]⟩, .string ⟨#[98]⟩, .string ⟨#[115, 101, 101, 100]⟩] T)) w.heap.size 4 := by
  intro j hj
  rw [cell_of_row _ w.heap.size j _ T (0, 0) (heap_alloc_new w _)]
  match j, hj with
  | 0, _ => exact ⟨_, by decide, rfl⟩
  | 1, _ => exact ⟨_, by decide, rfl⟩
  | 2, _ => exact ⟨_, by decide, rfl⟩
  | 3, _ => exact ⟨_, by decide, rfl⟩
  | j + 4, hj => exact absurd hj (by omega)
end Go.Proofs.YtjgnjjphankhnaaGreat

