/- Rules by the given model: what is changed, what comes in again, new things, over the loaded program. -/
import Derived.Test.YtecbpplocokedaaRul0
import Derived.Test.YtecbpplocokedaaThgH
namespace Go.Proofs.Ytecbpplocokedaa
open Go.RowKit
set_option maxRecDepth 20000 in
set_option maxHeartbeats 4000000 in
theorem specChange_any (x : Th) (h f : Bool) (w : World) :
    Calls Try.prog 23 #[.agg (thC x), .bool h, .bool f] w fun e w' => e = .returned (.tuple #[.agg (thC (chgT x h f)), .bool (chgOk x h f)]) ∧ Below w.heap.size w w' := by
  have CO := hide (fun W => specThingOk_any x W)
  have HO : chgOk x h f = true ↔ thOk x = true ∧ (x.hid = true → h = true) ∧ (x.fix = true → f = true) := by unfold chgOk; exact decide_eq_true_iff
  have ET : chgT x h f = if chgOk x h f = true then { x with hid := h, fix := f } else thZ := rfl
  rw [ET]
  clear ET
  generalize chgOk x h f = fin at *
  generalize thOk x = ok at *
  obtain ⟨id, kind, hid, fix, sgn, wrp, val, nxt⟩ := x
  unfold thC at CO
  simp only at CO HO ⊢
  obtain ⟨W, hW, hA, hR, hb, hlt⟩ := two_cb w #[.int .i64 id, .int .i64 kind, .bool hid, .bool fix, .bool sgn, .bool wrp, .string val, .int .i64 nxt] (thC thZ) 25 25
  unfold thC thZ at hW
  simp only at hW
  have a0 := hA.cell 0 rfl
  have a1 := hA.cell 1 rfl
  have a2 := hA.cell 2 rfl
  have a3 := hA.cell 3 rfl
  have a4 := hA.cell 4 rfl
  have a5 := hA.cell 5 rfl
  have a6 := hA.cell 6 rfl
  have a7 := hA.cell 7 rfl
  replace hA := hide hA; replace hR := hide hR
  have hxe : thC ⟨id, kind, hid, fix, sgn, wrp, val, nxt⟩ = #[.int .i64 id, .int .i64 kind, .bool hid, .bool fix, .bool sgn, .bool wrp, .string val, .int .i64 nxt] := rfl
  rw [hxe]
  go_enter Try.func23, Try.ntmps23
  go_wp2_with fail
  refine (unhide CO W).mono ?_
  rintro e w1 ⟨rfl, hb1⟩
  have hA1 := (unhide hA).below hb1 (by omega)
  have hR1 := hide ((unhide hR).below hb1 (by omega))
  have hB1 := hide (hb.trans (hb1.mono hb.size))
  clear a0 a1 a2 a3 a4 a5 a6 a7 hA hR hb hb1 CO hW hxe
  have b2 := hA1.cell 2 rfl
  have b3 := hA1.cell 3 rfl
  have z2 := hA1.frozen 2
  have hX2 := hA1.set 2 (.bool h)
  have c3 := hX2.cell 3 rfl
  have z3 := hX2.frozen 3
  have hX3 := hX2.set 3 (.bool f)
  have hR3 := hide (((unhide hR1).set_other (h := w.heap.size) (k := 2) (by omega) (.bool h)).set_other (h := w.heap.size) (k := 3) (by omega) (.bool f))
  have hB3 := hide (((unhide hB1).setCell (p := ⟨w.heap.size, 2, none⟩) (Nat.le_refl _) (.bool h)).setCell (p := ⟨w.heap.size, 3, none⟩) (Nat.le_refl _) (.bool f))
  obtain ⟨y, hy⟩ : ∃ y : Th, y = ⟨id, kind, h, f, sgn, wrp, val, nxt⟩ := ⟨_, rfl⟩
  have hX4 := hide (cb_eq hX3 (show thC y = _ by rw [hy]; rfl))
  replace hy := hide hy
  clear hA1 hX2 hX3
  cases ok with
  | false =>
    obtain rfl : fin = false := by cases fin with | false => rfl | true => exact absurd (HO.1 rfl) (by simp)
    clear HO hX4 hR3 hB3 c3 z3 z2
    go_wp2_with (refine wpList_store_row rfl 25 (.tmp 6) (.tmp 27) rfl (w.heap.size + 1) (thC thZ) rfl rfl 25 (thC thZ) (unhide hR1) (th_size thZ) rfl (th_one thZ) ?_)
    have hR5 := setRow_heap _ (w.heap.size + 1) _ (thC thZ) 25 (0, 0) (unhide hR1)
    have hB5 := Go.below_setRow (unhide hB1) (show w.heap.size ≤ w.heap.size + 1 by omega) (thC thZ)
    exact bodyPost_ret (results_cb_tmp (by exact Try.results23) _ _ (w.heap.size + 1) 25 (thC thZ) _ rfl hR5 Try.underlying25 (th_size thZ)) rfl ⟨rfl, hB5⟩
  | true =>
    cases hid with
    | true =>
      cases h with
      | false =>
        obtain rfl : fin = false := by cases fin with | false => rfl | true => exact absurd (HO.1 rfl) (by simp)
        clear HO hX4 hR3 hB3 c3 z3 z2
        go_wp2_with (refine wpList_store_row rfl 25 (.tmp 6) (.tmp 27) rfl (w.heap.size + 1) (thC thZ) rfl rfl 25 (thC thZ) (unhide hR1) (th_size thZ) rfl (th_one thZ) ?_)
        have hR5 := setRow_heap _ (w.heap.size + 1) _ (thC thZ) 25 (0, 0) (unhide hR1)
        have hB5 := Go.below_setRow (unhide hB1) (show w.heap.size ≤ w.heap.size + 1 by omega) (thC thZ)
        exact bodyPost_ret (results_cb_tmp (by exact Try.results23) _ _ (w.heap.size + 1) 25 (thC thZ) _ rfl hR5 Try.underlying25 (th_size thZ)) rfl ⟨rfl, hB5⟩
      | true =>
        cases fix with
        | true =>
          cases f with
          | false =>
            obtain rfl : fin = false := by cases fin with | false => rfl | true => exact absurd (HO.1 rfl) (by simp)
            clear HO hX4 hR3 hB3 c3 z3 z2
            go_wp2_with (refine wpList_store_row rfl 25 (.tmp 6) (.tmp 27) rfl (w.heap.size + 1) (thC thZ) rfl rfl 25 (thC thZ) (unhide hR1) (th_size thZ) rfl (th_one thZ) ?_)
            have hR5 := setRow_heap _ (w.heap.size + 1) _ (thC thZ) 25 (0, 0) (unhide hR1)
            have hB5 := Go.below_setRow (unhide hB1) (show w.heap.size ≤ w.heap.size + 1 by omega) (thC thZ)
            exact bodyPost_ret (results_cb_tmp (by exact Try.results23) _ _ (w.heap.size + 1) 25 (thC thZ) _ rfl hR5 Try.underlying25 (th_size thZ)) rfl ⟨rfl, hB5⟩
          | true =>
            obtain rfl : fin = true := HO.2 (by simp)
            clear HO hR1 hB1
            go_wp2_with (first
              | (refine wpList_load_row rfl 25 (.tmp 3) rfl w.heap.size rfl 25 (thC y) (0, 0) _ (unhide hX4) Try.underlying25 rfl (th_size y) ?_)
              | (refine wpList_store_row rfl 25 (.tmp 6) (.tmp 32) rfl (w.heap.size + 1) (thC y) rfl rfl 25 (thC thZ) (unhide hR3) (th_size y) rfl (th_one y) ?_))
            have hR5 := setRow_heap _ (w.heap.size + 1) _ (thC y) 25 (0, 0) (unhide hR3)
            have hB5 := Go.below_setRow (unhide hB3) (show w.heap.size ≤ w.heap.size + 1 by omega) (thC y)
            exact bodyPost_ret (results_cb_tmp (by exact Try.results23) _ _ (w.heap.size + 1) 25 (thC y) _ rfl hR5 Try.underlying25 (th_size y)) rfl ⟨by rw [unhide hy]; rfl, hB5⟩
        | false =>
          obtain rfl : fin = true := HO.2 (by simp)
          clear HO hR1 hB1
          go_wp2_with (first
            | (refine wpList_load_row rfl 25 (.tmp 3) rfl w.heap.size rfl 25 (thC y) (0, 0) _ (unhide hX4) Try.underlying25 rfl (th_size y) ?_)
            | (refine wpList_store_row rfl 25 (.tmp 6) (.tmp 32) rfl (w.heap.size + 1) (thC y) rfl rfl 25 (thC thZ) (unhide hR3) (th_size y) rfl (th_one y) ?_))
          have hR5 := setRow_heap _ (w.heap.size + 1) _ (thC y) 25 (0, 0) (unhide hR3)
          have hB5 := Go.below_setRow (unhide hB3) (show w.heap.size ≤ w.heap.size + 1 by omega) (thC y)
          exact bodyPost_ret (results_cb_tmp (by exact Try.results23) _ _ (w.heap.size + 1) 25 (thC y) _ rfl hR5 Try.underlying25 (th_size y)) rfl ⟨by rw [unhide hy]; rfl, hB5⟩
    | false =>
      cases fix with
      | true =>
        cases f with
        | false =>
          obtain rfl : fin = false := by cases fin with | false => rfl | true => exact absurd (HO.1 rfl) (by simp)
          clear HO hX4 hR3 hB3 c3 z3 z2
          go_wp2_with (refine wpList_store_row rfl 25 (.tmp 6) (.tmp 27) rfl (w.heap.size + 1) (thC thZ) rfl rfl 25 (thC thZ) (unhide hR1) (th_size thZ) rfl (th_one thZ) ?_)
          have hR5 := setRow_heap _ (w.heap.size + 1) _ (thC thZ) 25 (0, 0) (unhide hR1)
          have hB5 := Go.below_setRow (unhide hB1) (show w.heap.size ≤ w.heap.size + 1 by omega) (thC thZ)
          exact bodyPost_ret (results_cb_tmp (by exact Try.results23) _ _ (w.heap.size + 1) 25 (thC thZ) _ rfl hR5 Try.underlying25 (th_size thZ)) rfl ⟨rfl, hB5⟩
        | true =>
          obtain rfl : fin = true := HO.2 (by simp)
          clear HO hR1 hB1
          go_wp2_with (first
            | (refine wpList_load_row rfl 25 (.tmp 3) rfl w.heap.size rfl 25 (thC y) (0, 0) _ (unhide hX4) Try.underlying25 rfl (th_size y) ?_)
            | (refine wpList_store_row rfl 25 (.tmp 6) (.tmp 32) rfl (w.heap.size + 1) (thC y) rfl rfl 25 (thC thZ) (unhide hR3) (th_size y) rfl (th_one y) ?_))
          have hR5 := setRow_heap _ (w.heap.size + 1) _ (thC y) 25 (0, 0) (unhide hR3)
          have hB5 := Go.below_setRow (unhide hB3) (show w.heap.size ≤ w.heap.size + 1 by omega) (thC y)
          exact bodyPost_ret (results_cb_tmp (by exact Try.results23) _ _ (w.heap.size + 1) 25 (thC y) _ rfl hR5 Try.underlying25 (th_size y)) rfl ⟨by rw [unhide hy]; rfl, hB5⟩
      | false =>
        obtain rfl : fin = true := HO.2 (by simp)
        clear HO hR1 hB1
        go_wp2_with (first
          | (refine wpList_load_row rfl 25 (.tmp 3) rfl w.heap.size rfl 25 (thC y) (0, 0) _ (unhide hX4) Try.underlying25 rfl (th_size y) ?_)
          | (refine wpList_store_row rfl 25 (.tmp 6) (.tmp 32) rfl (w.heap.size + 1) (thC y) rfl rfl 25 (thC thZ) (unhide hR3) (th_size y) rfl (th_one y) ?_))
        have hR5 := setRow_heap _ (w.heap.size + 1) _ (thC y) 25 (0, 0) (unhide hR3)
        have hB5 := Go.below_setRow (unhide hB3) (show w.heap.size ≤ w.heap.size + 1 by omega) (thC y)
        exact bodyPost_ret (results_cb_tmp (by exact Try.results23) _ _ (w.heap.size + 1) 25 (thC y) _ rfl hR5 Try.underlying25 (th_size y)) rfl ⟨by rw [unhide hy]; rfl, hB5⟩
set_option maxRecDepth 20000 in
set_option maxHeartbeats 2000000 in
theorem specRestored_any (x : Th) (w : World) :
    Calls Try.prog 25 #[.agg (thC x)] w fun e w' => e = .returned (.agg (thC (rstT x))) ∧ Below w.heap.size w w' := by
  obtain ⟨id, kind, hid, fix, sgn, wrp, val, nxt⟩ := x
  obtain ⟨y, hy⟩ : ∃ y : Th, y = rstT ⟨id, kind, hid, fix, sgn, wrp, val, nxt⟩ := ⟨_, rfl⟩
  rw [← hy]
  have hxe : thC ⟨id, kind, hid, fix, sgn, wrp, val, nxt⟩ = #[.int .i64 id, .int .i64 kind, .bool hid, .bool fix, .bool sgn, .bool wrp, .string val, .int .i64 nxt] := rfl
  rw [hxe]
  obtain ⟨W, hW, hA, hR, hb, hlt⟩ := two_cb w #[.int .i64 id, .int .i64 kind, .bool hid, .bool fix, .bool sgn, .bool wrp, .string val, .int .i64 nxt] (thC thZ) 25 25
  unfold thC thZ at hW
  simp only at hW
  have a4 := hA.cell 4 rfl
  have z4 := hA.frozen 4
  have hX1 := hA.set 4 (.bool false)
  have a7 := hX1.cell 7 rfl
  have z7 := hX1.frozen 7
  have hX2 := hX1.set 7 (.int .i64 0)
  have a0 := hX2.cell 0 rfl
  have z0 := hX2.frozen 0
  have hX3 := hX2.set 0 (.int .i64 0)
  have hX4 := hide (cb_eq hX3 (show thC y = _ by rw [hy]; rfl))
  have hR3 := hide (((hR.set_other (h := w.heap.size) (k := 4) (by omega) (.bool false)).set_other (h := w.heap.size) (k := 7) (by omega) (.int .i64 0)).set_other (h := w.heap.size) (k := 0) (by omega) (.int .i64 0))
  have hB3 := hide (((hb.setCell (p := ⟨w.heap.size, 4, none⟩) (Nat.le_refl _) (.bool false)).setCell (p := ⟨w.heap.size, 7, none⟩) (Nat.le_refl _) (.int .i64 0)).setCell (p := ⟨w.heap.size, 0, none⟩) (Nat.le_refl _) (.int .i64 0))
  replace hy := hide hy
  clear hA hX1 hX2 hX3 hR hb hxe
  go_enter Try.func25, Try.ntmps25
  go_wp2_with (first
    | (refine wpList_load_row rfl 25 (.tmp 1) rfl w.heap.size rfl 25 (thC y) (0, 0) _ (unhide hX4) Try.underlying25 rfl (th_size y) ?_)
    | (refine wpList_store_row rfl 25 (.tmp 2) (.tmp 6) rfl (w.heap.size + 1) (thC y) rfl rfl 25 (thC thZ) (unhide hR3) (th_size y) rfl (th_one y) ?_))
  have hR5 := setRow_heap _ (w.heap.size + 1) _ (thC y) 25 (0, 0) (unhide hR3)
  have hB5 := Go.below_setRow (unhide hB3) (show w.heap.size ≤ w.heap.size + 1 by omega) (thC y)
  exact bodyPost_ret (results_cb (by exact Try.results25) _ _ (w.heap.size + 1) 25 (thC y) _ rfl hR5 Try.underlying25 (th_size y)) rfl ⟨rfl, hB5⟩
set_option maxRecDepth 20000 in
set_option maxHeartbeats 2000000 in
theorem specDefaults_any (k : Int) (s : ByteArray) (hs : s.size ≤ 4000000) (w : World) :
    Calls Try.prog 18 #[.int .i64 k, .string s] w fun e w' => e = .returned (.tuple #[.agg (thC (defT k s)), .bool (defOk k s)]) ∧ Below w.heap.size w w' := by
  have CD := hide (fun W => specDigest_any s hs W)
  have ET : defT k s = if k = 1 then ⟨0, k, true, false, false, true, digB s, 0⟩ else if k = 2 then ⟨0, k, true, false, true, false, digB s, 0⟩ else if k = 3 ∧ s.size ≤ 100 then ⟨0, k, false, false, false, false, s, 0⟩ else thZ := rfl
  have EO : defOk k s = decide (k = 1 ∨ k = 2 ∨ (k = 3 ∧ s.size ≤ 100)) := rfl
  rw [ET, EO]
  clear ET EO
  generalize digB s = d at *
  obtain ⟨W, hW, hR, hb, hlt⟩ := one_cb w (thC thZ) 25
  unfold thC thZ at hW
  simp only at hW
  have HR := hide (fun (W' : World) (h : Below W.heap.size W W') => hR.below h hlt)
  have hR0 := hide hR
  have hb0 := hide hb
  clear hR
  by_cases h1 : k = 1
  · subst h1
    obtain ⟨y, hy⟩ : ∃ y : Th, y = ⟨0, 1, true, false, false, true, d, 0⟩ := ⟨_, rfl⟩
    replace hy := hide hy
    go_enter Try.func18, Try.ntmps18
    go_wp2_with fail
    refine (unhide CD W).mono ?_
    rintro e w1 ⟨rfl, hb1⟩
    have hR1 := hide (unhide HR w1 hb1)
    have hB1 := hide (hb.trans (hb1.mono hb.size))
    clear hb hb1 hW HR hR0 hb0 CD
    go_wp2_with (refine wpList_store_row rfl 25 (.tmp 4) (.tmp 12) rfl w.heap.size (thC y) rfl (by rw [unhide hy]; rfl) 25 (thC thZ) (unhide hR1) (th_size y) rfl (th_one y) ?_)
    have hR5 := setRow_heap _ w.heap.size _ (thC y) 25 (0, 0) (unhide hR1)
    have hB5 := Go.below_setRow (unhide hB1) (Nat.le_refl _) (thC y)
    exact bodyPost_ret (results_cb_tmp (by exact Try.results18) _ _ w.heap.size 25 (thC y) _ rfl hR5 Try.underlying25 (th_size y)) rfl ⟨by rw [unhide hy]; rfl, hB5⟩
  by_cases h2 : k = 2
  · subst h2
    obtain ⟨y, hy⟩ : ∃ y : Th, y = ⟨0, 2, true, false, true, false, d, 0⟩ := ⟨_, rfl⟩
    replace hy := hide hy
    go_enter Try.func18, Try.ntmps18
    go_wp2_with fail
    refine (unhide CD W).mono ?_
    rintro e w1 ⟨rfl, hb1⟩
    have hR1 := hide (unhide HR w1 hb1)
    have hB1 := hide (hb.trans (hb1.mono hb.size))
    clear hb hb1 hW HR hR0 hb0 CD
    go_wp2_with (refine wpList_store_row rfl 25 (.tmp 4) (.tmp 18) rfl w.heap.size (thC y) rfl (by rw [unhide hy]; rfl) 25 (thC thZ) (unhide hR1) (th_size y) rfl (th_one y) ?_)
    have hR5 := setRow_heap _ w.heap.size _ (thC y) 25 (0, 0) (unhide hR1)
    have hB5 := Go.below_setRow (unhide hB1) (Nat.le_refl _) (thC y)
    exact bodyPost_ret (results_cb_tmp (by exact Try.results18) _ _ w.heap.size 25 (thC y) _ rfl hR5 Try.underlying25 (th_size y)) rfl ⟨by rw [unhide hy]; rfl, hB5⟩
  have n1 : (k == 1) = false := by rw [beq_eq_false_iff_ne]; exact h1
  have n2 : (k == 2) = false := by rw [beq_eq_false_iff_ne]; exact h2
  by_cases h3 : k = 3
  · subst h3
    by_cases hz : s.size ≤ 100
    · have hz' : (s.size : Int) ≤ 100 := by omega
      obtain ⟨y, hy⟩ : ∃ y : Th, y = ⟨0, 3, false, false, false, false, s, 0⟩ := ⟨_, rfl⟩
      replace hy := hide hy
      clear hb CD HR
      go_enter Try.func18, Try.ntmps18
      go_wp2_with (refine wpList_store_row rfl 25 (.tmp 4) (.tmp 26) rfl w.heap.size (thC y) rfl (by rw [unhide hy]; rfl) 25 (thC thZ) (unhide hR0) (th_size y) rfl (th_one y) ?_)
      have hR5 := setRow_heap _ w.heap.size _ (thC y) 25 (0, 0) (unhide hR0)
      have hB5 := Go.below_setRow (unhide hb0) (Nat.le_refl _) (thC y)
      exact bodyPost_ret (results_cb_tmp (by exact Try.results18) _ _ w.heap.size 25 (thC y) _ rfl hR5 Try.underlying25 (th_size y)) rfl ⟨by rw [unhide hy]; simp, hB5⟩
    · have hz' : ¬ (s.size : Int) ≤ 100 := by omega
      have hz2 : decide ((s.size : Int) ≤ 100) = false := by rw [decide_eq_false_iff_not]; exact hz'
      obtain ⟨y, hy⟩ : ∃ y : Th, y = thZ := ⟨_, rfl⟩
      replace hy := hide hy
      clear hb CD HR
      go_enter Try.func18, Try.ntmps18
      go_wp2_with (refine wpList_store_row rfl 25 (.tmp 4) (.tmp 27) rfl w.heap.size (thC y) rfl (by rw [unhide hy]; rfl) 25 (thC thZ) (unhide hR0) (th_size y) rfl (th_one y) ?_)
      have hR5 := setRow_heap _ w.heap.size _ (thC y) 25 (0, 0) (unhide hR0)
      have hB5 := Go.below_setRow (unhide hb0) (Nat.le_refl _) (thC y)
      exact bodyPost_ret (results_cb_tmp (by exact Try.results18) _ _ w.heap.size 25 (thC y) _ rfl hR5 Try.underlying25 (th_size y)) rfl ⟨by rw [unhide hy]; simp, hB5⟩
  have n3 : (k == 3) = false := by rw [beq_eq_false_iff_ne]; exact h3
  obtain ⟨y, hy⟩ : ∃ y : Th, y = thZ := ⟨_, rfl⟩
  replace hy := hide hy
  clear hb CD HR
  go_enter Try.func18, Try.ntmps18
  go_wp2_with (refine wpList_store_row rfl 25 (.tmp 4) (.tmp 27) rfl w.heap.size (thC y) rfl (by rw [unhide hy]; rfl) 25 (thC thZ) (unhide hR0) (th_size y) rfl (th_one y) ?_)
  have hR5 := setRow_heap _ w.heap.size _ (thC y) 25 (0, 0) (unhide hR0)
  have hB5 := Go.below_setRow (unhide hb0) (Nat.le_refl _) (thC y)
  exact bodyPost_ret (results_cb_tmp (by exact Try.results18) _ _ w.heap.size 25 (thC y) _ rfl hR5 Try.underlying25 (th_size y)) rfl ⟨by rw [unhide hy]; simp, hB5⟩
end Go.Proofs.Ytecbpplocokedaa
