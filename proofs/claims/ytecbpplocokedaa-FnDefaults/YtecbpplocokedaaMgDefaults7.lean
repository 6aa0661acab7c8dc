/- Merged: RuI3, DrawT, DrawN, DrawH, DrawG, Pik9. -/
import Derived.Test.YtecbpplocokedaaMgDefaults1
import Derived.Test.YtecbpplocokedaaMgDefaults2
import Derived.Test.YtecbpplocokedaaMgDefaults3
import Derived.Test.YtecbpplocokedaaMgDefaults4
import Derived.Test.YtecbpplocokedaaMgDefaults5
import Derived.Test.YtecbpplocokedaaMgDefaults6
/- The project's rules: changes, new things, and those that come in again, over the loaded program. -/
namespace Go.Proofs.Ytecbpplocokedaa
open Go.RowKit
set_option maxRecDepth 20000 in
theorem strClone20_any (s : ByteArray) (w : World) (hs : s.size ≤ 4000000) :
    Calls Try.prog 38 #[.string s] w fun e w' => e = .returned (.string s) ∧ Below w.heap.size w w' := by
  have hlim : s.size ≤ 281474976710656 := by omega
  have C := hide (Try.stringslite_Clone s w hlim)
  go_enter Try.func38, Try.ntmps38
  go_wp2_with fail
  refine (unhide C).mono ?_
  rintro e w2 ⟨rfl, hb2⟩
  go_wp2
  go_ret
  exact ⟨rfl, hb2⟩
set_option maxRecDepth 20000 in
set_option maxHeartbeats 2000000 in
theorem copied_any (x : Th) (hx : x.val.size ≤ 4000000) (w : World) :
    Calls Try.prog 29 #[.agg (thC x)] w fun e w' => e = .returned (.agg (thC x)) ∧ Below w.heap.size w w' := by
  have CL := hide (fun W => strClone20_any x.val W hx)
  obtain ⟨y, hy⟩ : ∃ y : Th, y = x := ⟨_, rfl⟩
  obtain ⟨id, kind, hid, fix, sgn, wrp, val, nxt⟩ := x
  have hxe : thC ⟨id, kind, hid, fix, sgn, wrp, val, nxt⟩ = #[.int .i64 id, .int .i64 kind, .bool hid, .bool fix, .bool sgn, .bool wrp, .string val, .int .i64 nxt] := rfl
  rw [show thC ⟨id, kind, hid, fix, sgn, wrp, val, nxt⟩ = thC y by rw [hy]]
  rw [show thC y = #[.int .i64 id, .int .i64 kind, .bool hid, .bool fix, .bool sgn, .bool wrp, .string val, .int .i64 nxt] by rw [hy]; rfl]
  simp only at CL hx
  obtain ⟨W, hW, hA, hR, hb, hlt⟩ := two_cb w #[.int .i64 id, .int .i64 kind, .bool hid, .bool fix, .bool sgn, .bool wrp, .string val, .int .i64 nxt] (thC thZ) 25 25
  unfold thC thZ at hW
  simp only at hW
  have a6 := hA.cell 6 rfl
  replace hA := hide hA; replace hR := hide hR
  go_enter Try.func29, Try.ntmps29
  go_wp2_with fail
  refine (unhide CL W).mono ?_
  rintro e w1 ⟨rfl, hb1⟩
  have hA1 := (unhide hA).below hb1 (by omega)
  have hR1 := (unhide hR).below hb1 (by omega)
  have hB1 := hb.trans (hb1.mono hb.size)
  clear a6 hA hR hb hb1 CL hW hxe
  have b6 := hA1.cell 6 rfl
  have z6 := hA1.frozen 6
  have hX2 := hA1.set 6 (.string val)
  have hX3 := hide (cb_eq hX2 (show thC y = _ by rw [hy]; rfl))
  have hR3 := hide (hR1.set_other (h := w.heap.size) (k := 6) (by omega) (.string val))
  have hB3 := hide (hB1.setCell (p := ⟨w.heap.size, 6, none⟩) (Nat.le_refl _) (.string val))
  replace hy := hide hy
  clear hA1 hX2 hR1 hB1
  go_wp2_with (first
    | (refine wpList_load_row rfl 25 (.tmp 1) rfl w.heap.size rfl 25 (thC y) (0, 0) _ (unhide hX3) Try.underlying25 rfl (th_size y) ?_)
    | (refine wpList_store_row rfl 25 (.tmp 2) (.tmp 7) rfl (w.heap.size + 1) (thC y) rfl rfl 25 (thC thZ) (unhide hR3) (th_size y) rfl (th_one y) ?_))
  have hR5 := setRow_heap _ (w.heap.size + 1) _ (thC y) 25 (0, 0) (unhide hR3)
  have hB5 := Go.below_setRow (unhide hB3) (show w.heap.size ≤ w.heap.size + 1 by omega) (thC y)
  exact bodyPost_ret (results_cb (by exact Try.results29) _ _ (w.heap.size + 1) 25 (thC y) _ rfl hR5 Try.underlying25 (th_size y)) rfl ⟨by rw [unhide hy]; rfl, hB5⟩
set_option maxRecDepth 20000 in
set_option maxHeartbeats 4000000 in
theorem implChange_any (x : Th) (h f : Bool) (hx : x.val.size ≤ 4000000) (w : World) :
    Calls Try.prog 11 #[.agg (thC x), .bool h, .bool f] w fun e w' => e = .returned (.tuple #[.agg (thC (chgT x h f)), .bool (chgOk x h f)]) ∧ Below w.heap.size w w' := by
  have CO := hide (fun W => implThingOk_any x W)
  have CP := hide (fun W => copied_any x hx W)
  have HO : chgOk x h f = true ↔ thOk x = true ∧ (x.hid = true → h = true) ∧ (x.fix = true → f = true) := by unfold chgOk; exact decide_eq_true_iff
  have ET : chgT x h f = if chgOk x h f = true then { x with hid := h, fix := f } else thZ := rfl
  rw [ET]
  clear ET
  generalize chgOk x h f = fin at *
  generalize thOk x = ok at *
  obtain ⟨y0, hy0⟩ : ∃ y0 : Th, y0 = x := ⟨_, rfl⟩
  obtain ⟨id, kind, hid, fix, sgn, wrp, val, nxt⟩ := x
  rw [← hy0] at CP
  have hxe : thC y0 = #[.int .i64 id, .int .i64 kind, .bool hid, .bool fix, .bool sgn, .bool wrp, .string val, .int .i64 nxt] := by rw [hy0]; rfl
  rw [show thC ⟨id, kind, hid, fix, sgn, wrp, val, nxt⟩ = #[.int .i64 id, .int .i64 kind, .bool hid, .bool fix, .bool sgn, .bool wrp, .string val, .int .i64 nxt] from rfl] at CO ⊢
  simp only at HO ⊢
  obtain ⟨W, hW, hA, hR, hb, hlt⟩ := two_cb w #[.int .i64 id, .int .i64 kind, .bool hid, .bool fix, .bool sgn, .bool wrp, .string val, .int .i64 nxt] (thC thZ) 25 25
  rw [show thC thZ = #[.int .i64 0, .int .i64 0, .bool false, .bool false, .bool false, .bool false, .string ⟨#[]⟩, .int .i64 0] from rfl] at hW
  have a0 := hA.cell 0 rfl
  have a1 := hA.cell 1 rfl
  have a2 := hA.cell 2 rfl
  have a3 := hA.cell 3 rfl
  have a4 := hA.cell 4 rfl
  have a5 := hA.cell 5 rfl
  have a6 := hA.cell 6 rfl
  have a7 := hA.cell 7 rfl
  rw [← hxe] at hA
  replace hA := hide hA; replace hR := hide hR
  replace hy0 := hide hy0; replace hxe := hide hxe
  cases hid with
  | true =>
    cases h with
    | false =>
      obtain rfl : fin = false := by cases fin with | false => rfl | true => exact absurd (HO.1 rfl) (by simp)
      clear HO CO CP
      go_enter Try.func11, Try.ntmps11
      go_wp2_with (refine wpList_store_row rfl 25 (.tmp 6) (.tmp 30) rfl (w.heap.size + 1) (thC thZ) rfl rfl 25 (thC thZ) (unhide hR) (th_size thZ) rfl (th_one thZ) ?_)
      have hR5 := setRow_heap _ (w.heap.size + 1) _ (thC thZ) 25 (0, 0) (unhide hR)
      have hB5 := Go.below_setRow hb (show w.heap.size ≤ w.heap.size + 1 by omega) (thC thZ)
      exact bodyPost_ret (results_cb_tmp (by exact Try.results11) _ _ (w.heap.size + 1) 25 (thC thZ) _ rfl hR5 Try.underlying25 (th_size thZ)) rfl ⟨rfl, hB5⟩
    | true =>
      cases fix with
      | true =>
        cases f with
        | false =>
          obtain rfl : fin = false := by cases fin with | false => rfl | true => exact absurd (HO.1 rfl) (by simp)
          clear HO CO CP
          go_enter Try.func11, Try.ntmps11
          go_wp2_with (refine wpList_store_row rfl 25 (.tmp 6) (.tmp 30) rfl (w.heap.size + 1) (thC thZ) rfl rfl 25 (thC thZ) (unhide hR) (th_size thZ) rfl (th_one thZ) ?_)
          have hR5 := setRow_heap _ (w.heap.size + 1) _ (thC thZ) 25 (0, 0) (unhide hR)
          have hB5 := Go.below_setRow hb (show w.heap.size ≤ w.heap.size + 1 by omega) (thC thZ)
          exact bodyPost_ret (results_cb_tmp (by exact Try.results11) _ _ (w.heap.size + 1) 25 (thC thZ) _ rfl hR5 Try.underlying25 (th_size thZ)) rfl ⟨rfl, hB5⟩
        | true =>
          go_enter Try.func11, Try.ntmps11
          go_wp2_with fail
          refine (unhide CO W).mono ?_
          rintro e w1 ⟨rfl, hb1⟩
          have hA1 := hide ((unhide hA).below hb1 (by omega))
          have hR1 := hide ((unhide hR).below hb1 (by omega))
          have hB1 := hb.trans (hb1.mono hb.size)
          have hs1 : w.heap.size + 1 < w1.heap.size := (unhide hR1).lt
          clear a0 a1 a2 a3 a4 a5 a6 a7 hA hR hb hb1 CO hW hlt
          cases ok with
          | false =>
            obtain rfl : fin = false := by cases fin with | false => rfl | true => exact absurd (HO.1 rfl) (by simp)
            clear HO CP hA1
            go_wp2_with (refine wpList_store_row rfl 25 (.tmp 6) (.tmp 30) rfl (w.heap.size + 1) (thC thZ) rfl rfl 25 (thC thZ) (unhide hR1) (th_size thZ) rfl (th_one thZ) ?_)
            have hR5 := setRow_heap _ (w.heap.size + 1) _ (thC thZ) 25 (0, 0) (unhide hR1)
            have hB5 := Go.below_setRow hB1 (show w.heap.size ≤ w.heap.size + 1 by omega) (thC thZ)
            exact bodyPost_ret (results_cb_tmp (by exact Try.results11) _ _ (w.heap.size + 1) 25 (thC thZ) _ rfl hR5 Try.underlying25 (th_size thZ)) rfl ⟨rfl, hB5⟩
          | true =>
            obtain rfl : fin = true := HO.2 (by simp)
            clear HO
            go_wp2_with (refine wpList_load_row rfl 25 (.tmp 3) rfl w.heap.size rfl 25 (thC y0) (0, 0) _ (unhide hA1) Try.underlying25 rfl (th_size y0) ?_)
            refine (unhide CP w1).mono ?_
            rintro e w2 ⟨rfl, hb2⟩
            have hR2 := (unhide hR1).step hb2
            have hB2 := hB1.trans (hb2.mono hB1.size)
            have hs2 : w.heap.size + 1 < w2.heap.size := hR2.lt
            clear hA1 hR1 hB1 hb2 CP hs1
            have hZ := hide (CB.new w2 #[.int .i64 0, .int .i64 0, .bool false, .bool false, .bool false, .bool false, .string ⟨#[]⟩, .int .i64 0] 25)
            have hR3 := (hR2.alloc (.cells #[.int .i64 0, .int .i64 0, .bool false, .bool false, .bool false, .bool false, .string ⟨#[]⟩, .int .i64 0] 25))
            have hB3 := hB2.alloc hB2.size (.cells #[.int .i64 0, .int .i64 0, .bool false, .bool false, .bool false, .bool false, .string ⟨#[]⟩, .int .i64 0] 25)
            have hV3 := setRow_heap _ w2.heap.size _ (thC y0) 25 (0, 0) (unhide hZ)
            have hB4 := Go.below_setRow hB3 (show w.heap.size ≤ w2.heap.size by omega) (thC y0)
            have hR4 := (setRow_other (w2.alloc (.cells #[.int .i64 0, .int .i64 0, .bool false, .bool false, .bool false, .bool false, .string ⟨#[]⟩, .int .i64 0] 25)) w2.heap.size (w.heap.size + 1) (thC y0) (by omega)).trans hR3
            obtain ⟨V, hV⟩ : ∃ V, (w2.alloc (.cells #[.int .i64 0, .int .i64 0, .bool false, .bool false, .bool false, .bool false, .string ⟨#[]⟩, .int .i64 0] 25)).setRow w2.heap.size (thC y0) = V := ⟨_, rfl⟩
            rw [hV] at hV3 hB4 hR4
            replace hV3 : CB V w2.heap.size 25 (thC y0) := hV3
            replace hR4 : CB V (w.heap.size + 1) 25 (thC thZ) := hR4
            clear hR2 hB2 hR3 hB3
            rw [unhide hxe] at hV3
            have c2 := hV3.cell 2 rfl
            have z2 := hV3.frozen 2
            have hV4 := hV3.set 2 (.bool true)
            have c3 := hV4.cell 3 rfl
            have z3 := hV4.frozen 3
            have hV5 := hV4.set 3 (.bool true)
            obtain ⟨y, hy⟩ : ∃ y : Th, y = ⟨id, kind, true, true, sgn, wrp, val, nxt⟩ := ⟨_, rfl⟩
            have hV6 := hide (cb_eq hV5 (show thC y = _ by rw [hy]; rfl))
            have hR6 := hide ((hR4.set_other (h := w2.heap.size) (k := 2) (by omega) (.bool true)).set_other (h := w2.heap.size) (k := 3) (by omega) (.bool true))
            have hB6 := hide ((hB4.setCell (p := ⟨w2.heap.size, 2, none⟩) (show w.heap.size ≤ w2.heap.size by omega) (.bool true)).setCell (p := ⟨w2.heap.size, 3, none⟩) (show w.heap.size ≤ w2.heap.size by omega) (.bool true))
            replace hy := hide hy
            clear hV3 hV4 hV5 hR4 hB4
            replace hV := hide hV
            go_wp2_with (first
              | (refine wpList_store_row rfl 25 (.tmp 9) (.tmp 32) rfl w2.heap.size (thC y0) rfl rfl 25 _ (unhide hZ) (th_size y0) rfl (th_one y0) ?_; rw [unhide hV])
              | (refine wpList_load_row rfl 25 (.tmp 9) rfl w2.heap.size rfl 25 (thC y) (0, 0) _ (unhide hV6) Try.underlying25 rfl (th_size y) ?_)
              | (refine wpList_store_row rfl 25 (.tmp 6) (.tmp 37) rfl (w.heap.size + 1) (thC y) rfl rfl 25 (thC thZ) (unhide hR6) (th_size y) rfl (th_one y) ?_))
            have hR7 := setRow_heap _ (w.heap.size + 1) _ (thC y) 25 (0, 0) (unhide hR6)
            have hB7 := Go.below_setRow (unhide hB6) (show w.heap.size ≤ w.heap.size + 1 by omega) (thC y)
            exact bodyPost_ret (results_cb_tmp (by exact Try.results11) _ _ (w.heap.size + 1) 25 (thC y) _ rfl hR7 Try.underlying25 (th_size y)) rfl ⟨by rw [unhide hy]; rfl, hB7⟩
      | false =>
        go_enter Try.func11, Try.ntmps11
        go_wp2_with fail
        refine (unhide CO W).mono ?_
        rintro e w1 ⟨rfl, hb1⟩
        have hA1 := hide ((unhide hA).below hb1 (by omega))
        have hR1 := hide ((unhide hR).below hb1 (by omega))
        have hB1 := hb.trans (hb1.mono hb.size)
        have hs1 : w.heap.size + 1 < w1.heap.size := (unhide hR1).lt
        clear a0 a1 a2 a3 a4 a5 a6 a7 hA hR hb hb1 CO hW hlt
        cases ok with
        | false =>
          obtain rfl : fin = false := by cases fin with | false => rfl | true => exact absurd (HO.1 rfl) (by simp)
          clear HO CP hA1
          go_wp2_with (refine wpList_store_row rfl 25 (.tmp 6) (.tmp 30) rfl (w.heap.size + 1) (thC thZ) rfl rfl 25 (thC thZ) (unhide hR1) (th_size thZ) rfl (th_one thZ) ?_)
          have hR5 := setRow_heap _ (w.heap.size + 1) _ (thC thZ) 25 (0, 0) (unhide hR1)
          have hB5 := Go.below_setRow hB1 (show w.heap.size ≤ w.heap.size + 1 by omega) (thC thZ)
          exact bodyPost_ret (results_cb_tmp (by exact Try.results11) _ _ (w.heap.size + 1) 25 (thC thZ) _ rfl hR5 Try.underlying25 (th_size thZ)) rfl ⟨rfl, hB5⟩
        | true =>
          obtain rfl : fin = true := HO.2 (by simp)
          clear HO
          go_wp2_with (refine wpList_load_row rfl 25 (.tmp 3) rfl w.heap.size rfl 25 (thC y0) (0, 0) _ (unhide hA1) Try.underlying25 rfl (th_size y0) ?_)
          refine (unhide CP w1).mono ?_
          rintro e w2 ⟨rfl, hb2⟩
          have hR2 := (unhide hR1).step hb2
          have hB2 := hB1.trans (hb2.mono hB1.size)
          have hs2 : w.heap.size + 1 < w2.heap.size := hR2.lt
          clear hA1 hR1 hB1 hb2 CP hs1
          have hZ := hide (CB.new w2 #[.int .i64 0, .int .i64 0, .bool false, .bool false, .bool false, .bool false, .string ⟨#[]⟩, .int .i64 0] 25)
          have hR3 := (hR2.alloc (.cells #[.int .i64 0, .int .i64 0, .bool false, .bool false, .bool false, .bool false, .string ⟨#[]⟩, .int .i64 0] 25))
          have hB3 := hB2.alloc hB2.size (.cells #[.int .i64 0, .int .i64 0, .bool false, .bool false, .bool false, .bool false, .string ⟨#[]⟩, .int .i64 0] 25)
          have hV3 := setRow_heap _ w2.heap.size _ (thC y0) 25 (0, 0) (unhide hZ)
          have hB4 := Go.below_setRow hB3 (show w.heap.size ≤ w2.heap.size by omega) (thC y0)
          have hR4 := (setRow_other (w2.alloc (.cells #[.int .i64 0, .int .i64 0, .bool false, .bool false, .bool false, .bool false, .string ⟨#[]⟩, .int .i64 0] 25)) w2.heap.size (w.heap.size + 1) (thC y0) (by omega)).trans hR3
          obtain ⟨V, hV⟩ : ∃ V, (w2.alloc (.cells #[.int .i64 0, .int .i64 0, .bool false, .bool false, .bool false, .bool false, .string ⟨#[]⟩, .int .i64 0] 25)).setRow w2.heap.size (thC y0) = V := ⟨_, rfl⟩
          rw [hV] at hV3 hB4 hR4
          replace hV3 : CB V w2.heap.size 25 (thC y0) := hV3
          replace hR4 : CB V (w.heap.size + 1) 25 (thC thZ) := hR4
          clear hR2 hB2 hR3 hB3
          rw [unhide hxe] at hV3
          have c2 := hV3.cell 2 rfl
          have z2 := hV3.frozen 2
          have hV4 := hV3.set 2 (.bool true)
          have c3 := hV4.cell 3 rfl
          have z3 := hV4.frozen 3
          have hV5 := hV4.set 3 (.bool f)
          obtain ⟨y, hy⟩ : ∃ y : Th, y = ⟨id, kind, true, f, sgn, wrp, val, nxt⟩ := ⟨_, rfl⟩
          have hV6 := hide (cb_eq hV5 (show thC y = _ by rw [hy]; rfl))
          have hR6 := hide ((hR4.set_other (h := w2.heap.size) (k := 2) (by omega) (.bool true)).set_other (h := w2.heap.size) (k := 3) (by omega) (.bool f))
          have hB6 := hide ((hB4.setCell (p := ⟨w2.heap.size, 2, none⟩) (show w.heap.size ≤ w2.heap.size by omega) (.bool true)).setCell (p := ⟨w2.heap.size, 3, none⟩) (show w.heap.size ≤ w2.heap.size by omega) (.bool f))
          replace hy := hide hy
          clear hV3 hV4 hV5 hR4 hB4
          replace hV := hide hV
          go_wp2_with (first
            | (refine wpList_store_row rfl 25 (.tmp 9) (.tmp 32) rfl w2.heap.size (thC y0) rfl rfl 25 _ (unhide hZ) (th_size y0) rfl (th_one y0) ?_; rw [unhide hV])
            | (refine wpList_load_row rfl 25 (.tmp 9) rfl w2.heap.size rfl 25 (thC y) (0, 0) _ (unhide hV6) Try.underlying25 rfl (th_size y) ?_)
            | (refine wpList_store_row rfl 25 (.tmp 6) (.tmp 37) rfl (w.heap.size + 1) (thC y) rfl rfl 25 (thC thZ) (unhide hR6) (th_size y) rfl (th_one y) ?_))
          have hR7 := setRow_heap _ (w.heap.size + 1) _ (thC y) 25 (0, 0) (unhide hR6)
          have hB7 := Go.below_setRow (unhide hB6) (show w.heap.size ≤ w.heap.size + 1 by omega) (thC y)
          exact bodyPost_ret (results_cb_tmp (by exact Try.results11) _ _ (w.heap.size + 1) 25 (thC y) _ rfl hR7 Try.underlying25 (th_size y)) rfl ⟨by rw [unhide hy]; rfl, hB7⟩
  | false =>
    cases fix with
    | true =>
      cases f with
      | false =>
        obtain rfl : fin = false := by cases fin with | false => rfl | true => exact absurd (HO.1 rfl) (by simp)
        clear HO CO CP
        go_enter Try.func11, Try.ntmps11
        go_wp2_with (refine wpList_store_row rfl 25 (.tmp 6) (.tmp 30) rfl (w.heap.size + 1) (thC thZ) rfl rfl 25 (thC thZ) (unhide hR) (th_size thZ) rfl (th_one thZ) ?_)
        have hR5 := setRow_heap _ (w.heap.size + 1) _ (thC thZ) 25 (0, 0) (unhide hR)
        have hB5 := Go.below_setRow hb (show w.heap.size ≤ w.heap.size + 1 by omega) (thC thZ)
        exact bodyPost_ret (results_cb_tmp (by exact Try.results11) _ _ (w.heap.size + 1) 25 (thC thZ) _ rfl hR5 Try.underlying25 (th_size thZ)) rfl ⟨rfl, hB5⟩
      | true =>
        go_enter Try.func11, Try.ntmps11
        go_wp2_with fail
        refine (unhide CO W).mono ?_
        rintro e w1 ⟨rfl, hb1⟩
        have hA1 := hide ((unhide hA).below hb1 (by omega))
        have hR1 := hide ((unhide hR).below hb1 (by omega))
        have hB1 := hb.trans (hb1.mono hb.size)
        have hs1 : w.heap.size + 1 < w1.heap.size := (unhide hR1).lt
        clear a0 a1 a2 a3 a4 a5 a6 a7 hA hR hb hb1 CO hW hlt
        cases ok with
        | false =>
          obtain rfl : fin = false := by cases fin with | false => rfl | true => exact absurd (HO.1 rfl) (by simp)
          clear HO CP hA1
          go_wp2_with (refine wpList_store_row rfl 25 (.tmp 6) (.tmp 30) rfl (w.heap.size + 1) (thC thZ) rfl rfl 25 (thC thZ) (unhide hR1) (th_size thZ) rfl (th_one thZ) ?_)
          have hR5 := setRow_heap _ (w.heap.size + 1) _ (thC thZ) 25 (0, 0) (unhide hR1)
          have hB5 := Go.below_setRow hB1 (show w.heap.size ≤ w.heap.size + 1 by omega) (thC thZ)
          exact bodyPost_ret (results_cb_tmp (by exact Try.results11) _ _ (w.heap.size + 1) 25 (thC thZ) _ rfl hR5 Try.underlying25 (th_size thZ)) rfl ⟨rfl, hB5⟩
        | true =>
          obtain rfl : fin = true := HO.2 (by simp)
          clear HO
          go_wp2_with (refine wpList_load_row rfl 25 (.tmp 3) rfl w.heap.size rfl 25 (thC y0) (0, 0) _ (unhide hA1) Try.underlying25 rfl (th_size y0) ?_)
          refine (unhide CP w1).mono ?_
          rintro e w2 ⟨rfl, hb2⟩
          have hR2 := (unhide hR1).step hb2
          have hB2 := hB1.trans (hb2.mono hB1.size)
          have hs2 : w.heap.size + 1 < w2.heap.size := hR2.lt
          clear hA1 hR1 hB1 hb2 CP hs1
          have hZ := hide (CB.new w2 #[.int .i64 0, .int .i64 0, .bool false, .bool false, .bool false, .bool false, .string ⟨#[]⟩, .int .i64 0] 25)
          have hR3 := (hR2.alloc (.cells #[.int .i64 0, .int .i64 0, .bool false, .bool false, .bool false, .bool false, .string ⟨#[]⟩, .int .i64 0] 25))
          have hB3 := hB2.alloc hB2.size (.cells #[.int .i64 0, .int .i64 0, .bool false, .bool false, .bool false, .bool false, .string ⟨#[]⟩, .int .i64 0] 25)
          have hV3 := setRow_heap _ w2.heap.size _ (thC y0) 25 (0, 0) (unhide hZ)
          have hB4 := Go.below_setRow hB3 (show w.heap.size ≤ w2.heap.size by omega) (thC y0)
          have hR4 := (setRow_other (w2.alloc (.cells #[.int .i64 0, .int .i64 0, .bool false, .bool false, .bool false, .bool false, .string ⟨#[]⟩, .int .i64 0] 25)) w2.heap.size (w.heap.size + 1) (thC y0) (by omega)).trans hR3
          obtain ⟨V, hV⟩ : ∃ V, (w2.alloc (.cells #[.int .i64 0, .int .i64 0, .bool false, .bool false, .bool false, .bool false, .string ⟨#[]⟩, .int .i64 0] 25)).setRow w2.heap.size (thC y0) = V := ⟨_, rfl⟩
          rw [hV] at hV3 hB4 hR4
          replace hV3 : CB V w2.heap.size 25 (thC y0) := hV3
          replace hR4 : CB V (w.heap.size + 1) 25 (thC thZ) := hR4
          clear hR2 hB2 hR3 hB3
          rw [unhide hxe] at hV3
          have c2 := hV3.cell 2 rfl
          have z2 := hV3.frozen 2
          have hV4 := hV3.set 2 (.bool h)
          have c3 := hV4.cell 3 rfl
          have z3 := hV4.frozen 3
          have hV5 := hV4.set 3 (.bool true)
          obtain ⟨y, hy⟩ : ∃ y : Th, y = ⟨id, kind, h, true, sgn, wrp, val, nxt⟩ := ⟨_, rfl⟩
          have hV6 := hide (cb_eq hV5 (show thC y = _ by rw [hy]; rfl))
          have hR6 := hide ((hR4.set_other (h := w2.heap.size) (k := 2) (by omega) (.bool h)).set_other (h := w2.heap.size) (k := 3) (by omega) (.bool true))
          have hB6 := hide ((hB4.setCell (p := ⟨w2.heap.size, 2, none⟩) (show w.heap.size ≤ w2.heap.size by omega) (.bool h)).setCell (p := ⟨w2.heap.size, 3, none⟩) (show w.heap.size ≤ w2.heap.size by omega) (.bool true))
          replace hy := hide hy
          clear hV3 hV4 hV5 hR4 hB4
          replace hV := hide hV
          go_wp2_with (first
            | (refine wpList_store_row rfl 25 (.tmp 9) (.tmp 32) rfl w2.heap.size (thC y0) rfl rfl 25 _ (unhide hZ) (th_size y0) rfl (th_one y0) ?_; rw [unhide hV])
            | (refine wpList_load_row rfl 25 (.tmp 9) rfl w2.heap.size rfl 25 (thC y) (0, 0) _ (unhide hV6) Try.underlying25 rfl (th_size y) ?_)
            | (refine wpList_store_row rfl 25 (.tmp 6) (.tmp 37) rfl (w.heap.size + 1) (thC y) rfl rfl 25 (thC thZ) (unhide hR6) (th_size y) rfl (th_one y) ?_))
          have hR7 := setRow_heap _ (w.heap.size + 1) _ (thC y) 25 (0, 0) (unhide hR6)
          have hB7 := Go.below_setRow (unhide hB6) (show w.heap.size ≤ w.heap.size + 1 by omega) (thC y)
          exact bodyPost_ret (results_cb_tmp (by exact Try.results11) _ _ (w.heap.size + 1) 25 (thC y) _ rfl hR7 Try.underlying25 (th_size y)) rfl ⟨by rw [unhide hy]; rfl, hB7⟩
    | false =>
      go_enter Try.func11, Try.ntmps11
      go_wp2_with fail
      refine (unhide CO W).mono ?_
      rintro e w1 ⟨rfl, hb1⟩
      have hA1 := hide ((unhide hA).below hb1 (by omega))
      have hR1 := hide ((unhide hR).below hb1 (by omega))
      have hB1 := hb.trans (hb1.mono hb.size)
      have hs1 : w.heap.size + 1 < w1.heap.size := (unhide hR1).lt
      clear a0 a1 a2 a3 a4 a5 a6 a7 hA hR hb hb1 CO hW hlt
      cases ok with
      | false =>
        obtain rfl : fin = false := by cases fin with | false => rfl | true => exact absurd (HO.1 rfl) (by simp)
        clear HO CP hA1
        go_wp2_with (refine wpList_store_row rfl 25 (.tmp 6) (.tmp 30) rfl (w.heap.size + 1) (thC thZ) rfl rfl 25 (thC thZ) (unhide hR1) (th_size thZ) rfl (th_one thZ) ?_)
        have hR5 := setRow_heap _ (w.heap.size + 1) _ (thC thZ) 25 (0, 0) (unhide hR1)
        have hB5 := Go.below_setRow hB1 (show w.heap.size ≤ w.heap.size + 1 by omega) (thC thZ)
        exact bodyPost_ret (results_cb_tmp (by exact Try.results11) _ _ (w.heap.size + 1) 25 (thC thZ) _ rfl hR5 Try.underlying25 (th_size thZ)) rfl ⟨rfl, hB5⟩
      | true =>
        obtain rfl : fin = true := HO.2 (by simp)
        clear HO
        go_wp2_with (refine wpList_load_row rfl 25 (.tmp 3) rfl w.heap.size rfl 25 (thC y0) (0, 0) _ (unhide hA1) Try.underlying25 rfl (th_size y0) ?_)
        refine (unhide CP w1).mono ?_
        rintro e w2 ⟨rfl, hb2⟩
        have hR2 := (unhide hR1).step hb2
        have hB2 := hB1.trans (hb2.mono hB1.size)
        have hs2 : w.heap.size + 1 < w2.heap.size := hR2.lt
        clear hA1 hR1 hB1 hb2 CP hs1
        have hZ := hide (CB.new w2 #[.int .i64 0, .int .i64 0, .bool false, .bool false, .bool false, .bool false, .string ⟨#[]⟩, .int .i64 0] 25)
        have hR3 := (hR2.alloc (.cells #[.int .i64 0, .int .i64 0, .bool false, .bool false, .bool false, .bool false, .string ⟨#[]⟩, .int .i64 0] 25))
        have hB3 := hB2.alloc hB2.size (.cells #[.int .i64 0, .int .i64 0, .bool false, .bool false, .bool false, .bool false, .string ⟨#[]⟩, .int .i64 0] 25)
        have hV3 := setRow_heap _ w2.heap.size _ (thC y0) 25 (0, 0) (unhide hZ)
        have hB4 := Go.below_setRow hB3 (show w.heap.size ≤ w2.heap.size by omega) (thC y0)
        have hR4 := (setRow_other (w2.alloc (.cells #[.int .i64 0, .int .i64 0, .bool false, .bool false, .bool false, .bool false, .string ⟨#[]⟩, .int .i64 0] 25)) w2.heap.size (w.heap.size + 1) (thC y0) (by omega)).trans hR3
        obtain ⟨V, hV⟩ : ∃ V, (w2.alloc (.cells #[.int .i64 0, .int .i64 0, .bool false, .bool false, .bool false, .bool false, .string ⟨#[]⟩, .int .i64 0] 25)).setRow w2.heap.size (thC y0) = V := ⟨_, rfl⟩
        rw [hV] at hV3 hB4 hR4
        replace hV3 : CB V w2.heap.size 25 (thC y0) := hV3
        replace hR4 : CB V (w.heap.size + 1) 25 (thC thZ) := hR4
        clear hR2 hB2 hR3 hB3
        rw [unhide hxe] at hV3
        have c2 := hV3.cell 2 rfl
        have z2 := hV3.frozen 2
        have hV4 := hV3.set 2 (.bool h)
        have c3 := hV4.cell 3 rfl
        have z3 := hV4.frozen 3
        have hV5 := hV4.set 3 (.bool f)
        obtain ⟨y, hy⟩ : ∃ y : Th, y = ⟨id, kind, h, f, sgn, wrp, val, nxt⟩ := ⟨_, rfl⟩
        have hV6 := hide (cb_eq hV5 (show thC y = _ by rw [hy]; rfl))
        have hR6 := hide ((hR4.set_other (h := w2.heap.size) (k := 2) (by omega) (.bool h)).set_other (h := w2.heap.size) (k := 3) (by omega) (.bool f))
        have hB6 := hide ((hB4.setCell (p := ⟨w2.heap.size, 2, none⟩) (show w.heap.size ≤ w2.heap.size by omega) (.bool h)).setCell (p := ⟨w2.heap.size, 3, none⟩) (show w.heap.size ≤ w2.heap.size by omega) (.bool f))
        replace hy := hide hy
        clear hV3 hV4 hV5 hR4 hB4
        replace hV := hide hV
        go_wp2_with (first
          | (refine wpList_store_row rfl 25 (.tmp 9) (.tmp 32) rfl w2.heap.size (thC y0) rfl rfl 25 _ (unhide hZ) (th_size y0) rfl (th_one y0) ?_; rw [unhide hV])
          | (refine wpList_load_row rfl 25 (.tmp 9) rfl w2.heap.size rfl 25 (thC y) (0, 0) _ (unhide hV6) Try.underlying25 rfl (th_size y) ?_)
          | (refine wpList_store_row rfl 25 (.tmp 6) (.tmp 37) rfl (w.heap.size + 1) (thC y) rfl rfl 25 (thC thZ) (unhide hR6) (th_size y) rfl (th_one y) ?_))
        have hR7 := setRow_heap _ (w.heap.size + 1) _ (thC y) 25 (0, 0) (unhide hR6)
        have hB7 := Go.below_setRow (unhide hB6) (show w.heap.size ≤ w.heap.size + 1 by omega) (thC y)
        exact bodyPost_ret (results_cb_tmp (by exact Try.results11) _ _ (w.heap.size + 1) 25 (thC y) _ rfl hR7 Try.underlying25 (th_size y)) rfl ⟨by rw [unhide hy]; rfl, hB7⟩
set_option maxRecDepth 20000 in
set_option maxHeartbeats 2000000 in
theorem implRestored_any (x : Th) (hx : x.val.size ≤ 4000000) (w : World) :
    Calls Try.prog 20 #[.agg (thC x)] w fun e w' => e = .returned (.agg (thC (rstT x))) ∧ Below w.heap.size w w' := by
  have CP := hide (fun W => copied_any x hx W)
  obtain ⟨y, hy⟩ : ∃ y : Th, y = rstT x := ⟨_, rfl⟩
  rw [← hy]
  obtain ⟨y0, hy0⟩ : ∃ y0 : Th, y0 = x := ⟨_, rfl⟩
  obtain ⟨id, kind, hid, fix, sgn, wrp, val, nxt⟩ := x
  rw [← hy0] at CP
  have hxe : thC y0 = #[.int .i64 id, .int .i64 kind, .bool hid, .bool fix, .bool sgn, .bool wrp, .string val, .int .i64 nxt] := by rw [hy0]; rfl
  rw [show thC ⟨id, kind, hid, fix, sgn, wrp, val, nxt⟩ = thC y0 by rw [hy0]]
  obtain ⟨W, hW, hA, hR, hb, hlt⟩ := two_cb w (thC y0) (thC thZ) 25 25
  rw [show thC thZ = #[.int .i64 0, .int .i64 0, .bool false, .bool false, .bool false, .bool false, .string ⟨#[]⟩, .int .i64 0] from rfl] at hW
  replace hA := hide hA; replace hR := hide hR
  replace hy0 := hide hy0; replace hxe := hide hxe
  go_enter Try.func20, Try.ntmps20
  go_wp2_with (refine wpList_load_row rfl 25 (.tmp 1) rfl w.heap.size rfl 25 (thC y0) (0, 0) _ (unhide hA) Try.underlying25 rfl (th_size y0) ?_)
  refine (unhide CP W).mono ?_
  rintro e w2 ⟨rfl, hb2⟩
  have hR2 := (unhide hR).below hb2 (by omega)
  have hB2 := hb.trans (hb2.mono hb.size)
  have hs2 : w.heap.size + 1 < w2.heap.size := hR2.lt
  clear hA hR hb hb2 CP hW hlt
  have hZ := hide (CB.new w2 #[.int .i64 0, .int .i64 0, .bool false, .bool false, .bool false, .bool false, .string ⟨#[]⟩, .int .i64 0] 25)
  have hR3 := (hR2.alloc (.cells #[.int .i64 0, .int .i64 0, .bool false, .bool false, .bool false, .bool false, .string ⟨#[]⟩, .int .i64 0] 25))
  have hB3 := hB2.alloc hB2.size (.cells #[.int .i64 0, .int .i64 0, .bool false, .bool false, .bool false, .bool false, .string ⟨#[]⟩, .int .i64 0] 25)
  have hV3 := setRow_heap _ w2.heap.size _ (thC y0) 25 (0, 0) (unhide hZ)
  have hB4 := Go.below_setRow hB3 (show w.heap.size ≤ w2.heap.size by omega) (thC y0)
  have hR4 := (setRow_other (w2.alloc (.cells #[.int .i64 0, .int .i64 0, .bool false, .bool false, .bool false, .bool false, .string ⟨#[]⟩, .int .i64 0] 25)) w2.heap.size (w.heap.size + 1) (thC y0) (by omega)).trans hR3
  obtain ⟨V, hV⟩ : ∃ V, (w2.alloc (.cells #[.int .i64 0, .int .i64 0, .bool false, .bool false, .bool false, .bool false, .string ⟨#[]⟩, .int .i64 0] 25)).setRow w2.heap.size (thC y0) = V := ⟨_, rfl⟩
  rw [hV] at hV3 hB4 hR4
  replace hV3 : CB V w2.heap.size 25 (thC y0) := hV3
  replace hR4 : CB V (w.heap.size + 1) 25 (thC thZ) := hR4
  clear hR2 hB2 hR3 hB3
  rw [unhide hxe] at hV3
  have c0 := hV3.cell 0 rfl
  have z0 := hV3.frozen 0
  have hV4 := hV3.set 0 (.int .i64 0)
  have c4 := hV4.cell 4 rfl
  have z4 := hV4.frozen 4
  have hV5 := hV4.set 4 (.bool false)
  have c7 := hV5.cell 7 rfl
  have z7 := hV5.frozen 7
  have hV6 := hV5.set 7 (.int .i64 0)
  have hV7 := hide (cb_eq hV6 (show thC y = _ by rw [hy]; rfl))
  have hR6 := hide (((hR4.set_other (h := w2.heap.size) (k := 0) (by omega) (.int .i64 0)).set_other (h := w2.heap.size) (k := 4) (by omega) (.bool false)).set_other (h := w2.heap.size) (k := 7) (by omega) (.int .i64 0))
  have hB6 := hide (((hB4.setCell (p := ⟨w2.heap.size, 0, none⟩) (show w.heap.size ≤ w2.heap.size by omega) (.int .i64 0)).setCell (p := ⟨w2.heap.size, 4, none⟩) (show w.heap.size ≤ w2.heap.size by omega) (.bool false)).setCell (p := ⟨w2.heap.size, 7, none⟩) (show w.heap.size ≤ w2.heap.size by omega) (.int .i64 0))
  replace hy := hide hy
  clear hV3 hV4 hV5 hV6 hR4 hB4
  replace hV := hide hV
  go_wp2_with (first
    | (refine wpList_store_row rfl 25 (.tmp 3) (.tmp 5) rfl w2.heap.size (thC y0) rfl rfl 25 _ (unhide hZ) (th_size y0) rfl (th_one y0) ?_; rw [unhide hV])
    | (refine wpList_load_row rfl 25 (.tmp 3) rfl w2.heap.size rfl 25 (thC y) (0, 0) _ (unhide hV7) Try.underlying25 rfl (th_size y) ?_)
    | (refine wpList_store_row rfl 25 (.tmp 2) (.tmp 9) rfl (w.heap.size + 1) (thC y) rfl rfl 25 (thC thZ) (unhide hR6) (th_size y) rfl (th_one y) ?_))
  have hR7 := setRow_heap _ (w.heap.size + 1) _ (thC y) 25 (0, 0) (unhide hR6)
  have hB7 := Go.below_setRow (unhide hB6) (show w.heap.size ≤ w.heap.size + 1 by omega) (thC y)
  exact bodyPost_ret (results_cb (by exact Try.results20) _ _ (w.heap.size + 1) 25 (thC y) _ rfl hR7 Try.underlying25 (th_size y)) rfl ⟨rfl, hB7⟩
set_option maxRecDepth 20000 in
set_option maxHeartbeats 2000000 in
theorem implDefaults_any (k : Int) (s : ByteArray) (hs : s.size ≤ 4000000) (w : World) :
    Calls Try.prog 17 #[.int .i64 k, .string s] w fun e w' => e = .returned (.tuple #[.agg (thC (defT k s)), .bool (defOk k s)]) ∧ Below w.heap.size w w' := by
  have CD0 := fun W => implDigest_any s hs W
  rw [show endV (blocksW first8 s 0 (s.size / 64)) (s.extract (64 * (s.size / 64)) s.size) s.size = digB s from rfl] at CD0
  have CD := hide CD0
  clear CD0
  have CL := hide (fun W => strClone20_any s W hs)
  have ET : defT k s = if k = 1 then ⟨0, k, true, false, false, true, digB s, 0⟩ else if k = 2 then ⟨0, k, true, false, true, false, digB s, 0⟩ else if k = 3 ∧ s.size ≤ 100 then ⟨0, k, false, false, false, false, s, 0⟩ else thZ := rfl
  have EO : defOk k s = decide (k = 1 ∨ k = 2 ∨ (k = 3 ∧ s.size ≤ 100)) := rfl
  rw [ET, EO]
  clear ET EO
  generalize digB s = d at *
  obtain ⟨W, hW, hR, hb, hlt⟩ := one_cb w (thC thZ) 25
  unfold thC thZ at hW
  simp only at hW
  have HR := hide (fun (W' : World) (h : Below W.heap.size W W') => hR.below h hlt)
  have hR0 := hide hR
  have hb0 := hide hb
  clear hR
  by_cases h1 : k = 1
  · subst h1
    obtain ⟨y, hy⟩ : ∃ y : Th, y = ⟨0, 1, true, false, false, true, d, 0⟩ := ⟨_, rfl⟩
    replace hy := hide hy
    go_enter Try.func17, Try.ntmps17
    go_wp2_with fail
    refine (unhide CD W).mono ?_
    rintro e w1 ⟨rfl, hb1⟩
    have hR1 := hide (unhide HR w1 hb1)
    have hB1 := hide (hb.trans (hb1.mono hb.size))
    clear hb hb1 hW HR hR0 hb0 CD CL
    go_wp2_with (refine wpList_store_row rfl 25 (.tmp 4) (.tmp 11) rfl w.heap.size (thC y) rfl (by rw [unhide hy]; rfl) 25 (thC thZ) (unhide hR1) (th_size y) rfl (th_one y) ?_)
    have hR5 := setRow_heap _ w.heap.size _ (thC y) 25 (0, 0) (unhide hR1)
    have hB5 := Go.below_setRow (unhide hB1) (Nat.le_refl _) (thC y)
    exact bodyPost_ret (results_cb_tmp (by exact Try.results17) _ _ w.heap.size 25 (thC y) _ rfl hR5 Try.underlying25 (th_size y)) rfl ⟨by rw [unhide hy]; rfl, hB5⟩
  by_cases h2 : k = 2
  · subst h2
    obtain ⟨y, hy⟩ : ∃ y : Th, y = ⟨0, 2, true, false, true, false, d, 0⟩ := ⟨_, rfl⟩
    replace hy := hide hy
    go_enter Try.func17, Try.ntmps17
    go_wp2_with fail
    refine (unhide CD W).mono ?_
    rintro e w1 ⟨rfl, hb1⟩
    have hR1 := hide (unhide HR w1 hb1)
    have hB1 := hide (hb.trans (hb1.mono hb.size))
    clear hb hb1 hW HR hR0 hb0 CD CL
    go_wp2_with (refine wpList_store_row rfl 25 (.tmp 4) (.tmp 16) rfl w.heap.size (thC y) rfl (by rw [unhide hy]; rfl) 25 (thC thZ) (unhide hR1) (th_size y) rfl (th_one y) ?_)
    have hR5 := setRow_heap _ w.heap.size _ (thC y) 25 (0, 0) (unhide hR1)
    have hB5 := Go.below_setRow (unhide hB1) (Nat.le_refl _) (thC y)
    exact bodyPost_ret (results_cb_tmp (by exact Try.results17) _ _ w.heap.size 25 (thC y) _ rfl hR5 Try.underlying25 (th_size y)) rfl ⟨by rw [unhide hy]; rfl, hB5⟩
  have n1 : (k == 1) = false := by rw [beq_eq_false_iff_ne]; exact h1
  have n2 : (k == 2) = false := by rw [beq_eq_false_iff_ne]; exact h2
  by_cases h3 : k = 3
  · subst h3
    by_cases hz : s.size ≤ 100
    · have hz' : (s.size : Int) ≤ 100 := by omega
      obtain ⟨y, hy⟩ : ∃ y : Th, y = ⟨0, 3, false, false, false, false, s, 0⟩ := ⟨_, rfl⟩
      replace hy := hide hy
      go_enter Try.func17, Try.ntmps17
      go_wp2_with fail
      refine (unhide CL W).mono ?_
      rintro e w1 ⟨rfl, hb1⟩
      have hR1 := hide (unhide HR w1 hb1)
      have hB1 := hide (hb.trans (hb1.mono hb.size))
      clear hb hb1 hW HR hR0 hb0 CD CL
      go_wp2_with (refine wpList_store_row rfl 25 (.tmp 4) (.tmp 24) rfl w.heap.size (thC y) rfl (by rw [unhide hy]; rfl) 25 (thC thZ) (unhide hR1) (th_size y) rfl (th_one y) ?_)
      have hR5 := setRow_heap _ w.heap.size _ (thC y) 25 (0, 0) (unhide hR1)
      have hB5 := Go.below_setRow (unhide hB1) (Nat.le_refl _) (thC y)
      exact bodyPost_ret (results_cb_tmp (by exact Try.results17) _ _ w.heap.size 25 (thC y) _ rfl hR5 Try.underlying25 (th_size y)) rfl ⟨by rw [unhide hy]; simp, hB5⟩
    · have hz' : ¬ (s.size : Int) ≤ 100 := by omega
      have hz2 : decide ((s.size : Int) ≤ 100) = false := by rw [decide_eq_false_iff_not]; exact hz'
      obtain ⟨y, hy⟩ : ∃ y : Th, y = thZ := ⟨_, rfl⟩
      replace hy := hide hy
      clear hb CD HR CL
      go_enter Try.func17, Try.ntmps17
      go_wp2_with (refine wpList_store_row rfl 25 (.tmp 4) (.tmp 25) rfl w.heap.size (thC y) rfl (by rw [unhide hy]; rfl) 25 (thC thZ) (unhide hR0) (th_size y) rfl (th_one y) ?_)
      have hR5 := setRow_heap _ w.heap.size _ (thC y) 25 (0, 0) (unhide hR0)
      have hB5 := Go.below_setRow (unhide hb0) (Nat.le_refl _) (thC y)
      exact bodyPost_ret (results_cb_tmp (by exact Try.results17) _ _ w.heap.size 25 (thC y) _ rfl hR5 Try.underlying25 (th_size y)) rfl ⟨by rw [unhide hy]; simp, hB5⟩
  have n3 : (k == 3) = false := by rw [beq_eq_false_iff_ne]; exact h3
  obtain ⟨y, hy⟩ : ∃ y : Th, y = thZ := ⟨_, rfl⟩
  replace hy := hide hy
  clear hb CD HR CL
  go_enter Try.func17, Try.ntmps17
  go_wp2_with (refine wpList_store_row rfl 25 (.tmp 4) (.tmp 25) rfl w.heap.size (thC y) rfl (by rw [unhide hy]; rfl) 25 (thC thZ) (unhide hR0) (th_size y) rfl (th_one y) ?_)
  have hR5 := setRow_heap _ w.heap.size _ (thC y) 25 (0, 0) (unhide hR0)
  have hB5 := Go.below_setRow (unhide hb0) (Nat.le_refl _) (thC y)
  exact bodyPost_ret (results_cb_tmp (by exact Try.results17) _ _ w.heap.size 25 (thC y) _ rfl hR5 Try.underlying25 (th_size y)) rfl ⟨by rw [unhide hy]; simp, hB5⟩
end Go.Proofs.Ytecbpplocokedaa

/- What big, DrawSumOf and DrawPlaces come to: some text of fewer than 40 bytes; twelve numbers below 10000. -/
namespace Go.Proofs.Ytecbpplocokedaa
open Go.RowKit

set_option maxRecDepth 20000 in
set_option maxHeartbeats 400000 in
theorem big_any (w : World) (o : Option Addr) (n c : Nat) :
    Calls Try.prog 9 #[.slice o n c] w fun e w' => e = .returned (.bool (decide ((1048576 : Int) < (n : Int)))) ∧ w' = w := by
  go_enter Try.func9, Try.ntmps9
  go_wp2
  go_ret
  exact ⟨rfl, rfl⟩


theorem Try.infoIC : (Try.prog.info? 3).map (fun i => (i.zero, i.size, i.bytes)) = some (some (.int .i64 0), 1, 8) := by kernel_rfl

def ints (xs : List Nat) : List Value := xs.map fun (x : Nat) => Value.int .i64 (x : Int)


end Go.Proofs.Ytecbpplocokedaa

/- More draws by contracts: once in so many times, one of a list of numbers, many bytes of one kind, a number, a text. -/
namespace Go.Proofs.Ytecbpplocokedaa
open Go.RowKit

set_option maxRecDepth 20000 in
set_option maxHeartbeats 400000 in
theorem l01Once_any {w : World} {base g n c : Nat} {o : Option Addr} (h : Cur w base g o n c) (hn : n ≤ 1048576) (m : Nat) (hm : 0 < m) (hm2 : m ≤ 4294967296) :
    Calls Try.prog 28 #[.pointer (some ⟨g, 0, none⟩), .int .i64 (m : Int)] w fun e w' => ∃ b : Bool, e = .returned (.bool b) ∧ Only g w w' ∧ Cur w' base g o n c := by
  have H := hide h
  clear h
  go_enter Try.func28, Try.ntmps28
  go_wp2_with (go_at_call 35; refine (l01Below_any (unhide H) hn m hm hm2).mono ?_; rintro e w1 ⟨x, hx, rfl, ho, hc⟩; replace hc := hide hc)
  go_ret
  exact ⟨_, rfl, ho, unhide hc⟩

/-- A row of numbers in block b. -/
def Nums (w : World) (b k : Nat) : Prop := ∀ j, j < k → ∃ z : Int, -9223372036854775808 ≤ z ∧ z ≤ 9223372036854775807 ∧ w.cell? ⟨b, j, none⟩ = some (.int .i64 z)

set_option maxRecDepth 20000 in
set_option maxHeartbeats 400000 in
theorem l01PickInt_any {w : World} {base g n c : Nat} {o : Option Addr} (h : Cur w base g o n c) (hn : n ≤ 1048576) (b k cap : Nat) (hk : 0 < k) (hk2 : k ≤ 1000) (hN : Nums w b k) (hbg : b ≠ g) :
    Calls Try.prog 41 #[.pointer (some ⟨g, 0, none⟩), .slice (some ⟨b, 0, none⟩) k cap] w fun e w' => ∃ z : Int, -9223372036854775808 ≤ z ∧ z ≤ 9223372036854775807 ∧ e = .returned (.int .i64 z) ∧ Only g w w' ∧ Cur w' base g o n c := by
  have H := hide h
  have HN := hide hN
  clear h hN
  go_enter Try.func41, Try.ntmps41
  go_wp2_with fail
  go_at_call 35
  refine (l01Below_any (unhide H) hn k hk (by omega)).mono ?_
  rintro e w1 ⟨x, hx, rfl, ho, hc⟩
  replace hc := hide hc
  obtain ⟨z, hz1, hz2, hcell⟩ := (unhide HN) x hx
  have hcell1 : w1.cell? ⟨b, x, none⟩ = some (.int .i64 z) := (World.cell?_of_block (w := w) (ho.block b hbg)).trans hcell
  replace ho := hide ho
  have hx0 : (0 : Int) ≤ (x : Int) := by omega
  have hx1 : (x : Int) < (k : Int) := by omega
  go_wp2
  go_ret
  exact ⟨z, hz1, hz2, rfl, unhide ho, unhide hc⟩


theorem map_set_bv (l : List UInt8) (k x : Nat) (hx : x < 256) : (l.map bv).set k (.int .u8 (x : Int)) = (l.set k (byteOf x)).map bv := by
  rw [List.map_set]
  congr 1
  simp only [bv, byteOf_toNat hx]
theorem rep_bv (n : Nat) : List.replicate n (Value.int .u8 0) = (List.replicate n (0 : UInt8)).map bv := by
  rw [List.map_replicate]; rfl

set_option maxRecDepth 20000 in
set_option maxHeartbeats 400000 in
theorem l01Long_any (m x : Nat) (w : World) (hm : 0 < m) (hm2 : m ≤ 1000000) (hx : x < 256) :
    Calls Try.prog 34 #[.int .i64 (m : Int), .int .u8 (x : Int)] w fun e w' => ∃ l : List UInt8, l.length = m ∧ e = .returned (.string ⟨l.toArray⟩) ∧ Below w.heap.size w w' := by
  obtain ⟨i0, hi, hz0, hz1, hz2⟩ := info_parts Try.infoBC
  go_enter Try.func34, Try.ntmps34
  go_wp2_with (at_make; refine wpList_make_full _ rfl _ _ 22 rfl w.heap.size 5 i0 (.int .u8 0) 1 Try.underlying22 hi hz0 hz1 _ _ _ _ m rfl rfl rfl rfl (by rw [hz2]; omega) (by unfold maxLen; omega) (Nat.le_refl _) ?_; intro w1 hown1 hgrow1)
  have hb1 : Below w.heap.size w w1 := (Below.refl _ _).grown hgrow1 (Nat.le_refl _) (fun k hk => by cases hk)
  have hown0 : OwnB w1 w.heap.size 5 (.slice (some ⟨w.heap.size, 0, none⟩) m m) (List.replicate m (0 : UInt8)) := by
    have e1 : (madeCells (Value.int .u8 0).cells (m * 1)).toList = (List.replicate m (0 : UInt8)).map bv := by
      show (madeCells #[Value.int .u8 0] (m * 1)).toList = _
      rw [Nat.mul_one, toList_madeCells_one, rep_bv]
    rw [e1] at hown1
    unfold OwnB
    rw [List.length_replicate]
    exact hown1
  clear hown1 hgrow1
  go_loopw [6] (fun ti wr => ∃ (k : Nat) (l : List UInt8), k ≤ m ∧ ti = .int .i64 (k : Int) ∧ l.length = m ∧ OwnB wr w.heap.size 5 (.slice (some ⟨w.heap.size, 0, none⟩) m m) l ∧ Below w.heap.size w wr)
    (fun ti _ => m - (intOf ti).toNat)
  case atStart => exact ⟨0, _, Nat.zero_le _, rfl, List.length_replicate, hown0, hb1⟩
  case round =>
    obtain ⟨k, l, hk, rfl, hl, hown, hb⟩ := hrel
    clear hown0 hb1
    by_cases hlt : k < m
    · have hownV : OwnV wr w.heap.size 5 (.slice (some ⟨w.heap.size, 0, none⟩) m m) (l.map bv) := by unfold OwnV; rw [List.length_map]; exact hown
      have hset := hownV.set k (.int .u8 (x : Int))
      rw [map_set_bv l k x hx] at hset
      have hown2 : OwnB (wr.setCell ⟨w.heap.size, k, none⟩ (.int .u8 (x : Int))) w.heap.size 5 (.slice (some ⟨w.heap.size, 0, none⟩) m m) (l.set k (byteOf x)) := by
        unfold OwnV at hset; rw [List.length_map] at hset; exact hset
      have hcell : wr.cell? ⟨w.heap.size, k, none⟩ = some (bv (l[k]'(by omega))) := hownV.cell (by rw [List.getElem?_map, List.getElem?_eq_getElem (by omega)]; rfl)
      have hfr := hownV.frozen k
      have hb2 := hb.setCell (p := ⟨w.heap.size, k, none⟩) (Nat.le_refl _) (.int .u8 (x : Int))
      have hl2 : (l.set k (byteOf x)).length = m := by rw [List.length_set]; exact hl
      replace hset := hide hset
      replace hownV := hide hownV
      replace hown2 := hide hown2
      replace hb2 := hide hb2
      replace hown := hide hown
      replace hl2 := hide hl2
      clear hb
      go_wp2
      go_roundw
      case rel => exact ⟨k + 1, _, by omega, by go_num, unhide hl2, unhide hown2, unhide hb2⟩
      case measure => simp [intOf]; omega
    · have hc := run_string_owned (P := Try.prog) wr 22 9 5 w.heap.size _ _ Try.underlying22 Try.underlying5 Try.underlying9 hown
      replace hown := hide hown
      go_wp2
      go_ret
      exact ⟨l, hl, rfl, hb⟩

end Go.Proofs.Ytecbpplocokedaa

/- The draws of chapter 5 by contracts, over the loaded program. -/
namespace Go.Proofs.Ytecbpplocokedaa
open Go.RowKit
set_option maxRecDepth 20000 in
set_option maxHeartbeats 400000 in
theorem l01PickP_any {w : World} {base g n c : Nat} {o : Option Addr} (p : Int → Prop) (h : Cur w base g o n c) (hn : n ≤ 1048576) (b k cap : Nat) (hk : 0 < k) (hk2 : k ≤ 1000) (hN : ∀ j, j < k → ∃ z, w.cell? ⟨b, j, none⟩ = some (.int .i64 z) ∧ p z) (hbg : b ≠ g) :
    Calls Try.prog 41 #[.pointer (some ⟨g, 0, none⟩), .slice (some ⟨b, 0, none⟩) k cap] w fun e w' => ∃ z : Int, p z ∧ e = .returned (.int .i64 z) ∧ Only g w w' ∧ Cur w' base g o n c := by
  have H := hide h
  have HN := hide hN
  clear h hN
  go_enter Try.func41, Try.ntmps41
  go_wp2_with fail
  go_at_call 35
  refine (l01Below_any (unhide H) hn k hk (by omega)).mono ?_
  rintro e w1 ⟨x, hx, rfl, ho, hc⟩
  replace hc := hide hc
  obtain ⟨z, hcell, hz⟩ := (unhide HN) x hx
  have hcell1 : w1.cell? ⟨b, x, none⟩ = some (.int .i64 z) := (World.cell?_of_block (w := w) (ho.block b hbg)).trans hcell
  replace ho := hide ho
  replace hz := hide hz
  have hx0 : (0 : Int) ≤ (x : Int) := by omega
  have hx1 : (x : Int) < (k : Int) := by omega
  go_wp2
  go_ret
  exact ⟨z, unhide hz, rfl, unhide ho, unhide hc⟩
set_option maxRecDepth 20000 in
set_option maxHeartbeats 400000 in
theorem l01Long0_any (m x : Nat) (w : World) (hm2 : m ≤ 1000000) (hx : x < 256) :
    Calls Try.prog 34 #[.int .i64 (m : Int), .int .u8 (x : Int)] w fun e w' => ∃ l : List UInt8, l.length = m ∧ e = .returned (.string ⟨l.toArray⟩) ∧ Below w.heap.size w w' := by
  obtain ⟨i0, hi, hz0, hz1, hz2⟩ := info_parts Try.infoBC
  go_enter Try.func34, Try.ntmps34
  go_wp2_with (at_make; refine wpList_make_full _ rfl _ _ 22 rfl w.heap.size 5 i0 (.int .u8 0) 1 Try.underlying22 hi hz0 hz1 _ _ _ _ m rfl rfl rfl rfl (by rw [hz2]; omega) (by unfold maxLen; omega) (Nat.le_refl _) ?_; intro w1 hown1 hgrow1)
  have hb1 : Below w.heap.size w w1 := (Below.refl _ _).grown hgrow1 (Nat.le_refl _) (fun k hk => by cases hk)
  have hown0 : OwnB w1 w.heap.size 5 (.slice (some ⟨w.heap.size, 0, none⟩) m m) (List.replicate m (0 : UInt8)) := by
    have e1 : (madeCells (Value.int .u8 0).cells (m * 1)).toList = (List.replicate m (0 : UInt8)).map bv := by
      show (madeCells #[Value.int .u8 0] (m * 1)).toList = _
      rw [Nat.mul_one, toList_madeCells_one, rep_bv]
    rw [e1] at hown1
    unfold OwnB
    rw [List.length_replicate]
    exact hown1
  clear hown1 hgrow1
  go_loopw [6] (fun ti wr => ∃ (k : Nat) (l : List UInt8), k ≤ m ∧ ti = .int .i64 (k : Int) ∧ l.length = m ∧ OwnB wr w.heap.size 5 (.slice (some ⟨w.heap.size, 0, none⟩) m m) l ∧ Below w.heap.size w wr)
    (fun ti _ => m - (intOf ti).toNat)
  case atStart => exact ⟨0, _, Nat.zero_le _, rfl, List.length_replicate, hown0, hb1⟩
  case round =>
    obtain ⟨k, l, hk, rfl, hl, hown, hb⟩ := hrel
    clear hown0 hb1
    by_cases hlt : k < m
    · have hownV : OwnV wr w.heap.size 5 (.slice (some ⟨w.heap.size, 0, none⟩) m m) (l.map bv) := by unfold OwnV; rw [List.length_map]; exact hown
      have hset := hownV.set k (.int .u8 (x : Int))
      rw [map_set_bv l k x hx] at hset
      have hown2 : OwnB (wr.setCell ⟨w.heap.size, k, none⟩ (.int .u8 (x : Int))) w.heap.size 5 (.slice (some ⟨w.heap.size, 0, none⟩) m m) (l.set k (byteOf x)) := by
        unfold OwnV at hset; rw [List.length_map] at hset; exact hset
      have hcell : wr.cell? ⟨w.heap.size, k, none⟩ = some (bv (l[k]'(by omega))) := hownV.cell (by rw [List.getElem?_map, List.getElem?_eq_getElem (by omega)]; rfl)
      have hfr := hownV.frozen k
      have hb2 := hb.setCell (p := ⟨w.heap.size, k, none⟩) (Nat.le_refl _) (.int .u8 (x : Int))
      have hl2 : (l.set k (byteOf x)).length = m := by rw [List.length_set]; exact hl
      replace hset := hide hset
      replace hownV := hide hownV
      replace hown2 := hide hown2
      replace hb2 := hide hb2
      replace hown := hide hown
      replace hl2 := hide hl2
      clear hb
      go_wp2
      go_roundw
      case rel => exact ⟨k + 1, _, by omega, by go_num, unhide hl2, unhide hown2, unhide hb2⟩
      case measure => simp [intOf]; omega
    · have hc := run_string_owned (P := Try.prog) wr 22 9 5 w.heap.size _ _ Try.underlying22 Try.underlying5 Try.underlying9 hown
      replace hown := hide hown
      go_wp2
      go_ret
      exact ⟨l, hl, rfl, hb⟩
end Go.Proofs.Ytecbpplocokedaa

/- The draws that leave every block but the cursor's. -/
namespace Go.Proofs.Ytecbpplocokedaa
open Go.RowKit
theorem gO {g : Nat} {w w' : World} (h : Only g w w') : w.grownBy w' (some g) := ⟨h.os, h.tape, h.output, by rw [h.size]; exact Nat.le_refl _, fun k _ hk => h.block k (fun e => hk (by rw [e]))⟩
theorem gTB {w w1 w2 : World} {r : Option Nat} (h : w.grownBy w1 r) (hb : Below w.heap.size w1 w2) : w.grownBy w2 r :=
  ⟨hb.os.trans h.os, hb.tape.trans h.tape, hb.output.trans h.output, Nat.le_trans h.size hb.size, fun i hi hr => (hb.block i hi).trans (h.block i hi hr)⟩
set_option maxRecDepth 20000 in
set_option maxHeartbeats 400000 in
theorem l01Text_g {w : World} {base g n c : Nat} {o : Option Addr} (h : Cur w base g o n c) (hn : n ≤ 1048576) (m : Nat) (hm : m ≤ 5000) :
    Calls Try.prog 36 #[.pointer (some ⟨g, 0, none⟩), .int .i64 (m : Int)] w fun e w' => ∃ l : List UInt8, l.length = m ∧ e = .returned (.string ⟨l.toArray⟩) ∧ w.grownBy w' (some g) ∧ Cur w' base g o n c := by
  obtain ⟨i0, hi, hz0, hz1, hz2⟩ := info_parts Try.infoBC
  have H := hide h
  clear h
  have h0 : ¬ (5000 : Int) < (m : Int) := by omega
  go_enter Try.func36, Try.ntmps36
  go_wp2
  have hg := (unhide H).lt
  have hlo := (unhide H).lo
  go_loopw [5, 6] (fun v ti wr => ∃ (k : Nat) (pre : List UInt8), k ≤ m ∧ pre.length = k ∧ ti = .int .i64 (k : Int) ∧ OwnB wr w.heap.size 5 v pre ∧ w.grownBy wr (some g) ∧ Hid (Cur wr base g o n c))
    (fun _ ti _ => m - (intOf ti).toNat)
  case atStart => exact ⟨0, [], Nat.zero_le _, rfl, rfl, World.ownsRow_made w #[] 0 (Nat.le_refl _) (by decide) (by simp), gB ((Below.refl w.heap.size w).alloc (Nat.le_refl _) _) _, (unhide H).below ((Below.refl (g + 1) w).alloc (by omega) _) (by omega)⟩
  case round =>
    clear H h0
    obtain ⟨k, pre, hk, hpl, rfl, hown, hb, HC⟩ := hrel
    have hsz := hb.size
    by_cases hlt : k < m
    · go_wp2_with fail
      go_at_call 47
      refine (l01Byte_any (unhide HC) hn).mono ?_
      rintro e w1 ⟨x, hx, rfl, ho, hc1⟩
      have hown1 := hown.only ho hg
      have hb1 := gT hb (gO ho)
      have hsz1 := hb1.size
      replace hc1 := hide hc1
      replace ho := hide ho
      clear hown hb HC
      have hbx : ((byteOf x).toNat : Int) = (x : Int) := by rw [byteOf_toNat hx]
      go_wp2_with (at_builtin; refine wpList_append_bytes rfl (.tmp 15) (.tmp 19) 22 rfl w.heap.size w.heap.size 5 i0 Try.underlying22 hi hz0 hz1 hz2 _ pre rfl hown1 _ [byteOf x] (cs_at hbx) 1 1 rfl rfl (by omega) (Nat.le_refl _) hsz1 (Below.refl _ w1) ?_; intro v' w2 hown' hb2)
      have hc2 := hide ((unhide hc1).below hb2 hg)
      have hb' := gTB hb1 hb2
      clear hown1 hb1 hb2 hc1
      go_wp2
      go_roundw
      case rel => exact ⟨k + 1, pre ++ [byteOf x], by omega, by simp [hpl], by go_num, hown', hb', hc2⟩
      case measure => simp [intOf]; omega
    · have hke : k = m := by omega
      have hc := run_string_owned (P := Try.prog) wr 22 9 5 w.heap.size _ _ Try.underlying22 Try.underlying5 Try.underlying9 hown
      clear hown
      go_wp2
      go_ret
      exact ⟨pre, by omega, rfl, hb, unhide HC⟩

theorem HB.grown {w w' : World} {k g : Nat} {T : TypeId} {a : Hs} (h : HB w k T a) (hg : w.grownBy w' (some g)) (hne : k ≠ g) : HB w' k T a := by
  have hl := h.lt
  unfold HB at h ⊢
  rw [hg.block k hl (fun e => hne (Option.some.inj e))]; exact h
end Go.Proofs.Ytecbpplocokedaa

/- A text that is picked out of short ones, over the loaded program. -/
namespace Go.Proofs.Ytecbpplocokedaa
open Go.RowKit
def Txt9 (w : World) (b k : Nat) : Prop := ∀ j, j < k → ∃ s : ByteArray, s.size ≤ 9 ∧ w.cell? ⟨b, j, none⟩ = some (.string s)
set_option maxHeartbeats 400000 in
theorem l01Pick_9 {w : World} {base g n c : Nat} {o : Option Addr} (h : Cur w base g o n c) (hn : n ≤ 1048576) (b k cap : Nat) (hk : 0 < k) (hk2 : k ≤ 1000) (hN : Txt9 w b k) (hbg : b ≠ g) :
    Calls Try.prog 56 #[.pointer (some ⟨g, 0, none⟩), .slice (some ⟨b, 0, none⟩) k cap] w fun e w' => ∃ s : ByteArray, s.size ≤ 9 ∧ e = .returned (.string s) ∧ Only g w w' ∧ Cur w' base g o n c := by
  have H := hide h
  have HN := hide hN
  clear h hN
  go_enter Try.func56, Try.ntmps56
  go_wp2_with fail
  go_at_call 35
  refine (l01Below_any (unhide H) hn k hk (by omega)).mono ?_
  rintro e w1 ⟨x, hx, rfl, ho, hc⟩
  replace hc := hide hc
  obtain ⟨z, hz1, hcell⟩ := (unhide HN) x hx
  have hcell1 : w1.cell? ⟨b, x, none⟩ = some (.string z) := (World.cell?_of_block (w := w) (ho.block b hbg)).trans hcell
  replace ho := hide ho
  have hx0 : (0 : Int) ≤ (x : Int) := by omega
  have hx1 : (x : Int) < (k : Int) := by omega
  go_wp2
  go_ret
  exact ⟨z, hz1, rfl, unhide ho, unhide hc⟩
theorem txt9_4 (w : World) (T : TypeId) : Txt9 (w.alloc (.cells #[.string ⟨#[]⟩, .string ⟨#[97]⟩, .string ⟨#[98]⟩, .string ⟨#[115, 101, 101, 100]⟩] T)) w.heap.size 4 := by
  intro j hj
  rw [cell_of_row _ w.heap.size j _ T (0, 0) (heap_alloc_new w _)]
  match j, hj with
  | 0, _ => exact ⟨_, by decide, rfl⟩
  | 1, _ => exact ⟨_, by decide, rfl⟩
  | 2, _ => exact ⟨_, by decide, rfl⟩
  | 3, _ => exact ⟨_, by decide, rfl⟩
  | j + 4, hj => exact absurd hj (by omega)
end Go.Proofs.Ytecbpplocokedaa

