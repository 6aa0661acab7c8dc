/- Merged: RuI3, Stw, BkE3, BkE1, BkE2, BkI2, BkE4. -/
import Derived.Test.YtkbbcjnickgfjabGreatMgChainOk1
import Derived.Test.YtkbbcjnickgfjabGreatMgChainOk2
import Derived.Test.YtkbbcjnickgfjabGreatMgChainOk3
import Derived.Test.YtkbbcjnickgfjabGreatMgChainOk4
import Derived.Test.YtkbbcjnickgfjabGreatMgChainOk5
import Derived.Test.YtkbbcjnickgfjabGreatMgChainOk6
import Derived.Test.YtkbbcjnickgfjabGreatMgChainOk7
import Derived.Test.YtkbbcjnickgfjabGreatMgChainOk8
import Derived.Deep.RegionLaw
import Derived.Shelf.RegionOpenPlain
import Derived.Laws.IdiomCopy
import Derived.Lib.SliceRun
/- The project's rules: changes, new things, and those that come in again, over the loaded program. -/
namespace Go.Proofs.YtkbbcjnickgfjabGreat
open Go.RowKit
set_option maxRecDepth 20000 in
theorem strClone20_any (s : ByteArray) (w : World) (hs : s.size ≤ 4000000) :
    Calls Tryz.prog 41 #[.string s] w fun e w' => e = .returned (.string s) ∧ Below w.heap.size w w' := by
  have hlim : s.size ≤ 281474976710656 := by omega
  have C := hide (Tryz.stringslite_Clone s w hlim)
  go_enter Tryz.func41, Tryz.ntmps41
  go_wp2_with fail
  refine (unhide C).mono ?_
  rintro e w2 ⟨rfl, hb2⟩
  go_wp2
  go_ret
  exact ⟨rfl, hb2⟩
set_option maxRecDepth 20000 in
set_option maxHeartbeats 2000000 in
theorem copied_any (x : Th) (hx : x.val.size ≤ 4000000) (w : World) :
    Calls Tryz.prog 42 #[.agg (thC x)] w fun e w' => e = .returned (.agg (thC x)) ∧ Below w.heap.size w w' := by
  have CL := hide (fun W => strClone20_any x.val W hx)
  obtain ⟨y, hy⟩ : ∃ y : Th, y = x := ⟨_, rfl⟩
  obtain ⟨id, kind, hid, fix, sgn, wrp, val, nxt⟩ := x
  have hxe : thC ⟨id, kind, hid, fix, sgn, wrp, val, nxt⟩ = #[.int .i64 id, .int .i64 kind, .bool hid, .bool fix, .bool sgn, .bool wrp, .string val, .int .i64 nxt] := rfl
  rw [show thC ⟨id, kind, hid, fix, sgn, wrp, val, nxt⟩ = thC y by rw [hy]]
  rw [show thC y = #[.int .i64 id, .int .i64 kind, .bool hid, .bool fix, .bool sgn, .bool wrp, .string val, .int .i64 nxt] by rw [hy]; rfl]
  simp only at CL hx
  obtain ⟨W, hW, hA, hR, hb, hlt⟩ := two_cb w #[.int .i64 id, .int .i64 kind, .bool hid, .bool fix, .bool sgn, .bool wrp, .string val, .int .i64 nxt] (thC thZ) 48 48
  unfold thC thZ at hW
  simp only at hW
  have a6 := hA.cell 6 rfl
  replace hA := hide hA; replace hR := hide hR
  go_enter Tryz.func42, Tryz.ntmps42
  go_wp2_with fail
  refine (unhide CL W).mono ?_
  rintro e w1 ⟨rfl, hb1⟩
  have hA1 := (unhide hA).below hb1 (by omega)
  have hR1 := (unhide hR).below hb1 (by omega)
  have hB1 := hb.trans (hb1.mono hb.size)
  clear a6 hA hR hb hb1 CL hW hxe
  have b6 := hA1.cell 6 rfl
  have z6 := hA1.frozen 6
  have hX2 := hA1.set 6 (.string val)
  have hX3 := hide (cb_eq hX2 (show thC y = _ by rw [hy]; rfl))
  have hR3 := hide (hR1.set_other (h := w.heap.size) (k := 6) (by omega) (.string val))
  have hB3 := hide (hB1.setCell (p := ⟨w.heap.size, 6, none⟩) (Nat.le_refl _) (.string val))
  replace hy := hide hy
  clear hA1 hX2 hR1 hB1
  go_wp2_with (first
    | (refine wpList_load_row rfl 48 (.tmp 1) rfl w.heap.size rfl 48 (thC y) (0, 0) _ (unhide hX3) Tryz.underlying48 rfl (th_size y) ?_)
    | (refine wpList_store_row rfl 48 (.tmp 2) (.tmp 7) rfl (w.heap.size + 1) (thC y) rfl rfl 48 (thC thZ) (unhide hR3) (th_size y) rfl (th_one y) ?_))
  have hR5 := setRow_heap _ (w.heap.size + 1) _ (thC y) 48 (0, 0) (unhide hR3)
  have hB5 := Go.below_setRow (unhide hB3) (show w.heap.size ≤ w.heap.size + 1 by omega) (thC y)
  exact bodyPost_ret (results_cb (by exact Tryz.results42) _ _ (w.heap.size + 1) 48 (thC y) _ rfl hR5 Tryz.underlying48 (th_size y)) rfl ⟨by rw [unhide hy]; rfl, hB5⟩
set_option maxRecDepth 20000 in
set_option maxHeartbeats 4000000 in
theorem implChange_any (x : Th) (h f : Bool) (hx : x.val.size ≤ 4000000) (w : World) :
    Calls Tryz.prog 109 #[.agg (thC x), .bool h, .bool f] w fun e w' => e = .returned (.tuple #[.agg (thC (chgT x h f)), .bool (chgOk x h f)]) ∧ Below w.heap.size w w' := by
  have CO := hide (fun W => implThingOk_any x W)
  have CP := hide (fun W => copied_any x hx W)
  have HO : chgOk x h f = true ↔ thOk x = true ∧ (x.hid = true → h = true) ∧ (x.fix = true → f = true) := by unfold chgOk; exact decide_eq_true_iff
  have ET : chgT x h f = if chgOk x h f = true then { x with hid := h, fix := f } else thZ := rfl
  rw [ET]
  clear ET
  generalize chgOk x h f = fin at *
  generalize thOk x = ok at *
  obtain ⟨y0, hy0⟩ : ∃ y0 : Th, y0 = x := ⟨_, rfl⟩
  obtain ⟨id, kind, hid, fix, sgn, wrp, val, nxt⟩ := x
  rw [← hy0] at CP
  have hxe : thC y0 = #[.int .i64 id, .int .i64 kind, .bool hid, .bool fix, .bool sgn, .bool wrp, .string val, .int .i64 nxt] := by rw [hy0]; rfl
  rw [show thC ⟨id, kind, hid, fix, sgn, wrp, val, nxt⟩ = #[.int .i64 id, .int .i64 kind, .bool hid, .bool fix, .bool sgn, .bool wrp, .string val, .int .i64 nxt] from rfl] at CO ⊢
  simp only at HO ⊢
  obtain ⟨W, hW, hA, hR, hb, hlt⟩ := two_cb w #[.int .i64 id, .int .i64 kind, .bool hid, .bool fix, .bool sgn, .bool wrp, .string val, .int .i64 nxt] (thC thZ) 48 48
  rw [show thC thZ = #[.int .i64 0, .int .i64 0, .bool false, .bool false, .bool false, .bool false, .string ⟨#[]⟩, .int .i64 0] from rfl] at hW
  have a0 := hA.cell 0 rfl
  have a1 := hA.cell 1 rfl
  have a2 := hA.cell 2 rfl
  have a3 := hA.cell 3 rfl
  have a4 := hA.cell 4 rfl
  have a5 := hA.cell 5 rfl
  have a6 := hA.cell 6 rfl
  have a7 := hA.cell 7 rfl
  rw [← hxe] at hA
  replace hA := hide hA; replace hR := hide hR
  replace hy0 := hide hy0; replace hxe := hide hxe
  cases hid with
  | true =>
    cases h with
    | false =>
      obtain rfl : fin = false := by cases fin with | false => rfl | true => exact absurd (HO.1 rfl) (by simp)
      clear HO CO CP
      go_enter Tryz.func109, Tryz.ntmps109
      go_wp2_with (refine wpList_store_row rfl 48 (.tmp 6) (.tmp 30) rfl (w.heap.size + 1) (thC thZ) rfl rfl 48 (thC thZ) (unhide hR) (th_size thZ) rfl (th_one thZ) ?_)
      have hR5 := setRow_heap _ (w.heap.size + 1) _ (thC thZ) 48 (0, 0) (unhide hR)
      have hB5 := Go.below_setRow hb (show w.heap.size ≤ w.heap.size + 1 by omega) (thC thZ)
      exact bodyPost_ret (results_cb_tmp (by exact Tryz.results109) _ _ (w.heap.size + 1) 48 (thC thZ) _ rfl hR5 Tryz.underlying48 (th_size thZ)) rfl ⟨rfl, hB5⟩
    | true =>
      cases fix with
      | true =>
        cases f with
        | false =>
          obtain rfl : fin = false := by cases fin with | false => rfl | true => exact absurd (HO.1 rfl) (by simp)
          clear HO CO CP
          go_enter Tryz.func109, Tryz.ntmps109
          go_wp2_with (refine wpList_store_row rfl 48 (.tmp 6) (.tmp 30) rfl (w.heap.size + 1) (thC thZ) rfl rfl 48 (thC thZ) (unhide hR) (th_size thZ) rfl (th_one thZ) ?_)
          have hR5 := setRow_heap _ (w.heap.size + 1) _ (thC thZ) 48 (0, 0) (unhide hR)
          have hB5 := Go.below_setRow hb (show w.heap.size ≤ w.heap.size + 1 by omega) (thC thZ)
          exact bodyPost_ret (results_cb_tmp (by exact Tryz.results109) _ _ (w.heap.size + 1) 48 (thC thZ) _ rfl hR5 Tryz.underlying48 (th_size thZ)) rfl ⟨rfl, hB5⟩
        | true =>
          go_enter Tryz.func109, Tryz.ntmps109
          go_wp2_with fail
          refine (unhide CO W).mono ?_
          rintro e w1 ⟨rfl, hb1⟩
          have hA1 := hide ((unhide hA).below hb1 (by omega))
          have hR1 := hide ((unhide hR).below hb1 (by omega))
          have hB1 := hb.trans (hb1.mono hb.size)
          have hs1 : w.heap.size + 1 < w1.heap.size := (unhide hR1).lt
          clear a0 a1 a2 a3 a4 a5 a6 a7 hA hR hb hb1 CO hW hlt
          cases ok with
          | false =>
            obtain rfl : fin = false := by cases fin with | false => rfl | true => exact absurd (HO.1 rfl) (by simp)
            clear HO CP hA1
            go_wp2_with (refine wpList_store_row rfl 48 (.tmp 6) (.tmp 30) rfl (w.heap.size + 1) (thC thZ) rfl rfl 48 (thC thZ) (unhide hR1) (th_size thZ) rfl (th_one thZ) ?_)
            have hR5 := setRow_heap _ (w.heap.size + 1) _ (thC thZ) 48 (0, 0) (unhide hR1)
            have hB5 := Go.below_setRow hB1 (show w.heap.size ≤ w.heap.size + 1 by omega) (thC thZ)
            exact bodyPost_ret (results_cb_tmp (by exact Tryz.results109) _ _ (w.heap.size + 1) 48 (thC thZ) _ rfl hR5 Tryz.underlying48 (th_size thZ)) rfl ⟨rfl, hB5⟩
          | true =>
            obtain rfl : fin = true := HO.2 (by simp)
            clear HO
            go_wp2_with (refine wpList_load_row rfl 48 (.tmp 3) rfl w.heap.size rfl 48 (thC y0) (0, 0) _ (unhide hA1) Tryz.underlying48 rfl (th_size y0) ?_)
            refine (unhide CP w1).mono ?_
            rintro e w2 ⟨rfl, hb2⟩
            have hR2 := (unhide hR1).step hb2
            have hB2 := hB1.trans (hb2.mono hB1.size)
            have hs2 : w.heap.size + 1 < w2.heap.size := hR2.lt
            clear hA1 hR1 hB1 hb2 CP hs1
            have hZ := hide (CB.new w2 #[.int .i64 0, .int .i64 0, .bool false, .bool false, .bool false, .bool false, .string ⟨#[]⟩, .int .i64 0] 48)
            have hR3 := (hR2.alloc (.cells #[.int .i64 0, .int .i64 0, .bool false, .bool false, .bool false, .bool false, .string ⟨#[]⟩, .int .i64 0] 48))
            have hB3 := hB2.alloc hB2.size (.cells #[.int .i64 0, .int .i64 0, .bool false, .bool false, .bool false, .bool false, .string ⟨#[]⟩, .int .i64 0] 48)
            have hV3 := setRow_heap _ w2.heap.size _ (thC y0) 48 (0, 0) (unhide hZ)
            have hB4 := Go.below_setRow hB3 (show w.heap.size ≤ w2.heap.size by omega) (thC y0)
            have hR4 := (setRow_other (w2.alloc (.cells #[.int .i64 0, .int .i64 0, .bool false, .bool false, .bool false, .bool false, .string ⟨#[]⟩, .int .i64 0] 48)) w2.heap.size (w.heap.size + 1) (thC y0) (by omega)).trans hR3
            obtain ⟨V, hV⟩ : ∃ V, (w2.alloc (.cells #[.int .i64 0, .int .i64 0, .bool false, .bool false, .bool false, .bool false, .string ⟨#[]⟩, .int .i64 0] 48)).setRow w2.heap.size (thC y0) = V := ⟨_, rfl⟩
            rw [hV] at hV3 hB4 hR4
            replace hV3 : CB V w2.heap.size 48 (thC y0) := hV3
            replace hR4 : CB V (w.heap.size + 1) 48 (thC thZ) := hR4
            clear hR2 hB2 hR3 hB3
            rw [unhide hxe] at hV3
            have c2 := hV3.cell 2 rfl
            have z2 := hV3.frozen 2
            have hV4 := hV3.set 2 (.bool true)
            have c3 := hV4.cell 3 rfl
            have z3 := hV4.frozen 3
            have hV5 := hV4.set 3 (.bool true)
            obtain ⟨y, hy⟩ : ∃ y : Th, y = ⟨id, kind, true, true, sgn, wrp, val, nxt⟩ := ⟨_, rfl⟩
            have hV6 := hide (cb_eq hV5 (show thC y = _ by rw [hy]; rfl))
            have hR6 := hide ((hR4.set_other (h := w2.heap.size) (k := 2) (by omega) (.bool true)).set_other (h := w2.heap.size) (k := 3) (by omega) (.bool true))
            have hB6 := hide ((hB4.setCell (p := ⟨w2.heap.size, 2, none⟩) (show w.heap.size ≤ w2.heap.size by omega) (.bool true)).setCell (p := ⟨w2.heap.size, 3, none⟩) (show w.heap.size ≤ w2.heap.size by omega) (.bool true))
            replace hy := hide hy
            clear hV3 hV4 hV5 hR4 hB4
            replace hV := hide hV
            go_wp2_with (first
              | (refine wpList_store_row rfl 48 (.tmp 9) (.tmp 32) rfl w2.heap.size (thC y0) rfl rfl 48 _ (unhide hZ) (th_size y0) rfl (th_one y0) ?_; rw [unhide hV])
              | (refine wpList_load_row rfl 48 (.tmp 9) rfl w2.heap.size rfl 48 (thC y) (0, 0) _ (unhide hV6) Tryz.underlying48 rfl (th_size y) ?_)
              | (refine wpList_store_row rfl 48 (.tmp 6) (.tmp 37) rfl (w.heap.size + 1) (thC y) rfl rfl 48 (thC thZ) (unhide hR6) (th_size y) rfl (th_one y) ?_))
            have hR7 := setRow_heap _ (w.heap.size + 1) _ (thC y) 48 (0, 0) (unhide hR6)
            have hB7 := Go.below_setRow (unhide hB6) (show w.heap.size ≤ w.heap.size + 1 by omega) (thC y)
            exact bodyPost_ret (results_cb_tmp (by exact Tryz.results109) _ _ (w.heap.size + 1) 48 (thC y) _ rfl hR7 Tryz.underlying48 (th_size y)) rfl ⟨by rw [unhide hy]; rfl, hB7⟩
      | false =>
        go_enter Tryz.func109, Tryz.ntmps109
        go_wp2_with fail
        refine (unhide CO W).mono ?_
        rintro e w1 ⟨rfl, hb1⟩
        have hA1 := hide ((unhide hA).below hb1 (by omega))
        have hR1 := hide ((unhide hR).below hb1 (by omega))
        have hB1 := hb.trans (hb1.mono hb.size)
        have hs1 : w.heap.size + 1 < w1.heap.size := (unhide hR1).lt
        clear a0 a1 a2 a3 a4 a5 a6 a7 hA hR hb hb1 CO hW hlt
        cases ok with
        | false =>
          obtain rfl : fin = false := by cases fin with | false => rfl | true => exact absurd (HO.1 rfl) (by simp)
          clear HO CP hA1
          go_wp2_with (refine wpList_store_row rfl 48 (.tmp 6) (.tmp 30) rfl (w.heap.size + 1) (thC thZ) rfl rfl 48 (thC thZ) (unhide hR1) (th_size thZ) rfl (th_one thZ) ?_)
          have hR5 := setRow_heap _ (w.heap.size + 1) _ (thC thZ) 48 (0, 0) (unhide hR1)
          have hB5 := Go.below_setRow hB1 (show w.heap.size ≤ w.heap.size + 1 by omega) (thC thZ)
          exact bodyPost_ret (results_cb_tmp (by exact Tryz.results109) _ _ (w.heap.size + 1) 48 (thC thZ) _ rfl hR5 Tryz.underlying48 (th_size thZ)) rfl ⟨rfl, hB5⟩
        | true =>
          obtain rfl : fin = true := HO.2 (by simp)
          clear HO
          go_wp2_with (refine wpList_load_row rfl 48 (.tmp 3) rfl w.heap.size rfl 48 (thC y0) (0, 0) _ (unhide hA1) Tryz.underlying48 rfl (th_size y0) ?_)
          refine (unhide CP w1).mono ?_
          rintro e w2 ⟨rfl, hb2⟩
          have hR2 := (unhide hR1).step hb2
          have hB2 := hB1.trans (hb2.mono hB1.size)
          have hs2 : w.heap.size + 1 < w2.heap.size := hR2.lt
          clear hA1 hR1 hB1 hb2 CP hs1
          have hZ := hide (CB.new w2 #[.int .i64 0, .int .i64 0, .bool false, .bool false, .bool false, .bool false, .string ⟨#[]⟩, .int .i64 0] 48)
          have hR3 := (hR2.alloc (.cells #[.int .i64 0, .int .i64 0, .bool false, .bool false, .bool false, .bool false, .string ⟨#[]⟩, .int .i64 0] 48))
          have hB3 := hB2.alloc hB2.size (.cells #[.int .i64 0, .int .i64 0, .bool false, .bool false, .bool false, .bool false, .string ⟨#[]⟩, .int .i64 0] 48)
          have hV3 := setRow_heap _ w2.heap.size _ (thC y0) 48 (0, 0) (unhide hZ)
          have hB4 := Go.below_setRow hB3 (show w.heap.size ≤ w2.heap.size by omega) (thC y0)
          have hR4 := (setRow_other (w2.alloc (.cells #[.int .i64 0, .int .i64 0, .bool false, .bool false, .bool false, .bool false, .string ⟨#[]⟩, .int .i64 0] 48)) w2.heap.size (w.heap.size + 1) (thC y0) (by omega)).trans hR3
          obtain ⟨V, hV⟩ : ∃ V, (w2.alloc (.cells #[.int .i64 0, .int .i64 0, .bool false, .bool false, .bool false, .bool false, .string ⟨#[]⟩, .int .i64 0] 48)).setRow w2.heap.size (thC y0) = V := ⟨_, rfl⟩
          rw [hV] at hV3 hB4 hR4
          replace hV3 : CB V w2.heap.size 48 (thC y0) := hV3
          replace hR4 : CB V (w.heap.size + 1) 48 (thC thZ) := hR4
          clear hR2 hB2 hR3 hB3
          rw [unhide hxe] at hV3
          have c2 := hV3.cell 2 rfl
          have z2 := hV3.frozen 2
          have hV4 := hV3.set 2 (.bool true)
          have c3 := hV4.cell 3 rfl
          have z3 := hV4.frozen 3
          have hV5 := hV4.set 3 (.bool f)
          obtain ⟨y, hy⟩ : ∃ y : Th, y = ⟨id, kind, true, f, sgn, wrp, val, nxt⟩ := ⟨_, rfl⟩
          have hV6 := hide (cb_eq hV5 (show thC y = _ by rw [hy]; rfl))
          have hR6 := hide ((hR4.set_other (h := w2.heap.size) (k := 2) (by omega) (.bool true)).set_other (h := w2.heap.size) (k := 3) (by omega) (.bool f))
          have hB6 := hide ((hB4.setCell (p := ⟨w2.heap.size, 2, none⟩) (show w.heap.size ≤ w2.heap.size by omega) (.bool true)).setCell (p := ⟨w2.heap.size, 3, none⟩) (show w.heap.size ≤ w2.heap.size by omega) (.bool f))
          replace hy := hide hy
          clear hV3 hV4 hV5 hR4 hB4
          replace hV := hide hV
          go_wp2_with (first
            | (refine wpList_store_row rfl 48 (.tmp 9) (.tmp 32) rfl w2.heap.size (thC y0) rfl rfl 48 _ (unhide hZ) (th_size y0) rfl (th_one y0) ?_; rw [unhide hV])
            | (refine wpList_load_row rfl 48 (.tmp 9) rfl w2.heap.size rfl 48 (thC y) (0, 0) _ (unhide hV6) Tryz.underlying48 rfl (th_size y) ?_)
            | (refine wpList_store_row rfl 48 (.tmp 6) (.tmp 37) rfl (w.heap.size + 1) (thC y) rfl rfl 48 (thC thZ) (unhide hR6) (th_size y) rfl (th_one y) ?_))
          have hR7 := setRow_heap _ (w.heap.size + 1) _ (thC y) 48 (0, 0) (unhide hR6)
          have hB7 := Go.below_setRow (unhide hB6) (show w.heap.size ≤ w.heap.size + 1 by omega) (thC y)
          exact bodyPost_ret (results_cb_tmp (by exact Tryz.results109) _ _ (w.heap.size + 1) 48 (thC y) _ rfl hR7 Tryz.underlying48 (th_size y)) rfl ⟨by rw [unhide hy]; rfl, hB7⟩
  | false =>
    cases fix with
    | true =>
      cases f with
      | false =>
        obtain rfl : fin = false := by cases fin with | false => rfl | true => exact absurd (HO.1 rfl) (by simp)
        clear HO CO CP
        go_enter Tryz.func109, Tryz.ntmps109
        go_wp2_with (refine wpList_store_row rfl 48 (.tmp 6) (.tmp 30) rfl (w.heap.size + 1) (thC thZ) rfl rfl 48 (thC thZ) (unhide hR) (th_size thZ) rfl (th_one thZ) ?_)
        have hR5 := setRow_heap _ (w.heap.size + 1) _ (thC thZ) 48 (0, 0) (unhide hR)
        have hB5 := Go.below_setRow hb (show w.heap.size ≤ w.heap.size + 1 by omega) (thC thZ)
        exact bodyPost_ret (results_cb_tmp (by exact Tryz.results109) _ _ (w.heap.size + 1) 48 (thC thZ) _ rfl hR5 Tryz.underlying48 (th_size thZ)) rfl ⟨rfl, hB5⟩
      | true =>
        go_enter Tryz.func109, Tryz.ntmps109
        go_wp2_with fail
        refine (unhide CO W).mono ?_
        rintro e w1 ⟨rfl, hb1⟩
        have hA1 := hide ((unhide hA).below hb1 (by omega))
        have hR1 := hide ((unhide hR).below hb1 (by omega))
        have hB1 := hb.trans (hb1.mono hb.size)
        have hs1 : w.heap.size + 1 < w1.heap.size := (unhide hR1).lt
        clear a0 a1 a2 a3 a4 a5 a6 a7 hA hR hb hb1 CO hW hlt
        cases ok with
        | false =>
          obtain rfl : fin = false := by cases fin with | false => rfl | true => exact absurd (HO.1 rfl) (by simp)
          clear HO CP hA1
          go_wp2_with (refine wpList_store_row rfl 48 (.tmp 6) (.tmp 30) rfl (w.heap.size + 1) (thC thZ) rfl rfl 48 (thC thZ) (unhide hR1) (th_size thZ) rfl (th_one thZ) ?_)
          have hR5 := setRow_heap _ (w.heap.size + 1) _ (thC thZ) 48 (0, 0) (unhide hR1)
          have hB5 := Go.below_setRow hB1 (show w.heap.size ≤ w.heap.size + 1 by omega) (thC thZ)
          exact bodyPost_ret (results_cb_tmp (by exact Tryz.results109) _ _ (w.heap.size + 1) 48 (thC thZ) _ rfl hR5 Tryz.underlying48 (th_size thZ)) rfl ⟨rfl, hB5⟩
        | true =>
          obtain rfl : fin = true := HO.2 (by simp)
          clear HO
          go_wp2_with (refine wpList_load_row rfl 48 (.tmp 3) rfl w.heap.size rfl 48 (thC y0) (0, 0) _ (unhide hA1) Tryz.underlying48 rfl (th_size y0) ?_)
          refine (unhide CP w1).mono ?_
          rintro e w2 ⟨rfl, hb2⟩
          have hR2 := (unhide hR1).step hb2
          have hB2 := hB1.trans (hb2.mono hB1.size)
          have hs2 : w.heap.size + 1 < w2.heap.size := hR2.lt
          clear hA1 hR1 hB1 hb2 CP hs1
          have hZ := hide (CB.new w2 #[.int .i64 0, .int .i64 0, .bool false, .bool false, .bool false, .bool false, .string ⟨#[]⟩, .int .i64 0] 48)
          have hR3 := (hR2.alloc (.cells #[.int .i64 0, .int .i64 0, .bool false, .bool false, .bool false, .bool false, .string ⟨#[]⟩, .int .i64 0] 48))
          have hB3 := hB2.alloc hB2.size (.cells #[.int .i64 0, .int .i64 0, .bool false, .bool false, .bool false, .bool false, .string ⟨#[]⟩, .int .i64 0] 48)
          have hV3 := setRow_heap _ w2.heap.size _ (thC y0) 48 (0, 0) (unhide hZ)
          have hB4 := Go.below_setRow hB3 (show w.heap.size ≤ w2.heap.size by omega) (thC y0)
          have hR4 := (setRow_other (w2.alloc (.cells #[.int .i64 0, .int .i64 0, .bool false, .bool false, .bool false, .bool false, .string ⟨#[]⟩, .int .i64 0] 48)) w2.heap.size (w.heap.size + 1) (thC y0) (by omega)).trans hR3
          obtain ⟨V, hV⟩ : ∃ V, (w2.alloc (.cells #[.int .i64 0, .int .i64 0, .bool false, .bool false, .bool false, .bool false, .string ⟨#[]⟩, .int .i64 0] 48)).setRow w2.heap.size (thC y0) = V := ⟨_, rfl⟩
          rw [hV] at hV3 hB4 hR4
          replace hV3 : CB V w2.heap.size 48 (thC y0) := hV3
          replace hR4 : CB V (w.heap.size + 1) 48 (thC thZ) := hR4
          clear hR2 hB2 hR3 hB3
          rw [unhide hxe] at hV3
          have c2 := hV3.cell 2 rfl
          have z2 := hV3.frozen 2
          have hV4 := hV3.set 2 (.bool h)
          have c3 := hV4.cell 3 rfl
          have z3 := hV4.frozen 3
          have hV5 := hV4.set 3 (.bool true)
          obtain ⟨y, hy⟩ : ∃ y : Th, y = ⟨id, kind, h, true, sgn, wrp, val, nxt⟩ := ⟨_, rfl⟩
          have hV6 := hide (cb_eq hV5 (show thC y = _ by rw [hy]; rfl))
          have hR6 := hide ((hR4.set_other (h := w2.heap.size) (k := 2) (by omega) (.bool h)).set_other (h := w2.heap.size) (k := 3) (by omega) (.bool true))
          have hB6 := hide ((hB4.setCell (p := ⟨w2.heap.size, 2, none⟩) (show w.heap.size ≤ w2.heap.size by omega) (.bool h)).setCell (p := ⟨w2.heap.size, 3, none⟩) (show w.heap.size ≤ w2.heap.size by omega) (.bool true))
          replace hy := hide hy
          clear hV3 hV4 hV5 hR4 hB4
          replace hV := hide hV
          go_wp2_with (first
            | (refine wpList_store_row rfl 48 (.tmp 9) (.tmp 32) rfl w2.heap.size (thC y0) rfl rfl 48 _ (unhide hZ) (th_size y0) rfl (th_one y0) ?_; rw [unhide hV])
            | (refine wpList_load_row rfl 48 (.tmp 9) rfl w2.heap.size rfl 48 (thC y) (0, 0) _ (unhide hV6) Tryz.underlying48 rfl (th_size y) ?_)
            | (refine wpList_store_row rfl 48 (.tmp 6) (.tmp 37) rfl (w.heap.size + 1) (thC y) rfl rfl 48 (thC thZ) (unhide hR6) (th_size y) rfl (th_one y) ?_))
          have hR7 := setRow_heap _ (w.heap.size + 1) _ (thC y) 48 (0, 0) (unhide hR6)
          have hB7 := Go.below_setRow (unhide hB6) (show w.heap.size ≤ w.heap.size + 1 by omega) (thC y)
          exact bodyPost_ret (results_cb_tmp (by exact Tryz.results109) _ _ (w.heap.size + 1) 48 (thC y) _ rfl hR7 Tryz.underlying48 (th_size y)) rfl ⟨by rw [unhide hy]; rfl, hB7⟩
    | false =>
      go_enter Tryz.func109, Tryz.ntmps109
      go_wp2_with fail
      refine (unhide CO W).mono ?_
      rintro e w1 ⟨rfl, hb1⟩
      have hA1 := hide ((unhide hA).below hb1 (by omega))
      have hR1 := hide ((unhide hR).below hb1 (by omega))
      have hB1 := hb.trans (hb1.mono hb.size)
      have hs1 : w.heap.size + 1 < w1.heap.size := (unhide hR1).lt
      clear a0 a1 a2 a3 a4 a5 a6 a7 hA hR hb hb1 CO hW hlt
      cases ok with
      | false =>
        obtain rfl : fin = false := by cases fin with | false => rfl | true => exact absurd (HO.1 rfl) (by simp)
        clear HO CP hA1
        go_wp2_with (refine wpList_store_row rfl 48 (.tmp 6) (.tmp 30) rfl (w.heap.size + 1) (thC thZ) rfl rfl 48 (thC thZ) (unhide hR1) (th_size thZ) rfl (th_one thZ) ?_)
        have hR5 := setRow_heap _ (w.heap.size + 1) _ (thC thZ) 48 (0, 0) (unhide hR1)
        have hB5 := Go.below_setRow hB1 (show w.heap.size ≤ w.heap.size + 1 by omega) (thC thZ)
        exact bodyPost_ret (results_cb_tmp (by exact Tryz.results109) _ _ (w.heap.size + 1) 48 (thC thZ) _ rfl hR5 Tryz.underlying48 (th_size thZ)) rfl ⟨rfl, hB5⟩
      | true =>
        obtain rfl : fin = true := HO.2 (by simp)
        clear HO
        go_wp2_with (refine wpList_load_row rfl 48 (.tmp 3) rfl w.heap.size rfl 48 (thC y0) (0, 0) _ (unhide hA1) Tryz.underlying48 rfl (th_size y0) ?_)
        refine (unhide CP w1).mono ?_
        rintro e w2 ⟨rfl, hb2⟩
        have hR2 := (unhide hR1).step hb2
        have hB2 := hB1.trans (hb2.mono hB1.size)
        have hs2 : w.heap.size + 1 < w2.heap.size := hR2.lt
        clear hA1 hR1 hB1 hb2 CP hs1
        have hZ := hide (CB.new w2 #[.int .i64 0, .int .i64 0, .bool false, .bool false, .bool false, .bool false, .string ⟨#[]⟩, .int .i64 0] 48)
        have hR3 := (hR2.alloc (.cells #[.int .i64 0, .int .i64 0, .bool false, .bool false, .bool false, .bool false, .string ⟨#[]⟩, .int .i64 0] 48))
        have hB3 := hB2.alloc hB2.size (.cells #[.int .i64 0, .int .i64 0, .bool false, .bool false, .bool false, .bool false, .string ⟨#[]⟩, .int .i64 0] 48)
        have hV3 := setRow_heap _ w2.heap.size _ (thC y0) 48 (0, 0) (unhide hZ)
        have hB4 := Go.below_setRow hB3 (show w.heap.size ≤ w2.heap.size by omega) (thC y0)
        have hR4 := (setRow_other (w2.alloc (.cells #[.int .i64 0, .int .i64 0, .bool false, .bool false, .bool false, .bool false, .string ⟨#[]⟩, .int .i64 0] 48)) w2.heap.size (w.heap.size + 1) (thC y0) (by omega)).trans hR3
        obtain ⟨V, hV⟩ : ∃ V, (w2.alloc (.cells #[.int .i64 0, .int .i64 0, .bool false, .bool false, .bool false, .bool false, .string ⟨#[]⟩, .int .i64 0] 48)).setRow w2.heap.size (thC y0) = V := ⟨_, rfl⟩
        rw [hV] at hV3 hB4 hR4
        replace hV3 : CB V w2.heap.size 48 (thC y0) := hV3
        replace hR4 : CB V (w.heap.size + 1) 48 (thC thZ) := hR4
        clear hR2 hB2 hR3 hB3
        rw [unhide hxe] at hV3
        have c2 := hV3.cell 2 rfl
        have z2 := hV3.frozen 2
        have hV4 := hV3.set 2 (.bool h)
        have c3 := hV4.cell 3 rfl
        have z3 := hV4.frozen 3
        have hV5 := hV4.set 3 (.bool f)
        obtain ⟨y, hy⟩ : ∃ y : Th, y = ⟨id, kind, h, f, sgn, wrp, val, nxt⟩ := ⟨_, rfl⟩
        have hV6 := hide (cb_eq hV5 (show thC y = _ by rw [hy]; rfl))
        have hR6 := hide ((hR4.set_other (h := w2.heap.size) (k := 2) (by omega) (.bool h)).set_other (h := w2.heap.size) (k := 3) (by omega) (.bool f))
        have hB6 := hide ((hB4.setCell (p := ⟨w2.heap.size, 2, none⟩) (show w.heap.size ≤ w2.heap.size by omega) (.bool h)).setCell (p := ⟨w2.heap.size, 3, none⟩) (show w.heap.size ≤ w2.heap.size by omega) (.bool f))
        replace hy := hide hy
        clear hV3 hV4 hV5 hR4 hB4
        replace hV := hide hV
        go_wp2_with (first
          | (refine wpList_store_row rfl 48 (.tmp 9) (.tmp 32) rfl w2.heap.size (thC y0) rfl rfl 48 _ (unhide hZ) (th_size y0) rfl (th_one y0) ?_; rw [unhide hV])
          | (refine wpList_load_row rfl 48 (.tmp 9) rfl w2.heap.size rfl 48 (thC y) (0, 0) _ (unhide hV6) Tryz.underlying48 rfl (th_size y) ?_)
          | (refine wpList_store_row rfl 48 (.tmp 6) (.tmp 37) rfl (w.heap.size + 1) (thC y) rfl rfl 48 (thC thZ) (unhide hR6) (th_size y) rfl (th_one y) ?_))
        have hR7 := setRow_heap _ (w.heap.size + 1) _ (thC y) 48 (0, 0) (unhide hR6)
        have hB7 := Go.below_setRow (unhide hB6) (show w.heap.size ≤ w.heap.size + 1 by omega) (thC y)
        exact bodyPost_ret (results_cb_tmp (by exact Tryz.results109) _ _ (w.heap.size + 1) 48 (thC y) _ rfl hR7 Tryz.underlying48 (th_size y)) rfl ⟨by rw [unhide hy]; rfl, hB7⟩
end Go.Proofs.YtkbbcjnickgfjabGreat

/- Laws of no program: stores of several cells as steps of a region that draws its order. -/
namespace Go.Proofs.YtkbbcjnickgfjabGreat
open Go.RowKit
theorem putC_all (l vs : List Value) (h : l.length = vs.length) : putC l vs 0 = vs := by
  unfold putC
  rw [List.take_zero, List.nil_append, Nat.zero_add, List.drop_of_length_le (by omega), List.append_nil]
/-- Several cells stored into the midst of a variable. -/
theorem wp_store_cb {P : Program} {o : Oper} {a : Act} {w : World} {K : Act → World → Prop} {Q : Exit → Act → World → Prop} (ty : TypeId) (p z : Operand) (ho : o.op = .store ty p z)
    {g f : Nat} {T : TypeId} {cs : Array Value} (vs : List Value) (hx : a.eval p = .pointer (some ⟨g, f, none⟩)) (hy : a.eval z = .agg vs.toArray) (hA : CB w g T cs) (hm : f + vs.length ≤ cs.size) (h1 : ∀ v ∈ vs, v.oneCell' = true) (hi : (P.info? ty).map (·.size) = some vs.length)
    (h : K (a.put o.dst undef) (w.setRow g (putC cs.toList vs f).toArray)) : o.wp P a w K Q := by
  have hst := run_storeCells_at P g f T vs 0 cs w hA (by omega) h1
  rw [show f + 0 = f from rfl, show cs.toList.take f ++ vs ++ cs.toList.drop (f + vs.length) = putC cs.toList vs f from rfl] at hst
  unfold Oper.wp execOp
  cases hq : P.info? ty with
  | none => simp [hq] at hi
  | some i =>
    have hs : i.size = vs.length := by simpa [hq] using hi
    have hst' : (storeVar ty ⟨g, f, none⟩ (.agg vs.toArray)).run P w = .ok () (w.setRow g (putC cs.toList vs f).toArray) := by
      simp [storeVar, sizeOf, typeInfo, hq, Value.cells, hs, hst]
    simp only [ho, hx, hy, Instr.storeAt, Instr.sureAddr, Sem.run_bind, Sem.run_pure, Result.andThen_ok, hst']
    exact h
theorem step_store_all {P : Program} {W : World} {ops : Array Oper} {o : Oper} {a : Act} {K : Act → World → Prop} {Q : Exit → Act → World → Prop} {E : Prop} (hg : o.guard = none) (ty : TypeId) (p z : Operand) (ho : o.op = .store ty p z)
    {g : Nat} {T : TypeId} {cs : Array Value} (cs' : Array Value) (hx : a.eval p = .pointer (some ⟨g, 0, none⟩)) (hy : a.eval z = .agg cs') (hA : CB W g T cs) (hs : cs.size = cs'.size) (h1 : cs'.all (·.oneCell') = true) (hi : (P.info? ty).map (·.size) = some cs'.size)
    (h : K (a.put o.dst undef) (W.setRow g cs')) : if Region.wanted o (yielded ops a.tmps) = true then Oper.wp P o a W K Q else E := by
  have hw : Region.wanted o (yielded ops a.tmps) = true := by simp [Region.wanted, hg]
  rw [if_pos hw]
  refine wp_store_cb ty p z ho (f := 0) cs'.toList hx (by rw [hy]) hA (by rw [Array.length_toList]; omega) (fun v hv => ?_) (by rw [hi, Array.length_toList]) ?_
  · exact Array.all_eq_true_iff_forall_mem.1 h1 v (Array.mem_toList_iff.1 hv)
  · rw [putC_all _ _ (by rw [Array.length_toList, Array.length_toList]; exact hs)]
    exact h
section
variable {α : Type} {L : Lay α}
theorem step_store_n {P : Program} {w : World} {ops : Array Oper} {o : Oper} {a : Act} {K : Act → World → Prop} {Q : Exit → Act → World → Prop} {E : Prop} (hgd : o.guard = none) (ty : TypeId) (p z : Operand) (ho : o.op = .store ty p z)
    {base g n c k : Nat} {e : TypeId} {xs : List α} (hx : a.eval p = .pointer (some ⟨g, k * L.m, none⟩)) (y : α) (hy : a.eval z = .agg (L.c y).toArray) (hown : OwnN L w base e (.slice (some ⟨g, 0, none⟩) n c) xs) (hk : k < n) (hi : (P.info? ty).map (·.size) = some L.m)
    (h : ∀ w', OwnN L w' base e (.slice (some ⟨g, 0, none⟩) n c) (xs.set k y) → w.grownBy w' (some g) → w'.heap.size = w.heap.size → K (a.put o.dst undef) w') : if Region.wanted o (yielded ops a.tmps) = true then Oper.wp P o a w K Q else E := by
  have hw : Region.wanted o (yielded ops a.tmps) = true := by simp [Region.wanted, hgd]
  rw [if_pos hw]
  obtain ⟨cur, h2, hle, h3⟩ := ownsRow_put hown hk y
  have hG : w.grownBy (w.setRow g (putC cur.toList (L.c y) (k * L.m)).toArray) (some g) := by
    refine ⟨rfl, rfl, rfl, ?_, fun j hj hne => Go.setRow_other w g j _ (fun e => hne (by rw [e]))⟩
    have := Go.setRow_size w g (putC cur.toList (L.c y) (k * L.m)).toArray
    omega
  have hS : (w.setRow g (putC cur.toList (L.c y) (k * L.m)).toArray).heap.size = w.heap.size := Go.setRow_size w g _
  exact wp_store_cb ty p z ho (L.c y) hx hy h2 (by rw [L.len]; exact hle) (fun v hv => L.one y v hv) (by rw [hi, L.len]) (h _ h3 hG hS)
end
end Go.Proofs.YtkbbcjnickgfjabGreat

/- The project's things: whether one may become another, over the loaded program. -/
namespace Go.Proofs.YtkbbcjnickgfjabGreat
open Go.RowKit
theorem thGuard0 : Tryz.prog.eqGuardType Tryz.prog.depth 48 = false := by kernel_rfl
theorem guardTh (x y : Operand) (p q : Array Value) (W : World) : (eqGuard .eql 48 x y (.agg p) (.agg q)).run Tryz.prog W = .ok () W := run_eqGuard_agg W .eql _ x y _ _ thGuard0
set_option maxRecDepth 20000 in
set_option maxHeartbeats 4000000 in
theorem mayBecome_any (x y : Th) (hx : x.val.size ≤ 4000000) (w : World) :
    Calls Tryz.prog 96 #[.agg (thC x), .agg (thC y)] w fun e w' => e = .returned (.bool (becB x y)) ∧ Below w.heap.size w w' := by
  have CC := fun W => implChange_any x y.hid y.fix hx W
  have HB : becB x y = (chgOk x y.hid y.fix && thEq (chg9 x y) y && decide (x.nxt ≤ y.nxt)) := rfl
  have EQ := fun W => eqTh_run (chg9 x y) y W
  have H9 : chg9 x y = { chgT x y.hid y.fix with nxt := y.nxt } := rfl
  rw [HB]
  clear HB
  generalize thEq (chg9 x y) y = te at *
  generalize chg9 x y = z9 at *
  generalize chgT x y.hid y.fix = ct at *
  generalize chgOk x y.hid y.fix = ok at *
  obtain ⟨xi, xk, xh, xf, xg, xw, xv, xn⟩ := x
  obtain ⟨y0, hy0⟩ : ∃ z, z = y := ⟨_, rfl⟩
  rw [← hy0] at EQ
  obtain ⟨yi, yk, yh, yf, ys, yw, yv, yn⟩ := y
  obtain ⟨ci, ck, ch, cf, cg, cw, cv, cn⟩ := ct
  dsimp only at CC H9
  subst H9
  have hye : thC y0 = #[.int .i64 yi, .int .i64 yk, .bool yh, .bool yf, .bool ys, .bool yw, .string yv, .int .i64 yn] := by rw [hy0]; rfl
  rw [hye] at EQ
  clear hye hy0
  simp only [thC] at CC EQ ⊢
  replace CC := hide CC; replace EQ := hide EQ
  obtain ⟨W, hW, hX, hY, hB, hs1⟩ := two_cb w #[.int .i64 xi, .int .i64 xk, .bool xh, .bool xf, .bool xg, .bool xw, .string xv, .int .i64 xn] #[.int .i64 yi, .int .i64 yk, .bool yh, .bool yf, .bool ys, .bool yw, .string yv, .int .i64 yn] 48 48
  have y2 := hY.cell 2 (v := .bool yh) rfl
  have y3 := hY.cell 3 (v := .bool yf) rfl
  have HX := hide hX; have HY := hide hY; replace hB := hide hB
  clear hX hY
  go_enter Tryz.func96, Tryz.ntmps96
  go_upto_region 1 with fail
  first | rw [hW] | skip
  clear hW
  go_upto_region 2 with (first
    | (refine wpList_load_row (P := Tryz.prog) rfl 48 (.tmp 2) rfl w.heap.size rfl 48 #[.int .i64 xi, .int .i64 xk, .bool xh, .bool xf, .bool xg, .bool xw, .string xv, .int .i64 xn] (0, 0) _ (unhide HX) Tryz.underlying48 rfl rfl ?_)
    | (go_at_call 109; refine (unhide CC _).mono ?_; rintro e w1 ⟨rfl, hb1⟩; have HX1 := (unhide HX).step hb1; have HY1 := (unhide HY).step hb1; have T1 := (unhide hB).trans (hb1.mono (unhide hB).size); clear HX HY hB y2 y3
       have HC := hide (CB.new w1 #[.int .i64 0, .int .i64 0, .bool false, .bool false, .bool false, .bool false, .string ⟨#[]⟩, .int .i64 0] 48))
    | (refine wpList_store_row (P := Tryz.prog) rfl 48 (.tmp 5) (.tmp 14) rfl w1.heap.size #[.int .i64 ci, .int .i64 ck, .bool ch, .bool cf, .bool cg, .bool cw, .string cv, .int .i64 cn] rfl rfl 48 _ (unhide HC) rfl rfl (by simp [Value.oneCell']) ?_))
  have hC1 := setRow_heap _ w1.heap.size _ #[.int .i64 ci, .int .i64 ck, .bool ch, .bool cf, .bool cg, .bool cw, .string cv, .int .i64 cn] 48 (0, 0) (unhide HC)
  have hbV := Go.below_setRow ((Below.refl w1.heap.size w1).alloc (Nat.le_refl _) (.cells #[.int .i64 0, .int .i64 0, .bool false, .bool false, .bool false, .bool false, .string ⟨#[]⟩, .int .i64 0] 48)) (Nat.le_refl _) #[.int .i64 ci, .int .i64 ck, .bool ch, .bool cf, .bool cg, .bool cw, .string cv, .int .i64 cn]
  obtain ⟨g, hg⟩ : ∃ g, g = w1.heap.size := ⟨_, rfl⟩
  have hgl : w.heap.size + 1 < g := by rw [hg]; exact HY1.lt
  refine wp_gen (fun V => CB V w.heap.size 48 #[.int .i64 xi, .int .i64 xk, .bool xh, .bool xf, .bool xg, .bool xw, .string xv, .int .i64 xn] ∧ CB V (w.heap.size + 1) 48 #[.int .i64 yi, .int .i64 yk, .bool yh, .bool yf, .bool ys, .bool yw, .string yv, .int .i64 yn] ∧ CB V w1.heap.size 48 #[.int .i64 ci, .int .i64 ck, .bool ch, .bool cf, .bool cg, .bool cw, .string cv, .int .i64 cn] ∧ Below w.heap.size w V) ⟨HX1.below hbV (by omega), HY1.below hbV (by omega), hC1, T1.trans (hbV.mono T1.size)⟩ ?_
  clear HC hC1 hbV HX1 HY1 T1 hb1
  rw [← hg]
  clear hg
  rintro V ⟨hX, hY, hC, hB⟩
  have y7 := hY.cell 7 (v := .int .i64 yn) rfl
  have p7 := hC.cell 7 (v := .int .i64 cn) rfl
  have z7 := hC.frozen 7
  have hC2 := hide (cb_eq (hC.set 7 (.int .i64 yn)) (show (#[.int .i64 ci, .int .i64 ck, .bool ch, .bool cf, .bool cg, .bool cw, .string cv, .int .i64 yn] : Array Value) = _ from rfl))
  have hX2 := hide (hX.set_other (h := g) (k := 7) (by omega) (.int .i64 yn))
  have hY2 := hide (hY.set_other (h := g) (k := 7) (by omega) (.int .i64 yn))
  have hB2 := hide (hB.setCell (p := ⟨g, 7, none⟩) (show w.heap.size ≤ g by omega) (.int .i64 yn))
  go_upto_region 3 with fail
  refine wp_gen (fun V => CB V w.heap.size 48 #[.int .i64 xi, .int .i64 xk, .bool xh, .bool xf, .bool xg, .bool xw, .string xv, .int .i64 xn] ∧ CB V (w.heap.size + 1) 48 #[.int .i64 yi, .int .i64 yk, .bool yh, .bool yf, .bool ys, .bool yw, .string yv, .int .i64 yn] ∧ CB V g 48 #[.int .i64 ci, .int .i64 ck, .bool ch, .bool cf, .bool cg, .bool cw, .string cv, .int .i64 yn] ∧ Below w.heap.size w V) ⟨unhide hX2, unhide hY2, unhide hC2, unhide hB2⟩ ?_
  clear hX hY hC hB y7 p7 z7 hC2 hX2 hY2 hB2 CC
  rintro V ⟨hX, hY, hC, hB⟩
  have EG := fun W => guardTh (.tmp 21) (.tmp 22) #[.int .i64 ci, .int .i64 ck, .bool ch, .bool cf, .bool cg, .bool cw, .string cv, .int .i64 yn] #[.int .i64 yi, .int .i64 yk, .bool yh, .bool yf, .bool ys, .bool yw, .string yv, .int .i64 yn] W
  have EQ' := unhide EQ
  cases ok with
  | false =>
    clear EQ EQ' EG
    go_wp2
    go_ret
    exact ⟨rfl, hB⟩
  | true =>
    have x7 := hX.cell 7 (v := .int .i64 xn) rfl
    have y0 := hY.cell 0 (v := .int .i64 yi) rfl
    have y1 := hY.cell 1 (v := .int .i64 yk) rfl
    have y2 := hY.cell 2 (v := .bool yh) rfl
    have y3 := hY.cell 3 (v := .bool yf) rfl
    have y4 := hY.cell 4 (v := .bool ys) rfl
    have y5 := hY.cell 5 (v := .bool yw) rfl
    have y6 := hY.cell 6 (v := .string yv) rfl
    have y7 := hY.cell 7 (v := .int .i64 yn) rfl
    have c0 := hC.cell 0 (v := .int .i64 ci) rfl
    have c1 := hC.cell 1 (v := .int .i64 ck) rfl
    have c2 := hC.cell 2 (v := .bool ch) rfl
    have c3 := hC.cell 3 (v := .bool cf) rfl
    have c4 := hC.cell 4 (v := .bool cg) rfl
    have c5 := hC.cell 5 (v := .bool cw) rfl
    have c6 := hC.cell 6 (v := .string cv) rfl
    have c7 := hC.cell 7 (v := .int .i64 yn) rfl
    clear EQ hX hY hC
    cases te with
    | false =>
      go_wp2
      go_ret
      exact ⟨rfl, hB⟩
    | true =>
      by_cases hn : xn ≤ yn
      · go_wp2
        go_ret
        exact ⟨by simp [hn], hB⟩
      · go_wp2
        go_ret
        exact ⟨by simp [hn], hB⟩
end Go.Proofs.YtkbbcjnickgfjabGreat

/- Things: one of them is taken out of a row of the call's own, by the library's slices.Delete, over the loaded program. -/
namespace Go.Proofs.YtkbbcjnickgfjabGreat
open Go.RowKit
section
variable {α : Type} {L : Lay α}
theorem flat_take (L : Lay α) : ∀ (xs : List α) (k : Nat), (xs.flatMap L.c).take (k * L.m) = (xs.take k).flatMap L.c
  | xs, 0 => by simp
  | [], k + 1 => by simp
  | z :: r, k + 1 => by
    have ih := flat_take L r k
    rw [List.flatMap_cons, List.take_succ_cons, List.flatMap_cons, ← ih, List.take_append, L.len, List.take_of_length_le (by rw [L.len, Nat.succ_mul]; omega), show (k + 1) * L.m - L.m = k * L.m by rw [Nat.succ_mul]; omega]
theorem putC_len (l vs : List Value) (o : Nat) (h : o + vs.length ≤ l.length) : (putC l vs o).length = l.length := by
  unfold putC
  rw [List.length_append, List.length_append, List.length_take, List.length_drop]
  omega
theorem setCells_is {P : Program} (w : World) (g o : Nat) (t : TypeId) (vs : List Value) (cur : Array Value) (hg : w.heap[g]? = some (.cells cur t (0, 0))) (hl : o + vs.length ≤ cur.size) (h1 : ∀ v ∈ vs, v.oneCell' = true) : w.setCells g o vs = w.setRow g (putC cur.toList vs o).toArray := by
  have a := run_storeCells_at P g o t vs 0 cur w hg (by omega) h1
  have b := run_storeCells_cells (P := P) g o vs 0 w
    (fun j hj => by
      rw [cell_of_row w g _ cur t (0, 0) hg, Array.getElem?_eq_getElem (by omega)]; rfl)
    (fun j hj => frozen_of_row w g _ cur t hg) h1
  rw [a] at b
  have b2 := Result.ok.inj b
  exact b2.2.symm
/-- What stands behind place k moved down by one. -/
theorem OwnN.moved {w : World} {base g n c : Nat} {e : TypeId} {xs : List α} (h : OwnN L w base e (.slice (some ⟨g, 0, none⟩) n c) xs) {k : Nat} (hk : k < n) :
    ∃ cur, w.heap[g]? = some (.cells cur e (0, 0)) ∧ k * L.m + ((xs.drop (k + 1)).flatMap L.c).length ≤ cur.size ∧ n * L.m ≤ cur.size ∧
      OwnN L (w.setRow g (putC cur.toList ((xs.drop (k + 1)).flatMap L.c) (k * L.m)).toArray) base e (.slice (some ⟨g, 0, none⟩) (n - 1) c) (xs.take k ++ xs.drop (k + 1)) := by
  have hl := h.len
  unfold OwnN at h
  rcases h.2 with ⟨h1, _⟩ | ⟨g', cap, cur, h1, hb, h2, h3, h4, h5, h6⟩
  · cases h1
  · simp only [Value.slice.injEq, Option.some.injEq, Addr.mk.injEq] at h1
    obtain ⟨⟨rfl, _⟩, _, rfl⟩ := h1
    have hn : n = k + 1 + (n - k - 1) := by omega
    have hml : n * L.m = k * L.m + L.m + (n - k - 1) * L.m := by
      conv => lhs; rw [hn]
      rw [Nat.add_mul, Nat.succ_mul]
    have hdl : ((xs.drop (k + 1)).flatMap L.c).length = (n - k - 1) * L.m := by rw [lay_len, List.length_drop, hl, Nat.sub_sub]
    have hnc : n * L.m ≤ cur.size := by rw [h5]; exact Nat.mul_le_mul_right _ (by omega)
    have hle : k * L.m + ((xs.drop (k + 1)).flatMap L.c).length ≤ cur.size := by rw [hdl]; omega
    refine ⟨cur, h2, hle, hnc, ?_⟩
    have hyl : (xs.take k ++ xs.drop (k + 1)).length = n - 1 := by rw [List.length_append, List.length_take, List.length_drop]; omega
    unfold OwnN
    refine ⟨lay_len _, .inr ⟨g, c, (putC cur.toList ((xs.drop (k + 1)).flatMap L.c) (k * L.m)).toArray, by rw [hyl], hb, setRow_heap w g _ _ e (0, 0) h2, by rw [hyl]; omega, h4, ?_, ?_⟩⟩
    · rw [List.size_toArray, putC_len _ _ _ (by rw [Array.length_toList]; exact hle)]
      exact h5
    · rw [hyl]
      have e6 : cur.toList.take (n * L.m) = xs.flatMap L.c := by rw [← hl]; exact h6
      have e7 : cur.toList.take (k * L.m) = (xs.take k).flatMap L.c := by
        rw [← flat_take, ← e6, List.take_take, Nat.min_eq_left (by omega)]
      have hn1 : (n - 1) * L.m = k * L.m + (n - k - 1) * L.m := by rw [← Nat.add_mul]; congr 1; omega
      unfold putC
      rw [List.flatMap_append, e7, hn1, List.take_append_of_le_length (by rw [List.length_append, lay_len, List.length_take, hdl]; rw [show min k xs.length = k by omega]; exact Nat.le_refl _), List.take_of_length_le (by rw [List.length_append, lay_len, List.length_take, hdl]; rw [show min k xs.length = k by omega]; exact Nat.le_refl _)]
/-- Cells behind the row's end are laid anew: the row stands. -/
theorem OwnN.past {w : World} {base g n c o : Nat} {e : TypeId} {xs : List α} (h : OwnN L w base e (.slice (some ⟨g, 0, none⟩) n c) xs) {cur : Array Value} (hg : w.heap[g]? = some (.cells cur e (0, 0))) (zs : List Value) (ho : n * L.m ≤ o) (hz : o + zs.length ≤ cur.size) :
    OwnN L (w.setRow g (putC cur.toList zs o).toArray) base e (.slice (some ⟨g, 0, none⟩) n c) xs := by
  have hl := h.len
  unfold OwnN at h
  rcases h.2 with ⟨h1, _⟩ | ⟨g', cap, cur', h1, hb, h2, h3, h4, h5, h6⟩
  · cases h1
  · simp only [Value.slice.injEq, Option.some.injEq, Addr.mk.injEq] at h1
    obtain ⟨⟨rfl, _⟩, _, rfl⟩ := h1
    rw [hg] at h2
    have h2 := Option.some.inj h2
    injection h2 with h2 _
    subst h2
    unfold OwnN
    refine ⟨lay_len _, .inr ⟨g, c, (putC cur.toList zs o).toArray, by rw [hl], hb, setRow_heap w g _ _ e (0, 0) hg, h3, h4, ?_, ?_⟩⟩
    · rw [List.size_toArray, putC_len _ _ _ (by rw [Array.length_toList]; exact hz)]
      exact h5
    · have e6 : cur.toList.take (n * L.m) = xs.flatMap L.c := by rw [← hl]; exact h6
      rw [hl, ← e6]
      unfold putC
      rw [List.append_assoc, List.take_append_of_le_length (by rw [List.length_take, Array.length_toList]; omega), List.take_take, Nat.min_eq_left ho]
end
theorem grown_setRow (w : World) (g : Nat) (cs : Array Value) : w.grownBy (w.setRow g cs) (some g) := by
  refine ⟨rfl, rfl, rfl, ?_, fun j hj hne => Go.setRow_other w g j _ (fun e => hne (by rw [e]))⟩
  have := Go.setRow_size w g cs
  omega
theorem grT9 {a b c : World} {r : Option Nat} (h : a.grownBy b r) (k : b.grownBy c r) : a.grownBy c r := ⟨k.os.trans h.os, k.tape.trans h.tape, k.output.trans h.output, Nat.le_trans h.size k.size, fun q hq hr => (k.block q (Nat.lt_of_lt_of_le hq h.size) hr).trans (h.block q hq hr)⟩
theorem run_clear_one {P : Program} (w : World) (t e ty : TypeId) (z : Value) (zs : List Value) (ht : P.underlying t = some (.slice e)) (hv : ∀ w, (zeroValue e).run P w = .ok z w) (hz : (Builtin.zeroCells z.cells 1).toList = zs) (b o c : Nat) (cur : Array Value) (T : TypeId)
    (hg : w.heap[b]? = some (.cells cur T (0, 0))) (hl : o + zs.length ≤ cur.size) (h1 : ∀ v ∈ zs, v.oneCell' = true) :
    (Builtin.clear_ #[t] ty #[.slice (some ⟨b, o, none⟩) 1 c]).run P w = .ok (.tuple #[]) (w.setRow b (putC cur.toList zs o).toArray) := by
  have hst := run_storeCells_at P b o T zs 0 cur w hg (by omega) h1
  rw [show o + 0 = o from rfl, show cur.toList.take o ++ zs ++ cur.toList.drop (o + zs.length) = putC cur.toList zs o from rfl] at hst
  simp [Builtin.clear_, run_underlying ht, hv, hz, hst]
theorem zeroTh (w : World) : (zeroValue 48).run Tryz.prog w = .ok (.agg (thC thZ)) w := by kernel_rfl
theorem zeroThC : (Builtin.zeroCells (Value.agg (thC thZ)).cells 1).toList = thY.c thZ := by
  simp [Builtin.zeroCells, Value.cells, thC, thY, thZ, Array.range]
set_option maxRecDepth 20000 in
set_option maxHeartbeats 4000000 in
theorem deleteTh_any (xs : List Th) (g c k j base : Nat) (w : World) (ho : OwnN thY w base 48 (.slice (some ⟨g, 0, none⟩) xs.length c) xs) (hk : k < xs.length) (hj : j = k + 1) :
    Calls Tryz.prog 97 #[.slice (some ⟨g, 0, none⟩) xs.length c, .int .i64 (k : Int), .int .i64 (j : Int)] w fun e w' =>
      e = .returned (.slice (some ⟨g, 0, none⟩) (xs.length - 1) c) ∧ OwnN thY w' base 48 (.slice (some ⟨g, 0, none⟩) (xs.length - 1) c) (xs.take k ++ xs.drop (k + 1)) ∧ w.grownBy w' (some g) := by
  obtain ⟨i0, hi, hz0, hz1, hz2⟩ := info_parts infoThing
  obtain ⟨cur, hg, hle, hnm, hmv⟩ := OwnN.moved (w := w.drew) ho.drew hk
  obtain ⟨hcap1, hcap2⟩ : xs.length ≤ c ∧ c ≤ 9223372036854775807 := by
    rcases ho.2 with ⟨h1, _⟩ | ⟨g', cap, cur', h1, hb, h2, h3, h4, h5, h6⟩
    · cases h1
    · simp only [Value.slice.injEq, Option.some.injEq, Addr.mk.injEq] at h1
      obtain ⟨⟨rfl, _⟩, _, rfl⟩ := h1
      unfold maxLen at h4
      exact ⟨h3, by omega⟩
  obtain ⟨news, hnews⟩ : ∃ z, z = (xs.drop (k + 1)).flatMap thY.c := ⟨_, rfl⟩
  rw [← hnews] at hle hmv
  have hnl : news.length = (xs.length - j) * 8 := by rw [hnews, lay_len, List.length_drop, hj]; rfl
  obtain ⟨A, hA, hsrc⟩ : ∃ A : Addr, (if c = j then some (⟨g, 0, none⟩ : Addr) else some ⟨g, j * 8, none⟩) = some A ∧ Hid (∀ t u, news[t]? = some u → w.drew.cell? (A.add t) = some u) := by
    by_cases h : c = j
    · refine ⟨⟨g, 0, none⟩, by simp [h], fun t u hu => ?_⟩
      have h0 : news.length = 0 := by rw [hnl]; omega
      rw [List.length_eq_zero_iff.1 h0] at hu
      simp at hu
    · refine ⟨⟨g, j * 8, none⟩, by simp [h], fun t u hu => ?_⟩
      have hc := World.ownsRow.cells ho (g := g) rfl
      have h1 : (xs.flatMap thY.c)[j * 8 + t]? = some u := by
        have e : xs.flatMap thY.c = (xs.take (k + 1)).flatMap thY.c ++ (xs.drop (k + 1)).flatMap thY.c := by rw [← List.flatMap_append, List.take_append_drop]
        have e2 : ((xs.take (k + 1)).flatMap thY.c).length = j * 8 := by rw [lay_len, List.length_take, Nat.min_eq_left (by omega), hj]; rfl
        rw [e, List.getElem?_append_right (by rw [e2]; omega), e2, Nat.add_sub_cancel_left, ← hnews]
        exact hu
      have h2 := hc _ _ h1
      rw [addr_addN, Nat.zero_add] at h2
      rw [addr_addN]
      exact h2
  have s1 : Hid (news.length = (xs.length - j) * 8) := hnl
  have s2 : Hid (∀ u ∈ news, u.oneCell' = true) := by intro u hu; rw [hnews] at hu; exact flat_one _ u hu
  have hnm' : xs.length * 8 ≤ cur.size := hnm
  have s3 : Hid (∀ t, t < news.length → (w.drew.cell? ⟨g, 0 + k * 8 + t, none⟩).isSome = true ∧ w.drew.frozen? ⟨g, 0 + k * 8 + t, none⟩ = false) := by
    intro t ht
    rw [hnl] at ht
    refine ⟨?_, frozen_of_row w.drew g _ cur _ hg⟩
    rw [cell_of_row w.drew g _ cur _ (0, 0) hg, Array.getElem?_eq_getElem (by omega)]
    rfl
  obtain ⟨W1, hW1⟩ : ∃ W1, W1 = w.drew.setCells g (0 + k * 8) news := ⟨_, rfl⟩
  have hW1' : W1 = w.drew.setRow g (putC cur.toList news (k * 8)).toArray := by rw [hW1, Nat.zero_add]; exact setCells_is (P := Tryz.prog) _ g _ _ _ cur hg hle s2.out
  have hmv' : OwnN thY W1 base 48 (.slice (some ⟨g, 0, none⟩) (xs.length - 1) c) (xs.take k ++ xs.drop (k + 1)) := by rw [hW1']; exact hmv
  obtain ⟨cu, hcu⟩ : ∃ z, z = (putC cur.toList news (k * 8)).toArray := ⟨_, rfl⟩
  have hg1 : W1.heap[g]? = some (.cells cu 48 (0, 0)) := by rw [hW1', hcu]; exact setRow_heap _ g _ _ _ (0, 0) hg
  have hcus : cu.size = cur.size := by rw [hcu, List.size_toArray, putC_len _ _ _ (by rw [Array.length_toList]; exact hle), Array.length_toList]
  have hgr1 : w.grownBy W1 (some g) := by rw [hW1']; exact grT9 (b := w.drew) ⟨rfl, rfl, rfl, Nat.le_refl _, fun _ _ _ => rfl⟩ (grown_setRow w.drew g _)
  obtain ⟨m, hm⟩ : ∃ m, xs.length = m + 1 := ⟨xs.length - 1, by omega⟩
  have hcl := fun ty => run_clear_one (P := Tryz.prog) W1 29 48 ty _ _ Tryz.underlying29 zeroTh zeroThC g (m * 8) (c - m) cu _ hg1 (by show m * 8 + 8 ≤ _; omega) (thY.one thZ)
  have hfin := hmv'.past hg1 (thY.c thZ) (o := m * 8) (by show (xs.length - 1) * 8 ≤ _; omega) (by show m * 8 + 8 ≤ _; omega)
  have hgr2 := grown_setRow W1 g (putC cu.toList (thY.c thZ) (m * 8)).toArray
  obtain ⟨W2, hW2⟩ : ∃ W2, W2 = W1.setRow g (putC cu.toList (thY.c thZ) (m * 8)).toArray := ⟨_, rfl⟩
  rw [← hW2] at hfin hgr2 hcl
  have FIN := hide hfin
  have GR := hide (grT9 hgr1 hgr2)
  have hW : Hid (W1 = w.drew.setCells g (0 + k * 8) news) := hW1
  have q1 : k ≤ c := by omega
  have q2 : j ≤ c := by omega
  have q3 : k ≤ j := by omega
  have q4 : j ≤ xs.length := by omega
  have q5 : ¬ ((k : Int) = (j : Int)) := by omega
  have q6 : k + (xs.length - j) = m := by omega
  have q7 : m ≤ c := by omega
  replace hj := hide hj
  clear hW1 hW1' hg1 hcus hcu hfin hgr2 hgr1 hmv hmv' hle hg hnm hnm' hnews hnl hW2 ho
  have q8 : xs.length - m = 1 := by omega
  have q9 : xs.length - 1 = m := by omega
  have q10 : m ≤ xs.length := by omega
  rw [q9] at FIN ⊢
  have hmx : Tryz.prog.follows .mixedOrders = true := by kernel_rfl
  clear hm q9
  generalize xs.length = n at *
  go_enter Tryz.func97, Tryz.ntmps97
  go_wp2_with fail
  go_region_law_o (refine step_append_room rfl (.tmp 22) (.tmp 25) 29 rfl 48 i0 8 Tryz.underlying29 hi hz1 g 0 k c (by simp [Act.eval, Act.put]) A (n - j) (c - j) news (by simp [Act.eval, Act.put]) s1.out hsrc.out s2.out (by omega) s3.out ?_; rw [← hW.out])
  go_wp2
  go_ret
  exact ⟨rfl, unhide FIN, unhide GR⟩
end Go.Proofs.YtkbbcjnickgfjabGreat

/- The project's books: a copy that shares nothing, over the loaded program. -/
namespace Go.Proofs.YtkbbcjnickgfjabGreat
open Go.RowKit
theorem take_snoc9 {xs : List Th} {k : Nat} {f : Th} (h : xs[k]? = some f) : xs.take (k + 1) = xs.take k ++ [f] := by
  rw [List.take_add_one, h]; rfl
set_option maxRecDepth 20000 in
set_option maxHeartbeats 4000000 in
theorem bkCopied_any (b : Bk) (v : Value) (w : World) (hr : RdBk w v b) (hn9 : b.ths.length ≤ 1048576) (hs1 : b.wd.size ≤ 4000000) (hs2 : b.ch.size ≤ 4000000) (hs3 : ∀ x ∈ b.ths, x.val.size ≤ 4000000) :
    Calls Tryz.prog 28 #[v] w fun e w' => (∃ a c, e = .returned (bkv b (.slice a b.ths.length c)) ∧ OwnN thY w' w.heap.size 48 (.slice a b.ths.length c) b.ths) ∧ Below w.heap.size w w' := by
  obtain ⟨i0, hi, hz0, hz1, hz2⟩ := info_parts infoThing
  obtain ⟨wd, tr, ths, la, ch, ct⟩ := b
  obtain ⟨a, n0, c, rfl, hn, hu⟩ := hr.open
  dsimp only at hn hu hn9 hs1 hs2 hs3 ⊢
  subst hn
  clear hr
  have CK1 := hide (fun W => strClone20_any wd W hs1)
  have CK2 := hide (fun W => strClone20_any ch W hs2)
  obtain ⟨W, hW, hX, hY, hB, hs9⟩ := two_cb w #[.string wd, .int .i64 tr, .slice a ths.length c, .int .i64 la, .string ch, .int .i64 ct] #[.string ⟨#[]⟩, .int .i64 0, .slice none 0 0, .int .i64 0, .string ⟨#[]⟩, .int .i64 0] 31 31
  obtain ⟨a', c', hsl, hc⟩ := hu.openT
  simp only [Value.slice.injEq] at hsl
  obtain ⟨rfl, _, rfl⟩ := hsl
  clear hu
  obtain ⟨n, hnn⟩ : ∃ n, ths.length = n := ⟨_, rfl⟩
  have hU : bkv (⟨wd, tr, ths, la, ch, ct⟩ : Bk) = fun u => .agg #[.string wd, .int .i64 tr, u, .int .i64 la, .string ch, .int .i64 ct] := rfl
  rw [hU]
  clear hU
  rw [hnn] at hn9 hX ⊢
  rw [hnn] at hW
  dsimp only
  go_enter Tryz.func28, Tryz.ntmps28
  go_upto_region 1 with fail
  first | rw [hW] | skip
  clear hW
  refine wp_region_held_drew (S := fun V => CB V w.heap.size 31 #[.string wd, .int .i64 tr, .slice a n c, .int .i64 la, .string ch, .int .i64 ct] ∧ CB V (w.heap.size + 1) 31 #[.string ⟨#[]⟩, .int .i64 0, .slice none 0 0, .int .i64 0, .string ⟨#[]⟩, .int .i64 0] ∧ Below w.heap.size w V) (by kernel_rfl) ⟨hX, hY, hB.drew⟩ (fun hHeld => ?_)
  refine held_take (i := 0) 6 (v := .pointer (some ⟨w.heap.size, 0, none⟩)) rfl rfl (by kernel_rfl) (by kernel_rfl) (by kernel_rfl) (fun _ _ _ h => h) (Or.inl ⟨by rfl, fun V hS => by go_simp⟩) hHeld ?_
  simp only [Act.put, List.setIfInBounds_toArray, List.set_cons_zero, List.set_cons_succ]
  refine held_take (i := 1) 7 (v := .string wd) rfl rfl (by kernel_rfl) (by kernel_rfl) (by kernel_rfl) (fun _ _ _ h => h) (Or.inl ⟨by rfl, fun V hS => by have q := hS.1.cell 0 (v := .string wd) rfl; go_simp⟩) hHeld ?_
  simp only [Act.put, List.setIfInBounds_toArray, List.set_cons_zero, List.set_cons_succ]
  refine held_take (i := 3) 9 (v := .pointer (some ⟨w.heap.size, 4, none⟩)) rfl rfl (by kernel_rfl) (by kernel_rfl) (by kernel_rfl) (fun _ _ _ h => h) (Or.inl ⟨by rfl, fun V hS => by go_simp⟩) hHeld ?_
  simp only [Act.put, List.setIfInBounds_toArray, List.set_cons_zero, List.set_cons_succ]
  refine held_take (i := 4) 10 (v := .string ch) rfl rfl (by kernel_rfl) (by kernel_rfl) (by kernel_rfl) (fun _ _ _ h => h) (Or.inl ⟨by rfl, fun V hS => by have q := hS.1.cell 4 (v := .string ch) rfl; go_simp⟩) hHeld ?_
  simp only [Act.put, List.setIfInBounds_toArray, List.set_cons_zero, List.set_cons_succ]
  refine wpAnyH_ready (rs := [2]) (by kernel_rfl) (by simp) ?_
  refine AllReadyH.cons rfl (fun K hK => ?_) AllReadyH.nil
  go_simp
  refine (unhide CK1 _).mono ?_
  rintro e w1 ⟨rfl, hb1⟩
  refine hK.out _ _ ⟨hHeld.1.step hb1, hHeld.2.1.step hb1, hHeld.2.2.trans (hb1.mono hHeld.2.2.size)⟩ (fun hHeld => ?_)
  clear hK K hb1 CK1
  refine held_take (i := 6) 12 (v := .pointer (some ⟨w.heap.size, 0, none⟩)) rfl rfl (by kernel_rfl) (by kernel_rfl) (by kernel_rfl) (fun _ _ _ h => h) (Or.inl ⟨by rfl, fun V hS => by go_simp⟩) hHeld ?_
  simp only [Act.put, List.setIfInBounds_toArray, List.set_cons_zero, List.set_cons_succ]
  refine wpAnyH_ready (rs := [5]) (by kernel_rfl) (by simp) ?_
  refine AllReadyH.cons rfl (fun K hK => ?_) AllReadyH.nil
  go_simp
  refine (unhide CK2 _).mono ?_
  rintro e w2 ⟨rfl, hb1⟩
  refine hK.out _ _ ⟨hHeld.1.step hb1, hHeld.2.1.step hb1, hHeld.2.2.trans (hb1.mono hHeld.2.2.size)⟩ (fun hHeld => ?_)
  clear hK K hb1 CK2
  refine wpAnyH_ready (rs := [7]) (by kernel_rfl) (by simp) ?_
  refine AllReadyH.cons rfl (fun K hK => ?_) AllReadyH.nil
  have q := hHeld.1.cell 0 (v := .string wd) rfl
  have z := hHeld.1.frozen 0
  go_simp
  refine hK.out _ _ ⟨cb_eq (hHeld.1.set 0 (.string wd)) rfl, hHeld.2.1.set_other (by omega) _, hHeld.2.2.setCell (p := ⟨w.heap.size, 0, none⟩) (Nat.le_refl _) _⟩ (fun hHeld => ?_)
  clear hK K q z
  refine held_take (i := 8) 13 (v := .pointer (some ⟨w.heap.size, 4, none⟩)) rfl rfl (by kernel_rfl) (by kernel_rfl) (by kernel_rfl) (fun _ _ _ h => h) (Or.inl ⟨by rfl, fun V hS => by go_simp⟩) hHeld ?_
  simp only [Act.put, List.setIfInBounds_toArray, List.set_cons_zero, List.set_cons_succ]
  refine wpAnyH_ready (rs := [9]) (by kernel_rfl) (by simp) ?_
  refine AllReadyH.cons rfl (fun K hK => ?_) AllReadyH.nil
  have q := hHeld.1.cell 4 (v := .string ch) rfl
  have z := hHeld.1.frozen 4
  go_simp
  refine hK.out _ _ ⟨cb_eq (hHeld.1.set 4 (.string ch)) rfl, hHeld.2.1.set_other (by omega) _, hHeld.2.2.setCell (p := ⟨w.heap.size, 4, none⟩) (Nat.le_refl _) _⟩ (fun hHeld => ?_)
  clear hK K q z
  refine wpAnyH_done (by kernel_rfl) ?_ _
  go_upto_region 2 with fail
  refine wp_gen (fun W2 => CB W2 w.heap.size 31 #[.string wd, .int .i64 tr, .slice a n c, .int .i64 la, .string ch, .int .i64 ct] ∧ CB W2 (w.heap.size + 1) 31 #[.string ⟨#[]⟩, .int .i64 0, .slice none 0 0, .int .i64 0, .string ⟨#[]⟩, .int .i64 0] ∧ Below w.heap.size w W2) hHeld ?_
  clear hHeld hX hY hB hs9
  rintro W2 ⟨hX, hY, hB⟩
  have x2 := hX.cell 2 (v := .slice a n c) rfl
  have hlB := hB.size
  have hlY := hY.lt
  have ho0 : OwnN thY W2 (w.heap.size + 2) 48 (.slice none 0 0) (ths.take 0) := OwnN.nil W2 _ _
  replace hX := hide hX; replace hY := hide hY
  replace hnn := hide hnn
  go_wp2
  clear x2
  go_loopw [3, 17] (fun tl ti wr => ∃ (k : Nat) (ak : Option Addr) (ck : Nat), k ≤ n ∧ ti = .int .i64 k ∧ tl = .slice ak k ck ∧ OwnN thY wr (w.heap.size + 2) 48 (.slice ak k ck) (ths.take k) ∧ Hid (CB wr w.heap.size 31 #[.string wd, .int .i64 tr, .slice a n c, .int .i64 la, .string ch, .int .i64 ct]) ∧ Hid (CB wr (w.heap.size + 1) 31 #[.string ⟨#[]⟩, .int .i64 0, .slice none 0 0, .int .i64 0, .string ⟨#[]⟩, .int .i64 0]) ∧ Below w.heap.size w wr) (fun _ ti _ => n - (intOf ti).toNat)
  case atStart => exact ⟨0, none, 0, Nat.zero_le _, rfl, rfl, ho0, hX, hY, hB⟩
  case round =>
    obtain ⟨k, ak, ck, hk, rfl, rfl, ho, hX, hY, hb⟩ := hrel
    clear ho0
    have hss := hb.size
    have hly := (unhide hY).lt
    by_cases hlt : k < n
    · have hk' : k < ths.length := by rw [unhide hnn]; exact hlt
      obtain ⟨f, hf⟩ : ∃ f, ths[k]? = some f := ⟨ths[k], List.getElem?_eq_getElem hk'⟩
      obtain ⟨g, o, rfl, hg, hat⟩ := hc k f hf
      have hatw := hide (hat.below hb hg)
      have hlk : (k : Int) < (n : Int) := by omega
      have hi0 : (0 : Int) ≤ (k : Int) := by omega
      have CC := hide (fun W => copied_any f (hs3 f (List.mem_of_getElem? hf)) W)
      have HS := hide (take_snoc9 hf)
      replace hf := hide hf
      clear hc hat
      obtain ⟨f0, hf0⟩ : ∃ y, y = f := ⟨_, rfl⟩
      rw [← hf0] at HS
      obtain ⟨id, kind, hid, fix, sgn, wrp, val, nxt⟩ := f
      replace hf0 := hide hf0
      simp only [thC] at CC
      have hZ0 := hide (CB.new wr (thC thZ) 48)
      have hX1 := hide (setRow_heap _ wr.heap.size _ (thC ⟨id, kind, hid, fix, sgn, wrp, val, nxt⟩) 48 (0, 0) (unhide hZ0))
      have hbW1 := hide (Go.below_setRow ((Below.refl wr.heap.size wr).alloc (Nat.le_refl _) (.cells (thC thZ) 48)) (Nat.le_refl _) (thC ⟨id, kind, hid, fix, sgn, wrp, val, nxt⟩))
      go_upto_region 6 with (first
        | (refine wpList_load_n (P := Tryz.prog) (L := thY) rfl 48 (.tmp 19) rfl g (o + k * 8) rfl ⟨id, kind, hid, fix, sgn, wrp, val, nxt⟩ (unhide hatw) _ Tryz.underlying48 rfl ?_)
        | (refine wpList_store_row (P := Tryz.prog) rfl 48 (.tmp 5) (.tmp 20) rfl wr.heap.size (thC ⟨id, kind, hid, fix, sgn, wrp, val, nxt⟩) rfl rfl 48 (thC thZ) (unhide hZ0) (th_size _) rfl (th_one _) ?_))
      refine wp_gen (fun V => CB V wr.heap.size 48 (thC ⟨id, kind, hid, fix, sgn, wrp, val, nxt⟩) ∧ Below wr.heap.size wr V) ⟨unhide hX1, unhide hbW1⟩ ?_
      clear hZ0 hX1 hbW1 hatw
      rintro V ⟨hV, hbV⟩
      have hoV := hide (ho.below hbV)
      replace hV := hide hV; replace hbV := hide hbV
      clear ho
      go_wp2_with (first
        | (refine wpList_load_row (P := Tryz.prog) rfl 48 (.tmp 5) rfl wr.heap.size rfl 48 (thC ⟨id, kind, hid, fix, sgn, wrp, val, nxt⟩) (0, 0) _ (unhide hV) Tryz.underlying48 rfl (th_size _) ?_)
        | (go_at_call 42; refine (unhide CC _).mono ?_; rintro e w2 ⟨rfl, hb2⟩; have ho2 := hide ((unhide hoV).below hb2); have hb3 := hide ((unhide hbV).trans (hb2.mono (unhide hbV).size)))
        | (at_builtin; refine wpList_append_n (L := thY) (w := w2) rfl (.tmp 21) (.tmp 24) 29 rfl (w.heap.size + 2) (w.heap.size + 2) 48 i0 (.agg (thC thZ)) 48 Tryz.underlying29 hi hz0 hz1 hz2 rfl _ _ (by rfl) (unhide ho2) _ ⟨id, kind, hid, fix, sgn, wrp, val, nxt⟩ rfl _ rfl (by rw [(unhide ho2).len]; omega) (by decide) (Nat.le_refl _) (by have := (unhide hb3).size; omega) ((unhide hb3).mono (by omega)) ?_; intro v4 w4 ho4 hb4))
      obtain ⟨a4, c4, rfl⟩ := ho4.shape
      have hl4 : ((ths.take k) ++ [(⟨id, kind, hid, fix, sgn, wrp, val, nxt⟩ : Th)]).length = k + 1 := by rw [List.length_append, List.length_take, List.length_singleton]; omega
      rw [hl4] at ho4 ⊢
      go_roundw
      case rel =>
        exact ⟨k + 1, a4, c4, by omega, by go_num, rfl, (by rw [unhide HS, unhide hf0]; exact ho4), hide ((unhide hX).below hb4 (by omega)), hide ((unhide hY).below hb4 (by omega)), hb.trans (hb4.mono (by omega))⟩
      case measure => simp [intOf]; omega
    · have e1 : k = n := by omega
      have e2 : ths.take k = ths := List.take_of_length_le (by rw [unhide hnn]; omega)
      rw [e2, e1] at ho
      rw [e1]
      clear e2 hc
      have x2 := (unhide hX).cell 2 (v := .slice a n c) rfl
      have f2 := (unhide hX).frozen 2
      have hX2 := hide (cb_eq ((unhide hX).set 2 (.slice ak n ck)) (show (#[.string wd, .int .i64 tr, .slice ak n ck, .int .i64 la, .string ch, .int .i64 ct] : Array Value) = _ from rfl))
      have hY2 := hide ((unhide hY).set_other (h := w.heap.size) (k := 2) (by omega) (.slice ak n ck))
      have hB2 := hide (hb.setCell (p := ⟨w.heap.size, 2, none⟩) (Nat.le_refl _) (.slice ak n ck))
      have ho2 := hide (ho.other (a := ⟨w.heap.size, 2, none⟩) (by show w.heap.size < _; omega) (.slice ak n ck))
      replace e1 := hide e1
      clear ho hX hY hb
      go_wp2_with (first
        | (refine wpList_load_row (P := Tryz.prog) rfl 31 (.tmp 1) rfl w.heap.size rfl 31 #[.string wd, .int .i64 tr, .slice ak n ck, .int .i64 la, .string ch, .int .i64 ct] (0, 0) _ (unhide hX2) Tryz.underlying31 rfl rfl ?_)
        | (refine wpList_store_row (P := Tryz.prog) rfl 31 (.tmp 2) (.tmp 29) rfl (w.heap.size + 1) #[.string wd, .int .i64 tr, .slice ak n ck, .int .i64 la, .string ch, .int .i64 ct] rfl rfl 31 _ (unhide hY2) rfl rfl (bkc_one _ _ _ _ _ _ _ _) ?_))
      have hY8 := setRow_heap _ (w.heap.size + 1) _ #[.string wd, .int .i64 tr, .slice ak n ck, .int .i64 la, .string ch, .int .i64 ct] 31 (0, 0) (unhide hY2)
      have T4 := Go.below_setRow (unhide hB2) (show w.heap.size ≤ w.heap.size + 1 by omega) #[.string wd, .int .i64 tr, .slice ak n ck, .int .i64 la, .string ch, .int .i64 ct]
      have ho4 := (unhide ho2).setRow (g := w.heap.size + 1) (by omega) #[.string wd, .int .i64 tr, .slice ak n ck, .int .i64 la, .string ch, .int .i64 ct]
      exact bodyPost_ret (results_cb (by exact Tryz.results28) _ _ (w.heap.size + 1) 31 _ _ rfl hY8 Tryz.underlying31 rfl) rfl ⟨⟨_, _, rfl, ho4.low (base' := w.heap.size) (Nat.le_add_right _ _)⟩, T4⟩
end Go.Proofs.YtkbbcjnickgfjabGreat

/- The project's books: where a thing stands, and it, over the loaded program. -/
namespace Go.Proofs.YtkbbcjnickgfjabGreat
open Go.RowKit
/-- Where the thing with this Id stands. -/
def PlT (xs : List Th) (id z : Int) : Prop := (z = -1 ∧ ∀ y ∈ xs, y.id ≠ id) ∨ ∃ (k : Nat) (x : Th), z = (k : Int) ∧ xs[k]? = some x ∧ x.id = id ∧ ∀ y ∈ xs.take k, y.id ≠ id
set_option maxRecDepth 20000 in
set_option maxHeartbeats 1000000 in
theorem placeLit_any (x : Th) (id : Int) (gb : Nat) (w : World) (hg : w.cell? ⟨gb, 0, none⟩ = some (.int .i64 id)) (hgl : gb < w.heap.size) :
    Calls Tryz.prog 108 #[.agg (thC x), .pointer (some ⟨gb, 0, none⟩)] w fun e w' => e = .returned (.bool (x.id == id)) ∧ Below w.heap.size w w' := by
  obtain ⟨xi, xk, xh, xf, xg, xw, xv, xn⟩ := x
  simp only [thC]
  have hne : ¬ w.heap.size = gb := by omega
  go_enter Tryz.func108, Tryz.ntmps108
  go_wp2
  go_ret
  exact ⟨rfl, (Below.refl _ w).alloc (Nat.le_refl _) _⟩
set_option maxRecDepth 20000 in
set_option maxHeartbeats 1000000 in
theorem indexTh_any (xs : List Th) (id : Int) (gb : Nat) (v : Value) (w : World) (hl : xs.length ≤ 2000000) (hg : w.cell? ⟨gb, 0, none⟩ = some (.int .i64 id)) (hgl : gb < w.heap.size) (hr : RdN thY w v xs) :
    Calls Tryz.prog 107 #[v, .func (.func 108) #[] #[.pointer (some ⟨gb, 0, none⟩)]] w fun e w' =>
      (∃ z : Int, e = .returned (.int .i64 z) ∧ PlT xs id z) ∧ Below w.heap.size w w' := by
  have eg : ∀ args w, (callFunc 108 args).run Tryz.prog w = .ok (.enter 108 args) w := enters_of Tryz.func108 (by kernel_rfl) rfl
  obtain ⟨a, c, rfl, hc⟩ := hr.openT
  obtain ⟨n, hn⟩ : ∃ n, n = xs.length := ⟨_, rfl⟩
  rw [← hn] at hl ⊢
  clear hr
  replace hn := hide hn
  have HG := hide hg
  clear hg
  go_enter Tryz.func107, Tryz.ntmps107
  go_wp2
  go_loopw [5, 8] (fun _ ti wr => ∃ k : Nat, k ≤ n ∧ ti = .int .i64 (k : Int) ∧ Below w.heap.size w wr ∧ Hid (∀ y ∈ xs.take k, y.id ≠ id)) (fun _ ti _ => n - (intOf ti).toNat)
  case atStart => exact ⟨0, by omega, rfl, Below.refl _ _, hide (fun y hy => by simp at hy)⟩
  case round =>
    obtain ⟨k, hk, rfl, hb, HK⟩ := hrel
    have hss := hb.size
    by_cases hlt : k < n
    · have hk' : (k : Int) < (n : Int) := by omega
      have hci : (0 : Int) ≤ (k : Int) := by omega
      have hkl : k < xs.length := by rw [← unhide hn]; exact hlt
      obtain ⟨f, hf⟩ : ∃ f, xs[k]? = some f := ⟨xs[k], List.getElem?_eq_getElem hkl⟩
      obtain ⟨g, o, rfl, hgg, hat⟩ := hc k f hf
      obtain ⟨d0, d1, d2, d3, d4, d5, d6, d7⟩ := AtN.th (hat.below hb hgg)
      have CI := hide (placeLit_any f id gb wr ((hb.cell (p := ⟨gb, 0, none⟩) hgl).trans (unhide HG)) (by omega))
      by_cases hx : f.id = id
      · have E := hide (show PlT xs id (k : Int) from .inr ⟨k, f, rfl, hf, hx, unhide HK⟩)
        have hxb : (f.id == id) = true := by simpa using hx
        rw [hxb] at CI
        replace hf := hide hf; replace hx := hide hx
        obtain ⟨xi, xk, xh, xf, xg, xw, xv, xn⟩ := f
        simp only [thC] at CI
        clear hc HK hat hxb
        go_wp2_with (go_at_fn 108; refine (unhide CI).mono ?_; rintro e w1 ⟨rfl, hb1⟩)
        go_ret
        exact ⟨⟨_, rfl, unhide E⟩, hb.trans (hb1.mono hss)⟩
      · have HK2 := hide (take_snocT (p := fun y => y.id ≠ id) hf (unhide HK) hx)
        have hxb : (f.id == id) = false := by simpa using hx
        rw [hxb] at CI
        replace hf := hide hf; replace hx := hide hx
        obtain ⟨xi, xk, xh, xf, xg, xw, xv, xn⟩ := f
        simp only [thC] at CI
        clear hc HK hat hxb
        go_wp2_with (go_at_fn 108; refine (unhide CI).mono ?_; rintro e w1 ⟨rfl, hb1⟩)
        exact ⟨⟨k + 1, by omega, by go_num, hb.trans (hb1.mono hss), HK2⟩, by simp [intOf]; omega⟩
    · have e2 : xs.take k = xs := List.take_of_length_le (by have := unhide hn; omega)
      rw [e2] at HK
      have E := hide (show PlT xs id (-1) from .inl ⟨rfl, unhide HK⟩)
      clear hc HK
      go_wp2
      go_ret
      exact ⟨⟨_, rfl, unhide E⟩, hb⟩
set_option maxRecDepth 20000 in
set_option maxHeartbeats 1000000 in
theorem placeOf_any (b : Bk) (id : Int) (v : Value) (w : World) (hr : RdBk w v b) (hl : b.ths.length ≤ 2000000) :
    Calls Tryz.prog 95 #[v, .int .i64 id] w fun e w' => (∃ z : Int, e = .returned (.int .i64 z) ∧ PlT b.ths id z) ∧ Below w.heap.size w w' := by
  obtain ⟨wd, tr, ths, la, ch, ct⟩ := b
  obtain ⟨a, n, c, rfl, hn, hu⟩ := hr.open
  dsimp only at hn hu hl ⊢
  subst hn
  obtain ⟨W, hW, hX, hY, hB, hs1⟩ := two_cb w #[.string wd, .int .i64 tr, .slice a ths.length c, .int .i64 la, .string ch, .int .i64 ct] #[.int .i64 id] 31 3
  have C := hide (indexTh_any ths id (w.heap.size + 1) (.slice a ths.length c) W hl (hY.cell 0 rfl) hs1 (hu.below hB))
  have x2 := hX.cell 2 (v := .slice a ths.length c) rfl
  clear hr hu hX hY
  go_enter Tryz.func95, Tryz.ntmps95
  go_upto_region 1 with fail
  first | rw [hW] | skip
  clear hW
  go_wp2_with (go_at_call 107; refine (unhide C).mono ?_; rintro e w1 ⟨⟨z, rfl, hz⟩, hb1⟩)
  go_ret
  exact ⟨⟨z, rfl, hz⟩, hB.trans (hb1.mono hB.size)⟩
end Go.Proofs.YtkbbcjnickgfjabGreat

/- The project's books: a thing is dropped out of one, over the loaded program. -/
namespace Go.Proofs.YtkbbcjnickgfjabGreat
open Go.RowKit
theorem cut_len {xs : List Th} {k : Nat} (hk : k < xs.length) : (xs.take k ++ xs.drop (k + 1)).length = xs.length - 1 := by rw [List.length_append, List.length_take, List.length_drop]; omega
set_option maxRecDepth 20000 in
set_option maxHeartbeats 4000000 in
theorem bkDrop_any (b : Bk) (id : Int) (g base : Nat) (w : World) (hA : BkAt w g base 31 48 b) (hbg : base ≤ g) (hl : b.ths.length ≤ 2000000) :
    Calls Tryz.prog 73 #[.pointer (some ⟨g, 0, none⟩), .int .i64 id] w fun e w' =>
      ((e = .returned (.bool false) ∧ ∀ y ∈ b.ths, y.id ≠ id) ∨ (e = .returned (.bool true) ∧ ∃ (k : Nat) (x : Th), b.ths[k]? = some x ∧ x.id = id ∧ (∀ y ∈ b.ths.take k, y.id ≠ id) ∧ BkAt w' g base 31 48 { b with ths := b.ths.take k ++ b.ths.drop (k + 1) })) ∧ Below base w w' := by
  obtain ⟨a, c, hX, ho⟩ := hA
  have hgl := hX.lt
  have CP := hide (placeOf_any b id (bkv b (.slice a b.ths.length c)) w ⟨_, rfl, ho.rd⟩ hl)
  have HX := hide hX
  have HO := hide ho
  clear hX ho
  go_enter Tryz.func73, Tryz.ntmps73
  go_upto_region 2 with (first
    | (refine wpList_load_row (P := Tryz.prog) rfl 31 (.tmp 7) rfl g rfl 31 (bkc b (.slice a b.ths.length c)) (0, 0) _ (unhide HX) Tryz.underlying31 rfl rfl ?_)
    | (go_at_call 95; refine (unhide CP).mono ?_; rintro e w1 ⟨⟨z, rfl, hp⟩, hb1⟩))
  have hX1 := (unhide HX).step hb1
  have ho1 := (unhide HO).below hb1
  have hbs1 : Below base w w1 := hb1.mono (by omega)
  clear HX HO CP hb1
  rcases hp with ⟨rfl, hno⟩ | ⟨k, x, rfl, hx, he, hno⟩
  · go_wp2
    go_ret
    exact ⟨.inl ⟨rfl, hno⟩, hbs1⟩
  · have hk := (List.getElem?_eq_some_iff.1 hx).1
    rcases ho1.open with ⟨h0, _⟩ | ⟨gr, c', hv, hbr, hgr⟩
    · rw [h0] at hk; exact absurd hk (by simp)
    simp only [Value.slice.injEq] at hv
    obtain ⟨rfl, _, rfl⟩ := hv
    have hne : gr ≠ g := fun e => (ho1.off hX1 (by decide)) (by rw [← e]; rfl)
    obtain ⟨j, hj⟩ : ∃ j : Nat, j = k + 1 := ⟨_, rfl⟩
    have uj : IntKind.i64.wrap ((k : Int) + 1) = (j : Int) := by rw [IntKind.wrap_i64]; omega
    have CD := hide (deleteTh_any b.ths gr c k j base w1 ho1 hk hj)
    have c2 := hX1.cell 2 (v := .slice (some ⟨gr, 0, none⟩) b.ths.length c) rfl
    have hk0 : ¬ (k : Int) < 0 := by omega
    have HX1 := hide hX1
    have HK := hide (cut_len hk)
    have FIN := hide (show b.ths[k]? = some x ∧ x.id = id ∧ (∀ y ∈ b.ths.take k, y.id ≠ id) from ⟨hx, he, hno⟩)
    have hbs1' := hide hbs1
    clear hX1 ho1 hx he hno hbs1 hj hk hl
    go_upto_region 5 with (go_at_call 97; refine (unhide CD).mono ?_; rintro e w2 ⟨rfl, ho2, hg2⟩; have hX2 := (unhide HX1).grown hg2 (by intro e; injection e with e; exact hne e); have hbs2 : Below base w w2 := (unhide hbs1').grown hg2 (by have := (unhide hbs1').size; omega) (fun q hq => by injection hq with hq; omega); have k2 := hX2.cell 2 (v := .slice (some ⟨gr, 0, none⟩) b.ths.length c) rfl; have f2 := hX2.frozen 2)
    have hX3 := hX2.set 2 (.slice (some ⟨gr, 0, none⟩) (b.ths.length - 1) c)
    have ho3 := ho2.setO g 2 (.slice (some ⟨gr, 0, none⟩) (b.ths.length - 1) c) (by intro e; injection e with e; exact hne e)
    have hbs3 := hbs2.setCell (p := ⟨g, 2, none⟩) hbg (.slice (some ⟨gr, 0, none⟩) (b.ths.length - 1) c)
    clear k2 f2 hX2 ho2 hg2 hbs2 CD c2
    obtain ⟨f1, f3, f4⟩ := unhide FIN
    go_wp2
    go_ret
    refine ⟨.inr ⟨rfl, k, x, f1, f3, f4, some ⟨gr, 0, none⟩, c, ?_, ?_⟩, hbs3⟩
    · show CB _ g _ (bkc _ (.slice _ (b.ths.take k ++ b.ths.drop (k + 1)).length c))
      rw [unhide HK]
      exact cb_eq hX3 rfl
    · show OwnN thY _ base _ (.slice _ (b.ths.take k ++ b.ths.drop (k + 1)).length c) _
      rw [unhide HK]
      exact ho3
end Go.Proofs.YtkbbcjnickgfjabGreat

