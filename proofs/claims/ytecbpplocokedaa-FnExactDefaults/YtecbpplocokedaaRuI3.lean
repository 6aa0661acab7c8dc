/- The project's rules: changes, new things, and those that come in again, over the loaded program. -/
import Derived.Test.YtecbpplocokedaaThI1
import Derived.Test.YtecbpplocokedaaThgH
import Derived.Test.YtecbpplocokedaaRul0
import Derived.Test.YtecbpplocokedaaShaM
import Derived.Test.YtecbpplocokedaaShaQ
import Derived.Test.YtecbpplocokedaaShelf
namespace Go.Proofs.Ytecbpplocokedaa
open Go.RowKit
set_option maxRecDepth 20000 in
theorem strClone20_any (s : ByteArray) (w : World) (hs : s.size ≤ 4000000) :
    Calls Try.prog 38 #[.string s] w fun e w' => e = .returned (.string s) ∧ Below w.heap.size w w' := by
  have hlim : s.size ≤ 281474976710656 := by omega
  have C := hide (Try.stringslite_Clone s w hlim)
  go_enter Try.func38, Try.ntmps38
  go_wp2_with fail
  refine (unhide C).mono ?_
  rintro e w2 ⟨rfl, hb2⟩
  go_wp2
  go_ret
  exact ⟨rfl, hb2⟩
set_option maxRecDepth 20000 in
set_option maxHeartbeats 2000000 in
theorem copied_any (x : Th) (hx : x.val.size ≤ 4000000) (w : World) :
    Calls Try.prog 29 #[.agg (thC x)] w fun e w' => e = .returned (.agg (thC x)) ∧ Below w.heap.size w w' := by
  have CL := hide (fun W => strClone20_any x.val W hx)
  obtain ⟨y, hy⟩ : ∃ y : Th, y = x := ⟨_, rfl⟩
  obtain ⟨id, kind, hid, fix, sgn, wrp, val, nxt⟩ := x
  have hxe : thC ⟨id, kind, hid, fix, sgn, wrp, val, nxt⟩ = #[.int .i64 id, .int .i64 kind, .bool hid, .bool fix, .bool sgn, .bool wrp, .string val, .int .i64 nxt] := rfl
  rw [show thC ⟨id, kind, hid, fix, sgn, wrp, val, nxt⟩ = thC y by rw [hy]]
  rw [show thC y = #[.int .i64 id, .int .i64 kind, .bool hid, .bool fix, .bool sgn, .bool wrp, .string val, .int .i64 nxt] by rw [hy]; rfl]
  simp only at CL hx
  obtain ⟨W, hW, hA, hR, hb, hlt⟩ := two_cb w #[.int .i64 id, .int .i64 kind, .bool hid, .bool fix, .bool sgn, .bool wrp, .string val, .int .i64 nxt] (thC thZ) 25 25
  unfold thC thZ at hW
  simp only at hW
  have a6 := hA.cell 6 rfl
  replace hA := hide hA; replace hR := hide hR
  go_enter Try.func29, Try.ntmps29
  go_wp2_with fail
  refine (unhide CL W).mono ?_
  rintro e w1 ⟨rfl, hb1⟩
  have hA1 := (unhide hA).below hb1 (by omega)
  have hR1 := (unhide hR).below hb1 (by omega)
  have hB1 := hb.trans (hb1.mono hb.size)
  clear a6 hA hR hb hb1 CL hW hxe
  have b6 := hA1.cell 6 rfl
  have z6 := hA1.frozen 6
  have hX2 := hA1.set 6 (.string val)
  have hX3 := hide (cb_eq hX2 (show thC y = _ by rw [hy]; rfl))
  have hR3 := hide (hR1.set_other (h := w.heap.size) (k := 6) (by omega) (.string val))
  have hB3 := hide (hB1.setCell (p := ⟨w.heap.size, 6, none⟩) (Nat.le_refl _) (.string val))
  replace hy := hide hy
  clear hA1 hX2 hR1 hB1
  go_wp2_with (first
    | (refine wpList_load_row rfl 25 (.tmp 1) rfl w.heap.size rfl 25 (thC y) (0, 0) _ (unhide hX3) Try.underlying25 rfl (th_size y) ?_)
    | (refine wpList_store_row rfl 25 (.tmp 2) (.tmp 7) rfl (w.heap.size + 1) (thC y) rfl rfl 25 (thC thZ) (unhide hR3) (th_size y) rfl (th_one y) ?_))
  have hR5 := setRow_heap _ (w.heap.size + 1) _ (thC y) 25 (0, 0) (unhide hR3)
  have hB5 := Go.below_setRow (unhide hB3) (show w.heap.size ≤ w.heap.size + 1 by omega) (thC y)
  exact bodyPost_ret (results_cb (by exact Try.results29) _ _ (w.heap.size + 1) 25 (thC y) _ rfl hR5 Try.underlying25 (th_size y)) rfl ⟨by rw [unhide hy]; rfl, hB5⟩
set_option maxRecDepth 20000 in
set_option maxHeartbeats 4000000 in
theorem implChange_any (x : Th) (h f : Bool) (hx : x.val.size ≤ 4000000) (w : World) :
    Calls Try.prog 11 #[.agg (thC x), .bool h, .bool f] w fun e w' => e = .returned (.tuple #[.agg (thC (chgT x h f)), .bool (chgOk x h f)]) ∧ Below w.heap.size w w' := by
  have CO := hide (fun W => implThingOk_any x W)
  have CP := hide (fun W => copied_any x hx W)
  have HO : chgOk x h f = true ↔ thOk x = true ∧ (x.hid = true → h = true) ∧ (x.fix = true → f = true) := by unfold chgOk; exact decide_eq_true_iff
  have ET : chgT x h f = if chgOk x h f = true then { x with hid := h, fix := f } else thZ := rfl
  rw [ET]
  clear ET
  generalize chgOk x h f = fin at *
  generalize thOk x = ok at *
  obtain ⟨y0, hy0⟩ : ∃ y0 : Th, y0 = x := ⟨_, rfl⟩
  obtain ⟨id, kind, hid, fix, sgn, wrp, val, nxt⟩ := x
  rw [← hy0] at CP
  have hxe : thC y0 = #[.int .i64 id, .int .i64 kind, .bool hid, .bool fix, .bool sgn, .bool wrp, .string val, .int .i64 nxt] := by rw [hy0]; rfl
  rw [show thC ⟨id, kind, hid, fix, sgn, wrp, val, nxt⟩ = #[.int .i64 id, .int .i64 kind, .bool hid, .bool fix, .bool sgn, .bool wrp, .string val, .int .i64 nxt] from rfl] at CO ⊢
  simp only at HO ⊢
  obtain ⟨W, hW, hA, hR, hb, hlt⟩ := two_cb w #[.int .i64 id, .int .i64 kind, .bool hid, .bool fix, .bool sgn, .bool wrp, .string val, .int .i64 nxt] (thC thZ) 25 25
  rw [show thC thZ = #[.int .i64 0, .int .i64 0, .bool false, .bool false, .bool false, .bool false, .string ⟨#[]⟩, .int .i64 0] from rfl] at hW
  have a0 := hA.cell 0 rfl
  have a1 := hA.cell 1 rfl
  have a2 := hA.cell 2 rfl
  have a3 := hA.cell 3 rfl
  have a4 := hA.cell 4 rfl
  have a5 := hA.cell 5 rfl
  have a6 := hA.cell 6 rfl
  have a7 := hA.cell 7 rfl
  rw [← hxe] at hA
  replace hA := hide hA; replace hR := hide hR
  replace hy0 := hide hy0; replace hxe := hide hxe
  cases hid with
  | true =>
    cases h with
    | false =>
      obtain rfl : fin = false := by cases fin with | false => rfl | true => exact absurd (HO.1 rfl) (by simp)
      clear HO CO CP
      go_enter Try.func11, Try.ntmps11
      go_wp2_with (refine wpList_store_row rfl 25 (.tmp 6) (.tmp 30) rfl (w.heap.size + 1) (thC thZ) rfl rfl 25 (thC thZ) (unhide hR) (th_size thZ) rfl (th_one thZ) ?_)
      have hR5 := setRow_heap _ (w.heap.size + 1) _ (thC thZ) 25 (0, 0) (unhide hR)
      have hB5 := Go.below_setRow hb (show w.heap.size ≤ w.heap.size + 1 by omega) (thC thZ)
      exact bodyPost_ret (results_cb_tmp (by exact Try.results11) _ _ (w.heap.size + 1) 25 (thC thZ) _ rfl hR5 Try.underlying25 (th_size thZ)) rfl ⟨rfl, hB5⟩
    | true =>
      cases fix with
      | true =>
        cases f with
        | false =>
          obtain rfl : fin = false := by cases fin with | false => rfl | true => exact absurd (HO.1 rfl) (by simp)
          clear HO CO CP
          go_enter Try.func11, Try.ntmps11
          go_wp2_with (refine wpList_store_row rfl 25 (.tmp 6) (.tmp 30) rfl (w.heap.size + 1) (thC thZ) rfl rfl 25 (thC thZ) (unhide hR) (th_size thZ) rfl (th_one thZ) ?_)
          have hR5 := setRow_heap _ (w.heap.size + 1) _ (thC thZ) 25 (0, 0) (unhide hR)
          have hB5 := Go.below_setRow hb (show w.heap.size ≤ w.heap.size + 1 by omega) (thC thZ)
          exact bodyPost_ret (results_cb_tmp (by exact Try.results11) _ _ (w.heap.size + 1) 25 (thC thZ) _ rfl hR5 Try.underlying25 (th_size thZ)) rfl ⟨rfl, hB5⟩
        | true =>
          go_enter Try.func11, Try.ntmps11
          go_wp2_with fail
          refine (unhide CO W).mono ?_
          rintro e w1 ⟨rfl, hb1⟩
          have hA1 := hide ((unhide hA).below hb1 (by omega))
          have hR1 := hide ((unhide hR).below hb1 (by omega))
          have hB1 := hb.trans (hb1.mono hb.size)
          have hs1 : w.heap.size + 1 < w1.heap.size := (unhide hR1).lt
          clear a0 a1 a2 a3 a4 a5 a6 a7 hA hR hb hb1 CO hW hlt
          cases ok with
          | false =>
            obtain rfl : fin = false := by cases fin with | false => rfl | true => exact absurd (HO.1 rfl) (by simp)
            clear HO CP hA1
            go_wp2_with (refine wpList_store_row rfl 25 (.tmp 6) (.tmp 30) rfl (w.heap.size + 1) (thC thZ) rfl rfl 25 (thC thZ) (unhide hR1) (th_size thZ) rfl (th_one thZ) ?_)
            have hR5 := setRow_heap _ (w.heap.size + 1) _ (thC thZ) 25 (0, 0) (unhide hR1)
            have hB5 := Go.below_setRow hB1 (show w.heap.size ≤ w.heap.size + 1 by omega) (thC thZ)
            exact bodyPost_ret (results_cb_tmp (by exact Try.results11) _ _ (w.heap.size + 1) 25 (thC thZ) _ rfl hR5 Try.underlying25 (th_size thZ)) rfl ⟨rfl, hB5⟩
          | true =>
            obtain rfl : fin = true := HO.2 (by simp)
            clear HO
            go_wp2_with (refine wpList_load_row rfl 25 (.tmp 3) rfl w.heap.size rfl 25 (thC y0) (0, 0) _ (unhide hA1) Try.underlying25 rfl (th_size y0) ?_)
            refine (unhide CP w1).mono ?_
            rintro e w2 ⟨rfl, hb2⟩
            have hR2 := (unhide hR1).step hb2
            have hB2 := hB1.trans (hb2.mono hB1.size)
            have hs2 : w.heap.size + 1 < w2.heap.size := hR2.lt
            clear hA1 hR1 hB1 hb2 CP hs1
            have hZ := hide (CB.new w2 #[.int .i64 0, .int .i64 0, .bool false, .bool false, .bool false, .bool false, .string ⟨#[]⟩, .int .i64 0] 25)
            have hR3 := (hR2.alloc (.cells #[.int .i64 0, .int .i64 0, .bool false, .bool false, .bool false, .bool false, .string ⟨#[]⟩, .int .i64 0] 25))
            have hB3 := hB2.alloc hB2.size (.cells #[.int .i64 0, .int .i64 0, .bool false, .bool false, .bool false, .bool false, .string ⟨#[]⟩, .int .i64 0] 25)
            have hV3 := setRow_heap _ w2.heap.size _ (thC y0) 25 (0, 0) (unhide hZ)
            have hB4 := Go.below_setRow hB3 (show w.heap.size ≤ w2.heap.size by omega) (thC y0)
            have hR4 := (setRow_other (w2.alloc (.cells #[.int .i64 0, .int .i64 0, .bool false, .bool false, .bool false, .bool false, .string ⟨#[]⟩, .int .i64 0] 25)) w2.heap.size (w.heap.size + 1) (thC y0) (by omega)).trans hR3
            obtain ⟨V, hV⟩ : ∃ V, (w2.alloc (.cells #[.int .i64 0, .int .i64 0, .bool false, .bool false, .bool false, .bool false, .string ⟨#[]⟩, .int .i64 0] 25)).setRow w2.heap.size (thC y0) = V := ⟨_, rfl⟩
            rw [hV] at hV3 hB4 hR4
            replace hV3 : CB V w2.heap.size 25 (thC y0) := hV3
            replace hR4 : CB V (w.heap.size + 1) 25 (thC thZ) := hR4
            clear hR2 hB2 hR3 hB3
            rw [unhide hxe] at hV3
            have c2 := hV3.cell 2 rfl
            have z2 := hV3.frozen 2
            have hV4 := hV3.set 2 (.bool true)
            have c3 := hV4.cell 3 rfl
            have z3 := hV4.frozen 3
            have hV5 := hV4.set 3 (.bool true)
            obtain ⟨y, hy⟩ : ∃ y : Th, y = ⟨id, kind, true, true, sgn, wrp, val, nxt⟩ := ⟨_, rfl⟩
            have hV6 := hide (cb_eq hV5 (show thC y = _ by rw [hy]; rfl))
            have hR6 := hide ((hR4.set_other (h := w2.heap.size) (k := 2) (by omega) (.bool true)).set_other (h := w2.heap.size) (k := 3) (by omega) (.bool true))
            have hB6 := hide ((hB4.setCell (p := ⟨w2.heap.size, 2, none⟩) (show w.heap.size ≤ w2.heap.size by omega) (.bool true)).setCell (p := ⟨w2.heap.size, 3, none⟩) (show w.heap.size ≤ w2.heap.size by omega) (.bool true))
            replace hy := hide hy
            clear hV3 hV4 hV5 hR4 hB4
            replace hV := hide hV
            go_wp2_with (first
              | (refine wpList_store_row rfl 25 (.tmp 9) (.tmp 32) rfl w2.heap.size (thC y0) rfl rfl 25 _ (unhide hZ) (th_size y0) rfl (th_one y0) ?_; rw [unhide hV])
              | (refine wpList_load_row rfl 25 (.tmp 9) rfl w2.heap.size rfl 25 (thC y) (0, 0) _ (unhide hV6) Try.underlying25 rfl (th_size y) ?_)
              | (refine wpList_store_row rfl 25 (.tmp 6) (.tmp 37) rfl (w.heap.size + 1) (thC y) rfl rfl 25 (thC thZ) (unhide hR6) (th_size y) rfl (th_one y) ?_))
            have hR7 := setRow_heap _ (w.heap.size + 1) _ (thC y) 25 (0, 0) (unhide hR6)
            have hB7 := Go.below_setRow (unhide hB6) (show w.heap.size ≤ w.heap.size + 1 by omega) (thC y)
            exact bodyPost_ret (results_cb_tmp (by exact Try.results11) _ _ (w.heap.size + 1) 25 (thC y) _ rfl hR7 Try.underlying25 (th_size y)) rfl ⟨by rw [unhide hy]; rfl, hB7⟩
      | false =>
        go_enter Try.func11, Try.ntmps11
        go_wp2_with fail
        refine (unhide CO W).mono ?_
        rintro e w1 ⟨rfl, hb1⟩
        have hA1 := hide ((unhide hA).below hb1 (by omega))
        have hR1 := hide ((unhide hR).below hb1 (by omega))
        have hB1 := hb.trans (hb1.mono hb.size)
        have hs1 : w.heap.size + 1 < w1.heap.size := (unhide hR1).lt
        clear a0 a1 a2 a3 a4 a5 a6 a7 hA hR hb hb1 CO hW hlt
        cases ok with
        | false =>
          obtain rfl : fin = false := by cases fin with | false => rfl | true => exact absurd (HO.1 rfl) (by simp)
          clear HO CP hA1
          go_wp2_with (refine wpList_store_row rfl 25 (.tmp 6) (.tmp 30) rfl (w.heap.size + 1) (thC thZ) rfl rfl 25 (thC thZ) (unhide hR1) (th_size thZ) rfl (th_one thZ) ?_)
          have hR5 := setRow_heap _ (w.heap.size + 1) _ (thC thZ) 25 (0, 0) (unhide hR1)
          have hB5 := Go.below_setRow hB1 (show w.heap.size ≤ w.heap.size + 1 by omega) (thC thZ)
          exact bodyPost_ret (results_cb_tmp (by exact Try.results11) _ _ (w.heap.size + 1) 25 (thC thZ) _ rfl hR5 Try.underlying25 (th_size thZ)) rfl ⟨rfl, hB5⟩
        | true =>
          obtain rfl : fin = true := HO.2 (by simp)
          clear HO
          go_wp2_with (refine wpList_load_row rfl 25 (.tmp 3) rfl w.heap.size rfl 25 (thC y0) (0, 0) _ (unhide hA1) Try.underlying25 rfl (th_size y0) ?_)
          refine (unhide CP w1).mono ?_
          rintro e w2 ⟨rfl, hb2⟩
          have hR2 := (unhide hR1).step hb2
          have hB2 := hB1.trans (hb2.mono hB1.size)
          have hs2 : w.heap.size + 1 < w2.heap.size := hR2.lt
          clear hA1 hR1 hB1 hb2 CP hs1
          have hZ := hide (CB.new w2 #[.int .i64 0, .int .i64 0, .bool false, .bool false, .bool false, .bool false, .string ⟨#[]⟩, .int .i64 0] 25)
          have hR3 := (hR2.alloc (.cells #[.int .i64 0, .int .i64 0, .bool false, .bool false, .bool false, .bool false, .string ⟨#[]⟩, .int .i64 0] 25))
          have hB3 := hB2.alloc hB2.size (.cells #[.int .i64 0, .int .i64 0, .bool false, .bool false, .bool false, .bool false, .string ⟨#[]⟩, .int .i64 0] 25)
          have hV3 := setRow_heap _ w2.heap.size _ (thC y0) 25 (0, 0) (unhide hZ)
          have hB4 := Go.below_setRow hB3 (show w.heap.size ≤ w2.heap.size by omega) (thC y0)
          have hR4 := (setRow_other (w2.alloc (.cells #[.int .i64 0, .int .i64 0, .bool false, .bool false, .bool false, .bool false, .string ⟨#[]⟩, .int .i64 0] 25)) w2.heap.size (w.heap.size + 1) (thC y0) (by omega)).trans hR3
          obtain ⟨V, hV⟩ : ∃ V, (w2.alloc (.cells #[.int .i64 0, .int .i64 0, .bool false, .bool false, .bool false, .bool false, .string ⟨#[]⟩, .int .i64 0] 25)).setRow w2.heap.size (thC y0) = V := ⟨_, rfl⟩
          rw [hV] at hV3 hB4 hR4
          replace hV3 : CB V w2.heap.size 25 (thC y0) := hV3
          replace hR4 : CB V (w.heap.size + 1) 25 (thC thZ) := hR4
          clear hR2 hB2 hR3 hB3
          rw [unhide hxe] at hV3
          have c2 := hV3.cell 2 rfl
          have z2 := hV3.frozen 2
          have hV4 := hV3.set 2 (.bool true)
          have c3 := hV4.cell 3 rfl
          have z3 := hV4.frozen 3
          have hV5 := hV4.set 3 (.bool f)
          obtain ⟨y, hy⟩ : ∃ y : Th, y = ⟨id, kind, true, f, sgn, wrp, val, nxt⟩ := ⟨_, rfl⟩
          have hV6 := hide (cb_eq hV5 (show thC y = _ by rw [hy]; rfl))
          have hR6 := hide ((hR4.set_other (h := w2.heap.size) (k := 2) (by omega) (.bool true)).set_other (h := w2.heap.size) (k := 3) (by omega) (.bool f))
          have hB6 := hide ((hB4.setCell (p := ⟨w2.heap.size, 2, none⟩) (show w.heap.size ≤ w2.heap.size by omega) (.bool true)).setCell (p := ⟨w2.heap.size, 3, none⟩) (show w.heap.size ≤ w2.heap.size by omega) (.bool f))
          replace hy := hide hy
          clear hV3 hV4 hV5 hR4 hB4
          replace hV := hide hV
          go_wp2_with (first
            | (refine wpList_store_row rfl 25 (.tmp 9) (.tmp 32) rfl w2.heap.size (thC y0) rfl rfl 25 _ (unhide hZ) (th_size y0) rfl (th_one y0) ?_; rw [unhide hV])
            | (refine wpList_load_row rfl 25 (.tmp 9) rfl w2.heap.size rfl 25 (thC y) (0, 0) _ (unhide hV6) Try.underlying25 rfl (th_size y) ?_)
            | (refine wpList_store_row rfl 25 (.tmp 6) (.tmp 37) rfl (w.heap.size + 1) (thC y) rfl rfl 25 (thC thZ) (unhide hR6) (th_size y) rfl (th_one y) ?_))
          have hR7 := setRow_heap _ (w.heap.size + 1) _ (thC y) 25 (0, 0) (unhide hR6)
          have hB7 := Go.below_setRow (unhide hB6) (show w.heap.size ≤ w.heap.size + 1 by omega) (thC y)
          exact bodyPost_ret (results_cb_tmp (by exact Try.results11) _ _ (w.heap.size + 1) 25 (thC y) _ rfl hR7 Try.underlying25 (th_size y)) rfl ⟨by rw [unhide hy]; rfl, hB7⟩
  | false =>
    cases fix with
    | true =>
      cases f with
      | false =>
        obtain rfl : fin = false := by cases fin with | false => rfl | true => exact absurd (HO.1 rfl) (by simp)
        clear HO CO CP
        go_enter Try.func11, Try.ntmps11
        go_wp2_with (refine wpList_store_row rfl 25 (.tmp 6) (.tmp 30) rfl (w.heap.size + 1) (thC thZ) rfl rfl 25 (thC thZ) (unhide hR) (th_size thZ) rfl (th_one thZ) ?_)
        have hR5 := setRow_heap _ (w.heap.size + 1) _ (thC thZ) 25 (0, 0) (unhide hR)
        have hB5 := Go.below_setRow hb (show w.heap.size ≤ w.heap.size + 1 by omega) (thC thZ)
        exact bodyPost_ret (results_cb_tmp (by exact Try.results11) _ _ (w.heap.size + 1) 25 (thC thZ) _ rfl hR5 Try.underlying25 (th_size thZ)) rfl ⟨rfl, hB5⟩
      | true =>
        go_enter Try.func11, Try.ntmps11
        go_wp2_with fail
        refine (unhide CO W).mono ?_
        rintro e w1 ⟨rfl, hb1⟩
        have hA1 := hide ((unhide hA).below hb1 (by omega))
        have hR1 := hide ((unhide hR).below hb1 (by omega))
        have hB1 := hb.trans (hb1.mono hb.size)
        have hs1 : w.heap.size + 1 < w1.heap.size := (unhide hR1).lt
        clear a0 a1 a2 a3 a4 a5 a6 a7 hA hR hb hb1 CO hW hlt
        cases ok with
        | false =>
          obtain rfl : fin = false := by cases fin with | false => rfl | true => exact absurd (HO.1 rfl) (by simp)
          clear HO CP hA1
          go_wp2_with (refine wpList_store_row rfl 25 (.tmp 6) (.tmp 30) rfl (w.heap.size + 1) (thC thZ) rfl rfl 25 (thC thZ) (unhide hR1) (th_size thZ) rfl (th_one thZ) ?_)
          have hR5 := setRow_heap _ (w.heap.size + 1) _ (thC thZ) 25 (0, 0) (unhide hR1)
          have hB5 := Go.below_setRow hB1 (show w.heap.size ≤ w.heap.size + 1 by omega) (thC thZ)
          exact bodyPost_ret (results_cb_tmp (by exact Try.results11) _ _ (w.heap.size + 1) 25 (thC thZ) _ rfl hR5 Try.underlying25 (th_size thZ)) rfl ⟨rfl, hB5⟩
        | true =>
          obtain rfl : fin = true := HO.2 (by simp)
          clear HO
          go_wp2_with (refine wpList_load_row rfl 25 (.tmp 3) rfl w.heap.size rfl 25 (thC y0) (0, 0) _ (unhide hA1) Try.underlying25 rfl (th_size y0) ?_)
          refine (unhide CP w1).mono ?_
          rintro e w2 ⟨rfl, hb2⟩
          have hR2 := (unhide hR1).step hb2
          have hB2 := hB1.trans (hb2.mono hB1.size)
          have hs2 : w.heap.size + 1 < w2.heap.size := hR2.lt
          clear hA1 hR1 hB1 hb2 CP hs1
          have hZ := hide (CB.new w2 #[.int .i64 0, .int .i64 0, .bool false, .bool false, .bool false, .bool false, .string ⟨#[]⟩, .int .i64 0] 25)
          have hR3 := (hR2.alloc (.cells #[.int .i64 0, .int .i64 0, .bool false, .bool false, .bool false, .bool false, .string ⟨#[]⟩, .int .i64 0] 25))
          have hB3 := hB2.alloc hB2.size (.cells #[.int .i64 0, .int .i64 0, .bool false, .bool false, .bool false, .bool false, .string ⟨#[]⟩, .int .i64 0] 25)
          have hV3 := setRow_heap _ w2.heap.size _ (thC y0) 25 (0, 0) (unhide hZ)
          have hB4 := Go.below_setRow hB3 (show w.heap.size ≤ w2.heap.size by omega) (thC y0)
          have hR4 := (setRow_other (w2.alloc (.cells #[.int .i64 0, .int .i64 0, .bool false, .bool false, .bool false, .bool false, .string ⟨#[]⟩, .int .i64 0] 25)) w2.heap.size (w.heap.size + 1) (thC y0) (by omega)).trans hR3
          obtain ⟨V, hV⟩ : ∃ V, (w2.alloc (.cells #[.int .i64 0, .int .i64 0, .bool false, .bool false, .bool false, .bool false, .string ⟨#[]⟩, .int .i64 0] 25)).setRow w2.heap.size (thC y0) = V := ⟨_, rfl⟩
          rw [hV] at hV3 hB4 hR4
          replace hV3 : CB V w2.heap.size 25 (thC y0) := hV3
          replace hR4 : CB V (w.heap.size + 1) 25 (thC thZ) := hR4
          clear hR2 hB2 hR3 hB3
          rw [unhide hxe] at hV3
          have c2 := hV3.cell 2 rfl
          have z2 := hV3.frozen 2
          have hV4 := hV3.set 2 (.bool h)
          have c3 := hV4.cell 3 rfl
          have z3 := hV4.frozen 3
          have hV5 := hV4.set 3 (.bool true)
          obtain ⟨y, hy⟩ : ∃ y : Th, y = ⟨id, kind, h, true, sgn, wrp, val, nxt⟩ := ⟨_, rfl⟩
          have hV6 := hide (cb_eq hV5 (show thC y = _ by rw [hy]; rfl))
          have hR6 := hide ((hR4.set_other (h := w2.heap.size) (k := 2) (by omega) (.bool h)).set_other (h := w2.heap.size) (k := 3) (by omega) (.bool true))
          have hB6 := hide ((hB4.setCell (p := ⟨w2.heap.size, 2, none⟩) (show w.heap.size ≤ w2.heap.size by omega) (.bool h)).setCell (p := ⟨w2.heap.size, 3, none⟩) (show w.heap.size ≤ w2.heap.size by omega) (.bool true))
          replace hy := hide hy
          clear hV3 hV4 hV5 hR4 hB4
          replace hV := hide hV
          go_wp2_with (first
            | (refine wpList_store_row rfl 25 (.tmp 9) (.tmp 32) rfl w2.heap.size (thC y0) rfl rfl 25 _ (unhide hZ) (th_size y0) rfl (th_one y0) ?_; rw [unhide hV])
            | (refine wpList_load_row rfl 25 (.tmp 9) rfl w2.heap.size rfl 25 (thC y) (0, 0) _ (unhide hV6) Try.underlying25 rfl (th_size y) ?_)
            | (refine wpList_store_row rfl 25 (.tmp 6) (.tmp 37) rfl (w.heap.size + 1) (thC y) rfl rfl 25 (thC thZ) (unhide hR6) (th_size y) rfl (th_one y) ?_))
          have hR7 := setRow_heap _ (w.heap.size + 1) _ (thC y) 25 (0, 0) (unhide hR6)
          have hB7 := Go.below_setRow (unhide hB6) (show w.heap.size ≤ w.heap.size + 1 by omega) (thC y)
          exact bodyPost_ret (results_cb_tmp (by exact Try.results11) _ _ (w.heap.size + 1) 25 (thC y) _ rfl hR7 Try.underlying25 (th_size y)) rfl ⟨by rw [unhide hy]; rfl, hB7⟩
    | false =>
      go_enter Try.func11, Try.ntmps11
      go_wp2_with fail
      refine (unhide CO W).mono ?_
      rintro e w1 ⟨rfl, hb1⟩
      have hA1 := hide ((unhide hA).below hb1 (by omega))
      have hR1 := hide ((unhide hR).below hb1 (by omega))
      have hB1 := hb.trans (hb1.mono hb.size)
      have hs1 : w.heap.size + 1 < w1.heap.size := (unhide hR1).lt
      clear a0 a1 a2 a3 a4 a5 a6 a7 hA hR hb hb1 CO hW hlt
      cases ok with
      | false =>
        obtain rfl : fin = false := by cases fin with | false => rfl | true => exact absurd (HO.1 rfl) (by simp)
        clear HO CP hA1
        go_wp2_with (refine wpList_store_row rfl 25 (.tmp 6) (.tmp 30) rfl (w.heap.size + 1) (thC thZ) rfl rfl 25 (thC thZ) (unhide hR1) (th_size thZ) rfl (th_one thZ) ?_)
        have hR5 := setRow_heap _ (w.heap.size + 1) _ (thC thZ) 25 (0, 0) (unhide hR1)
        have hB5 := Go.below_setRow hB1 (show w.heap.size ≤ w.heap.size + 1 by omega) (thC thZ)
        exact bodyPost_ret (results_cb_tmp (by exact Try.results11) _ _ (w.heap.size + 1) 25 (thC thZ) _ rfl hR5 Try.underlying25 (th_size thZ)) rfl ⟨rfl, hB5⟩
      | true =>
        obtain rfl : fin = true := HO.2 (by simp)
        clear HO
        go_wp2_with (refine wpList_load_row rfl 25 (.tmp 3) rfl w.heap.size rfl 25 (thC y0) (0, 0) _ (unhide hA1) Try.underlying25 rfl (th_size y0) ?_)
        refine (unhide CP w1).mono ?_
        rintro e w2 ⟨rfl, hb2⟩
        have hR2 := (unhide hR1).step hb2
        have hB2 := hB1.trans (hb2.mono hB1.size)
        have hs2 : w.heap.size + 1 < w2.heap.size := hR2.lt
        clear hA1 hR1 hB1 hb2 CP hs1
        have hZ := hide (CB.new w2 #[.int .i64 0, .int .i64 0, .bool false, .bool false, .bool false, .bool false, .string ⟨#[]⟩, .int .i64 0] 25)
        have hR3 := (hR2.alloc (.cells #[.int .i64 0, .int .i64 0, .bool false, .bool false, .bool false, .bool false, .string ⟨#[]⟩, .int .i64 0] 25))
        have hB3 := hB2.alloc hB2.size (.cells #[.int .i64 0, .int .i64 0, .bool false, .bool false, .bool false, .bool false, .string ⟨#[]⟩, .int .i64 0] 25)
        have hV3 := setRow_heap _ w2.heap.size _ (thC y0) 25 (0, 0) (unhide hZ)
        have hB4 := Go.below_setRow hB3 (show w.heap.size ≤ w2.heap.size by omega) (thC y0)
        have hR4 := (setRow_other (w2.alloc (.cells #[.int .i64 0, .int .i64 0, .bool false, .bool false, .bool false, .bool false, .string ⟨#[]⟩, .int .i64 0] 25)) w2.heap.size (w.heap.size + 1) (thC y0) (by omega)).trans hR3
        obtain ⟨V, hV⟩ : ∃ V, (w2.alloc (.cells #[.int .i64 0, .int .i64 0, .bool false, .bool false, .bool false, .bool false, .string ⟨#[]⟩, .int .i64 0] 25)).setRow w2.heap.size (thC y0) = V := ⟨_, rfl⟩
        rw [hV] at hV3 hB4 hR4
        replace hV3 : CB V w2.heap.size 25 (thC y0) := hV3
        replace hR4 : CB V (w.heap.size + 1) 25 (thC thZ) := hR4
        clear hR2 hB2 hR3 hB3
        rw [unhide hxe] at hV3
        have c2 := hV3.cell 2 rfl
        have z2 := hV3.frozen 2
        have hV4 := hV3.set 2 (.bool h)
        have c3 := hV4.cell 3 rfl
        have z3 := hV4.frozen 3
        have hV5 := hV4.set 3 (.bool f)
        obtain ⟨y, hy⟩ : ∃ y : Th, y = ⟨id, kind, h, f, sgn, wrp, val, nxt⟩ := ⟨_, rfl⟩
        have hV6 := hide (cb_eq hV5 (show thC y = _ by rw [hy]; rfl))
        have hR6 := hide ((hR4.set_other (h := w2.heap.size) (k := 2) (by omega) (.bool h)).set_other (h := w2.heap.size) (k := 3) (by omega) (.bool f))
        have hB6 := hide ((hB4.setCell (p := ⟨w2.heap.size, 2, none⟩) (show w.heap.size ≤ w2.heap.size by omega) (.bool h)).setCell (p := ⟨w2.heap.size, 3, none⟩) (show w.heap.size ≤ w2.heap.size by omega) (.bool f))
        replace hy := hide hy
        clear hV3 hV4 hV5 hR4 hB4
        replace hV := hide hV
        go_wp2_with (first
          | (refine wpList_store_row rfl 25 (.tmp 9) (.tmp 32) rfl w2.heap.size (thC y0) rfl rfl 25 _ (unhide hZ) (th_size y0) rfl (th_one y0) ?_; rw [unhide hV])
          | (refine wpList_load_row rfl 25 (.tmp 9) rfl w2.heap.size rfl 25 (thC y) (0, 0) _ (unhide hV6) Try.underlying25 rfl (th_size y) ?_)
          | (refine wpList_store_row rfl 25 (.tmp 6) (.tmp 37) rfl (w.heap.size + 1) (thC y) rfl rfl 25 (thC thZ) (unhide hR6) (th_size y) rfl (th_one y) ?_))
        have hR7 := setRow_heap _ (w.heap.size + 1) _ (thC y) 25 (0, 0) (unhide hR6)
        have hB7 := Go.below_setRow (unhide hB6) (show w.heap.size ≤ w.heap.size + 1 by omega) (thC y)
        exact bodyPost_ret (results_cb_tmp (by exact Try.results11) _ _ (w.heap.size + 1) 25 (thC y) _ rfl hR7 Try.underlying25 (th_size y)) rfl ⟨by rw [unhide hy]; rfl, hB7⟩
set_option maxRecDepth 20000 in
set_option maxHeartbeats 2000000 in
theorem implRestored_any (x : Th) (hx : x.val.size ≤ 4000000) (w : World) :
    Calls Try.prog 20 #[.agg (thC x)] w fun e w' => e = .returned (.agg (thC (rstT x))) ∧ Below w.heap.size w w' := by
  have CP := hide (fun W => copied_any x hx W)
  obtain ⟨y, hy⟩ : ∃ y : Th, y = rstT x := ⟨_, rfl⟩
  rw [← hy]
  obtain ⟨y0, hy0⟩ : ∃ y0 : Th, y0 = x := ⟨_, rfl⟩
  obtain ⟨id, kind, hid, fix, sgn, wrp, val, nxt⟩ := x
  rw [← hy0] at CP
  have hxe : thC y0 = #[.int .i64 id, .int .i64 kind, .bool hid, .bool fix, .bool sgn, .bool wrp, .string val, .int .i64 nxt] := by rw [hy0]; rfl
  rw [show thC ⟨id, kind, hid, fix, sgn, wrp, val, nxt⟩ = thC y0 by rw [hy0]]
  obtain ⟨W, hW, hA, hR, hb, hlt⟩ := two_cb w (thC y0) (thC thZ) 25 25
  rw [show thC thZ = #[.int .i64 0, .int .i64 0, .bool false, .bool false, .bool false, .bool false, .string ⟨#[]⟩, .int .i64 0] from rfl] at hW
  replace hA := hide hA; replace hR := hide hR
  replace hy0 := hide hy0; replace hxe := hide hxe
  go_enter Try.func20, Try.ntmps20
  go_wp2_with (refine wpList_load_row rfl 25 (.tmp 1) rfl w.heap.size rfl 25 (thC y0) (0, 0) _ (unhide hA) Try.underlying25 rfl (th_size y0) ?_)
  refine (unhide CP W).mono ?_
  rintro e w2 ⟨rfl, hb2⟩
  have hR2 := (unhide hR).below hb2 (by omega)
  have hB2 := hb.trans (hb2.mono hb.size)
  have hs2 : w.heap.size + 1 < w2.heap.size := hR2.lt
  clear hA hR hb hb2 CP hW hlt
  have hZ := hide (CB.new w2 #[.int .i64 0, .int .i64 0, .bool false, .bool false, .bool false, .bool false, .string ⟨#[]⟩, .int .i64 0] 25)
  have hR3 := (hR2.alloc (.cells #[.int .i64 0, .int .i64 0, .bool false, .bool false, .bool false, .bool false, .string ⟨#[]⟩, .int .i64 0] 25))
  have hB3 := hB2.alloc hB2.size (.cells #[.int .i64 0, .int .i64 0, .bool false, .bool false, .bool false, .bool false, .string ⟨#[]⟩, .int .i64 0] 25)
  have hV3 := setRow_heap _ w2.heap.size _ (thC y0) 25 (0, 0) (unhide hZ)
  have hB4 := Go.below_setRow hB3 (show w.heap.size ≤ w2.heap.size by omega) (thC y0)
  have hR4 := (setRow_other (w2.alloc (.cells #[.int .i64 0, .int .i64 0, .bool false, .bool false, .bool false, .bool false, .string ⟨#[]⟩, .int .i64 0] 25)) w2.heap.size (w.heap.size + 1) (thC y0) (by omega)).trans hR3
  obtain ⟨V, hV⟩ : ∃ V, (w2.alloc (.cells #[.int .i64 0, .int .i64 0, .bool false, .bool false, .bool false, .bool false, .string ⟨#[]⟩, .int .i64 0] 25)).setRow w2.heap.size (thC y0) = V := ⟨_, rfl⟩
  rw [hV] at hV3 hB4 hR4
  replace hV3 : CB V w2.heap.size 25 (thC y0) := hV3
  replace hR4 : CB V (w.heap.size + 1) 25 (thC thZ) := hR4
  clear hR2 hB2 hR3 hB3
  rw [unhide hxe] at hV3
  have c0 := hV3.cell 0 rfl
  have z0 := hV3.frozen 0
  have hV4 := hV3.set 0 (.int .i64 0)
  have c4 := hV4.cell 4 rfl
  have z4 := hV4.frozen 4
  have hV5 := hV4.set 4 (.bool false)
  have c7 := hV5.cell 7 rfl
  have z7 := hV5.frozen 7
  have hV6 := hV5.set 7 (.int .i64 0)
  have hV7 := hide (cb_eq hV6 (show thC y = _ by rw [hy]; rfl))
  have hR6 := hide (((hR4.set_other (h := w2.heap.size) (k := 0) (by omega) (.int .i64 0)).set_other (h := w2.heap.size) (k := 4) (by omega) (.bool false)).set_other (h := w2.heap.size) (k := 7) (by omega) (.int .i64 0))
  have hB6 := hide (((hB4.setCell (p := ⟨w2.heap.size, 0, none⟩) (show w.heap.size ≤ w2.heap.size by omega) (.int .i64 0)).setCell (p := ⟨w2.heap.size, 4, none⟩) (show w.heap.size ≤ w2.heap.size by omega) (.bool false)).setCell (p := ⟨w2.heap.size, 7, none⟩) (show w.heap.size ≤ w2.heap.size by omega) (.int .i64 0))
  replace hy := hide hy
  clear hV3 hV4 hV5 hV6 hR4 hB4
  replace hV := hide hV
  go_wp2_with (first
    | (refine wpList_store_row rfl 25 (.tmp 3) (.tmp 5) rfl w2.heap.size (thC y0) rfl rfl 25 _ (unhide hZ) (th_size y0) rfl (th_one y0) ?_; rw [unhide hV])
    | (refine wpList_load_row rfl 25 (.tmp 3) rfl w2.heap.size rfl 25 (thC y) (0, 0) _ (unhide hV7) Try.underlying25 rfl (th_size y) ?_)
    | (refine wpList_store_row rfl 25 (.tmp 2) (.tmp 9) rfl (w.heap.size + 1) (thC y) rfl rfl 25 (thC thZ) (unhide hR6) (th_size y) rfl (th_one y) ?_))
  have hR7 := setRow_heap _ (w.heap.size + 1) _ (thC y) 25 (0, 0) (unhide hR6)
  have hB7 := Go.below_setRow (unhide hB6) (show w.heap.size ≤ w.heap.size + 1 by omega) (thC y)
  exact bodyPost_ret (results_cb (by exact Try.results20) _ _ (w.heap.size + 1) 25 (thC y) _ rfl hR7 Try.underlying25 (th_size y)) rfl ⟨rfl, hB7⟩
set_option maxRecDepth 20000 in
set_option maxHeartbeats 2000000 in
theorem implDefaults_any (k : Int) (s : ByteArray) (hs : s.size ≤ 4000000) (w : World) :
    Calls Try.prog 17 #[.int .i64 k, .string s] w fun e w' => e = .returned (.tuple #[.agg (thC (defT k s)), .bool (defOk k s)]) ∧ Below w.heap.size w w' := by
  have CD0 := fun W => implDigest_any s hs W
  rw [show endV (blocksW first8 s 0 (s.size / 64)) (s.extract (64 * (s.size / 64)) s.size) s.size = digB s from rfl] at CD0
  have CD := hide CD0
  clear CD0
  have CL := hide (fun W => strClone20_any s W hs)
  have ET : defT k s = if k = 1 then ⟨0, k, true, false, false, true, digB s, 0⟩ else if k = 2 then ⟨0, k, true, false, true, false, digB s, 0⟩ else if k = 3 ∧ s.size ≤ 100 then ⟨0, k, false, false, false, false, s, 0⟩ else thZ := rfl
  have EO : defOk k s = decide (k = 1 ∨ k = 2 ∨ (k = 3 ∧ s.size ≤ 100)) := rfl
  rw [ET, EO]
  clear ET EO
  generalize digB s = d at *
  obtain ⟨W, hW, hR, hb, hlt⟩ := one_cb w (thC thZ) 25
  unfold thC thZ at hW
  simp only at hW
  have HR := hide (fun (W' : World) (h : Below W.heap.size W W') => hR.below h hlt)
  have hR0 := hide hR
  have hb0 := hide hb
  clear hR
  by_cases h1 : k = 1
  · subst h1
    obtain ⟨y, hy⟩ : ∃ y : Th, y = ⟨0, 1, true, false, false, true, d, 0⟩ := ⟨_, rfl⟩
    replace hy := hide hy
    go_enter Try.func17, Try.ntmps17
    go_wp2_with fail
    refine (unhide CD W).mono ?_
    rintro e w1 ⟨rfl, hb1⟩
    have hR1 := hide (unhide HR w1 hb1)
    have hB1 := hide (hb.trans (hb1.mono hb.size))
    clear hb hb1 hW HR hR0 hb0 CD CL
    go_wp2_with (refine wpList_store_row rfl 25 (.tmp 4) (.tmp 11) rfl w.heap.size (thC y) rfl (by rw [unhide hy]; rfl) 25 (thC thZ) (unhide hR1) (th_size y) rfl (th_one y) ?_)
    have hR5 := setRow_heap _ w.heap.size _ (thC y) 25 (0, 0) (unhide hR1)
    have hB5 := Go.below_setRow (unhide hB1) (Nat.le_refl _) (thC y)
    exact bodyPost_ret (results_cb_tmp (by exact Try.results17) _ _ w.heap.size 25 (thC y) _ rfl hR5 Try.underlying25 (th_size y)) rfl ⟨by rw [unhide hy]; rfl, hB5⟩
  by_cases h2 : k = 2
  · subst h2
    obtain ⟨y, hy⟩ : ∃ y : Th, y = ⟨0, 2, true, false, true, false, d, 0⟩ := ⟨_, rfl⟩
    replace hy := hide hy
    go_enter Try.func17, Try.ntmps17
    go_wp2_with fail
    refine (unhide CD W).mono ?_
    rintro e w1 ⟨rfl, hb1⟩
    have hR1 := hide (unhide HR w1 hb1)
    have hB1 := hide (hb.trans (hb1.mono hb.size))
    clear hb hb1 hW HR hR0 hb0 CD CL
    go_wp2_with (refine wpList_store_row rfl 25 (.tmp 4) (.tmp 16) rfl w.heap.size (thC y) rfl (by rw [unhide hy]; rfl) 25 (thC thZ) (unhide hR1) (th_size y) rfl (th_one y) ?_)
    have hR5 := setRow_heap _ w.heap.size _ (thC y) 25 (0, 0) (unhide hR1)
    have hB5 := Go.below_setRow (unhide hB1) (Nat.le_refl _) (thC y)
    exact bodyPost_ret (results_cb_tmp (by exact Try.results17) _ _ w.heap.size 25 (thC y) _ rfl hR5 Try.underlying25 (th_size y)) rfl ⟨by rw [unhide hy]; rfl, hB5⟩
  have n1 : (k == 1) = false := by rw [beq_eq_false_iff_ne]; exact h1
  have n2 : (k == 2) = false := by rw [beq_eq_false_iff_ne]; exact h2
  by_cases h3 : k = 3
  · subst h3
    by_cases hz : s.size ≤ 100
    · have hz' : (s.size : Int) ≤ 100 := by omega
      obtain ⟨y, hy⟩ : ∃ y : Th, y = ⟨0, 3, false, false, false, false, s, 0⟩ := ⟨_, rfl⟩
      replace hy := hide hy
      go_enter Try.func17, Try.ntmps17
      go_wp2_with fail
      refine (unhide CL W).mono ?_
      rintro e w1 ⟨rfl, hb1⟩
      have hR1 := hide (unhide HR w1 hb1)
      have hB1 := hide (hb.trans (hb1.mono hb.size))
      clear hb hb1 hW HR hR0 hb0 CD CL
      go_wp2_with (refine wpList_store_row rfl 25 (.tmp 4) (.tmp 24) rfl w.heap.size (thC y) rfl (by rw [unhide hy]; rfl) 25 (thC thZ) (unhide hR1) (th_size y) rfl (th_one y) ?_)
      have hR5 := setRow_heap _ w.heap.size _ (thC y) 25 (0, 0) (unhide hR1)
      have hB5 := Go.below_setRow (unhide hB1) (Nat.le_refl _) (thC y)
      exact bodyPost_ret (results_cb_tmp (by exact Try.results17) _ _ w.heap.size 25 (thC y) _ rfl hR5 Try.underlying25 (th_size y)) rfl ⟨by rw [unhide hy]; simp, hB5⟩
    · have hz' : ¬ (s.size : Int) ≤ 100 := by omega
      have hz2 : decide ((s.size : Int) ≤ 100) = false := by rw [decide_eq_false_iff_not]; exact hz'
      obtain ⟨y, hy⟩ : ∃ y : Th, y = thZ := ⟨_, rfl⟩
      replace hy := hide hy
      clear hb CD HR CL
      go_enter Try.func17, Try.ntmps17
      go_wp2_with (refine wpList_store_row rfl 25 (.tmp 4) (.tmp 25) rfl w.heap.size (thC y) rfl (by rw [unhide hy]; rfl) 25 (thC thZ) (unhide hR0) (th_size y) rfl (th_one y) ?_)
      have hR5 := setRow_heap _ w.heap.size _ (thC y) 25 (0, 0) (unhide hR0)
      have hB5 := Go.below_setRow (unhide hb0) (Nat.le_refl _) (thC y)
      exact bodyPost_ret (results_cb_tmp (by exact Try.results17) _ _ w.heap.size 25 (thC y) _ rfl hR5 Try.underlying25 (th_size y)) rfl ⟨by rw [unhide hy]; simp, hB5⟩
  have n3 : (k == 3) = false := by rw [beq_eq_false_iff_ne]; exact h3
  obtain ⟨y, hy⟩ : ∃ y : Th, y = thZ := ⟨_, rfl⟩
  replace hy := hide hy
  clear hb CD HR CL
  go_enter Try.func17, Try.ntmps17
  go_wp2_with (refine wpList_store_row rfl 25 (.tmp 4) (.tmp 25) rfl w.heap.size (thC y) rfl (by rw [unhide hy]; rfl) 25 (thC thZ) (unhide hR0) (th_size y) rfl (th_one y) ?_)
  have hR5 := setRow_heap _ w.heap.size _ (thC y) 25 (0, 0) (unhide hR0)
  have hB5 := Go.below_setRow (unhide hb0) (Nat.le_refl _) (thC y)
  exact bodyPost_ret (results_cb_tmp (by exact Try.results17) _ _ w.heap.size 25 (thC y) _ rfl hR5 Try.underlying25 (th_size y)) rfl ⟨by rw [unhide hy]; simp, hB5⟩
end Go.Proofs.Ytecbpplocokedaa
