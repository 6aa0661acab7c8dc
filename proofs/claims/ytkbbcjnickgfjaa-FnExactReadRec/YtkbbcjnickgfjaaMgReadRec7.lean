/- Merged: BkI5, RuI3, ReadShort, ThI3, ThI4, Stw. -/
import Derived.Test.YtkbbcjnickgfjaaMgReadRec1
import Derived.Test.YtkbbcjnickgfjaaMgReadRec2
import Derived.Test.YtkbbcjnickgfjaaMgReadRec3
import Derived.Test.YtkbbcjnickgfjaaMgReadRec4
import Derived.Test.YtkbbcjnickgfjaaMgReadRec5
import Derived.Test.YtkbbcjnickgfjaaMgReadRec6
import Derived.Deep.RegionHeld3
/- The project's records: their texts, over the loaded program. -/
namespace Go.Proofs.Ytkbbcjnickgfjaa
open Go.RowKit
set_option maxRecDepth 20000 in
set_option maxHeartbeats 4000000 in
theorem implRecText_any (r : Rc) (htx : r.tx.size ≤ 100000000) (w : World) :
    Calls Try.prog 8 #[.agg (rcC r)] w fun e w' => e = .returned (.tuple #[.string (rcT r), .bool (rcOk r)]) ∧ Below w.heap.size w w' := by
  have CB := (fun W => recBody_any r htx W)
  have CO := (fun W => onlyTold_any r W)
  have NE := (fun W => neRc_run r (onlyT r) W)
  have CY := hide (fun W => implByteY9_any r.kd W)
  have RO := recOk_is r
  have RT := fun h => @recT_is r h
  have RN : rcOk r = false → rcT r = ⟨#[]⟩ := fun h => by unfold rcT; rw [h]; rfl
  obtain ⟨bo, hbo⟩ : ∃ z, z = bodyO r := ⟨_, rfl⟩
  obtain ⟨eo, heo⟩ : ∃ z, z = rcEq r (onlyT r) := ⟨_, rfl⟩
  obtain ⟨bs, hbs⟩ : ∃ z, z = bodyS r := ⟨_, rfl⟩
  have hbsz : bo = true → eo = true → bs.size ≤ 100000000 := by
    intro h1 h2
    have h := RT (by rw [RO, ← hbo, ← heo, h1, h2]; rfl)
    have h3 := rcT_le9 r
    rw [h.1, ByteArray.size_append] at h3
    rw [hbs]; omega
  rw [← hbo, ← hbs] at CB
  rw [← hbo, ← heo] at RO
  rw [← heo] at NE
  rw [← hbs] at RT
  clear hbo heo hbs
  obtain ⟨o, ho⟩ : ∃ z, z = onlyT r := ⟨_, rfl⟩
  rw [← ho] at CO NE
  clear ho
  obtain ⟨rt, hrt⟩ : ∃ z, z = rcT r := ⟨_, rfl⟩
  obtain ⟨ro, hro⟩ : ∃ z, z = rcOk r := ⟨_, rfl⟩
  rw [← hrt, ← hro] at RT RN
  rw [← hro] at RO
  rw [← hrt, ← hro]
  clear hrt hro
  obtain ⟨kd, tx, nm, ⟨id, kind, hid, fix, sgn, wrp, val, nxt⟩⟩ := r
  obtain ⟨okd, otx, onm, ⟨oid, okind, ohid, ofix, osgn, owrp, oval, onxt⟩⟩ := o
  simp only [rcC] at CB CO NE ⊢
  dsimp only at CY RT htx
  obtain ⟨yk, hyk⟩ : ∃ z, z = oneY kd := ⟨_, rfl⟩
  have hyz : yk.size = 1 := by rw [hyk]; exact oneY_size9 kd
  rw [← hyk] at CY RT
  clear hyk
  replace CB := hide CB; replace CO := hide CO; replace NE := hide NE; replace CY := hide CY; replace RO := hide RO; replace RT := hide RT; replace RN := hide RN; replace hbsz := hide hbsz; replace hyz := hide hyz
  obtain ⟨W, hW, hX, hB, hs1⟩ := one_cb w #[.int .i64 kd, .string tx, .int .i64 nm, .int .i64 id, .int .i64 kind, .bool hid, .bool fix, .bool sgn, .bool wrp, .string val, .int .i64 nxt] 27
  replace hX := hide hX; replace hB := hide hB
  go_enter Try.func8, Try.ntmps8
  go_upto_region 1 with fail
  first | rw [hW] | skip
  clear hW hs1
  go_upto_region 2 with (first
    | (refine wpList_load_row (P := Try.prog) rfl 27 (.tmp 1) rfl w.heap.size rfl 27 #[.int .i64 kd, .string tx, .int .i64 nm, .int .i64 id, .int .i64 kind, .bool hid, .bool fix, .bool sgn, .bool wrp, .string val, .int .i64 nxt] (0, 0) _ (unhide hX) Try.underlying27 rfl rfl ?_)
    | (go_at_call 24; refine (unhide CB _).mono ?_; rintro e w1 ⟨rfl, hb1⟩))
  have hX1 := (unhide hX).step hb1
  have T1 := hide ((unhide hB).trans (hb1.mono (unhide hB).size))
  have KF := hide (show ∀ W', Below w1.heap.size w1 W' → W'.cell? ⟨w.heap.size, 0, none⟩ = some (.int .i64 kd) ∧ W'.cell? ⟨w.heap.size, 1, none⟩ = some (.string tx) ∧ W'.cell? ⟨w.heap.size, 2, none⟩ = some (.int .i64 nm) ∧ W'.cell? ⟨w.heap.size, 3, none⟩ = some (.int .i64 id) ∧ W'.cell? ⟨w.heap.size, 4, none⟩ = some (.int .i64 kind) ∧ W'.cell? ⟨w.heap.size, 5, none⟩ = some (.bool hid) ∧ W'.cell? ⟨w.heap.size, 6, none⟩ = some (.bool fix) ∧ W'.cell? ⟨w.heap.size, 7, none⟩ = some (.bool sgn) ∧ W'.cell? ⟨w.heap.size, 8, none⟩ = some (.bool wrp) ∧ W'.cell? ⟨w.heap.size, 9, none⟩ = some (.string val) ∧ W'.cell? ⟨w.heap.size, 10, none⟩ = some (.int .i64 nxt) from fun W' h => ⟨(hX1.step h).cell 0 rfl, (hX1.step h).cell 1 rfl, (hX1.step h).cell 2 rfl, (hX1.step h).cell 3 rfl, (hX1.step h).cell 4 rfl, (hX1.step h).cell 5 rfl, (hX1.step h).cell 6 rfl, (hX1.step h).cell 7 rfl, (hX1.step h).cell 8 rfl, (hX1.step h).cell 9 rfl, (hX1.step h).cell 10 rfl⟩)
  clear hb1 hX1 hX hB CB
  cases bo with
  | false =>
    have E : ro = false := by rw [unhide RO]; rfl
    have E2 := unhide RN E
    subst E E2
    clear RO RT RN
    refine wp_region_held_drew (S := fun W => Below w1.heap.size w1 W) (by kernel_rfl) (Below.refl _ w1).drew (fun hHeld => ?_)
    refine held_take (i := 0) 11 (v := ?vb_0) rfl rfl (by kernel_rfl) (by kernel_rfl) (by kernel_rfl) (fun _ _ _ h => h) (Or.inl ⟨by rfl, ?hyb_0⟩) hHeld ?restb_0
    case hyb_0 => (intro W hS; go_simp; try with_reducible rfl)
    simp only [Act.put, List.setIfInBounds_toArray, List.set_cons_zero, List.set_cons_succ]
    refine held_take (i := 1) 12 (v := ?vb_1) rfl rfl (by kernel_rfl) (by kernel_rfl) (by kernel_rfl) (fun _ _ _ h => h) (Or.inl ⟨by rfl, ?hyb_1⟩) hHeld ?restb_1
    case hyb_1 => (intro W hS; go_simp; try with_reducible rfl)
    simp only [Act.put, List.setIfInBounds_toArray, List.set_cons_zero, List.set_cons_succ]
    refine held_take (i := 2) 13 (v := ?vb_2) rfl rfl (by kernel_rfl) (by kernel_rfl) (by kernel_rfl) (fun _ _ _ h => h) (Or.inl ⟨by rfl, ?hyb_2⟩) hHeld ?restb_2
    case hyb_2 => (intro W hS; go_simp; try with_reducible rfl)
    simp only [Act.put, List.setIfInBounds_toArray, List.set_cons_zero, List.set_cons_succ]
    refine held_take (i := 3) 14 (v := undef) rfl rfl (by kernel_rfl) (by kernel_rfl) (by kernel_rfl) (fun _ _ _ h => h) (Or.inr ⟨by kernel_rfl, rfl⟩) hHeld ?_
    simp only [Act.put, List.setIfInBounds_toArray, List.set_cons_zero, List.set_cons_succ]
    refine held_take (i := 4) 15 (v := undef) rfl rfl (by kernel_rfl) (by kernel_rfl) (by kernel_rfl) (fun _ _ _ h => h) (Or.inr ⟨by kernel_rfl, rfl⟩) hHeld ?_
    simp only [Act.put, List.setIfInBounds_toArray, List.set_cons_zero, List.set_cons_succ]
    refine held_take (i := 5) 16 (v := undef) rfl rfl (by kernel_rfl) (by kernel_rfl) (by kernel_rfl) (fun _ _ _ h => h) (Or.inr ⟨by kernel_rfl, rfl⟩) hHeld ?_
    simp only [Act.put, List.setIfInBounds_toArray, List.set_cons_zero, List.set_cons_succ]
    refine held_take (i := 6) 17 (v := undef) rfl rfl (by kernel_rfl) (by kernel_rfl) (by kernel_rfl) (fun _ _ _ h => h) (Or.inr ⟨by kernel_rfl, rfl⟩) hHeld ?_
    simp only [Act.put, List.setIfInBounds_toArray, List.set_cons_zero, List.set_cons_succ]
    refine held_take (i := 7) 18 (v := ?vb_7) rfl rfl (by kernel_rfl) (by kernel_rfl) (by kernel_rfl) (fun _ _ _ h => h) (Or.inl ⟨by rfl, ?hyb_7⟩) hHeld ?restb_7
    case hyb_7 => (intro W hS; go_simp; try with_reducible rfl)
    simp only [Act.put, List.setIfInBounds_toArray, List.set_cons_zero, List.set_cons_succ]
    refine wpAnyH_done (by kernel_rfl) ?_ _
    have T9 := (unhide T1).trans (hHeld.mono (unhide T1).size)
    clear hHeld KF NE CO
    go_wp2
    go_ret2
    exact ⟨rfl, T9⟩
  | true =>
    refine wp_region_held_drew (S := fun W => Below w1.heap.size w1 W) (by kernel_rfl) (Below.refl _ w1).drew (fun hHeld => ?_)
    refine held_take (i := 0) 11 (v := ?vc_0) rfl rfl (by kernel_rfl) (by kernel_rfl) (by kernel_rfl) (fun _ _ _ h => h) (Or.inl ⟨by rfl, ?hyc_0⟩) hHeld ?restc_0
    case hyc_0 => (intro W hS; go_simp; try with_reducible rfl)
    simp only [Act.put, List.setIfInBounds_toArray, List.set_cons_zero, List.set_cons_succ]
    refine held_take (i := 1) 12 (v := ?vc_1) rfl rfl (by kernel_rfl) (by kernel_rfl) (by kernel_rfl) (fun _ _ _ h => h) (Or.inl ⟨by rfl, ?hyc_1⟩) hHeld ?restc_1
    case hyc_1 => (intro W hS; go_simp; try with_reducible rfl)
    simp only [Act.put, List.setIfInBounds_toArray, List.set_cons_zero, List.set_cons_succ]
    refine held_take (i := 2) 13 (v := ?vc_2) rfl rfl (by kernel_rfl) (by kernel_rfl) (by kernel_rfl) (fun _ _ _ h => h) (Or.inl ⟨by rfl, ?hyc_2⟩) hHeld ?restc_2
    case hyc_2 => (intro W hS; go_simp; try with_reducible rfl)
    simp only [Act.put, List.setIfInBounds_toArray, List.set_cons_zero, List.set_cons_succ]
    refine held_take (i := 3) 14 (v := ?vc_3) rfl rfl (by kernel_rfl) (by kernel_rfl) (by kernel_rfl) (fun _ _ _ h => h) (Or.inl ⟨by rfl, ?hyc_3⟩) hHeld ?restc_3
    case hyc_3 => (intro W hS; obtain ⟨z0, z1, z2, z3, z4, z5, z6, z7, z8, z9, z10⟩ := unhide KF W hS; go_simp; try with_reducible rfl)
    simp only [Act.put, List.setIfInBounds_toArray, List.set_cons_zero, List.set_cons_succ]
    refine held_take (i := 4) 15 (v := ?vc_4) rfl rfl (by kernel_rfl) (by kernel_rfl) (by kernel_rfl) (fun _ _ _ h => h) (Or.inl ⟨by rfl, ?hyc_4⟩) hHeld ?restc_4
    case hyc_4 => (intro W hS; obtain ⟨z0, z1, z2, z3, z4, z5, z6, z7, z8, z9, z10⟩ := unhide KF W hS; go_simp; try with_reducible rfl)
    simp only [Act.put, List.setIfInBounds_toArray, List.set_cons_zero, List.set_cons_succ]
    refine wpAnyH_ready (rs := [5]) (by kernel_rfl) (by simp) ?_
    refine AllReadyH.cons rfl (fun K hK => ?_) AllReadyH.nil
    go_simp
    refine (unhide CO _).mono ?_
    rintro e w5 ⟨rfl, hb5⟩
    refine hK.out _ _ (hHeld.trans (hb5.mono hHeld.size)) (fun hHeld => ?_)
    clear hK K hb5
    refine held_take (i := 6) 17 (v := .bool (!eo)) rfl rfl (by kernel_rfl) (by kernel_rfl) (by kernel_rfl) (fun _ _ _ h => h) (Or.inl ⟨by rfl, fun W hS => exec_neq 27 (.tmp 14) (.tmp 16) 27 rfl rfl rfl (guardRc _ _ _ _ W) (unhide NE W)⟩) hHeld ?restc_6
    simp only [Act.put, List.setIfInBounds_toArray, List.set_cons_zero, List.set_cons_succ]
    refine held_take (i := 7) 18 (v := ?vc_7) rfl rfl (by kernel_rfl) (by kernel_rfl) (by kernel_rfl) (fun _ _ _ h => h) (Or.inl ⟨by rfl, ?hyc_7⟩) hHeld ?restc_7
    case hyc_7 => (intro W hS; go_simp; try with_reducible rfl)
    simp only [Act.put, List.setIfInBounds_toArray, List.set_cons_zero, List.set_cons_succ]
    refine wpAnyH_done (by kernel_rfl) ?_ _
    have T9 := (unhide T1).trans (hHeld.mono (unhide T1).size)
    cases eo with
    | false =>
      have E : ro = false := by rw [unhide RO]; rfl
      have E2 := unhide RN E
      subst E E2
      clear hHeld KF NE CO RO RT RN
      go_wp2
      go_ret2
      exact ⟨rfl, T9⟩
    | true =>
      have E : ro = true := by rw [unhide RO]; rfl
      have E2 := (unhide RT E).1
      subst E E2
      have hz := unhide hbsz rfl rfl
      have hy := unhide hyz
      have s1 : ¬ 9223372036854775807 < yk.size + bs.size := by omega
      have s2 : yk.size + bs.size ≤ 9223372036854775807 := by omega
      obtain ⟨z0, _⟩ := unhide KF _ hHeld
      replace hz := hide hz; replace hy := hide hy
      have T9 := hide T9
      clear hHeld KF NE CO RO RT RN
      go_wp2_with (go_at_call 26; refine (unhide CY _).mono ?_; rintro e w8 ⟨rfl, hb8⟩)
      go_ret2
      exact ⟨rfl, (unhide T9).trans (hb8.mono (unhide T9).size)⟩
end Go.Proofs.Ytkbbcjnickgfjaa

/- The project's rules: changes, new things, and those that come in again, over the loaded program. -/
namespace Go.Proofs.Ytkbbcjnickgfjaa
open Go.RowKit
set_option maxRecDepth 20000 in
theorem strClone20_any (s : ByteArray) (w : World) (hs : s.size ≤ 4000000) :
    Calls Try.prog 59 #[.string s] w fun e w' => e = .returned (.string s) ∧ Below w.heap.size w w' := by
  have hlim : s.size ≤ 281474976710656 := by omega
  have C := hide (Try.stringslite_Clone s w hlim)
  go_enter Try.func59, Try.ntmps59
  go_wp2_with fail
  refine (unhide C).mono ?_
  rintro e w2 ⟨rfl, hb2⟩
  go_wp2
  go_ret
  exact ⟨rfl, hb2⟩
set_option maxRecDepth 20000 in
set_option maxHeartbeats 2000000 in
theorem copied_any (x : Th) (hx : x.val.size ≤ 4000000) (w : World) :
    Calls Try.prog 49 #[.agg (thC x)] w fun e w' => e = .returned (.agg (thC x)) ∧ Below w.heap.size w w' := by
  have CL := hide (fun W => strClone20_any x.val W hx)
  obtain ⟨y, hy⟩ : ∃ y : Th, y = x := ⟨_, rfl⟩
  obtain ⟨id, kind, hid, fix, sgn, wrp, val, nxt⟩ := x
  have hxe : thC ⟨id, kind, hid, fix, sgn, wrp, val, nxt⟩ = #[.int .i64 id, .int .i64 kind, .bool hid, .bool fix, .bool sgn, .bool wrp, .string val, .int .i64 nxt] := rfl
  rw [show thC ⟨id, kind, hid, fix, sgn, wrp, val, nxt⟩ = thC y by rw [hy]]
  rw [show thC y = #[.int .i64 id, .int .i64 kind, .bool hid, .bool fix, .bool sgn, .bool wrp, .string val, .int .i64 nxt] by rw [hy]; rfl]
  simp only at CL hx
  obtain ⟨W, hW, hA, hR, hb, hlt⟩ := two_cb w #[.int .i64 id, .int .i64 kind, .bool hid, .bool fix, .bool sgn, .bool wrp, .string val, .int .i64 nxt] (thC thZ) 25 25
  unfold thC thZ at hW
  simp only at hW
  have a6 := hA.cell 6 rfl
  replace hA := hide hA; replace hR := hide hR
  go_enter Try.func49, Try.ntmps49
  go_wp2_with fail
  refine (unhide CL W).mono ?_
  rintro e w1 ⟨rfl, hb1⟩
  have hA1 := (unhide hA).below hb1 (by omega)
  have hR1 := (unhide hR).below hb1 (by omega)
  have hB1 := hb.trans (hb1.mono hb.size)
  clear a6 hA hR hb hb1 CL hW hxe
  have b6 := hA1.cell 6 rfl
  have z6 := hA1.frozen 6
  have hX2 := hA1.set 6 (.string val)
  have hX3 := hide (cb_eq hX2 (show thC y = _ by rw [hy]; rfl))
  have hR3 := hide (hR1.set_other (h := w.heap.size) (k := 6) (by omega) (.string val))
  have hB3 := hide (hB1.setCell (p := ⟨w.heap.size, 6, none⟩) (Nat.le_refl _) (.string val))
  replace hy := hide hy
  clear hA1 hX2 hR1 hB1
  go_wp2_with (first
    | (refine wpList_load_row rfl 25 (.tmp 1) rfl w.heap.size rfl 25 (thC y) (0, 0) _ (unhide hX3) Try.underlying25 rfl (th_size y) ?_)
    | (refine wpList_store_row rfl 25 (.tmp 2) (.tmp 7) rfl (w.heap.size + 1) (thC y) rfl rfl 25 (thC thZ) (unhide hR3) (th_size y) rfl (th_one y) ?_))
  have hR5 := setRow_heap _ (w.heap.size + 1) _ (thC y) 25 (0, 0) (unhide hR3)
  have hB5 := Go.below_setRow (unhide hB3) (show w.heap.size ≤ w.heap.size + 1 by omega) (thC y)
  exact bodyPost_ret (results_cb (by exact Try.results49) _ _ (w.heap.size + 1) 25 (thC y) _ rfl hR5 Try.underlying25 (th_size y)) rfl ⟨by rw [unhide hy]; rfl, hB5⟩
set_option maxRecDepth 20000 in
set_option maxHeartbeats 4000000 in
theorem implChange_any (x : Th) (h f : Bool) (hx : x.val.size ≤ 4000000) (w : World) :
    Calls Try.prog 107 #[.agg (thC x), .bool h, .bool f] w fun e w' => e = .returned (.tuple #[.agg (thC (chgT x h f)), .bool (chgOk x h f)]) ∧ Below w.heap.size w w' := by
  have CO := hide (fun W => implThingOk_any x W)
  have CP := hide (fun W => copied_any x hx W)
  have HO : chgOk x h f = true ↔ thOk x = true ∧ (x.hid = true → h = true) ∧ (x.fix = true → f = true) := by unfold chgOk; exact decide_eq_true_iff
  have ET : chgT x h f = if chgOk x h f = true then { x with hid := h, fix := f } else thZ := rfl
  rw [ET]
  clear ET
  generalize chgOk x h f = fin at *
  generalize thOk x = ok at *
  obtain ⟨y0, hy0⟩ : ∃ y0 : Th, y0 = x := ⟨_, rfl⟩
  obtain ⟨id, kind, hid, fix, sgn, wrp, val, nxt⟩ := x
  rw [← hy0] at CP
  have hxe : thC y0 = #[.int .i64 id, .int .i64 kind, .bool hid, .bool fix, .bool sgn, .bool wrp, .string val, .int .i64 nxt] := by rw [hy0]; rfl
  rw [show thC ⟨id, kind, hid, fix, sgn, wrp, val, nxt⟩ = #[.int .i64 id, .int .i64 kind, .bool hid, .bool fix, .bool sgn, .bool wrp, .string val, .int .i64 nxt] from rfl] at CO ⊢
  simp only at HO ⊢
  obtain ⟨W, hW, hA, hR, hb, hlt⟩ := two_cb w #[.int .i64 id, .int .i64 kind, .bool hid, .bool fix, .bool sgn, .bool wrp, .string val, .int .i64 nxt] (thC thZ) 25 25
  rw [show thC thZ = #[.int .i64 0, .int .i64 0, .bool false, .bool false, .bool false, .bool false, .string ⟨#[]⟩, .int .i64 0] from rfl] at hW
  have a0 := hA.cell 0 rfl
  have a1 := hA.cell 1 rfl
  have a2 := hA.cell 2 rfl
  have a3 := hA.cell 3 rfl
  have a4 := hA.cell 4 rfl
  have a5 := hA.cell 5 rfl
  have a6 := hA.cell 6 rfl
  have a7 := hA.cell 7 rfl
  rw [← hxe] at hA
  replace hA := hide hA; replace hR := hide hR
  replace hy0 := hide hy0; replace hxe := hide hxe
  cases hid with
  | true =>
    cases h with
    | false =>
      obtain rfl : fin = false := by cases fin with | false => rfl | true => exact absurd (HO.1 rfl) (by simp)
      clear HO CO CP
      go_enter Try.func107, Try.ntmps107
      go_wp2_with (refine wpList_store_row rfl 25 (.tmp 6) (.tmp 30) rfl (w.heap.size + 1) (thC thZ) rfl rfl 25 (thC thZ) (unhide hR) (th_size thZ) rfl (th_one thZ) ?_)
      have hR5 := setRow_heap _ (w.heap.size + 1) _ (thC thZ) 25 (0, 0) (unhide hR)
      have hB5 := Go.below_setRow hb (show w.heap.size ≤ w.heap.size + 1 by omega) (thC thZ)
      exact bodyPost_ret (results_cb_tmp (by exact Try.results107) _ _ (w.heap.size + 1) 25 (thC thZ) _ rfl hR5 Try.underlying25 (th_size thZ)) rfl ⟨rfl, hB5⟩
    | true =>
      cases fix with
      | true =>
        cases f with
        | false =>
          obtain rfl : fin = false := by cases fin with | false => rfl | true => exact absurd (HO.1 rfl) (by simp)
          clear HO CO CP
          go_enter Try.func107, Try.ntmps107
          go_wp2_with (refine wpList_store_row rfl 25 (.tmp 6) (.tmp 30) rfl (w.heap.size + 1) (thC thZ) rfl rfl 25 (thC thZ) (unhide hR) (th_size thZ) rfl (th_one thZ) ?_)
          have hR5 := setRow_heap _ (w.heap.size + 1) _ (thC thZ) 25 (0, 0) (unhide hR)
          have hB5 := Go.below_setRow hb (show w.heap.size ≤ w.heap.size + 1 by omega) (thC thZ)
          exact bodyPost_ret (results_cb_tmp (by exact Try.results107) _ _ (w.heap.size + 1) 25 (thC thZ) _ rfl hR5 Try.underlying25 (th_size thZ)) rfl ⟨rfl, hB5⟩
        | true =>
          go_enter Try.func107, Try.ntmps107
          go_wp2_with fail
          refine (unhide CO W).mono ?_
          rintro e w1 ⟨rfl, hb1⟩
          have hA1 := hide ((unhide hA).below hb1 (by omega))
          have hR1 := hide ((unhide hR).below hb1 (by omega))
          have hB1 := hb.trans (hb1.mono hb.size)
          have hs1 : w.heap.size + 1 < w1.heap.size := (unhide hR1).lt
          clear a0 a1 a2 a3 a4 a5 a6 a7 hA hR hb hb1 CO hW hlt
          cases ok with
          | false =>
            obtain rfl : fin = false := by cases fin with | false => rfl | true => exact absurd (HO.1 rfl) (by simp)
            clear HO CP hA1
            go_wp2_with (refine wpList_store_row rfl 25 (.tmp 6) (.tmp 30) rfl (w.heap.size + 1) (thC thZ) rfl rfl 25 (thC thZ) (unhide hR1) (th_size thZ) rfl (th_one thZ) ?_)
            have hR5 := setRow_heap _ (w.heap.size + 1) _ (thC thZ) 25 (0, 0) (unhide hR1)
            have hB5 := Go.below_setRow hB1 (show w.heap.size ≤ w.heap.size + 1 by omega) (thC thZ)
            exact bodyPost_ret (results_cb_tmp (by exact Try.results107) _ _ (w.heap.size + 1) 25 (thC thZ) _ rfl hR5 Try.underlying25 (th_size thZ)) rfl ⟨rfl, hB5⟩
          | true =>
            obtain rfl : fin = true := HO.2 (by simp)
            clear HO
            go_wp2_with (refine wpList_load_row rfl 25 (.tmp 3) rfl w.heap.size rfl 25 (thC y0) (0, 0) _ (unhide hA1) Try.underlying25 rfl (th_size y0) ?_)
            refine (unhide CP w1).mono ?_
            rintro e w2 ⟨rfl, hb2⟩
            have hR2 := (unhide hR1).step hb2
            have hB2 := hB1.trans (hb2.mono hB1.size)
            have hs2 : w.heap.size + 1 < w2.heap.size := hR2.lt
            clear hA1 hR1 hB1 hb2 CP hs1
            have hZ := hide (CB.new w2 #[.int .i64 0, .int .i64 0, .bool false, .bool false, .bool false, .bool false, .string ⟨#[]⟩, .int .i64 0] 25)
            have hR3 := (hR2.alloc (.cells #[.int .i64 0, .int .i64 0, .bool false, .bool false, .bool false, .bool false, .string ⟨#[]⟩, .int .i64 0] 25))
            have hB3 := hB2.alloc hB2.size (.cells #[.int .i64 0, .int .i64 0, .bool false, .bool false, .bool false, .bool false, .string ⟨#[]⟩, .int .i64 0] 25)
            have hV3 := setRow_heap _ w2.heap.size _ (thC y0) 25 (0, 0) (unhide hZ)
            have hB4 := Go.below_setRow hB3 (show w.heap.size ≤ w2.heap.size by omega) (thC y0)
            have hR4 := (setRow_other (w2.alloc (.cells #[.int .i64 0, .int .i64 0, .bool false, .bool false, .bool false, .bool false, .string ⟨#[]⟩, .int .i64 0] 25)) w2.heap.size (w.heap.size + 1) (thC y0) (by omega)).trans hR3
            obtain ⟨V, hV⟩ : ∃ V, (w2.alloc (.cells #[.int .i64 0, .int .i64 0, .bool false, .bool false, .bool false, .bool false, .string ⟨#[]⟩, .int .i64 0] 25)).setRow w2.heap.size (thC y0) = V := ⟨_, rfl⟩
            rw [hV] at hV3 hB4 hR4
            replace hV3 : CB V w2.heap.size 25 (thC y0) := hV3
            replace hR4 : CB V (w.heap.size + 1) 25 (thC thZ) := hR4
            clear hR2 hB2 hR3 hB3
            rw [unhide hxe] at hV3
            have c2 := hV3.cell 2 rfl
            have z2 := hV3.frozen 2
            have hV4 := hV3.set 2 (.bool true)
            have c3 := hV4.cell 3 rfl
            have z3 := hV4.frozen 3
            have hV5 := hV4.set 3 (.bool true)
            obtain ⟨y, hy⟩ : ∃ y : Th, y = ⟨id, kind, true, true, sgn, wrp, val, nxt⟩ := ⟨_, rfl⟩
            have hV6 := hide (cb_eq hV5 (show thC y = _ by rw [hy]; rfl))
            have hR6 := hide ((hR4.set_other (h := w2.heap.size) (k := 2) (by omega) (.bool true)).set_other (h := w2.heap.size) (k := 3) (by omega) (.bool true))
            have hB6 := hide ((hB4.setCell (p := ⟨w2.heap.size, 2, none⟩) (show w.heap.size ≤ w2.heap.size by omega) (.bool true)).setCell (p := ⟨w2.heap.size, 3, none⟩) (show w.heap.size ≤ w2.heap.size by omega) (.bool true))
            replace hy := hide hy
            clear hV3 hV4 hV5 hR4 hB4
            replace hV := hide hV
            go_wp2_with (first
              | (refine wpList_store_row rfl 25 (.tmp 9) (.tmp 32) rfl w2.heap.size (thC y0) rfl rfl 25 _ (unhide hZ) (th_size y0) rfl (th_one y0) ?_; rw [unhide hV])
              | (refine wpList_load_row rfl 25 (.tmp 9) rfl w2.heap.size rfl 25 (thC y) (0, 0) _ (unhide hV6) Try.underlying25 rfl (th_size y) ?_)
              | (refine wpList_store_row rfl 25 (.tmp 6) (.tmp 37) rfl (w.heap.size + 1) (thC y) rfl rfl 25 (thC thZ) (unhide hR6) (th_size y) rfl (th_one y) ?_))
            have hR7 := setRow_heap _ (w.heap.size + 1) _ (thC y) 25 (0, 0) (unhide hR6)
            have hB7 := Go.below_setRow (unhide hB6) (show w.heap.size ≤ w.heap.size + 1 by omega) (thC y)
            exact bodyPost_ret (results_cb_tmp (by exact Try.results107) _ _ (w.heap.size + 1) 25 (thC y) _ rfl hR7 Try.underlying25 (th_size y)) rfl ⟨by rw [unhide hy]; rfl, hB7⟩
      | false =>
        go_enter Try.func107, Try.ntmps107
        go_wp2_with fail
        refine (unhide CO W).mono ?_
        rintro e w1 ⟨rfl, hb1⟩
        have hA1 := hide ((unhide hA).below hb1 (by omega))
        have hR1 := hide ((unhide hR).below hb1 (by omega))
        have hB1 := hb.trans (hb1.mono hb.size)
        have hs1 : w.heap.size + 1 < w1.heap.size := (unhide hR1).lt
        clear a0 a1 a2 a3 a4 a5 a6 a7 hA hR hb hb1 CO hW hlt
        cases ok with
        | false =>
          obtain rfl : fin = false := by cases fin with | false => rfl | true => exact absurd (HO.1 rfl) (by simp)
          clear HO CP hA1
          go_wp2_with (refine wpList_store_row rfl 25 (.tmp 6) (.tmp 30) rfl (w.heap.size + 1) (thC thZ) rfl rfl 25 (thC thZ) (unhide hR1) (th_size thZ) rfl (th_one thZ) ?_)
          have hR5 := setRow_heap _ (w.heap.size + 1) _ (thC thZ) 25 (0, 0) (unhide hR1)
          have hB5 := Go.below_setRow hB1 (show w.heap.size ≤ w.heap.size + 1 by omega) (thC thZ)
          exact bodyPost_ret (results_cb_tmp (by exact Try.results107) _ _ (w.heap.size + 1) 25 (thC thZ) _ rfl hR5 Try.underlying25 (th_size thZ)) rfl ⟨rfl, hB5⟩
        | true =>
          obtain rfl : fin = true := HO.2 (by simp)
          clear HO
          go_wp2_with (refine wpList_load_row rfl 25 (.tmp 3) rfl w.heap.size rfl 25 (thC y0) (0, 0) _ (unhide hA1) Try.underlying25 rfl (th_size y0) ?_)
          refine (unhide CP w1).mono ?_
          rintro e w2 ⟨rfl, hb2⟩
          have hR2 := (unhide hR1).step hb2
          have hB2 := hB1.trans (hb2.mono hB1.size)
          have hs2 : w.heap.size + 1 < w2.heap.size := hR2.lt
          clear hA1 hR1 hB1 hb2 CP hs1
          have hZ := hide (CB.new w2 #[.int .i64 0, .int .i64 0, .bool false, .bool false, .bool false, .bool false, .string ⟨#[]⟩, .int .i64 0] 25)
          have hR3 := (hR2.alloc (.cells #[.int .i64 0, .int .i64 0, .bool false, .bool false, .bool false, .bool false, .string ⟨#[]⟩, .int .i64 0] 25))
          have hB3 := hB2.alloc hB2.size (.cells #[.int .i64 0, .int .i64 0, .bool false, .bool false, .bool false, .bool false, .string ⟨#[]⟩, .int .i64 0] 25)
          have hV3 := setRow_heap _ w2.heap.size _ (thC y0) 25 (0, 0) (unhide hZ)
          have hB4 := Go.below_setRow hB3 (show w.heap.size ≤ w2.heap.size by omega) (thC y0)
          have hR4 := (setRow_other (w2.alloc (.cells #[.int .i64 0, .int .i64 0, .bool false, .bool false, .bool false, .bool false, .string ⟨#[]⟩, .int .i64 0] 25)) w2.heap.size (w.heap.size + 1) (thC y0) (by omega)).trans hR3
          obtain ⟨V, hV⟩ : ∃ V, (w2.alloc (.cells #[.int .i64 0, .int .i64 0, .bool false, .bool false, .bool false, .bool false, .string ⟨#[]⟩, .int .i64 0] 25)).setRow w2.heap.size (thC y0) = V := ⟨_, rfl⟩
          rw [hV] at hV3 hB4 hR4
          replace hV3 : CB V w2.heap.size 25 (thC y0) := hV3
          replace hR4 : CB V (w.heap.size + 1) 25 (thC thZ) := hR4
          clear hR2 hB2 hR3 hB3
          rw [unhide hxe] at hV3
          have c2 := hV3.cell 2 rfl
          have z2 := hV3.frozen 2
          have hV4 := hV3.set 2 (.bool true)
          have c3 := hV4.cell 3 rfl
          have z3 := hV4.frozen 3
          have hV5 := hV4.set 3 (.bool f)
          obtain ⟨y, hy⟩ : ∃ y : Th, y = ⟨id, kind, true, f, sgn, wrp, val, nxt⟩ := ⟨_, rfl⟩
          have hV6 := hide (cb_eq hV5 (show thC y = _ by rw [hy]; rfl))
          have hR6 := hide ((hR4.set_other (h := w2.heap.size) (k := 2) (by omega) (.bool true)).set_other (h := w2.heap.size) (k := 3) (by omega) (.bool f))
          have hB6 := hide ((hB4.setCell (p := ⟨w2.heap.size, 2, none⟩) (show w.heap.size ≤ w2.heap.size by omega) (.bool true)).setCell (p := ⟨w2.heap.size, 3, none⟩) (show w.heap.size ≤ w2.heap.size by omega) (.bool f))
          replace hy := hide hy
          clear hV3 hV4 hV5 hR4 hB4
          replace hV := hide hV
          go_wp2_with (first
            | (refine wpList_store_row rfl 25 (.tmp 9) (.tmp 32) rfl w2.heap.size (thC y0) rfl rfl 25 _ (unhide hZ) (th_size y0) rfl (th_one y0) ?_; rw [unhide hV])
            | (refine wpList_load_row rfl 25 (.tmp 9) rfl w2.heap.size rfl 25 (thC y) (0, 0) _ (unhide hV6) Try.underlying25 rfl (th_size y) ?_)
            | (refine wpList_store_row rfl 25 (.tmp 6) (.tmp 37) rfl (w.heap.size + 1) (thC y) rfl rfl 25 (thC thZ) (unhide hR6) (th_size y) rfl (th_one y) ?_))
          have hR7 := setRow_heap _ (w.heap.size + 1) _ (thC y) 25 (0, 0) (unhide hR6)
          have hB7 := Go.below_setRow (unhide hB6) (show w.heap.size ≤ w.heap.size + 1 by omega) (thC y)
          exact bodyPost_ret (results_cb_tmp (by exact Try.results107) _ _ (w.heap.size + 1) 25 (thC y) _ rfl hR7 Try.underlying25 (th_size y)) rfl ⟨by rw [unhide hy]; rfl, hB7⟩
  | false =>
    cases fix with
    | true =>
      cases f with
      | false =>
        obtain rfl : fin = false := by cases fin with | false => rfl | true => exact absurd (HO.1 rfl) (by simp)
        clear HO CO CP
        go_enter Try.func107, Try.ntmps107
        go_wp2_with (refine wpList_store_row rfl 25 (.tmp 6) (.tmp 30) rfl (w.heap.size + 1) (thC thZ) rfl rfl 25 (thC thZ) (unhide hR) (th_size thZ) rfl (th_one thZ) ?_)
        have hR5 := setRow_heap _ (w.heap.size + 1) _ (thC thZ) 25 (0, 0) (unhide hR)
        have hB5 := Go.below_setRow hb (show w.heap.size ≤ w.heap.size + 1 by omega) (thC thZ)
        exact bodyPost_ret (results_cb_tmp (by exact Try.results107) _ _ (w.heap.size + 1) 25 (thC thZ) _ rfl hR5 Try.underlying25 (th_size thZ)) rfl ⟨rfl, hB5⟩
      | true =>
        go_enter Try.func107, Try.ntmps107
        go_wp2_with fail
        refine (unhide CO W).mono ?_
        rintro e w1 ⟨rfl, hb1⟩
        have hA1 := hide ((unhide hA).below hb1 (by omega))
        have hR1 := hide ((unhide hR).below hb1 (by omega))
        have hB1 := hb.trans (hb1.mono hb.size)
        have hs1 : w.heap.size + 1 < w1.heap.size := (unhide hR1).lt
        clear a0 a1 a2 a3 a4 a5 a6 a7 hA hR hb hb1 CO hW hlt
        cases ok with
        | false =>
          obtain rfl : fin = false := by cases fin with | false => rfl | true => exact absurd (HO.1 rfl) (by simp)
          clear HO CP hA1
          go_wp2_with (refine wpList_store_row rfl 25 (.tmp 6) (.tmp 30) rfl (w.heap.size + 1) (thC thZ) rfl rfl 25 (thC thZ) (unhide hR1) (th_size thZ) rfl (th_one thZ) ?_)
          have hR5 := setRow_heap _ (w.heap.size + 1) _ (thC thZ) 25 (0, 0) (unhide hR1)
          have hB5 := Go.below_setRow hB1 (show w.heap.size ≤ w.heap.size + 1 by omega) (thC thZ)
          exact bodyPost_ret (results_cb_tmp (by exact Try.results107) _ _ (w.heap.size + 1) 25 (thC thZ) _ rfl hR5 Try.underlying25 (th_size thZ)) rfl ⟨rfl, hB5⟩
        | true =>
          obtain rfl : fin = true := HO.2 (by simp)
          clear HO
          go_wp2_with (refine wpList_load_row rfl 25 (.tmp 3) rfl w.heap.size rfl 25 (thC y0) (0, 0) _ (unhide hA1) Try.underlying25 rfl (th_size y0) ?_)
          refine (unhide CP w1).mono ?_
          rintro e w2 ⟨rfl, hb2⟩
          have hR2 := (unhide hR1).step hb2
          have hB2 := hB1.trans (hb2.mono hB1.size)
          have hs2 : w.heap.size + 1 < w2.heap.size := hR2.lt
          clear hA1 hR1 hB1 hb2 CP hs1
          have hZ := hide (CB.new w2 #[.int .i64 0, .int .i64 0, .bool false, .bool false, .bool false, .bool false, .string ⟨#[]⟩, .int .i64 0] 25)
          have hR3 := (hR2.alloc (.cells #[.int .i64 0, .int .i64 0, .bool false, .bool false, .bool false, .bool false, .string ⟨#[]⟩, .int .i64 0] 25))
          have hB3 := hB2.alloc hB2.size (.cells #[.int .i64 0, .int .i64 0, .bool false, .bool false, .bool false, .bool false, .string ⟨#[]⟩, .int .i64 0] 25)
          have hV3 := setRow_heap _ w2.heap.size _ (thC y0) 25 (0, 0) (unhide hZ)
          have hB4 := Go.below_setRow hB3 (show w.heap.size ≤ w2.heap.size by omega) (thC y0)
          have hR4 := (setRow_other (w2.alloc (.cells #[.int .i64 0, .int .i64 0, .bool false, .bool false, .bool false, .bool false, .string ⟨#[]⟩, .int .i64 0] 25)) w2.heap.size (w.heap.size + 1) (thC y0) (by omega)).trans hR3
          obtain ⟨V, hV⟩ : ∃ V, (w2.alloc (.cells #[.int .i64 0, .int .i64 0, .bool false, .bool false, .bool false, .bool false, .string ⟨#[]⟩, .int .i64 0] 25)).setRow w2.heap.size (thC y0) = V := ⟨_, rfl⟩
          rw [hV] at hV3 hB4 hR4
          replace hV3 : CB V w2.heap.size 25 (thC y0) := hV3
          replace hR4 : CB V (w.heap.size + 1) 25 (thC thZ) := hR4
          clear hR2 hB2 hR3 hB3
          rw [unhide hxe] at hV3
          have c2 := hV3.cell 2 rfl
          have z2 := hV3.frozen 2
          have hV4 := hV3.set 2 (.bool h)
          have c3 := hV4.cell 3 rfl
          have z3 := hV4.frozen 3
          have hV5 := hV4.set 3 (.bool true)
          obtain ⟨y, hy⟩ : ∃ y : Th, y = ⟨id, kind, h, true, sgn, wrp, val, nxt⟩ := ⟨_, rfl⟩
          have hV6 := hide (cb_eq hV5 (show thC y = _ by rw [hy]; rfl))
          have hR6 := hide ((hR4.set_other (h := w2.heap.size) (k := 2) (by omega) (.bool h)).set_other (h := w2.heap.size) (k := 3) (by omega) (.bool true))
          have hB6 := hide ((hB4.setCell (p := ⟨w2.heap.size, 2, none⟩) (show w.heap.size ≤ w2.heap.size by omega) (.bool h)).setCell (p := ⟨w2.heap.size, 3, none⟩) (show w.heap.size ≤ w2.heap.size by omega) (.bool true))
          replace hy := hide hy
          clear hV3 hV4 hV5 hR4 hB4
          replace hV := hide hV
          go_wp2_with (first
            | (refine wpList_store_row rfl 25 (.tmp 9) (.tmp 32) rfl w2.heap.size (thC y0) rfl rfl 25 _ (unhide hZ) (th_size y0) rfl (th_one y0) ?_; rw [unhide hV])
            | (refine wpList_load_row rfl 25 (.tmp 9) rfl w2.heap.size rfl 25 (thC y) (0, 0) _ (unhide hV6) Try.underlying25 rfl (th_size y) ?_)
            | (refine wpList_store_row rfl 25 (.tmp 6) (.tmp 37) rfl (w.heap.size + 1) (thC y) rfl rfl 25 (thC thZ) (unhide hR6) (th_size y) rfl (th_one y) ?_))
          have hR7 := setRow_heap _ (w.heap.size + 1) _ (thC y) 25 (0, 0) (unhide hR6)
          have hB7 := Go.below_setRow (unhide hB6) (show w.heap.size ≤ w.heap.size + 1 by omega) (thC y)
          exact bodyPost_ret (results_cb_tmp (by exact Try.results107) _ _ (w.heap.size + 1) 25 (thC y) _ rfl hR7 Try.underlying25 (th_size y)) rfl ⟨by rw [unhide hy]; rfl, hB7⟩
    | false =>
      go_enter Try.func107, Try.ntmps107
      go_wp2_with fail
      refine (unhide CO W).mono ?_
      rintro e w1 ⟨rfl, hb1⟩
      have hA1 := hide ((unhide hA).below hb1 (by omega))
      have hR1 := hide ((unhide hR).below hb1 (by omega))
      have hB1 := hb.trans (hb1.mono hb.size)
      have hs1 : w.heap.size + 1 < w1.heap.size := (unhide hR1).lt
      clear a0 a1 a2 a3 a4 a5 a6 a7 hA hR hb hb1 CO hW hlt
      cases ok with
      | false =>
        obtain rfl : fin = false := by cases fin with | false => rfl | true => exact absurd (HO.1 rfl) (by simp)
        clear HO CP hA1
        go_wp2_with (refine wpList_store_row rfl 25 (.tmp 6) (.tmp 30) rfl (w.heap.size + 1) (thC thZ) rfl rfl 25 (thC thZ) (unhide hR1) (th_size thZ) rfl (th_one thZ) ?_)
        have hR5 := setRow_heap _ (w.heap.size + 1) _ (thC thZ) 25 (0, 0) (unhide hR1)
        have hB5 := Go.below_setRow hB1 (show w.heap.size ≤ w.heap.size + 1 by omega) (thC thZ)
        exact bodyPost_ret (results_cb_tmp (by exact Try.results107) _ _ (w.heap.size + 1) 25 (thC thZ) _ rfl hR5 Try.underlying25 (th_size thZ)) rfl ⟨rfl, hB5⟩
      | true =>
        obtain rfl : fin = true := HO.2 (by simp)
        clear HO
        go_wp2_with (refine wpList_load_row rfl 25 (.tmp 3) rfl w.heap.size rfl 25 (thC y0) (0, 0) _ (unhide hA1) Try.underlying25 rfl (th_size y0) ?_)
        refine (unhide CP w1).mono ?_
        rintro e w2 ⟨rfl, hb2⟩
        have hR2 := (unhide hR1).step hb2
        have hB2 := hB1.trans (hb2.mono hB1.size)
        have hs2 : w.heap.size + 1 < w2.heap.size := hR2.lt
        clear hA1 hR1 hB1 hb2 CP hs1
        have hZ := hide (CB.new w2 #[.int .i64 0, .int .i64 0, .bool false, .bool false, .bool false, .bool false, .string ⟨#[]⟩, .int .i64 0] 25)
        have hR3 := (hR2.alloc (.cells #[.int .i64 0, .int .i64 0, .bool false, .bool false, .bool false, .bool false, .string ⟨#[]⟩, .int .i64 0] 25))
        have hB3 := hB2.alloc hB2.size (.cells #[.int .i64 0, .int .i64 0, .bool false, .bool false, .bool false, .bool false, .string ⟨#[]⟩, .int .i64 0] 25)
        have hV3 := setRow_heap _ w2.heap.size _ (thC y0) 25 (0, 0) (unhide hZ)
        have hB4 := Go.below_setRow hB3 (show w.heap.size ≤ w2.heap.size by omega) (thC y0)
        have hR4 := (setRow_other (w2.alloc (.cells #[.int .i64 0, .int .i64 0, .bool false, .bool false, .bool false, .bool false, .string ⟨#[]⟩, .int .i64 0] 25)) w2.heap.size (w.heap.size + 1) (thC y0) (by omega)).trans hR3
        obtain ⟨V, hV⟩ : ∃ V, (w2.alloc (.cells #[.int .i64 0, .int .i64 0, .bool false, .bool false, .bool false, .bool false, .string ⟨#[]⟩, .int .i64 0] 25)).setRow w2.heap.size (thC y0) = V := ⟨_, rfl⟩
        rw [hV] at hV3 hB4 hR4
        replace hV3 : CB V w2.heap.size 25 (thC y0) := hV3
        replace hR4 : CB V (w.heap.size + 1) 25 (thC thZ) := hR4
        clear hR2 hB2 hR3 hB3
        rw [unhide hxe] at hV3
        have c2 := hV3.cell 2 rfl
        have z2 := hV3.frozen 2
        have hV4 := hV3.set 2 (.bool h)
        have c3 := hV4.cell 3 rfl
        have z3 := hV4.frozen 3
        have hV5 := hV4.set 3 (.bool f)
        obtain ⟨y, hy⟩ : ∃ y : Th, y = ⟨id, kind, h, f, sgn, wrp, val, nxt⟩ := ⟨_, rfl⟩
        have hV6 := hide (cb_eq hV5 (show thC y = _ by rw [hy]; rfl))
        have hR6 := hide ((hR4.set_other (h := w2.heap.size) (k := 2) (by omega) (.bool h)).set_other (h := w2.heap.size) (k := 3) (by omega) (.bool f))
        have hB6 := hide ((hB4.setCell (p := ⟨w2.heap.size, 2, none⟩) (show w.heap.size ≤ w2.heap.size by omega) (.bool h)).setCell (p := ⟨w2.heap.size, 3, none⟩) (show w.heap.size ≤ w2.heap.size by omega) (.bool f))
        replace hy := hide hy
        clear hV3 hV4 hV5 hR4 hB4
        replace hV := hide hV
        go_wp2_with (first
          | (refine wpList_store_row rfl 25 (.tmp 9) (.tmp 32) rfl w2.heap.size (thC y0) rfl rfl 25 _ (unhide hZ) (th_size y0) rfl (th_one y0) ?_; rw [unhide hV])
          | (refine wpList_load_row rfl 25 (.tmp 9) rfl w2.heap.size rfl 25 (thC y) (0, 0) _ (unhide hV6) Try.underlying25 rfl (th_size y) ?_)
          | (refine wpList_store_row rfl 25 (.tmp 6) (.tmp 37) rfl (w.heap.size + 1) (thC y) rfl rfl 25 (thC thZ) (unhide hR6) (th_size y) rfl (th_one y) ?_))
        have hR7 := setRow_heap _ (w.heap.size + 1) _ (thC y) 25 (0, 0) (unhide hR6)
        have hB7 := Go.below_setRow (unhide hB6) (show w.heap.size ≤ w.heap.size + 1 by omega) (thC y)
        exact bodyPost_ret (results_cb_tmp (by exact Try.results107) _ _ (w.heap.size + 1) 25 (thC y) _ rfl hR7 Try.underlying25 (th_size y)) rfl ⟨by rw [unhide hy]; rfl, hB7⟩
end Go.Proofs.Ytkbbcjnickgfjaa

/- The law of ReadShort, walked: at every text and place the two answers are the same. -/
namespace Go.Proofs.Ytkbbcjnickgfjaa
open Go.RowKit

theorem rvRun_some {s : ByteArray} {a : Nat} : ∀ (f i u n m j : Nat), s.size - i ≤ f → rvRun s a i u n = some (m, j) → j ≤ s.size ∧ m ≤ 1000000000 := by
  intro f
  induction f with
  | zero =>
    intro i u n m j hf h
    rw [rvRun_out (by omega)] at h
    cases h
  | succ f ih =>
    intro i u n m j hf h
    by_cases h1 : i < s.size ∧ i < a + 5
    · by_cases hb : 127 < s[i].toNat
      · rw [rvRun_on h1.1 h1.2 hb] at h
        exact ih _ _ _ _ _ (by omega) h
      · by_cases hn : (s[i].toNat = 0 ∧ a < i) ∨ 1000000000 < n + s[i].toNat % 128 * u
        · rw [rvRun_no h1.1 h1.2 hb hn] at h; cases h
        · rw [rvRun_yes h1.1 h1.2 hb hn] at h
          simp only [Option.some.injEq, Prod.mk.injEq] at h
          omega
    · rw [rvRun_out h1] at h; cases h

/-! spec.ReadShort, over what ReadVar answers -/



/-! impl.ReadShort, over what ReadVar answers -/
set_option maxHeartbeats 400000 in
theorem implRS_none (s : ByteArray) (p : Int) (w : World) (C : Hid (∀ W, Calls Try.prog 60 #[.string s, .int .i64 p] W fun e w' => e = .returned (rvTup none) ∧ Below W.heap.size W w')) :
    Calls Try.prog 105 #[.string s, .int .i64 p] w fun e w' => e = .returned (.tuple #[.string ⟨#[]⟩, .int .i64 0, .bool false]) ∧ Below w.heap.size w w' := by
  go_enter Try.func105, Try.ntmps105
  go_wp2_with (go_at_call 60; refine ((unhide C) _).mono ?_; rintro e w1 ⟨rfl, hb⟩; unfold rvTup)
  go_ret3
  exact ⟨rfl, hb⟩

set_option maxHeartbeats 400000 in
theorem implRS_bad (s : ByteArray) (p : Int) (n j : Nat) (w : World) (C : Hid (∀ W, Calls Try.prog 60 #[.string s, .int .i64 p] W fun e w' => e = .returned (rvTup (some (n, j))) ∧ Below W.heap.size W w'))
    (_hs : s.size ≤ 1048576) (hj : j ≤ s.size) (hn : n ≤ 1000000000) (hbad : (20000 : Int) < (n : Int) ∨ (s.size : Int) - (j : Int) < (n : Int)) :
    Calls Try.prog 105 #[.string s, .int .i64 p] w fun e w' => e = .returned (.tuple #[.string ⟨#[]⟩, .int .i64 0, .bool false]) ∧ Below w.heap.size w w' := by
  by_cases h1 : (20000 : Int) < (n : Int)
  · clear hbad
    go_enter Try.func105, Try.ntmps105
    go_wp2_with (go_at_call 60; refine ((unhide C) _).mono ?_; rintro e w1 ⟨rfl, hb⟩; unfold rvTup)
    go_ret3
    exact ⟨rfl, hb⟩
  · have h2 : (s.size : Int) - (j : Int) < (n : Int) := by omega
    clear hbad
    go_enter Try.func105, Try.ntmps105
    go_wp2_with (go_at_call 60; refine ((unhide C) _).mono ?_; rintro e w1 ⟨rfl, hb⟩; unfold rvTup)
    go_ret3
    exact ⟨rfl, hb⟩

set_option maxHeartbeats 400000 in
theorem implRS_good (s : ByteArray) (p : Int) (n j : Nat) (w : World) (C : Hid (∀ W, Calls Try.prog 60 #[.string s, .int .i64 p] W fun e w' => e = .returned (rvTup (some (n, j))) ∧ Below W.heap.size W w'))
    (hs : s.size ≤ 1048576) (h1 : ¬ (20000 : Int) < (n : Int)) (h2 : ¬ (s.size : Int) - (j : Int) < (n : Int)) :
    Calls Try.prog 105 #[.string s, .int .i64 p] w fun e w' => e = .returned (.tuple #[.string (s.extract j (j + n)), .int .i64 ((j + n : Nat) : Int), .bool true]) ∧ Below w.heap.size w w' := by
  have h3 : (j : Int) ≤ (j : Int) + (n : Int) := by omega
  have h4 : (j : Int) + (n : Int) ≤ (s.size : Int) := by omega
  have h5 : (0 : Int) ≤ (j : Int) := by omega
  have hsz : ∀ b, (s.extract j b).size ≤ 281474976710656 := fun b => by rw [ByteArray.size_extract]; omega
  have HS := hide hsz
  clear hsz
  go_enter Try.func105, Try.ntmps105
  go_wp2_with (first
      | (go_at_call 60; refine ((unhide C) _).mono ?_; rintro e w1 ⟨rfl, hb⟩; unfold rvTup)
      | (go_at_call 87; refine (Try.stringslite_Clone _ _ (unhide HS _)).mono ?_; rintro e w3 ⟨rfl, hb3⟩)
      | go_in)
  go_ret3
  exact ⟨rfl, hb.trans (hb3.mono hb.size)⟩



end Go.Proofs.Ytkbbcjnickgfjaa

/- The project's things: how they are read, over the loaded program. -/
namespace Go.Proofs.Ytkbbcjnickgfjaa
open Go.RowKit
set_option linter.unusedVariables false
theorem tT9 {a b c : World} {r : Option Nat} (h : a.grownBy b r) (k : b.grownBy c r) : a.grownBy c r := ⟨k.os.trans h.os, k.tape.trans h.tape, k.output.trans h.output, Nat.le_trans h.size k.size, fun q hq hr => (k.block q (Nat.lt_of_lt_of_le hq h.size) hr).trans (h.block q hq hr)⟩
theorem cb_drew9 {w : World} {g : Nat} {T : TypeId} {cs : Array Value} (h : CB w g T cs) : CB w.drew g T cs := h
theorem cb_eq99 {w : World} {g : Nat} {T : TypeId} {cs cs' : Array Value} (h : CB w g T cs) (e : cs' = cs) : CB w g T cs' := by rw [e]; exact h
theorem gR99 (w : World) (r : Option Nat) : w.grownBy w r := ⟨rfl, rfl, rfl, Nat.le_refl _, fun _ _ _ => rfl⟩
theorem gSet99 {a b : World} {g : Nat} (h : a.grownBy b (some g)) (k : Nat) (u : Value) : a.grownBy (b.setCell ⟨g, k, none⟩ u) (some g) := tT9 h (tS0 b g k u)
/-- What is read at a place, by the project: a number and where it ends, both 0 where none is. -/
def rvN (t : ByteArray) (p : Nat) : Nat × Nat := match rvRun t p p 1 0 with | none => (0, 0) | some x => x
def rsN (t : ByteArray) (p : Nat) : ByteArray × Nat := match rvRun t p p 1 0 with | none => (⟨#[]⟩, 0) | some x => if 20000 < x.1 ∨ t.size - x.2 < x.1 then (⟨#[]⟩, 0) else (t.extract x.2 (x.2 + x.1), x.2 + x.1)
def inX (t : ByteArray) : Th :=
  if t.size < (rvN t 0).2 + 2 then thZ else
  ⟨((rvN t 0).1 : Int), (byA9 t (rvN t 0).2 : Int), decide (byA9 t ((rvN t 0).2 + 1) % 2 = 1), decide (byA9 t ((rvN t 0).2 + 1) / 2 % 2 = 1), decide (byA9 t ((rvN t 0).2 + 1) / 4 % 2 = 1), decide (byA9 t ((rvN t 0).2 + 1) / 8 % 2 = 1), (rsN t ((rvN t 0).2 + 2)).1, ((rvN t (rsN t ((rvN t 0).2 + 2)).2).1 : Int)⟩
theorem rvN_le (t : ByteArray) (p : Nat) (hp : p ≤ t.size) : (rvN t p).2 ≤ t.size ∧ (rvN t p).1 ≤ 1000000000 := by
  unfold rvN
  split
  · exact ⟨Nat.zero_le _, Nat.zero_le _⟩
  · rename_i x hx
    exact rvRun_some _ _ _ _ _ _ (Nat.le_refl _) hx
theorem rsN_le (t : ByteArray) (p : Nat) (hp : p ≤ t.size) : (rsN t p).2 ≤ t.size := by
  unfold rsN
  split
  · exact Nat.zero_le _
  · rename_i x hx
    have := (rvRun_some _ _ _ _ _ _ (Nat.le_refl _) hx).1
    split
    · exact Nat.zero_le _
    · show x.2 + x.1 ≤ t.size
      omega
theorem rsN_size (t : ByteArray) (p : Nat) : (rsN t p).1.size ≤ t.size := by
  unfold rsN
  split
  · exact Nat.zero_le _
  · split
    · exact Nat.zero_le _
    · show (t.extract _ _).size ≤ _
      rw [ByteArray.size_extract]; omega
theorem byA9_at {t : ByteArray} {a : Nat} {b : UInt8} {l : List UInt8} (h : t.data.toList.drop a = b :: l) : byA9 t a = b.toNat := by
  obtain ⟨hi, hb, _⟩ := drop_head h
  unfold byA9
  have : t.data.getD a 0 = t[a] := by
    show t.data.getD a 0 = t.data[a]
    simp [Array.getD, hi]
  rw [this, hb]
theorem byA9_is {t : ByteArray} {a : Nat} (h : a < t.size) : (t[a]'h).toNat = byA9 t a := by
  unfold byA9
  have : t.data.getD a 0 = t[a] := by
    show t.data.getD a 0 = t.data[a]
    simp [Array.getD, h]
  rw [this]
theorem rvN_at {t : ByteArray} {a n : Nat} {rest : List UInt8} (h : t.data.toList.drop a = varB n ++ rest) (hn : n ≤ 1000000000) : rvN t a = (n, a + (varB n).length) ∧ t.data.toList.drop (a + (varB n).length) = rest := by
  constructor
  · unfold rvN
    rw [read_var t a n rest h hn]
  · rw [← List.drop_drop, h, List.drop_left]
theorem rsN_at {t : ByteArray} {a : Nat} {s : ByteArray} {rest : List UInt8} (h : t.data.toList.drop a = varB s.size ++ (s.data.toList ++ rest)) (hs : s.size ≤ 20000) : rsN t a = (s, a + (varB s.size).length + s.size) ∧ t.data.toList.drop (a + (varB s.size).length + s.size) = rest := by
  have hd : t.data.toList.drop (a + (varB s.size).length) = s.data.toList ++ rest := by rw [← List.drop_drop, h, List.drop_left]
  have hl : t.size - (a + (varB s.size).length) = s.size + rest.length := by
    have e := congrArg List.length hd
    rw [List.length_drop, List.length_append] at e
    exact e
  have hsz : s.data.toList.length = s.size := rfl
  constructor
  · unfold rsN
    rw [read_var t a s.size _ h (by omega)]
    show (if 20000 < s.size ∨ t.size - (a + (varB s.size).length) < s.size then _ else _) = _
    rw [if_neg (by omega)]
    refine Prod.ext ?_ rfl
    show t.extract _ _ = s
    apply ByteArray.ext
    apply Array.toList_inj.1
    have e : (t.extract (a + (varB s.size).length) (a + (varB s.size).length + s.size)).data.toList = (t.data.toList.drop (a + (varB s.size).length)).take (a + (varB s.size).length + s.size - (a + (varB s.size).length)) := by rw [ByteArray.data_extract]; simp
    rw [e, hd, show a + (varB s.size).length + s.size - (a + (varB s.size).length) = s.data.toList.length by omega, List.take_left]
  · rw [← List.drop_drop, hd, ← hsz, List.drop_left]
/-- What is written of a right thing is taken in so. -/
theorem inX_thT {x : Th} (h : ThOk x) : inX (thT x) = x := by
  obtain ⟨i1, i2, k1, k2, n1, n2, _, _, hv3, hv2⟩ := h
  have hvz : x.val.size ≤ 100 := by
    by_cases e : x.kind = 3
    · exact hv3 e
    · have := hv2 e; omega
  have hf := fl_lt x
  have h0 : (thT x).data.toList.drop 0 = varB x.id.toNat ++ (byteOf x.kind.toNat :: byteOf (fl x) :: (varB x.val.size ++ (x.val.data.toList ++ varB x.nxt.toNat))) := rfl
  obtain ⟨e1, h1⟩ := rvN_at h0 (by omega)
  have e2 := byA9_at h1
  have h2 : (thT x).data.toList.drop (0 + (varB x.id.toNat).length + 1) = byteOf (fl x) :: (varB x.val.size ++ (x.val.data.toList ++ varB x.nxt.toNat)) := by rw [← List.drop_drop, h1]; rfl
  have e3 := byA9_at h2
  have h3 : (thT x).data.toList.drop (0 + (varB x.id.toNat).length + 2) = varB x.val.size ++ (x.val.data.toList ++ varB x.nxt.toNat) := by
    rw [show 0 + (varB x.id.toNat).length + 2 = 0 + (varB x.id.toNat).length + 1 + 1 by omega, ← List.drop_drop, h2]; rfl
  obtain ⟨e4, h4⟩ := rsN_at h3 (by omega)
  have h4' : (thT x).data.toList.drop (0 + (varB x.id.toNat).length + 2 + (varB x.val.size).length + x.val.size) = varB x.nxt.toNat ++ [] := by rw [List.append_nil]; exact h4
  obtain ⟨e5, _⟩ := rvN_at h4' (by omega)
  have hsz : ¬ (thT x).size < 0 + (varB x.id.toNat).length + 2 := by
    have e := congrArg List.length h0
    rw [List.length_drop] at e
    have : (thT x).data.toList.length = (thT x).size := rfl
    simp only [List.length_append, List.length_cons] at e
    omega
  have hkb : (byteOf x.kind.toNat).toNat = x.kind.toNat := byteOf_toNat (by omega)
  have hfb : (byteOf (fl x)).toNat = fl x := byteOf_toNat (by omega)
  unfold inX
  simp only [e1]
  rw [if_neg hsz]
  simp only [e2, e3, e4, e5, hkb, hfb]
  obtain ⟨b1, b2, b3, b4⟩ := fl_bits x
  rw [b1, b2, b3, b4]
  have hi : ((x.id.toNat : Nat) : Int) = x.id := by omega
  have hk : ((x.kind.toNat : Nat) : Int) = x.kind := by omega
  have hn : ((x.nxt.toNat : Nat) : Int) = x.nxt := by omega
  rw [hi, hk, hn]
theorem in_rd (t : ByteArray) : (thOk (inX t) = true ∧ thT (inX t) = t → rdOk t = true ∧ rdTh t = inX t) ∧ (¬ (thOk (inX t) = true ∧ thT (inX t) = t) → rdOk t = false ∧ rdTh t = thZ) := by
  constructor
  · rintro ⟨h1, h2⟩
    have h := rd_thT h1
    rw [h2] at h
    exact h
  · intro h
    have hn : rdOk t = false := by
      cases e : rdOk t with
      | false => rfl
      | true =>
        obtain ⟨h1, h2⟩ := rd_right e
        exfalso
        apply h
        have h3 := inX_thT ((thOk_iff _).1 h1)
        rw [h2] at h3
        rw [h3]
        exact ⟨h1, h2⟩
    exact ⟨hn, rdTh_no hn⟩
theorem has_bit (f : Nat) (hf : f < 256) : (bits .and .u8 (f : Int) 1 == 0) = !decide (f % 2 = 1) ∧ (bits .and .u8 (f : Int) 2 == 0) = !decide (f / 2 % 2 = 1) ∧ (bits .and .u8 (f : Int) 4 == 0) = !decide (f / 4 % 2 = 1) ∧ (bits .and .u8 (f : Int) 8 == 0) = !decide (f / 8 % 2 = 1) := by
  have h : ∀ f : Nat, f < 256 → (bits .and .u8 (f : Int) 1 == 0) = !decide (f % 2 = 1) ∧ (bits .and .u8 (f : Int) 2 == 0) = !decide (f / 2 % 2 = 1) ∧ (bits .and .u8 (f : Int) 4 == 0) = !decide (f / 4 % 2 = 1) ∧ (bits .and .u8 (f : Int) 8 == 0) = !decide (f / 8 % 2 = 1) := by decide +kernel
  exact h f hf
set_option maxRecDepth 20000 in
theorem has_any (f n : Int) (r : Bool) (h : (bits .and .u8 f n == 0) = !r) (w : World) :
    Calls Try.prog 106 #[.int .u8 f, .int .u8 n] w fun e w' => e = .returned (.bool r) ∧ w' = w := by
  generalize hb : bits .and .u8 f n = b at *
  have h' : (!(b == 0)) = r := by rw [h]; simp
  go_enter Try.func106, Try.ntmps106
  go_wp2
  go_ret
  exact ⟨by rw [← h']; rfl, rfl⟩
theorem readV_any (t : ByteArray) (ht : t.size ≤ 1048576) (p : Nat) (hp : p ≤ t.size) (w : World) :
    Calls Try.prog 60 #[.string t, .int .i64 (p : Int)] w fun e w' => (∃ b : Bool, e = .returned (.tuple #[.int .i64 ((rvN t p).1 : Int), .int .i64 ((rvN t p).2 : Int), .bool b])) ∧ w' = w := by
  refine (implReadVar_yes t p w (by unfold maxLen; omega) hp).mono ?_
  rintro e w1 ⟨rfl, rfl⟩
  refine ⟨?_, rfl⟩
  unfold rvN
  cases rvRun t p p 1 0 with
  | none => exact ⟨false, rfl⟩
  | some x => exact ⟨true, rfl⟩
theorem readS_any (t : ByteArray) (ht : t.size ≤ 1048576) (p : Nat) (hp : p ≤ t.size) (w : World) :
    Calls Try.prog 105 #[.string t, .int .i64 (p : Int)] w fun e w' => (∃ b : Bool, e = .returned (.tuple #[.string (rsN t p).1, .int .i64 ((rsN t p).2 : Int), .bool b])) ∧ Below w.heap.size w w' := by
  have C : ∀ W, Calls Try.prog 60 #[.string t, .int .i64 (p : Int)] W fun e w' => e = .returned (rvTup (rvRun t p p 1 0)) ∧ Below W.heap.size W w' := fun W => by
    refine (implReadVar_yes t p W (by unfold maxLen; omega) hp).mono ?_
    rintro e w1 ⟨rfl, rfl⟩
    exact ⟨rfl, Below.refl _ _⟩
  unfold rsN
  cases hx : rvRun t p p 1 0 with
  | none =>
    rw [hx] at C
    refine (implRS_none t p w (hide C)).mono ?_
    rintro e w1 ⟨rfl, hb⟩
    exact ⟨⟨false, rfl⟩, hb⟩
  | some x =>
    obtain ⟨n, j⟩ := x
    rw [hx] at C
    obtain ⟨hj, hn⟩ := rvRun_some _ _ _ _ _ _ (Nat.le_refl _) hx
    show Calls _ _ _ _ fun e w' => (∃ b : Bool, e = .returned (.tuple #[.string (if 20000 < n ∨ t.size - j < n then ((⟨#[]⟩, 0) : ByteArray × Nat) else (t.extract j (j + n), j + n)).1, .int .i64 (((if 20000 < n ∨ t.size - j < n then ((⟨#[]⟩, 0) : ByteArray × Nat) else (t.extract j (j + n), j + n)).2 : Nat) : Int), .bool b])) ∧ _
    by_cases hb : 20000 < n ∨ t.size - j < n
    · rw [if_pos hb]
      refine (implRS_bad t p n j w (hide C) ht hj hn (by omega)).mono ?_
      rintro e w1 ⟨rfl, hb⟩
      exact ⟨⟨false, rfl⟩, hb⟩
    · rw [if_neg hb]
      refine (implRS_good t p n j w (hide C) ht (by omega) (by omega)).mono ?_
      rintro e w1 ⟨rfl, hb⟩
      exact ⟨⟨true, rfl⟩, hb⟩
set_option maxRecDepth 20000 in
set_option maxHeartbeats 4000000 in
theorem thingIn_any (t : ByteArray) (ht : t.size ≤ 1048576) (w : World) :
    Calls Try.prog 88 #[.string t] w fun e w' => e = .returned (.agg (thC (inX t))) ∧ Below w.heap.size w w' := by
  have CA := hide (fun W => readV_any t ht 0 (Nat.zero_le _) W)
  have LA := (rvN_le t 0 (Nat.zero_le _)).1
  have HE : inX t = if t.size < (rvN t 0).2 + 2 then thZ else ⟨((rvN t 0).1 : Int), (byA9 t (rvN t 0).2 : Int), decide (byA9 t ((rvN t 0).2 + 1) % 2 = 1), decide (byA9 t ((rvN t 0).2 + 1) / 2 % 2 = 1), decide (byA9 t ((rvN t 0).2 + 1) / 4 % 2 = 1), decide (byA9 t ((rvN t 0).2 + 1) / 8 % 2 = 1), (rsN t ((rvN t 0).2 + 2)).1, ((rvN t (rsN t ((rvN t 0).2 + 2)).2).1 : Int)⟩ := rfl
  rw [HE]
  clear HE
  rcases hv : rvN t 0 with ⟨n1, ka⟩
  rw [hv] at CA LA
  simp only at CA LA ⊢
  clear hv
  obtain ⟨va, hva⟩ : ∃ va : Nat, va = ka + 2 := ⟨_, rfl⟩
  have uva : IntKind.i64.wrap ((ka : Int) + 2) = (va : Int) := by rw [IntKind.wrap_i64]; omega
  by_cases hlt : t.size < va
  · rw [if_pos (by omega)]
    have hlt' : (t.size : Int) < (va : Int) := by omega
    go_enter Try.func88, Try.ntmps88
    go_wp2_with fail
    obtain ⟨W, hW, hR, hB, hs1⟩ := one_cb w #[.int .i64 0, .int .i64 0, .bool false, .bool false, .bool false, .bool false, .string ⟨#[]⟩, .int .i64 0] 25
    rw [hW]
    clear hW
    refine (unhide CA W).mono ?_
    rintro e w1 ⟨⟨b, rfl⟩, rfl⟩
    clear CA
    have hR' : CB w1 w.heap.size 25 (thC thZ) := hR
    go_wp2_with (refine wpList_store_row rfl 25 (.tmp 2) (.tmp 26) rfl w.heap.size (thC thZ) rfl rfl 25 (thC thZ) hR' (th_size thZ) rfl (th_one thZ) ?_)
    have hR2 := setRow_heap _ w.heap.size _ (thC thZ) 25 (0, 0) hR'
    have hB2 := Go.below_setRow hB (Nat.le_refl _) (thC thZ)
    exact bodyPost_ret (results_cb (by exact Try.results88) _ _ w.heap.size 25 (thC thZ) _ rfl hR2 Try.underlying25 (th_size thZ)) rfl ⟨rfl, hB2⟩
  · rw [if_neg (by omega), show ka + 2 = va by omega]
    have hlt' : ¬ (t.size : Int) < (va : Int) := by omega
    have CS := hide (fun W => readS_any t ht va (by omega) W)
    have LS := rsN_le t va (by omega)
    rcases hs : rsN t va with ⟨sv, na⟩
    rw [hs] at CS LS
    simp only at CS LS ⊢
    clear hs
    have CN := hide (fun W => readV_any t ht na LS W)
    generalize (rvN t na).1 = n5 at *
    generalize (rvN t na).2 = ea at *
    obtain ⟨fa, hfa⟩ : ∃ fa : Nat, fa = ka + 1 := ⟨_, rfl⟩
    rw [show ka + 1 = fa by omega]
    have ufa : IntKind.i64.wrap ((ka : Int) + 1) = (fa : Int) := by rw [IntKind.wrap_i64]; omega
    have h1 : fa < t.size := by omega
    have h2 : ka < t.size := by omega
    have b1 := byA9_is h1
    have b2 := byA9_is h2
    have l1 : byA9 t fa < 256 := by rw [← b1]; exact UInt8.toNat_lt _
    have l2 : byA9 t ka < 256 := by rw [← b2]; exact UInt8.toNat_lt _
    generalize byA9 t fa = f at *
    generalize byA9 t ka = k at *
    obtain ⟨q1, q2, q4, q8⟩ := has_bit f l1
    have C1 := hide (fun W => has_any (f : Int) 1 _ q1 W)
    have C2 := hide (fun W => has_any (f : Int) 2 _ q2 W)
    have C4 := hide (fun W => has_any (f : Int) 4 _ q4 W)
    have C8 := hide (fun W => has_any (f : Int) 8 _ q8 W)
    clear q1 q2 q4 q8
    generalize decide (f % 2 = 1) = f1 at *
    generalize decide (f / 2 % 2 = 1) = f2 at *
    generalize decide (f / 4 % 2 = 1) = f4 at *
    generalize decide (f / 8 % 2 = 1) = f8 at *
    have g1 : (fa : Int) < (t.size : Int) := by omega
    have g2 : (ka : Int) < (t.size : Int) := by omega
    have hLt : t.size < 9223372036854775807 := by omega
    have uk : IntKind.i64.wrap (k : Int) = (k : Int) := by rw [IntKind.wrap_i64]; omega
    replace hva := hide hva; replace hfa := hide hfa
    go_enter Try.func88, Try.ntmps88
    go_wp2_with fail
    obtain ⟨W, hW, hR, hB, hs1⟩ := one_cb w #[.int .i64 0, .int .i64 0, .bool false, .bool false, .bool false, .bool false, .string ⟨#[]⟩, .int .i64 0] 25
    rw [hW]
    clear hW
    refine (unhide CA W).mono ?_
    rintro e w1 ⟨⟨b, rfl⟩, rfl⟩
    clear CA
    go_wp2_with fail
    refine (unhide CS w1).mono ?_
    rintro e w2 ⟨⟨b', rfl⟩, hb2⟩
    have hB2 := hB.trans (hb2.mono hB.size)
    have hR2 := hR.step hb2
    clear CS hb2 hB hR
    go_wp2_with fail
    refine (unhide CN w2).mono ?_
    rintro e w3 ⟨⟨b'', rfl⟩, rfl⟩
    clear CN
    replace hB2 := hide hB2; replace hR2 := hide hR2
    go_wp2
    --REGION
    have HT0 := (Below.refl w3.heap.size w3).drew
    refine wp_region_held_drew (S := fun _ => True) (by kernel_rfl) trivial (fun hHeld => ?_)
    refine wpAnyH_take (i := 0) (v := .int .i64 (n1 : Int)) rfl (by kernel_rfl) (by kernel_rfl) (by kernel_rfl) (fun _ _ _ h => h) (Or.inl ⟨by kernel_rfl, fun W hS => by go_simp⟩) hHeld ?_
    refine wpAnyH_take (i := 1) (v := .string t) rfl (by kernel_rfl) (by kernel_rfl) (by kernel_rfl) (fun _ _ _ h => h) (Or.inl ⟨by kernel_rfl, fun W hS => by go_simp⟩) hHeld ?_
    refine wpAnyH_take (i := 2) (v := .int .i64 (ka : Int)) rfl (by kernel_rfl) (by kernel_rfl) (by kernel_rfl) (fun _ _ _ h => h) (Or.inl ⟨by kernel_rfl, fun W hS => by go_simp⟩) hHeld ?_
    refine wpAnyH_take (i := 3) (v := .int .u8 (k : Int)) rfl (by kernel_rfl) (by kernel_rfl) (by kernel_rfl) (fun _ _ _ h => h) (Or.inl ⟨by kernel_rfl, fun W hS => by go_simp⟩) hHeld ?_
    refine wpAnyH_take (i := 4) (v := .int .i64 (k : Int)) rfl (by kernel_rfl) (by kernel_rfl) (by kernel_rfl) (fun _ _ _ h => h) (Or.inl ⟨by kernel_rfl, fun W hS => by go_simp⟩) hHeld ?_
    refine wpAnyH_take (i := 5) (v := .int .u8 (f : Int)) rfl (by kernel_rfl) (by kernel_rfl) (by kernel_rfl) (fun _ _ _ h => h) (Or.inl ⟨by kernel_rfl, fun W hS => by go_simp⟩) hHeld ?_
    refine wpAnyH_take (i := 7) (v := .int .u8 (f : Int)) rfl (by kernel_rfl) (by kernel_rfl) (by kernel_rfl) (fun _ _ _ h => h) (Or.inl ⟨by kernel_rfl, fun W hS => by go_simp⟩) hHeld ?_
    refine wpAnyH_take (i := 9) (v := .int .u8 (f : Int)) rfl (by kernel_rfl) (by kernel_rfl) (by kernel_rfl) (fun _ _ _ h => h) (Or.inl ⟨by kernel_rfl, fun W hS => by go_simp⟩) hHeld ?_
    refine wpAnyH_take (i := 11) (v := .int .u8 (f : Int)) rfl (by kernel_rfl) (by kernel_rfl) (by kernel_rfl) (fun _ _ _ h => h) (Or.inl ⟨by kernel_rfl, fun W hS => by go_simp⟩) hHeld ?_
    refine wpAnyH_take (i := 13) (v := .string sv) rfl (by kernel_rfl) (by kernel_rfl) (by kernel_rfl) (fun _ _ _ h => h) (Or.inl ⟨by kernel_rfl, fun W hS => by go_simp⟩) hHeld ?_
    refine wpAnyH_take (i := 14) (v := .int .i64 (n5 : Int)) rfl (by kernel_rfl) (by kernel_rfl) (by kernel_rfl) (fun _ _ _ h => h) (Or.inl ⟨by kernel_rfl, fun W hS => by go_simp⟩) hHeld ?_
    refine wpAnyH_ready (rs := [6]) (by kernel_rfl) (by simp) ?_
    refine AllReadyH.cons rfl (fun K hK => ?_) AllReadyH.nil
    go_simp
    refine (unhide C1 _).mono ?_
    rintro e x0 ⟨rfl, hx0⟩
    subst hx0
    refine hK.out _ _ trivial (fun hHeld => ?_)
    clear hK K C1
    refine wpAnyH_ready (rs := [8]) (by kernel_rfl) (by simp) ?_
    refine AllReadyH.cons rfl (fun K hK => ?_) AllReadyH.nil
    go_simp
    refine (unhide C2 _).mono ?_
    rintro e x1 ⟨rfl, hx1⟩
    subst hx1
    refine hK.out _ _ trivial (fun hHeld => ?_)
    clear hK K C2
    refine wpAnyH_ready (rs := [10]) (by kernel_rfl) (by simp) ?_
    refine AllReadyH.cons rfl (fun K hK => ?_) AllReadyH.nil
    go_simp
    refine (unhide C4 _).mono ?_
    rintro e x2 ⟨rfl, hx2⟩
    subst hx2
    refine hK.out _ _ trivial (fun hHeld => ?_)
    clear hK K C4
    refine wpAnyH_ready (rs := [12]) (by kernel_rfl) (by simp) ?_
    refine AllReadyH.cons rfl (fun K hK => ?_) AllReadyH.nil
    go_simp
    refine (unhide C8 _).mono ?_
    rintro e x3 ⟨rfl, hx3⟩
    subst hx3
    refine hK.out _ _ trivial (fun hHeld => ?_)
    clear hK K C8
    refine wpAnyH_take (i := 15) (v := .agg #[.int .i64 (n1 : Int), .int .i64 (k : Int), .bool f1, .bool f2, .bool f4, .bool f8, .string sv, .int .i64 (n5 : Int)]) rfl (by kernel_rfl) (by kernel_rfl) (by kernel_rfl) (fun _ _ _ h => h) (Or.inl ⟨by kernel_rfl, fun W hS => by go_simp⟩) hHeld ?_
    have hR4 := unhide hR2
    have r0 := hR4.cell 0 (v := .int .i64 0) rfl
    have z0 := hR4.frozen 0
    have r1 := hR4.cell 1 (v := .int .i64 0) rfl
    have z1 := hR4.frozen 1
    have r2 := hR4.cell 2 (v := .bool false) rfl
    have z2 := hR4.frozen 2
    have r3 := hR4.cell 3 (v := .bool false) rfl
    have z3 := hR4.frozen 3
    have r4 := hR4.cell 4 (v := .bool false) rfl
    have z4 := hR4.frozen 4
    have r5 := hR4.cell 5 (v := .bool false) rfl
    have z5 := hR4.frozen 5
    have r6 := hR4.cell 6 (v := .string ⟨#[]⟩) rfl
    have z6 := hR4.frozen 6
    have r7 := hR4.cell 7 (v := .int .i64 0) rfl
    have z7 := hR4.frozen 7
    have G9 := (gSet99 (gSet99 (gSet99 (gSet99 (gSet99 (gSet99 (gSet99 (gSet99 (gR99 w3 (some w.heap.size)) 0 (.int .i64 (n1 : Int))) 1 (.int .i64 (k : Int))) 2 (.bool f1)) 3 (.bool f2)) 4 (.bool f4)) 5 (.bool f8)) 6 (.string sv)) 7 (.int .i64 (n5 : Int)))
    refine wpAnyH_ready (rs := [16]) (by kernel_rfl) (by simp) ?_
    refine AllReadyH.cons rfl (fun K hK => ?_) AllReadyH.nil
    go_simp
    refine hK.out _ _ trivial (fun hHeld => ?_)
    clear hK K r0 r1 r2 r3 r4 r5 r6 r7 z0 z1 z2 z3 z4 z5 z6 z7
    refine wpAnyH_done (by kernel_rfl) ?_ _
    try simp only [Act.put, List.getElem_toArray, List.getElem_cons_zero, List.getElem_cons_succ, List.setIfInBounds_toArray, List.set_cons_zero, List.set_cons_succ]
    have hF := hide ((((((((hR4.set 0 (.int .i64 (n1 : Int))).set 1 (.int .i64 (k : Int))).set 2 (.bool f1)).set 3 (.bool f2)).set 4 (.bool f4)).set 5 (.bool f8)).set 6 (.string sv)).set 7 (.int .i64 (n5 : Int)))
    have T5 := unhide hB2
    have T9 := hide ((T5.grown G9 T5.size (fun k hk => by cases hk; exact Nat.le_refl _)).drew)
    clear HT0 hR4 G9 T5 hR2 hB2
    go_wp2
    have hX := cb_eq99 (cs' := thC ⟨(n1 : Int), (k : Int), f1, f2, f4, f8, sv, (n5 : Int)⟩) (cb_drew9 (unhide hF)) rfl
    have T10 := unhide T9
    clear hF T9
    revert hX T10
    generalize World.drew _ = WW
    intro hX T10
    have hsz := th_size ⟨(n1 : Int), (k : Int), f1, f2, f4, f8, sv, (n5 : Int)⟩
    generalize thC ⟨(n1 : Int), (k : Int), f1, f2, f4, f8, sv, (n5 : Int)⟩ = cc at *
    exact bodyPost_ret (results_cb (by exact Try.results88) _ _ w.heap.size 25 cc _ rfl hX Try.underlying25 hsz) rfl ⟨rfl, T10⟩
    --ENDR
end Go.Proofs.Ytkbbcjnickgfjaa

/- The project's things: a text is read, over the loaded program. -/
namespace Go.Proofs.Ytkbbcjnickgfjaa
open Go.RowKit
set_option maxRecDepth 20000 in
set_option maxHeartbeats 4000000 in
theorem implReadThing_any (t : ByteArray) (ht : t.size ≤ 1048576) (w : World) :
    Calls Try.prog 61 #[.string t] w fun e w' => e = .returned (.tuple #[.agg (thC (rdTh t)), .bool (rdOk t)]) ∧ Below w.heap.size w w' := by
  have CI := hide (fun W => thingIn_any t ht W)
  have CT := hide (fun W => implThingText_any (inX t) W)
  obtain ⟨HY, HN⟩ := in_rd t
  have hTT : ttB (inX t) = if thOk (inX t) = true then thT (inX t) else ⟨#[]⟩ := rfl
  generalize inX t = x at *
  generalize rdOk t = fin at *
  generalize rdTh t = y at *
  generalize hok : thOk x = ok at *
  generalize ttB x = tb at *
  have hsx := th_size x
  have hox := th_one x
  have hsz := th_size thZ
  have hoz := th_one thZ
  go_enter Try.func61, Try.ntmps61
  go_wp2_with fail
  obtain ⟨W, hW, hR, hB, hs1⟩ := one_cb w #[.int .i64 0, .int .i64 0, .bool false, .bool false, .bool false, .bool false, .string ⟨#[]⟩, .int .i64 0] 25
  rw [hW]
  clear hW
  have hR' : CB W w.heap.size 25 (thC thZ) := hR
  clear hR
  refine (unhide CI W).mono ?_
  rintro e w1 ⟨rfl, hb1⟩
  have hB1 := hB.trans (hb1.mono hB.size)
  have hR1 := hR'.step hb1
  have hl1 : w.heap.size < w1.heap.size := hR1.lt
  clear CI hb1 hB hR' hs1
  have hZ : CB (w1.alloc (.cells #[.int .i64 0, .int .i64 0, .bool false, .bool false, .bool false, .bool false, .string ⟨#[]⟩, .int .i64 0] 25)) w1.heap.size 25 (thC thZ) := CB.new w1 _ _
  have hR2 := hR1.alloc (.cells #[.int .i64 0, .int .i64 0, .bool false, .bool false, .bool false, .bool false, .string ⟨#[]⟩, .int .i64 0] 25)
  have hB2 := hB1.alloc hB1.size (.cells #[.int .i64 0, .int .i64 0, .bool false, .bool false, .bool false, .bool false, .string ⟨#[]⟩, .int .i64 0] 25)
  have hX3 := setRow_heap _ w1.heap.size _ (thC x) 25 (0, 0) hZ
  have hB3 := Go.below_setRow hB2 (show w.heap.size ≤ w1.heap.size by omega) (thC x)
  have hR3 : CB ((w1.alloc (.cells #[.int .i64 0, .int .i64 0, .bool false, .bool false, .bool false, .bool false, .string ⟨#[]⟩, .int .i64 0] 25)).setRow w1.heap.size (thC x)) w.heap.size 25 (thC thZ) := (setRow_other _ w1.heap.size w.heap.size _ (by omega)).trans hR2
  have hX3' : CB ((w1.alloc (.cells #[.int .i64 0, .int .i64 0, .bool false, .bool false, .bool false, .bool false, .string ⟨#[]⟩, .int .i64 0] 25)).setRow w1.heap.size (thC x)) w1.heap.size 25 (thC x) := hX3
  clear hR2 hB2 hR1 hB1
  replace hZ := hide hZ; replace hX3' := hide hX3'; replace hR3 := hide hR3; replace hB3 := hide hB3
  clear hX3
  go_wp2_with (first
    | (refine wpList_store_row rfl 25 (.tmp 4) (.tmp 8) rfl w1.heap.size (thC x) rfl rfl 25 (thC thZ) (unhide hZ) hsx rfl hox ?_)
    | (refine wpList_load_row rfl 25 (.tmp 4) rfl w1.heap.size rfl 25 (thC x) (0, 0) _ (unhide hX3') Try.underlying25 rfl hsx ?_))
  refine (unhide CT _).mono ?_
  rintro e w4 ⟨rfl, hb4⟩
  have hB4 := (unhide hB3).trans (hb4.mono (unhide hB3).size)
  have hR4 := (unhide hR3).step hb4
  have hX4 := hide ((unhide hX3').step hb4)
  clear CT hb4 hB3 hR3 hX3'
  cases ok with
  | false =>
    obtain ⟨rfl, rfl⟩ := HN (by simp)
    clear HY HN hTT hok
    go_wp2_with (refine wpList_store_row rfl 25 (.tmp 2) (.tmp 21) rfl w.heap.size (thC thZ) rfl rfl 25 (thC thZ) hR4 hsz rfl hoz ?_)
    have hR5 := setRow_heap _ w.heap.size _ (thC thZ) 25 (0, 0) hR4
    have hB5 := Go.below_setRow hB4 (Nat.le_refl _) (thC thZ)
    exact bodyPost_ret (results_cb_tmp (by exact Try.results61) _ _ w.heap.size 25 (thC thZ) _ rfl hR5 Try.underlying25 hsz) rfl ⟨rfl, hB5⟩
  | true =>
    rw [if_pos rfl] at hTT
    by_cases he : tb = t
    · obtain ⟨rfl, rfl⟩ := HY ⟨rfl, by rw [← hTT]; exact he⟩
      have he' : (tb.toList == t.toList) = true := by rw [he]; exact beq_self_eq_true _
      replace he := hide he
      replace hTT := hide hTT
      replace hok := hide hok
      clear HY HN
      go_wp2_with (first
        | (refine wpList_load_row rfl 25 (.tmp 4) rfl w1.heap.size rfl 25 (thC y) (0, 0) _ (unhide hX4) Try.underlying25 rfl hsx ?_)
        | (refine wpList_store_row rfl 25 (.tmp 2) (.tmp 22) rfl w.heap.size (thC y) rfl rfl 25 (thC thZ) hR4 hsx rfl hox ?_))
      have hR5 := setRow_heap _ w.heap.size _ (thC y) 25 (0, 0) hR4
      have hB5 := Go.below_setRow hB4 (Nat.le_refl _) (thC y)
      exact bodyPost_ret (results_cb_tmp (by exact Try.results61) _ _ w.heap.size 25 (thC y) _ rfl hR5 Try.underlying25 hsx) rfl ⟨rfl, hB5⟩
    · obtain ⟨rfl, rfl⟩ := HN (fun h => he (hTT.trans h.2))
      have he' : (tb.toList == t.toList) = false := neStr9 he
      replace he := hide he
      replace hTT := hide hTT
      replace hok := hide hok
      clear HY HN
      go_wp2_with (refine wpList_store_row rfl 25 (.tmp 2) (.tmp 21) rfl w.heap.size (thC thZ) rfl rfl 25 (thC thZ) hR4 hsz rfl hoz ?_)
      have hR5 := setRow_heap _ w.heap.size _ (thC thZ) 25 (0, 0) hR4
      have hB5 := Go.below_setRow hB4 (Nat.le_refl _) (thC thZ)
      exact bodyPost_ret (results_cb_tmp (by exact Try.results61) _ _ w.heap.size 25 (thC thZ) _ rfl hR5 Try.underlying25 hsz) rfl ⟨rfl, hB5⟩
end Go.Proofs.Ytkbbcjnickgfjaa

/- Laws of no program: stores of several cells as steps of a region that draws its order. -/
namespace Go.Proofs.Ytkbbcjnickgfjaa
open Go.RowKit
theorem putC_all (l vs : List Value) (h : l.length = vs.length) : putC l vs 0 = vs := by
  unfold putC
  rw [List.take_zero, List.nil_append, Nat.zero_add, List.drop_of_length_le (by omega), List.append_nil]
/-- Several cells stored into the midst of a variable. -/
theorem wp_store_cb {P : Program} {o : Oper} {a : Act} {w : World} {K : Act → World → Prop} {Q : Exit → Act → World → Prop} (ty : TypeId) (p z : Operand) (ho : o.op = .store ty p z)
    {g f : Nat} {T : TypeId} {cs : Array Value} (vs : List Value) (hx : a.eval p = .pointer (some ⟨g, f, none⟩)) (hy : a.eval z = .agg vs.toArray) (hA : CB w g T cs) (hm : f + vs.length ≤ cs.size) (h1 : ∀ v ∈ vs, v.oneCell' = true) (hi : (P.info? ty).map (·.size) = some vs.length)
    (h : K (a.put o.dst undef) (w.setRow g (putC cs.toList vs f).toArray)) : o.wp P a w K Q := by
  have hst := run_storeCells_at P g f T vs 0 cs w hA (by omega) h1
  rw [show f + 0 = f from rfl, show cs.toList.take f ++ vs ++ cs.toList.drop (f + vs.length) = putC cs.toList vs f from rfl] at hst
  unfold Oper.wp execOp
  cases hq : P.info? ty with
  | none => simp [hq] at hi
  | some i =>
    have hs : i.size = vs.length := by simpa [hq] using hi
    have hst' : (storeVar ty ⟨g, f, none⟩ (.agg vs.toArray)).run P w = .ok () (w.setRow g (putC cs.toList vs f).toArray) := by
      simp [storeVar, sizeOf, typeInfo, hq, Value.cells, hs, hst]
    simp only [ho, hx, hy, Instr.storeAt, Instr.sureAddr, Sem.run_bind, Sem.run_pure, Result.andThen_ok, hst']
    exact h
theorem step_store_all {P : Program} {W : World} {ops : Array Oper} {o : Oper} {a : Act} {K : Act → World → Prop} {Q : Exit → Act → World → Prop} {E : Prop} (hg : o.guard = none) (ty : TypeId) (p z : Operand) (ho : o.op = .store ty p z)
    {g : Nat} {T : TypeId} {cs : Array Value} (cs' : Array Value) (hx : a.eval p = .pointer (some ⟨g, 0, none⟩)) (hy : a.eval z = .agg cs') (hA : CB W g T cs) (hs : cs.size = cs'.size) (h1 : cs'.all (·.oneCell') = true) (hi : (P.info? ty).map (·.size) = some cs'.size)
    (h : K (a.put o.dst undef) (W.setRow g cs')) : if Region.wanted o (yielded ops a.tmps) = true then Oper.wp P o a W K Q else E := by
  have hw : Region.wanted o (yielded ops a.tmps) = true := by simp [Region.wanted, hg]
  rw [if_pos hw]
  refine wp_store_cb ty p z ho (f := 0) cs'.toList hx (by rw [hy]) hA (by rw [Array.length_toList]; omega) (fun v hv => ?_) (by rw [hi, Array.length_toList]) ?_
  · exact Array.all_eq_true_iff_forall_mem.1 h1 v (Array.mem_toList_iff.1 hv)
  · rw [putC_all _ _ (by rw [Array.length_toList, Array.length_toList]; exact hs)]
    exact h
section
variable {α : Type} {L : Lay α}
theorem step_store_n {P : Program} {w : World} {ops : Array Oper} {o : Oper} {a : Act} {K : Act → World → Prop} {Q : Exit → Act → World → Prop} {E : Prop} (hgd : o.guard = none) (ty : TypeId) (p z : Operand) (ho : o.op = .store ty p z)
    {base g n c k : Nat} {e : TypeId} {xs : List α} (hx : a.eval p = .pointer (some ⟨g, k * L.m, none⟩)) (y : α) (hy : a.eval z = .agg (L.c y).toArray) (hown : OwnN L w base e (.slice (some ⟨g, 0, none⟩) n c) xs) (hk : k < n) (hi : (P.info? ty).map (·.size) = some L.m)
    (h : ∀ w', OwnN L w' base e (.slice (some ⟨g, 0, none⟩) n c) (xs.set k y) → w.grownBy w' (some g) → w'.heap.size = w.heap.size → K (a.put o.dst undef) w') : if Region.wanted o (yielded ops a.tmps) = true then Oper.wp P o a w K Q else E := by
  have hw : Region.wanted o (yielded ops a.tmps) = true := by simp [Region.wanted, hgd]
  rw [if_pos hw]
  obtain ⟨cur, h2, hle, h3⟩ := ownsRow_put hown hk y
  have hG : w.grownBy (w.setRow g (putC cur.toList (L.c y) (k * L.m)).toArray) (some g) := by
    refine ⟨rfl, rfl, rfl, ?_, fun j hj hne => Go.setRow_other w g j _ (fun e => hne (by rw [e]))⟩
    have := Go.setRow_size w g (putC cur.toList (L.c y) (k * L.m)).toArray
    omega
  have hS : (w.setRow g (putC cur.toList (L.c y) (k * L.m)).toArray).heap.size = w.heap.size := Go.setRow_size w g _
  exact wp_store_cb ty p z ho (L.c y) hx hy h2 (by rw [L.len]; exact hle) (fun v hv => L.one y v hv) (by rw [hi, L.len]) (h _ h3 hG hS)
end
end Go.Proofs.Ytkbbcjnickgfjaa

