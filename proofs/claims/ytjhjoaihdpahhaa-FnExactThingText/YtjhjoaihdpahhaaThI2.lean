/- The project's things: their texts, over the loaded program. -/
import Derived.Test.YtjhjoaihdpahhaaThI1
namespace Go.Proofs.Ytjhjoaihdpahhaa
open Go.RowKit
set_option maxRecDepth 20000 in
set_option maxHeartbeats 400000 in
theorem implShort9_any (s : ByteArray) (hs : s.size ≤ 400) (w : World) :
    Calls Try.prog 22 #[.string s] w fun e w' => e = .returned (.tuple #[.string (shB s), .bool true]) ∧ Below w.heap.size w w' := by
  have CV := hide (fun W => implVar_yes s.size W (by omega))
  have hz : (⟨(varB s.size).toArray⟩ : ByteArray).size ≤ 3 := by
    show (varB s.size).toArray.size ≤ 3
    rw [List.size_toArray]; exact varB_len9 (by omega)
  have h1 : ¬ (20000 : Int) < (s.size : Int) := by omega
  unfold shB
  generalize (⟨(varB s.size).toArray⟩ : ByteArray) = vt at *
  have h2 : ¬ 9223372036854775807 < vt.size + s.size := by omega
  have h3 : vt.size + s.size ≤ 9223372036854775807 := by omega
  go_enter Try.func22, Try.ntmps22
  go_wp2_with fail
  refine (unhide CV w).mono ?_
  rintro e w1 ⟨rfl, hb1⟩
  clear CV
  go_wp2
  refine bodyPost_ret (v := .tuple #[.string (vt ++ s), .bool true]) (by simp [results, Try.results22, go_sem]) rfl ⟨rfl, hb1⟩
set_option maxRecDepth 20000 in
set_option maxHeartbeats 4000000 in
theorem implThingText_any (x : Th) (w : World) :
    Calls Try.prog 11 #[.agg (thC x)] w fun e w' => e = .returned (.tuple #[.string (ttB x), .bool (thOk x)]) ∧ Below w.heap.size w w' := by
  have CO := hide (fun W => implThingOk_any x W)
  cases hok : thOk x with
  | false =>
    have E : ttB x = ⟨#[]⟩ := by unfold ttB; rw [if_neg (by rw [hok]; simp)]
    rw [E]
    rw [hok] at CO
    clear hok E
    obtain ⟨id, kind, hid, fix, sgn, wrp, val, nxt⟩ := x
    unfold thC at CO ⊢
    obtain ⟨W, hW, hC, hb, hlt⟩ := one_cb w #[.int .i64 id, .int .i64 kind, .bool hid, .bool fix, .bool sgn, .bool wrp, .string val, .int .i64 nxt] 26
    have c0 := hC.cell 0 rfl
    have c1 := hC.cell 1 rfl
    have c2 := hC.cell 2 rfl
    have c3 := hC.cell 3 rfl
    have c4 := hC.cell 4 rfl
    have c5 := hC.cell 5 rfl
    have c6 := hC.cell 6 rfl
    have c7 := hC.cell 7 rfl
    clear hC
    go_enter Try.func11, Try.ntmps11
    go_wp2_with fail
    refine (unhide CO W).mono ?_
    rintro e w1 ⟨rfl, hb1⟩
    have hT := hb.trans (hb1.mono hb.size)
    clear c0 c1 c2 c3 c4 c5 c6 c7
    go_wp2
    go_ret2
    exact ⟨rfl, hT⟩
  | true =>
    have E : ttB x = thT x := by unfold ttB; rw [if_pos hok]
    have hO := (thOk_iff x).1 hok
    rw [E, thT_is hO]
    rw [hok] at CO
    have hvz : x.val.size ≤ 100 := by
      obtain ⟨i1, i2, k1, k2, n1, n2, _, _, hv3, hv2⟩ := hO
      by_cases e : x.kind = 3
      · exact hv3 e
      · have := hv2 e; omega
    have hi0 : x.id = ((x.id.toNat : Nat) : Int) := by omega
    have hn0 : x.nxt = ((x.nxt.toNat : Nat) : Int) := by omega
    have V1 := hide (fun W => implVar_yes x.id.toNat W (by omega))
    have V2 := hide (fun W => implVar_yes x.nxt.toNat W (by omega))
    have CS := hide (fun W => implShort9_any x.val (by omega) W)
    have CF := hide (fun W => flags_any x W)
    have z1 : (⟨(varB x.id.toNat).toArray⟩ : ByteArray).size ≤ 3 := by
      show (varB x.id.toNat).toArray.size ≤ 3
      rw [List.size_toArray]; exact varB_len9 (by omega)
    have z2 : (⟨(varB x.nxt.toNat).toArray⟩ : ByteArray).size ≤ 3 := by
      show (varB x.nxt.toNat).toArray.size ≤ 3
      rw [List.size_toArray]; exact varB_len9 (by omega)
    have z3 : (shB x.val).size ≤ 200 := by
      have : (⟨(varB x.val.size).toArray⟩ : ByteArray).size ≤ 3 := by
        show (varB x.val.size).toArray.size ≤ 3
        rw [List.size_toArray]; exact varB_len9 (by omega)
      unfold shB
      rw [ByteArray.size_append]; omega
    have hfl := fl_lt x
    rw [← hi0] at V1
    rw [← hn0] at V2
    obtain ⟨F, hF⟩ : ∃ F : Int, F = ((fl x : Nat) : Int) := ⟨_, rfl⟩
    rw [← hF] at CF ⊢
    have hF0 : 0 ≤ F := by omega
    have hF1 : F ≤ 15 := by omega
    have y1 := hide (fun W => implByteY9_any x.kind W)
    have y2 := hide (fun W => implByteY9_any F W)
    have zk : (oneY x.kind).size ≤ 1 := by rw [oneY_size9]; omega
    have zg : (oneY F).size ≤ 1 := by rw [oneY_size9]; omega
    clear hok E hO hvz hi0 hn0 hfl hF
    obtain ⟨id, kind, hid, fix, sgn, wrp, val, nxt⟩ := x
    unfold thC at CO CF ⊢
    simp only at V1 V2 CS z1 z2 z3 zk y1 ⊢
    generalize (⟨(varB id.toNat).toArray⟩ : ByteArray) = t1 at *
    generalize (⟨(varB nxt.toNat).toArray⟩ : ByteArray) = t2 at *
    generalize shB val = t3 at *
    obtain ⟨R, hR⟩ : ∃ R, R = t1 ++ oneY kind ++ oneY F ++ t3 ++ t2 := ⟨_, rfl⟩
    rw [← hR]
    generalize oneY kind = yk at *
    generalize oneY F = yg at *
    have u0 : IntKind.i64.wrap F = F := by rw [IntKind.wrap_i64]; omega
    have s1 : ∀ W : World, (Op.stringOp .add t1 yk).run Try.prog W = .ok (.string (t1 ++ yk)) W := fun W => run_string_add_sum W _ _ (by omega)
    have s2 : ∀ W : World, (Op.stringOp .add (t1 ++ yk) yg).run Try.prog W = .ok (.string (t1 ++ yk ++ yg)) W := fun W => run_string_add_sum W _ _ (by rw [ByteArray.size_append]; omega)
    have s3 : ∀ W : World, (Op.stringOp .add (t1 ++ yk ++ yg) t3).run Try.prog W = .ok (.string (t1 ++ yk ++ yg ++ t3)) W := fun W => run_string_add_sum W _ _ (by rw [ByteArray.size_append, ByteArray.size_append]; omega)
    have s4 : ∀ W : World, (Op.stringOp .add (t1 ++ yk ++ yg ++ t3) t2).run Try.prog W = .ok (.string (t1 ++ yk ++ yg ++ t3 ++ t2)) W := fun W => run_string_add_sum W _ _ (by rw [ByteArray.size_append, ByteArray.size_append, ByteArray.size_append]; omega)
    replace zk := hide zk; replace zg := hide zg; replace hR := hide hR; replace hF0 := hide hF0; replace hF1 := hide hF1; replace z1 := hide z1; replace z2 := hide z2; replace z3 := hide z3
    obtain ⟨W, hW, hC, hb, hlt⟩ := one_cb w #[.int .i64 id, .int .i64 kind, .bool hid, .bool fix, .bool sgn, .bool wrp, .string val, .int .i64 nxt] 26
    have c0 := hC.cell 0 rfl
    have c1 := hC.cell 1 rfl
    have c2 := hC.cell 2 rfl
    have c3 := hC.cell 3 rfl
    have c4 := hC.cell 4 rfl
    have c5 := hC.cell 5 rfl
    have c6 := hC.cell 6 rfl
    have c7 := hC.cell 7 rfl
    go_enter Try.func11, Try.ntmps11
    go_wp2_with fail
    refine (unhide CO W).mono ?_
    rintro e w1 ⟨rfl, hb1⟩
    have hT1 := hb.trans (hb1.mono hb.size)
    have hC1 := hC.step hb1
    have d0 := hC1.cell 0 rfl
    clear c0 c1 c2 c3 c4 c5 c6 c7 hC hb1 hb CO
    go_wp2_with fail
    refine (unhide V1 w1).mono ?_
    rintro e w2 ⟨rfl, hb2⟩
    have hT2 := hT1.trans (hb2.mono hT1.size)
    have hC2 := hC1.step hb2
    clear d0 hC1 hT1 hb2 V1
    have d6 := hC2.cell 6 rfl
    go_wp2_with fail
    refine (unhide CS w2).mono ?_
    rintro e w3 ⟨rfl, hb3⟩
    have hT3 := hT2.trans (hb3.mono hT2.size)
    have hC3 := hC2.step hb3
    clear d6 hC2 hT2 hb3 CS
    have d7 := hC3.cell 7 rfl
    go_wp2_with fail
    refine (unhide V2 w3).mono ?_
    rintro e w4 ⟨rfl, hb4⟩
    have hT4 := hT3.trans (hb4.mono hT3.size)
    have hC4 := hC3.step hb4
    clear d7 hC3 hT3 hb4 V2
    have e0 := hC4.cell 0 rfl
    have e1 := hC4.cell 1 rfl
    have e2 := hC4.cell 2 rfl
    have e3 := hC4.cell 3 rfl
    have e4 := hC4.cell 4 rfl
    have e5 := hC4.cell 5 rfl
    have e6 := hC4.cell 6 rfl
    have e7 := hC4.cell 7 rfl
    have hg4 := hC4.lt
    clear hC4
    have KS := hide (fun (W' : World) (h : Below w4.heap.size w4 W') => (⟨(h.cell (p := ⟨w.heap.size, 0, none⟩) hg4).trans e0, (h.cell (p := ⟨w.heap.size, 1, none⟩) hg4).trans e1, (h.cell (p := ⟨w.heap.size, 2, none⟩) hg4).trans e2, (h.cell (p := ⟨w.heap.size, 3, none⟩) hg4).trans e3, (h.cell (p := ⟨w.heap.size, 4, none⟩) hg4).trans e4, (h.cell (p := ⟨w.heap.size, 5, none⟩) hg4).trans e5, (h.cell (p := ⟨w.heap.size, 6, none⟩) hg4).trans e6, (h.cell (p := ⟨w.heap.size, 7, none⟩) hg4).trans e7⟩ : W'.cell? ⟨w.heap.size, 0, none⟩ = some (.int .i64 id) ∧ W'.cell? ⟨w.heap.size, 1, none⟩ = some (.int .i64 kind) ∧ W'.cell? ⟨w.heap.size, 2, none⟩ = some (.bool hid) ∧ W'.cell? ⟨w.heap.size, 3, none⟩ = some (.bool fix) ∧ W'.cell? ⟨w.heap.size, 4, none⟩ = some (.bool sgn) ∧ W'.cell? ⟨w.heap.size, 5, none⟩ = some (.bool wrp) ∧ W'.cell? ⟨w.heap.size, 6, none⟩ = some (.string val) ∧ W'.cell? ⟨w.heap.size, 7, none⟩ = some (.int .i64 nxt)))
    have hB0 := Below.refl w4.heap.size w4
    go_wp2
    go_region_held3 (fun W' => W'.cell? ⟨w.heap.size, 0, none⟩ = some (.int .i64 id) ∧ W'.cell? ⟨w.heap.size, 1, none⟩ = some (.int .i64 kind) ∧ W'.cell? ⟨w.heap.size, 2, none⟩ = some (.bool hid) ∧ W'.cell? ⟨w.heap.size, 3, none⟩ = some (.bool fix) ∧ W'.cell? ⟨w.heap.size, 4, none⟩ = some (.bool sgn) ∧ W'.cell? ⟨w.heap.size, 5, none⟩ = some (.bool wrp) ∧ W'.cell? ⟨w.heap.size, 6, none⟩ = some (.string val) ∧ W'.cell? ⟨w.heap.size, 7, none⟩ = some (.int .i64 nxt)) (first | exact ⟨e0, e1, e2, e3, e4, e5, e6, e7⟩ | exact (unhide KS) _ hB3 | exact (unhide KS) _ hB2 | exact (unhide KS) _ hB1 | fail) (first
      | (go_at_call 24; have hB1' := hB1; refine ((unhide CF) _).mono ?_; rintro e w6 ⟨rfl, hb2⟩; have hB2 : Below w4.heap.size w4 w6 := (by first | exact hB1.trans (hb2.mono hB1.size) | exact (bDN hB1 _).drew.trans (hb2.mono (by exact (bDN hB1 _).drew.size)) | exact hB1.drew.trans (hb2.mono (by exact hB1.drew.size)) | exact (bDN hB1 _).trans (hb2.mono (by exact (bDN hB1 _).size))))
      | (go_at_call 23; have hB2' := hB2; refine ((unhide y2) _).mono ?_; rintro e w7 ⟨rfl, hb3⟩; have hB3 : Below w4.heap.size w4 w7 := (by first | exact hB2.trans (hb3.mono hB2.size) | exact (bDN hB2 _).drew.trans (hb3.mono (by exact (bDN hB2 _).drew.size)) | exact hB2.drew.trans (hb3.mono (by exact hB2.drew.size)) | exact (bDN hB2 _).trans (hb3.mono (by exact (bDN hB2 _).size))))
      | (go_at_call 23; refine ((unhide y1) _).mono ?_; rintro e w5 ⟨rfl, hb1⟩; have hB1 : Below w4.heap.size w4 w5 := (by first | exact hB0.trans (hb1.mono hB0.size) | exact (bDN hB0 _).drew.trans (hb1.mono (by exact (bDN hB0 _).drew.size)) | exact hB0.drew.trans (hb1.mono (by exact hB0.drew.size)) | exact (bDN hB0 _).trans (hb1.mono (by exact (bDN hB0 _).size))))
      | fail)
    all_goals
      have hF := hT4.trans (hB3.mono hT4.size)
      clear hb1 hb2 hb3 hB1 hB2 hB3 KS e0 e1 e2 e3 e4 e5 e6 e7
      go_wp2
      go_ret2
      exact ⟨by rw [unhide hR]; rfl, hF⟩
end Go.Proofs.Ytjhjoaihdpahhaa
