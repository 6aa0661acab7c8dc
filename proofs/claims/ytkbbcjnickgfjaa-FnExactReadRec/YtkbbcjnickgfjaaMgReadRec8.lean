/- Merged: BkI6, BkI7, Bok9, LawRd. -/
import Derived.Test.YtkbbcjnickgfjaaMgReadRec1
import Derived.Test.YtkbbcjnickgfjaaMgReadRec2
import Derived.Test.YtkbbcjnickgfjaaMgReadRec3
import Derived.Test.YtkbbcjnickgfjaaMgReadRec4
import Derived.Test.YtkbbcjnickgfjaaMgReadRec5
import Derived.Test.YtkbbcjnickgfjaaMgReadRec6
import Derived.Test.YtkbbcjnickgfjaaMgReadRec7
/- The project's records: what is taken out of a text, reckoned; and it, over the loaded program. -/
namespace Go.Proofs.Ytkbbcjnickgfjaa
open Go.RowKit
/-- What is taken out of a text, right or not. -/
def recX (t : ByteArray) : Rc :=
  if t.size = 0 then rcZ
  else if byA9 t 0 = 1 then ⟨1, t.extract 1 t.size, 0, thZ⟩
  else if byA9 t 0 = 2 ∨ byA9 t 0 = 4 then ⟨(byA9 t 0 : Int), ⟨#[]⟩, ((rvN (t.extract 1 t.size) 0).1 : Int), thZ⟩
  else if byA9 t 0 = 3 then ⟨3, ⟨#[]⟩, 0, rdTh (t.extract 1 t.size)⟩
  else ⟨(byA9 t 0 : Int), ⟨#[]⟩, 0, thZ⟩
theorem extract_one {t : ByteArray} {b : UInt8} {l : List UInt8} (h : t.data.toList.drop 0 = b :: l) : (t.extract 1 t.size).data.toList = l ∧ t.size = l.length + 1 := by
  have hl : t.size = l.length + 1 := by
    have e := congrArg List.length h
    rw [List.length_drop, List.length_cons] at e
    exact e
  refine ⟨?_, hl⟩
  have e : (t.extract 1 t.size).data.toList = (t.data.toList.drop 1).take (t.size - 1) := by rw [ByteArray.data_extract]; simp
  have h1 : t.data.toList.drop 1 = l := by
    have h2 : t.data.toList = b :: l := by simpa using h
    rw [h2]; rfl
  rw [e, h1, hl, Nat.add_sub_cancel, List.take_length]
/-- What is written of a right record is taken in so. -/
theorem recX_rcT {r : Rc} (h : RcOk r) : recX (rcT r) = r := by
  have e0 := rcT_is h
  obtain ⟨t, ht⟩ : ∃ t, t = rcT r := ⟨_, rfl⟩
  rw [← ht]
  have hk : 1 ≤ r.kd ∧ r.kd ≤ 4 := by rcases h with h | h | h | h <;> omega
  have hkb : (byteOf r.kd.toNat).toNat = r.kd.toNat := byteOf_toNat (by omega)
  have hd : t.data.toList.drop 0 = byteOf r.kd.toNat :: (if r.kd = 1 then r.tx.data.toList else if r.kd = 3 then thL r.th else varB r.nm.toNat) := by rw [ht, e0]; rfl
  have e1 := byA9_at hd
  rw [hkb] at e1
  obtain ⟨ex, hsz⟩ := extract_one hd
  have hz : ¬ t.size = 0 := by omega
  clear hsz hkb hd e0 ht
  obtain ⟨kd, tx, nm, th⟩ := r
  unfold RcOk at h
  dsimp only at h hk e1 ex
  unfold recX
  rw [if_neg hz]
  rcases h with ⟨rfl, h2, rfl, h3⟩ | ⟨rfl, h2, h3, h4, h5⟩ | ⟨rfl, h2, h3, rfl⟩ | ⟨rfl, h2, h3, h4, h5⟩
  · have e1' : byA9 t 0 = 1 := e1
    have hx : t.extract 1 t.size = tx := by
      apply ByteArray.ext
      apply Array.toList_inj.1
      exact ex
    rw [if_pos e1', hx, thNo_is h3]
  · have e1' : byA9 t 0 = 2 := e1
    have h1' : (t.extract 1 t.size).data.toList.drop 0 = varB nm.toNat ++ [] := by rw [List.append_nil]; exact ex
    obtain ⟨e2, _⟩ := rvN_at h1' (by omega)
    rw [e1', if_neg (by decide), if_pos (by decide), e2, thNo_is h3, size_zero_is h2]
    have : ((nm.toNat : Nat) : Int) = nm := by omega
    rw [this]
    rfl
  · have e1' : byA9 t 0 = 3 := e1
    have hx : t.extract 1 t.size = thT th := by
      apply ByteArray.ext
      apply Array.toList_inj.1
      exact ex
    rw [e1', if_neg (by decide), if_neg (by decide), if_pos rfl, hx, (rd_thT ((thOk_iff th).2 h2)).2, size_zero_is h3]
  · have e1' : byA9 t 0 = 4 := e1
    have h1' : (t.extract 1 t.size).data.toList.drop 0 = varB nm.toNat ++ [] := by rw [List.append_nil]; exact ex
    obtain ⟨e2, _⟩ := rvN_at h1' (by omega)
    rw [e1', if_neg (by decide), if_pos (by decide), e2, thNo_is h3, size_zero_is h2]
    have : ((nm.toNat : Nat) : Int) = nm := by omega
    rw [this]
    rfl
theorem rcRd_no {t : ByteArray} (h : rcRdOk t = false) : rcRd t = rcZ := by unfold rcRd; rw [if_neg (by rw [h]; simp)]
theorem rec_rd (t : ByteArray) : (rcOk (recX t) = true ∧ rcT (recX t) = t → rcRdOk t = true ∧ rcRd t = recX t) ∧ (¬ (rcOk (recX t) = true ∧ rcT (recX t) = t) → rcRdOk t = false ∧ rcRd t = rcZ) := by
  constructor
  · rintro ⟨h1, h2⟩
    have h := rcRd_rcT ((rcOk_iff _).1 h1)
    rw [h2] at h
    exact h
  · intro h
    have hn : rcRdOk t = false := by
      cases e : rcRdOk t with
      | false => rfl
      | true =>
        obtain ⟨h1, h2⟩ := rcRd_right e
        exfalso
        apply h
        have h3 := recX_rcT h1
        rw [h2] at h3
        rw [h3]
        exact ⟨(rcOk_iff _).2 h1, h2⟩
    exact ⟨hn, rcRd_no hn⟩
theorem recX_tx (t : ByteArray) : (recX t).tx.size ≤ t.size := by
  unfold recX
  split
  · exact Nat.zero_le _
  · split
    · show (t.extract 1 t.size).size ≤ _
      rw [ByteArray.size_extract]; omega
    · split
      · exact Nat.zero_le _
      · split <;> exact Nat.zero_le _
set_option maxRecDepth 20000 in
set_option maxHeartbeats 4000000 in
theorem recIn_any (t : ByteArray) (ht : t.size ≤ 1048576) (w : World) :
    Calls Try.prog 27 #[.string t] w fun e w' => e = .returned (.agg (rcC (recX t))) ∧ Below w.heap.size w w' := by
  obtain ⟨W, hW, hR, hB, hs1⟩ := one_cb w #[.int .i64 0, .string ⟨#[]⟩, .int .i64 0, .int .i64 0, .int .i64 0, .bool false, .bool false, .bool false, .bool false, .string ⟨#[]⟩, .int .i64 0] 27
  have hR' : CB W w.heap.size 27 (rcC rcZ) := hR
  replace hR' := hide hR'; replace hB := hide hB
  clear hR
  by_cases hz : t.size = 0
  · have E : recX t = rcZ := by unfold recX; rw [if_pos hz]
    rw [E]
    clear E
    obtain rfl := size_zero_is hz
    clear hz ht
    go_enter Try.func27, Try.ntmps27
    go_upto_region 1 with fail
    first | rw [hW] | skip
    clear hW
    go_wp2_with (refine wpList_store_row (P := Try.prog) rfl 27 (.tmp 2) (.tmp 7) rfl w.heap.size (rcC rcZ) rfl rfl 27 (rcC rcZ) (unhide hR') rfl rfl (rc_one rcZ) ?_)
    have hR2 := setRow_heap _ w.heap.size _ (rcC rcZ) 27 (0, 0) (unhide hR')
    have hB2 := Go.below_setRow (unhide hB) (Nat.le_refl _) (rcC rcZ)
    exact bodyPost_ret (results_cb (by exact Try.results27) _ _ w.heap.size 27 (rcC rcZ) _ rfl hR2 Try.underlying27 rfl) rfl ⟨rfl, hB2⟩
  obtain ⟨n1, hn1⟩ : ∃ n, n = byA9 t 0 := ⟨_, rfl⟩
  have hb := byA9_is (t := t) (a := 0) (by omega)
  have hlt : n1 < 256 := by rw [hn1, ← hb]; exact UInt8.toNat_lt _
  rw [← hn1] at hb
  have uk : IntKind.i64.wrap (n1 : Int) = (n1 : Int) := by rw [IntKind.wrap_i64]; omega
  obtain ⟨bd, hbd⟩ : ∃ z, z = t.extract 1 t.size := ⟨_, rfl⟩
  have hbz : bd.size ≤ 1048576 := by rw [hbd, ByteArray.size_extract]; omega
  have E1 := hide (show n1 = 1 → recX t = ⟨1, bd, 0, thZ⟩ by intro h; unfold recX; rw [if_neg hz, ← hn1, if_pos h, hbd])
  have E2 := hide (show n1 = 2 ∨ n1 = 4 → recX t = ⟨(n1 : Int), ⟨#[]⟩, ((rvN bd 0).1 : Int), thZ⟩ by intro h; unfold recX; rw [if_neg hz, ← hn1, if_neg (by omega), if_pos h, hbd])
  have E3 := hide (show n1 = 3 → recX t = ⟨3, ⟨#[]⟩, 0, rdTh bd⟩ by intro h; unfold recX; rw [if_neg hz, ← hn1, if_neg (by omega), if_neg (by omega), if_pos h, hbd])
  have E0 := hide (show n1 ≠ 1 → n1 ≠ 2 → n1 ≠ 3 → n1 ≠ 4 → recX t = ⟨(n1 : Int), ⟨#[]⟩, 0, thZ⟩ by intro h1 h2 h3 h4; unfold recX; rw [if_neg hz, ← hn1, if_neg h1, if_neg (by omega), if_neg h3])
  have CK := hide (fun W => strClone20_any bd W (by omega))
  have CV := hide (fun W => readV_any bd hbz 0 (Nat.zero_le _) W)
  have CR := hide (fun W => implReadThing_any bd hbz W)
  have hz1 : t.toList.isEmpty = false := by
    rw [ByteArray.toList_eq]
    cases h : t.data.toList with
    | nil => exact absurd (show t.data.toList.length = 0 by rw [h]; rfl) hz
    | cons b l => rfl
  have g0 : (0 : Int) < (t.size : Int) := by omega
  have g1 : (1 : Int) ≤ (t.size : Int) := by omega
  replace hn1 := hide hn1; replace hbd := hide hbd
  go_enter Try.func27, Try.ntmps27
  go_upto_region 1 with fail
  first | rw [hW] | skip
  clear hW
  go_upto_region 3 with fail
  have HN := hide (CB.new W.drew #[.int .i64 0, .string ⟨#[]⟩, .int .i64 0, .int .i64 0, .int .i64 0, .bool false, .bool false, .bool false, .bool false, .string ⟨#[]⟩, .int .i64 0] 27)
  have hRd : CB W.drew w.heap.size 27 (rcC rcZ) := unhide hR'
  have HR := hide (hRd.alloc (.cells #[.int .i64 0, .string ⟨#[]⟩, .int .i64 0, .int .i64 0, .int .i64 0, .bool false, .bool false, .bool false, .bool false, .string ⟨#[]⟩, .int .i64 0] 27))
  have HBd := hide ((unhide hB).drew.alloc (B := w.heap.size) (w := W.drew) (unhide hB).size (.cells #[.int .i64 0, .string ⟨#[]⟩, .int .i64 0, .int .i64 0, .int .i64 0, .bool false, .bool false, .bool false, .bool false, .string ⟨#[]⟩, .int .i64 0] 27))
  obtain ⟨gX, hgX⟩ : ∃ g, g = W.heap.size := ⟨_, rfl⟩
  have hgl : w.heap.size < gX := by rw [hgX]; exact hs1
  replace hgX := hide hgX
  refine wp_region_held_drew (S := fun _ => True) (by kernel_rfl) trivial (fun hHeld => ?_)
  refine held_take (i := 0) 8 (v := .string t) rfl rfl (by kernel_rfl) (by kernel_rfl) (by kernel_rfl) (fun _ _ _ h => h) (Or.inl ⟨by kernel_rfl, fun W hS => by go_simp⟩) hHeld ?_
  simp only [Act.put, List.setIfInBounds_toArray, List.set_cons_zero, List.set_cons_succ]
  refine held_take (i := 1) 9 (v := .int .u8 (n1 : Int)) rfl rfl (by kernel_rfl) (by kernel_rfl) (by kernel_rfl) (fun _ _ _ h => h) (Or.inl ⟨by kernel_rfl, fun W hS => by go_simp⟩) hHeld ?_
  simp only [Act.put, List.setIfInBounds_toArray, List.set_cons_zero, List.set_cons_succ]
  refine held_take (i := 2) 10 (v := .int .i64 (n1 : Int)) rfl rfl (by kernel_rfl) (by kernel_rfl) (by kernel_rfl) (fun _ _ _ h => h) (Or.inl ⟨by kernel_rfl, fun W hS => by go_simp⟩) hHeld ?_
  simp only [Act.put, List.setIfInBounds_toArray, List.set_cons_zero, List.set_cons_succ]
  refine held_take (i := 3) 11 (v := .agg #[.int .i64 (n1 : Int), .string ⟨#[]⟩, .int .i64 0, .int .i64 0, .int .i64 0, .bool false, .bool false, .bool false, .bool false, .string ⟨#[]⟩, .int .i64 0]) rfl rfl (by kernel_rfl) (by kernel_rfl) (by kernel_rfl) (fun _ _ _ h => h) (Or.inl ⟨by kernel_rfl, fun W hS => by go_simp⟩) hHeld ?_
  simp only [Act.put, List.setIfInBounds_toArray, List.set_cons_zero, List.set_cons_succ]
  refine held_take (i := 4) 12 (v := .string t) rfl rfl (by kernel_rfl) (by kernel_rfl) (by kernel_rfl) (fun _ _ _ h => h) (Or.inl ⟨by kernel_rfl, fun W hS => by go_simp⟩) hHeld ?_
  simp only [Act.put, List.setIfInBounds_toArray, List.set_cons_zero, List.set_cons_succ]
  refine held_take (i := 5) 13 (v := .string (t.extract 1 t.size)) rfl rfl (by kernel_rfl) (by kernel_rfl) (by kernel_rfl) (fun _ _ _ h => h) (Or.inl ⟨by kernel_rfl, fun W hS => by go_simp⟩) hHeld ?_
  simp only [Act.put, List.setIfInBounds_toArray, List.set_cons_zero, List.set_cons_succ]
  refine wpAnyH_ready (rs := [6]) (by kernel_rfl) (by simp) ?_
  refine AllReadyH.cons rfl (fun K hK => ?_) AllReadyH.nil
  go_simp
  refine hK.out _ _ trivial (fun hHeld => ?_)
  clear hK K
  refine wpAnyH_ready (rs := [7]) (by kernel_rfl) (by simp) ?_
  refine AllReadyH.cons rfl (fun K hK => ?_) AllReadyH.nil
  refine step_store_all rfl 27 (.tmp 3) (.tmp 11) rfl #[.int .i64 (n1 : Int), .string ⟨#[]⟩, .int .i64 0, .int .i64 0, .int .i64 0, .bool false, .bool false, .bool false, .bool false, .string ⟨#[]⟩, .int .i64 0] rfl rfl (unhide HN) rfl (by simp [Value.oneCell']) (by kernel_rfl) ?_
  refine hK.out _ _ trivial (fun hHeld => ?_)
  clear hK K
  refine held_take (i := 8) 4 (v := .string (t.extract 1 t.size)) rfl rfl (by kernel_rfl) (by kernel_rfl) (by kernel_rfl) (fun _ _ _ h => h) (Or.inl ⟨by kernel_rfl, fun W hS => by go_simp⟩) hHeld ?_
  simp only [Act.put, List.setIfInBounds_toArray]
  refine wpAnyH_done (by kernel_rfl) ?_ _
  rw [← unhide hbd, ← unhide hgX]
  go_upto_region 4 with fail
  refine wp_gen (fun W2 => CB W2 gX 27 (rcC ⟨(n1 : Int), ⟨#[]⟩, 0, thZ⟩) ∧ CB W2 w.heap.size 27 (rcC rcZ) ∧ Below w.heap.size w W2) ⟨?_, ?_, ?_⟩ ?_
  · rw [unhide hgX]; exact setRow_heap _ _ _ _ _ (0, 0) (unhide HN)
  · rw [unhide hgX]; exact (setRow_other _ _ _ _ (by have := hs1; show w.heap.size ≠ W.heap.size; omega)).trans (unhide HR)
  · rw [unhide hgX]; exact Go.below_setRow (unhide HBd) (by have := hs1; omega) _
  clear HN HR HBd hHeld hRd hR' hB hs1 hgX hbd g0 g1 hz1 hb uk ht
  rintro W2 ⟨hX, hR, hB⟩
  have c0 : W2.cell? ⟨gX, 0, none⟩ = some (.int .i64 (n1 : Int)) := hX.cell 0 rfl
  replace hR := hide hR; replace hB := hide hB
  by_cases h1 : n1 = 1
  · have e := hide (unhide E1 h1)
    subst h1
    clear E0 E1 E2 E3 CV CR
    have X1 := hide hX
    go_upto_region 12 with (go_at_call 59; refine (unhide CK _).mono ?_; rintro e5 w5 ⟨rfl, hb5⟩; have hX4 := (unhide X1).step hb5; have hR4 := (unhide hR).step hb5; have hB4 := (unhide hB).trans (hb5.mono (unhide hB).size); clear hX X1 hR hB c0; have p1 := hX4.cell 1 (v := .string ⟨#[]⟩) rfl; have z1 := hX4.frozen 1)
    have hX5 := hide (cb_eq (hX4.set 1 (.string bd)) (show rcC ⟨1, bd, 0, thZ⟩ = _ from rfl))
    have hR5 := hide (hR4.set_other (h := gX) (k := 1) (by omega) (.string bd))
    have hB5 := hide (hB4.setCell (p := ⟨gX, 1, none⟩) (show w.heap.size ≤ gX by omega) (.string bd))
    clear hX4 hR4 hB4 p1 z1 hb5
    go_wp2_with (first
      | (refine wpList_load_row (P := Try.prog) rfl 27 (.tmp 3) rfl gX rfl 27 (rcC ⟨1, bd, 0, thZ⟩) (0, 0) _ (unhide hX5) Try.underlying27 rfl rfl ?_)
      | (refine wpList_store_row (P := Try.prog) rfl 27 (.tmp 2) (.tmp 39) rfl w.heap.size (rcC ⟨1, bd, 0, thZ⟩) rfl rfl 27 (rcC rcZ) (unhide hR5) rfl rfl (rc_one _) ?_))
    have hR8 := setRow_heap _ w.heap.size _ (rcC ⟨1, bd, 0, thZ⟩) 27 (0, 0) (unhide hR5)
    have hB8 := Go.below_setRow (unhide hB5) (Nat.le_refl _) (rcC ⟨1, bd, 0, thZ⟩)
    exact bodyPost_ret (results_cb (by exact Try.results27) _ _ w.heap.size 27 (rcC ⟨1, bd, 0, thZ⟩) _ rfl hR8 Try.underlying27 rfl) rfl ⟨by rw [unhide e] <;> rfl, hB8⟩
  by_cases h2 : n1 = 2 ∨ n1 = 4
  · have e := hide (unhide E2 h2)
    clear E0 E1 E2 E3 CK CR
    have e1 : ¬ (n1 : Int) = 1 := by omega
    rcases hv : rvN bd 0 with ⟨vn, ve⟩
    rw [hv] at CV e
    dsimp only at CV e
    clear hv
    have X1 := hide hX
    have B2 : ∀ K : Nat, K = 2 ∨ K = 4 → True := fun _ _ => trivial
    clear B2
    rcases h2 with h2 | h2
    all_goals
      subst h2
      go_upto_region 12 with (go_at_call 60; refine (unhide CV _).mono ?_; rintro e5 w5 ⟨⟨bb, rfl⟩, rfl⟩; (have p2 := (unhide X1).cell 2 (v := .int .i64 0) rfl); (have z2 := (unhide X1).frozen 2))
      have hX4 := unhide X1; have hR4 := unhide hR; have hB4 := unhide hB
      have hR5 := hide (hR4.set_other (h := gX) (k := 2) (by omega) (.int .i64 (vn : Int)))
      have hB5 := hide (hB4.setCell (p := ⟨gX, 2, none⟩) (show w.heap.size ≤ gX by omega) (.int .i64 (vn : Int)))
      clear hR4 hB4 p2 z2 hX X1 hR hB c0
    · have hX5 := hide (cb_eq (hX4.set 2 (.int .i64 (vn : Int))) (show rcC ⟨2, ⟨#[]⟩, (vn : Int), thZ⟩ = _ from rfl))
      clear hX4
      go_wp2_with (first
        | (refine wpList_load_row (P := Try.prog) rfl 27 (.tmp 3) rfl gX rfl 27 (rcC ⟨2, ⟨#[]⟩, (vn : Int), thZ⟩) (0, 0) _ (unhide hX5) Try.underlying27 rfl rfl ?_)
        | (refine wpList_store_row (P := Try.prog) rfl 27 (.tmp 2) (.tmp 39) rfl w.heap.size (rcC ⟨2, ⟨#[]⟩, (vn : Int), thZ⟩) rfl rfl 27 (rcC rcZ) (unhide hR5) rfl rfl (rc_one _) ?_))
      have hR8 := setRow_heap _ w.heap.size _ (rcC ⟨2, ⟨#[]⟩, (vn : Int), thZ⟩) 27 (0, 0) (unhide hR5)
      have hB8 := Go.below_setRow (unhide hB5) (Nat.le_refl _) (rcC ⟨2, ⟨#[]⟩, (vn : Int), thZ⟩)
      exact bodyPost_ret (results_cb (by exact Try.results27) _ _ w.heap.size 27 (rcC ⟨2, ⟨#[]⟩, (vn : Int), thZ⟩) _ rfl hR8 Try.underlying27 rfl) rfl ⟨by rw [unhide e] <;> rfl, hB8⟩
    · have hX5 := hide (cb_eq (hX4.set 2 (.int .i64 (vn : Int))) (show rcC ⟨4, ⟨#[]⟩, (vn : Int), thZ⟩ = _ from rfl))
      clear hX4
      go_wp2_with (first
        | (refine wpList_load_row (P := Try.prog) rfl 27 (.tmp 3) rfl gX rfl 27 (rcC ⟨4, ⟨#[]⟩, (vn : Int), thZ⟩) (0, 0) _ (unhide hX5) Try.underlying27 rfl rfl ?_)
        | (refine wpList_store_row (P := Try.prog) rfl 27 (.tmp 2) (.tmp 39) rfl w.heap.size (rcC ⟨4, ⟨#[]⟩, (vn : Int), thZ⟩) rfl rfl 27 (rcC rcZ) (unhide hR5) rfl rfl (rc_one _) ?_))
      have hR8 := setRow_heap _ w.heap.size _ (rcC ⟨4, ⟨#[]⟩, (vn : Int), thZ⟩) 27 (0, 0) (unhide hR5)
      have hB8 := Go.below_setRow (unhide hB5) (Nat.le_refl _) (rcC ⟨4, ⟨#[]⟩, (vn : Int), thZ⟩)
      exact bodyPost_ret (results_cb (by exact Try.results27) _ _ w.heap.size 27 (rcC ⟨4, ⟨#[]⟩, (vn : Int), thZ⟩) _ rfl hR8 Try.underlying27 rfl) rfl ⟨by rw [unhide e] <;> rfl, hB8⟩
  by_cases h3 : n1 = 3
  · have e := hide (unhide E3 h3)
    subst h3
    clear E0 E1 E2 E3 CV CK
    generalize rdTh bd = th at *
    obtain ⟨id, kind, hid, fix, sgn, wrp, val, nxt⟩ := th
    have CR2 := unhide CR
    clear CR
    simp only [thC] at CR2
    replace CR2 := hide CR2
    have X1 := hide hX
    clear hX
    go_upto_region 12 with (first
      | (go_at_call 61; refine (unhide CR2 _).mono ?_; rintro e5 w5 ⟨rfl, hb5⟩; have hX4 := (unhide X1).step hb5; have hR4 := hide ((unhide hR).step hb5); have hB4 := hide ((unhide hB).trans (hb5.mono (unhide hB).size)); clear X1 hR hB c0)
      | (refine wpList_store_cb (P := Try.prog) rfl 25 (.tmp 38) (.tmp 36) rfl (thY.c ⟨id, kind, hid, fix, sgn, wrp, val, nxt⟩) rfl rfl hX4 (show 3 + 8 ≤ 11 by decide) (thY.one _) rfl ?_; intro w6 hX6 hg6 hs6))
    have hX5 := hide (cb_eq hX6 (show rcC ⟨3, ⟨#[]⟩, 0, ⟨id, kind, hid, fix, sgn, wrp, val, nxt⟩⟩ = _ from rfl))
    have hR5 := hide ((unhide hR4).grown hg6 (by intro e; injection e with e; omega))
    have hB5 := hide (show Below w.heap.size w w6 from (unhide hB4).grown hg6 ((unhide hB4).size) (fun k hk => by injection hk with hk; omega))
    clear hX4 hR4 hB4 hX6 hg6 hs6 hb5
    go_wp2_with (first
      | (refine wpList_load_row (P := Try.prog) rfl 27 (.tmp 3) rfl gX rfl 27 (rcC ⟨3, ⟨#[]⟩, 0, ⟨id, kind, hid, fix, sgn, wrp, val, nxt⟩⟩) (0, 0) _ (unhide hX5) Try.underlying27 rfl rfl ?_)
      | (refine wpList_store_row (P := Try.prog) rfl 27 (.tmp 2) (.tmp 39) rfl w.heap.size (rcC ⟨3, ⟨#[]⟩, 0, ⟨id, kind, hid, fix, sgn, wrp, val, nxt⟩⟩) rfl rfl 27 (rcC rcZ) (unhide hR5) rfl rfl (rc_one _) ?_))
    have hR8 := setRow_heap _ w.heap.size _ (rcC ⟨3, ⟨#[]⟩, 0, ⟨id, kind, hid, fix, sgn, wrp, val, nxt⟩⟩) 27 (0, 0) (unhide hR5)
    have hB8 := Go.below_setRow (unhide hB5) (Nat.le_refl _) (rcC ⟨3, ⟨#[]⟩, 0, ⟨id, kind, hid, fix, sgn, wrp, val, nxt⟩⟩)
    exact bodyPost_ret (results_cb (by exact Try.results27) _ _ w.heap.size 27 (rcC ⟨3, ⟨#[]⟩, 0, ⟨id, kind, hid, fix, sgn, wrp, val, nxt⟩⟩) _ rfl hR8 Try.underlying27 rfl) rfl ⟨by rw [unhide e] <;> rfl, hB8⟩
  · have e := hide (unhide E0 h1 (by omega) h3 (by omega))
    have e1 : ¬ (n1 : Int) = 1 := by omega
    have e2 : ¬ (n1 : Int) = 2 := by omega
    have e3 : ¬ (n1 : Int) = 3 := by omega
    have e4 : ¬ (n1 : Int) = 4 := by omega
    clear E0 E1 E2 E3 CK CR CV
    have hX5 := hide hX; have hR5 := hR; have hB5 := hB
    clear hX hR hB
    go_upto_region 12 with fail
    go_wp2_with (first
      | (refine wpList_load_row (P := Try.prog) rfl 27 (.tmp 3) rfl gX rfl 27 (rcC ⟨(n1 : Int), ⟨#[]⟩, 0, thZ⟩) (0, 0) _ (unhide hX5) Try.underlying27 rfl rfl ?_)
      | (refine wpList_store_row (P := Try.prog) rfl 27 (.tmp 2) (.tmp 39) rfl w.heap.size (rcC ⟨(n1 : Int), ⟨#[]⟩, 0, thZ⟩) rfl rfl 27 (rcC rcZ) (unhide hR5) rfl rfl (rc_one _) ?_))
    have hR8 := setRow_heap _ w.heap.size _ (rcC ⟨(n1 : Int), ⟨#[]⟩, 0, thZ⟩) 27 (0, 0) (unhide hR5)
    have hB8 := Go.below_setRow (unhide hB5) (Nat.le_refl _) (rcC ⟨(n1 : Int), ⟨#[]⟩, 0, thZ⟩)
    exact bodyPost_ret (results_cb (by exact Try.results27) _ _ w.heap.size 27 (rcC ⟨(n1 : Int), ⟨#[]⟩, 0, thZ⟩) _ rfl hR8 Try.underlying27 rfl) rfl ⟨by rw [unhide e] <;> rfl, hB8⟩
end Go.Proofs.Ytkbbcjnickgfjaa

/- The project's records: a text is read, over the loaded program. -/
namespace Go.Proofs.Ytkbbcjnickgfjaa
open Go.RowKit
set_option maxRecDepth 20000 in
set_option maxHeartbeats 4000000 in
theorem implReadRec_any (t : ByteArray) (ht : t.size ≤ 1048576) (w : World) :
    Calls Try.prog 9 #[.string t] w fun e w' => e = .returned (.tuple #[.agg (rcC (rcRd t)), .bool (rcRdOk t)]) ∧ Below w.heap.size w w' := by
  have CI := hide (fun W => recIn_any t ht W)
  have CT := hide (fun W => implRecText_any (recX t) (by have := recX_tx t; omega) W)
  obtain ⟨HY, HN⟩ := rec_rd t
  generalize recX t = x at *
  generalize rcRdOk t = fin at *
  generalize rcRd t = y at *
  generalize rcOk x = ok at *
  generalize rcT x = tb at *
  have hox := rc_one x
  have hoz := rc_one rcZ
  go_enter Try.func9, Try.ntmps9
  go_wp2_with fail
  obtain ⟨W, hW, hR, hB, hs1⟩ := one_cb w #[.int .i64 0, .string ⟨#[]⟩, .int .i64 0, .int .i64 0, .int .i64 0, .bool false, .bool false, .bool false, .bool false, .string ⟨#[]⟩, .int .i64 0] 27
  rw [hW]
  clear hW
  have hR' : CB W w.heap.size 27 (rcC rcZ) := hR
  clear hR
  refine (unhide CI W).mono ?_
  rintro e w1 ⟨rfl, hb1⟩
  have hB1 := hB.trans (hb1.mono hB.size)
  have hR1 := hR'.step hb1
  have hl1 : w.heap.size < w1.heap.size := hR1.lt
  clear CI hb1 hB hR' hs1
  have hZ : CB (w1.alloc (.cells #[.int .i64 0, .string ⟨#[]⟩, .int .i64 0, .int .i64 0, .int .i64 0, .bool false, .bool false, .bool false, .bool false, .string ⟨#[]⟩, .int .i64 0] 27)) w1.heap.size 27 (rcC rcZ) := CB.new w1 _ _
  have hR2 := hR1.alloc (.cells #[.int .i64 0, .string ⟨#[]⟩, .int .i64 0, .int .i64 0, .int .i64 0, .bool false, .bool false, .bool false, .bool false, .string ⟨#[]⟩, .int .i64 0] 27)
  have hB2 := hB1.alloc hB1.size (.cells #[.int .i64 0, .string ⟨#[]⟩, .int .i64 0, .int .i64 0, .int .i64 0, .bool false, .bool false, .bool false, .bool false, .string ⟨#[]⟩, .int .i64 0] 27)
  have hX3 := setRow_heap _ w1.heap.size _ (rcC x) 27 (0, 0) hZ
  have hB3 := Go.below_setRow hB2 (show w.heap.size ≤ w1.heap.size by omega) (rcC x)
  have hR3 : CB ((w1.alloc (.cells #[.int .i64 0, .string ⟨#[]⟩, .int .i64 0, .int .i64 0, .int .i64 0, .bool false, .bool false, .bool false, .bool false, .string ⟨#[]⟩, .int .i64 0] 27)).setRow w1.heap.size (rcC x)) w.heap.size 27 (rcC rcZ) := (setRow_other _ w1.heap.size w.heap.size _ (by omega)).trans hR2
  have hX3' : CB ((w1.alloc (.cells #[.int .i64 0, .string ⟨#[]⟩, .int .i64 0, .int .i64 0, .int .i64 0, .bool false, .bool false, .bool false, .bool false, .string ⟨#[]⟩, .int .i64 0] 27)).setRow w1.heap.size (rcC x)) w1.heap.size 27 (rcC x) := hX3
  clear hR2 hB2 hR1 hB1
  replace hZ := hide hZ; replace hX3' := hide hX3'; replace hR3 := hide hR3; replace hB3 := hide hB3
  clear hX3
  go_wp2_with (first
    | (refine wpList_store_row rfl 27 (.tmp 4) (.tmp 8) rfl w1.heap.size (rcC x) rfl rfl 27 (rcC rcZ) (unhide hZ) rfl rfl hox ?_)
    | (refine wpList_load_row rfl 27 (.tmp 4) rfl w1.heap.size rfl 27 (rcC x) (0, 0) _ (unhide hX3') Try.underlying27 rfl rfl ?_))
  refine (unhide CT _).mono ?_
  rintro e w4 ⟨rfl, hb4⟩
  have hB4 := (unhide hB3).trans (hb4.mono (unhide hB3).size)
  have hR4 := (unhide hR3).step hb4
  have hX4 := hide ((unhide hX3').step hb4)
  clear CT hb4 hB3 hR3 hX3'
  cases ok with
  | false =>
    obtain ⟨rfl, rfl⟩ := HN (by simp)
    clear HY HN
    go_wp2_with (refine wpList_store_row rfl 27 (.tmp 2) (.tmp 21) rfl w.heap.size (rcC rcZ) rfl rfl 27 (rcC rcZ) hR4 rfl rfl hoz ?_)
    have hR5 := setRow_heap _ w.heap.size _ (rcC rcZ) 27 (0, 0) hR4
    have hB5 := Go.below_setRow hB4 (Nat.le_refl _) (rcC rcZ)
    exact bodyPost_ret (results_cb_tmp (by exact Try.results9) _ _ w.heap.size 27 (rcC rcZ) _ rfl hR5 Try.underlying27 rfl) rfl ⟨rfl, hB5⟩
  | true =>
    by_cases he : tb = t
    · obtain ⟨rfl, rfl⟩ := HY ⟨rfl, he⟩
      have he' : (tb.toList == t.toList) = true := by rw [he]; exact beq_self_eq_true _
      replace he := hide he
      clear HY HN
      go_wp2_with (first
        | (refine wpList_load_row rfl 27 (.tmp 4) rfl w1.heap.size rfl 27 (rcC y) (0, 0) _ (unhide hX4) Try.underlying27 rfl rfl ?_)
        | (refine wpList_store_row rfl 27 (.tmp 2) (.tmp 22) rfl w.heap.size (rcC y) rfl rfl 27 (rcC rcZ) hR4 rfl rfl hox ?_))
      have hR5 := setRow_heap _ w.heap.size _ (rcC y) 27 (0, 0) hR4
      have hB5 := Go.below_setRow hB4 (Nat.le_refl _) (rcC y)
      exact bodyPost_ret (results_cb_tmp (by exact Try.results9) _ _ w.heap.size 27 (rcC y) _ rfl hR5 Try.underlying27 rfl) rfl ⟨rfl, hB5⟩
    · obtain ⟨rfl, rfl⟩ := HN (fun h => he h.2)
      have he' : (tb.toList == t.toList) = false := neStr9 he
      replace he := hide he
      clear HY HN
      go_wp2_with (refine wpList_store_row rfl 27 (.tmp 2) (.tmp 21) rfl w.heap.size (rcC rcZ) rfl rfl 27 (rcC rcZ) hR4 rfl rfl hoz ?_)
      have hR5 := setRow_heap _ w.heap.size _ (rcC rcZ) 27 (0, 0) hR4
      have hB5 := Go.below_setRow hB4 (Nat.le_refl _) (rcC rcZ)
      exact bodyPost_ret (results_cb_tmp (by exact Try.results9) _ _ w.heap.size 27 (rcC rcZ) _ rfl hR5 Try.underlying27 rfl) rfl ⟨rfl, hB5⟩
end Go.Proofs.Ytkbbcjnickgfjaa

/- Records that are read, by the given model, over the loaded program. -/
namespace Go.Proofs.Ytkbbcjnickgfjaa
open Go.RowKit
/-- Where what is read of a text lies. -/
def RcAt (t : ByteArray) (w W : World) (g : Nat) : Prop := ∃ a, CB W g 27 (rcC (rcX t).1) ∧ CB W (w.heap.size + 1) 62 (cuC t a (rcX t).2) ∧ CB W w.heap.size 27 (rcC rcZ) ∧ Below w.heap.size w W
theorem RcAt.mk {t : ByteArray} {w W : World} {g a : Nat} {x : Rc} {b : Bool} (h : rcX t = (x, b)) (h1 : CB W g 27 (rcC x)) (h2 : CB W (w.heap.size + 1) 62 (cuC t a b)) (h3 : CB W w.heap.size 27 (rcC rcZ)) (h4 : Below w.heap.size w W) : RcAt t w W g := by
  unfold RcAt
  rw [h]
  exact ⟨a, h1, h2, h3, h4⟩
set_option maxRecDepth 20000 in
set_option maxHeartbeats 4000000 in
theorem specReadRec_any (t : ByteArray) (ht : t.size ≤ 1048576) (w : World) :
    Calls Try.prog 12 #[.string t] w fun e w' => e = .returned (.tuple #[.agg (rcC (rcRd t)), .bool (rcRdOk t)]) ∧ Below w.heap.size w w' := by
  have C1 := hide (fun g W h => l19One_any t ht 0 false (Nat.zero_le _) g W h)
  have L1 := onS_le t 0 false (Nat.zero_le _)
  have M1 := onS_lt t 0 false
  rcases hv1 : onS t 0 false with ⟨n1, a1, b1⟩
  rw [hv1] at C1 L1 M1
  dsimp only at C1 L1 M1
  have E1 := hide (show n1 = 1 → rcX t = (⟨1, (tkS t a1 b1 32).1, 0, thZ⟩, (tkS t a1 b1 32).2.2) by intro h; unfold rcX; rw [hv1]; dsimp only; rw [if_pos h])
  have E2 := hide (show n1 = 2 ∨ n1 = 4 → rcX t = (⟨(n1 : Int), ⟨#[]⟩, ((vrS t a1 b1).1 : Int), thZ⟩, (vrS t a1 b1).2.2) by intro h; unfold rcX; rw [hv1]; dsimp only; rw [if_neg (by omega), if_pos h])
  have E3 := hide (show n1 = 3 → rcX t = (⟨3, ⟨#[]⟩, 0, rdTh (t.extract 1 t.size)⟩, b1) by intro h; unfold rcX; rw [hv1]; dsimp only; rw [if_neg (by omega), if_neg (by omega), if_pos h])
  have HT := hide (show n1 = 3 → 1 ≤ t.size by
    intro h
    apply Classical.byContradiction
    intro hc
    have h1 : tkS t 0 false 1 = (⟨#[]⟩, 0, true) := by unfold tkS; rw [if_pos (Or.inr (by omega))]
    have h2 : onS t 0 false = (0, 0, true) := by unfold onS; rw [h1]; rfl
    rw [h2] at hv1
    injection hv1 with e1
    omega)
  have E0 := hide (show n1 ≠ 1 → n1 ≠ 2 → n1 ≠ 3 → n1 ≠ 4 → rcX t = (⟨(n1 : Int), ⟨#[]⟩, 0, thZ⟩, b1) by intro h1 h2 h3 h4; unfold rcX; rw [hv1]; dsimp only; rw [if_neg h1, if_neg (by omega), if_neg h3])
  have CT := hide (fun W => specRecText_any (rcX t).1 W)
  have CV := hide (fun g W h => l19Var_any t ht a1 b1 L1 g W h)
  have CK := hide (fun g W (h : CB W g 62 (cuC t a1 b1)) => (show Calls Try.prog 33 #[.pointer (some ⟨g, 0, none⟩), .int .i64 32] W _ from l19Take_any t ht a1 b1 L1 32 (by omega) g W h))
  have CR := hide (fun (h : (t.extract 1 t.size).size ≤ 1048576) W => specReadThing_any (t.extract 1 t.size) h W)
  obtain ⟨W, hW, hR, hCu, hb, hlt⟩ := two_cb w (rcC rcZ) (cuC t 0 false) 27 62
  rw [show cuC t 0 false = #[.string t, .int .i64 0, .bool false] from rfl] at hW
  rw [show rcC rcZ = #[.int .i64 0, .string ⟨#[]⟩, .int .i64 0, .int .i64 0, .int .i64 0, .bool false, .bool false, .bool false, .bool false, .string ⟨#[]⟩, .int .i64 0] from rfl] at hW
  replace hR := hide hR
  go_enter Try.func12, Try.ntmps12
  go_upto_region 2 with fail
  first | rw [hW] | skip
  refine wp_gen (fun W2 => CB W2 (w.heap.size + 1) 62 (cuC t 0 false) ∧ CB W2 w.heap.size 27 (rcC rcZ) ∧ Below w.heap.size w W2) ⟨hCu, unhide hR, hb⟩ ?_
  clear hCu hR hb hlt hW
  rintro W2 ⟨hCu, hR, hb⟩
  go_cut [5] (fun t5 wx => ∃ g, t5 = .pointer (some ⟨g, 0, none⟩) ∧ w.heap.size + 1 < g ∧ CB wx g 27 (rcC ⟨(n1 : Int), ⟨#[]⟩, 0, thZ⟩) ∧ CB wx (w.heap.size + 1) 62 (cuC t a1 b1) ∧ CB wx w.heap.size 27 (rcC rcZ) ∧ Below w.heap.size w wx)
  case first =>
    go_wp2_with (go_at_call 32; refine (unhide C1 _ W2 hCu).mono ?_; rintro e w1 ⟨rfl, hC1, hG1⟩)
    go_meet
    case rel =>
      have hX1 : CB (w1.alloc (.cells (rcC ⟨(n1 : Int), ⟨#[]⟩, 0, thZ⟩) 27)) w1.heap.size 27 (rcC ⟨(n1 : Int), ⟨#[]⟩, 0, thZ⟩) := CB.new w1 _ _
      have hbA : Below w1.heap.size w1 (w1.alloc (.cells (rcC ⟨(n1 : Int), ⟨#[]⟩, 0, thZ⟩) 27)) := (Below.refl w1.heap.size w1).alloc (Nat.le_refl _) _
      have hC2 := hC1.below hbA hC1.lt
      have hR1 := hR.grown hG1 (by simp)
      have hR2 := hR1.below hbA hR1.lt
      have hB1 : Below w.heap.size w w1 := below_gr hb hG1 (by omega)
      have hB2 := hB1.trans (hbA.mono hB1.size)
      exact ⟨_, rfl, hC1.lt, hX1, hC2, hR2, hB2⟩
  case rest =>
  obtain ⟨g, rfl, hg2, hX, hC, hR, hB⟩ := hcut
  clear hCu hb C1 hv1
  go_step
  go_step
  have hX0 := hide hX; have hR0 := hide hR; have hB0 := hide hB; have hC0 := hide hC
  have c0 : wc.cell? ⟨g, 0, none⟩ = some (.int .i64 (n1 : Int)) := hX.cell 0 rfl
  go_cut [5] (fun t5 wx => t5 = .pointer (some ⟨g, 0, none⟩) ∧ RcAt t w wx g)
  case first =>
    clear CT
    by_cases h1 : n1 = 1
    · have e := unhide E1 h1
      subst h1
      clear E0 E1 E2 E3 CV CR
      go_wp2_with (go_at_call 33; refine (unhide CK _ _ hC).mono ?_; rintro e5 w5 ⟨rfl, hC5, hG5⟩
                   have hX5 := hX.grown hG5 (by simp; omega)
                   have hR5 := hR.grown hG5 (by simp)
                   have hB5 := below_gr hB hG5 (by omega)
                   clear hX hR hB hC c0
                   have p1 := hX5.cell 1 (v := .string ⟨#[]⟩) rfl
                   have z1 := hX5.frozen 1)
      go_meet
      case rel =>
        exact ⟨rfl, RcAt.mk e (hX5.set 1 (.string _)) (hC5.set_other (h := g) (k := 1) (by omega) _) (hR5.set_other (h := g) (k := 1) (by omega) _) (hB5.setCell (p := ⟨g, 1, none⟩) (show w.heap.size ≤ g by omega) _)⟩
    by_cases h2 : n1 = 2 ∨ n1 = 4
    · have e := unhide E2 h2
      clear E0 E1 E2 E3 CK CR
      have HH := hide hX
      have e1 : ¬ (n1 : Int) = 1 := by omega
      rcases h2 with h2 | h2
      all_goals
        subst h2
        go_wp2_with (go_at_call 34; refine (unhide CV _ _ hC).mono ?_; rintro e5 w5 ⟨rfl, hC5, hG5⟩
                     have hX5 := hX.grown hG5 (by simp; omega)
                     have hR5 := hR.grown hG5 (by simp)
                     have hB5 := below_gr hB hG5 (by omega)
                     clear hX hR hB hC c0 HH
                     have p1 := hX5.cell 2 (v := .int .i64 0) rfl
                     have z1 := hX5.frozen 2)
        go_meet
        case rel =>
          exact ⟨rfl, RcAt.mk e (hX5.set 2 (.int .i64 _)) (hC5.set_other (h := g) (k := 2) (by omega) _) (hR5.set_other (h := g) (k := 2) (by omega) _) (hB5.setCell (p := ⟨g, 2, none⟩) (show w.heap.size ≤ g by omega) _)⟩
    by_cases h3 : n1 = 3
    · have e := unhide E3 h3
      subst h3
      clear E0 E1 E2 E3 CV CK
      have hts : 1 ≤ t.size := unhide HT rfl
      have hx : (t.extract 1 t.size).size ≤ 1048576 := by rw [ByteArray.size_extract]; omega
      have CR2 := unhide CR hx
      clear CR
      generalize rdTh (t.extract 1 t.size) = th at *
      obtain ⟨id, kind, hid, fix, sgn, wrp, val, nxt⟩ := th
      simp only [thC] at CR2
      replace CR2 := hide CR2
      replace hX := hide hX; replace hR := hide hR; replace hB := hide hB; replace hC := hide hC
      go_upto_region 11 with (go_at_call 35; refine (unhide CR2 _).mono ?_; rintro e5 w5 ⟨rfl, hb5⟩
                              have hX5 := (unhide hX).step hb5
                              have hR5 := (unhide hR).step hb5
                              have hC5 := (unhide hC).step hb5
                              have hB5 := (unhide hB).trans (hb5.mono (unhide hB).size)
                              have p3 := hX5.cell 3 (v := .int .i64 0) rfl
                              have z3 := hX5.frozen 3
                              have qX3 := hX5.set 3 (.int .i64 id)
                              have qC3 := hC5.set_other (h := g) (k := 3) (by omega) (.int .i64 id)
                              have qR3 := hR5.set_other (h := g) (k := 3) (by omega) (.int .i64 id)
                              have qB3 := hB5.setCell (p := ⟨g, 3, none⟩) (show w.heap.size ≤ g by omega) (.int .i64 id)
                              have p4 := qX3.cell 4 (v := .int .i64 0) rfl
                              have z4 := qX3.frozen 4
                              have qX4 := qX3.set 4 (.int .i64 kind)
                              have qC4 := qC3.set_other (h := g) (k := 4) (by omega) (.int .i64 kind)
                              have qR4 := qR3.set_other (h := g) (k := 4) (by omega) (.int .i64 kind)
                              have qB4 := qB3.setCell (p := ⟨g, 4, none⟩) (show w.heap.size ≤ g by omega) (.int .i64 kind)
                              have p5 := qX4.cell 5 (v := .bool false) rfl
                              have z5 := qX4.frozen 5
                              have qX5 := qX4.set 5 (.bool hid)
                              have qC5 := qC4.set_other (h := g) (k := 5) (by omega) (.bool hid)
                              have qR5 := qR4.set_other (h := g) (k := 5) (by omega) (.bool hid)
                              have qB5 := qB4.setCell (p := ⟨g, 5, none⟩) (show w.heap.size ≤ g by omega) (.bool hid)
                              have p6 := qX5.cell 6 (v := .bool false) rfl
                              have z6 := qX5.frozen 6
                              have qX6 := qX5.set 6 (.bool fix)
                              have qC6 := qC5.set_other (h := g) (k := 6) (by omega) (.bool fix)
                              have qR6 := qR5.set_other (h := g) (k := 6) (by omega) (.bool fix)
                              have qB6 := qB5.setCell (p := ⟨g, 6, none⟩) (show w.heap.size ≤ g by omega) (.bool fix)
                              have p7 := qX6.cell 7 (v := .bool false) rfl
                              have z7 := qX6.frozen 7
                              have qX7 := qX6.set 7 (.bool sgn)
                              have qC7 := qC6.set_other (h := g) (k := 7) (by omega) (.bool sgn)
                              have qR7 := qR6.set_other (h := g) (k := 7) (by omega) (.bool sgn)
                              have qB7 := qB6.setCell (p := ⟨g, 7, none⟩) (show w.heap.size ≤ g by omega) (.bool sgn)
                              have p8 := qX7.cell 8 (v := .bool false) rfl
                              have z8 := qX7.frozen 8
                              have qX8 := qX7.set 8 (.bool wrp)
                              have qC8 := qC7.set_other (h := g) (k := 8) (by omega) (.bool wrp)
                              have qR8 := qR7.set_other (h := g) (k := 8) (by omega) (.bool wrp)
                              have qB8 := qB7.setCell (p := ⟨g, 8, none⟩) (show w.heap.size ≤ g by omega) (.bool wrp)
                              have p9 := qX8.cell 9 (v := .string ⟨#[]⟩) rfl
                              have z9 := qX8.frozen 9
                              have qX9 := qX8.set 9 (.string val)
                              have qC9 := qC8.set_other (h := g) (k := 9) (by omega) (.string val)
                              have qR9 := qR8.set_other (h := g) (k := 9) (by omega) (.string val)
                              have qB9 := qB8.setCell (p := ⟨g, 9, none⟩) (show w.heap.size ≤ g by omega) (.string val)
                              have p10 := qX9.cell 10 (v := .int .i64 0) rfl
                              have z10 := qX9.frozen 10
                              have qX10 := qX9.set 10 (.int .i64 nxt)
                              have qC10 := qC9.set_other (h := g) (k := 10) (by omega) (.int .i64 nxt)
                              have qR10 := qR9.set_other (h := g) (k := 10) (by omega) (.int .i64 nxt)
                              have qB10 := qB9.setCell (p := ⟨g, 10, none⟩) (show w.heap.size ≤ g by omega) (.int .i64 nxt)
                              clear qX3 qC3 qR3 qB3 qX4 qC4 qR4 qB4 qX5 qC5 qR5 qB5 qX6 qC6 qR6 qB6 qX7 qC7 qR7 qB7 qX8 qC8 qR8 qB8 qX9 qC9 qR9 qB9
                              replace qX10 := hide qX10; replace qC10 := hide qC10; replace qR10 := hide qR10; replace qB10 := hide qB10; replace e := hide e)
      go_meet
      case rel =>
        exact ⟨rfl, RcAt.mk (unhide e) (cb_eq (unhide qX10) rfl) (unhide qC10) (unhide qR10) (unhide qB10)⟩
    · have e := unhide E0 h1 (by omega) h3 (by omega)
      have e1 : ¬ (n1 : Int) = 1 := by omega
      have e2 : ¬ (n1 : Int) = 2 := by omega
      have e3 : ¬ (n1 : Int) = 3 := by omega
      have e4 : ¬ (n1 : Int) = 4 := by omega
      have d1 : ((n1 : Int) == 1) = false := by simpa using e1
      have d2 : ((n1 : Int) == 2) = false := by simpa using e2
      have d3 : ((n1 : Int) == 3) = false := by simpa using e3
      have d4 : ((n1 : Int) == 4) = false := by simpa using e4
      clear E0 E1 E2 E3 CK CR CV
      go_wp2
      go_meet
      case rel => exact ⟨rfl, RcAt.mk e hX hC hR hB⟩
  case rest =>
    obtain ⟨rfl, hA⟩ := hcut
    obtain ⟨a5, hX, hC, hR, hB⟩ := hA
    clear hX0 hR0 hB0 hC0 E0 E1 E2 E3 HT CV CK CR c0
    obtain ⟨fin, hfin⟩ : ∃ z, z = rcRdOk t := ⟨_, rfl⟩
    have hOk := rcRdOk_iff t
    have hRd : rcRd t = if rcRdOk t = true then (rcX t).1 else rcZ := rfl
    have hOk2 := rcOk_iff (rcX t).1
    rw [← hfin] at hOk
    generalize rcX t = xb at hX hC CT hOk hRd hOk2
    obtain ⟨x, b5⟩ := xb
    dsimp only at hX hC CT hOk hRd hOk2
    obtain ⟨ok, hok⟩ : ∃ z, z = rcOk x := ⟨_, rfl⟩
    obtain ⟨tb, htb⟩ : ∃ z, z = rcT x := ⟨_, rfl⟩
    rw [← hok] at CT hOk2
    rw [← htb] at CT hOk
    clear hok htb
    replace hX := hide hX; replace hC := hide hC; replace hR := hide hR; replace hB := hide hB; replace hRd := hide hRd; replace hfin := hide hfin
    go_step
    go_step
    go_upto_region 12 with (first
      | (refine wpList_load_row (P := Try.prog) rfl 27 (.tmp 5) rfl g rfl 27 (rcC x) (0, 0) _ (unhide hX) Try.underlying27 rfl rfl ?_)
      | (go_at_call 10; refine (unhide CT _).mono ?_; rintro e5 w5 ⟨rfl, hb5⟩))
    have hX2 := hide ((unhide hX).step hb5)
    have hR2 := hide ((unhide hR).step hb5)
    have hB2 := hide ((unhide hB).trans (hb5.mono (unhide hB).size))
    have k2 : w5.cell? ⟨w.heap.size + 1, 2, none⟩ = some (.bool b5) := ((unhide hC).step hb5).cell 2 rfl
    clear hX hR hB hC hb5 CT
    cases b5 with
    | true =>
        obtain rfl : fin = false := by cases fin with | false => rfl | true => exact absurd (hOk.1 rfl).1 (by simp)
        clear hOk hOk2 hX2
        go_wp2_with (refine wpList_store_row (P := Try.prog) rfl 27 (.tmp 2) (.tmp 54) rfl w.heap.size (rcC rcZ) rfl rfl 27 (rcC rcZ) (unhide hR2) rfl rfl (rc_one rcZ) ?_)
        have hR15 := setRow_heap _ w.heap.size _ (rcC rcZ) 27 (0, 0) (unhide hR2)
        have hB15 := Go.below_setRow (unhide hB2) (Nat.le_refl _) (rcC rcZ)
        exact bodyPost_ret (results_cb_tmp (by exact Try.results12) _ _ w.heap.size 27 (rcC rcZ) _ rfl hR15 Try.underlying27 rfl) rfl ⟨by rw [unhide hRd, ← unhide hfin]; rfl, hB15⟩
    | false =>
      cases ok with
      | false =>
        obtain rfl : fin = false := by cases fin with | false => rfl | true => exact absurd (hOk2.2 (hOk.1 rfl).2.1) (by simp)
        clear hOk hOk2 hX2
        go_wp2_with (refine wpList_store_row (P := Try.prog) rfl 27 (.tmp 2) (.tmp 54) rfl w.heap.size (rcC rcZ) rfl rfl 27 (rcC rcZ) (unhide hR2) rfl rfl (rc_one rcZ) ?_)
        have hR15 := setRow_heap _ w.heap.size _ (rcC rcZ) 27 (0, 0) (unhide hR2)
        have hB15 := Go.below_setRow (unhide hB2) (Nat.le_refl _) (rcC rcZ)
        exact bodyPost_ret (results_cb_tmp (by exact Try.results12) _ _ w.heap.size 27 (rcC rcZ) _ rfl hR15 Try.underlying27 rfl) rfl ⟨by rw [unhide hRd, ← unhide hfin]; rfl, hB15⟩
      | true =>
        by_cases he : tb = t
        · obtain rfl : fin = true := hOk.2 ⟨rfl, hOk2.1 rfl, he⟩
          have he' : (tb.toList == t.toList) = true := by rw [he]; exact beq_self_eq_true _
          replace he := hide he
          clear hOk hOk2
          go_wp2_with (first
            | (refine wpList_load_row (P := Try.prog) rfl 27 (.tmp 5) rfl g rfl 27 (rcC x) (0, 0) _ (unhide hX2) Try.underlying27 rfl rfl ?_)
            | (refine wpList_store_row (P := Try.prog) rfl 27 (.tmp 2) (.tmp 55) rfl w.heap.size (rcC x) rfl rfl 27 (rcC rcZ) (unhide hR2) rfl rfl (rc_one x) ?_))
          have hR15 := setRow_heap _ w.heap.size _ (rcC x) 27 (0, 0) (unhide hR2)
          have hB15 := Go.below_setRow (unhide hB2) (Nat.le_refl _) (rcC x)
          exact bodyPost_ret (results_cb_tmp (by exact Try.results12) _ _ w.heap.size 27 (rcC x) _ rfl hR15 Try.underlying27 rfl) rfl ⟨by rw [unhide hRd, ← unhide hfin]; rfl, hB15⟩
        · obtain rfl : fin = false := by cases fin with | false => rfl | true => exact absurd (hOk.1 rfl).2.2 he
          have he' : (tb.toList == t.toList) = false := neStr9 he
          replace he := hide he
          clear hOk hOk2 hX2
          go_wp2_with (refine wpList_store_row (P := Try.prog) rfl 27 (.tmp 2) (.tmp 54) rfl w.heap.size (rcC rcZ) rfl rfl 27 (rcC rcZ) (unhide hR2) rfl rfl (rc_one rcZ) ?_)
          have hR15 := setRow_heap _ w.heap.size _ (rcC rcZ) 27 (0, 0) (unhide hR2)
          have hB15 := Go.below_setRow (unhide hB2) (Nat.le_refl _) (rcC rcZ)
          exact bodyPost_ret (results_cb_tmp (by exact Try.results12) _ _ w.heap.size 27 (rcC rcZ) _ rfl hR15 Try.underlying27 rfl) rfl ⟨by rw [unhide hRd, ← unhide hfin]; rfl, hB15⟩
end Go.Proofs.Ytkbbcjnickgfjaa

/- The law of the records that are read, over the loaded program. -/
namespace Go.Proofs.Ytkbbcjnickgfjaa
open Go.RowKit
set_option maxRecDepth 20000 in
set_option maxHeartbeats 2000000 in
theorem eqRec_any (r : Rc) (w : World) :
    Calls Try.prog 20 #[.agg (rcC r), .agg (rcC r)] w fun e w' => e = .returned (.bool true) ∧ Below w.heap.size w w' := by
  have C := fun W => eqThing_any r.th W
  obtain ⟨kd, tx, nm, ⟨id, kind, hid, fix, sgn, wrp, val, nxt⟩⟩ := r
  simp only [rcC, thC] at C ⊢
  replace C := hide C
  obtain ⟨W, hW, hA, hB, hb, hlt⟩ := two_cb w #[.int .i64 kd, .string tx, .int .i64 nm, .int .i64 id, .int .i64 kind, .bool hid, .bool fix, .bool sgn, .bool wrp, .string val, .int .i64 nxt] #[.int .i64 kd, .string tx, .int .i64 nm, .int .i64 id, .int .i64 kind, .bool hid, .bool fix, .bool sgn, .bool wrp, .string val, .int .i64 nxt] 27 27
  have a0 := hA.cell 0 rfl
  have b0 := hB.cell 0 rfl
  have a1 := hA.cell 1 rfl
  have b1 := hB.cell 1 rfl
  have a2 := hA.cell 2 rfl
  have b2 := hB.cell 2 rfl
  have a3 := hA.cell 3 rfl
  have b3 := hB.cell 3 rfl
  have a4 := hA.cell 4 rfl
  have b4 := hB.cell 4 rfl
  have a5 := hA.cell 5 rfl
  have b5 := hB.cell 5 rfl
  have a6 := hA.cell 6 rfl
  have b6 := hB.cell 6 rfl
  have a7 := hA.cell 7 rfl
  have b7 := hB.cell 7 rfl
  have a8 := hA.cell 8 rfl
  have b8 := hB.cell 8 rfl
  have a9 := hA.cell 9 rfl
  have b9 := hB.cell 9 rfl
  have a10 := hA.cell 10 rfl
  have b10 := hB.cell 10 rfl
  clear hA hB
  go_enter Try.func20, Try.ntmps20
  go_upto_region 1 with fail
  first | rw [hW] | skip
  clear hW
  go_wp2_with (go_at_call 50; refine (unhide C _).mono ?_; rintro e w1 ⟨rfl, hb1⟩)
  go_ret
  exact ⟨rfl, hb.trans (hb1.mono hb.size)⟩
set_option maxRecDepth 20000 in
set_option maxHeartbeats 2000000 in
theorem lawReadRec_any (t : ByteArray) (w : World) (CI : t.size ≤ 1048576 → ∀ W : World, Below w.heap.size w W → Calls Try.prog 9 #[.string t] W fun e w' => e = .returned (.tuple #[.agg (rcC (rcRd t)), .bool (rcRdOk t)]) ∧ Below W.heap.size W w') :
    Calls Try.prog 5 #[.string t] w fun e w' => e = .returned (.bool true) ∧ Below w.heap.size w w' := by
  by_cases h1 : (1048576 : Int) < (t.size : Int)
  · go_enter Try.func5, Try.ntmps5
    go_wp2
    go_ret
    exact ⟨rfl, Below.refl _ _⟩
  have ns : t.size ≤ 1048576 := by omega
  have CS := hide (specReadRec_any t ns w)
  replace CI := hide (CI ns)
  generalize (rcRd t) = x at *
  generalize (rcRdOk t) = r at *
  have CE := hide (fun W => eqRec_any x W)
  obtain ⟨kd, tx, nm, ⟨id, kind, hid, fix, sgn, wrp, val, nxt⟩⟩ := x
  unfold rcC at CS CI CE
  simp only at CS CI CE
  go_enter Try.func5, Try.ntmps5
  go_wp2_with fail
  refine (unhide CS).mono ?_
  rintro e w1 ⟨rfl, hb1⟩
  go_wp2_with fail
  obtain ⟨W2, hW, P1, hB, hs1⟩ := one_cb w1 #[.int .i64 kd, .string tx, .int .i64 nm, .int .i64 id, .int .i64 kind, .bool hid, .bool fix, .bool sgn, .bool wrp, .string val, .int .i64 nxt] 27
  rw [hW]
  clear hW
  have T2 := hb1.trans (hB.mono hb1.size)
  clear hb1 hB CS
  refine (unhide CI W2 T2).mono ?_
  rintro e w3 ⟨rfl, hb3⟩
  have T3 := T2.trans (hb3.mono T2.size)
  have P1b := P1.step hb3
  clear hb3 T2 P1 CI
  have q0 := P1b.cell 0 rfl
  have q1 := P1b.cell 1 rfl
  have q2 := P1b.cell 2 rfl
  have q3 := P1b.cell 3 rfl
  have q4 := P1b.cell 4 rfl
  have q5 := P1b.cell 5 rfl
  have q6 := P1b.cell 6 rfl
  have q7 := P1b.cell 7 rfl
  have q8 := P1b.cell 8 rfl
  have q9 := P1b.cell 9 rfl
  have q10 := P1b.cell 10 rfl
  have hl13 := P1b.lt
  go_wp2_with fail
  obtain ⟨W4, hW, P2, hB, hs4⟩ := one_cb w3 #[.int .i64 kd, .string tx, .int .i64 nm, .int .i64 id, .int .i64 kind, .bool hid, .bool fix, .bool sgn, .bool wrp, .string val, .int .i64 nxt] 27
  first | rw [hW] | skip
  clear hW
  have T4 := T3.trans (hB.mono T3.size)
  clear hB T3
  refine (unhide CE W4).mono ?_
  rintro e w5 ⟨rfl, hb5⟩
  have T5 := T4.trans (hb5.mono T4.size)
  clear hb5 T4 CE P1b P2
  clear q0 q1 q2 q3 q4 q5 q6 q7 q8 q9 q10
  go_wp2
  go_ret
  exact ⟨rfl, T5⟩
end Go.Proofs.Ytkbbcjnickgfjaa

