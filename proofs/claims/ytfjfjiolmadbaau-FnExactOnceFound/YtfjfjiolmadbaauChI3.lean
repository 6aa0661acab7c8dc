/- Keys for once by the project's own functions: parts of chains, keys, signatures, what is found, over the loaded program. -/
import Derived.Test.YtfjfjiolmadbaauChI2
import Derived.Test.YtfjfjiolmadbaauTxs
namespace Go.Proofs.Ytfjfjiolmadbaau
open Go.RowKit
def dgL (dg : Nat → Nat) : List Int := (List.range 10).map (fun i => (dg i : Int))
theorem dgL_len (dg : Nat → Nat) : (dgL dg).length = 10 := by unfold dgL; rw [List.length_map, List.length_range]
theorem dgL_at (dg : Nat → Nat) (i : Nat) (hi : i < 10) : (dgL dg)[i]? = some (dg i : Int) := by
  unfold dgL
  rw [List.getElem?_map, List.getElem?_range hi]
  rfl
theorem dgL_digL (m : ByteArray) : dgL (dgAt m) = digL m := by
  rw [← dgS_all]
  unfold dgL dgS dgF
  apply List.map_congr_left
  intro i hi
  rw [if_pos (List.mem_range.1 hi)]
theorem dgL_zero : (#[.int .i64 0, .int .i64 0, .int .i64 0, .int .i64 0, .int .i64 0, .int .i64 0, .int .i64 0, .int .i64 0, .int .i64 0, .int .i64 0] : Array Value) = ((dgL (fun _ => 0)).map iv).toArray := rfl
theorem ownV_of_full14 {w : World} {base g n : Nat} {e : TypeId} {xs : List Value} (hb : base ≤ g) (hm : n ≤ maxLen) (hl : xs.length = n) (h : w.heap[g]? = some (.cells xs.toArray e (0, 0))) : OwnV w base e (.slice (some ⟨g, 0, none⟩) n n) xs := by
  refine ⟨by rw [Nat.mul_one], .inr ⟨g, n, xs.toArray, by rw [hl], hb, h, by omega, hm, by simp [hl], ?_⟩⟩
  simp
theorem steps_le (n : Nat) (h : n ≤ 15) : stepsN (n : Int) = n := by unfold stepsN; rw [if_pos (by omega)]; omega
set_option maxRecDepth 20000 in
set_option maxHeartbeats 1000000 in
theorem gone_any (dg : Nat → Nat) (hdg : ∀ i, dg i ≤ 15) (k : Nat) (hk : k < 10) (w : World) :
    Calls Try.prog 24 #[.agg ((dgL dg).map iv).toArray, .int .i64 (k : Int)] w fun e w' => e = .returned (.tuple #[.int .i64 0, .int .i64 (dg k : Int)]) ∧ Below w.heap.size w w' := by
  obtain ⟨W, hW, hC, hb, hlt⟩ := one_cb w ((dgL dg).map iv).toArray 36
  have hd := hdg k
  have c0 : W.cell? ⟨w.heap.size, k, none⟩ = some (.int .i64 (dg k : Int)) := ia_cell hC (dgL_at dg k hk)
  have I1 := idx10 w.heap.size k (by omega)
  generalize dg k = d at *
  replace hC := hide hC
  clear hdg
  go_enter Try.func24, Try.ntmps24
  go_wp2
  go_quiet (fail)
  go_wp2
  exact bodyPost_ret (results_tmp2 (by exact Try.results24) _ _ _) rfl ⟨rfl, bDN hb _⟩
--#if (loop.example/g00186/impl.onceDigits).gone
set_option maxRecDepth 20000 in
set_option maxHeartbeats 1000000 in
theorem ends_gone (dg : Nat → Nat) (hdg : ∀ i, dg i ≤ 15) (l : List ByteArray) (leaf : Int) (v : Value) (w : World) (hr : RdV w v (l.map sv)) (h10 : l.length = 10) (hl : ∀ x ∈ l, x.size ≤ 1048576) :
    Calls Try.prog 22 #[v, .int .i64 leaf, .func (Fn.func 24) #[.agg ((dgL dg).map iv).toArray] #[]] w fun e w' => (∃ a c, e = .returned (.slice a 10 c) ∧ OwnV w' w.heap.size 9 (.slice a 10 c) (((List.range 10).map (fun i => chnB (bAt l i) leaf (i : Int) 0 (dg i))).map sv)) ∧ Below w.heap.size w w' := by
  obtain ⟨i0, hi, hz0, hz1, hz2⟩ := info_parts infoTxt
  obtain ⟨a, c, rfl, hc⟩ := hr.open
  rw [List.length_map, h10]
  clear hr
  have CP := hide (fun (k : Nat) (hk : k < 10) W => gone_any dg hdg k hk W)
  have CH := hide (show ∀ (k : Nat), k < 10 → ∀ W, Calls Try.prog 29 #[.string (bAt l k), .int .i64 leaf, .int .i64 (k : Int), .int .i64 0, .int .i64 (dg k : Int)] W fun e w' => e = .returned (.string (chnB (bAt l k) leaf (k : Int) 0 (dg k))) ∧ Below W.heap.size W w' from fun k hk W => by
    have h := implChain_any (bAt l k) leaf (k : Int) 0 (dg k : Int) (bAt_size l k _ (by omega) hl) W
    rw [steps_le _ (by have := hdg k; omega)] at h
    exact h)
  obtain ⟨F, hF⟩ : ∃ F : Nat → ByteArray, F = fun i => chnB (bAt l i) leaf (i : Int) 0 (dg i) := ⟨_, rfl⟩
  have CH2 := hide (show ∀ (k : Nat), k < 10 → ∀ W, Calls Try.prog 29 #[.string (bAt l k), .int .i64 leaf, .int .i64 (k : Int), .int .i64 0, .int .i64 (dg k : Int)] W fun e w' => e = .returned (.string (F k)) ∧ Below W.heap.size W w' from fun k hk W => by rw [hF]; exact unhide CH k hk W)
  rw [← hF]
  obtain ⟨L, hL⟩ : ∃ L : List Value, L = ((List.range 10).map F).map sv := ⟨_, rfl⟩
  have hLl := hide (show L.length = 10 by rw [hL, List.length_map, List.length_map, List.length_range])
  have hLk := hide (show ∀ k, k < 10 → L[k]? = some (.string (F k)) from fun k hk => by rw [hL, List.getElem?_map, List.getElem?_map, List.getElem?_range hk]; rfl)
  rw [← hL]
  replace hF := hide hF
  replace hL := hide hL
  replace h10 := hide h10
  generalize ((dgL dg).map iv).toArray = A at *
  clear CH hl hdg
  go_enter Try.func22, Try.ntmps22
  go_wp2_with (at_make; refine wpList_make_full _ rfl _ _ 22 rfl w.heap.size 9 i0 (.string ⟨#[]⟩) 1 Try.underlying22 hi hz0 hz1 _ _ _ _ 10 rfl rfl rfl rfl (by rw [hz2]; omega) (by unfold maxLen; omega) (Nat.le_refl _) ?_; intro w1 hown1 hgrow1)
  have hr0 : OwnV w1 w.heap.size 9 (.slice (some ⟨w.heap.size, 0, none⟩) 10 10) (L.take 0 ++ List.replicate (10 - 0) (.string ⟨#[]⟩)) := by
    rw [madeT] at hown1
    unfold OwnV
    simpa using hown1
  have hb0 : Below w.heap.size w w1 := (Below.refl w.heap.size w).grown hgrow1 (Nat.le_refl _) (fun k hk => by cases hk)
  clear hown1 hgrow1
  go_loopw [15] (fun ti wr => ∃ k : Nat, k ≤ 10 ∧ ti = .int .i64 k ∧ Hid (OwnV wr w.heap.size 9 (.slice (some ⟨w.heap.size, 0, none⟩) 10 10) (L.take k ++ List.replicate (10 - k) (.string ⟨#[]⟩))) ∧ Below w.heap.size w wr ∧ w.heap.size < wr.heap.size) (fun ti _ => 10 - (intOf ti).toNat)
  case atStart => exact ⟨0, Nat.zero_le _, rfl, hide hr0, hb0, (hr0.lt _ rfl).2⟩
  case round =>
    obtain ⟨k, hk, rfl, HO, hb, hszz⟩ := hrel
    clear hr0 hb0
    by_cases hlt : k < 10
    · have hk' : (k : Int) < 10 := by omega
      have hk0 : (0 : Int) ≤ (k : Int) := by omega
      obtain ⟨g, o, rfl, hg, d1⟩ := hc k _ (bAt_get l k (by rw [unhide h10]; exact hlt))
      have d2 := (hb.cell (p := ⟨g, o + k, none⟩) hg).trans d1
      have c1 := hide (unhide CP k hlt)
      have c2 := hide (unhide CH2 k hlt)
      have HF := hide (fillV (z := .string ⟨#[]⟩) (unhide hLk k hlt) (unhide hLl))
      generalize bAt l k = x at *
      generalize F k = y at *
      generalize dg k = dd at *
      clear hc d1 CP CH2
      go_wp2_with (go_at_call 24; refine (unhide c1 _).mono ?_; rintro e w2 ⟨rfl, hb2⟩; have hB2 := hb.trans (hb2.mono hb.size); have HO2 := hide ((unhide HO).below hb2); have hs2 := Nat.lt_of_lt_of_le hszz hb2.size)
      go_wp2_with (go_at_call 29; refine (unhide c2 _).mono ?_; rintro e w3 ⟨rfl, hb3⟩; have hB3 := hB2.trans (hb3.mono hB2.size); have HO3 := (unhide HO2).below hb3; have hs3 := Nat.lt_of_lt_of_le hs2 hb3.size; obtain ⟨u, hu⟩ : ∃ u, (L.take k ++ List.replicate (10 - k) (.string ⟨#[]⟩))[k]? = some u := ⟨_, List.getElem?_eq_getElem (by have := HO3.len; omega)⟩; have cu := HO3.cell hu; have cz := HO3.frozen k; have ho2 := HO3.set k (.string y); rw [unhide HF] at ho2; replace ho2 := hide ho2; replace HO3 := hide HO3; clear hu)
      go_roundw
      case rel => exact ⟨k + 1, by omega, by go_num, ho2, hB3.setCell (p := ⟨w.heap.size, k, none⟩) (Nat.le_refl _) _, by simpa using hs3⟩
      case measure => simp [intOf]; omega
    · have hk' : ¬ (k : Int) < 10 := by omega
      obtain rfl : k = 10 := by omega
      have e2 : L.take 10 ++ List.replicate (10 - 10) (.string ⟨#[]⟩) = L := by
        rw [Nat.sub_self, List.take_of_length_le (by rw [unhide hLl]; exact Nat.le_refl _)]
        simp
      rw [e2] at HO
      clear hc
      go_wp2
      go_ret
      exact ⟨⟨_, _, rfl, unhide HO⟩, hb⟩
--#end
set_option maxRecDepth 20000 in
set_option maxHeartbeats 1000000 in
theorem left_any (dg : Nat → Nat) (hdg : ∀ i, dg i ≤ 15) (k : Nat) (hk : k < 10) (w : World) :
    Calls Try.prog 20 #[.agg ((dgL dg).map iv).toArray, .int .i64 (k : Int)] w fun e w' => e = .returned (.tuple #[.int .i64 (dg k : Int), .int .i64 ((15 - dg k : Nat) : Int)]) ∧ Below w.heap.size w w' := by
  obtain ⟨W, hW, hC, hb, hlt⟩ := one_cb w ((dgL dg).map iv).toArray 36
  have hd := hdg k
  have c0 : W.cell? ⟨w.heap.size, k, none⟩ = some (.int .i64 (dg k : Int)) := ia_cell hC (dgL_at dg k hk)
  have I1 := idx10 w.heap.size k (by omega)
  obtain ⟨s, hs⟩ : ∃ s : Nat, s = 15 - dg k := ⟨_, rfl⟩
  rw [← hs]
  have q1 : IntKind.i64.wrap (15 - (dg k : Int)) = (s : Int) := by rw [IntKind.wrap_i64]; omega
  replace hs := hide hs
  generalize dg k = d at *
  replace hC := hide hC
  clear hdg
  go_enter Try.func20, Try.ntmps20
  go_wp2
  go_quiet (fail)
  go_wp2
  exact bodyPost_ret (results_tmp2 (by exact Try.results20) _ _ _) rfl ⟨rfl, bDN hb _⟩
--#if (loop.example/g00186/impl.onceDigits).left
set_option maxRecDepth 20000 in
set_option maxHeartbeats 1000000 in
theorem ends_left (dg : Nat → Nat) (hdg : ∀ i, dg i ≤ 15) (l : List ByteArray) (leaf : Int) (v : Value) (w : World) (hr : RdV w v (l.map sv)) (h10 : l.length = 10) (hl : ∀ x ∈ l, x.size ≤ 1048576) :
    Calls Try.prog 22 #[v, .int .i64 leaf, .func (Fn.func 20) #[.agg ((dgL dg).map iv).toArray] #[]] w fun e w' => (∃ a c, e = .returned (.slice a 10 c) ∧ OwnV w' w.heap.size 9 (.slice a 10 c) (((List.range 10).map (fun i => chnB (bAt l i) leaf (i : Int) (dg i : Int) (15 - dg i))).map sv)) ∧ Below w.heap.size w w' := by
  obtain ⟨i0, hi, hz0, hz1, hz2⟩ := info_parts infoTxt
  obtain ⟨a, c, rfl, hc⟩ := hr.open
  rw [List.length_map, h10]
  clear hr
  have CP := hide (fun (k : Nat) (hk : k < 10) W => left_any dg hdg k hk W)
  have CH := hide (show ∀ (k : Nat), k < 10 → ∀ W, Calls Try.prog 29 #[.string (bAt l k), .int .i64 leaf, .int .i64 (k : Int), .int .i64 (dg k : Int), .int .i64 ((15 - dg k : Nat) : Int)] W fun e w' => e = .returned (.string (chnB (bAt l k) leaf (k : Int) (dg k : Int) (15 - dg k))) ∧ Below W.heap.size W w' from fun k hk W => by
    have h := implChain_any (bAt l k) leaf (k : Int) (dg k : Int) ((15 - dg k : Nat) : Int) (bAt_size l k _ (by omega) hl) W
    rw [steps_le _ (by have := hdg k; omega)] at h
    exact h)
  obtain ⟨F, hF⟩ : ∃ F : Nat → ByteArray, F = fun i => chnB (bAt l i) leaf (i : Int) (dg i : Int) (15 - dg i) := ⟨_, rfl⟩
  have CH2 := hide (show ∀ (k : Nat), k < 10 → ∀ W, Calls Try.prog 29 #[.string (bAt l k), .int .i64 leaf, .int .i64 (k : Int), .int .i64 (dg k : Int), .int .i64 ((15 - dg k : Nat) : Int)] W fun e w' => e = .returned (.string (F k)) ∧ Below W.heap.size W w' from fun k hk W => by rw [hF]; exact unhide CH k hk W)
  rw [← hF]
  obtain ⟨L, hL⟩ : ∃ L : List Value, L = ((List.range 10).map F).map sv := ⟨_, rfl⟩
  have hLl := hide (show L.length = 10 by rw [hL, List.length_map, List.length_map, List.length_range])
  have hLk := hide (show ∀ k, k < 10 → L[k]? = some (.string (F k)) from fun k hk => by rw [hL, List.getElem?_map, List.getElem?_map, List.getElem?_range hk]; rfl)
  rw [← hL]
  replace hF := hide hF
  replace hL := hide hL
  replace h10 := hide h10
  generalize ((dgL dg).map iv).toArray = A at *
  clear CH hl hdg
  go_enter Try.func22, Try.ntmps22
  go_wp2_with (at_make; refine wpList_make_full _ rfl _ _ 22 rfl w.heap.size 9 i0 (.string ⟨#[]⟩) 1 Try.underlying22 hi hz0 hz1 _ _ _ _ 10 rfl rfl rfl rfl (by rw [hz2]; omega) (by unfold maxLen; omega) (Nat.le_refl _) ?_; intro w1 hown1 hgrow1)
  have hr0 : OwnV w1 w.heap.size 9 (.slice (some ⟨w.heap.size, 0, none⟩) 10 10) (L.take 0 ++ List.replicate (10 - 0) (.string ⟨#[]⟩)) := by
    rw [madeT] at hown1
    unfold OwnV
    simpa using hown1
  have hb0 : Below w.heap.size w w1 := (Below.refl w.heap.size w).grown hgrow1 (Nat.le_refl _) (fun k hk => by cases hk)
  clear hown1 hgrow1
  go_loopw [15] (fun ti wr => ∃ k : Nat, k ≤ 10 ∧ ti = .int .i64 k ∧ Hid (OwnV wr w.heap.size 9 (.slice (some ⟨w.heap.size, 0, none⟩) 10 10) (L.take k ++ List.replicate (10 - k) (.string ⟨#[]⟩))) ∧ Below w.heap.size w wr ∧ w.heap.size < wr.heap.size) (fun ti _ => 10 - (intOf ti).toNat)
  case atStart => exact ⟨0, Nat.zero_le _, rfl, hide hr0, hb0, (hr0.lt _ rfl).2⟩
  case round =>
    obtain ⟨k, hk, rfl, HO, hb, hszz⟩ := hrel
    clear hr0 hb0
    by_cases hlt : k < 10
    · have hk' : (k : Int) < 10 := by omega
      have hk0 : (0 : Int) ≤ (k : Int) := by omega
      obtain ⟨g, o, rfl, hg, d1⟩ := hc k _ (bAt_get l k (by rw [unhide h10]; exact hlt))
      have d2 := (hb.cell (p := ⟨g, o + k, none⟩) hg).trans d1
      have c1 := hide (unhide CP k hlt)
      have c2 := hide (unhide CH2 k hlt)
      have HF := hide (fillV (z := .string ⟨#[]⟩) (unhide hLk k hlt) (unhide hLl))
      generalize bAt l k = x at *
      generalize F k = y at *
      generalize dg k = dd at *
      clear hc d1 CP CH2
      go_wp2_with (go_at_call 20; refine (unhide c1 _).mono ?_; rintro e w2 ⟨rfl, hb2⟩; have hB2 := hb.trans (hb2.mono hb.size); have HO2 := hide ((unhide HO).below hb2); have hs2 := Nat.lt_of_lt_of_le hszz hb2.size)
      go_wp2_with (go_at_call 29; refine (unhide c2 _).mono ?_; rintro e w3 ⟨rfl, hb3⟩; have hB3 := hB2.trans (hb3.mono hB2.size); have HO3 := (unhide HO2).below hb3; have hs3 := Nat.lt_of_lt_of_le hs2 hb3.size; obtain ⟨u, hu⟩ : ∃ u, (L.take k ++ List.replicate (10 - k) (.string ⟨#[]⟩))[k]? = some u := ⟨_, List.getElem?_eq_getElem (by have := HO3.len; omega)⟩; have cu := HO3.cell hu; have cz := HO3.frozen k; have ho2 := HO3.set k (.string y); rw [unhide HF] at ho2; replace ho2 := hide ho2; replace HO3 := hide HO3; clear hu)
      go_roundw
      case rel => exact ⟨k + 1, by omega, by go_num, ho2, hB3.setCell (p := ⟨w.heap.size, k, none⟩) (Nat.le_refl _) _, by simpa using hs3⟩
      case measure => simp [intOf]; omega
    · have hk' : ¬ (k : Int) < 10 := by omega
      obtain rfl : k = 10 := by omega
      have e2 : L.take 10 ++ List.replicate (10 - 10) (.string ⟨#[]⟩) = L := by
        rw [Nat.sub_self, List.take_of_length_le (by rw [unhide hLl]; exact Nat.le_refl _)]
        simp
      rw [e2] at HO
      clear hc
      go_wp2
      go_ret
      exact ⟨⟨_, _, rfl, unhide HO⟩, hb⟩
--#end
theorem catC_flat (F : Nat → ByteArray) (k : Nat) : (catC F k).data.toList = (((List.range k).map F).map (·.data.toList)).flatten := by
  induction k with
  | zero => rfl
  | succ k ih =>
    show (catC F k ++ F k).data.toList = _
    rw [ByteArray.data_append, Array.toList_append, ih, List.range_succ, List.map_append, List.map_append, List.flatten_append]
    simp
set_option maxRecDepth 20000 in
set_option maxHeartbeats 1000000 in
theorem chopEnds_left (dg : Nat → Nat) (hdg : ∀ i, dg i ≤ 15) (l : List ByteArray) (leaf : Int) (v : Value) (w : World) (hr : RdV w v (l.map sv)) (hl : sumS l ≤ 1048576) :
    Calls Try.prog 19 #[v, .int .i64 leaf, .func (Fn.func 20) #[.agg ((dgL dg).map iv).toArray] #[]] w fun e w' => e = .returned (.string (if l.length = 10 then chopB (catC (fun i => chnB (bAt l i) leaf (i : Int) (dg i : Int) (15 - dg i)) 10) else ⟨#[]⟩)) ∧ Below w.heap.size w w' := by
  by_cases h10 : l.length = 10
  · rw [if_pos h10]
    have CE := hide (ends_left dg hdg l leaf v w hr h10 (sumS_le l _ hl))
    obtain ⟨F, hF⟩ : ∃ F : Nat → ByteArray, F = fun i => chnB (bAt l i) leaf (i : Int) (dg i : Int) (15 - dg i) := ⟨_, rfl⟩
    have hz : (catC F 10).size ≤ 4000000 := by
      have h := catC_sum l F (fun i => by rw [hF]; exact chn_le _ _ _ _ _) 10 (by omega)
      rw [show l.take 10 = l from List.take_of_length_le (by omega)] at h
      omega
    rw [← hF] at CE ⊢
    have hfl := hide (catC_flat F 10)
    obtain ⟨T, hT⟩ : ∃ T, T = catC F 10 := ⟨_, rfl⟩
    rw [← hT] at hz hfl ⊢
    obtain ⟨xs, hxs⟩ : ∃ xs, xs = (List.range 10).map F := ⟨_, rfl⟩
    rw [← hxs] at CE hfl
    have hxl : xs.length = 10 := by rw [hxs, List.length_map, List.length_range]
    obtain ⟨a, c, rfl⟩ := hr.shape
    rw [List.length_map, h10] at CE ⊢
    generalize ((dgL dg).map iv).toArray = A at *
    obtain ⟨R, hR⟩ : ∃ R, R = chopB T := ⟨_, rfl⟩
    rw [← hR]
    replace hF := hide hF; replace hT := hide hT; replace hxs := hide hxs; replace h10 := hide h10
    clear hr
    go_enter Try.func19, Try.ntmps19
    go_wp2_with fail
    refine (unhide CE).mono ?_
    rintro e w1 ⟨⟨a1, c1, rfl, ho⟩, hb1⟩
    obtain ⟨g, rfl, _, hg⟩ := ho.some_at (by simp)
    have hcap : 10 ≤ c1 := by
      rcases ho.2 with ⟨h1, _⟩ | ⟨g', cap, cur, h1, _, _, h4, _⟩
      · cases h1
      · rw [List.length_map, hxl] at h1 h4
        injection h1 with _ _ h5
        omega
    have C2 := hide (chopParts_any g 0 c1 10 xs hxl T (unhide hfl) hz w1 (fun j x hx => by rw [Nat.zero_add]; exact ho.cell (by rw [List.getElem?_map, hx]; rfl)) hg hcap (by omega))
    rw [← hR] at C2
    replace hR := hide hR; replace ho := hide ho
    go_wp2_with fail
    refine (unhide C2).mono ?_
    rintro e w2 ⟨rfl, hb2⟩
    have hB := hb1.trans (hb2.mono hb1.size)
    clear hb1 hb2 C2 CE
    go_wp2
    go_ret
    exact ⟨rfl, hB⟩
  · rw [if_neg h10]
    obtain ⟨a, c, rfl⟩ := hr.shape
    rw [List.length_map]
    have h10' : ¬ (l.length : Int) = 10 := by omega
    generalize ((dgL dg).map iv).toArray = A at *
    clear hr
    go_enter Try.func19, Try.ntmps19
    go_wp2
    go_ret
    exact ⟨rfl, Below.refl _ _⟩
set_option maxRecDepth 20000 in
set_option maxHeartbeats 1000000 in
theorem implOncePublic_any (l : List ByteArray) (leaf : Int) (v : Value) (w : World) (hr : RdV w v (l.map sv)) (hl : sumS l ≤ 1048576) :
    Calls Try.prog 9 #[v, .int .i64 leaf] w fun e w' => e = .returned (.string (onceP l leaf)) ∧ Below w.heap.size w w' := by
  have C := hide (chopEnds_left (fun _ => 0) (fun _ => Nat.zero_le _) l leaf v w hr hl)
  rw [← dgL_zero] at C
  have E : onceP l leaf = (if l.length = 10 then chopB (catC (fun i => chnB (bAt l i) leaf (i : Int) (((fun _ => 0 : Nat → Nat) i : Nat) : Int) (15 - (fun _ => 0 : Nat → Nat) i)) 10) else ⟨#[]⟩) := rfl
  rw [E]
  generalize (if l.length = 10 then chopB (catC (fun i => chnB (bAt l i) leaf (i : Int) (((fun _ => 0 : Nat → Nat) i : Nat) : Int) (15 - (fun _ => 0 : Nat → Nat) i)) 10) else ⟨#[]⟩) = R at *
  obtain ⟨a, c, rfl⟩ := hr.shape
  rw [List.length_map] at C ⊢
  clear hr
  go_enter Try.func9, Try.ntmps9
  go_wp2_with fail
  refine (unhide C).mono ?_
  rintro e w1 ⟨rfl, hb1⟩
  go_wp2
  go_ret
  exact ⟨rfl, hb1⟩
set_option maxRecDepth 20000 in
set_option maxHeartbeats 1000000 in
theorem implOnceFound_any (l : List ByteArray) (leaf : Int) (m : ByteArray) (v : Value) (w : World) (hr : RdV w v (l.map sv)) (hl : sumS l ≤ 1048576) (hm : m.size ≤ 4000000) :
    Calls Try.prog 16 #[v, .int .i64 leaf, .string m] w fun e w' => e = .returned (.string (onceF l leaf m)) ∧ Below w.heap.size w w' := by
  have CD := hide (digitsFor_any m hm w)
  have C := hide (fun W (h : Below w.heap.size w W) => chopEnds_left (dgAt m) (dgAt_le m) l leaf v W (hr.below h) hl)
  rw [← dgL_digL] at CD
  have E : onceF l leaf m = (if l.length = 10 then chopB (catC (fun i => chnB (bAt l i) leaf (i : Int) (dgAt m i : Int) (15 - dgAt m i)) 10) else ⟨#[]⟩) := rfl
  rw [E]
  generalize (if l.length = 10 then chopB (catC (fun i => chnB (bAt l i) leaf (i : Int) (dgAt m i : Int) (15 - dgAt m i)) 10) else ⟨#[]⟩) = R at *
  obtain ⟨a, c, rfl⟩ := hr.shape
  rw [List.length_map] at C ⊢
  generalize ((dgL (dgAt m)).map iv).toArray = A at *
  clear hr
  go_enter Try.func16, Try.ntmps16
  go_wp2_with fail
  refine (unhide CD).mono ?_
  rintro e w1 ⟨rfl, hb1⟩
  go_wp2_with fail
  refine (unhide C w1 hb1).mono ?_
  rintro e w2 ⟨rfl, hb2⟩
  have hB := hb1.trans (hb2.mono hb1.size)
  clear hb1 hb2 C CD
  go_wp2
  go_ret
  exact ⟨rfl, hB⟩
set_option maxRecDepth 20000 in
set_option maxHeartbeats 1000000 in
theorem implOnceSign_any (l : List ByteArray) (leaf : Int) (m : ByteArray) (v : Value) (w : World) (hr : RdV w v (l.map sv)) (hl : sumS l ≤ 1048576) (hm : m.size ≤ 4000000) :
    Calls Try.prog 12 #[v, .int .i64 leaf, .string m] w fun e w' => (∃ v, e = .returned v ∧ OwnV w' w.heap.size 9 v ((onceS l leaf m).map sv)) ∧ Below w.heap.size w w' := by
  by_cases h10 : l.length = 10
  · have CD := hide (digitsFor_any m hm w)
    have C := hide (fun W (h : Below w.heap.size w W) => ends_gone (dgAt m) (dgAt_le m) l leaf v W (hr.below h) h10 (sumS_le l _ hl))
    rw [← dgL_digL] at CD
    have E : onceS l leaf m = (List.range 10).map (fun i => chnB (bAt l i) leaf (i : Int) 0 (dgAt m i)) := by unfold onceS; rw [if_pos h10]
    rw [E]
    generalize (List.range 10).map (fun i => chnB (bAt l i) leaf (i : Int) 0 (dgAt m i)) = R at *
    obtain ⟨a, c, rfl⟩ := hr.shape
    rw [List.length_map, h10] at C ⊢
    generalize ((dgL (dgAt m)).map iv).toArray = A at *
    clear hr E
    replace h10 := hide h10
    go_enter Try.func12, Try.ntmps12
    go_wp2_with fail
    refine (unhide CD).mono ?_
    rintro e w1 ⟨rfl, hb1⟩
    go_wp2_with fail
    refine (unhide C w1 hb1).mono ?_
    rintro e w2 ⟨⟨a1, c1, rfl, ho⟩, hb2⟩
    have hB := hb1.trans (hb2.mono hb1.size)
    have ho2 := hide (ho.low hb1.size)
    clear hb1 hb2 C CD ho
    go_wp2
    go_ret
    exact ⟨⟨_, rfl, unhide ho2⟩, hB⟩
  · have E : onceS l leaf m = [] := by unfold onceS; rw [if_neg h10]
    rw [E]
    obtain ⟨a, c, rfl⟩ := hr.shape
    rw [List.length_map]
    have h10' : ¬ (l.length : Int) = 10 := by omega
    clear hr
    go_enter Try.func12, Try.ntmps12
    go_wp2
    go_ret
    exact ⟨⟨_, rfl, ⟨rfl, .inl ⟨rfl, rfl⟩⟩⟩, Below.refl _ _⟩
end Go.Proofs.Ytfjfjiolmadbaau
