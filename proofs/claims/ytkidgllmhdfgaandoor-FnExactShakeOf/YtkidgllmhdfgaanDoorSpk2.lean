/- The given model's bytes of lanes, and its tables, over the loaded program. -/
import Derived.Test.YtkidgllmhdfgaanDoorSpk1
namespace Go.Proofs.YtkidgllmhdfgaanDoor
open Go.RowKit
def xdiv (x : Nat) : Nat → Nat
  | 0 => x
  | j + 1 => xdiv x j / 256
theorem xdiv_in (x j : Nat) : xdiv (x / 256) j = xdiv x (j + 1) := by
  induction j with
  | zero => rfl
  | succ j ih => show xdiv (x / 256) j / 256 = xdiv x (j + 1) / 256; rw [ih]
theorem laneB_more (x j : Nat) : laneB x (j + 1) = laneB x j ++ [byteOf (xdiv x j % 256)] := by
  induction j generalizing x with
  | zero => rfl
  | succ j ih =>
    show byteOf (x % 256) :: laneB (x / 256) (j + 1) = byteOf (x % 256) :: laneB (x / 256) j ++ _
    rw [ih, xdiv_in]
    rfl
theorem xdiv_le (x j : Nat) : xdiv x j ≤ x := by
  induction j with
  | zero => exact Nat.le_refl _
  | succ j ih => exact Nat.le_trans (Nat.div_le_self _ _) ih
theorem lan_get (l : List Nat) (k : Nat) (h : k < l.length) : (l.map u64v)[k]? = some (.int .u64 (ln l k : Int)) := by
  unfold ln
  rw [List.getElem?_map, List.getElem?_eq_getElem h, List.getD_eq_getElem?_getD, List.getElem?_eq_getElem h]
  rfl
set_option maxRecDepth 20000 in
set_option maxHeartbeats 400000 in
theorem specBytes_any (l : List Nat) (hl : ∀ x ∈ l, x < M64) (h25 : l.length ≤ 25) (g c base : Nat) (w : World) (hown : OwnV w base 31 (.slice (some ⟨g, 0, none⟩) l.length c) (l.map u64v)) :
    Calls Tryd.prog 12 #[.slice (some ⟨g, 0, none⟩) l.length c] w fun e w' => e = .returned (.string (textN l)) ∧ Below w.heap.size w w' := by
  obtain ⟨i0, hi, hz0, hz1, hz2⟩ := info_parts Tryd.infoByte
  have HO := hide hown
  clear hown
  obtain ⟨n, hn⟩ : ∃ n, n = l.length := ⟨_, rfl⟩
  rw [← hn] at HO h25 ⊢
  replace hn := hide hn
  go_enter Tryd.func12, Tryd.ntmps12
  go_wp2
  go_loopw [3, 4] (fun tv ti wr => ∃ k : Nat, k ≤ n ∧ ti = .int .i64 (k : Int) ∧ Hid (OwnB wr w.heap.size 5 tv (bytesN (l.take k))) ∧ Below w.heap.size w wr) (fun _ ti _ => n - (intOf ti).toNat)
  case atStart => exact ⟨0, by omega, rfl, hide (World.ownsRow_made w #[] 0 (Nat.le_refl _) (by decide) (by simp)), (Below.refl _ _).alloc (Nat.le_refl _) _⟩
  case round =>
    obtain ⟨k, hk, rfl, HB, hb⟩ := hrel
    by_cases hlt : k < n
    · have hlt' : (k : Int) < (n : Int) := by omega
      have hkl : k < l.length := by rw [← unhide hn]; exact hlt
      have ck := ((unhide HO).below hb).cell (lan_get l k hkl)
      have HT := hide (bytesN_take l k hkl)
      have hbl : (bytesN (l.take k)).length ≤ 200 := by rw [bytesN_len, List.length_take]; omega
      have hxl : ln l k < M64 := by
        unfold ln
        rw [List.getD_eq_getElem?_getD, List.getElem?_eq_getElem hkl]
        exact hl _ (List.getElem_mem _)
      generalize ln l k = x at *
      go_wp2
      go_loopw [3, 5, 6] (fun tv tx tj wq => ∃ j : Nat, j ≤ 8 ∧ tj = .int .i64 (j : Int) ∧ tx = .int .u64 (xdiv x j : Int) ∧ Hid (OwnB wq w.heap.size 5 tv (bytesN (l.take k) ++ laneB x j)) ∧ Below w.heap.size w wq) (fun _ _ tj _ => 8 - (intOf tj).toNat)
      case atStart => exact ⟨0, by omega, rfl, rfl, hide (by rw [show laneB x 0 = [] from rfl, List.append_nil]; exact unhide HB), hb⟩
      case round =>
        clear ck HB
        obtain ⟨j, hj, rfl, rfl, HB, hb2⟩ := hrel
        by_cases hlj : j < 8
        · have hlj' : (j : Int) < 8 := by omega
          have hM := laneB_more x j
          have hx1 := xdiv_le x j
          have HX : Hid (xdiv x (j + 1) = xdiv x j / 256) := hide rfl
          have hsz := hb2.size
          have hll : (bytesN (l.take k) ++ laneB x j).length ≤ 300 := by rw [List.length_append, laneB_len]; omega
          obtain ⟨y, hy⟩ : ∃ y, y = xdiv x j := ⟨_, rfl⟩
          rw [← hy] at hM hx1 HX ⊢
          have hyb : y < 18446744073709551616 := by unfold M64 at hxl; omega
          obtain ⟨b, hbb⟩ : ∃ b, b = y % 256 := ⟨_, rfl⟩
          have eb : (y : Int) % 256 = (b : Int) := by omega
          have eb' : (y : Int).tmod 256 = (b : Int) := by rw [Int.tmod_eq_emod_of_nonneg (by omega)]; exact eb
          have wb : IntKind.u8.wrap (b : Int) = (b : Int) := by rw [IntKind.wrap_u8]; omega
          obtain ⟨q, hq⟩ : ∃ q, q = y / 256 := ⟨_, rfl⟩
          have eq1 : (y : Int) / 256 = (q : Int) := by omega
          have eq2 : (y : Int).tdiv 256 = (q : Int) := by rw [Int.tdiv_eq_ediv_of_nonneg (by omega)]; exact eq1
          have wq' : IntKind.u64.wrap (q : Int) = (q : Int) := by rw [IntKind.wrap_u64]; omega
          have hb256 : b < 256 := by omega
          rw [← hbb] at hM
          rw [← hq] at HX
          have HM := hide hM
          have hcs : Hid ((#[Value.int .u8 (b : Int)] : Array Value).toList = [byteOf b].map bv) := hide (by simp [bv, byteOf_toNat hb256])
          obtain ⟨cur, hcur⟩ : ∃ cur, cur = bytesN (l.take k) ++ laneB x j := ⟨_, rfl⟩
          rw [← hcur] at HB hll
          have HCUR := hide hcur
          clear hcur
          have hown := unhide HB
          replace hy := hide hy; replace hbb := hide hbb; replace hq := hide hq
          clear hM HB
          go_wp2_with (at_builtin; refine wpList_append_bytes rfl (.tmp 22) (.tmp 26) 48 rfl w.heap.size w.heap.size 5 i0 Tryd.underlying48 hi hz0 hz1 hz2 _ cur rfl hown _ [byteOf b] (by exact unhide hcs) 1 1 rfl rfl (by omega) (Nat.le_refl _) hsz hb2 ?_; intro v' w3 hown3 hb3)
          replace hown3 := hide hown3
          go_roundw
          all_goals first | exact ⟨j + 1, by omega, by go_num, by rw [unhide HX], hide (by rw [unhide HM, ← List.append_assoc, ← unhide HCUR]; exact unhide hown3), hb3⟩ | (simp [intOf]; omega)
        · have hj8 : j = 8 := by omega
          have nj : ¬ (j : Int) < 8 := by omega
          have HB2 := hide (show OwnB wr w.heap.size 5 u3 (bytesN (l.take (k + 1))) by rw [unhide HT, ← hj8]; exact unhide HB)
          replace hj8 := hide hj8
          clear HB
          go_wp2
          go_roundw
          all_goals first | exact ⟨k + 1, by omega, by go_num, HB2, hb2⟩ | (simp [intOf]; omega)
    · have hkn : k = n := by omega
      have nk : ¬ (k : Int) < (n : Int) := by omega
      have hown2 : OwnB wr w.heap.size 5 u3 (bytesN l) := by
        have := unhide HB
        rw [hkn, unhide hn, List.take_length] at this
        exact this
      replace hkn := hide hkn
      have hc := run_string_owned (P := Tryd.prog) wr 48 9 5 w.heap.size u3 (bytesN l) Tryd.underlying48 Tryd.underlying5 Tryd.underlying9 hown2
      go_wp2
      go_ret
      exact ⟨rfl, hb⟩
def iv (x : Nat) : Value := .int .i64 (x : Int)
theorem iv_get (l : List Nat) (k : Nat) (h : k < l.length) : (l.map iv)[k]? = some (.int .i64 (ln l k : Int)) := by
  unfold ln
  rw [List.getElem?_map, List.getElem?_eq_getElem h, List.getD_eq_getElem?_getD, List.getElem?_eq_getElem h]
  rfl
theorem turnSt_ok (t : Nat) : (turnSt t).1 < 5 ∧ (turnSt t).2.1 < 5 ∧ (turnSt t).2.2.length = 25 := by
  induction t with
  | zero => exact ⟨by decide, by decide, by decide⟩
  | succ t ih =>
    refine ⟨ih.2.1, Nat.mod_lt _ (by decide), ?_⟩
    show ((turnSt t).2.2.set _ _).length = 25
    rw [List.length_set]; exact ih.2.2
theorem iv_set (l : List Nat) (k v : Nat) : (l.map iv).set k (.int .i64 (v : Int)) = (l.set k v).map iv := by
  rw [List.map_set]; rfl
theorem made_own (w : World) (z : Value) (n : Nat) (e : TypeId) (hn : n ≤ maxLen) (hz : ∀ i, (#[z] : Array Value)[i % 1]! = z) : OwnV (w.alloc (.cells (madeCells #[z] n) e)) w.heap.size e (.slice (some ⟨w.heap.size, 0, none⟩) n n) (List.replicate n z) := by
  have em : madeCells #[z] n = (List.replicate n z).toArray := by
    unfold madeCells
    apply Array.ext
    · simp
    · intro i h1 h2
      simp only [Array.getElem_map, List.getElem_toArray, List.getElem_replicate]
      exact hz _
  unfold OwnV
  rw [List.length_replicate, em]
  exact ⟨by simp, .inr ⟨w.heap.size, n, _, rfl, Nat.le_refl _, heap_alloc_new w _, Nat.le_refl _, hn, by simp, by simp⟩⟩
theorem Tryd.infoInt : (Tryd.prog.info? 3).map (fun i => (i.zero, i.size, i.bytes)) = some (some (.int .i64 0), 1, 8) := by kernel_rfl
set_option maxRecDepth 20000 in
set_option maxHeartbeats 400000 in
theorem specTurns_any (w : World) :
    Calls Tryd.prog 26 #[] w fun e w' => (∃ g, e = .returned (.slice (some ⟨g, 0, none⟩) 25 25) ∧ OwnV w' w.heap.size 3 (.slice (some ⟨g, 0, none⟩) 25 25) (turnsL.map iv)) ∧ Below w.heap.size w w' := by
  have hmk : ∀ w : World, (Instr.makeSlice 49 (.int .i64 25) (.int .i64 25)).run Tryd.prog w = .ok (.slice (some ⟨w.heap.size, 0, none⟩) 25 25) (w.alloc (.cells (madeCells #[.int .i64 0] 25) 3)) := fun w => run_make_row' (P := Tryd.prog) 49 3 (.int .i64 0) 8 Tryd.underlying49 Tryd.infoInt rfl .i64 .i64 25 (by omega) (by omega) w
  have HO := hide (made_own w (.int .i64 0) 25 3 (by unfold maxLen; omega) (fun i => by rw [Nat.mod_one]; rfl))
  have HB := hide ((Below.refl w.heap.size w).alloc (Nat.le_refl _) (.cells (madeCells #[.int .i64 0] 25) 3))
  go_enter Tryd.func26, Tryd.ntmps26
  go_wp2
  go_loopw [2, 3, 4] (fun tx ty ti wr => ∃ k : Nat, k ≤ 24 ∧ ti = .int .i64 (k : Int) ∧ tx = .int .i64 ((turnSt k).1 : Int) ∧ ty = .int .i64 ((turnSt k).2.1 : Int) ∧ Hid (OwnV wr w.heap.size 3 (.slice (some ⟨w.heap.size, 0, none⟩) 25 25) ((turnSt k).2.2.map iv)) ∧ Hid (Below w.heap.size w wr)) (fun _ _ ti _ => 24 - (intOf ti).toNat)
  case atStart => exact ⟨0, by omega, rfl, rfl, rfl, HO, HB⟩
  case round =>
    clear HO HB
    obtain ⟨k, hk, rfl, rfl, rfl, HO, HB⟩ := hrel
    by_cases hlt : k < 24
    · have hlt' : (k : Int) < 24 := by omega
      obtain ⟨ox, oy, ol⟩ := turnSt_ok k
      have HN : Hid (turnSt (k + 1) = tStep k (turnSt k)) := hide rfl
      generalize turnSt k = st at *
      obtain ⟨x, y, l⟩ := st
      dsimp only at *
      have ix : (x : Int) < 5 := by omega
      have iy : (y : Int) < 5 := by omega
      obtain ⟨p, hp⟩ : ∃ p, p = x + 5 * y := ⟨_, rfl⟩
      have w5 : IntKind.i64.wrap (5 * (y : Int)) = 5 * (y : Int) := by rw [IntKind.wrap_i64]; omega
      have ep : IntKind.i64.wrap ((x : Int) + 5 * (y : Int)) = (p : Int) := by rw [IntKind.wrap_i64]; omega
      have lp : (p : Int) < 25 := by omega
      have wk1 : IntKind.i64.wrap ((k : Int) + 1) = (k : Int) + 1 := by rw [IntKind.wrap_i64]; omega
      have wk2 : IntKind.i64.wrap ((k : Int) + 2) = (k : Int) + 2 := by rw [IntKind.wrap_i64]; omega
      obtain ⟨m, hm⟩ : ∃ m, m = (k + 1) * (k + 2) := ⟨_, rfl⟩
      have hmb : m ≤ 600 := by rw [hm]; exact Nat.mul_le_mul (show k + 1 ≤ 24 by omega) (show k + 2 ≤ 25 by omega)
      have em : IntKind.i64.wrap (((k : Int) + 1) * ((k : Int) + 2)) = (m : Int) := by
        rw [show ((k : Int) + 1) * ((k : Int) + 2) = (m : Int) by rw [hm, Int.natCast_mul]; rfl, IntKind.wrap_i64]; omega
      obtain ⟨h, hh⟩ : ∃ h, h = m / 2 := ⟨_, rfl⟩
      have eh : (m : Int) / 2 = (h : Int) := by omega
      have eh2 : (m : Int).tdiv 2 = (h : Int) := by rw [Int.tdiv_eq_ediv_of_nonneg (by omega)]; exact eh
      have wh : IntKind.i64.wrap (h : Int) = (h : Int) := by rw [IntKind.wrap_i64]; omega
      obtain ⟨v, hv⟩ : ∃ v, v = h % 64 := ⟨_, rfl⟩
      have ev : (h : Int) % 64 = (v : Int) := by omega
      have ev2 : (h : Int).tmod 64 = (v : Int) := by rw [Int.tmod_eq_emod_of_nonneg (by omega)]; exact ev
      obtain ⟨y2, hy2⟩ : ∃ z, z = (2 * x + 3 * y) % 5 := ⟨_, rfl⟩
      have ey : (2 * (x : Int) + 3 * (y : Int)).tmod 5 = (y2 : Int) := by rw [Int.tmod_eq_emod_of_nonneg (by omega)]; omega
      have ey' : (2 * (x : Int) + 3 * (y : Int)) % 5 = (y2 : Int) := by omega
      have w1 : IntKind.i64.wrap (2 * (x : Int)) = 2 * (x : Int) := by rw [IntKind.wrap_i64]; omega
      have w2 : IntKind.i64.wrap (3 * (y : Int)) = 3 * (y : Int) := by rw [IntKind.wrap_i64]; omega
      have w3 : IntKind.i64.wrap (2 * (x : Int) + 3 * (y : Int)) = 2 * (x : Int) + 3 * (y : Int) := by rw [IntKind.wrap_i64]; omega
      have c0 := (unhide HO).cell (iv_get l p (by omega))
      have f0 := (unhide HO).frozen p
      have HO2 := (unhide HO).set p (.int .i64 (v : Int))
      rw [iv_set] at HO2
      have HE : Hid (tStep k (x, y, l) = (y, y2, l.set p v)) := hide (by unfold tStep; dsimp only; rw [← hy2, ← hp, ← hm, ← hh, ← hv])
      have HB2 := hide ((unhide HB).setCell (p := ⟨w.heap.size, p, none⟩) (Nat.le_refl _) (.int .i64 (v : Int)))
      replace HO2 := hide HO2
      replace hp := hide hp; replace hm := hide hm; replace hh := hide hh; replace hv := hide hv; replace hy2 := hide hy2
      clear HO HB
      go_wp2
      go_roundw
      all_goals first | exact ⟨k + 1, by omega, by go_num, by rw [unhide HN, unhide HE], by rw [unhide HN, unhide HE], by rw [unhide HN, unhide HE]; exact HO2, HB2⟩ | (simp [intOf]; omega)
    · have hkk : k = 24 := by omega
      have nk : ¬ (k : Int) < 24 := by omega
      have HO3 := hide (show OwnV wr w.heap.size 3 (.slice (some ⟨w.heap.size, 0, none⟩) 25 25) (turnsL.map iv) by rw [← turnSt_end, ← hkk]; exact unhide HO)
      replace hkk := hide hkk
      clear HO
      go_wp2
      go_ret
      exact ⟨⟨_, rfl, unhide HO3⟩, unhide HB⟩
theorem xor113 : ∀ m : Nat, m < 256 → bits .xor .i64 (m : Int) 113 = ((m ^^^ 113 : Nat) : Int) := by decide +kernel
theorem rStep_lt : ∀ r, r < 256 → rStep r < 256 := by decide +kernel
theorem regAt_lt (t : Nat) : regAt t < 256 := by
  induction t with
  | zero => decide
  | succ t ih => exact rStep_lt _ ih
theorem numSt_lt : ∀ r, r < 24 → ∀ j, j < 8 → numSt r j < 18446744073709551616 := by decide +kernel
theorem bitAt_lt : ∀ j, j < 8 → bitAt j < 18446744073709551616 := by decide +kernel
theorem numsL_ln (r : Nat) (h : r < 24) : ln numsL r = numSt r 7 := by
  rw [← numSt_all]
  exact ln_map (fun r => numSt r 7) 24 r h
theorem numsT (k : Nat) (hk : k < 24) : numsL.take (k + 1) = numsL.take k ++ [numSt k 7] := by
  rw [List.take_succ_eq_append_getElem (show k < numsL.length from hk), ← numsL_ln k hk]
  unfold ln
  rw [List.getD_eq_getElem?_getD, List.getElem?_eq_getElem (show k < numsL.length from hk)]
  rfl
set_option maxRecDepth 20000 in
set_option maxHeartbeats 400000 in
theorem specRounds_any (w : World) :
    Calls Tryd.prog 27 #[] w fun e w' => (∃ g c, e = .returned (.slice (some ⟨g, 0, none⟩) 24 c) ∧ OwnV w' w.heap.size 31 (.slice (some ⟨g, 0, none⟩) 24 c) (numsL.map u64v)) ∧ Below w.heap.size w w' := by
  obtain ⟨i0, hi, hz0, hz1, hz2⟩ := info_parts Tryd.infoLane
  go_enter Tryd.func27, Tryd.ntmps27
  go_wp2
  go_loopw [1, 2, 3] (fun tv tr ti wr => ∃ k : Nat, k ≤ 24 ∧ ti = .int .i64 (k : Int) ∧ tr = .int .i64 (regAt (7 * k + 0) : Int) ∧ Hid (OwnV wr w.heap.size 31 tv ((numsL.take k).map u64v)) ∧ Below w.heap.size w wr) (fun _ _ ti _ => 24 - (intOf ti).toNat)
  case atStart => exact ⟨0, by omega, rfl, rfl, hide (World.ownsRow_made w #[] 0 (Nat.le_refl _) (by decide) (by simp)), (Below.refl _ _).alloc (Nat.le_refl _) _⟩
  case round =>
    obtain ⟨k, hk, rfl, rfl, HO, hb⟩ := hrel
    by_cases hlt : k < 24
    · have hlt' : (k : Int) < 24 := by omega
      go_wp2
      go_loopw [2, 4, 5, 6] (fun tr tx tb tj wq => ∃ j : Nat, j ≤ 7 ∧ tj = .int .i64 (j : Int) ∧ tr = .int .i64 (regAt (7 * k + j) : Int) ∧ tx = .int .u64 (numSt k j : Int) ∧ tb = .int .u64 (bitAt j : Int) ∧ wq = wr) (fun _ _ _ tj _ => 7 - (intOf tj).toNat)
      case atStart => exact ⟨0, by omega, rfl, rfl, rfl, rfl, rfl⟩
      case round =>
        obtain ⟨j, hj, rfl, rfl, rfl, rfl, rfl⟩ := hrel
        by_cases hlj : j < 7
        · have hlj' : (j : Int) < 7 := by omega
          have hr := regAt_lt (7 * k + j)
          have hx := numSt_lt k hlt (j + 1) (by omega)
          have hx0 := numSt_lt k hlt j (by omega)
          have HR : Hid (regAt (7 * k + (j + 1)) = rStep (regAt (7 * k + j))) := hide rfl
          have HX : numSt k (j + 1) = numSt k j + (if regAt (7 * k + j) % 2 = 1 then bitAt j else 0) := rfl
          have HBt : bitAt (j + 1) = bitAt j ^ 2 * 2 % M64 := rfl
          have hb1 := bitAt_lt (j + 1) (by omega)
          have hb0 := bitAt_lt j (by omega)
          have hx113 := xor113 (regAt (7 * k + j) * 2 - 256) (by omega)
          obtain ⟨x2, hx2⟩ : ∃ x, x = numSt k (j + 1) := ⟨_, rfl⟩
          obtain ⟨b2, hb2⟩ : ∃ x, x = bitAt (j + 1) := ⟨_, rfl⟩
          obtain ⟨r2, hr2⟩ : ∃ x, x = regAt (7 * k + (j + 1)) := ⟨_, rfl⟩
          rw [← hx2] at hx HX
          rw [← hb2] at hb1 HBt
          rw [← hr2] at HR
          generalize regAt (7 * k + j) = r at *
          generalize numSt k j = x at *
          generalize bitAt j = b at *
          obtain ⟨c1, hc1⟩ : ∃ c, c = b * b % 18446744073709551616 := ⟨_, rfl⟩
          have e1 : IntKind.u64.wrap ((b : Int) * (b : Int)) = (c1 : Int) := by rw [IntKind.wrap_u64, hc1, ← Int.natCast_mul]; rfl
          have hc1l : c1 < 18446744073709551616 := by rw [hc1]; exact Nat.mod_lt _ (by decide)
          have hb2c : b2 = c1 * 2 % 18446744073709551616 := by
            rw [HBt, hc1, Nat.pow_two, Nat.mod_mul_mod]
            rfl
          have e2 : IntKind.u64.wrap ((c1 : Int) * 2) = (b2 : Int) := by rw [IntKind.wrap_u64, hb2c]; rfl
          have er : IntKind.i64.wrap ((r : Int) * 2) = (r : Int) * 2 := by rw [IntKind.wrap_i64]; omega
          have HRU := unhide HR
          unfold rStep at HRU
          replace hx2 := hide hx2; replace hb2 := hide hb2; replace hr2 := hide hr2
          replace HBt := hide HBt; replace hc1 := hide hc1; replace hb2c := hide hb2c
          by_cases hodd : r % 2 = 1
          · have hodd' : (r : Int) % 2 = 1 := by omega
            have hoddt : (r : Int).tmod 2 = 1 := by rw [Int.tmod_eq_emod_of_nonneg (by omega)]; exact hodd'
            rw [if_pos hodd] at HX
            have es : IntKind.u64.wrap ((x : Int) + (b : Int)) = (x2 : Int) := by rw [IntKind.wrap_u64]; omega
            replace HX := hide HX
            by_cases h256 : 256 ≤ r * 2
            · rw [if_pos h256] at HRU
              have h256' : 256 ≤ (r : Int) * 2 := by omega
              have e3 : bits .xor .i64 ((r : Int) * 2 - 256) 113 = (r2 : Int) := by rw [HRU, ← hx113]; congr 1; omega
              replace HRU := hide HRU
              clear hx113 hodd
              go_wp2
              go_roundw
              all_goals first | exact ⟨j + 1, by omega, by go_num, by rw [← unhide hr2], by rw [← unhide hx2], by rw [← unhide hb2], by trivial⟩ | (simp [intOf]; omega)
            · rw [if_neg h256] at HRU
              have h256' : ¬ 256 ≤ (r : Int) * 2 := by omega
              have e3 : (r : Int) * 2 = (r2 : Int) := by omega
              replace HRU := hide HRU
              clear hx113 hodd
              go_wp2
              go_roundw
              all_goals first | exact ⟨j + 1, by omega, by go_num, by rw [← unhide hr2], by rw [← unhide hx2], by rw [← unhide hb2], by trivial⟩ | (simp [intOf]; omega)
          · have hodd' : ¬ (r : Int) % 2 = 1 := by omega
            have hoddt : ¬ (r : Int).tmod 2 = 1 := by rw [Int.tmod_eq_emod_of_nonneg (by omega)]; exact hodd'
            rw [if_neg hodd, Nat.add_zero] at HX
            replace HX := hide HX
            by_cases h256 : 256 ≤ r * 2
            · rw [if_pos h256] at HRU
              have h256' : 256 ≤ (r : Int) * 2 := by omega
              have e3 : bits .xor .i64 ((r : Int) * 2 - 256) 113 = (r2 : Int) := by rw [HRU, ← hx113]; congr 1; omega
              replace HRU := hide HRU
              clear hx113 hodd
              go_wp2
              go_roundw
              all_goals first | exact ⟨j + 1, by omega, by go_num, by rw [← unhide hr2], by rw [← unhide hx2, unhide HX], by rw [← unhide hb2], by trivial⟩ | (simp [intOf]; omega)
            · rw [if_neg h256] at HRU
              have h256' : ¬ 256 ≤ (r : Int) * 2 := by omega
              have e3 : (r : Int) * 2 = (r2 : Int) := by omega
              replace HRU := hide HRU
              clear hx113 hodd
              go_wp2
              go_roundw
              all_goals first | exact ⟨j + 1, by omega, by go_num, by rw [← unhide hr2], by rw [← unhide hx2, unhide HX], by rw [← unhide hb2], by trivial⟩ | (simp [intOf]; omega)
        · have hj7 : j = 7 := by omega
          have nj : ¬ (j : Int) < 7 := by omega
          have HR2 : Hid (regAt (7 * k + j) = regAt (7 * (k + 1) + 0)) := hide (by rw [hj7]; congr 1)
          have HT := hide (numsT k hlt)
          rw [← hj7] at HT
          have hln : ((numsL.take k).map u64v).length = k := by rw [List.length_map, List.length_take]; show min k 24 = k; omega
          have hm1 : Hid (((numsL.take k).map u64v).length + 1 ≤ maxLen) := hide (by rw [hln]; unfold maxLen; omega)
          have hm2 : Hid ((((numsL.take k).map u64v).length + 1) * 8 ≤ 140737488355328) := hide (by rw [hln]; omega)
          have hsz := hb.size
          have hown := unhide HO
          generalize regAt (7 * k + j) = r at *
          generalize numSt k j = x at *
          generalize bitAt j = b at *
          replace hj7 := hide hj7
          clear hln
          go_wp2_with (at_builtin; refine wpList_append_vals rfl (.tmp 33) (.tmp 35) 28 rfl w.heap.size w.heap.size 31 i0 (.int .u64 0) 8 Tryd.underlying28 hi hz0 hz1 hz2 rfl _ _ rfl (by exact hown) _ [.int .u64 (x : Int)] rfl (by intro u hu; simp only [List.mem_singleton] at hu; subst hu; rfl) 1 1 rfl rfl (unhide hm1) (unhide hm2) (Nat.le_refl _) hsz hb ?_; intro v' w2 hown2 hb2)
          have hown3 : Hid (OwnV w2 w.heap.size 31 v' ((numsL.take (k + 1)).map u64v)) := hide (by rw [unhide HT, List.map_append]; exact hown2)
          clear hown2 hown
          go_roundw
          all_goals first | exact ⟨k + 1, by omega, by go_num, by rw [← unhide HR2], hown3, hb2⟩ | (simp [intOf]; omega)
    · have hkk : k = 24 := by omega
      have nk : ¬ (k : Int) < 24 := by omega
      have hown := unhide HO
      rw [hkk, List.take_of_length_le (by decide)] at hown
      obtain ⟨a, c, hv⟩ := hown.shape
      rw [List.length_map, show numsL.length = 24 from rfl] at hv
      obtain ⟨g, rfl⟩ : ∃ g, a = some ⟨g, 0, none⟩ := by
        rcases hown.2 with ⟨h, _⟩ | ⟨g, cap, cur, h, _⟩
        · rw [hv] at h; cases h
        · rw [hv] at h; cases h; exact ⟨_, rfl⟩
      replace hkk := hide hkk
      subst hv
      replace hown := hide hown
      go_wp2
      go_ret
      exact ⟨⟨_, _, rfl, unhide hown⟩, hb⟩
end Go.Proofs.YtkidgllmhdfgaanDoor
