/- Keys for once by the project's own functions: parts of chains, keys, signatures, what is found, over the loaded program. -/
import Derived.Test.YtfjfjiolmadbaatChI2
import Derived.Test.YtfjfjiolmadbaatTxs
namespace Go.Proofs.Ytfjfjiolmadbaat
open Go.RowKit
def dgL (dg : Nat → Nat) : List Int := (List.range 10).map (fun i => (dg i : Int))
theorem dgL_len (dg : Nat → Nat) : (dgL dg).length = 10 := by unfold dgL; rw [List.length_map, List.length_range]
theorem dgL_at (dg : Nat → Nat) (i : Nat) (hi : i < 10) : (dgL dg)[i]? = some (dg i : Int) := by
  unfold dgL
  rw [List.getElem?_map, List.getElem?_range hi]
  rfl
theorem dgL_digL (m : ByteArray) : dgL (dgAt m) = digL m := by
  rw [← dgS_all]
  unfold dgL dgS dgF
  apply List.map_congr_left
  intro i hi
  rw [if_pos (List.mem_range.1 hi)]
theorem dgL_zero : (#[.int .i64 0, .int .i64 0, .int .i64 0, .int .i64 0, .int .i64 0, .int .i64 0, .int .i64 0, .int .i64 0, .int .i64 0, .int .i64 0] : Array Value) = ((dgL (fun _ => 0)).map iv).toArray := rfl
theorem ownV_of_full14 {w : World} {base g n : Nat} {e : TypeId} {xs : List Value} (hb : base ≤ g) (hm : n ≤ maxLen) (hl : xs.length = n) (h : w.heap[g]? = some (.cells xs.toArray e (0, 0))) : OwnV w base e (.slice (some ⟨g, 0, none⟩) n n) xs := by
  refine ⟨by rw [Nat.mul_one], .inr ⟨g, n, xs.toArray, by rw [hl], hb, h, by omega, hm, by simp [hl], ?_⟩⟩
  simp
theorem steps_le (n : Nat) (h : n ≤ 15) : stepsN (n : Int) = n := by unfold stepsN; rw [if_pos (by omega)]; omega
theorem catC_flat (F : Nat → ByteArray) (k : Nat) : (catC F k).data.toList = (((List.range k).map F).map (·.data.toList)).flatten := by
  induction k with
  | zero => rfl
  | succ k ih =>
    show (catC F k ++ F k).data.toList = _
    rw [ByteArray.data_append, Array.toList_append, ih, List.range_succ, List.map_append, List.map_append, List.flatten_append]
    simp
set_option maxRecDepth 20000 in
set_option maxHeartbeats 1000000 in
theorem implOnceKey_any (s : ByteArray) (leaf : Int) (hs : s.size ≤ 2000000) (w : World) :
    Calls Try.prog 17 #[.string s, .int .i64 leaf] w fun e w' => (∃ v, e = .returned v ∧ OwnV w' w.heap.size 9 v ((keysO s leaf).map sv)) ∧ Below w.heap.size w w' := by
  obtain ⟨i0, hi, hz0, hz1, hz2⟩ := info_parts infoTxt
  have CY := hide (fun z W => implByteY_any z W)
  have CC := hide (fun (k : Nat) W => chop4_any s (oneY leaf) (oneY (k : Int)) ⟨#[111]⟩ hs (by rw [oneY_size]; omega) (by rw [oneY_size]; omega) (by show 1 ≤ _; omega) W)
  have HK := hide (show ∀ i : Nat, chopB (s ++ oneY leaf ++ oneY (i : Int) ++ ⟨#[111]⟩) = keyO s leaf i from fun i => rfl)
  have EK : keysO s leaf = (List.range 10).map (keyO s leaf) := rfl
  rw [EK]
  simp only [unhide HK] at CC
  generalize keyO s leaf = F at *
  obtain ⟨L, hL⟩ : ∃ L : List Value, L = ((List.range 10).map F).map sv := ⟨_, rfl⟩
  have hLl := hide (show L.length = 10 by rw [hL, List.length_map, List.length_map, List.length_range])
  have hLk := hide (show ∀ k, k < 10 → L[k]? = some (.string (F k)) from fun k hk => by rw [hL, List.getElem?_map, List.getElem?_map, List.getElem?_range hk]; rfl)
  rw [← hL]
  replace hL := hide hL
  clear HK EK
  go_enter Try.func17, Try.ntmps17
  go_wp2_with (at_make; refine wpList_make_full _ rfl _ _ 30 rfl w.heap.size 9 i0 (.string ⟨#[]⟩) 1 Try.underlying30 hi hz0 hz1 _ _ _ _ 10 rfl rfl rfl rfl (by rw [hz2]; omega) (by unfold maxLen; omega) (Nat.le_refl _) ?_; intro w1 hown1 hgrow1)
  have hr0 : OwnV w1 w.heap.size 9 (.slice (some ⟨w.heap.size, 0, none⟩) 10 10) (L.take 0 ++ List.replicate (10 - 0) (.string ⟨#[]⟩)) := by
    rw [madeT] at hown1
    unfold OwnV
    simpa using hown1
  have hb0 : Below w.heap.size w w1 := (Below.refl w.heap.size w).grown hgrow1 (Nat.le_refl _) (fun k hk => by cases hk)
  clear hown1 hgrow1
  go_loopw [10] (fun ti wr => ∃ k : Nat, k ≤ 10 ∧ ti = .int .i64 k ∧ Hid (OwnV wr w.heap.size 9 (.slice (some ⟨w.heap.size, 0, none⟩) 10 10) (L.take k ++ List.replicate (10 - k) (.string ⟨#[]⟩))) ∧ Below w.heap.size w wr ∧ w.heap.size < wr.heap.size) (fun ti _ => 10 - (intOf ti).toNat)
  case atStart => exact ⟨0, Nat.zero_le _, rfl, hide hr0, hb0, (hr0.lt _ rfl).2⟩
  case round =>
    obtain ⟨k, hk, rfl, HO, hb, hszz⟩ := hrel
    clear hr0 hb0
    by_cases hlt : k < 10
    · have hk' : (k : Int) < 10 := by omega
      have hk0 : (0 : Int) ≤ (k : Int) := by omega
      have c1 := hide (unhide CY leaf)
      have c2 := hide (unhide CY (k : Int))
      have c3 := hide (unhide CC k)
      have HF := hide (fillV (z := .string ⟨#[]⟩) (unhide hLk k hlt) (unhide hLl))
      generalize oneY leaf = ya at *
      generalize oneY (k : Int) = yb at *
      generalize F k = y at *
      clear CY CC
      go_wp2_with fail
      refine (unhide c1 wr).mono ?_
      rintro e w2 ⟨rfl, hb2⟩
      have hB2 := hb.trans (hb2.mono hb.size)
      have HO2 := hide ((unhide HO).below hb2)
      have hs2 := Nat.lt_of_lt_of_le hszz hb2.size
      clear hb2 hb HO hszz c1
      go_wp2_with fail
      refine (unhide c2 w2).mono ?_
      rintro e w3 ⟨rfl, hb3⟩
      have hB3 := hB2.trans (hb3.mono hB2.size)
      have HO3 := hide ((unhide HO2).below hb3)
      have hs3 := Nat.lt_of_lt_of_le hs2 hb3.size
      clear hb3 hB2 HO2 hs2 c2
      go_wp2_with fail
      refine (unhide c3 w3).mono ?_
      rintro e w4 ⟨rfl, hb4⟩
      have hB4 := hB3.trans (hb4.mono hB3.size)
      have HO4 := (unhide HO3).below hb4
      have hs4 := Nat.lt_of_lt_of_le hs3 hb4.size
      obtain ⟨u, hu⟩ : ∃ u, (L.take k ++ List.replicate (10 - k) (.string ⟨#[]⟩))[k]? = some u := ⟨_, List.getElem?_eq_getElem (by have := HO4.len; omega)⟩
      have cu := HO4.cell hu
      have cz := HO4.frozen k
      have ho2 := HO4.set k (.string y)
      rw [unhide HF] at ho2
      replace ho2 := hide ho2; replace HO4 := hide HO4
      clear hu hb4 hB3 HO3 hs3 c3
      go_wp2
      go_roundw
      case rel => exact ⟨k + 1, by omega, by go_num, ho2, hB4.setCell (p := ⟨w.heap.size, k, none⟩) (Nat.le_refl _) _, by simpa using hs4⟩
      case measure => simp [intOf]; omega
    · have hk' : ¬ (k : Int) < 10 := by omega
      obtain rfl : k = 10 := by omega
      have e2 : L.take 10 ++ List.replicate (10 - 10) (.string ⟨#[]⟩) = L := by
        rw [Nat.sub_self, List.take_of_length_le (by rw [unhide hLl]; exact Nat.le_refl _)]
        simp
      rw [e2] at HO
      go_wp2
      go_ret
      exact ⟨⟨_, rfl, unhide HO⟩, hb⟩
set_option maxRecDepth 20000 in
set_option maxHeartbeats 1000000 in
theorem implDigits_any (m : ByteArray) (hm : m.size ≤ 4000000) (w : World) :
    Calls Try.prog 12 #[.string m] w fun e w' => (∃ v, e = .returned v ∧ OwnV w' w.heap.size 41 v ((digL m).map iv)) ∧ Below w.heap.size w w' := by
  have C := hide (digitsFor_any m hm w)
  have hi := hide (info10 (digL m) (digL_len m))
  have hll := digL_len m
  have hlu : (Try.prog.arrayLen 41) = 10 := len10
  generalize digL m = L at *
  go_enter Try.func12, Try.ntmps12
  go_wp2_with fail
  refine (unhide C).mono ?_
  rintro e w1 ⟨rfl, hb1⟩
  have hz0 := hide (show CB (w1.alloc (.cells #[.int .i64 0, .int .i64 0, .int .i64 0, .int .i64 0, .int .i64 0, .int .i64 0, .int .i64 0, .int .i64 0, .int .i64 0, .int .i64 0] 41)) w1.heap.size 41 _ from CB.new w1 _ _)
  have hb2 := hide (hb1.alloc hb1.size (.cells #[.int .i64 0, .int .i64 0, .int .i64 0, .int .i64 0, .int .i64 0, .int .i64 0, .int .i64 0, .int .i64 0, .int .i64 0, .int .i64 0] 41))
  have hsz := hb1.size
  go_wp2_with (refine wpList_store_row rfl 41 _ _ rfl w1.heap.size _ rfl rfl 41 _ (unhide hz0) (unhide hi) (by simp [hll]) (iv_one _) ?_; have HR3 := hide (setRow_heap _ w1.heap.size _ (L.map iv).toArray 41 (0, 0) (unhide hz0)); have hB3 := hide (Go.below_setRow (unhide hb2) hsz (L.map iv).toArray); clear hz0 hb2; generalize World.setRow _ _ _ = w3 at HR3 hB3 ⊢)
  have ho := hide (ownV_of_full14 (base := w.heap.size) hsz (n := 10) (by unfold maxLen; omega) (by rw [List.length_map]; exact hll) (unhide HR3))
  go_ret
  exact ⟨⟨_, rfl, unhide ho⟩, unhide hB3⟩
end Go.Proofs.Ytfjfjiolmadbaat
