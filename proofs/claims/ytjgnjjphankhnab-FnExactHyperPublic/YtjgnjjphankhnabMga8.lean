/- Merged: ChI2, ChI3, Tre1, Tre2, TrI1, TrI2. -/
import Derived.Test.YtjgnjjphankhnabMga1
import Derived.Test.YtjgnjjphankhnabMga2
import Derived.Test.YtjgnjjphankhnabMga3
import Derived.Test.YtjgnjjphankhnabMga4
import Derived.Test.YtjgnjjphankhnabMga5
import Derived.Test.YtjgnjjphankhnabMga6
import Derived.Test.YtjgnjjphankhnabMga7
import Derived.Deep.RegionHeld3
/- Digits by the project's own functions, over the loaded program. -/
namespace Go.Proofs.Ytjgnjjphankhnab
open Go.RowKit
/-- The first k of ten numbers f 0, f 1 .., the others 0. -/
def dgS (f : Nat → Int) (k : Nat) : List Int := (List.range 10).map (fun i => if i < k then f i else 0)
theorem dgS_len (f : Nat → Int) (k : Nat) : (dgS f k).length = 10 := by unfold dgS; rw [List.length_map, List.length_range]
theorem dgS_set (f : Nat → Int) (k : Nat) (hk : k < 10) : (dgS f k).set k (f k) = dgS f (k + 1) := by
  apply List.ext_getElem?
  intro i
  unfold dgS
  rw [List.getElem?_set]
  by_cases hi : i < 10
  · by_cases e : k = i
    · subst e
      rw [if_pos rfl, if_pos (by rw [List.length_map, List.length_range]; exact hk), List.getElem?_map, List.getElem?_range hk, Option.map_some, if_pos (by omega)]
    · rw [if_neg e, List.getElem?_map, List.getElem?_map, List.getElem?_range hi, Option.map_some, Option.map_some]
      by_cases h2 : i < k
      · rw [if_pos h2, if_pos (by omega)]
      · rw [if_neg h2, if_neg (by omega)]
  · rw [if_neg (by omega), List.getElem?_map, List.getElem?_map, List.getElem?_eq_none (by rw [List.length_range]; omega)]
    rfl
theorem dgS_at (f : Nat → Int) (k i : Nat) (hi : i < 10) : (dgS f k)[i]? = some (if i < k then f i else 0) := by
  unfold dgS
  rw [List.getElem?_map, List.getElem?_range hi]
  rfl
def dgF (m : ByteArray) (i : Nat) : Int := (dgAt m i : Int)
theorem dgS_all (m : ByteArray) : dgS (dgF m) 10 = digL m := by
  apply List.ext_getElem?
  intro i
  by_cases hi : i < 10
  · rw [dgS_at _ _ _ hi, digL_at m i hi, if_pos hi]; rfl
  · rw [List.getElem?_eq_none (by rw [dgS_len]; omega), List.getElem?_eq_none (by rw [digL_len]; omega)]
/-- A block that holds these ten numbers. -/
abbrev IA (w : World) (g : Nat) (T : TypeId) (l : List Int) : Prop := CB w g T (l.map iv).toArray
theorem ia_set {w : World} {g : Nat} {T : TypeId} {l : List Int} (h : IA w g T l) (k : Nat) (z : Int) : IA (w.setCell ⟨g, k, none⟩ (.int .i64 z)) g T (l.set k z) := by
  have h1 := CB.set h k (.int .i64 z)
  have e : ((l.map iv).toArray.setIfInBounds k (.int .i64 z)) = ((l.set k z).map iv).toArray := by
    rw [List.setIfInBounds_toArray, List.map_set]; rfl
  rw [e] at h1
  exact h1
theorem ia_cell {w : World} {g : Nat} {T : TypeId} {l : List Int} (h : IA w g T l) {k : Nat} {z : Int} (hk : l[k]? = some z) : w.cell? ⟨g, k, none⟩ = some (.int .i64 z) := by
  refine CB.cell h k ?_
  simp [hk, iv]
set_option maxRecDepth 20000 in
theorem halfBytes_any (n : Nat) (hn : n < 1000) (w : World) :
    Calls Try.prog 66 #[.int .i64 (n : Int)] w fun e w' => e = .returned (.tuple #[.int .i64 ((n / 16 : Nat) : Int), .int .i64 ((n % 16 : Nat) : Int)]) ∧ w' = w := by
  obtain ⟨x1, hx1⟩ : ∃ x : Nat, x = n / 16 := ⟨_, rfl⟩
  obtain ⟨x2, hx2⟩ : ∃ x : Nat, x = n % 16 := ⟨_, rfl⟩
  rw [← hx1, ← hx2]
  have q1 : (n : Int).tdiv 16 = (x1 : Int) := by rw [Int.tdiv_eq_ediv_of_nonneg (by omega)]; omega
  have q1' : (n : Int) / 16 = (x1 : Int) := by omega
  have q2 : (n : Int).tmod 16 = (x2 : Int) := by rw [Int.tmod_eq_emod_of_nonneg (by omega)]; omega
  have q2' : (n : Int) % 16 = (x2 : Int) := by omega
  have q3 : IntKind.i64.wrap (x1 : Int) = (x1 : Int) := by rw [IntKind.wrap_i64]; omega
  have q4 : IntKind.i64.wrap (x2 : Int) = (x2 : Int) := by rw [IntKind.wrap_i64]; omega
  replace hx1 := hide hx1; replace hx2 := hide hx2
  go_enter Try.func66, Try.ntmps66
  go_wp2
  exact bodyPost_ret (results_tmp2 (by exact Try.results66) _ _ _) rfl ⟨rfl, rfl⟩
theorem len10 : Try.prog.arrayLen 67 = 10 := by kernel_rfl
theorem idx10 (g k : Nat) (h : (k : Int) < 10) (W : World) : (Instr.indexAt 67 (.pointer (some ⟨g, 0, none⟩)) (.int .i64 (k : Int))).run Try.prog W = .ok (.pointer (some ⟨g, k, none⟩)) W := by
  have hu : Try.prog.underlying 67 = some (.array (Try.prog.arrayLen 67) (Try.prog.elem 67)) := by kernel_rfl
  have he : Try.prog.elem 67 = 3 := by kernel_rfl
  have h1 : (0 : Int) ≤ (k : Int) ∧ (k : Int) < ((Try.prog.arrayLen 67 : Nat) : Int) := by rw [len10]; exact ⟨by omega, by omega⟩
  rw [run_indexAt_array (P := Try.prog) (w := W) 67 ⟨g, 0, none⟩ .i64 (k : Int) hu, if_pos h1, he]
  simp [go_sem, Addr.add]
  intro h; exact h.symm
theorem info10 (l : List Int) (hl : l.length = 10) : (Try.prog.info? 67).map (·.size) = some (l.map iv).toArray.size := by
  have e : (l.map iv).toArray.size = 10 := by simp [hl]
  have h : (Try.prog.info? 67).map (·.size) = some 10 := by kernel_rfl
  rw [h, e]
theorem zer10 (f : Nat → Int) : (#[.int .i64 0, .int .i64 0, .int .i64 0, .int .i64 0, .int .i64 0, .int .i64 0, .int .i64 0, .int .i64 0, .int .i64 0, .int .i64 0] : Array Value) = ((dgS f 0).map iv).toArray := rfl
theorem iv_one (l : List Int) : (l.map iv).toArray.all (·.oneCell') = true := by
  rw [Array.all_eq_true_iff_forall_mem]
  intro v hv
  simp only [List.mem_toArray, List.mem_map] at hv
  obtain ⟨x, _, rfl⟩ := hv
  rfl
set_option maxRecDepth 20000 in
set_option maxHeartbeats 1000000 in
theorem digitsFor_any (m : ByteArray) (hm : m.size ≤ 4000000) (w : World) :
    Calls Try.prog 49 #[.string m] w fun e w' => e = .returned (.agg ((digL m).map iv).toArray) ∧ Below w.heap.size w w' := by
  have C := hide (fun W => implChop_any m hm W)
  have hs4 := chopB_size m
  have EA := hide (dgS_all m)
  have EF := hide (show ∀ k, k < 4 → dgF m (2 * k) = ((byA (chopB m) k / 16 : Nat) : Int) ∧ dgF m (2 * k + 1) = ((byA (chopB m) k % 16 : Nat) : Int) from fun k hk => by
    unfold dgF dgAt
    rw [if_pos (by omega), if_pos (by omega), (dgN_pair (chopB m) k).1, (dgN_pair (chopB m) k).2]
    exact ⟨rfl, rfl⟩)
  have E8 := hide (show dgF m 8 = ((lfN (chopB m) 4 / 16 : Nat) : Int) from rfl)
  have E9 := hide (show dgF m 9 = ((lfN (chopB m) 4 % 16 : Nat) : Int) from rfl)
  generalize chopB m = s at *
  generalize dgF m = f at *
  have hs4' : (s.size : Int) = 4 := by omega
  obtain ⟨W, hW, hR, hD, hb, hlt⟩ := two_cb w ((dgS f 0).map iv).toArray ((dgS f 0).map iv).toArray 67 67
  rw [← zer10 f] at hW
  replace hR := hide hR
  replace hD := hide hD
  go_enter Try.func49, Try.ntmps49
  go_wp2_with fail
  refine (unhide C W).mono ?_
  rintro e w1 ⟨rfl, hb1⟩
  have hR1 := hide ((unhide hR).below hb1 (by omega))
  have hD1 := hide ((unhide hD).below hb1 (by omega))
  have hB1 := hb.trans (hb1.mono hb.size)
  have hsz1 := hb1.size
  clear hR hD hb hb1 C hW
  go_wp2
  go_loopw [5, 11] (fun ts ti wr => ∃ (k : Nat) (q : Nat), k ≤ 4 ∧ ti = .int .i64 (k : Int) ∧ ts = .int .i64 (q : Int) ∧ Hid (q = lfN s k) ∧ Hid (IA wr (w.heap.size + 1) 67 (dgS f (2 * k))) ∧ Hid (IA wr w.heap.size 67 (dgS f 0)) ∧ Below w.heap.size w wr) (fun _ ti _ => 4 - (intOf ti).toNat)
  case atStart => exact ⟨0, 0, by omega, rfl, rfl, hide rfl, hD1, hR1, hB1⟩
  case round =>
    clear hR1 hD1 hB1
    obtain ⟨k, q, hk, rfl, rfl, hq, HD, HR, hB⟩ := hrel
    have hsz := hB.size
    by_cases hlt4 : k < 4
    · have hk' : (k : Int) < 4 := by omega
      have hk0 : (0 : Int) ≤ (k : Int) := by omega
      have hks : k < s.size := by omega
      have hby := byA_at s k hks
      have hbl := byA_lt s k
      have HL := hide (show lfN s (k + 1) = lfN s k + 30 - byA s k / 16 - byA s k % 16 from rfl)
      have hql := lfN_le s k
      rw [← unhide hq] at HL hql
      have HF := unhide EF k hlt4
      obtain ⟨b, hbb⟩ : ∃ b, b = byA s k := ⟨_, rfl⟩
      rw [← hbb] at hby hbl HL HF
      have CH := hide (fun W => halfBytes_any b (by omega) W)
      obtain ⟨x1, hx1⟩ : ∃ x : Nat, x = b / 16 := ⟨_, rfl⟩
      obtain ⟨x2, hx2⟩ : ∃ x : Nat, x = b % 16 := ⟨_, rfl⟩
      rw [← hx1, ← hx2] at HL HF CH
      have q5 : IntKind.i64.wrap (b : Int) = (b : Int) := by rw [IntKind.wrap_i64]; omega
      obtain ⟨i1, hi1⟩ : ∃ i : Nat, i = 2 * k := ⟨_, rfl⟩
      obtain ⟨i2, hi2⟩ : ∃ i : Nat, i = 2 * k + 1 := ⟨_, rfl⟩
      have q9 : IntKind.i64.wrap (2 * (k : Int)) = (i1 : Int) := by rw [IntKind.wrap_i64]; omega
      have q9' : IntKind.i64.wrap ((i1 : Int) + 1) = (i2 : Int) := by rw [IntKind.wrap_i64]; omega
      have I1 := idx10 (w.heap.size + 1) i1 (by omega)
      have I2 := idx10 (w.heap.size + 1) i2 (by omega)
      obtain ⟨y1, hy1⟩ : ∃ y : Nat, y + x1 = 15 := ⟨15 - x1, by omega⟩
      obtain ⟨y2, hy2⟩ : ∃ y : Nat, y = y1 + 15 := ⟨_, rfl⟩
      obtain ⟨y3, hy3⟩ : ∃ y : Nat, y + x2 = y2 := ⟨y2 - x2, by omega⟩
      obtain ⟨y4, hy4⟩ : ∃ y : Nat, y = q + y3 := ⟨_, rfl⟩
      have q6 : IntKind.i64.wrap (15 - (x1 : Int)) = (y1 : Int) := by rw [IntKind.wrap_i64]; omega
      have q7 : IntKind.i64.wrap ((y1 : Int) + 15) = (y2 : Int) := by rw [IntKind.wrap_i64]; omega
      have q8 : IntKind.i64.wrap ((y2 : Int) - (x2 : Int)) = (y3 : Int) := by rw [IntKind.wrap_i64]; omega
      have q10 : IntKind.i64.wrap ((q : Int) + (y3 : Int)) = (y4 : Int) := by rw [IntKind.wrap_i64]; omega
      have HQ := hide (show y4 = lfN s (k + 1) by have := unhide HL; omega)
      have hix : ∀ h : k < s.size, (s[k]'h).toNat = b := fun h => hby
      have HD' := unhide HD
      have g1 := ia_cell HD' (dgS_at f (2 * k) i1 (by omega))
      have f1 := HD'.frozen i1
      have D1 := ia_set HD' i1 (x1 : Int)
      rw [show (dgS f (2 * k)).set i1 (x1 : Int) = dgS f (2 * k + 1) by rw [hi1, ← HF.1]; exact dgS_set f (2 * k) (by omega)] at D1
      have g2 := ia_cell D1 (dgS_at f (2 * k + 1) i2 (by omega))
      have f2 := D1.frozen i2
      have D2 := ia_set D1 i2 (x2 : Int)
      rw [show (dgS f (2 * k + 1)).set i2 (x2 : Int) = dgS f (2 * (k + 1)) by rw [hi2, ← HF.2]; exact dgS_set f (2 * k + 1) (by omega)] at D2
      replace D2 := hide D2
      have HR2 := hide (((unhide HR).set_other (h := w.heap.size + 1) (k := i1) (by omega) (.int .i64 (x1 : Int))).set_other (h := w.heap.size + 1) (k := i2) (by omega) (.int .i64 (x2 : Int)))
      have hB2 := hide ((hB.setCell (p := ⟨w.heap.size + 1, i1, none⟩) (Nat.le_succ _) (.int .i64 (x1 : Int))).setCell (p := ⟨w.heap.size + 1, i2, none⟩) (Nat.le_succ _) (.int .i64 (x2 : Int)))
      replace hbb := hide hbb; replace hx1 := hide hx1; replace hx2 := hide hx2; replace hy1 := hide hy1; replace hy2 := hide hy2; replace hy3 := hide hy3; replace hy4 := hide hy4; replace HF := hide HF; replace hby := hide hby; replace hi1 := hide hi1; replace hi2 := hide hi2
      clear HL hql HD HD' HR hB D1 EA E8 E9 EF
      go_wp2_with (go_at_call 66; refine (unhide CH _).mono ?_; rintro e wz ⟨rfl, hwz⟩; subst hwz)
      exact ⟨⟨k + 1, y4, by omega, by go_num, by first | rfl | trivial, HQ, D2, HR2, unhide hB2⟩, by simp [intOf]; omega⟩
    · have hk' : ¬ (k : Int) < 4 := by omega
      obtain rfl : k = 4 := by omega
      have hql := lfN_le s 4
      rw [← unhide hq] at hql E8 E9
      have CH := hide (fun W => halfBytes_any q (by omega) W)
      obtain ⟨x1, hx1⟩ : ∃ x : Nat, x = q / 16 := ⟨_, rfl⟩
      obtain ⟨x2, hx2⟩ : ∃ x : Nat, x = q % 16 := ⟨_, rfl⟩
      rw [← hx1] at E8 CH
      rw [← hx2] at E9 CH
      have I1 := idx10 (w.heap.size + 1) 8 (by omega)
      have I2 := idx10 (w.heap.size + 1) 9 (by omega)
      have HD' := unhide HD
      have g1 := ia_cell HD' (dgS_at f (2 * 4) 8 (by omega))
      have f1 := HD'.frozen 8
      have D1 := ia_set HD' 8 (x1 : Int)
      rw [show (dgS f (2 * 4)).set 8 (x1 : Int) = dgS f 9 by rw [← unhide E8]; exact dgS_set f 8 (by omega)] at D1
      have g2 := ia_cell D1 (dgS_at f 9 9 (by omega))
      have f2 := D1.frozen 9
      have D2 := ia_set D1 9 (x2 : Int)
      rw [show (dgS f 9).set 9 (x2 : Int) = digL m by rw [← unhide EA, ← unhide E9]; exact dgS_set f 9 (by omega)] at D2
      replace D2 := hide D2
      have HR2 := hide (((unhide HR).set_other (h := w.heap.size + 1) (k := 8) (by omega) (.int .i64 (x1 : Int))).set_other (h := w.heap.size + 1) (k := 9) (by omega) (.int .i64 (x2 : Int)))
      have hB2 := hide ((hB.setCell (p := ⟨w.heap.size + 1, 8, none⟩) (Nat.le_succ _) (.int .i64 (x1 : Int))).setCell (p := ⟨w.heap.size + 1, 9, none⟩) (Nat.le_succ _) (.int .i64 (x2 : Int)))
      have hi := hide (info10 (digL m) (digL_len m))
      have hi0 := hide (info10 (dgS f 0) (dgS_len f 0))
      have hl10 := digL_len m
      replace hx1 := hide hx1; replace hx2 := hide hx2
      clear hql HD HD' HR hB D1 EA E8 E9 EF
      go_wp2_with (first
        | (go_at_call 66; refine (unhide CH _).mono ?_; rintro e wz ⟨rfl, hwz⟩; subst hwz)
        | (refine wpList_load_row rfl 67 _ rfl (w.heap.size + 1) rfl 67 _ (0, 0) _ (unhide D2) Try.underlying67 rfl (unhide hi) ?_)
        | (refine wpList_store_row rfl 67 _ _ rfl w.heap.size _ rfl rfl 67 _ (unhide HR2) (unhide hi) (by simp [dgS_len, hl10]) (iv_one _) ?_))
      have HR3 := setRow_heap _ w.heap.size _ ((digL m).map iv).toArray 67 (0, 0) (unhide HR2)
      have hB3 := Go.below_setRow (unhide hB2) (Nat.le_refl _) ((digL m).map iv).toArray
      exact bodyPost_ret (results_cell_row (by exact Try.results49) _ _ _ _ _ (0, 0) _ rfl HR3 Try.underlying67 rfl (unhide hi)) rfl ⟨rfl, hB3⟩
end Go.Proofs.Ytjgnjjphankhnab

/- Keys for once by the project's own functions: parts of chains, keys, signatures, what is found, over the loaded program. -/
namespace Go.Proofs.Ytjgnjjphankhnab
open Go.RowKit
def dgL (dg : Nat → Nat) : List Int := (List.range 10).map (fun i => (dg i : Int))
theorem dgL_len (dg : Nat → Nat) : (dgL dg).length = 10 := by unfold dgL; rw [List.length_map, List.length_range]
theorem dgL_at (dg : Nat → Nat) (i : Nat) (hi : i < 10) : (dgL dg)[i]? = some (dg i : Int) := by
  unfold dgL
  rw [List.getElem?_map, List.getElem?_range hi]
  rfl
theorem dgL_digL (m : ByteArray) : dgL (dgAt m) = digL m := by
  rw [← dgS_all]
  unfold dgL dgS dgF
  apply List.map_congr_left
  intro i hi
  rw [if_pos (List.mem_range.1 hi)]
theorem dgL_zero : (#[.int .i64 0, .int .i64 0, .int .i64 0, .int .i64 0, .int .i64 0, .int .i64 0, .int .i64 0, .int .i64 0, .int .i64 0, .int .i64 0] : Array Value) = ((dgL (fun _ => 0)).map iv).toArray := rfl
theorem ownV_of_full14 {w : World} {base g n : Nat} {e : TypeId} {xs : List Value} (hb : base ≤ g) (hm : n ≤ maxLen) (hl : xs.length = n) (h : w.heap[g]? = some (.cells xs.toArray e (0, 0))) : OwnV w base e (.slice (some ⟨g, 0, none⟩) n n) xs := by
  refine ⟨by rw [Nat.mul_one], .inr ⟨g, n, xs.toArray, by rw [hl], hb, h, by omega, hm, by simp [hl], ?_⟩⟩
  simp
theorem steps_le (n : Nat) (h : n ≤ 15) : stepsN (n : Int) = n := by unfold stepsN; rw [if_pos (by omega)]; omega
set_option maxRecDepth 20000 in
set_option maxHeartbeats 1000000 in
theorem left_any (dg : Nat → Nat) (hdg : ∀ i, dg i ≤ 15) (k : Nat) (hk : k < 10) (w : World) :
    Calls Try.prog 50 #[.agg ((dgL dg).map iv).toArray, .int .i64 (k : Int)] w fun e w' => e = .returned (.tuple #[.int .i64 (dg k : Int), .int .i64 ((15 - dg k : Nat) : Int)]) ∧ Below w.heap.size w w' := by
  obtain ⟨W, hW, hC, hb, hlt⟩ := one_cb w ((dgL dg).map iv).toArray 67
  have hd := hdg k
  have c0 : W.cell? ⟨w.heap.size, k, none⟩ = some (.int .i64 (dg k : Int)) := ia_cell hC (dgL_at dg k hk)
  have I1 := idx10 w.heap.size k (by omega)
  obtain ⟨s, hs⟩ : ∃ s : Nat, s = 15 - dg k := ⟨_, rfl⟩
  rw [← hs]
  have q1 : IntKind.i64.wrap (15 - (dg k : Int)) = (s : Int) := by rw [IntKind.wrap_i64]; omega
  replace hs := hide hs
  generalize dg k = d at *
  replace hC := hide hC
  clear hdg
  go_enter Try.func50, Try.ntmps50
  go_wp2
  go_quiet (fail)
  go_wp2
  exact bodyPost_ret (results_tmp2 (by exact Try.results50) _ _ _) rfl ⟨rfl, bDN hb _⟩
set_option maxRecDepth 20000 in
set_option maxHeartbeats 1000000 in
theorem ends_left (dg : Nat → Nat) (hdg : ∀ i, dg i ≤ 15) (l : List ByteArray) (leaf : Int) (v : Value) (w : World) (hr : RdV w v (l.map sv)) (h10 : l.length = 10) (hl : ∀ x ∈ l, x.size ≤ 1048576) :
    Calls Try.prog 64 #[v, .int .i64 leaf, .func (Fn.func 50) #[.agg ((dgL dg).map iv).toArray] #[]] w fun e w' => (∃ a c, e = .returned (.slice a 10 c) ∧ OwnV w' w.heap.size 9 (.slice a 10 c) (((List.range 10).map (fun i => chnB (bAt l i) leaf (i : Int) (dg i : Int) (15 - dg i))).map sv)) ∧ Below w.heap.size w w' := by
  obtain ⟨i0, hi, hz0, hz1, hz2⟩ := info_parts infoTxt
  obtain ⟨a, c, rfl, hc⟩ := hr.open
  rw [List.length_map, h10]
  clear hr
  have CP := hide (fun (k : Nat) (hk : k < 10) W => left_any dg hdg k hk W)
  have CH := hide (show ∀ (k : Nat), k < 10 → ∀ W, Calls Try.prog 81 #[.string (bAt l k), .int .i64 leaf, .int .i64 (k : Int), .int .i64 (dg k : Int), .int .i64 ((15 - dg k : Nat) : Int)] W fun e w' => e = .returned (.string (chnB (bAt l k) leaf (k : Int) (dg k : Int) (15 - dg k))) ∧ Below W.heap.size W w' from fun k hk W => by
    have h := implChain_any (bAt l k) leaf (k : Int) (dg k : Int) ((15 - dg k : Nat) : Int) (bAt_size l k _ (by omega) hl) W
    rw [steps_le _ (by have := hdg k; omega)] at h
    exact h)
  obtain ⟨F, hF⟩ : ∃ F : Nat → ByteArray, F = fun i => chnB (bAt l i) leaf (i : Int) (dg i : Int) (15 - dg i) := ⟨_, rfl⟩
  have CH2 := hide (show ∀ (k : Nat), k < 10 → ∀ W, Calls Try.prog 81 #[.string (bAt l k), .int .i64 leaf, .int .i64 (k : Int), .int .i64 (dg k : Int), .int .i64 ((15 - dg k : Nat) : Int)] W fun e w' => e = .returned (.string (F k)) ∧ Below W.heap.size W w' from fun k hk W => by rw [hF]; exact unhide CH k hk W)
  rw [← hF]
  obtain ⟨L, hL⟩ : ∃ L : List Value, L = ((List.range 10).map F).map sv := ⟨_, rfl⟩
  have hLl := hide (show L.length = 10 by rw [hL, List.length_map, List.length_map, List.length_range])
  have hLk := hide (show ∀ k, k < 10 → L[k]? = some (.string (F k)) from fun k hk => by rw [hL, List.getElem?_map, List.getElem?_map, List.getElem?_range hk]; rfl)
  rw [← hL]
  replace hF := hide hF
  replace hL := hide hL
  replace h10 := hide h10
  generalize ((dgL dg).map iv).toArray = A at *
  clear CH hl hdg
  go_enter Try.func64, Try.ntmps64
  go_wp2_with (at_make; refine wpList_make_full _ rfl _ _ 22 rfl w.heap.size 9 i0 (.string ⟨#[]⟩) 1 Try.underlying22 hi hz0 hz1 _ _ _ _ 10 rfl rfl rfl rfl (by rw [hz2]; omega) (by unfold maxLen; omega) (Nat.le_refl _) ?_; intro w1 hown1 hgrow1)
  have hr0 : OwnV w1 w.heap.size 9 (.slice (some ⟨w.heap.size, 0, none⟩) 10 10) (L.take 0 ++ List.replicate (10 - 0) (.string ⟨#[]⟩)) := by
    rw [madeT] at hown1
    unfold OwnV
    simpa using hown1
  have hb0 : Below w.heap.size w w1 := (Below.refl w.heap.size w).grown hgrow1 (Nat.le_refl _) (fun k hk => by cases hk)
  clear hown1 hgrow1
  go_loopw [15] (fun ti wr => ∃ k : Nat, k ≤ 10 ∧ ti = .int .i64 k ∧ Hid (OwnV wr w.heap.size 9 (.slice (some ⟨w.heap.size, 0, none⟩) 10 10) (L.take k ++ List.replicate (10 - k) (.string ⟨#[]⟩))) ∧ Below w.heap.size w wr ∧ w.heap.size < wr.heap.size) (fun ti _ => 10 - (intOf ti).toNat)
  case atStart => exact ⟨0, Nat.zero_le _, rfl, hide hr0, hb0, (hr0.lt _ rfl).2⟩
  case round =>
    obtain ⟨k, hk, rfl, HO, hb, hszz⟩ := hrel
    clear hr0 hb0
    by_cases hlt : k < 10
    · have hk' : (k : Int) < 10 := by omega
      have hk0 : (0 : Int) ≤ (k : Int) := by omega
      obtain ⟨g, o, rfl, hg, d1⟩ := hc k _ (bAt_get l k (by rw [unhide h10]; exact hlt))
      have d2 := (hb.cell (p := ⟨g, o + k, none⟩) hg).trans d1
      have c1 := hide (unhide CP k hlt)
      have c2 := hide (unhide CH2 k hlt)
      have HF := hide (fillV (z := .string ⟨#[]⟩) (unhide hLk k hlt) (unhide hLl))
      generalize bAt l k = x at *
      generalize F k = y at *
      generalize dg k = dd at *
      clear hc d1 CP CH2
      go_wp2_with (go_at_call 50; refine (unhide c1 _).mono ?_; rintro e w2 ⟨rfl, hb2⟩; have hB2 := hb.trans (hb2.mono hb.size); have HO2 := hide ((unhide HO).below hb2); have hs2 := Nat.lt_of_lt_of_le hszz hb2.size)
      go_wp2_with (go_at_call 81; refine (unhide c2 _).mono ?_; rintro e w3 ⟨rfl, hb3⟩; have hB3 := hB2.trans (hb3.mono hB2.size); have HO3 := (unhide HO2).below hb3; have hs3 := Nat.lt_of_lt_of_le hs2 hb3.size; obtain ⟨u, hu⟩ : ∃ u, (L.take k ++ List.replicate (10 - k) (.string ⟨#[]⟩))[k]? = some u := ⟨_, List.getElem?_eq_getElem (by have := HO3.len; omega)⟩; have cu := HO3.cell hu; have cz := HO3.frozen k; have ho2 := HO3.set k (.string y); rw [unhide HF] at ho2; replace ho2 := hide ho2; replace HO3 := hide HO3; clear hu)
      go_roundw
      case rel => exact ⟨k + 1, by omega, by go_num, ho2, hB3.setCell (p := ⟨w.heap.size, k, none⟩) (Nat.le_refl _) _, by simpa using hs3⟩
      case measure => simp [intOf]; omega
    · have hk' : ¬ (k : Int) < 10 := by omega
      obtain rfl : k = 10 := by omega
      have e2 : L.take 10 ++ List.replicate (10 - 10) (.string ⟨#[]⟩) = L := by
        rw [Nat.sub_self, List.take_of_length_le (by rw [unhide hLl]; exact Nat.le_refl _)]
        simp
      rw [e2] at HO
      clear hc
      go_wp2
      go_ret
      exact ⟨⟨_, _, rfl, unhide HO⟩, hb⟩
theorem catC_flat (F : Nat → ByteArray) (k : Nat) : (catC F k).data.toList = (((List.range k).map F).map (·.data.toList)).flatten := by
  induction k with
  | zero => rfl
  | succ k ih =>
    show (catC F k ++ F k).data.toList = _
    rw [ByteArray.data_append, Array.toList_append, ih, List.range_succ, List.map_append, List.map_append, List.flatten_append]
    simp
set_option maxRecDepth 20000 in
set_option maxHeartbeats 1000000 in
theorem chopEnds_left (dg : Nat → Nat) (hdg : ∀ i, dg i ≤ 15) (l : List ByteArray) (leaf : Int) (v : Value) (w : World) (hr : RdV w v (l.map sv)) (hl : sumS l ≤ 1048576) :
    Calls Try.prog 48 #[v, .int .i64 leaf, .func (Fn.func 50) #[.agg ((dgL dg).map iv).toArray] #[]] w fun e w' => e = .returned (.string (if l.length = 10 then chopB (catC (fun i => chnB (bAt l i) leaf (i : Int) (dg i : Int) (15 - dg i)) 10) else ⟨#[]⟩)) ∧ Below w.heap.size w w' := by
  by_cases h10 : l.length = 10
  · rw [if_pos h10]
    have CE := hide (ends_left dg hdg l leaf v w hr h10 (sumS_le l _ hl))
    obtain ⟨F, hF⟩ : ∃ F : Nat → ByteArray, F = fun i => chnB (bAt l i) leaf (i : Int) (dg i : Int) (15 - dg i) := ⟨_, rfl⟩
    have hz : (catC F 10).size ≤ 4000000 := by
      have h := catC_sum l F (fun i => by rw [hF]; exact chn_le _ _ _ _ _) 10 (by omega)
      rw [show l.take 10 = l from List.take_of_length_le (by omega)] at h
      omega
    rw [← hF] at CE ⊢
    have hfl := hide (catC_flat F 10)
    obtain ⟨T, hT⟩ : ∃ T, T = catC F 10 := ⟨_, rfl⟩
    rw [← hT] at hz hfl ⊢
    obtain ⟨xs, hxs⟩ : ∃ xs, xs = (List.range 10).map F := ⟨_, rfl⟩
    rw [← hxs] at CE hfl
    have hxl : xs.length = 10 := by rw [hxs, List.length_map, List.length_range]
    obtain ⟨a, c, rfl⟩ := hr.shape
    rw [List.length_map, h10] at CE ⊢
    generalize ((dgL dg).map iv).toArray = A at *
    obtain ⟨R, hR⟩ : ∃ R, R = chopB T := ⟨_, rfl⟩
    rw [← hR]
    replace hF := hide hF; replace hT := hide hT; replace hxs := hide hxs; replace h10 := hide h10
    clear hr
    go_enter Try.func48, Try.ntmps48
    go_wp2_with fail
    refine (unhide CE).mono ?_
    rintro e w1 ⟨⟨a1, c1, rfl, ho⟩, hb1⟩
    obtain ⟨g, rfl, _, hg⟩ := ho.some_at (by simp)
    have hcap : 10 ≤ c1 := by
      rcases ho.2 with ⟨h1, _⟩ | ⟨g', cap, cur, h1, _, _, h4, _⟩
      · cases h1
      · rw [List.length_map, hxl] at h1 h4
        injection h1 with _ _ h5
        omega
    have C2 := hide (chopParts_any g 0 c1 10 xs hxl T (unhide hfl) hz w1 (fun j x hx => by rw [Nat.zero_add]; exact ho.cell (by rw [List.getElem?_map, hx]; rfl)) hg hcap (by omega))
    rw [← hR] at C2
    replace hR := hide hR; replace ho := hide ho
    go_wp2_with fail
    refine (unhide C2).mono ?_
    rintro e w2 ⟨rfl, hb2⟩
    have hB := hb1.trans (hb2.mono hb1.size)
    clear hb1 hb2 C2 CE
    go_wp2
    go_ret
    exact ⟨rfl, hB⟩
  · rw [if_neg h10]
    obtain ⟨a, c, rfl⟩ := hr.shape
    rw [List.length_map]
    have h10' : ¬ (l.length : Int) = 10 := by omega
    generalize ((dgL dg).map iv).toArray = A at *
    clear hr
    go_enter Try.func48, Try.ntmps48
    go_wp2
    go_ret
    exact ⟨rfl, Below.refl _ _⟩
set_option maxRecDepth 20000 in
set_option maxHeartbeats 1000000 in
theorem implOncePublic_any (l : List ByteArray) (leaf : Int) (v : Value) (w : World) (hr : RdV w v (l.map sv)) (hl : sumS l ≤ 1048576) :
    Calls Try.prog 75 #[v, .int .i64 leaf] w fun e w' => e = .returned (.string (onceP l leaf)) ∧ Below w.heap.size w w' := by
  have C := hide (chopEnds_left (fun _ => 0) (fun _ => Nat.zero_le _) l leaf v w hr hl)
  rw [← dgL_zero] at C
  have E : onceP l leaf = (if l.length = 10 then chopB (catC (fun i => chnB (bAt l i) leaf (i : Int) (((fun _ => 0 : Nat → Nat) i : Nat) : Int) (15 - (fun _ => 0 : Nat → Nat) i)) 10) else ⟨#[]⟩) := rfl
  rw [E]
  generalize (if l.length = 10 then chopB (catC (fun i => chnB (bAt l i) leaf (i : Int) (((fun _ => 0 : Nat → Nat) i : Nat) : Int) (15 - (fun _ => 0 : Nat → Nat) i)) 10) else ⟨#[]⟩) = R at *
  obtain ⟨a, c, rfl⟩ := hr.shape
  rw [List.length_map] at C ⊢
  clear hr
  go_enter Try.func75, Try.ntmps75
  go_wp2_with fail
  refine (unhide C).mono ?_
  rintro e w1 ⟨rfl, hb1⟩
  go_wp2
  go_ret
  exact ⟨rfl, hb1⟩
set_option maxRecDepth 20000 in
set_option maxHeartbeats 1000000 in
theorem implOnceFound_any (l : List ByteArray) (leaf : Int) (m : ByteArray) (v : Value) (w : World) (hr : RdV w v (l.map sv)) (hl : sumS l ≤ 1048576) (hm : m.size ≤ 4000000) :
    Calls Try.prog 32 #[v, .int .i64 leaf, .string m] w fun e w' => e = .returned (.string (onceF l leaf m)) ∧ Below w.heap.size w w' := by
  have CD := hide (digitsFor_any m hm w)
  have C := hide (fun W (h : Below w.heap.size w W) => chopEnds_left (dgAt m) (dgAt_le m) l leaf v W (hr.below h) hl)
  rw [← dgL_digL] at CD
  have E : onceF l leaf m = (if l.length = 10 then chopB (catC (fun i => chnB (bAt l i) leaf (i : Int) (dgAt m i : Int) (15 - dgAt m i)) 10) else ⟨#[]⟩) := rfl
  rw [E]
  generalize (if l.length = 10 then chopB (catC (fun i => chnB (bAt l i) leaf (i : Int) (dgAt m i : Int) (15 - dgAt m i)) 10) else ⟨#[]⟩) = R at *
  obtain ⟨a, c, rfl⟩ := hr.shape
  rw [List.length_map] at C ⊢
  generalize ((dgL (dgAt m)).map iv).toArray = A at *
  clear hr
  go_enter Try.func32, Try.ntmps32
  go_wp2_with fail
  refine (unhide CD).mono ?_
  rintro e w1 ⟨rfl, hb1⟩
  go_wp2_with fail
  refine (unhide C w1 hb1).mono ?_
  rintro e w2 ⟨rfl, hb2⟩
  have hB := hb1.trans (hb2.mono hb1.size)
  clear hb1 hb2 C CD
  go_wp2
  go_ret
  exact ⟨rfl, hB⟩
set_option maxRecDepth 20000 in
set_option maxHeartbeats 1000000 in
theorem implOnceKey_any (s : ByteArray) (leaf : Int) (hs : s.size ≤ 2000000) (w : World) :
    Calls Try.prog 85 #[.string s, .int .i64 leaf] w fun e w' => (∃ v, e = .returned v ∧ OwnV w' w.heap.size 9 v ((keysO s leaf).map sv)) ∧ Below w.heap.size w w' := by
  obtain ⟨i0, hi, hz0, hz1, hz2⟩ := info_parts infoTxt
  have CY := hide (fun z W => implByteY_any z W)
  have CC := hide (fun (k : Nat) W => chop4_any s (oneY leaf) (oneY (k : Int)) ⟨#[111]⟩ hs (by rw [oneY_size]; omega) (by rw [oneY_size]; omega) (by show 1 ≤ _; omega) W)
  have HK := hide (show ∀ i : Nat, chopB (s ++ oneY leaf ++ oneY (i : Int) ++ ⟨#[111]⟩) = keyO s leaf i from fun i => rfl)
  have EK : keysO s leaf = (List.range 10).map (keyO s leaf) := rfl
  rw [EK]
  simp only [unhide HK] at CC
  generalize keyO s leaf = F at *
  obtain ⟨L, hL⟩ : ∃ L : List Value, L = ((List.range 10).map F).map sv := ⟨_, rfl⟩
  have hLl := hide (show L.length = 10 by rw [hL, List.length_map, List.length_map, List.length_range])
  have hLk := hide (show ∀ k, k < 10 → L[k]? = some (.string (F k)) from fun k hk => by rw [hL, List.getElem?_map, List.getElem?_map, List.getElem?_range hk]; rfl)
  rw [← hL]
  replace hL := hide hL
  clear HK EK
  go_enter Try.func85, Try.ntmps85
  go_wp2_with (at_make; refine wpList_make_full _ rfl _ _ 22 rfl w.heap.size 9 i0 (.string ⟨#[]⟩) 1 Try.underlying22 hi hz0 hz1 _ _ _ _ 10 rfl rfl rfl rfl (by rw [hz2]; omega) (by unfold maxLen; omega) (Nat.le_refl _) ?_; intro w1 hown1 hgrow1)
  have hr0 : OwnV w1 w.heap.size 9 (.slice (some ⟨w.heap.size, 0, none⟩) 10 10) (L.take 0 ++ List.replicate (10 - 0) (.string ⟨#[]⟩)) := by
    rw [madeT] at hown1
    unfold OwnV
    simpa using hown1
  have hb0 : Below w.heap.size w w1 := (Below.refl w.heap.size w).grown hgrow1 (Nat.le_refl _) (fun k hk => by cases hk)
  clear hown1 hgrow1
  go_loopw [10] (fun ti wr => ∃ k : Nat, k ≤ 10 ∧ ti = .int .i64 k ∧ Hid (OwnV wr w.heap.size 9 (.slice (some ⟨w.heap.size, 0, none⟩) 10 10) (L.take k ++ List.replicate (10 - k) (.string ⟨#[]⟩))) ∧ Below w.heap.size w wr ∧ w.heap.size < wr.heap.size) (fun ti _ => 10 - (intOf ti).toNat)
  case atStart => exact ⟨0, Nat.zero_le _, rfl, hide hr0, hb0, (hr0.lt _ rfl).2⟩
  case round =>
    obtain ⟨k, hk, rfl, HO, hb, hszz⟩ := hrel
    clear hr0 hb0
    by_cases hlt : k < 10
    · have hk' : (k : Int) < 10 := by omega
      have hk0 : (0 : Int) ≤ (k : Int) := by omega
      have c1 := hide (unhide CY leaf)
      have c2 := hide (unhide CY (k : Int))
      have c3 := hide (unhide CC k)
      have HF := hide (fillV (z := .string ⟨#[]⟩) (unhide hLk k hlt) (unhide hLl))
      generalize oneY leaf = ya at *
      generalize oneY (k : Int) = yb at *
      generalize F k = y at *
      clear CY CC
      go_wp2_with fail
      refine (unhide c1 wr).mono ?_
      rintro e w2 ⟨rfl, hb2⟩
      have hB2 := hb.trans (hb2.mono hb.size)
      have HO2 := hide ((unhide HO).below hb2)
      have hs2 := Nat.lt_of_lt_of_le hszz hb2.size
      clear hb2 hb HO hszz c1
      go_wp2_with fail
      refine (unhide c2 w2).mono ?_
      rintro e w3 ⟨rfl, hb3⟩
      have hB3 := hB2.trans (hb3.mono hB2.size)
      have HO3 := hide ((unhide HO2).below hb3)
      have hs3 := Nat.lt_of_lt_of_le hs2 hb3.size
      clear hb3 hB2 HO2 hs2 c2
      go_wp2_with fail
      refine (unhide c3 w3).mono ?_
      rintro e w4 ⟨rfl, hb4⟩
      have hB4 := hB3.trans (hb4.mono hB3.size)
      have HO4 := (unhide HO3).below hb4
      have hs4 := Nat.lt_of_lt_of_le hs3 hb4.size
      obtain ⟨u, hu⟩ : ∃ u, (L.take k ++ List.replicate (10 - k) (.string ⟨#[]⟩))[k]? = some u := ⟨_, List.getElem?_eq_getElem (by have := HO4.len; omega)⟩
      have cu := HO4.cell hu
      have cz := HO4.frozen k
      have ho2 := HO4.set k (.string y)
      rw [unhide HF] at ho2
      replace ho2 := hide ho2; replace HO4 := hide HO4
      clear hu hb4 hB3 HO3 hs3 c3
      go_wp2
      go_roundw
      case rel => exact ⟨k + 1, by omega, by go_num, ho2, hB4.setCell (p := ⟨w.heap.size, k, none⟩) (Nat.le_refl _) _, by simpa using hs4⟩
      case measure => simp [intOf]; omega
    · have hk' : ¬ (k : Int) < 10 := by omega
      obtain rfl : k = 10 := by omega
      have e2 : L.take 10 ++ List.replicate (10 - 10) (.string ⟨#[]⟩) = L := by
        rw [Nat.sub_self, List.take_of_length_le (by rw [unhide hLl]; exact Nat.le_refl _)]
        simp
      rw [e2] at HO
      go_wp2
      go_ret
      exact ⟨⟨_, rfl, unhide HO⟩, hb⟩
end Go.Proofs.Ytjgnjjphankhnab

/- Trees by the given model: nodes and levels, over the loaded program. -/
namespace Go.Proofs.Ytjgnjjphankhnab
open Go.RowKit
theorem bAt_getT (l : List ByteArray) (k : Nat) (h : k < l.length) : (l.map sv)[k]? = some (.string (bAt l k)) := by
  rw [sv_get l k h]
  unfold bAt
  rw [List.getD_eq_getElem?_getD, List.getElem?_eq_getElem h]
  rfl
theorem bAt_sizeT (l : List ByteArray) (k n : Nat) (hn : ∀ x ∈ l, x.size ≤ n) : (bAt l k).size ≤ n := by
  unfold bAt
  rw [List.getD_eq_getElem?_getD]
  cases h : l[k]? with
  | none => exact Nat.zero_le _
  | some x => exact hn x (List.mem_of_getElem? h)
def preT (f : Nat → ByteArray) (k : Nat) : List ByteArray := (List.range k).map f
theorem preT_len (f : Nat → ByteArray) (k : Nat) : (preT f k).length = k := by unfold preT; rw [List.length_map, List.length_range]
theorem preT_succ (f : Nat → ByteArray) (k : Nat) : preT f (k + 1) = preT f k ++ [f k] := by unfold preT; rw [List.range_succ, List.map_append]; rfl
set_option maxRecDepth 20000 in
set_option maxHeartbeats 800000 in
theorem specNode_any (level place : Int) (a b : ByteArray) (ha : a.size ≤ 1048576) (hb : b.size ≤ 1048576) (w : World) :
    Calls Try.prog 42 #[.int .i64 level, .int .i64 place, .string a, .string b] w fun e w' => e = .returned (.string (nodeB level place a b)) ∧ Below w.heap.size w w' := by
  have CB := hide (fun z W => specByteY_any z W)
  have CC := hide (fun W => specChop_any (oneY level ++ oneY place ++ a ++ b ++ ⟨#[110]⟩) (by rw [ByteArray.size_append, ByteArray.size_append, ByteArray.size_append, ByteArray.size_append, oneY_size, oneY_size]; show 1 + 1 + a.size + b.size + 1 ≤ _; omega) W)
  have HN := hide (show chopB (oneY level ++ oneY place ++ a ++ b ++ ⟨#[110]⟩) = nodeB level place a b from rfl)
  rw [unhide HN] at CC
  have za := oneY_size level
  have zb := oneY_size place
  have c1 := hide (unhide CB level)
  have c2 := hide (unhide CB place)
  generalize nodeB level place a b = R at *
  generalize oneY level = ya at *
  generalize oneY place = yb at *
  have za' : ya.size ≤ 1 := by omega
  have zb' : yb.size ≤ 1 := by omega
  replace za := hide za; replace zb := hide zb
  clear CB HN
  go_enter Try.func42, Try.ntmps42
  go_wp2_with fail
  refine (unhide c1 w).mono ?_
  rintro e w1 ⟨rfl, hb1⟩
  go_wp2_with fail
  refine (unhide c2 w1).mono ?_
  rintro e w2 ⟨rfl, hb2⟩
  have hB2 := hb1.trans (hb2.mono hb1.size)
  go_wp2_with fail
  refine (unhide CC w2).mono ?_
  rintro e w3 ⟨rfl, hb3⟩
  have hB3 := hB2.trans (hb3.mono hB2.size)
  go_wp2
  go_ret
  exact ⟨rfl, hB3⟩
set_option maxRecDepth 20000 in
set_option maxHeartbeats 800000 in
theorem specLevelUp_any (level : Int) (l : List ByteArray) (v : Value) (w : World) (hr : RdV w v (l.map sv)) (hl : ∀ x ∈ l, x.size ≤ 1048576) (hn : l.length ≤ 1048576) :
    Calls Try.prog 70 #[.int .i64 level, v] w fun e w' => (∃ v', e = .returned v' ∧ OwnV w' w.heap.size 9 v' ((lvL level l).map sv)) ∧ Below w.heap.size w w' := by
  obtain ⟨i0, hi, hz0, hz1, hz2⟩ := info_parts infoTxt
  obtain ⟨a, c, rfl, hc⟩ := hr.open
  rw [List.length_map]
  clear hr
  obtain ⟨n, hnn⟩ : ∃ n, l.length = n := ⟨_, rfl⟩
  obtain ⟨h, hh⟩ : ∃ h, h = n / 2 := ⟨_, rfl⟩
  have EL := hide (show lvL level l = preT (lvN level l) h by rw [hh, ← hnn]; rfl)
  rw [unhide EL]
  have CN := hide (show ∀ (k : Nat) W, Calls Try.prog 42 #[.int .i64 level, .int .i64 (k : Int), .string (bAt l (2 * k)), .string (bAt l (2 * k + 1))] W fun e w' => e = .returned (.string (lvN level l k)) ∧ Below W.heap.size W w' from fun k W => specNode_any level (k : Int) _ _ (bAt_sizeT l _ _ hl) (bAt_sizeT l _ _ hl) W)
  have HC := hide (fun k (hk : k < n) => hc k _ (bAt_getT l k (by rw [hnn]; exact hk)))
  rw [hnn] at hn ⊢
  generalize lvN level l = F at *
  replace hnn := hide hnn
  have hh2 := hide (show 2 * h ≤ n ∧ n ≤ 2 * h + 1 by omega)
  have hhb : h ≤ 1048576 := by omega
  replace hh := hide hh
  clear EL hc
  have ho0 : OwnV (w.alloc (.cells #[] 9)) w.heap.size 9 (.slice (some ⟨w.heap.size, 0, none⟩) 0 0) ((preT F 0).map sv) := World.ownsRow_made w #[] 0 (Nat.le_refl _) (by decide) (by simp)
  replace ho0 := hide ho0
  have hb0 := (Below.refl w.heap.size w).alloc (Nat.le_refl _) (.cells #[] 9)
  go_enter Try.func70, Try.ntmps70
  go_wp2
  go_loopw [5, 6] (fun tv ti wr => ∃ k : Nat, k ≤ h ∧ ti = .int .i64 (k : Int) ∧ Hid (OwnV wr w.heap.size 9 tv ((preT F k).map sv)) ∧ Below w.heap.size w wr) (fun _ ti _ => h - (intOf ti).toNat)
  case atStart => exact ⟨0, by omega, rfl, ho0, hb0⟩
  case round =>
    clear ho0 hb0
    obtain ⟨k, hk, rfl, HO, hB⟩ := hrel
    have hkb : k ≤ 1048576 := by omega
    have hsz := hB.size
    by_cases hlt : k < h
    · obtain ⟨p, hp⟩ : ∃ p, p = 2 * k := ⟨_, rfl⟩
      obtain ⟨q, hq⟩ : ∃ q, q = 2 * k + 1 := ⟨_, rfl⟩
      have hqn : q < n := by have := (unhide hh2).1; omega
      have hk' : (q : Int) < (n : Int) := by omega
      have hk2 : (p : Int) < (n : Int) := by omega
      have hk0 : (0 : Int) ≤ (p : Int) := by omega
      have hk1 : (0 : Int) ≤ (q : Int) := by omega
      have e1 : 2 * (k : Int) = (p : Int) := by omega
      have e2 : (p : Int) + 1 = (q : Int) := by omega
      have w1 : IntKind.i64.wrap (2 * (k : Int)) = (p : Int) := by rw [IntKind.wrap_i64]; omega
      have w2 : IntKind.i64.wrap ((p : Int) + 1) = (q : Int) := by rw [IntKind.wrap_i64]; omega
      have w3 : IntKind.i64.wrap (p : Int) = (p : Int) := by rw [IntKind.wrap_i64]; omega
      have w4 : IntKind.i64.wrap (q : Int) = (q : Int) := by rw [IntKind.wrap_i64]; omega
      obtain ⟨g, o, rfl, hg, d1⟩ := unhide HC p (by omega)
      obtain ⟨g', o', he, hg', d1'⟩ := unhide HC q (by omega)
      obtain ⟨rfl, rfl, _⟩ := Addr.mk.inj (Option.some.inj he)
      have c0 := hide (unhide CN k)
      rw [← hq, ← hp] at c0
      have KS := hide (fun (W : World) (h : Below w.heap.size w W) => (⟨(h.cell (p := ⟨g, o + p, none⟩) hg).trans d1, (h.cell (p := ⟨g, o + q, none⟩) hg).trans d1'⟩ : W.cell? ⟨g, o + p, none⟩ = some (.string (bAt l p)) ∧ W.cell? ⟨g, o + q, none⟩ = some (.string (bAt l q))))
      obtain ⟨d2, d3⟩ := unhide KS _ hB
      replace hp := hide hp; replace hq := hide hq
      have HP := hide (preT_succ F k)
      have hl1 : ((preT F k).map sv).length + 1 ≤ maxLen := by rw [List.length_map, preT_len]; unfold maxLen; omega
      have hl2 : (((preT F k).map sv).length + 1) * 16 ≤ 140737488355328 := by rw [List.length_map, preT_len]; omega
      generalize bAt l p = xa at *
      generalize bAt l q = xb at *
      generalize F k = fk at *
      replace hl1 := hide hl1; replace hl2 := hide hl2
      clear HC CN d1 d1' he
      go_wp2
      go_region_held3 (fun W => W.cell? ⟨g, o + p, none⟩ = some (.string xa) ∧ W.cell? ⟨g, o + q, none⟩ = some (.string xb)) (first | exact ⟨d2, d3⟩ | exact (unhide KS) _ hB5 | exact (unhide KS) _ hB4 | exact (unhide KS) _ (hB4.alloc hB4.size _) | fail) (first
        | (refine step_append_u (w := w4) (u := .string fk) rfl rfl rfl (.tmp 16) (.tmp 31) 22 rfl w.heap.size w.heap.size i0 (.string ⟨#[]⟩) 16 Try.underlying22 hi hz0 hz1 hz2 rfl _ _ rfl (by exact hO4) rfl (unhide hl1) (unhide hl2) (Nat.le_refl _) (by exact hB4.size) hB4 ?_; intro v' w5 hown5 hB5)
        | (go_at_call 42; refine (unhide c0 _).mono ?_; rintro e w4 ⟨rfl, hb4⟩; have hO4 := OwnV.below (w := wr.drew) (unhide HO) hb4; have hB4 := (hB.drew).trans (hb4.mono hB.size)))
      all_goals
        have hown6 := hide (show OwnV w5 w.heap.size 9 v' ((preT F (k + 1)).map sv) by rw [unhide HP, List.map_append]; exact hown5)
        clear hown5 hO4 d2 d3 KS HO
        go_wp2
        exact ⟨⟨k + 1, by omega, by go_num, hown6, hB5⟩, by simp [intOf]; omega⟩
    · have hk' : ¬ 2 * (k : Int) + 1 < (n : Int) := by have := unhide hh2; omega
      obtain rfl : k = h := by omega
      clear HC
      go_wp2
      go_ret
      exact ⟨⟨_, rfl, unhide HO⟩, hB⟩
end Go.Proofs.Ytjgnjjphankhnab

/- Trees by the given model: roots and paths, over the loaded program. -/
namespace Go.Proofs.Ytjgnjjphankhnab
open Go.RowKit
theorem OwnV.loW {w : World} {base : Nat} {e : TypeId} {v : Value} {xs : List Value} (h : OwnV w base e v xs) : ∀ k, v.ownBlock = some k → base ≤ k ∧ k < w.heap.size := fun k hk => World.ownsRow.lt h k hk
theorem RdV.loW {w : World} {v : Value} {xs : List Value} (h : RdV w v xs) (hn : 0 < xs.length) : ∀ k, v.ownBlock = some k → k < w.heap.size := by
  intro k hk
  rcases h with ⟨_, _, _, h⟩ | ⟨g, o, c, rfl, _, hg, _⟩
  · rw [h] at hn; exact absurd hn (Nat.lt_irrefl _)
  · have : g = k := Option.some.inj hk
    omega
theorem lvs_len2 (l : List ByteArray) (hl : l.length = 4) (k : Nat) (hk : k ≤ 2) : (k = 0 ∧ (lvs l k).length = 4) ∨ (k = 1 ∧ (lvs l k).length = 2) ∨ (k = 2 ∧ (lvs l k).length = 1) := by
  have h := lvs_len l hl k
  rcases show k = 0 ∨ k = 1 ∨ k = 2 by omega with rfl | rfl | rfl
  · exact .inl ⟨rfl, h⟩
  · exact .inr (.inl ⟨rfl, h⟩)
  · exact .inr (.inr ⟨rfl, h⟩)
theorem levelUp_lvs (l : List ByteArray) (hl : l.length = 4) (hs : ∀ x ∈ l, x.size ≤ 1048576) (k : Nat) (hk : k < 2) (W : World) (v : Value) (hr : RdV W v ((lvs l k).map sv)) :
    Calls Try.prog 70 #[.int .i64 ((k + 1 : Nat) : Int), v] W fun e w' => (∃ v', e = .returned v' ∧ OwnV w' W.heap.size 9 v' ((lvs l (k + 1)).map sv)) ∧ Below W.heap.size W w' := by
  have h := specLevelUp_any ((k + 1 : Nat) : Int) (lvs l k) v W hr (lvs_size l _ (by omega) hs k) (by rcases lvs_len2 l hl k (by omega) with ⟨_, h⟩ | ⟨_, h⟩ | ⟨_, h⟩ <;> omega)
  exact h
set_option maxRecDepth 20000 in
set_option maxHeartbeats 800000 in
theorem specRootOf_any (l : List ByteArray) (v : Value) (w : World) (hr : RdV w v (l.map sv)) (hs : ∀ x ∈ l, x.size ≤ 1048576) :
    Calls Try.prog 56 #[v] w fun e w' => e = .returned (.string (rootB l)) ∧ Below w.heap.size w w' := by
  obtain ⟨a, c, rfl, -⟩ := hr.open
  rw [List.length_map] at hr ⊢
  by_cases h4 : l.length = 4
  · have ER := hide (show rootB l = bAt (lvs l 2) 0 by unfold rootB; rw [if_pos h4])
    rw [unhide ER]
    have CL := hide (fun k hk W v hr => levelUp_lvs l h4 hs k hk W v hr)
    have HR := hide (show RdV w (.slice a l.length c) ((lvs l 0).map sv) from hr)
    have hl2 : (lvs l 2).length = 1 := lvs_len l h4 2
    have HE := hide (show ∀ W u, RdV W u ((lvs l 2).map sv) → ∃ g o c, u = .slice (some ⟨g, o, none⟩) 1 c ∧ W.cell? ⟨g, o, none⟩ = some (.string (bAt (lvs l 2) 0)) from fun W u h => by
      obtain ⟨a, c, rfl, hc⟩ := h.open
      rw [List.length_map, hl2]
      obtain ⟨g, o, rfl, _, d⟩ := hc 0 _ (bAt_getT (lvs l 2) 0 (by omega))
      exact ⟨g, o, c, rfl, d⟩)
    rw [h4] at HR ⊢
    generalize bAt (lvs l 2) 0 = R at *
    clear hr ER
    replace h4 := hide h4; replace hl2 := hide hl2
    go_enter Try.func56, Try.ntmps56
    go_wp2
    go_loopw [0, 3] (fun tl ti wr => ∃ k : Nat, k ≤ 2 ∧ ti = .int .i64 ((k + 1 : Nat) : Int) ∧ Hid (RdV wr tl ((lvs l k).map sv)) ∧ Below w.heap.size w wr) (fun _ ti _ => 5 - (intOf ti).toNat)
    case atStart => exact ⟨0, by omega, rfl, HR, Below.refl _ _⟩
    case round =>
      clear HR
      obtain ⟨k, hk, rfl, HR, hB⟩ := hrel
      by_cases hlt : k < 2
      · have hk' : ((k + 1 : Nat) : Int) ≤ 2 := by omega
        have c1 := hide (unhide CL k hlt wr u0 (unhide HR))
        clear HR CL HE
        go_wp2_with fail
        refine (unhide c1).mono ?_
        rintro e w1 ⟨⟨v', rfl, ho⟩, hb1⟩
        have hB1 := hB.trans (hb1.mono hB.size)
        have HR1 := hide ho.rdv
        clear hb1 hB ho c1
        go_wp2
        exact ⟨⟨k + 1, by omega, by go_num, HR1, hB1⟩, by simp [intOf]; omega⟩
      · have hk' : ¬ ((k + 1 : Nat) : Int) ≤ 2 := by omega
        obtain rfl : k = 2 := by omega
        obtain ⟨g, o, c', rfl, d⟩ := unhide HE wr _ (unhide HR)
        clear HR CL HE
        go_wp2
        go_ret
        exact ⟨rfl, hB⟩
  · have ER := hide (show rootB l = ⟨#[]⟩ by unfold rootB; rw [if_neg h4])
    rw [unhide ER]
    have h4' : ¬ (l.length : Int) = 4 := by omega
    clear hr
    go_enter Try.func56, Try.ntmps56
    go_wp2
    go_ret
    exact ⟨rfl, Below.refl _ _⟩
theorem sib_lt (l : List ByteArray) (hl : l.length = 4) (leaf k : Nat) (h : leaf < 4) (hk : k < 2) : sibN (leaf / 2 ^ k) < (lvs l k).length ∧ leaf / 2 ^ k < 4 := by
  unfold sibN
  rcases lvs_len2 l hl k (by omega) with ⟨rfl, e⟩ | ⟨rfl, e⟩ | ⟨rfl, e⟩
  · rw [e, Nat.pow_zero, Nat.div_one]
    split <;> omega
  · rw [e, Nat.pow_one]
    split <;> omega
  · omega
set_option maxRecDepth 20000 in
set_option maxHeartbeats 800000 in
theorem specRootBy_any (x : ByteArray) (leaf : Int) (path : List ByteArray) (v : Value) (w : World) (hx : x.size ≤ 1048576) (hr : RdV w v (path.map sv)) (hs : ∀ x ∈ path, x.size ≤ 1048576) :
    Calls Try.prog 29 #[.string x, .int .i64 leaf, v] w fun e w' => e = .returned (.string (rootBy x leaf path)) ∧ Below w.heap.size w w' := by
  have C1 := hide (fun W => inb9 leaf 0 3 W)
  obtain ⟨a, c, rfl, hc⟩ := hr.open
  rw [List.length_map]
  clear hr
  by_cases h2 : path.length = 2
  · by_cases hlf : 0 ≤ leaf ∧ leaf ≤ 3
    · rw [decide_eq_true hlf] at C1
      obtain ⟨m, rfl⟩ : ∃ m : Nat, leaf = (m : Int) := ⟨leaf.toNat, by omega⟩
      have hm : m < 4 := by omega
      have ER := hide (show rootBy x (m : Int) path = rbB x m path 2 by unfold rootBy; rw [if_pos ⟨h2, hlf⟩, Int.toNat_natCast])
      rw [unhide ER]
      have HN := hide (show ∀ k, rbB x m path (k + 1) = stpB ((k + 1 : Nat) : Int) (m / 2 ^ k) (rbB x m path k) (bAt path k) from fun k => rfl)
      have HC := hide (fun k (hk : k < 2) => hc k _ (bAt_getT path k (by omega)))
      have HZ := hide (fun k => rbB_size x m path k _ (show 4 ≤ 1048576 by omega) hx)
      have HP := hide (fun k => bAt_sizeT path k _ hs)
      rw [h2]
      clear hc
      replace h2 := hide h2
      go_enter Try.func29, Try.ntmps29
      go_wp2_with fail
      refine (unhide C1 _).mono ?_
      rintro e w1 ⟨rfl, hw1⟩
      have hw1' := hw1.symm
      subst hw1'
      clear hw1
      go_wp2
      go_loopw [0, 1, 7] (fun tx tf ti wr => ∃ k y : Nat, k ≤ 2 ∧ ti = .int .i64 ((k + 1 : Nat) : Int) ∧ tf = .int .i64 (y : Int) ∧ Hid (y = m / 2 ^ k) ∧ tx = .string (rbB x m path k) ∧ Below w.heap.size w wr) (fun _ _ ti _ => 5 - (intOf ti).toNat)
      case atStart => exact ⟨0, m, by omega, rfl, rfl, hide (by rw [Nat.pow_zero, Nat.div_one]), rfl, Below.refl _ _⟩
      case round =>
        obtain ⟨k, y, hk, rfl, rfl, hy, rfl, hB⟩ := hrel
        by_cases hlt : k < 2
        · have hk' : ((k + 1 : Nat) : Int) ≤ 2 := by omega
          have hk2 : (k : Int) < 2 := by omega
          have hk0 : (0 : Int) ≤ (k : Int) := by omega
          have hkk : ((k + 1 : Nat) : Int) - 1 = (k : Int) := by omega
          have hy4 : y < 4 := by rw [unhide hy]; exact Nat.lt_of_le_of_lt (Nat.div_le_self _ _) hm
          obtain ⟨g, o, rfl, hg, d1⟩ := unhide HC k hlt
          have d2 := (hB.cell (p := ⟨g, o + k, none⟩) hg).trans d1
          obtain ⟨y2, hy2⟩ : ∃ y2, y2 = y / 2 := ⟨_, rfl⟩
          have HY := hide (show y2 = m / 2 ^ (k + 1) by rw [hy2, unhide hy, Nat.div_div_eq_div_mul, Nat.pow_succ])
          have v1' : (y : Int) / 2 = (y2 : Int) := by omega
          have v1 : (y : Int).tdiv 2 = (y2 : Int) := by rw [Int.tdiv_eq_ediv_of_nonneg (by omega)]; omega
          have HX := hide (unhide HN k)
          rw [← unhide hy] at HX
          have hxk := unhide HZ k
          have hpk := unhide HP k
          obtain ⟨R0, hR⟩ : ∃ R0, R0 = rbB x m path (k + 1) := ⟨_, rfl⟩
          replace hR := hide hR.symm
          generalize rbB x m path k = xk at *
          generalize bAt path k = pk at *
          rw [unhide hR] at HX
          clear HC HN HZ HP d1
          by_cases hodd : y % 2 = 1
          · have ho1' : (y : Int) % 2 = 1 := by omega
            have ho1 : (y : Int).tmod 2 = 1 := by rw [Int.tmod_eq_emod_of_nonneg (by omega)]; omega
            have ES := hide (show stpB ((k + 1 : Nat) : Int) y xk pk = nodeB ((k + 1 : Nat) : Int) (y2 : Int) pk xk by unfold stpB; rw [if_pos hodd, ← hy2])
            have c1 := hide (fun W => specNode_any ((k + 1 : Nat) : Int) (y2 : Int) pk xk hpk hxk W)
            rw [← unhide ES, ← unhide HX] at c1
            replace hodd := hide hodd; replace hy2 := hide hy2
            clear ES HX
            go_wp2_with fail
            refine (unhide c1 wr).mono ?_
            rintro e w1 ⟨rfl, hb1⟩
            have hB1 := hB.trans (hb1.mono hB.size)
            clear hb1 hB c1
            go_wp2
            exact ⟨⟨k + 1, y2, by omega, by go_num, by first | rfl | trivial, HY, by rw [unhide hR], hB1⟩, by simp [intOf]; omega⟩
          · have ho1' : (y : Int) % 2 = 0 := by omega
            have ho1 : (y : Int).tmod 2 = 0 := by rw [Int.tmod_eq_emod_of_nonneg (by omega)]; omega
            have ES := hide (show stpB ((k + 1 : Nat) : Int) y xk pk = nodeB ((k + 1 : Nat) : Int) (y2 : Int) xk pk by unfold stpB; rw [if_neg hodd, ← hy2])
            have c1 := hide (fun W => specNode_any ((k + 1 : Nat) : Int) (y2 : Int) xk pk hxk hpk W)
            rw [← unhide ES, ← unhide HX] at c1
            replace hodd := hide hodd; replace hy2 := hide hy2
            clear ES HX
            go_wp2_with fail
            refine (unhide c1 wr).mono ?_
            rintro e w1 ⟨rfl, hb1⟩
            have hB1 := hB.trans (hb1.mono hB.size)
            clear hb1 hB c1
            go_wp2
            exact ⟨⟨k + 1, y2, by omega, by go_num, by first | rfl | trivial, HY, by rw [unhide hR], hB1⟩, by simp [intOf]; omega⟩
        · have hk' : ¬ ((k + 1 : Nat) : Int) ≤ 2 := by omega
          obtain rfl : k = 2 := by omega
          clear HC
          go_wp2
          go_ret
          exact ⟨rfl, hB⟩
    · rw [decide_eq_false hlf] at C1
      have ER := hide (show rootBy x leaf path = ⟨#[]⟩ by unfold rootBy; rw [if_neg (fun h => hlf h.2)])
      rw [unhide ER, h2]
      clear hc
      go_enter Try.func29, Try.ntmps29
      go_wp2_with fail
      refine (unhide C1 _).mono ?_
      rintro e w1 ⟨rfl, hw1⟩
      have hw1' := hw1.symm
      subst hw1'
      clear hw1
      go_wp2
      go_ret
      exact ⟨rfl, Below.refl _ _⟩
  · have ER := hide (show rootBy x leaf path = ⟨#[]⟩ by unfold rootBy; rw [if_neg (fun h => h2 h.1)])
    rw [unhide ER]
    have h2' : ¬ (path.length : Int) = 2 := by omega
    clear hc
    go_enter Try.func29, Try.ntmps29
    go_wp2
    go_ret
    exact ⟨rfl, Below.refl _ _⟩
end Go.Proofs.Ytjgnjjphankhnab

/- Trees by the project's own functions: nodes that know who stands beside and above, over the loaded program. -/
namespace Go.Proofs.Ytjgnjjphankhnab
open Go.RowKit
theorem chop5_any (a b c d f : ByteArray) (ha : a.size ≤ 1) (hb : b.size ≤ 1) (hc : c.size ≤ 1048576) (hd : d.size ≤ 1048576) (hf : f.size ≤ 1) (w : World) :
    Calls Try.prog 63 #[.slice (some ⟨w.heap.size, 0, none⟩) 5 5] (w.alloc (.cells #[.string a, .string b, .string c, .string d, .string f] 9)) fun e w' => e = .returned (.string (chopB (a ++ b ++ c ++ d ++ f))) ∧ Below w.heap.size w w' := by
  have h := chopParts_any w.heap.size 0 5 5 [a, b, c, d, f] rfl (a ++ b ++ c ++ d ++ f) (by simp [ByteArray.data_append, Array.toList_append]) (by rw [ByteArray.size_append, ByteArray.size_append, ByteArray.size_append, ByteArray.size_append]; omega) (w.alloc (.cells #[.string a, .string b, .string c, .string d, .string f] 9)) (row_texts w [a, b, c, d, f] 9) (by simp) (Nat.le_refl _) (by omega)
  refine h.mono ?_
  rintro e w1 ⟨rfl, hb1⟩
  exact ⟨rfl, ((Below.refl w.heap.size w).alloc (Nat.le_refl _) _).trans (hb1.mono (by simp))⟩
set_option maxRecDepth 20000 in
set_option maxHeartbeats 800000 in
theorem implNode_any (level place : Int) (a b : ByteArray) (ha : a.size ≤ 1048576) (hb : b.size ≤ 1048576) (w : World) :
    Calls Try.prog 47 #[.int .i64 level, .int .i64 place, .string a, .string b] w fun e w' => e = .returned (.string (nodeB level place a b)) ∧ Below w.heap.size w w' := by
  have c1 := hide (fun W => implByteY_any level W)
  have c2 := hide (fun W => implByteY_any place W)
  have CC := hide (fun W => chop5_any (oneY level) (oneY place) a b ⟨#[110]⟩ (by rw [oneY_size]; omega) (by rw [oneY_size]; omega) ha hb (by show 1 ≤ 1; omega) W)
  have HN := hide (show chopB (oneY level ++ oneY place ++ a ++ b ++ ⟨#[110]⟩) = nodeB level place a b from rfl)
  rw [unhide HN] at CC
  generalize nodeB level place a b = R at *
  generalize oneY level = ya at *
  generalize oneY place = yb at *
  clear HN
  go_enter Try.func47, Try.ntmps47
  go_wp2_with fail
  refine (unhide c1 w).mono ?_
  rintro e w1 ⟨rfl, hb1⟩
  go_wp2_with fail
  refine (unhide c2 w1).mono ?_
  rintro e w2 ⟨rfl, hb2⟩
  have hB2 := hb1.trans (hb2.mono hb1.size)
  go_wp2_with fail
  refine (unhide CC w2).mono ?_
  rintro e w3 ⟨rfl, hb3⟩
  have hB3 := hB2.trans (hb3.mono hB2.size)
  go_wp2
  go_ret
  exact ⟨rfl, hB3⟩
/-- What a call leaves of the older blocks: all but those in S. -/
def KpS (S : Nat → Prop) (w w' : World) : Prop := w'.os = w.os ∧ w'.tape = w.tape ∧ w'.output = w.output ∧ w.heap.size ≤ w'.heap.size ∧ ∀ k, k < w.heap.size → ¬ S k → w'.heap[k]? = w.heap[k]?
theorem KpS.refl (S : Nat → Prop) (w : World) : KpS S w w := ⟨rfl, rfl, rfl, Nat.le_refl _, fun _ _ _ => rfl⟩
theorem KpS.trans {S : Nat → Prop} {a b c : World} (h : KpS S a b) (k : KpS S b c) : KpS S a c :=
  ⟨k.1.trans h.1, k.2.1.trans h.2.1, k.2.2.1.trans h.2.2.1, Nat.le_trans h.2.2.2.1 k.2.2.2.1, fun i hi hs => (k.2.2.2.2 i (Nat.lt_of_lt_of_le hi h.2.2.2.1) hs).trans (h.2.2.2.2 i hi hs)⟩
theorem KpS.mono {S T : Nat → Prop} {a b : World} (h : KpS S a b) (hst : ∀ k, k < a.heap.size → S k → T k) : KpS T a b :=
  ⟨h.1, h.2.1, h.2.2.1, h.2.2.2.1, fun i hi hs => h.2.2.2.2 i hi fun hS => hs (hst i hi hS)⟩
theorem KpS.trans2 {S T : Nat → Prop} {a b c : World} (h : KpS S a b) (k : KpS T b c) (hst : ∀ i, i < a.heap.size → T i → S i) : KpS S a c :=
  ⟨k.1.trans h.1, k.2.1.trans h.2.1, k.2.2.1.trans h.2.2.1, Nat.le_trans h.2.2.2.1 k.2.2.2.1, fun i hi hs => (k.2.2.2.2 i (Nat.lt_of_lt_of_le hi h.2.2.2.1) fun hT => hs (hst i hi hT)).trans (h.2.2.2.2 i hi hs)⟩
theorem KpS.size {S : Nat → Prop} {a b : World} (h : KpS S a b) : a.heap.size ≤ b.heap.size := h.2.2.2.1
theorem below_kps {a b : World} (h : Below a.heap.size a b) (S : Nat → Prop) : KpS S a b := ⟨h.os, h.tape, h.output, h.size, fun k hk _ => h.block k hk⟩
theorem KpS.set {S : Nat → Prop} {a b : World} (h : KpS S a b) (g o : Nat) (u : Value) (hg : g < a.heap.size → S g) : KpS S a (b.setCell ⟨g, o, none⟩ u) :=
  ⟨h.1, h.2.1, h.2.2.1, by have := h.size; simpa using this, fun k hk hs => (RowKit.Below.heap_setCell _ _ _ _ (fun e => hs (by have e2 : k = g := e; rw [e2]; exact hg (by rw [← e2]; exact hk)))).trans (h.2.2.2.2 k hk hs)⟩
theorem KpS.below {S : Nat → Prop} {a b : World} (h : KpS S a b) (B : Nat) (hB : B ≤ a.heap.size) (hS : ∀ k, k < B → ¬ S k) : Below B a b :=
  ⟨h.1, h.2.1, h.2.2.1, h.size, fun k hk => h.2.2.2.2 k (Nat.lt_of_lt_of_le hk hB) (hS k hk)⟩
theorem CB.kps {w w' : World} {g : Nat} {T : TypeId} {cs : Array Value} {S : Nat → Prop} (h : CB w g T cs) (hb : KpS S w w') (hg : ¬ S g) : CB w' g T cs := by
  unfold CB
  rw [hb.2.2.2.2 g h.lt hg]
  exact h
theorem OwnV.kps {w w' : World} {base : Nat} {e : TypeId} {v : Value} {xs : List Value} {S : Nat → Prop} (h : OwnV w base e v xs) (hb : KpS S w w') (hB : ∀ g, v.ownBlock = some g → ¬ S g) : OwnV w' base e v xs := by
  have hlt := h.lt
  refine ⟨h.1, ?_⟩
  rcases h.2 with hn | ⟨g, cap, cur, rfl, hbg, hgg, rest⟩
  · exact .inl hn
  · refine .inr ⟨g, cap, cur, rfl, hbg, ?_, rest⟩
    rw [hb.2.2.2.2 g (hlt g rfl).2 (hB g rfl)]
    exact hgg
/-- A pointer to a node, and a node's cells. -/
def pv (g : Nat) : Value := .pointer (some ⟨g, 0, none⟩)
def nilP : Value := .pointer none
abbrev tn (s : ByteArray) (b u : Value) : Array Value := #[.string s, b, u]
def gAt (gs : List Nat) (i : Nat) : Nat := gs.getD i 0
theorem gAt_get (gs : List Nat) (i : Nat) (h : i < gs.length) : (gs.map pv)[i]? = some (pv (gAt gs i)) := by
  unfold gAt
  rw [List.getElem?_map, List.getD_eq_getElem?_getD, List.getElem?_eq_getElem h]
  rfl
theorem gAt_mem (gs : List Nat) (i : Nat) (h : i < gs.length) : gAt gs i ∈ gs := by
  unfold gAt
  rw [List.getD_eq_getElem?_getD, List.getElem?_eq_getElem h]
  exact List.getElem_mem h
theorem gAt_of_mem (gs : List Nat) (g : Nat) (h : g ∈ gs) : ∃ i, i < gs.length ∧ gAt gs i = g := by
  obtain ⟨i, hi, e⟩ := List.getElem_of_mem h
  refine ⟨i, hi, ?_⟩
  unfold gAt
  rw [List.getD_eq_getElem?_getD, List.getElem?_eq_getElem hi]
  exact e
theorem gAt_inj (gs : List Nat) (hn : gs.Nodup) (i j : Nat) (hi : i < gs.length) (hj : j < gs.length) (h : gAt gs i = gAt gs j) : i = j := by
  unfold gAt at h
  rw [List.getD_eq_getElem?_getD, List.getElem?_eq_getElem hi, List.getD_eq_getElem?_getD, List.getElem?_eq_getElem hj] at h
  exact (List.getElem_inj hn).1 h
theorem gAt_app_lt (gs : List Nat) (g i : Nat) (h : i < gs.length) : gAt (gs ++ [g]) i = gAt gs i := by
  unfold gAt
  rw [List.getD_eq_getElem?_getD, List.getElem?_append_left h, ← List.getD_eq_getElem?_getD]
theorem gAt_app_new (gs : List Nat) (g : Nat) : gAt (gs ++ [g]) gs.length = g := by
  unfold gAt
  rw [List.getD_eq_getElem?_getD, List.getElem?_append_right (Nat.le_refl _), Nat.sub_self]
  rfl
/-- The row that is filled as far as k. -/
def filG (gs : List Nat) (m : Nat) : List Value := gs.map pv ++ List.replicate (m - gs.length) nilP
theorem filG_len (gs : List Nat) (m : Nat) (h : gs.length ≤ m) : (filG gs m).length = m := by unfold filG; rw [List.length_append, List.length_map, List.length_replicate]; omega
theorem filG_set (gs : List Nat) (m k : Nat) (hk : gs.length = k) (h : k < m) (g : Nat) : (filG gs m).set k (pv g) = filG (gs ++ [g]) m := by
  subst hk
  unfold filG
  rw [List.set_append, if_neg (by rw [List.length_map]; omega), List.length_map, Nat.sub_self, List.map_append, List.length_append, List.append_assoc]
  congr 1
  obtain ⟨r, hr⟩ : ∃ r, m - gs.length = r + 1 := ⟨m - gs.length - 1, by omega⟩
  rw [hr, show m - (gs.length + [g].length) = r by show m - (gs.length + 1) = r; omega, List.replicate_succ, List.set_cons_zero]
  rfl
theorem filG_full (gs : List Nat) (m : Nat) (h : gs.length = m) : filG gs m = gs.map pv := by unfold filG; rw [h, Nat.sub_self, List.replicate_zero, List.append_nil]
theorem madeP (n : Nat) : (madeCells nilP.cells (n * 1)).toList = filG [] n := by
  unfold madeCells filG
  apply List.ext_getElem?
  intro j
  rw [Array.toList_map, Array.toList_range, List.map_nil, List.nil_append, List.getElem?_map, List.getElem?_replicate, Nat.mul_one]
  by_cases hj : j < n
  · rw [List.getElem?_range hj, if_pos (by show j < n - 0; omega)]
    show some ((#[nilP] : Array Value)[j % 1]!) = _
    rw [Nat.mod_one]; rfl
  · rw [List.getElem?_eq_none (by simp; omega), if_neg (by show ¬ j < n - 0; omega)]; rfl
theorem infoPtr : (Try.prog.info? 90).map (fun i => (i.zero, i.size, i.bytes)) = some (some (.pointer none), 1, 8) := by kernel_rfl
/-- A row of nodes with these texts, all of the call's own. -/
def Nds (w : World) (base : Nat) (v : Value) (gs : List Nat) (l : List ByteArray) : Prop :=
  OwnV w base 90 v (gs.map pv) ∧ gs.length = l.length ∧ gs.Nodup ∧ ∀ i, i < l.length → base ≤ gAt gs i ∧ ∃ b u, CB w (gAt gs i) 92 (tn (bAt l i) b u)
theorem Nds.low {w : World} {base base' : Nat} {v : Value} {gs : List Nat} {l : List ByteArray} (h : Nds w base v gs l) (hb : base' ≤ base) : Nds w base' v gs l :=
  ⟨h.1.low hb, h.2.1, h.2.2.1, fun i hi => ⟨Nat.le_trans hb (h.2.2.2 i hi).1, (h.2.2.2 i hi).2⟩⟩
theorem Nds.mem {w : World} {base : Nat} {v : Value} {gs : List Nat} {l : List ByteArray} (h : Nds w base v gs l) (g : Nat) (hg : g ∈ gs) : base ≤ g ∧ g < w.heap.size := by
  obtain ⟨i, hi, rfl⟩ := gAt_of_mem gs g hg
  obtain ⟨h1, b, u, h2⟩ := h.2.2.2 i (by rw [← h.2.1]; exact hi)
  exact ⟨h1, h2.lt⟩
theorem Nds.off {w : World} {base : Nat} {v : Value} {gs : List Nat} {l : List ByteArray} (h : Nds w base v gs l) (g : Nat) (hg : g ∈ gs) : v.ownBlock ≠ some g := by
  obtain ⟨i, hi, rfl⟩ := gAt_of_mem gs g hg
  obtain ⟨h1, b, u, h2⟩ := h.2.2.2 i (by rw [← h.2.1]; exact hi)
  exact h2.off h.1 (by decide)
end Go.Proofs.Ytjgnjjphankhnab

/- Trees by the project's own functions: two nodes joined, rows of nodes, over the loaded program. -/
namespace Go.Proofs.Ytjgnjjphankhnab
open Go.RowKit
theorem tn_up (s : ByteArray) (b u x : Value) : (tn s b u).setIfInBounds 2 x = tn s b x := by rfl
theorem tn_beside (s : ByteArray) (b u x : Value) : (tn s b u).setIfInBounds 1 x = tn s x u := by rfl
/-- What is left behind two nodes that were joined. -/
def JPost (w w' : World) (gl gr : Nat) (a b q : ByteArray) (g : Nat) : Prop :=
  w.heap.size ≤ g ∧ CB w' g 92 (tn q nilP nilP) ∧ CB w' gl 92 (tn a (pv gr) (pv g)) ∧ CB w' gr 92 (tn b (pv gl) (pv g)) ∧ KpS (fun k => k = gl ∨ k = gr) w w'
set_option maxRecDepth 20000 in
set_option maxHeartbeats 1000000 in
theorem joined_any (level place : Int) (gl gr : Nat) (a b : ByteArray) (ha : a.size ≤ 1048576) (hb : b.size ≤ 1048576) (bl ul br ur : Value) (hne : gl ≠ gr) (w : World) (hL : CB w gl 92 (tn a bl ul)) (hR : CB w gr 92 (tn b br ur)) :
    Calls Try.prog 95 #[.int .i64 level, .int .i64 place, pv gl, pv gr] w fun e w' => ∃ g, e = .returned (pv g) ∧ JPost w w' gl gr a b (nodeB level place a b) g := by
  have CN := hide (fun W => implNode_any level place a b ha hb W)
  generalize nodeB level place a b = q at *
  have hlg := hL.lt
  have hrg := hR.lt
  have c0 : w.cell? ⟨gl, 0, none⟩ = some (.string a) := hL.cell 0 rfl
  have c1 : w.cell? ⟨gr, 0, none⟩ = some (.string b) := hR.cell 0 rfl
  have KS := hide (fun (W : World) (h : Below w.heap.size w W) => (⟨(h.cell (p := ⟨gl, 0, none⟩) hlg).trans c0, (h.cell (p := ⟨gr, 0, none⟩) hrg).trans c1⟩ : W.cell? ⟨gl, 0, none⟩ = some (.string a) ∧ W.cell? ⟨gr, 0, none⟩ = some (.string b)))
  have HL := hide hL
  have HR := hide hR
  clear hL hR
  show Calls Try.prog 95 #[.int .i64 level, .int .i64 place, .pointer (some ⟨gl, 0, none⟩), .pointer (some ⟨gr, 0, none⟩)] w _
  go_enter Try.func95, Try.ntmps95
  go_wp2
  go_region_held3 (fun W => W.cell? ⟨gl, 0, none⟩ = some (.string a) ∧ W.cell? ⟨gr, 0, none⟩ = some (.string b)) (first | exact ⟨c0, c1⟩ | exact (unhide KS) _ hB1 | exact (unhide KS) _ (hB1.alloc hB1.size _) | fail) (first
    | (go_at_call 47; refine ((unhide CN) _).mono ?_; rintro e w1 ⟨rfl, hb1⟩; have hB1 : Below w.heap.size w w1 := (Below.refl _ w).drew.trans hb1)
    | fail)
  all_goals
    obtain ⟨W, hW, hC, hbW, hsW⟩ := one_cb w1 (tn q nilP nilP) 92
    have HL1 := ((unhide HL).below hB1 hlg).below hbW (Nat.lt_of_lt_of_le hlg hB1.size)
    have HR1 := ((unhide HR).below hB1 hrg).below hbW (Nat.lt_of_lt_of_le hrg hB1.size)
    have hk0 := (below_kps (hB1.trans (hbW.mono hB1.size)) (fun k => k = gl ∨ k = gr))
    have hgs : w.heap.size ≤ w1.heap.size := hB1.size
    have hW2 : w1.alloc (.cells #[.string q, .pointer none, .pointer none] 92) = W := hW
    rw [hW2]
    clear hW hW2 hb1 KS CN c0 c1 HL HR
    have hne1 : w1.heap.size ≠ gl := by omega
    have hne2 : w1.heap.size ≠ gr := by omega
    generalize w1.heap.size = g at *
    have A1 := HL1.set 2 (pv g)
    rw [tn_up] at A1
    have A2 := A1.set_other (h := gr) (k := 2) hne (pv g)
    have A3 := A2.set 1 (pv gr)
    rw [tn_beside] at A3
    have A4 := A3.set_other (h := gr) (k := 1) hne (pv gl)
    have B1 := HR1.set_other (h := gl) (k := 2) (Ne.symm hne) (pv g)
    have B2 := B1.set 2 (pv g)
    rw [tn_up] at B2
    have B3 := B2.set_other (h := gl) (k := 1) (Ne.symm hne) (pv gr)
    have B4 := B3.set 1 (pv gl)
    rw [tn_beside] at B4
    have D4 := (((hC.set_other (h := gl) (k := 2) hne1 (pv g)).set_other (h := gr) (k := 2) hne2 (pv g)).set_other (h := gl) (k := 1) hne1 (pv gr)).set_other (h := gr) (k := 1) hne2 (pv gl)
    have K4 := (((hk0.set gl 2 (pv g) (fun _ => .inl rfl)).set gr 2 (pv g) (fun _ => .inr rfl)).set gl 1 (pv gr) (fun _ => .inl rfl)).set gr 1 (pv gl) (fun _ => .inr rfl)
    have f1 : W.frozen? ⟨gl, 2, none⟩ = false := HL1.frozen 2
    have f1r : W.frozen? ⟨gr, 2, none⟩ = false := HR1.frozen 2
    have f1a : W.frozen? ⟨gl, 1, none⟩ = false := HL1.frozen 1
    have f1b : W.frozen? ⟨gr, 1, none⟩ = false := HR1.frozen 1
    have f2 := B1.frozen 2
    have f3 := A2.frozen 1
    have f4 := B3.frozen 1
    have e1 : W.cell? ⟨gl, 2, none⟩ = some ul := HL1.cell 2 rfl
    have e1r : W.cell? ⟨gr, 2, none⟩ = some ur := HR1.cell 2 rfl
    have e1a : W.cell? ⟨gl, 1, none⟩ = some bl := HL1.cell 1 rfl
    have e1b : W.cell? ⟨gr, 1, none⟩ = some br := HR1.cell 1 rfl
    have e2 := B1.cell 2 (v := ur) rfl
    have e3 := A2.cell 1 (v := bl) rfl
    have e4 := B3.cell 1 (v := br) rfl
    have JP := hide (show JPost w _ gl gr a b q g from ⟨hgs, D4, A4, B4, K4⟩)
    unfold pv at JP f2 f3 f4 e2 e3 e4
    clear D4 A4 B4 K4 A1 A2 A3 B1 B2 B3 hk0 HL1 HR1 hC
    go_wp2
    go_ret
    exact ⟨g, rfl, unhide JP⟩
end Go.Proofs.Ytjgnjjphankhnab

