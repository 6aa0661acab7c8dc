/- Merged: ChI2, ChI3, TrI1, TrI2, TrI3, TrI4, TrI5, TrI6, TrI7, SgI1, SgI2. -/
import Derived.Test.YtjgnjjphankhnacMga1
import Derived.Test.YtjgnjjphankhnacMga2
import Derived.Test.YtjgnjjphankhnacMga3
import Derived.Test.YtjgnjjphankhnacMga4
import Derived.Test.YtjgnjjphankhnacMga5
import Derived.Test.YtjgnjjphankhnacMga6
import Derived.Test.YtjgnjjphankhnacMga7
import Derived.Test.YtjgnjjphankhnacMga8
import Derived.Test.YtjgnjjphankhnacMga9
import Derived.Deep.RegionHeld3
import Derived.LaidEqlPtr
import Derived.Lib.Builder
/- Digits by the project's own functions, over the loaded program. -/
namespace Go.Proofs.Ytjgnjjphankhnac
open Go.RowKit
/-- The first k of ten numbers f 0, f 1 .., the others 0. -/
def dgS (f : Nat → Int) (k : Nat) : List Int := (List.range 10).map (fun i => if i < k then f i else 0)
theorem dgS_len (f : Nat → Int) (k : Nat) : (dgS f k).length = 10 := by unfold dgS; rw [List.length_map, List.length_range]
theorem dgS_set (f : Nat → Int) (k : Nat) (hk : k < 10) : (dgS f k).set k (f k) = dgS f (k + 1) := by
  apply List.ext_getElem?
  intro i
  unfold dgS
  rw [List.getElem?_set]
  by_cases hi : i < 10
  · by_cases e : k = i
    · subst e
      rw [if_pos rfl, if_pos (by rw [List.length_map, List.length_range]; exact hk), List.getElem?_map, List.getElem?_range hk, Option.map_some, if_pos (by omega)]
    · rw [if_neg e, List.getElem?_map, List.getElem?_map, List.getElem?_range hi, Option.map_some, Option.map_some]
      by_cases h2 : i < k
      · rw [if_pos h2, if_pos (by omega)]
      · rw [if_neg h2, if_neg (by omega)]
  · rw [if_neg (by omega), List.getElem?_map, List.getElem?_map, List.getElem?_eq_none (by rw [List.length_range]; omega)]
    rfl
theorem dgS_at (f : Nat → Int) (k i : Nat) (hi : i < 10) : (dgS f k)[i]? = some (if i < k then f i else 0) := by
  unfold dgS
  rw [List.getElem?_map, List.getElem?_range hi]
  rfl
def dgF (m : ByteArray) (i : Nat) : Int := (dgAt m i : Int)
theorem dgS_all (m : ByteArray) : dgS (dgF m) 10 = digL m := by
  apply List.ext_getElem?
  intro i
  by_cases hi : i < 10
  · rw [dgS_at _ _ _ hi, digL_at m i hi, if_pos hi]; rfl
  · rw [List.getElem?_eq_none (by rw [dgS_len]; omega), List.getElem?_eq_none (by rw [digL_len]; omega)]
/-- A block that holds these ten numbers. -/
abbrev IA (w : World) (g : Nat) (T : TypeId) (l : List Int) : Prop := CB w g T (l.map iv).toArray
theorem ia_set {w : World} {g : Nat} {T : TypeId} {l : List Int} (h : IA w g T l) (k : Nat) (z : Int) : IA (w.setCell ⟨g, k, none⟩ (.int .i64 z)) g T (l.set k z) := by
  have h1 := CB.set h k (.int .i64 z)
  have e : ((l.map iv).toArray.setIfInBounds k (.int .i64 z)) = ((l.set k z).map iv).toArray := by
    rw [List.setIfInBounds_toArray, List.map_set]; rfl
  rw [e] at h1
  exact h1
theorem ia_cell {w : World} {g : Nat} {T : TypeId} {l : List Int} (h : IA w g T l) {k : Nat} {z : Int} (hk : l[k]? = some z) : w.cell? ⟨g, k, none⟩ = some (.int .i64 z) := by
  refine CB.cell h k ?_
  simp [hk, iv]
set_option maxRecDepth 20000 in
theorem halfBytes_any (n : Nat) (hn : n < 1000) (w : World) :
    Calls Try.prog 68 #[.int .i64 (n : Int)] w fun e w' => e = .returned (.tuple #[.int .i64 ((n / 16 : Nat) : Int), .int .i64 ((n % 16 : Nat) : Int)]) ∧ w' = w := by
  obtain ⟨x1, hx1⟩ : ∃ x : Nat, x = n / 16 := ⟨_, rfl⟩
  obtain ⟨x2, hx2⟩ : ∃ x : Nat, x = n % 16 := ⟨_, rfl⟩
  rw [← hx1, ← hx2]
  have q1 : (n : Int).tdiv 16 = (x1 : Int) := by rw [Int.tdiv_eq_ediv_of_nonneg (by omega)]; omega
  have q1' : (n : Int) / 16 = (x1 : Int) := by omega
  have q2 : (n : Int).tmod 16 = (x2 : Int) := by rw [Int.tmod_eq_emod_of_nonneg (by omega)]; omega
  have q2' : (n : Int) % 16 = (x2 : Int) := by omega
  have q3 : IntKind.i64.wrap (x1 : Int) = (x1 : Int) := by rw [IntKind.wrap_i64]; omega
  have q4 : IntKind.i64.wrap (x2 : Int) = (x2 : Int) := by rw [IntKind.wrap_i64]; omega
  replace hx1 := hide hx1; replace hx2 := hide hx2
  go_enter Try.func68, Try.ntmps68
  go_wp2
  exact bodyPost_ret (results_tmp2 (by exact Try.results68) _ _ _) rfl ⟨rfl, rfl⟩
theorem len10 : Try.prog.arrayLen 73 = 10 := by kernel_rfl
theorem idx10 (g k : Nat) (h : (k : Int) < 10) (W : World) : (Instr.indexAt 73 (.pointer (some ⟨g, 0, none⟩)) (.int .i64 (k : Int))).run Try.prog W = .ok (.pointer (some ⟨g, k, none⟩)) W := by
  have hu : Try.prog.underlying 73 = some (.array (Try.prog.arrayLen 73) (Try.prog.elem 73)) := by kernel_rfl
  have he : Try.prog.elem 73 = 3 := by kernel_rfl
  have h1 : (0 : Int) ≤ (k : Int) ∧ (k : Int) < ((Try.prog.arrayLen 73 : Nat) : Int) := by rw [len10]; exact ⟨by omega, by omega⟩
  rw [run_indexAt_array (P := Try.prog) (w := W) 73 ⟨g, 0, none⟩ .i64 (k : Int) hu, if_pos h1, he]
  simp [go_sem, Addr.add]
  intro h; exact h.symm
theorem info10 (l : List Int) (hl : l.length = 10) : (Try.prog.info? 73).map (·.size) = some (l.map iv).toArray.size := by
  have e : (l.map iv).toArray.size = 10 := by simp [hl]
  have h : (Try.prog.info? 73).map (·.size) = some 10 := by kernel_rfl
  rw [h, e]
theorem zer10 (f : Nat → Int) : (#[.int .i64 0, .int .i64 0, .int .i64 0, .int .i64 0, .int .i64 0, .int .i64 0, .int .i64 0, .int .i64 0, .int .i64 0, .int .i64 0] : Array Value) = ((dgS f 0).map iv).toArray := rfl
theorem iv_one (l : List Int) : (l.map iv).toArray.all (·.oneCell') = true := by
  rw [Array.all_eq_true_iff_forall_mem]
  intro v hv
  simp only [List.mem_toArray, List.mem_map] at hv
  obtain ⟨x, _, rfl⟩ := hv
  rfl
set_option maxRecDepth 20000 in
set_option maxHeartbeats 1000000 in
theorem digitsFor_any (m : ByteArray) (hm : m.size ≤ 4000000) (w : World) :
    Calls Try.prog 58 #[.string m] w fun e w' => e = .returned (.agg ((digL m).map iv).toArray) ∧ Below w.heap.size w w' := by
  have C := hide (fun W => implChop_any m hm W)
  have hs4 := chopB_size m
  have EA := hide (dgS_all m)
  have EF := hide (show ∀ k, k < 4 → dgF m (2 * k) = ((byA (chopB m) k / 16 : Nat) : Int) ∧ dgF m (2 * k + 1) = ((byA (chopB m) k % 16 : Nat) : Int) from fun k hk => by
    unfold dgF dgAt
    rw [if_pos (by omega), if_pos (by omega), (dgN_pair (chopB m) k).1, (dgN_pair (chopB m) k).2]
    exact ⟨rfl, rfl⟩)
  have E8 := hide (show dgF m 8 = ((lfN (chopB m) 4 / 16 : Nat) : Int) from rfl)
  have E9 := hide (show dgF m 9 = ((lfN (chopB m) 4 % 16 : Nat) : Int) from rfl)
  generalize chopB m = s at *
  generalize dgF m = f at *
  have hs4' : (s.size : Int) = 4 := by omega
  obtain ⟨W, hW, hR, hD, hb, hlt⟩ := two_cb w ((dgS f 0).map iv).toArray ((dgS f 0).map iv).toArray 73 73
  rw [← zer10 f] at hW
  replace hR := hide hR
  replace hD := hide hD
  go_enter Try.func58, Try.ntmps58
  go_wp2_with fail
  refine (unhide C W).mono ?_
  rintro e w1 ⟨rfl, hb1⟩
  have hR1 := hide ((unhide hR).below hb1 (by omega))
  have hD1 := hide ((unhide hD).below hb1 (by omega))
  have hB1 := hb.trans (hb1.mono hb.size)
  have hsz1 := hb1.size
  clear hR hD hb hb1 C hW
  go_wp2
  go_loopw [5, 11] (fun ts ti wr => ∃ (k : Nat) (q : Nat), k ≤ 4 ∧ ti = .int .i64 (k : Int) ∧ ts = .int .i64 (q : Int) ∧ Hid (q = lfN s k) ∧ Hid (IA wr (w.heap.size + 1) 73 (dgS f (2 * k))) ∧ Hid (IA wr w.heap.size 73 (dgS f 0)) ∧ Below w.heap.size w wr) (fun _ ti _ => 4 - (intOf ti).toNat)
  case atStart => exact ⟨0, 0, by omega, rfl, rfl, hide rfl, hD1, hR1, hB1⟩
  case round =>
    clear hR1 hD1 hB1
    obtain ⟨k, q, hk, rfl, rfl, hq, HD, HR, hB⟩ := hrel
    have hsz := hB.size
    by_cases hlt4 : k < 4
    · have hk' : (k : Int) < 4 := by omega
      have hk0 : (0 : Int) ≤ (k : Int) := by omega
      have hks : k < s.size := by omega
      have hby := byA_at s k hks
      have hbl := byA_lt s k
      have HL := hide (show lfN s (k + 1) = lfN s k + 30 - byA s k / 16 - byA s k % 16 from rfl)
      have hql := lfN_le s k
      rw [← unhide hq] at HL hql
      have HF := unhide EF k hlt4
      obtain ⟨b, hbb⟩ : ∃ b, b = byA s k := ⟨_, rfl⟩
      rw [← hbb] at hby hbl HL HF
      have CH := hide (fun W => halfBytes_any b (by omega) W)
      obtain ⟨x1, hx1⟩ : ∃ x : Nat, x = b / 16 := ⟨_, rfl⟩
      obtain ⟨x2, hx2⟩ : ∃ x : Nat, x = b % 16 := ⟨_, rfl⟩
      rw [← hx1, ← hx2] at HL HF CH
      have q5 : IntKind.i64.wrap (b : Int) = (b : Int) := by rw [IntKind.wrap_i64]; omega
      obtain ⟨i1, hi1⟩ : ∃ i : Nat, i = 2 * k := ⟨_, rfl⟩
      obtain ⟨i2, hi2⟩ : ∃ i : Nat, i = 2 * k + 1 := ⟨_, rfl⟩
      have q9 : IntKind.i64.wrap (2 * (k : Int)) = (i1 : Int) := by rw [IntKind.wrap_i64]; omega
      have q9' : IntKind.i64.wrap ((i1 : Int) + 1) = (i2 : Int) := by rw [IntKind.wrap_i64]; omega
      have I1 := idx10 (w.heap.size + 1) i1 (by omega)
      have I2 := idx10 (w.heap.size + 1) i2 (by omega)
      obtain ⟨y1, hy1⟩ : ∃ y : Nat, y + x1 = 15 := ⟨15 - x1, by omega⟩
      obtain ⟨y2, hy2⟩ : ∃ y : Nat, y = y1 + 15 := ⟨_, rfl⟩
      obtain ⟨y3, hy3⟩ : ∃ y : Nat, y + x2 = y2 := ⟨y2 - x2, by omega⟩
      obtain ⟨y4, hy4⟩ : ∃ y : Nat, y = q + y3 := ⟨_, rfl⟩
      have q6 : IntKind.i64.wrap (15 - (x1 : Int)) = (y1 : Int) := by rw [IntKind.wrap_i64]; omega
      have q7 : IntKind.i64.wrap ((y1 : Int) + 15) = (y2 : Int) := by rw [IntKind.wrap_i64]; omega
      have q8 : IntKind.i64.wrap ((y2 : Int) - (x2 : Int)) = (y3 : Int) := by rw [IntKind.wrap_i64]; omega
      have q10 : IntKind.i64.wrap ((q : Int) + (y3 : Int)) = (y4 : Int) := by rw [IntKind.wrap_i64]; omega
      have HQ := hide (show y4 = lfN s (k + 1) by have := unhide HL; omega)
      have hix : ∀ h : k < s.size, (s[k]'h).toNat = b := fun h => hby
      have HD' := unhide HD
      have g1 := ia_cell HD' (dgS_at f (2 * k) i1 (by omega))
      have f1 := HD'.frozen i1
      have D1 := ia_set HD' i1 (x1 : Int)
      rw [show (dgS f (2 * k)).set i1 (x1 : Int) = dgS f (2 * k + 1) by rw [hi1, ← HF.1]; exact dgS_set f (2 * k) (by omega)] at D1
      have g2 := ia_cell D1 (dgS_at f (2 * k + 1) i2 (by omega))
      have f2 := D1.frozen i2
      have D2 := ia_set D1 i2 (x2 : Int)
      rw [show (dgS f (2 * k + 1)).set i2 (x2 : Int) = dgS f (2 * (k + 1)) by rw [hi2, ← HF.2]; exact dgS_set f (2 * k + 1) (by omega)] at D2
      replace D2 := hide D2
      have HR2 := hide (((unhide HR).set_other (h := w.heap.size + 1) (k := i1) (by omega) (.int .i64 (x1 : Int))).set_other (h := w.heap.size + 1) (k := i2) (by omega) (.int .i64 (x2 : Int)))
      have hB2 := hide ((hB.setCell (p := ⟨w.heap.size + 1, i1, none⟩) (Nat.le_succ _) (.int .i64 (x1 : Int))).setCell (p := ⟨w.heap.size + 1, i2, none⟩) (Nat.le_succ _) (.int .i64 (x2 : Int)))
      replace hbb := hide hbb; replace hx1 := hide hx1; replace hx2 := hide hx2; replace hy1 := hide hy1; replace hy2 := hide hy2; replace hy3 := hide hy3; replace hy4 := hide hy4; replace HF := hide HF; replace hby := hide hby; replace hi1 := hide hi1; replace hi2 := hide hi2
      clear HL hql HD HD' HR hB D1 EA E8 E9 EF
      go_wp2_with (go_at_call 68; refine (unhide CH _).mono ?_; rintro e wz ⟨rfl, hwz⟩; subst hwz)
      exact ⟨⟨k + 1, y4, by omega, by go_num, by first | rfl | trivial, HQ, D2, HR2, unhide hB2⟩, by simp [intOf]; omega⟩
    · have hk' : ¬ (k : Int) < 4 := by omega
      obtain rfl : k = 4 := by omega
      have hql := lfN_le s 4
      rw [← unhide hq] at hql E8 E9
      have CH := hide (fun W => halfBytes_any q (by omega) W)
      obtain ⟨x1, hx1⟩ : ∃ x : Nat, x = q / 16 := ⟨_, rfl⟩
      obtain ⟨x2, hx2⟩ : ∃ x : Nat, x = q % 16 := ⟨_, rfl⟩
      rw [← hx1] at E8 CH
      rw [← hx2] at E9 CH
      have I1 := idx10 (w.heap.size + 1) 8 (by omega)
      have I2 := idx10 (w.heap.size + 1) 9 (by omega)
      have HD' := unhide HD
      have g1 := ia_cell HD' (dgS_at f (2 * 4) 8 (by omega))
      have f1 := HD'.frozen 8
      have D1 := ia_set HD' 8 (x1 : Int)
      rw [show (dgS f (2 * 4)).set 8 (x1 : Int) = dgS f 9 by rw [← unhide E8]; exact dgS_set f 8 (by omega)] at D1
      have g2 := ia_cell D1 (dgS_at f 9 9 (by omega))
      have f2 := D1.frozen 9
      have D2 := ia_set D1 9 (x2 : Int)
      rw [show (dgS f 9).set 9 (x2 : Int) = digL m by rw [← unhide EA, ← unhide E9]; exact dgS_set f 9 (by omega)] at D2
      replace D2 := hide D2
      have HR2 := hide (((unhide HR).set_other (h := w.heap.size + 1) (k := 8) (by omega) (.int .i64 (x1 : Int))).set_other (h := w.heap.size + 1) (k := 9) (by omega) (.int .i64 (x2 : Int)))
      have hB2 := hide ((hB.setCell (p := ⟨w.heap.size + 1, 8, none⟩) (Nat.le_succ _) (.int .i64 (x1 : Int))).setCell (p := ⟨w.heap.size + 1, 9, none⟩) (Nat.le_succ _) (.int .i64 (x2 : Int)))
      have hi := hide (info10 (digL m) (digL_len m))
      have hi0 := hide (info10 (dgS f 0) (dgS_len f 0))
      have hl10 := digL_len m
      replace hx1 := hide hx1; replace hx2 := hide hx2
      clear hql HD HD' HR hB D1 EA E8 E9 EF
      go_wp2_with (first
        | (go_at_call 68; refine (unhide CH _).mono ?_; rintro e wz ⟨rfl, hwz⟩; subst hwz)
        | (refine wpList_load_row rfl 73 _ rfl (w.heap.size + 1) rfl 73 _ (0, 0) _ (unhide D2) Try.underlying73 rfl (unhide hi) ?_)
        | (refine wpList_store_row rfl 73 _ _ rfl w.heap.size _ rfl rfl 73 _ (unhide HR2) (unhide hi) (by simp [dgS_len, hl10]) (iv_one _) ?_))
      have HR3 := setRow_heap _ w.heap.size _ ((digL m).map iv).toArray 73 (0, 0) (unhide HR2)
      have hB3 := Go.below_setRow (unhide hB2) (Nat.le_refl _) ((digL m).map iv).toArray
      exact bodyPost_ret (results_cell_row (by exact Try.results58) _ _ _ _ _ (0, 0) _ rfl HR3 Try.underlying73 rfl (unhide hi)) rfl ⟨rfl, hB3⟩
end Go.Proofs.Ytjgnjjphankhnac

/- Keys for once by the project's own functions: parts of chains, keys, signatures, what is found, over the loaded program. -/
namespace Go.Proofs.Ytjgnjjphankhnac
open Go.RowKit
def dgL (dg : Nat → Nat) : List Int := (List.range 10).map (fun i => (dg i : Int))
theorem dgL_len (dg : Nat → Nat) : (dgL dg).length = 10 := by unfold dgL; rw [List.length_map, List.length_range]
theorem dgL_at (dg : Nat → Nat) (i : Nat) (hi : i < 10) : (dgL dg)[i]? = some (dg i : Int) := by
  unfold dgL
  rw [List.getElem?_map, List.getElem?_range hi]
  rfl
theorem dgL_digL (m : ByteArray) : dgL (dgAt m) = digL m := by
  rw [← dgS_all]
  unfold dgL dgS dgF
  apply List.map_congr_left
  intro i hi
  rw [if_pos (List.mem_range.1 hi)]
theorem dgL_zero : (#[.int .i64 0, .int .i64 0, .int .i64 0, .int .i64 0, .int .i64 0, .int .i64 0, .int .i64 0, .int .i64 0, .int .i64 0, .int .i64 0] : Array Value) = ((dgL (fun _ => 0)).map iv).toArray := rfl
theorem ownV_of_full14 {w : World} {base g n : Nat} {e : TypeId} {xs : List Value} (hb : base ≤ g) (hm : n ≤ maxLen) (hl : xs.length = n) (h : w.heap[g]? = some (.cells xs.toArray e (0, 0))) : OwnV w base e (.slice (some ⟨g, 0, none⟩) n n) xs := by
  refine ⟨by rw [Nat.mul_one], .inr ⟨g, n, xs.toArray, by rw [hl], hb, h, by omega, hm, by simp [hl], ?_⟩⟩
  simp
theorem steps_le (n : Nat) (h : n ≤ 15) : stepsN (n : Int) = n := by unfold stepsN; rw [if_pos (by omega)]; omega
set_option maxRecDepth 20000 in
set_option maxHeartbeats 1000000 in
theorem left_any (dg : Nat → Nat) (hdg : ∀ i, dg i ≤ 15) (k : Nat) (hk : k < 10) (w : World) :
    Calls Try.prog 59 #[.agg ((dgL dg).map iv).toArray, .int .i64 (k : Int)] w fun e w' => e = .returned (.tuple #[.int .i64 (dg k : Int), .int .i64 ((15 - dg k : Nat) : Int)]) ∧ Below w.heap.size w w' := by
  obtain ⟨W, hW, hC, hb, hlt⟩ := one_cb w ((dgL dg).map iv).toArray 73
  have hd := hdg k
  have c0 : W.cell? ⟨w.heap.size, k, none⟩ = some (.int .i64 (dg k : Int)) := ia_cell hC (dgL_at dg k hk)
  have I1 := idx10 w.heap.size k (by omega)
  obtain ⟨s, hs⟩ : ∃ s : Nat, s = 15 - dg k := ⟨_, rfl⟩
  rw [← hs]
  have q1 : IntKind.i64.wrap (15 - (dg k : Int)) = (s : Int) := by rw [IntKind.wrap_i64]; omega
  replace hs := hide hs
  generalize dg k = d at *
  replace hC := hide hC
  clear hdg
  go_enter Try.func59, Try.ntmps59
  go_wp2
  go_quiet (fail)
  go_wp2
  exact bodyPost_ret (results_tmp2 (by exact Try.results59) _ _ _) rfl ⟨rfl, bDN hb _⟩
set_option maxRecDepth 20000 in
set_option maxHeartbeats 1000000 in
theorem ends_left (dg : Nat → Nat) (hdg : ∀ i, dg i ≤ 15) (l : List ByteArray) (leaf : Int) (v : Value) (w : World) (hr : RdV w v (l.map sv)) (h10 : l.length = 10) (hl : ∀ x ∈ l, x.size ≤ 1048576) :
    Calls Try.prog 66 #[v, .int .i64 leaf, .func (Fn.func 59) #[.agg ((dgL dg).map iv).toArray] #[]] w fun e w' => (∃ a c, e = .returned (.slice a 10 c) ∧ OwnV w' w.heap.size 9 (.slice a 10 c) (((List.range 10).map (fun i => chnB (bAt l i) leaf (i : Int) (dg i : Int) (15 - dg i))).map sv)) ∧ Below w.heap.size w w' := by
  obtain ⟨i0, hi, hz0, hz1, hz2⟩ := info_parts infoTxt
  obtain ⟨a, c, rfl, hc⟩ := hr.open
  rw [List.length_map, h10]
  clear hr
  have CP := hide (fun (k : Nat) (hk : k < 10) W => left_any dg hdg k hk W)
  have CH := hide (show ∀ (k : Nat), k < 10 → ∀ W, Calls Try.prog 75 #[.string (bAt l k), .int .i64 leaf, .int .i64 (k : Int), .int .i64 (dg k : Int), .int .i64 ((15 - dg k : Nat) : Int)] W fun e w' => e = .returned (.string (chnB (bAt l k) leaf (k : Int) (dg k : Int) (15 - dg k))) ∧ Below W.heap.size W w' from fun k hk W => by
    have h := implChain_any (bAt l k) leaf (k : Int) (dg k : Int) ((15 - dg k : Nat) : Int) (bAt_size l k _ (by omega) hl) W
    rw [steps_le _ (by have := hdg k; omega)] at h
    exact h)
  obtain ⟨F, hF⟩ : ∃ F : Nat → ByteArray, F = fun i => chnB (bAt l i) leaf (i : Int) (dg i : Int) (15 - dg i) := ⟨_, rfl⟩
  have CH2 := hide (show ∀ (k : Nat), k < 10 → ∀ W, Calls Try.prog 75 #[.string (bAt l k), .int .i64 leaf, .int .i64 (k : Int), .int .i64 (dg k : Int), .int .i64 ((15 - dg k : Nat) : Int)] W fun e w' => e = .returned (.string (F k)) ∧ Below W.heap.size W w' from fun k hk W => by rw [hF]; exact unhide CH k hk W)
  rw [← hF]
  obtain ⟨L, hL⟩ : ∃ L : List Value, L = ((List.range 10).map F).map sv := ⟨_, rfl⟩
  have hLl := hide (show L.length = 10 by rw [hL, List.length_map, List.length_map, List.length_range])
  have hLk := hide (show ∀ k, k < 10 → L[k]? = some (.string (F k)) from fun k hk => by rw [hL, List.getElem?_map, List.getElem?_map, List.getElem?_range hk]; rfl)
  rw [← hL]
  replace hF := hide hF
  replace hL := hide hL
  replace h10 := hide h10
  generalize ((dgL dg).map iv).toArray = A at *
  clear CH hl hdg
  go_enter Try.func66, Try.ntmps66
  go_wp2_with (at_make; refine wpList_make_full _ rfl _ _ 22 rfl w.heap.size 9 i0 (.string ⟨#[]⟩) 1 Try.underlying22 hi hz0 hz1 _ _ _ _ 10 rfl rfl rfl rfl (by rw [hz2]; omega) (by unfold maxLen; omega) (Nat.le_refl _) ?_; intro w1 hown1 hgrow1)
  have hr0 : OwnV w1 w.heap.size 9 (.slice (some ⟨w.heap.size, 0, none⟩) 10 10) (L.take 0 ++ List.replicate (10 - 0) (.string ⟨#[]⟩)) := by
    rw [madeT] at hown1
    unfold OwnV
    simpa using hown1
  have hb0 : Below w.heap.size w w1 := (Below.refl w.heap.size w).grown hgrow1 (Nat.le_refl _) (fun k hk => by cases hk)
  clear hown1 hgrow1
  go_loopw [15] (fun ti wr => ∃ k : Nat, k ≤ 10 ∧ ti = .int .i64 k ∧ Hid (OwnV wr w.heap.size 9 (.slice (some ⟨w.heap.size, 0, none⟩) 10 10) (L.take k ++ List.replicate (10 - k) (.string ⟨#[]⟩))) ∧ Below w.heap.size w wr ∧ w.heap.size < wr.heap.size) (fun ti _ => 10 - (intOf ti).toNat)
  case atStart => exact ⟨0, Nat.zero_le _, rfl, hide hr0, hb0, (hr0.lt _ rfl).2⟩
  case round =>
    obtain ⟨k, hk, rfl, HO, hb, hszz⟩ := hrel
    clear hr0 hb0
    by_cases hlt : k < 10
    · have hk' : (k : Int) < 10 := by omega
      have hk0 : (0 : Int) ≤ (k : Int) := by omega
      obtain ⟨g, o, rfl, hg, d1⟩ := hc k _ (bAt_get l k (by rw [unhide h10]; exact hlt))
      have d2 := (hb.cell (p := ⟨g, o + k, none⟩) hg).trans d1
      have c1 := hide (unhide CP k hlt)
      have c2 := hide (unhide CH2 k hlt)
      have HF := hide (fillV (z := .string ⟨#[]⟩) (unhide hLk k hlt) (unhide hLl))
      generalize bAt l k = x at *
      generalize F k = y at *
      generalize dg k = dd at *
      clear hc d1 CP CH2
      go_wp2_with (go_at_call 59; refine (unhide c1 _).mono ?_; rintro e w2 ⟨rfl, hb2⟩; have hB2 := hb.trans (hb2.mono hb.size); have HO2 := hide ((unhide HO).below hb2); have hs2 := Nat.lt_of_lt_of_le hszz hb2.size)
      go_wp2_with (go_at_call 75; refine (unhide c2 _).mono ?_; rintro e w3 ⟨rfl, hb3⟩; have hB3 := hB2.trans (hb3.mono hB2.size); have HO3 := (unhide HO2).below hb3; have hs3 := Nat.lt_of_lt_of_le hs2 hb3.size; obtain ⟨u, hu⟩ : ∃ u, (L.take k ++ List.replicate (10 - k) (.string ⟨#[]⟩))[k]? = some u := ⟨_, List.getElem?_eq_getElem (by have := HO3.len; omega)⟩; have cu := HO3.cell hu; have cz := HO3.frozen k; have ho2 := HO3.set k (.string y); rw [unhide HF] at ho2; replace ho2 := hide ho2; replace HO3 := hide HO3; clear hu)
      go_roundw
      case rel => exact ⟨k + 1, by omega, by go_num, ho2, hB3.setCell (p := ⟨w.heap.size, k, none⟩) (Nat.le_refl _) _, by simpa using hs3⟩
      case measure => simp [intOf]; omega
    · have hk' : ¬ (k : Int) < 10 := by omega
      obtain rfl : k = 10 := by omega
      have e2 : L.take 10 ++ List.replicate (10 - 10) (.string ⟨#[]⟩) = L := by
        rw [Nat.sub_self, List.take_of_length_le (by rw [unhide hLl]; exact Nat.le_refl _)]
        simp
      rw [e2] at HO
      clear hc
      go_wp2
      go_ret
      exact ⟨⟨_, _, rfl, unhide HO⟩, hb⟩
theorem catC_flat (F : Nat → ByteArray) (k : Nat) : (catC F k).data.toList = (((List.range k).map F).map (·.data.toList)).flatten := by
  induction k with
  | zero => rfl
  | succ k ih =>
    show (catC F k ++ F k).data.toList = _
    rw [ByteArray.data_append, Array.toList_append, ih, List.range_succ, List.map_append, List.map_append, List.flatten_append]
    simp
set_option maxRecDepth 20000 in
set_option maxHeartbeats 1000000 in
theorem chopEnds_left (dg : Nat → Nat) (hdg : ∀ i, dg i ≤ 15) (l : List ByteArray) (leaf : Int) (v : Value) (w : World) (hr : RdV w v (l.map sv)) (hl : sumS l ≤ 1048576) :
    Calls Try.prog 57 #[v, .int .i64 leaf, .func (Fn.func 59) #[.agg ((dgL dg).map iv).toArray] #[]] w fun e w' => e = .returned (.string (if l.length = 10 then chopB (catC (fun i => chnB (bAt l i) leaf (i : Int) (dg i : Int) (15 - dg i)) 10) else ⟨#[]⟩)) ∧ Below w.heap.size w w' := by
  by_cases h10 : l.length = 10
  · rw [if_pos h10]
    have CE := hide (ends_left dg hdg l leaf v w hr h10 (sumS_le l _ hl))
    obtain ⟨F, hF⟩ : ∃ F : Nat → ByteArray, F = fun i => chnB (bAt l i) leaf (i : Int) (dg i : Int) (15 - dg i) := ⟨_, rfl⟩
    have hz : (catC F 10).size ≤ 4000000 := by
      have h := catC_sum l F (fun i => by rw [hF]; exact chn_le _ _ _ _ _) 10 (by omega)
      rw [show l.take 10 = l from List.take_of_length_le (by omega)] at h
      omega
    rw [← hF] at CE ⊢
    have hfl := hide (catC_flat F 10)
    obtain ⟨T, hT⟩ : ∃ T, T = catC F 10 := ⟨_, rfl⟩
    rw [← hT] at hz hfl ⊢
    obtain ⟨xs, hxs⟩ : ∃ xs, xs = (List.range 10).map F := ⟨_, rfl⟩
    rw [← hxs] at CE hfl
    have hxl : xs.length = 10 := by rw [hxs, List.length_map, List.length_range]
    obtain ⟨a, c, rfl⟩ := hr.shape
    rw [List.length_map, h10] at CE ⊢
    generalize ((dgL dg).map iv).toArray = A at *
    obtain ⟨R, hR⟩ : ∃ R, R = chopB T := ⟨_, rfl⟩
    rw [← hR]
    replace hF := hide hF; replace hT := hide hT; replace hxs := hide hxs; replace h10 := hide h10
    clear hr
    go_enter Try.func57, Try.ntmps57
    go_wp2_with fail
    refine (unhide CE).mono ?_
    rintro e w1 ⟨⟨a1, c1, rfl, ho⟩, hb1⟩
    obtain ⟨g, rfl, _, hg⟩ := ho.some_at (by simp)
    have hcap : 10 ≤ c1 := by
      rcases ho.2 with ⟨h1, _⟩ | ⟨g', cap, cur, h1, _, _, h4, _⟩
      · cases h1
      · rw [List.length_map, hxl] at h1 h4
        injection h1 with _ _ h5
        omega
    have C2 := hide (chopParts_any g 0 c1 10 xs hxl T (unhide hfl) hz w1 (fun j x hx => by rw [Nat.zero_add]; exact ho.cell (by rw [List.getElem?_map, hx]; rfl)) hg hcap (by omega))
    rw [← hR] at C2
    replace hR := hide hR; replace ho := hide ho
    go_wp2_with fail
    refine (unhide C2).mono ?_
    rintro e w2 ⟨rfl, hb2⟩
    have hB := hb1.trans (hb2.mono hb1.size)
    clear hb1 hb2 C2 CE
    go_wp2
    go_ret
    exact ⟨rfl, hB⟩
  · rw [if_neg h10]
    obtain ⟨a, c, rfl⟩ := hr.shape
    rw [List.length_map]
    have h10' : ¬ (l.length : Int) = 10 := by omega
    generalize ((dgL dg).map iv).toArray = A at *
    clear hr
    go_enter Try.func57, Try.ntmps57
    go_wp2
    go_ret
    exact ⟨rfl, Below.refl _ _⟩
set_option maxRecDepth 20000 in
set_option maxHeartbeats 1000000 in
theorem implOnceFound_any (l : List ByteArray) (leaf : Int) (m : ByteArray) (v : Value) (w : World) (hr : RdV w v (l.map sv)) (hl : sumS l ≤ 1048576) (hm : m.size ≤ 4000000) :
    Calls Try.prog 39 #[v, .int .i64 leaf, .string m] w fun e w' => e = .returned (.string (onceF l leaf m)) ∧ Below w.heap.size w w' := by
  have CD := hide (digitsFor_any m hm w)
  have C := hide (fun W (h : Below w.heap.size w W) => chopEnds_left (dgAt m) (dgAt_le m) l leaf v W (hr.below h) hl)
  rw [← dgL_digL] at CD
  have E : onceF l leaf m = (if l.length = 10 then chopB (catC (fun i => chnB (bAt l i) leaf (i : Int) (dgAt m i : Int) (15 - dgAt m i)) 10) else ⟨#[]⟩) := rfl
  rw [E]
  generalize (if l.length = 10 then chopB (catC (fun i => chnB (bAt l i) leaf (i : Int) (dgAt m i : Int) (15 - dgAt m i)) 10) else ⟨#[]⟩) = R at *
  obtain ⟨a, c, rfl⟩ := hr.shape
  rw [List.length_map] at C ⊢
  generalize ((dgL (dgAt m)).map iv).toArray = A at *
  clear hr
  go_enter Try.func39, Try.ntmps39
  go_wp2_with fail
  refine (unhide CD).mono ?_
  rintro e w1 ⟨rfl, hb1⟩
  go_wp2_with fail
  refine (unhide C w1 hb1).mono ?_
  rintro e w2 ⟨rfl, hb2⟩
  have hB := hb1.trans (hb2.mono hb1.size)
  clear hb1 hb2 C CD
  go_wp2
  go_ret
  exact ⟨rfl, hB⟩
end Go.Proofs.Ytjgnjjphankhnac

/- Trees by the project's own functions: nodes that know who stands beside and above, over the loaded program. -/
namespace Go.Proofs.Ytjgnjjphankhnac
open Go.RowKit
theorem chop5_any (a b c d f : ByteArray) (ha : a.size ≤ 1) (hb : b.size ≤ 1) (hc : c.size ≤ 1048576) (hd : d.size ≤ 1048576) (hf : f.size ≤ 1) (w : World) :
    Calls Try.prog 65 #[.slice (some ⟨w.heap.size, 0, none⟩) 5 5] (w.alloc (.cells #[.string a, .string b, .string c, .string d, .string f] 9)) fun e w' => e = .returned (.string (chopB (a ++ b ++ c ++ d ++ f))) ∧ Below w.heap.size w w' := by
  have h := chopParts_any w.heap.size 0 5 5 [a, b, c, d, f] rfl (a ++ b ++ c ++ d ++ f) (by simp [ByteArray.data_append, Array.toList_append]) (by rw [ByteArray.size_append, ByteArray.size_append, ByteArray.size_append, ByteArray.size_append]; omega) (w.alloc (.cells #[.string a, .string b, .string c, .string d, .string f] 9)) (row_texts w [a, b, c, d, f] 9) (by simp) (Nat.le_refl _) (by omega)
  refine h.mono ?_
  rintro e w1 ⟨rfl, hb1⟩
  exact ⟨rfl, ((Below.refl w.heap.size w).alloc (Nat.le_refl _) _).trans (hb1.mono (by simp))⟩
set_option maxRecDepth 20000 in
set_option maxHeartbeats 800000 in
theorem implNode_any (level place : Int) (a b : ByteArray) (ha : a.size ≤ 1048576) (hb : b.size ≤ 1048576) (w : World) :
    Calls Try.prog 56 #[.int .i64 level, .int .i64 place, .string a, .string b] w fun e w' => e = .returned (.string (nodeB level place a b)) ∧ Below w.heap.size w w' := by
  have c1 := hide (fun W => implByteY_any level W)
  have c2 := hide (fun W => implByteY_any place W)
  have CC := hide (fun W => chop5_any (oneY level) (oneY place) a b ⟨#[110]⟩ (by rw [oneY_size]; omega) (by rw [oneY_size]; omega) ha hb (by show 1 ≤ 1; omega) W)
  have HN := hide (show chopB (oneY level ++ oneY place ++ a ++ b ++ ⟨#[110]⟩) = nodeB level place a b from rfl)
  rw [unhide HN] at CC
  generalize nodeB level place a b = R at *
  generalize oneY level = ya at *
  generalize oneY place = yb at *
  clear HN
  go_enter Try.func56, Try.ntmps56
  go_wp2_with fail
  refine (unhide c1 w).mono ?_
  rintro e w1 ⟨rfl, hb1⟩
  go_wp2_with fail
  refine (unhide c2 w1).mono ?_
  rintro e w2 ⟨rfl, hb2⟩
  have hB2 := hb1.trans (hb2.mono hb1.size)
  go_wp2_with fail
  refine (unhide CC w2).mono ?_
  rintro e w3 ⟨rfl, hb3⟩
  have hB3 := hB2.trans (hb3.mono hB2.size)
  go_wp2
  go_ret
  exact ⟨rfl, hB3⟩
/-- What a call leaves of the older blocks: all but those in S. -/
def KpS (S : Nat → Prop) (w w' : World) : Prop := w'.os = w.os ∧ w'.tape = w.tape ∧ w'.output = w.output ∧ w.heap.size ≤ w'.heap.size ∧ ∀ k, k < w.heap.size → ¬ S k → w'.heap[k]? = w.heap[k]?
theorem KpS.refl (S : Nat → Prop) (w : World) : KpS S w w := ⟨rfl, rfl, rfl, Nat.le_refl _, fun _ _ _ => rfl⟩
theorem KpS.trans {S : Nat → Prop} {a b c : World} (h : KpS S a b) (k : KpS S b c) : KpS S a c :=
  ⟨k.1.trans h.1, k.2.1.trans h.2.1, k.2.2.1.trans h.2.2.1, Nat.le_trans h.2.2.2.1 k.2.2.2.1, fun i hi hs => (k.2.2.2.2 i (Nat.lt_of_lt_of_le hi h.2.2.2.1) hs).trans (h.2.2.2.2 i hi hs)⟩
theorem KpS.mono {S T : Nat → Prop} {a b : World} (h : KpS S a b) (hst : ∀ k, k < a.heap.size → S k → T k) : KpS T a b :=
  ⟨h.1, h.2.1, h.2.2.1, h.2.2.2.1, fun i hi hs => h.2.2.2.2 i hi fun hS => hs (hst i hi hS)⟩
theorem KpS.trans2 {S T : Nat → Prop} {a b c : World} (h : KpS S a b) (k : KpS T b c) (hst : ∀ i, i < a.heap.size → T i → S i) : KpS S a c :=
  ⟨k.1.trans h.1, k.2.1.trans h.2.1, k.2.2.1.trans h.2.2.1, Nat.le_trans h.2.2.2.1 k.2.2.2.1, fun i hi hs => (k.2.2.2.2 i (Nat.lt_of_lt_of_le hi h.2.2.2.1) fun hT => hs (hst i hi hT)).trans (h.2.2.2.2 i hi hs)⟩
theorem KpS.size {S : Nat → Prop} {a b : World} (h : KpS S a b) : a.heap.size ≤ b.heap.size := h.2.2.2.1
theorem below_kps {a b : World} (h : Below a.heap.size a b) (S : Nat → Prop) : KpS S a b := ⟨h.os, h.tape, h.output, h.size, fun k hk _ => h.block k hk⟩
theorem KpS.set {S : Nat → Prop} {a b : World} (h : KpS S a b) (g o : Nat) (u : Value) (hg : g < a.heap.size → S g) : KpS S a (b.setCell ⟨g, o, none⟩ u) :=
  ⟨h.1, h.2.1, h.2.2.1, by have := h.size; simpa using this, fun k hk hs => (RowKit.Below.heap_setCell _ _ _ _ (fun e => hs (by have e2 : k = g := e; rw [e2]; exact hg (by rw [← e2]; exact hk)))).trans (h.2.2.2.2 k hk hs)⟩
theorem KpS.below {S : Nat → Prop} {a b : World} (h : KpS S a b) (B : Nat) (hB : B ≤ a.heap.size) (hS : ∀ k, k < B → ¬ S k) : Below B a b :=
  ⟨h.1, h.2.1, h.2.2.1, h.size, fun k hk => h.2.2.2.2 k (Nat.lt_of_lt_of_le hk hB) (hS k hk)⟩
theorem CB.kps {w w' : World} {g : Nat} {T : TypeId} {cs : Array Value} {S : Nat → Prop} (h : CB w g T cs) (hb : KpS S w w') (hg : ¬ S g) : CB w' g T cs := by
  unfold CB
  rw [hb.2.2.2.2 g h.lt hg]
  exact h
theorem OwnV.kps {w w' : World} {base : Nat} {e : TypeId} {v : Value} {xs : List Value} {S : Nat → Prop} (h : OwnV w base e v xs) (hb : KpS S w w') (hB : ∀ g, v.ownBlock = some g → ¬ S g) : OwnV w' base e v xs := by
  have hlt := h.lt
  refine ⟨h.1, ?_⟩
  rcases h.2 with hn | ⟨g, cap, cur, rfl, hbg, hgg, rest⟩
  · exact .inl hn
  · refine .inr ⟨g, cap, cur, rfl, hbg, ?_, rest⟩
    rw [hb.2.2.2.2 g (hlt g rfl).2 (hB g rfl)]
    exact hgg
/-- A pointer to a node, and a node's cells. -/
def pv (g : Nat) : Value := .pointer (some ⟨g, 0, none⟩)
def nilP : Value := .pointer none
abbrev tn (s : ByteArray) (b u : Value) : Array Value := #[.string s, b, u]
def gAt (gs : List Nat) (i : Nat) : Nat := gs.getD i 0
theorem gAt_get (gs : List Nat) (i : Nat) (h : i < gs.length) : (gs.map pv)[i]? = some (pv (gAt gs i)) := by
  unfold gAt
  rw [List.getElem?_map, List.getD_eq_getElem?_getD, List.getElem?_eq_getElem h]
  rfl
theorem gAt_mem (gs : List Nat) (i : Nat) (h : i < gs.length) : gAt gs i ∈ gs := by
  unfold gAt
  rw [List.getD_eq_getElem?_getD, List.getElem?_eq_getElem h]
  exact List.getElem_mem h
theorem gAt_of_mem (gs : List Nat) (g : Nat) (h : g ∈ gs) : ∃ i, i < gs.length ∧ gAt gs i = g := by
  obtain ⟨i, hi, e⟩ := List.getElem_of_mem h
  refine ⟨i, hi, ?_⟩
  unfold gAt
  rw [List.getD_eq_getElem?_getD, List.getElem?_eq_getElem hi]
  exact e
theorem gAt_inj (gs : List Nat) (hn : gs.Nodup) (i j : Nat) (hi : i < gs.length) (hj : j < gs.length) (h : gAt gs i = gAt gs j) : i = j := by
  unfold gAt at h
  rw [List.getD_eq_getElem?_getD, List.getElem?_eq_getElem hi, List.getD_eq_getElem?_getD, List.getElem?_eq_getElem hj] at h
  exact (List.getElem_inj hn).1 h
theorem gAt_app_lt (gs : List Nat) (g i : Nat) (h : i < gs.length) : gAt (gs ++ [g]) i = gAt gs i := by
  unfold gAt
  rw [List.getD_eq_getElem?_getD, List.getElem?_append_left h, ← List.getD_eq_getElem?_getD]
theorem gAt_app_new (gs : List Nat) (g : Nat) : gAt (gs ++ [g]) gs.length = g := by
  unfold gAt
  rw [List.getD_eq_getElem?_getD, List.getElem?_append_right (Nat.le_refl _), Nat.sub_self]
  rfl
/-- The row that is filled as far as k. -/
def filG (gs : List Nat) (m : Nat) : List Value := gs.map pv ++ List.replicate (m - gs.length) nilP
theorem filG_len (gs : List Nat) (m : Nat) (h : gs.length ≤ m) : (filG gs m).length = m := by unfold filG; rw [List.length_append, List.length_map, List.length_replicate]; omega
theorem filG_set (gs : List Nat) (m k : Nat) (hk : gs.length = k) (h : k < m) (g : Nat) : (filG gs m).set k (pv g) = filG (gs ++ [g]) m := by
  subst hk
  unfold filG
  rw [List.set_append, if_neg (by rw [List.length_map]; omega), List.length_map, Nat.sub_self, List.map_append, List.length_append, List.append_assoc]
  congr 1
  obtain ⟨r, hr⟩ : ∃ r, m - gs.length = r + 1 := ⟨m - gs.length - 1, by omega⟩
  rw [hr, show m - (gs.length + [g].length) = r by show m - (gs.length + 1) = r; omega, List.replicate_succ, List.set_cons_zero]
  rfl
theorem filG_full (gs : List Nat) (m : Nat) (h : gs.length = m) : filG gs m = gs.map pv := by unfold filG; rw [h, Nat.sub_self, List.replicate_zero, List.append_nil]
theorem madeP (n : Nat) : (madeCells nilP.cells (n * 1)).toList = filG [] n := by
  unfold madeCells filG
  apply List.ext_getElem?
  intro j
  rw [Array.toList_map, Array.toList_range, List.map_nil, List.nil_append, List.getElem?_map, List.getElem?_replicate, Nat.mul_one]
  by_cases hj : j < n
  · rw [List.getElem?_range hj, if_pos (by show j < n - 0; omega)]
    show some ((#[nilP] : Array Value)[j % 1]!) = _
    rw [Nat.mod_one]; rfl
  · rw [List.getElem?_eq_none (by simp; omega), if_neg (by show ¬ j < n - 0; omega)]; rfl
end Go.Proofs.Ytjgnjjphankhnac

/- Trees by the project's own functions: two nodes joined, rows of nodes, over the loaded program. -/
namespace Go.Proofs.Ytjgnjjphankhnac
open Go.RowKit
end Go.Proofs.Ytjgnjjphankhnac

/- Trees by the project's own functions: a row of nodes out of texts, over the loaded program. -/
namespace Go.Proofs.Ytjgnjjphankhnac
open Go.RowKit
end Go.Proofs.Ytjgnjjphankhnac

/- Trees by the project's own functions: the nodes above a row of nodes, over the loaded program. -/
namespace Go.Proofs.Ytjgnjjphankhnac
open Go.RowKit
end Go.Proofs.Ytjgnjjphankhnac

/- Trees by the project's own functions: levels, roots and paths, over the loaded program. -/
namespace Go.Proofs.Ytjgnjjphankhnac
open Go.RowKit
end Go.Proofs.Ytjgnjjphankhnac

/- Trees by the project's own functions: roots and paths, over the loaded program. -/
namespace Go.Proofs.Ytjgnjjphankhnac
open Go.RowKit
theorem sums_le (l : List ByteArray) (h : l.length + sumS l ≤ 1048576) : ∀ x ∈ l, x.size ≤ 1048576 := by
  intro x hx
  obtain ⟨i, hi, rfl⟩ := List.getElem_of_mem hx
  have := sumS_at l i hi
  omega
theorem cell_lt15 {w : World} {g o : Nat} {v : Value} (h : w.cell? ⟨g, o, none⟩ = some v) : g < w.heap.size := by
  unfold World.cell? at h
  by_cases hg : g < w.heap.size
  · exact hg
  · rw [Array.getElem?_eq_none (show w.heap.size ≤ g by omega)] at h
    cases h
def lenOf15 : Value → Nat
  | .slice _ n _ => n
  | _ => 0
set_option maxRecDepth 20000 in
theorem isLeaf_any (z : Int) (w : World) : Calls Try.prog 42 #[.int .i64 z] w fun e w' => e = .returned (.bool (decide (0 ≤ z ∧ z ≤ 3))) ∧ w' = w := by
  by_cases h : 0 ≤ z
  · by_cases h3 : z < 4
    · have e : decide (0 ≤ z ∧ z ≤ 3) = true := decide_eq_true (by omega)
      rw [e]
      go_enter Try.func42, Try.ntmps42
      go_wp2
      go_ret
      exact ⟨rfl, rfl⟩
    · have e : decide (0 ≤ z ∧ z ≤ 3) = false := decide_eq_false (by omega)
      rw [e]
      go_enter Try.func42, Try.ntmps42
      go_wp2
      go_ret
      exact ⟨rfl, rfl⟩
  · have e : decide (0 ≤ z ∧ z ≤ 3) = false := decide_eq_false (by omega)
    rw [e]
    go_enter Try.func42, Try.ntmps42
    go_wp2
    go_ret
    exact ⟨rfl, rfl⟩
end Go.Proofs.Ytjgnjjphankhnac

/- Trees by the project's own functions: the root by a path, over the loaded program. -/
namespace Go.Proofs.Ytjgnjjphankhnac
open Go.RowKit
set_option maxRecDepth 20000 in
theorem leftRight_even (x p : ByteArray) (y : Nat) (hy : y < 4) (he : ¬ y % 2 = 1) (w : World) : Calls Try.prog 55 #[.string x, .int .i64 (y : Int), .string p] w fun e w' => e = .returned (.tuple #[.string x, .string p]) ∧ w' = w := by
  have h1 : (y : Int).tmod 2 = 0 := by rw [Int.tmod_eq_emod_of_nonneg (by omega)]; omega
  have h2 : (y : Int) % 2 = 0 := by omega
  go_enter Try.func55, Try.ntmps55
  go_wp2
  go_ret2
  exact ⟨rfl, rfl⟩
set_option maxRecDepth 20000 in
theorem leftRight_odd (x p : ByteArray) (y : Nat) (hy : y < 4) (he : y % 2 = 1) (w : World) : Calls Try.prog 55 #[.string x, .int .i64 (y : Int), .string p] w fun e w' => e = .returned (.tuple #[.string p, .string x]) ∧ w' = w := by
  have h1 : (y : Int).tmod 2 = 1 := by rw [Int.tmod_eq_emod_of_nonneg (by omega)]; omega
  have h2 : (y : Int) % 2 = 1 := by omega
  go_enter Try.func55, Try.ntmps55
  go_wp2
  go_ret2
  exact ⟨rfl, rfl⟩
/-- One step up, whoever stands left. -/
theorem stp_lr (level : Int) (x p : ByteArray) (y : Nat) (hy : y < 4) (hx : x.size ≤ 1048576) (hp : p.size ≤ 1048576) : ∃ a b : ByteArray,
    (∀ w, Calls Try.prog 55 #[.string x, .int .i64 (y : Int), .string p] w fun e w' => e = .returned (.tuple #[.string a, .string b]) ∧ w' = w) ∧
    (∀ w, Calls Try.prog 56 #[.int .i64 level, .int .i64 ((y / 2 : Nat) : Int), .string a, .string b] w fun e w' => e = .returned (.string (stpB level y x p)) ∧ Below w.heap.size w w') := by
  by_cases ho : y % 2 = 1
  · refine ⟨p, x, fun w => leftRight_odd x p y hy ho w, fun w => ?_⟩
    unfold stpB
    rw [if_pos ho]
    exact implNode_any level _ p x hp hx w
  · refine ⟨x, p, fun w => leftRight_even x p y hy ho w, fun w => ?_⟩
    unfold stpB
    rw [if_neg ho]
    exact implNode_any level _ x p hx hp w
set_option maxRecDepth 20000 in
set_option maxHeartbeats 1000000 in
theorem implRootBy_any (x : ByteArray) (leaf : Int) (path : List ByteArray) (v : Value) (w : World) (hx : x.size ≤ 1048576) (hr : RdV w v (path.map sv)) (hs : ∀ x ∈ path, x.size ≤ 1048576) :
    Calls Try.prog 38 #[.string x, .int .i64 leaf, v] w fun e w' => e = .returned (.string (rootBy x leaf path)) ∧ Below w.heap.size w w' := by
  have C1 := hide (fun W => isLeaf_any leaf W)
  obtain ⟨a, c, rfl, hc⟩ := hr.open
  rw [List.length_map]
  clear hr
  by_cases h2 : path.length = 2
  · by_cases hlf : 0 ≤ leaf ∧ leaf ≤ 3
    · rw [decide_eq_true hlf] at C1
      obtain ⟨m, rfl⟩ : ∃ m : Nat, leaf = (m : Int) := ⟨leaf.toNat, by omega⟩
      have hm : m < 4 := by omega
      have ER := hide (show rootBy x (m : Int) path = rbB x m path 2 by unfold rootBy; rw [if_pos ⟨h2, hlf⟩, Int.toNat_natCast])
      rw [unhide ER]
      have HN := hide (show ∀ k, rbB x m path (k + 1) = stpB ((k + 1 : Nat) : Int) (m / 2 ^ k) (rbB x m path k) (bAt path k) from fun k => rfl)
      have HC := hide (fun k (hk : k < 2) => hc k _ (bAt_getT path k (by omega)))
      have HZ := hide (fun k => rbB_size x m path k _ (show 4 ≤ 1048576 by omega) hx)
      have HP := hide (fun k => bAt_sizeT path k _ hs)
      rw [h2]
      clear hc
      replace h2 := hide h2
      go_enter Try.func38, Try.ntmps38
      go_wp2_with fail
      refine (unhide C1 _).mono ?_
      rintro e w1 ⟨rfl, hw1⟩
      have hw1' := hw1.symm
      subst hw1'
      clear hw1
      go_wp2
      go_loopw [0, 7, 23] (fun tx tf ti wr => ∃ k y : Nat, k ≤ 2 ∧ ti = .int .i64 (k : Int) ∧ tf = .int .i64 (y : Int) ∧ Hid (y = m / 2 ^ k) ∧ tx = .string (rbB x m path k) ∧ Below w.heap.size w wr) (fun _ _ ti _ => 5 - (intOf ti).toNat)
      case atStart => exact ⟨0, m, by omega, rfl, rfl, hide (by rw [Nat.pow_zero, Nat.div_one]), rfl, Below.refl _ _⟩
      case round =>
        obtain ⟨k, y, hk, rfl, rfl, hy, rfl, hB⟩ := hrel
        by_cases hlt : k < 2
        · have hk2 : (k : Int) < 2 := by omega
          have hk0 : (0 : Int) ≤ (k : Int) := by omega
          have hy4 : y < 4 := by rw [unhide hy]; exact Nat.lt_of_le_of_lt (Nat.div_le_self _ _) hm
          obtain ⟨g, o, rfl, hg, d1⟩ := unhide HC k hlt
          have d2 := (hB.cell (p := ⟨g, o + k, none⟩) hg).trans d1
          obtain ⟨y2, hy2⟩ : ∃ y2, y2 = y / 2 := ⟨_, rfl⟩
          have HY := hide (show y2 = m / 2 ^ (k + 1) by rw [hy2, unhide hy, Nat.div_div_eq_div_mul, Nat.pow_succ])
          have v1' : (y : Int) / 2 = (y2 : Int) := by omega
          have v1 : (y : Int).tdiv 2 = (y2 : Int) := by rw [Int.tdiv_eq_ediv_of_nonneg (by omega)]; omega
          obtain ⟨lv, hlv⟩ : ∃ lv : Nat, lv = k + 1 := ⟨_, rfl⟩
          have q1 : (k : Int) + 1 = (lv : Int) := by omega
          obtain ⟨la, lb, cA, cB⟩ := stp_lr ((k + 1 : Nat) : Int) (rbB x m path k) (bAt path k) y hy4 (unhide HZ k) (unhide HP k)
          have HX := unhide HN k
          rw [← unhide hy] at HX
          obtain ⟨R0, hR⟩ : ∃ R0, R0 = rbB x m path (k + 1) := ⟨_, rfl⟩
          rw [← HX, ← hR, ← hy2, ← hlv] at cB
          replace hR := hide hR
          generalize rbB x m path k = xk at *
          generalize bAt path k = pk at *
          replace cA := hide cA; replace cB := hide cB
          have hlvb : lv ≤ 3 := by omega
          replace hlv := hide hlv; replace hy2 := hide hy2
          clear HC HN HZ HP d1 HX
          go_wp2_with fail
          refine (unhide cA _).mono ?_
          rintro e w2 ⟨rfl, hw2⟩
          have hw2' := hw2.symm
          subst hw2'
          clear hw2
          go_wp2_with fail
          refine (unhide cB _).mono ?_
          rintro e w3 ⟨rfl, hb3⟩
          have hB3 := hB.trans (hb3.mono hB.size)
          clear hb3 hB cA cB
          go_wp2
          exact ⟨⟨k + 1, y2, by omega, by rw [← q1]; rfl, rfl, HY, by rw [unhide hR], hB3⟩, by simp [intOf]; omega⟩
        · obtain rfl : k = 2 := by omega
          clear HC HN HZ HP
          go_wp2
          go_ret
          exact ⟨rfl, hB⟩
    · have hdf : decide (0 ≤ leaf ∧ leaf ≤ 3) = false := decide_eq_false hlf
      rw [hdf] at C1
      have ER := hide (show rootBy x leaf path = ⟨#[]⟩ by unfold rootBy; rw [if_neg (fun h => hlf h.2)])
      rw [unhide ER, h2]
      clear hc
      replace hlf := hide hlf
      go_enter Try.func38, Try.ntmps38
      go_wp2_with fail
      refine (unhide C1 _).mono ?_
      rintro e w1 ⟨rfl, hw1⟩
      have hw1' := hw1.symm
      subst hw1'
      clear hw1
      go_wp2
      go_ret
      exact ⟨rfl, Below.refl _ _⟩
  · have ER := hide (show rootBy x leaf path = ⟨#[]⟩ by unfold rootBy; rw [if_neg (fun h => h2 h.1)])
    rw [unhide ER]
    have h2' : ¬ (path.length : Int) = 2 := by omega
    have h2b : decide ((path.length : Int) = 2) = false := decide_eq_false h2'
    clear hc
    go_enter Try.func38, Try.ntmps38
    go_wp2
    go_ret
    exact ⟨rfl, Below.refl _ _⟩
end Go.Proofs.Ytjgnjjphankhnac

/- Keys of a tree by the project's own functions: the keys of a seed, public texts, signatures, over the loaded program. -/
namespace Go.Proofs.Ytjgnjjphankhnac
open Go.RowKit
theorem sum_four16 (l : List ByteArray) (h : ∀ x ∈ l, x.size = 4) : sumS l = 4 * l.length := by
  induction l with
  | nil => rfl
  | cons x xs ih =>
    show x.size + sumS xs = 4 * (xs.length + 1)
    rw [h x (by simp), ih fun y hy => h y (by simp [hy])]
    omega
theorem keysO_sum (s : ByteArray) (leaf : Int) : sumS (keysO s leaf) ≤ 1048576 := by
  rw [sum_four16 _ (keysO_size s leaf), keysO_len]; omega
end Go.Proofs.Ytjgnjjphankhnac

/- Keys of a tree by the project's own functions: whether a signature is right, and its text, over the loaded program. -/
namespace Go.Proofs.Ytjgnjjphankhnac
open Go.RowKit
theorem sgOk_parts (lf : Int) (l1 l2 : List ByteArray) : sgOk ⟨lf, l1, l2⟩ = (decide (0 ≤ lf ∧ lf ≤ 3) && (decide (l1.length = 10) && four l1) && (decide (l2.length = 2) && four l2)) := by
  unfold sgOk sgSh
  by_cases h1 : 0 ≤ lf ∧ lf ≤ 3 <;> by_cases h2 : l1.length = 10 <;> by_cases h3 : l2.length = 2 <;> simp [h1, h2, h3]
theorem same_txt16 (a b : ByteArray) : (a.toList == b.toList) = decide (a = b) := by
  have e : ∀ x : ByteArray, x.toList = x.data.toList := fun x => ByteArray.toList_eq x
  by_cases h : a = b
  · subst h
    rw [decide_eq_true rfl]
    exact beq_self_eq_true _
  · rw [decide_eq_false h]
    apply beq_false_of_ne
    rw [e, e]
    exact fun h2 => h (ByteArray.ext (Array.toList_inj.1 h2))
set_option maxRecDepth 20000 in
set_option maxHeartbeats 800000 in
theorem areShorts_any (l : List ByteArray) (n : Nat) (hn : n ≤ 1000) (v : Value) (w : World) (hr : RdV w v (l.map sv)) :
    Calls Try.prog 43 #[v, .int .i64 (n : Int)] w fun e w' => e = .returned (.bool (decide (l.length = n) && four l)) ∧ w' = w := by
  obtain ⟨a, c, rfl, hc⟩ := hr.open
  clear hr
  replace hc : ∀ k, k < l.length → ∃ g o, a = some ⟨g, o, none⟩ ∧ g < w.heap.size ∧ w.cell? ⟨g, o + k, none⟩ = some (.string (bAt l k)) := fun k hk => hc k _ (bAt_get l k hk)
  rw [List.length_map]
  by_cases hl : l.length = n
  · have E1 := hide (fun (h3 : ∀ k, k < n → (bAt l k).size = 4) => show four l = true from four_bAt (l := l) fun k hk => h3 k (by omega))
    have E2 := hide (fun k (hk : k < n) (hx : ¬ (bAt l k).size = 4) => show four l = false from four_no (l := l) k (by omega) hx)
    rw [decide_eq_true hl, Bool.true_and, hl]
    rw [hl] at hc
    generalize four l = R at *
    generalize bAt l = F at *
    replace hc := hide hc
    clear hl
    go_enter Try.func43, Try.ntmps43
    go_wp2
    go_loopw [13] (fun ti wr => ∃ k : Nat, k ≤ n ∧ ti = .int .i64 (k : Int) ∧ Hid (∀ j, j < k → (F j).size = 4) ∧ wr = w) (fun ti _ => n - (intOf ti).toNat)
    case atStart => exact ⟨0, by omega, rfl, hide (fun j hj => by omega), rfl⟩
    case round =>
      obtain ⟨k, hk, rfl, HJ, rfl⟩ := hrel
      by_cases hlt : k < n
      · have hk' : (k : Int) < (n : Int) := by omega
        have hk0 : (0 : Int) ≤ (k : Int) := by omega
        obtain ⟨g, o, rfl, hg, d1⟩ := unhide hc k hlt
        have HX := hide (unhide E2 k hlt)
        have HN := hide (fun (h : (F k).size = 4) j (hj : j < k + 1) => show (F j).size = 4 from by
          by_cases e : j = k
          · subst e; exact h
          · exact unhide HJ j (by omega))
        generalize F k = x at *
        clear hc E1 E2
        by_cases h4 : x.size = 4
        · have h4' : (x.size : Int) = 4 := by omega
          go_wp2
          exact ⟨⟨k + 1, by omega, by go_num, hide (unhide HN h4), by first | rfl | trivial⟩, by simp [intOf]; omega⟩
        · have h4' : ¬ (x.size : Int) = 4 := by omega
          go_wp2
          go_ret
          exact ⟨by rw [unhide HX h4]; rfl, rfl⟩
      · have hk' : ¬ (k : Int) < (n : Int) := by omega
        obtain rfl : k = n := by omega
        have e1 := unhide E1 (unhide HJ)
        subst e1
        clear hc E1 E2 HJ
        go_wp2
        go_ret
        exact ⟨rfl, rfl⟩
  · have hl' : ¬ (l.length : Int) = (n : Int) := by omega
    rw [decide_eq_false hl, Bool.false_and]
    clear hc
    go_enter Try.func43, Try.ntmps43
    go_wp2
    go_ret
    exact ⟨rfl, rfl⟩
set_option maxRecDepth 20000 in
set_option maxHeartbeats 800000 in
theorem implSigOk_any (s : Sg) (v : Value) (w : World) (hr : RdSg w v s) :
    Calls Try.prog 26 #[v] w fun e w' => e = .returned (.bool (sgOk s)) ∧ Below w.heap.size w w' := by
  obtain ⟨lf, l1, l2⟩ := s
  obtain ⟨v1, v2, rfl, r1, r2, q1, q2⟩ := hr
  have C0 := hide (fun W => isLeaf_any lf W)
  have C1 := hide (fun (W : World) (h : Below w.heap.size w W) => areShorts_any l1 10 (by omega) v1 W (r1.below h))
  have C2 := hide (fun (W : World) (h : Below w.heap.size w W) => areShorts_any l2 2 (by omega) v2 W (r2.below h))
  have E := sgOk_parts lf l1 l2
  rw [E]
  obtain ⟨a1, c1, rfl⟩ := r1.shape
  obtain ⟨a2, c2, rfl⟩ := r2.shape
  unfold sgv
  show Calls _ _ #[.agg #[.int .i64 lf, .slice a1 (l1.map sv).length c1, .slice a2 (l2.map sv).length c2]] _ _
  generalize ((Sg.mk lf l1 l2).once.map sv).length = k1 at *
  generalize ((Sg.mk lf l1 l2).path.map sv).length = k2 at *
  generalize (decide (l1.length = 10) && four l1) = b1 at *
  generalize (decide (l2.length = 2) && four l2) = b2 at *
  generalize decide (0 ≤ lf ∧ lf ≤ 3) = b0 at *
  clear r1 r2 q1 q2 E
  go_enter Try.func26, Try.ntmps26
  go_wp2_with fail
  obtain ⟨W, hW, hP, hB, hs1⟩ := one_cb w #[.int .i64 lf, .slice a1 k1 c1, .slice a2 k2 c2] 29
  rw [hW]
  clear hW
  have p0 := hP.cell 0 (v := .int .i64 lf) rfl
  have p1 := hP.cell 1 (v := .slice a1 k1 c1) rfl
  have p2 := hP.cell 2 (v := .slice a2 k2 c2) rfl
  replace C1 := hide (unhide C1 W hB)
  replace C2 := hide (unhide C2 W hB)
  go_wp2_with fail
  refine (unhide C0 W).mono ?_
  rintro e w1 ⟨rfl, hw1⟩
  have hw2 := hw1.symm
  subst hw2
  clear hw1 C0
  cases b0 with
  | false =>
    go_wp2
    go_ret
    exact ⟨rfl, hB⟩
  | true =>
    go_wp2_with fail
    refine (unhide C1).mono ?_
    rintro e w1 ⟨rfl, hw1⟩
    have hw2 := hw1.symm
    subst hw2
    clear hw1
    cases b1 with
    | false =>
      go_wp2
      go_ret
      exact ⟨rfl, hB⟩
    | true =>
      go_wp2_with fail
      refine (unhide C2).mono ?_
      rintro e w1 ⟨rfl, hw1⟩
      have hw2 := hw1.symm
      subst hw2
      clear hw1
      go_wp2
      go_ret
      exact ⟨by cases b2 <;> rfl, hB⟩
set_option maxRecDepth 20000 in
set_option maxHeartbeats 800000 in
theorem implCheckSig_any (p m : ByteArray) (s : Sg) (v : Value) (w : World) (hr : RdSg w v s) (hm : m.size ≤ 1048576) :
    Calls Try.prog 23 #[.string p, .string m, v] w fun e w' => e = .returned (.bool (chkB p m s)) ∧ Below w.heap.size w w' := by
  have C0 := hide (fun (W : World) (h : Below w.heap.size w W) => implSigOk_any s v W (hr.below h))
  obtain ⟨lf, l1, l2⟩ := s
  obtain ⟨v1, v2, rfl, r1, r2, q1, q2⟩ := hr
  cases ho : sgOk ⟨lf, l1, l2⟩ with
  | true =>
    rw [ho] at C0
    have f1 := sgOk_once ho
    have f2 := sgOk_path ho
    obtain ⟨_, k1, k2⟩ := sgOk_shape ho
    have hF : (onceF l1 lf m).size ≤ 4 := by
      unfold onceF
      rw [if_pos (show l1.length = 10 from k1), chopB_size]
      exact Nat.le_refl _
    have C1 := hide (fun (W : World) (h : Below w.heap.size w W) => implOnceFound_any l1 lf m v1 W (r1.below h) (by rw [sum_four16 l1 (four_yes f1)]; have : l1.length = 10 := k1; omega) (by omega))
    have C2 := hide (fun (W : World) (h : Below w.heap.size w W) => implRootBy_any (onceF l1 lf m) lf l2 v2 W (by omega) (r2.below h) (fun x hx => by rw [four_yes f2 x hx]; omega))
    have EC := hide (show chkB p m ⟨lf, l1, l2⟩ = decide (rootBy (onceF l1 lf m) lf l2 = p) by unfold chkB fndB; rw [ho]; rfl)
    rw [unhide EC]
    obtain ⟨a1, c1, rfl⟩ := r1.shape
    obtain ⟨a2, c2, rfl⟩ := r2.shape
    unfold sgv at C0 ⊢
    clear hF
    generalize onceF l1 lf m = fo at *
    generalize rootBy fo lf l2 = ro at *
    clear r1 r2 q1 q2 k1 k2 f1 f2 ho EC
    show Calls _ _ #[_, _, .agg #[.int .i64 lf, .slice a1 (l1.map sv).length c1, .slice a2 (l2.map sv).length c2]] _ _
    generalize ((Sg.mk lf l1 l2).once.map sv).length = k1 at *
    generalize ((Sg.mk lf l1 l2).path.map sv).length = k2 at *
    go_enter Try.func23, Try.ntmps23
    go_wp2_with fail
    obtain ⟨W, hW, hP, hB, hs1⟩ := one_cb w #[.int .i64 lf, .slice a1 k1 c1, .slice a2 k2 c2] 29
    rw [hW]
    clear hW
    have p0 := hP.cell 0 (v := .int .i64 lf) rfl
    have p1 := hP.cell 1 (v := .slice a1 k1 c1) rfl
    have p2 := hP.cell 2 (v := .slice a2 k2 c2) rfl
    go_wp2_with fail
    refine (unhide C0 W hB).mono ?_
    rintro e w1 ⟨rfl, hb1⟩
    have hB1 := hB.trans (hb1.mono hB.size)
    have hP1 := hP.step hb1
    clear p0 p1 p2 hb1 hP hs1 C0 hB
    go_wp2_with fail
    have KS := hide (fun (W' : World) (h : Below w1.heap.size w1 W') => (show W'.cell? ⟨w.heap.size, 0, none⟩ = some (.int .i64 lf) ∧ W'.cell? ⟨w.heap.size, 1, none⟩ = some (.slice a1 k1 c1) ∧ W'.cell? ⟨w.heap.size, 2, none⟩ = some (.slice a2 k2 c2) from ⟨(hP1.step h).cell 0 rfl, (hP1.step h).cell 1 rfl, (hP1.step h).cell 2 rfl⟩))
    have C1' := hide (fun (W' : World) (h : Below w1.heap.size w1 W') => unhide C1 W' (hB1.trans (h.mono hB1.size)))
    have C2' := hide (fun (W' : World) (h : Below w1.heap.size w1 W') => unhide C2 W' (hB1.trans (h.mono hB1.size)))
    have HT0 := (Below.refl w1.heap.size w1).drew
    clear C1 C2 hP1
    go_region_held3 (fun W => W.cell? ⟨w.heap.size, 0, none⟩ = some (.int .i64 lf) ∧ W.cell? ⟨w.heap.size, 1, none⟩ = some (.slice a1 k1 c1) ∧ W.cell? ⟨w.heap.size, 2, none⟩ = some (.slice a2 k2 c2)) (first | exact unhide KS _ HT0 | exact unhide KS _ hT2 | exact unhide KS _ hT3 | fail) (first
      | (go_at_call 39; refine (unhide C1' _ HT0).mono ?_; rintro e w2 ⟨rfl, hb2⟩; have hT2 := HT0.trans (hb2.mono HT0.size); clear hb2)
      | (go_at_call 38; refine (unhide C2' _ hT2).mono ?_; rintro e w3 ⟨rfl, hb3⟩; have hT3 := hT2.trans (hb3.mono hT2.size); clear hb3))
    all_goals
      have hF := hB1.trans (hT3.mono hB1.size)
      clear C1' C2' KS hT2 HT0
      go_wp2
      go_ret
      exact ⟨by show Ending.returned (.bool (ro.toList == p.toList)) = _; rw [same_txt16], hF⟩
  | false =>
    rw [ho] at C0
    have EC := hide (show chkB p m ⟨lf, l1, l2⟩ = false by unfold chkB; rw [ho]; rfl)
    rw [unhide EC]
    obtain ⟨a1, c1, rfl⟩ := r1.shape
    obtain ⟨a2, c2, rfl⟩ := r2.shape
    unfold sgv at C0 ⊢
    clear r1 r2 q1 q2 ho EC
    show Calls _ _ #[_, _, .agg #[.int .i64 lf, .slice a1 (l1.map sv).length c1, .slice a2 (l2.map sv).length c2]] _ _
    generalize ((Sg.mk lf l1 l2).once.map sv).length = k1 at *
    generalize ((Sg.mk lf l1 l2).path.map sv).length = k2 at *
    go_enter Try.func23, Try.ntmps23
    go_wp2_with fail
    obtain ⟨W, hW, hP, hB, hs1⟩ := one_cb w #[.int .i64 lf, .slice a1 k1 c1, .slice a2 k2 c2] 29
    rw [hW]
    clear hW
    have p0 := hP.cell 0 (v := .int .i64 lf) rfl
    have p1 := hP.cell 1 (v := .slice a1 k1 c1) rfl
    have p2 := hP.cell 2 (v := .slice a2 k2 c2) rfl
    go_wp2_with fail
    refine (unhide C0 W hB).mono ?_
    rintro e w1 ⟨rfl, hb1⟩
    have hB1 := hB.trans (hb1.mono hB.size)
    clear p0 p1 p2 hb1 hP hs1 C0 hB
    go_wp2
    go_ret
    exact ⟨rfl, hB1⟩
theorem cat_data (t : ByteArray) (f : Nat → ByteArray) (k : Nat) : (catT t f k).data.toList = t.data.toList ++ ((List.range k).map fun i => (f i).data.toList).flatten := by
  induction k with
  | zero => simp [catT]
  | succ k ih =>
    show (catT t f k ++ f k).data.toList = _
    rw [ByteArray.data_append, Array.toList_append, ih, List.range_succ, List.map_append, List.flatten_append, List.append_assoc]
    simp
theorem map_bAt {α : Type} (l : List ByteArray) (g : ByteArray → α) : l.map g = (List.range l.length).map fun i => g (bAt l i) := by
  apply List.ext_getElem
  · simp
  · intro i h1 h2
    rw [List.getElem_map, List.getElem_map, List.getElem_range]
    unfold bAt
    rw [List.getD_eq_getElem?_getD, List.getElem?_eq_getElem (by simpa using h1)]
    rfl
theorem cat_two (t : ByteArray) (f : Nat → ByteArray) (k : Nat) : catT t f k = t ++ catT ⟨#[]⟩ f k := by
  apply barr_eq
  rw [cat_data, ByteArray.data_append, Array.toList_append, cat_data]
  rfl
theorem joinS_any (l : List ByteArray) (n : Nat) (hl : l.length = n) (h0 : 0 < n) (hn : n ≤ 100) (v : Value) (w : World) (hr : RdV w v (l.map sv)) (hq : CapV v) (h4 : ∀ x ∈ l, x.size = 4) :
    Calls Try.prog 46 #[v, .string ⟨#[]⟩] w fun e w' => e = .returned (.string (catT ⟨#[]⟩ (bAt l) n)) ∧ Below w.heap.size w w' := by
  obtain ⟨a, c, rfl, hc⟩ := hr.open
  have hcap : (l.map sv).length ≤ c := hq _ _ _ rfl
  obtain ⟨g, o, rfl, hg, -⟩ := hc 0 _ (bAt_get l 0 (by omega))
  have hcells : ∀ (j : Nat) x, l[j]? = some x → w.cell? ⟨g, o + j, none⟩ = some (.string x) := by
    intro j x hj
    obtain ⟨g', o', e, _, h⟩ := hc j (.string x) (by rw [List.getElem?_map, hj]; rfl)
    cases e
    exact h
  have hT : (catT ⟨#[]⟩ (bAt l) n).data.toList = (l.map (·.data.toList)).flatten := by
    rw [cat_data, map_bAt l (·.data.toList), hl]
    rfl
  have hj : (⟨(Lib.join (l.map (·.data.toList)) (⟨#[]⟩ : ByteArray).data.toList).toArray⟩ : ByteArray) = catT ⟨#[]⟩ (bAt l) n := by
    apply barr_eq
    rw [hT]
    exact join_flat _
  have hz : (Lib.join (l.map (·.data.toList)) (⟨#[]⟩ : ByteArray).data.toList).length ≤ 140737488355328 := by
    have e : (Lib.join (l.map (·.data.toList)) (⟨#[]⟩ : ByteArray).data.toList) = (catT ⟨#[]⟩ (bAt l) n).data.toList := by rw [← hj]
    rw [e]
    show (catT ⟨#[]⟩ (bAt l) n).size ≤ _
    rw [catT_size ⟨#[]⟩ (bAt l) n (fun i hi => bAt_four (four_of h4) i (by omega)) n (Nat.le_refl _)]
    show 0 + 4 * n ≤ _
    omega
  have CJ := Try.strings_Join g o c l ⟨#[]⟩ w hcells hg (by omega) (by rw [List.length_map] at hcap; exact hcap) hz
  rw [hj] at CJ
  rw [List.length_map]
  exact CJ
set_option maxRecDepth 20000 in
set_option maxHeartbeats 800000 in
theorem implSigText_any (s : Sg) (v : Value) (w : World) (hr : RdSg w v s) :
    Calls Try.prog 28 #[v] w fun e w' => e = .returned (.tuple #[.string (sgT s), .bool (sgOk s)]) ∧ Below w.heap.size w w' := by
  have C0 := hide (fun (W : World) (h : Below w.heap.size w W) => implSigOk_any s v W (hr.below h))
  obtain ⟨lf, l1, l2⟩ := s
  obtain ⟨v1, v2, rfl, r1, r2, q1, q2⟩ := hr
  cases ho : sgOk ⟨lf, l1, l2⟩ with
  | true =>
    rw [ho] at C0
    have f1 := sgOk_once ho
    have f2 := sgOk_path ho
    obtain ⟨_, k1, k2⟩ := sgOk_shape ho
    have CY := hide (fun (W : World) => implByteY_any lf W)
    have C1 := hide (fun (W : World) (h : Below w.heap.size w W) => joinS_any l1 10 k1 (by omega) (by omega) v1 W (r1.below h) q1 (four_yes f1))
    have C2 := hide (fun (W : World) (h : Below w.heap.size w W) => joinS_any l2 2 k2 (by omega) (by omega) v2 W (r2.below h) q2 (four_yes f2))
    have EC := hide (show sgT ⟨lf, l1, l2⟩ = oneY lf ++ catT ⟨#[]⟩ (bAt l1) 10 ++ catT ⟨#[]⟩ (bAt l2) 2 by rw [sgT_is ho, cat_two _ (bAt l2) 2, cat_two _ (bAt l1) 10])
    rw [unhide EC]
    obtain ⟨a1, c1, rfl⟩ := r1.shape
    obtain ⟨a2, c2, rfl⟩ := r2.shape
    unfold sgv at C0 ⊢
    have hz1 := catT_size ⟨#[]⟩ (bAt l1) 10 (fun i hi => bAt_four f1 i (by have : l1.length = 10 := k1; omega)) 10 (Nat.le_refl _)
    have hz2 := catT_size ⟨#[]⟩ (bAt l2) 2 (fun i hi => bAt_four f2 i (by have : l2.length = 2 := k2; omega)) 2 (Nat.le_refl _)
    have hzy := oneY_size lf
    rw [show (⟨#[]⟩ : ByteArray).size = 0 from rfl] at hz1 hz2
    generalize catT ⟨#[]⟩ (bAt l1) 10 = J1 at *
    generalize catT ⟨#[]⟩ (bAt l2) 2 = J2 at *
    generalize oneY lf = y at *
    clear r1 r2 q1 q2 k1 k2 f1 f2 ho EC
    show Calls _ _ #[.agg #[.int .i64 lf, .slice a1 (l1.map sv).length c1, .slice a2 (l2.map sv).length c2]] _ _
    generalize ((Sg.mk lf l1 l2).once.map sv).length = k1 at *
    generalize ((Sg.mk lf l1 l2).path.map sv).length = k2 at *
    have hz3 : (y ++ J1).size = 41 := by rw [ByteArray.size_append]; omega
    go_enter Try.func28, Try.ntmps28
    go_wp2_with fail
    obtain ⟨W, hW, hP, hB, hs1⟩ := one_cb w #[.int .i64 lf, .slice a1 k1 c1, .slice a2 k2 c2] 29
    rw [hW]
    clear hW
    have p0 := hP.cell 0 (v := .int .i64 lf) rfl
    have p1 := hP.cell 1 (v := .slice a1 k1 c1) rfl
    have p2 := hP.cell 2 (v := .slice a2 k2 c2) rfl
    go_wp2_with fail
    refine (unhide C0 W hB).mono ?_
    rintro e w1 ⟨rfl, hb1⟩
    have hB1 := hB.trans (hb1.mono hB.size)
    have hP1 := hP.step hb1
    clear p0 p1 p2 hb1 hP hs1 C0 hB
    go_wp2_with fail
    have KS := hide (fun (W' : World) (h : Below w1.heap.size w1 W') => (show W'.cell? ⟨w.heap.size, 0, none⟩ = some (.int .i64 lf) ∧ W'.cell? ⟨w.heap.size, 1, none⟩ = some (.slice a1 k1 c1) ∧ W'.cell? ⟨w.heap.size, 2, none⟩ = some (.slice a2 k2 c2) from ⟨(hP1.step h).cell 0 rfl, (hP1.step h).cell 1 rfl, (hP1.step h).cell 2 rfl⟩))
    have C1' := hide (fun (W' : World) (h : Below w1.heap.size w1 W') => unhide C1 W' (hB1.trans (h.mono hB1.size)))
    have C2' := hide (fun (W' : World) (h : Below w1.heap.size w1 W') => unhide C2 W' (hB1.trans (h.mono hB1.size)))
    have HT0 := (Below.refl w1.heap.size w1).drew
    clear C1 C2 hP1
    go_region_held3 (fun W => W.cell? ⟨w.heap.size, 0, none⟩ = some (.int .i64 lf) ∧ W.cell? ⟨w.heap.size, 1, none⟩ = some (.slice a1 k1 c1) ∧ W.cell? ⟨w.heap.size, 2, none⟩ = some (.slice a2 k2 c2)) (first | exact unhide KS _ HT0 | exact unhide KS _ hT4 | exact unhide KS _ hT3 | exact unhide KS _ hT2 | fail) (first
      | (go_at_call 46; refine (unhide C2' _ hT3).mono ?_; rintro e w4 ⟨rfl, hb4⟩; have hT4 := hT3.trans (hb4.mono hT3.size); clear hb4)
      | (go_at_call 46; refine (unhide C1' _ hT2).mono ?_; rintro e w3 ⟨rfl, hb3⟩; have hT3 := hT2.trans (hb3.mono hT2.size); clear hb3)
      | (go_at_call 45; refine (unhide CY _).mono ?_; rintro e w2 ⟨rfl, hb2⟩; have hT2 := HT0.trans (hb2.mono HT0.size); clear hb2))
    all_goals
      have hF := hB1.trans (hT4.mono hB1.size)
      clear C1' C2' KS hT2 hT3 HT0
      go_wp2
      go_ret2
      exact ⟨rfl, hF⟩
  | false =>
    rw [ho] at C0
    have EC := hide (show sgT ⟨lf, l1, l2⟩ = ⟨#[]⟩ by unfold sgT; rw [ho]; rfl)
    rw [unhide EC]
    obtain ⟨a1, c1, rfl⟩ := r1.shape
    obtain ⟨a2, c2, rfl⟩ := r2.shape
    unfold sgv at C0 ⊢
    clear r1 r2 q1 q2 ho EC
    show Calls _ _ #[.agg #[.int .i64 lf, .slice a1 (l1.map sv).length c1, .slice a2 (l2.map sv).length c2]] _ _
    generalize ((Sg.mk lf l1 l2).once.map sv).length = k1 at *
    generalize ((Sg.mk lf l1 l2).path.map sv).length = k2 at *
    go_enter Try.func28, Try.ntmps28
    go_wp2_with fail
    obtain ⟨W, hW, hP, hB, hs1⟩ := one_cb w #[.int .i64 lf, .slice a1 k1 c1, .slice a2 k2 c2] 29
    rw [hW]
    clear hW
    have p0 := hP.cell 0 (v := .int .i64 lf) rfl
    have p1 := hP.cell 1 (v := .slice a1 k1 c1) rfl
    have p2 := hP.cell 2 (v := .slice a2 k2 c2) rfl
    go_wp2_with fail
    refine (unhide C0 W hB).mono ?_
    rintro e w1 ⟨rfl, hb1⟩
    have hB1 := hB.trans (hb1.mono hB.size)
    clear p0 p1 p2 hb1 hP hs1 C0 hB
    go_wp2
    go_ret2
    exact ⟨rfl, hB1⟩
end Go.Proofs.Ytjgnjjphankhnac

