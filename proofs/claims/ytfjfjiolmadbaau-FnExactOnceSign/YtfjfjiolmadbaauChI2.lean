/- Digits by the project's own functions, over the loaded program. -/
import Derived.Test.YtfjfjiolmadbaauChI1
import Derived.Test.YtfjfjiolmadbaauChn2
import Derived.Test.YtfjfjiolmadbaauChn3
import Derived.Test.YtfjfjiolmadbaauChn4
namespace Go.Proofs.Ytfjfjiolmadbaau
open Go.RowKit
/-- The first k of ten numbers f 0, f 1 .., the others 0. -/
def dgS (f : Nat → Int) (k : Nat) : List Int := (List.range 10).map (fun i => if i < k then f i else 0)
theorem dgS_len (f : Nat → Int) (k : Nat) : (dgS f k).length = 10 := by unfold dgS; rw [List.length_map, List.length_range]
theorem dgS_set (f : Nat → Int) (k : Nat) (hk : k < 10) : (dgS f k).set k (f k) = dgS f (k + 1) := by
  apply List.ext_getElem?
  intro i
  unfold dgS
  rw [List.getElem?_set]
  by_cases hi : i < 10
  · by_cases e : k = i
    · subst e
      rw [if_pos rfl, if_pos (by rw [List.length_map, List.length_range]; exact hk), List.getElem?_map, List.getElem?_range hk, Option.map_some, if_pos (by omega)]
    · rw [if_neg e, List.getElem?_map, List.getElem?_map, List.getElem?_range hi, Option.map_some, Option.map_some]
      by_cases h2 : i < k
      · rw [if_pos h2, if_pos (by omega)]
      · rw [if_neg h2, if_neg (by omega)]
  · rw [if_neg (by omega), List.getElem?_map, List.getElem?_map, List.getElem?_eq_none (by rw [List.length_range]; omega)]
    rfl
theorem dgS_at (f : Nat → Int) (k i : Nat) (hi : i < 10) : (dgS f k)[i]? = some (if i < k then f i else 0) := by
  unfold dgS
  rw [List.getElem?_map, List.getElem?_range hi]
  rfl
def dgF (m : ByteArray) (i : Nat) : Int := (dgAt m i : Int)
theorem dgS_all (m : ByteArray) : dgS (dgF m) 10 = digL m := by
  apply List.ext_getElem?
  intro i
  by_cases hi : i < 10
  · rw [dgS_at _ _ _ hi, digL_at m i hi, if_pos hi]; rfl
  · rw [List.getElem?_eq_none (by rw [dgS_len]; omega), List.getElem?_eq_none (by rw [digL_len]; omega)]
/-- A block that holds these ten numbers. -/
abbrev IA (w : World) (g : Nat) (T : TypeId) (l : List Int) : Prop := CB w g T (l.map iv).toArray
theorem ia_set {w : World} {g : Nat} {T : TypeId} {l : List Int} (h : IA w g T l) (k : Nat) (z : Int) : IA (w.setCell ⟨g, k, none⟩ (.int .i64 z)) g T (l.set k z) := by
  have h1 := CB.set h k (.int .i64 z)
  have e : ((l.map iv).toArray.setIfInBounds k (.int .i64 z)) = ((l.set k z).map iv).toArray := by
    rw [List.setIfInBounds_toArray, List.map_set]; rfl
  rw [e] at h1
  exact h1
theorem ia_cell {w : World} {g : Nat} {T : TypeId} {l : List Int} (h : IA w g T l) {k : Nat} {z : Int} (hk : l[k]? = some z) : w.cell? ⟨g, k, none⟩ = some (.int .i64 z) := by
  refine CB.cell h k ?_
  simp [hk, iv]
set_option maxRecDepth 20000 in
theorem halfBytes_any (n : Nat) (hn : n < 1000) (w : World) :
    Calls Try.prog 31 #[.int .i64 (n : Int)] w fun e w' => e = .returned (.tuple #[.int .i64 ((n / 16 : Nat) : Int), .int .i64 ((n % 16 : Nat) : Int)]) ∧ w' = w := by
  obtain ⟨x1, hx1⟩ : ∃ x : Nat, x = n / 16 := ⟨_, rfl⟩
  obtain ⟨x2, hx2⟩ : ∃ x : Nat, x = n % 16 := ⟨_, rfl⟩
  rw [← hx1, ← hx2]
  have q1 : (n : Int).tdiv 16 = (x1 : Int) := by rw [Int.tdiv_eq_ediv_of_nonneg (by omega)]; omega
  have q1' : (n : Int) / 16 = (x1 : Int) := by omega
  have q2 : (n : Int).tmod 16 = (x2 : Int) := by rw [Int.tmod_eq_emod_of_nonneg (by omega)]; omega
  have q2' : (n : Int) % 16 = (x2 : Int) := by omega
  have q3 : IntKind.i64.wrap (x1 : Int) = (x1 : Int) := by rw [IntKind.wrap_i64]; omega
  have q4 : IntKind.i64.wrap (x2 : Int) = (x2 : Int) := by rw [IntKind.wrap_i64]; omega
  replace hx1 := hide hx1; replace hx2 := hide hx2
  go_enter Try.func31, Try.ntmps31
  go_wp2
  exact bodyPost_ret (results_tmp2 (by exact Try.results31) _ _ _) rfl ⟨rfl, rfl⟩
theorem len10 : Try.prog.arrayLen 36 = 10 := by kernel_rfl
theorem idx10 (g k : Nat) (h : (k : Int) < 10) (W : World) : (Instr.indexAt 36 (.pointer (some ⟨g, 0, none⟩)) (.int .i64 (k : Int))).run Try.prog W = .ok (.pointer (some ⟨g, k, none⟩)) W := by
  have hu : Try.prog.underlying 36 = some (.array (Try.prog.arrayLen 36) (Try.prog.elem 36)) := by kernel_rfl
  have he : Try.prog.elem 36 = 3 := by kernel_rfl
  have h1 : (0 : Int) ≤ (k : Int) ∧ (k : Int) < ((Try.prog.arrayLen 36 : Nat) : Int) := by rw [len10]; exact ⟨by omega, by omega⟩
  rw [run_indexAt_array (P := Try.prog) (w := W) 36 ⟨g, 0, none⟩ .i64 (k : Int) hu, if_pos h1, he]
  simp [go_sem, Addr.add]
  intro h; exact h.symm
theorem info10 (l : List Int) (hl : l.length = 10) : (Try.prog.info? 36).map (·.size) = some (l.map iv).toArray.size := by
  have e : (l.map iv).toArray.size = 10 := by simp [hl]
  have h : (Try.prog.info? 36).map (·.size) = some 10 := by kernel_rfl
  rw [h, e]
theorem zer10 (f : Nat → Int) : (#[.int .i64 0, .int .i64 0, .int .i64 0, .int .i64 0, .int .i64 0, .int .i64 0, .int .i64 0, .int .i64 0, .int .i64 0, .int .i64 0] : Array Value) = ((dgS f 0).map iv).toArray := rfl
theorem iv_one (l : List Int) : (l.map iv).toArray.all (·.oneCell') = true := by
  rw [Array.all_eq_true_iff_forall_mem]
  intro v hv
  simp only [List.mem_toArray, List.mem_map] at hv
  obtain ⟨x, _, rfl⟩ := hv
  rfl
set_option maxRecDepth 20000 in
set_option maxHeartbeats 1000000 in
theorem digitsFor_any (m : ByteArray) (hm : m.size ≤ 4000000) (w : World) :
    Calls Try.prog 23 #[.string m] w fun e w' => e = .returned (.agg ((digL m).map iv).toArray) ∧ Below w.heap.size w w' := by
  have C := hide (fun W => implChop_any m hm W)
  have hs4 := chopB_size m
  have EA := hide (dgS_all m)
  have EF := hide (show ∀ k, k < 4 → dgF m (2 * k) = ((byA (chopB m) k / 16 : Nat) : Int) ∧ dgF m (2 * k + 1) = ((byA (chopB m) k % 16 : Nat) : Int) from fun k hk => by
    unfold dgF dgAt
    rw [if_pos (by omega), if_pos (by omega), (dgN_pair (chopB m) k).1, (dgN_pair (chopB m) k).2]
    exact ⟨rfl, rfl⟩)
  have E8 := hide (show dgF m 8 = ((lfN (chopB m) 4 / 16 : Nat) : Int) from rfl)
  have E9 := hide (show dgF m 9 = ((lfN (chopB m) 4 % 16 : Nat) : Int) from rfl)
  generalize chopB m = s at *
  generalize dgF m = f at *
  have hs4' : (s.size : Int) = 4 := by omega
  obtain ⟨W, hW, hR, hD, hb, hlt⟩ := two_cb w ((dgS f 0).map iv).toArray ((dgS f 0).map iv).toArray 36 36
  rw [← zer10 f] at hW
  replace hR := hide hR
  replace hD := hide hD
  go_enter Try.func23, Try.ntmps23
  go_wp2_with fail
  refine (unhide C W).mono ?_
  rintro e w1 ⟨rfl, hb1⟩
  have hR1 := hide ((unhide hR).below hb1 (by omega))
  have hD1 := hide ((unhide hD).below hb1 (by omega))
  have hB1 := hb.trans (hb1.mono hb.size)
  have hsz1 := hb1.size
  clear hR hD hb hb1 C hW
  go_wp2
  go_loopw [5, 11] (fun ts ti wr => ∃ (k : Nat) (q : Nat), k ≤ 4 ∧ ti = .int .i64 (k : Int) ∧ ts = .int .i64 (q : Int) ∧ Hid (q = lfN s k) ∧ Hid (IA wr (w.heap.size + 1) 36 (dgS f (2 * k))) ∧ Hid (IA wr w.heap.size 36 (dgS f 0)) ∧ Below w.heap.size w wr) (fun _ ti _ => 4 - (intOf ti).toNat)
  case atStart => exact ⟨0, 0, by omega, rfl, rfl, hide rfl, hD1, hR1, hB1⟩
  case round =>
    clear hR1 hD1 hB1
    obtain ⟨k, q, hk, rfl, rfl, hq, HD, HR, hB⟩ := hrel
    have hsz := hB.size
    by_cases hlt4 : k < 4
    · have hk' : (k : Int) < 4 := by omega
      have hk0 : (0 : Int) ≤ (k : Int) := by omega
      have hks : k < s.size := by omega
      have hby := byA_at s k hks
      have hbl := byA_lt s k
      have HL := hide (show lfN s (k + 1) = lfN s k + 30 - byA s k / 16 - byA s k % 16 from rfl)
      have hql := lfN_le s k
      rw [← unhide hq] at HL hql
      have HF := unhide EF k hlt4
      obtain ⟨b, hbb⟩ : ∃ b, b = byA s k := ⟨_, rfl⟩
      rw [← hbb] at hby hbl HL HF
      have CH := hide (fun W => halfBytes_any b (by omega) W)
      obtain ⟨x1, hx1⟩ : ∃ x : Nat, x = b / 16 := ⟨_, rfl⟩
      obtain ⟨x2, hx2⟩ : ∃ x : Nat, x = b % 16 := ⟨_, rfl⟩
      rw [← hx1, ← hx2] at HL HF CH
      have q5 : IntKind.i64.wrap (b : Int) = (b : Int) := by rw [IntKind.wrap_i64]; omega
      obtain ⟨i1, hi1⟩ : ∃ i : Nat, i = 2 * k := ⟨_, rfl⟩
      obtain ⟨i2, hi2⟩ : ∃ i : Nat, i = 2 * k + 1 := ⟨_, rfl⟩
      have q9 : IntKind.i64.wrap (2 * (k : Int)) = (i1 : Int) := by rw [IntKind.wrap_i64]; omega
      have q9' : IntKind.i64.wrap ((i1 : Int) + 1) = (i2 : Int) := by rw [IntKind.wrap_i64]; omega
      have I1 := idx10 (w.heap.size + 1) i1 (by omega)
      have I2 := idx10 (w.heap.size + 1) i2 (by omega)
      obtain ⟨y1, hy1⟩ : ∃ y : Nat, y + x1 = 15 := ⟨15 - x1, by omega⟩
      obtain ⟨y2, hy2⟩ : ∃ y : Nat, y = y1 + 15 := ⟨_, rfl⟩
      obtain ⟨y3, hy3⟩ : ∃ y : Nat, y + x2 = y2 := ⟨y2 - x2, by omega⟩
      obtain ⟨y4, hy4⟩ : ∃ y : Nat, y = q + y3 := ⟨_, rfl⟩
      have q6 : IntKind.i64.wrap (15 - (x1 : Int)) = (y1 : Int) := by rw [IntKind.wrap_i64]; omega
      have q7 : IntKind.i64.wrap ((y1 : Int) + 15) = (y2 : Int) := by rw [IntKind.wrap_i64]; omega
      have q8 : IntKind.i64.wrap ((y2 : Int) - (x2 : Int)) = (y3 : Int) := by rw [IntKind.wrap_i64]; omega
      have q10 : IntKind.i64.wrap ((q : Int) + (y3 : Int)) = (y4 : Int) := by rw [IntKind.wrap_i64]; omega
      have HQ := hide (show y4 = lfN s (k + 1) by have := unhide HL; omega)
      have hix : ∀ h : k < s.size, (s[k]'h).toNat = b := fun h => hby
      have HD' := unhide HD
      have g1 := ia_cell HD' (dgS_at f (2 * k) i1 (by omega))
      have f1 := HD'.frozen i1
      have D1 := ia_set HD' i1 (x1 : Int)
      rw [show (dgS f (2 * k)).set i1 (x1 : Int) = dgS f (2 * k + 1) by rw [hi1, ← HF.1]; exact dgS_set f (2 * k) (by omega)] at D1
      have g2 := ia_cell D1 (dgS_at f (2 * k + 1) i2 (by omega))
      have f2 := D1.frozen i2
      have D2 := ia_set D1 i2 (x2 : Int)
      rw [show (dgS f (2 * k + 1)).set i2 (x2 : Int) = dgS f (2 * (k + 1)) by rw [hi2, ← HF.2]; exact dgS_set f (2 * k + 1) (by omega)] at D2
      replace D2 := hide D2
      have HR2 := hide (((unhide HR).set_other (h := w.heap.size + 1) (k := i1) (by omega) (.int .i64 (x1 : Int))).set_other (h := w.heap.size + 1) (k := i2) (by omega) (.int .i64 (x2 : Int)))
      have hB2 := hide ((hB.setCell (p := ⟨w.heap.size + 1, i1, none⟩) (Nat.le_succ _) (.int .i64 (x1 : Int))).setCell (p := ⟨w.heap.size + 1, i2, none⟩) (Nat.le_succ _) (.int .i64 (x2 : Int)))
      replace hbb := hide hbb; replace hx1 := hide hx1; replace hx2 := hide hx2; replace hy1 := hide hy1; replace hy2 := hide hy2; replace hy3 := hide hy3; replace hy4 := hide hy4; replace HF := hide HF; replace hby := hide hby; replace hi1 := hide hi1; replace hi2 := hide hi2
      clear HL hql HD HD' HR hB D1 EA E8 E9 EF
      go_wp2_with (go_at_call 31; refine (unhide CH _).mono ?_; rintro e wz ⟨rfl, hwz⟩; subst hwz)
      exact ⟨⟨k + 1, y4, by omega, by go_num, by first | rfl | trivial, HQ, D2, HR2, unhide hB2⟩, by simp [intOf]; omega⟩
    · have hk' : ¬ (k : Int) < 4 := by omega
      obtain rfl : k = 4 := by omega
      have hql := lfN_le s 4
      rw [← unhide hq] at hql E8 E9
      have CH := hide (fun W => halfBytes_any q (by omega) W)
      obtain ⟨x1, hx1⟩ : ∃ x : Nat, x = q / 16 := ⟨_, rfl⟩
      obtain ⟨x2, hx2⟩ : ∃ x : Nat, x = q % 16 := ⟨_, rfl⟩
      rw [← hx1] at E8 CH
      rw [← hx2] at E9 CH
      have I1 := idx10 (w.heap.size + 1) 8 (by omega)
      have I2 := idx10 (w.heap.size + 1) 9 (by omega)
      have HD' := unhide HD
      have g1 := ia_cell HD' (dgS_at f (2 * 4) 8 (by omega))
      have f1 := HD'.frozen 8
      have D1 := ia_set HD' 8 (x1 : Int)
      rw [show (dgS f (2 * 4)).set 8 (x1 : Int) = dgS f 9 by rw [← unhide E8]; exact dgS_set f 8 (by omega)] at D1
      have g2 := ia_cell D1 (dgS_at f 9 9 (by omega))
      have f2 := D1.frozen 9
      have D2 := ia_set D1 9 (x2 : Int)
      rw [show (dgS f 9).set 9 (x2 : Int) = digL m by rw [← unhide EA, ← unhide E9]; exact dgS_set f 9 (by omega)] at D2
      replace D2 := hide D2
      have HR2 := hide (((unhide HR).set_other (h := w.heap.size + 1) (k := 8) (by omega) (.int .i64 (x1 : Int))).set_other (h := w.heap.size + 1) (k := 9) (by omega) (.int .i64 (x2 : Int)))
      have hB2 := hide ((hB.setCell (p := ⟨w.heap.size + 1, 8, none⟩) (Nat.le_succ _) (.int .i64 (x1 : Int))).setCell (p := ⟨w.heap.size + 1, 9, none⟩) (Nat.le_succ _) (.int .i64 (x2 : Int)))
      have hi := hide (info10 (digL m) (digL_len m))
      have hi0 := hide (info10 (dgS f 0) (dgS_len f 0))
      have hl10 := digL_len m
      replace hx1 := hide hx1; replace hx2 := hide hx2
      clear hql HD HD' HR hB D1 EA E8 E9 EF
      go_wp2_with (first
        | (go_at_call 31; refine (unhide CH _).mono ?_; rintro e wz ⟨rfl, hwz⟩; subst hwz)
        | (refine wpList_load_row rfl 36 _ rfl (w.heap.size + 1) rfl 36 _ (0, 0) _ (unhide D2) Try.underlying36 rfl (unhide hi) ?_)
        | (refine wpList_store_row rfl 36 _ _ rfl w.heap.size _ rfl rfl 36 _ (unhide HR2) (unhide hi) (by simp [dgS_len, hl10]) (iv_one _) ?_))
      have HR3 := setRow_heap _ w.heap.size _ ((digL m).map iv).toArray 36 (0, 0) (unhide HR2)
      have hB3 := Go.below_setRow (unhide hB2) (Nat.le_refl _) ((digL m).map iv).toArray
      exact bodyPost_ret (results_cell_row (by exact Try.results23) _ _ _ _ _ (0, 0) _ rfl HR3 Try.underlying36 rfl (unhide hi)) rfl ⟨rfl, hB3⟩
end Go.Proofs.Ytfjfjiolmadbaau
