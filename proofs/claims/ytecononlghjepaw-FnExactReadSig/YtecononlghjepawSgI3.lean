/- Keys of a tree by the project's own functions: a signature that is made, and one that is read, over the loaded program. -/
import Derived.Test.YtecononlghjepawSgI1
namespace Go.Proofs.Ytecononlghjepaw
open Go.RowKit
theorem cutI16 (T : ByteArray) (i j : Nat) (w : World) (h1 : i ≤ j) (h2 : j ≤ T.size) : (Instr.slice 9 (.string T) (some (.int .i64 (i : Int))) (some (.int .i64 (j : Int))) none).run Try.prog w = .ok (.string (T.extract i j)) w := by
  rw [run_slice_string_if w 9 T .i64 .i64 (i : Int) (j : Int) Try.underlying9, if_pos (by omega), if_pos (by omega)]
  rfl
def prI (f : Nat → ByteArray) (k : Nat) : List ByteArray := (List.range k).map f
theorem prI_len (f : Nat → ByteArray) (k : Nat) : (prI f k).length = k := by unfold prI; rw [List.length_map, List.length_range]
theorem prI_succ (f : Nat → ByteArray) (k : Nat) : prI f (k + 1) = prI f k ++ [f k] := by unfold prI; rw [List.range_succ, List.map_append]; rfl
set_option maxRecDepth 20000 in
set_option maxHeartbeats 800000 in
theorem shortsOf_any (t : ByteArray) (n : Nat) (ht : t.size = 4 * n) (hn : n ≤ 1000) (F : Nat → ByteArray) (hF : ∀ k, k < n → t.extract (k * 4) (k * 4 + 4) = F k) (w : World) :
    Calls Try.prog 29 #[.string t] w fun e w' => (∃ v, e = .returned v ∧ OwnV w' w.heap.size 9 v ((prI F n).map sv)) ∧ Below w.heap.size w w' := by
  obtain ⟨i0, hi, hz0, hz1, hz2⟩ := info_parts infoTxt
  have v1' : (t.size : Int) / 4 = (n : Int) := by omega
  have v1 : (t.size : Int).tdiv 4 = (n : Int) := by rw [Int.tdiv_eq_ediv_of_nonneg (by omega)]; omega
  have HS := hide (fun k (hk : k < n) (W : World) => show (Instr.slice 9 (.string t) (some (.int .i64 ((k * 4 : Nat) : Int))) (some (.int .i64 ((k * 4 + 4 : Nat) : Int))) none).run Try.prog W = .ok (.string (F k)) W by rw [cutI16 t (k * 4) (k * 4 + 4) W (by omega) (by omega), hF k hk])
  have HC := hide (fun k (hk : k < n) (W : World) => stringsClone14_any (F k) W (by rw [← hF k hk, ByteArray.size_extract]; omega))
  clear hF
  go_enter Try.func29, Try.ntmps29
  go_wp2_with (at_make; refine wpList_make_own _ rfl _ _ 22 rfl w.heap.size 9 i0 (.string ⟨#[]⟩) 1 Try.underlying22 hi hz0 hz1 _ _ _ n rfl rfl (by omega) (by rw [hz2]; omega) (by unfold maxLen; omega) (Nat.le_refl _) ?_; intro w1 hown1 hgrow1)
  have hb1 : Below w.heap.size w w1 := (Below.refl _ _).grown hgrow1 (Nat.le_refl _) (fun k hk => by cases hk)
  have hown0 : OwnV w1 w.heap.size 9 (.slice (some ⟨w.heap.size, 0, none⟩) 0 n) ((prI F 0).map sv) := hown1
  clear hown1 hgrow1
  go_loopw [3, 4] (fun tv ti wr => ∃ k m : Nat, k ≤ n ∧ m = k * 4 ∧ ti = .int .i64 (m : Int) ∧ Hid (OwnV wr w.heap.size 9 tv ((prI F k).map sv)) ∧ Below w.heap.size w wr) (fun _ ti _ => 4 * n - (intOf ti).toNat)
  case atStart => exact ⟨0, 0, by omega, rfl, rfl, hide hown0, hb1⟩
  case round =>
    clear hown0 hb1
    obtain ⟨k, m, hk, hm, rfl, HO, hB⟩ := hrel
    by_cases hlt : k < n
    · have hk' : (m : Int) < (t.size : Int) := by omega
      obtain ⟨m4, hm4⟩ : ∃ m4, m4 = k * 4 + 4 := ⟨_, rfl⟩
      have t1 : IntKind.i64.wrap ((m : Int) + 4) = (m4 : Int) := by rw [IntKind.wrap_i64]; omega
      have hsl := unhide HS k hlt
      have hcl := hide (unhide HC k hlt)
      rw [← hm4, ← hm] at hsl
      have HP := hide (prI_succ F k)
      have hpl : ((prI F k).map sv).length ≤ 1000 := by rw [List.length_map, prI_len]; omega
      generalize F k = x at *
      have hmm := hide hm
      have hmm4 := hide hm4
      have hlt4 : m4 ≤ 4 * n := by omega
      have hm5 : m < m4 := by omega
      clear HS HC hm hm4
      replace hpl := hide hpl
      go_wp2_with fail
      refine (unhide hcl wr).mono ?_
      rintro e w3 ⟨rfl, hb3⟩
      have hB3 := hB.trans (hb3.mono hB.size)
      have HO3 := hide ((unhide HO).below hb3)
      have hsz3 := hB3.size
      clear hb3 hB hcl HO
      go_wp2_with (at_builtin; refine wpList_append_val (w := w3) rfl (.tmp 15) (.tmp 22) 22 rfl w.heap.size 9 i0 (.string ⟨#[]⟩) 16 Try.underlying22 hi hz0 hz1 hz2 rfl u3 _ (by rfl) (unhide HO3) (.string x) rfl (by rfl) (unhide hpl) (by decide) hB3 (Nat.le_refl _) hsz3 ?_; intro v' w8 ho8 hB8)
      have ho9 := hide (show OwnV w8 w.heap.size 9 v' ((prI F (k + 1)).map sv) by rw [unhide HP, List.map_append]; exact ho8)
      clear ho8 HO3 HP hsl
      go_wp2
      exact ⟨⟨k + 1, m4, by omega, by rw [unhide hmm4]; omega, rfl, ho9, hB8⟩, by simp [intOf]; omega⟩
    · have hk' : ¬ (m : Int) < (t.size : Int) := by omega
      obtain rfl : k = n := by omega
      clear HS HC
      go_wp2
      go_ret
      exact ⟨⟨_, rfl, unhide HO⟩, hB⟩
set_option maxRecDepth 20000 in
set_option maxHeartbeats 800000 in
theorem implReadSig_any (t : ByteArray) (w : World) :
    Calls Try.prog 12 #[.string t] w fun e w' => (∃ v, e = .returned (.tuple #[v, .bool (rdOk t)]) ∧ OwnSg w' w.heap.size v (rdS t)) ∧ Below w.heap.size w w' := by
  by_cases h49 : t.size = 49
  · have h49' : (t.size : Int) = 49 := by omega
    have hix : ∀ h : 0 < t.size, (t[0]'h).toNat = byA t 0 := fun h => byA_at t 0 h
    have hbl := byA_lt t 0
    obtain ⟨b, hb⟩ : ∃ b, b = byA t 0 := ⟨_, rfl⟩
    rw [← hb] at hix hbl
    have q0 : IntKind.i64.wrap (b : Int) = (b : Int) := by rw [IntKind.wrap_i64]; omega
    have h0s : 0 < t.size := by omega
    have h1t := fun (W : World) => run_slice_string_l W 9 t Try.underlying9 .i64 1 (by omega) (by omega)
    have C0 := hide (fun W => isLeaf_any (b : Int) W)
    obtain ⟨T, hT⟩ : ∃ T, T = t.extract 1 49 := ⟨_, rfl⟩
    have hTs : T.size = 48 := by rw [hT, ByteArray.size_extract]; omega
    by_cases h4 : b < 4
    · have hin : rdIn t := ⟨h49, by omega⟩
      have ER := hide (show rdS t = ⟨(b : Int), prI (prtB t) 10, prI (fun i => prtB t (10 + i)) 2⟩ by unfold rdS; rw [if_pos (rdOk_of hin), hb]; rfl)
      rw [unhide ER, rdOk_of hin]
      rw [decide_eq_true (show 0 ≤ (b : Int) ∧ (b : Int) ≤ 3 by omega)] at C0
      have C1 := hide (fun W => shortsOf_any (T.extract 0 40) 10 (by rw [ByteArray.size_extract]; omega) (by omega) (prtB t) (fun k hk => by
        unfold prtB
        rw [hT, ByteArray.extract_extract, ByteArray.extract_extract]
        congr 1 <;> omega) W)
      have C2 := hide (fun W => shortsOf_any (T.extract 40 T.size) 2 (by rw [ByteArray.size_extract]; omega) (by omega) (fun i => prtB t (10 + i)) (fun k hk => by
        unfold prtB
        rw [hTs, hT, ByteArray.extract_extract, ByteArray.extract_extract]
        congr 1 <;> omega) W)
      generalize prI (prtB t) 10 = L1 at *
      generalize prI (fun i => prtB t (10 + i)) 2 = L2 at *
      have hc1 : ∀ W : World, (Instr.slice 9 (.string T) none (some (.int .i64 40)) none).run Try.prog W = .ok (.string (T.extract 0 40)) W := fun W => run_slice_string_h W 9 T Try.underlying9 .i64 40 (by omega) (by omega)
      have hc2 : ∀ W : World, (Instr.slice 9 (.string T) (some (.int .i64 40)) none none).run Try.prog W = .ok (.string (T.extract 40 T.size)) W := fun W => run_slice_string_l W 9 T Try.underlying9 .i64 40 (by omega) (by omega)
      generalize T.extract 0 40 = Ta at *
      generalize T.extract 40 T.size = Tb at *
      replace hb := hide hb
      clear ER hin
      go_enter Try.func12, Try.ntmps12
      go_wp2
      obtain ⟨W, hW, hR, hB, hs1⟩ := one_cb w #[.int .i64 0, .slice none 0 0, .slice none 0 0] 28
      rw [hW]
      clear hW
      go_quiet (fail)
      rw [← hT]
      have hRV := hR.step (bDN (Below.refl _ _) nq)
      have hBV := bDN hB nq
      have hwV : w.heap.size < (W.drewN nq).heap.size := hs1
      generalize W.drewN nq = V at *
      replace hT := hide hT
      clear hB hR hs1 hix h1t W h49' h49 q0 hbl h0s h4 hTs
      go_wp2_with fail
      refine (unhide C0 V).mono ?_
      rintro e w1 ⟨rfl, hw1⟩
      have hw2 := hw1.symm
      subst hw2
      clear hw1 C0
      go_wp2_with fail
      have HR := hide (fun (W' : World) (h : Below V.heap.size V W') => hRV.step h)
      have HT0 := (Below.refl V.heap.size V).drew
      clear hRV
      go_region_held3 (fun _ => True) (first | trivial | fail) (first
        | (go_at_call 29; have hq1 := hT1; refine (unhide C2 _).mono ?_; rintro e w2 ⟨⟨v2, rfl, o2⟩, hb2⟩; have hT2 := hT1.trans (hb2.mono hT1.size); have s2 := o2.shape; obtain ⟨a2, c2, rfl⟩ := s2; replace o2 := hide o2; generalize hn2 : (L2.map sv).length = n2 at *; have hR2 := unhide HR _ hT2; have r0 := hR2.cell 0 (v := .int .i64 0) rfl; have r1 := hR2.cell 1 (v := .slice none 0 0) rfl; have r2 := hR2.cell 2 (v := .slice none 0 0) rfl; have g0 := hR2.frozen 0; have g1 := hR2.frozen 1; have g2 := hR2.frozen 2; replace hR2 := hide hR2)
        | (go_at_call 29; refine (unhide C1 _).mono ?_; rintro e w1 ⟨⟨v1, rfl, o1⟩, hb1⟩; have hT1 := HT0.trans (hb1.mono HT0.size); have s1 := o1.shape; obtain ⟨a1, c1, rfl⟩ := s1; replace o1 := hide o1; generalize hn1 : (L1.map sv).length = n1 at *))
      all_goals
        have hsT : V.heap.size ≤ w1.heap.size := hT1.size
        have o5 := hide ((unhide o1).below hb2)
        have ap := hide (show ∀ k, (Value.slice a1 n1 c1).ownBlock = some k → (Value.slice a2 n2 c2).ownBlock ≠ some k from fun k hk hk2 => by
          have h1 := ((unhide o1).lt k hk).2
          have h2 := ((unhide o2).lt k hk2).1
          omega)
        have of5 := hide ((unhide hR2).off (unhide o5) (by decide))
        have of4 := hide ((unhide hR2).off (unhide o2) (by decide))
        have hB4 := hBV.trans (hT2.mono hBV.size)
        have o4' := hide ((unhide o2).low (show w.heap.size ≤ w1.heap.size by omega))
        have o5' := hide ((unhide o5).low (show w.heap.size ≤ V.drew.heap.size from Nat.le_of_lt hwV))
        have hF := hide ((((unhide hR2).set 0 (.int .i64 (b : Int))).set 1 (.slice a1 n1 c1)).set 2 (.slice a2 n2 c2))
        have hBF := hide (((hB4.setCell (p := ⟨w.heap.size, 0, none⟩) (Nat.le_refl _) (.int .i64 (b : Int))).setCell (p := ⟨w.heap.size, 1, none⟩) (Nat.le_refl _) (.slice a1 n1 c1)).setCell (p := ⟨w.heap.size, 2, none⟩) (Nat.le_refl _) (.slice a2 n2 c2))
        have o6 := hide ((((unhide o5').setO w.heap.size 0 (.int .i64 (b : Int)) (unhide of5)).setO w.heap.size 1 (.slice a1 n1 c1) (unhide of5)).setO w.heap.size 2 (.slice a2 n2 c2) (unhide of5))
        have o7 := hide ((((unhide o4').setO w.heap.size 0 (.int .i64 (b : Int)) (unhide of4)).setO w.heap.size 1 (.slice a1 n1 c1) (unhide of4)).setO w.heap.size 2 (.slice a2 n2 c2) (unhide of4))
        clear o1 o2 o5 o4' o5' of5 of4 hB4 hR2 HR HT0 hT1 hT2 hb1 hb2 r0 r1 r2 g0 g1 g2 C1 C2 hc1 hc2
        go_wp2
        exact bodyPost_ret (results_cb_tmp (by exact Try.results12) _ _ _ _ _ _ rfl (unhide hF) Try.underlying28 (by kernel_rfl)) rfl ⟨⟨_, rfl, _, _, rfl, unhide o6, unhide o7, unhide ap⟩, unhide hBF⟩
    · have hno : rdOk t = false := by
        cases e : rdOk t with
        | false => rfl
        | true => exact absurd (rdOk_in e).2 (by rw [← hb]; exact h4)
      have ER := hide (show rdS t = ⟨0, [], []⟩ by unfold rdS; rw [hno]; rfl)
      rw [unhide ER, hno]
      rw [decide_eq_false (show ¬ (0 ≤ (b : Int) ∧ (b : Int) ≤ 3) by omega)] at C0
      replace hb := hide hb
      clear ER hno
      go_enter Try.func12, Try.ntmps12
      go_wp2
      obtain ⟨W, hW, hR, hB, hs1⟩ := one_cb w #[.int .i64 0, .slice none 0 0, .slice none 0 0] 28
      rw [hW]
      clear hW
      go_quiet (fail)
      have hRV := hR.step (bDN (Below.refl _ _) nq)
      have hBV := bDN hB nq
      have hwV : w.heap.size < (W.drewN nq).heap.size := hs1
      generalize W.drewN nq = V at *
      clear hB hR hs1 hix h1t W
      go_wp2_with fail
      refine (unhide C0 V).mono ?_
      rintro e w1 ⟨rfl, hw1⟩
      have hw2 := hw1.symm
      subst hw2
      clear hw1 C0
      have r0 := hRV.cell 0 (v := .int .i64 0) rfl
      have r1 := hRV.cell 1 (v := .slice none 0 0) rfl
      have r2 := hRV.cell 2 (v := .slice none 0 0) rfl
      have g0 := hRV.frozen 0
      have g1 := hRV.frozen 1
      have g2 := hRV.frozen 2
      go_wp2
      have hF := hide (((hRV.set 0 (.int .i64 0)).set 1 (.slice none 0 0)).set 2 (.slice none 0 0))
      have hBF := hide (((hBV.setCell (p := ⟨w.heap.size, 0, none⟩) (Nat.le_refl _) (.int .i64 0)).setCell (p := ⟨w.heap.size, 1, none⟩) (Nat.le_refl _) (.slice none 0 0)).setCell (p := ⟨w.heap.size, 2, none⟩) (Nat.le_refl _) (.slice none 0 0))
      exact bodyPost_ret (results_cb_tmp (by exact Try.results12) _ _ _ _ _ _ rfl (unhide hF) Try.underlying28 (by kernel_rfl)) rfl ⟨⟨_, rfl, _, _, rfl, OwnV.nil _ _ _, OwnV.nil _ _ _, fun k hk => by cases hk⟩, unhide hBF⟩
  · have hno : rdOk t = false := by
      cases e : rdOk t with
      | false => rfl
      | true => exact absurd (rdOk_in e).1 h49
    have ER := hide (show rdS t = ⟨0, [], []⟩ by unfold rdS; rw [hno]; rfl)
    rw [unhide ER, hno]
    have h49' : ¬ (t.size : Int) = 49 := by omega
    clear ER hno h49
    go_enter Try.func12, Try.ntmps12
    go_wp2
    obtain ⟨W, hW, hR, hB, hs1⟩ := one_cb w #[.int .i64 0, .slice none 0 0, .slice none 0 0] 28
    rw [hW]
    exact bodyPost_ret (results_cb_tmp (by exact Try.results12) _ _ _ _ _ _ rfl hR Try.underlying28 (by kernel_rfl)) rfl ⟨⟨_, rfl, _, _, rfl, OwnV.nil _ _ _, OwnV.nil _ _ _, fun k hk => by cases hk⟩, hB⟩
end Go.Proofs.Ytecononlghjepaw
