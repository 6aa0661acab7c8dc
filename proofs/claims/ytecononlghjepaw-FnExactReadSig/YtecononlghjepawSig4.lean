/- Keys of a tree by the given model: a signature that is read, over the loaded program. -/
import Derived.Test.YtecononlghjepawSig3
namespace Go.Proofs.Ytecononlghjepaw
open Go.RowKit
theorem cut16 (T : ByteArray) (i j : Nat) (w : World) (h1 : i ≤ j) (h2 : j ≤ T.size) : (Instr.slice 9 (.string T) (some (.int .i64 (i : Int))) (some (.int .i64 (j : Int))) none).run Try.prog w = .ok (.string (T.extract i j)) w := by
  rw [run_slice_string_if w 9 T .i64 .i64 (i : Int) (j : Int) Try.underlying9, if_pos (by omega), if_pos (by omega)]
  rfl
/-- The texts of the first k parts, and of those behind the tenth. -/
def onK (F : Nat → ByteArray) (k : Nat) : List ByteArray := (List.range (min k 10)).map F
def ptK (F : Nat → ByteArray) (k : Nat) : List ByteArray := (List.range (k - 10)).map fun i => F (10 + i)
theorem onK_succ (F : Nat → ByteArray) (k : Nat) (h : k < 10) : onK F (k + 1) = onK F k ++ [F k] := by
  unfold onK
  rw [Nat.min_eq_left (by omega), Nat.min_eq_left (by omega), List.range_succ, List.map_append]
  rfl
theorem onK_ten (F : Nat → ByteArray) (k : Nat) (h : 10 ≤ k) : onK F k = onK F 10 := by unfold onK; rw [Nat.min_eq_right h]; rfl
theorem onK_len (F : Nat → ByteArray) (k : Nat) : (onK F k).length ≤ 10 := by unfold onK; rw [List.length_map, List.length_range]; exact Nat.min_le_right _ _
theorem ptK_len (F : Nat → ByteArray) (k : Nat) (h : k ≤ 12) : (ptK F k).length ≤ 2 := by unfold ptK; rw [List.length_map, List.length_range]; omega
theorem ptK_succ (F : Nat → ByteArray) (k : Nat) (h : 10 ≤ k) : ptK F (k + 1) = ptK F k ++ [F k] := by
  unfold ptK
  rw [show k + 1 - 10 = (k - 10) + 1 by omega, List.range_succ, List.map_append]
  show _ ++ [F (10 + (k - 10))] = _
  rw [show 10 + (k - 10) = k by omega]
theorem ptK_low (F : Nat → ByteArray) (k : Nat) (h : k ≤ 10) : ptK F k = [] := by unfold ptK; rw [show k - 10 = 0 by omega]; rfl
set_option maxRecDepth 20000 in
set_option maxHeartbeats 1600000 in
theorem specReadSig_any (t : ByteArray) (w : World) :
    Calls Try.prog 11 #[.string t] w fun e w' => (∃ v, e = .returned (.tuple #[v, .bool (rdOk t)]) ∧ OwnSg w' w.heap.size v (rdS t)) ∧ Below w.heap.size w w' := by
  obtain ⟨i0, hi, hz0, hz1, hz2⟩ := info_parts infoTxt
  by_cases h49 : t.size = 49
  · have h49' : (t.size : Int) = 49 := by omega
    have hix : ∀ h : 0 < t.size, (t[0]'h).toNat = byA t 0 := fun h => byA_at t 0 h
    have hbl := byA_lt t 0
    obtain ⟨b, hb⟩ : ∃ b, b = byA t 0 := ⟨_, rfl⟩
    rw [← hb] at hix hbl
    have q0 : IntKind.i64.wrap (b : Int) = (b : Int) := by rw [IntKind.wrap_i64]; omega
    have h0s : 0 < t.size := by omega
    by_cases h4 : b < 4
    · have hin : rdIn t := ⟨h49, by omega⟩
      have ER := hide (show rdS t = ⟨(b : Int), onK (prtB t) 12, ptK (prtB t) 12⟩ by unfold rdS; rw [if_pos (rdOk_of hin), hb]; rfl)
      rw [unhide ER, rdOk_of hin]
      have HS := hide (fun k (hk : k < 12) W => cut16 t (1 + k * 4) (1 + (k + 1) * 4) W (by omega) (by omega))
      have HS2 := hide (fun k (hk : k < 12) W => show (Instr.slice 9 (.string t) (some (.int .i64 ((1 + k * 4 : Nat) : Int))) (some (.int .i64 ((1 + (k + 1) * 4 : Nat) : Int))) none).run Try.prog W = .ok (.string (prtB t k)) W from unhide HS k hk W)
      generalize prtB t = F at *
      have h4' : ¬ (4 : Int) ≤ (b : Int) := by omega
      have h4d : decide ((4 : Int) ≤ (b : Int)) = false := decide_eq_false h4'
      replace hb := hide hb
      clear HS ER hin
      go_enter Try.func11, Try.ntmps11
      go_wp2
      obtain ⟨W, hW, hR, hV, hB, hs⟩ := two_cb w #[.int .i64 0, .slice none 0 0, .slice none 0 0] #[.int .i64 (b : Int), .slice none 0 0, .slice none 0 0] 28 28
      rw [hW]
      clear hW
      go_loopw [5] (fun ti wr => ∃ (k base2 : Nat) (v1 v2 : Value), k ≤ 12 ∧ ti = .int .i64 (k : Int) ∧ Hid (CB wr w.heap.size 28 #[.int .i64 0, .slice none 0 0, .slice none 0 0]) ∧ Hid (CB wr (w.heap.size + 1) 28 #[.int .i64 (b : Int), v1, v2]) ∧ Hid (OwnV wr w.heap.size 9 v1 ((onK F k).map sv)) ∧ Hid (OwnV wr base2 9 v2 ((ptK F k).map sv)) ∧ Hid (w.heap.size ≤ base2 ∧ base2 ≤ wr.heap.size ∧ ∀ j, v1.ownBlock = some j → j < base2) ∧ Hid (k ≤ 10 → v2 = .slice none 0 0) ∧ Below w.heap.size w wr) (fun ti _ => 12 - (intOf ti).toNat)
      case atStart => exact ⟨0, W.heap.size, _, _, by omega, rfl, hide hR, hide hV, hide (OwnV.nil _ _ _), hide (OwnV.nil _ _ _), hide ⟨hB.size, Nat.le_refl _, fun j hj => by cases hj⟩, hide (fun _ => rfl), hB⟩
      case round =>
        clear hR hV hB hs W
        obtain ⟨k, base2, v1, v2, hk, rfl, HR, HV, H1, H2, HB2, HN, hB⟩ := hrel
        have hbw := hB.size
        by_cases hlt : k < 12
        · have hk' : (k : Int) < 12 := by omega
          obtain ⟨m, hm⟩ : ∃ m, m = k * 4 := ⟨_, rfl⟩
          obtain ⟨m1, hm1⟩ : ∃ m1, m1 = 1 + k * 4 := ⟨_, rfl⟩
          obtain ⟨kk, hkk⟩ : ∃ m, m = k + 1 := ⟨_, rfl⟩
          obtain ⟨m2, hm2⟩ : ∃ m, m = (k + 1) * 4 := ⟨_, rfl⟩
          obtain ⟨m3, hm3⟩ : ∃ m, m = 1 + (k + 1) * 4 := ⟨_, rfl⟩
          have t1 : IntKind.i64.wrap ((k : Int) * 4) = (m : Int) := by rw [IntKind.wrap_i64]; omega
          have t2 : IntKind.i64.wrap (1 + (m : Int)) = (m1 : Int) := by rw [IntKind.wrap_i64]; omega
          have t3 : IntKind.i64.wrap ((k : Int) + 1) = (kk : Int) := by rw [IntKind.wrap_i64]; omega
          have t4 : IntKind.i64.wrap ((kk : Int) * 4) = (m2 : Int) := by rw [IntKind.wrap_i64]; omega
          have t5 : IntKind.i64.wrap (1 + (m2 : Int)) = (m3 : Int) := by rw [IntKind.wrap_i64]; omega
          have hsl := unhide HS2 k hlt
          rw [← hm1, ← hm3] at hsl
          by_cases h10 : k < 10
          · have h10' : (k : Int) < 10 := by omega
            have hv2 := unhide HN (by omega)
            subst hv2
            have HP := hide (onK_succ F k h10)
            have hpl : ((onK F k).map sv).length ≤ 1000 := by rw [List.length_map]; have := onK_len F k; omega
            have HQ := hide (show ptK F (k + 1) = [] from ptK_low F _ (by omega))
            obtain ⟨x, hx⟩ : ∃ x, x = F k := ⟨_, rfl⟩
            rw [← hx] at hsl HP
            have p1 := (unhide HV).cell 1 (v := v1) rfl
            replace hm := hide hm; replace hm1 := hide hm1; replace hkk := hide hkk; replace hm2 := hide hm2; replace hm3 := hide hm3; replace hx := hide hx; replace hpl := hide hpl
            clear HS2
            have off1 := hide ((unhide HV).off (unhide H1) (by decide))
            have off0 := hide ((unhide HR).off (unhide H1) (by decide))
            go_wp2_with (at_builtin; refine wpList_append_grow (w := wr) rfl (.tmp 37) (.tmp 39) 22 rfl w.heap.size 9 i0 (.string ⟨#[]⟩) 16 Try.underlying22 hi hz0 hz1 hz2 rfl v1 _ rfl (unhide H1) (.string x) rfl rfl (by have := unhide hpl; unfold maxLen; omega) (by have := unhide hpl; omega) hbw ?_; intro v' w' ho' hG; have hV2 := ((unhide HV).alloc (.cells #[.string x] 9)).grown hG (unhide off1); have hR2 := ((unhide HR).alloc (.cells #[.string x] 9)).grown hG (unhide off0); have hB2 := (hB.alloc hbw (.cells #[.string x] 9)).grown hG (by simp; omega) (fun j hj => ((unhide H1).lt j hj).1); obtain ⟨a', c', rfl⟩ := ho'.shape; generalize ((onK F k).map sv ++ [Value.string x]).length = n at *; have c1 := hV2.cell 1 (v := v1) rfl; have f1 := hV2.frozen 1)
            have hP2 : (onK F k).map sv ++ [.string x] = (onK F (k + 1)).map sv := by rw [unhide HP, List.map_append]; rfl
            rw [hP2] at ho'
            have o9 := hide (ho'.setO (w.heap.size + 1) 1 (.slice a' n c') (hV2.off ho' (by decide)))
            have V9 := hide (hV2.set 1 (.slice a' n c'))
            have R9 := hide (hR2.set_other (h := w.heap.size + 1) (k := 1) (by omega) (.slice a' n c'))
            have B9 := hB2.setCell (p := ⟨w.heap.size + 1, 1, none⟩) (by simp) (.slice a' n c')
            have lo9 := hide (fun j (hj : (Value.slice a' n c').ownBlock = some j) => ((unhide o9).lt j hj).2)
            exact ⟨⟨k + 1, (w'.setCell ⟨w.heap.size + 1, 1, none⟩ (.slice a' n c')).heap.size, .slice a' n c', .slice none 0 0, by omega, by rw [unhide hkk], R9, V9, o9, hide (by rw [unhide HQ]; exact OwnV.nil _ _ _), hide ⟨B9.size, Nat.le_refl _, unhide lo9⟩, hide (fun _ => rfl), B9⟩, by simp [intOf]; have := unhide hkk; omega⟩
          · have h10' : ¬ (k : Int) < 10 := by omega
            have HP := hide (ptK_succ F k (by omega))
            have hpl : ((ptK F k).map sv).length ≤ 1000 := by rw [List.length_map]; have := ptK_len F k (by omega); omega
            have HQ := hide (show onK F (k + 1) = onK F k by rw [onK_ten F _ (by omega), onK_ten F k (by omega)])
            obtain ⟨x, hx⟩ : ∃ x, x = F k := ⟨_, rfl⟩
            rw [← hx] at hsl HP
            have p2 := (unhide HV).cell 2 (v := v2) rfl
            have hb2 := (unhide HB2).2.1
            replace hm := hide hm; replace hm1 := hide hm1; replace hkk := hide hkk; replace hm2 := hide hm2; replace hm3 := hide hm3; replace hx := hide hx; replace hpl := hide hpl
            clear HS2
            have off1 := hide ((unhide HV).off (unhide H2) (by decide))
            have off0 := hide ((unhide HR).off (unhide H2) (by decide))
            have ap := hide (show ∀ j, v1.ownBlock = some j → v2.ownBlock ≠ some j from fun j hj hj2 => by
              have h1 := (unhide HB2).2.2 j hj
              have h2 := ((unhide H2).lt j hj2).1
              omega)
            go_wp2_with (at_builtin; refine wpList_append_grow (w := wr) rfl (.tmp 43) (.tmp 45) 22 rfl base2 9 i0 (.string ⟨#[]⟩) 16 Try.underlying22 hi hz0 hz1 hz2 rfl v2 _ rfl (unhide H2) (.string x) rfl rfl (by have := unhide hpl; unfold maxLen; omega) (by have := unhide hpl; omega) hb2 ?_; intro v' w' ho' hG; have hV2 := ((unhide HV).alloc (.cells #[.string x] 9)).grown hG (unhide off1); have hR2 := ((unhide HR).alloc (.cells #[.string x] 9)).grown hG (unhide off0); have hB2 := (hB.alloc hbw (.cells #[.string x] 9)).grown hG (by simp; omega) (fun j hj => Nat.le_trans (unhide HB2).1 ((unhide H2).lt j hj).1); have ho1 := hide (((unhide H1).alloc (.cells #[.string x] 9)).grown hG (fun j hj e => unhide ap j hj e)); have hsz2 := hG.size; obtain ⟨a', c', rfl⟩ := ho'.shape; generalize ((ptK F k).map sv ++ [Value.string x]).length = n at *; have c2 := hV2.cell 2 (v := v2) rfl; have f2 := hV2.frozen 2)
            have hP2 : (ptK F k).map sv ++ [.string x] = (ptK F (k + 1)).map sv := by rw [unhide HP, List.map_append]; rfl
            rw [hP2] at ho'
            have o9 := hide (ho'.setO (w.heap.size + 1) 2 (.slice a' n c') (hV2.off ho' (by decide)))
            have o8 := hide ((unhide ho1).setO (w.heap.size + 1) 2 (.slice a' n c') (hV2.off (unhide ho1) (by decide)))
            have V9 := hide (hV2.set 2 (.slice a' n c'))
            have R9 := hide (hR2.set_other (h := w.heap.size + 1) (k := 2) (by omega) (.slice a' n c'))
            have B9 := hB2.setCell (p := ⟨w.heap.size + 1, 2, none⟩) (by simp) (.slice a' n c')
            have hs9 : base2 ≤ (w'.setCell ⟨w.heap.size + 1, 2, none⟩ (.slice a' n c')).heap.size := by simp at hsz2 ⊢; omega
            exact ⟨⟨k + 1, base2, v1, .slice a' n c', by omega, by rw [unhide hkk], R9, V9, hide (by rw [unhide HQ]; exact unhide o8), o9, hide ⟨(unhide HB2).1, hs9, (unhide HB2).2.2⟩, hide (fun h => absurd h (by omega)), B9⟩, by simp [intOf]; have := unhide hkk; omega⟩
        · have hk' : ¬ (k : Int) < 12 := by omega
          obtain rfl : k = 12 := by omega
          have s1 := (unhide H1).shape
          have s2 := (unhide H2).shape
          obtain ⟨a1, c1, rfl⟩ := s1
          obtain ⟨a2, c2, rfl⟩ := s2
          generalize ((onK F 12).map sv).length = n1 at *
          generalize ((ptK F 12).map sv).length = n2 at *
          have of1 := hide ((unhide HR).off (unhide H1) (by decide))
          have of2 := hide ((unhide HR).off (unhide H2) (by decide))
          have p0 := (unhide HV).cell 0 (v := .int .i64 (b : Int)) rfl
          have p1 := (unhide HV).cell 1 (v := .slice a1 n1 c1) rfl
          have p2 := (unhide HV).cell 2 (v := .slice a2 n2 c2) rfl
          have r0 := (unhide HR).cell 0 (v := .int .i64 0) rfl
          have r1 := (unhide HR).cell 1 (v := .slice none 0 0) rfl
          have r2 := (unhide HR).cell 2 (v := .slice none 0 0) rfl
          have g0 := (unhide HR).frozen 0
          have g1 := (unhide HR).frozen 1
          have g2 := (unhide HR).frozen 2
          have ap := hide (show ∀ j, (Value.slice a1 n1 c1).ownBlock = some j → (Value.slice a2 n2 c2).ownBlock ≠ some j from fun j hj hj2 => by
            have h1 := (unhide HB2).2.2 j hj
            have h2 := ((unhide H2).lt j hj2).1
            omega)
          clear HS2
          go_wp2
          have hF := hide ((((unhide HR).set 0 (.int .i64 (b : Int))).set 1 (.slice a1 n1 c1)).set 2 (.slice a2 n2 c2))
          have hBF := hide (((hB.setCell (p := ⟨w.heap.size, 0, none⟩) (Nat.le_refl _) (.int .i64 (b : Int))).setCell (p := ⟨w.heap.size, 1, none⟩) (Nat.le_refl _) (.slice a1 n1 c1)).setCell (p := ⟨w.heap.size, 2, none⟩) (Nat.le_refl _) (.slice a2 n2 c2))
          have o6 := hide ((((unhide H1).setO w.heap.size 0 (.int .i64 (b : Int)) (unhide of1)).setO w.heap.size 1 (.slice a1 n1 c1) (unhide of1)).setO w.heap.size 2 (.slice a2 n2 c2) (unhide of1))
          have o7 := hide ((((unhide H2).setO w.heap.size 0 (.int .i64 (b : Int)) (unhide of2)).setO w.heap.size 1 (.slice a1 n1 c1) (unhide of2)).setO w.heap.size 2 (.slice a2 n2 c2) (unhide of2))
          exact bodyPost_ret (results_cb_tmp (by exact Try.results11) _ _ _ _ _ _ rfl (unhide hF) Try.underlying28 (by kernel_rfl)) rfl ⟨⟨_, rfl, _, _, rfl, unhide o6, (unhide o7).low (unhide HB2).1, unhide ap⟩, unhide hBF⟩
    · have hno : rdOk t = false := by
        cases e : rdOk t with
        | false => rfl
        | true => exact absurd (rdOk_in e).2 (by rw [← hb]; exact h4)
      have ER := hide (show rdS t = ⟨0, [], []⟩ by unfold rdS; rw [hno]; rfl)
      rw [unhide ER, hno]
      have h4' : (4 : Int) ≤ (b : Int) := by omega
      have h4d : decide ((4 : Int) ≤ (b : Int)) = true := decide_eq_true h4'
      replace hb := hide hb
      clear ER hno
      go_enter Try.func11, Try.ntmps11
      go_wp2
      obtain ⟨W, hW, hR, hB, hs1⟩ := one_cb w #[.int .i64 0, .slice none 0 0, .slice none 0 0] 28
      rw [hW]
      exact bodyPost_ret (results_cb_tmp (by exact Try.results11) _ _ _ _ _ _ rfl hR Try.underlying28 (by kernel_rfl)) rfl ⟨⟨_, rfl, _, _, rfl, OwnV.nil _ _ _, OwnV.nil _ _ _, fun k hk => by cases hk⟩, hB⟩
  · have hno : rdOk t = false := by
      cases e : rdOk t with
      | false => rfl
      | true => exact absurd (rdOk_in e).1 h49
    have ER := hide (show rdS t = ⟨0, [], []⟩ by unfold rdS; rw [hno]; rfl)
    rw [unhide ER, hno]
    have h49' : ¬ (t.size : Int) = 49 := by omega
    clear ER hno h49
    go_enter Try.func11, Try.ntmps11
    go_wp2
    obtain ⟨W, hW, hR, hB, hs1⟩ := one_cb w #[.int .i64 0, .slice none 0 0, .slice none 0 0] 28
    rw [hW]
    exact bodyPost_ret (results_cb_tmp (by exact Try.results11) _ _ _ _ _ _ rfl hR Try.underlying28 (by kernel_rfl)) rfl ⟨⟨_, rfl, _, _, rfl, OwnV.nil _ _ _, OwnV.nil _ _ _, fun k hk => by cases hk⟩, hB⟩
end Go.Proofs.Ytecononlghjepaw
