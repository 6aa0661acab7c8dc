/- Merged: Sig4, LawSig, DrawT, DrawN, DrawH, DrawY, DrawV, DrawG, Pik9, DrSig, LawOn1. -/
import Derived.Test.YtjgnjjphankhnaaMga1
import Derived.Test.YtjgnjjphankhnaaMga2
import Derived.Test.YtjgnjjphankhnaaMga3
import Derived.Test.YtjgnjjphankhnaaMga4
import Derived.Test.YtjgnjjphankhnaaMga5
import Derived.Test.YtjgnjjphankhnaaMga6
import Derived.Test.YtjgnjjphankhnaaMga7
import Derived.Test.YtjgnjjphankhnaaMga8
import Derived.Test.YtjgnjjphankhnaaMga9
import Derived.Test.YtjgnjjphankhnaaMga10
import Derived.Test.YtjgnjjphankhnaaMga11
/- Keys of a tree by the given model: a signature that is read, over the loaded program. -/
namespace Go.Proofs.Ytjgnjjphankhnaa
open Go.RowKit
theorem cut16 (T : ByteArray) (i j : Nat) (w : World) (h1 : i ≤ j) (h2 : j ≤ T.size) : (Instr.slice 9 (.string T) (some (.int .i64 (i : Int))) (some (.int .i64 (j : Int))) none).run Try.prog w = .ok (.string (T.extract i j)) w := by
  rw [run_slice_string_if w 9 T .i64 .i64 (i : Int) (j : Int) Try.underlying9, if_pos (by omega), if_pos (by omega)]
  rfl
/-- The texts of the first k parts, and of those behind the tenth. -/
def onK (F : Nat → ByteArray) (k : Nat) : List ByteArray := (List.range (min k 10)).map F
def ptK (F : Nat → ByteArray) (k : Nat) : List ByteArray := (List.range (k - 10)).map fun i => F (10 + i)
theorem onK_succ (F : Nat → ByteArray) (k : Nat) (h : k < 10) : onK F (k + 1) = onK F k ++ [F k] := by
  unfold onK
  rw [Nat.min_eq_left (by omega), Nat.min_eq_left (by omega), List.range_succ, List.map_append]
  rfl
theorem onK_ten (F : Nat → ByteArray) (k : Nat) (h : 10 ≤ k) : onK F k = onK F 10 := by unfold onK; rw [Nat.min_eq_right h]; rfl
theorem onK_len (F : Nat → ByteArray) (k : Nat) : (onK F k).length ≤ 10 := by unfold onK; rw [List.length_map, List.length_range]; exact Nat.min_le_right _ _
theorem ptK_len (F : Nat → ByteArray) (k : Nat) (h : k ≤ 12) : (ptK F k).length ≤ 2 := by unfold ptK; rw [List.length_map, List.length_range]; omega
theorem ptK_succ (F : Nat → ByteArray) (k : Nat) (h : 10 ≤ k) : ptK F (k + 1) = ptK F k ++ [F k] := by
  unfold ptK
  rw [show k + 1 - 10 = (k - 10) + 1 by omega, List.range_succ, List.map_append]
  show _ ++ [F (10 + (k - 10))] = _
  rw [show 10 + (k - 10) = k by omega]
theorem ptK_low (F : Nat → ByteArray) (k : Nat) (h : k ≤ 10) : ptK F k = [] := by unfold ptK; rw [show k - 10 = 0 by omega]; rfl
set_option maxRecDepth 20000 in
set_option maxHeartbeats 1600000 in
theorem specReadSig_any (t : ByteArray) (w : World) :
    Calls Try.prog 15 #[.string t] w fun e w' => (∃ v, e = .returned (.tuple #[v, .bool (rdOk t)]) ∧ OwnSg w' w.heap.size v (rdS t)) ∧ Below w.heap.size w w' := by
  obtain ⟨i0, hi, hz0, hz1, hz2⟩ := info_parts infoTxt
  by_cases h49 : t.size = 49
  · have h49' : (t.size : Int) = 49 := by omega
    have hix : ∀ h : 0 < t.size, (t[0]'h).toNat = byA t 0 := fun h => byA_at t 0 h
    have hbl := byA_lt t 0
    obtain ⟨b, hb⟩ : ∃ b, b = byA t 0 := ⟨_, rfl⟩
    rw [← hb] at hix hbl
    have q0 : IntKind.i64.wrap (b : Int) = (b : Int) := by rw [IntKind.wrap_i64]; omega
    have h0s : 0 < t.size := by omega
    by_cases h4 : b < 4
    · have hin : rdIn t := ⟨h49, by omega⟩
      have ER := hide (show rdS t = ⟨(b : Int), onK (prtB t) 12, ptK (prtB t) 12⟩ by unfold rdS; rw [if_pos (rdOk_of hin), hb]; rfl)
      rw [unhide ER, rdOk_of hin]
      have HS := hide (fun k (hk : k < 12) W => cut16 t (1 + k * 4) (1 + (k + 1) * 4) W (by omega) (by omega))
      have HS2 := hide (fun k (hk : k < 12) W => show (Instr.slice 9 (.string t) (some (.int .i64 ((1 + k * 4 : Nat) : Int))) (some (.int .i64 ((1 + (k + 1) * 4 : Nat) : Int))) none).run Try.prog W = .ok (.string (prtB t k)) W from unhide HS k hk W)
      generalize prtB t = F at *
      have h4' : ¬ (4 : Int) ≤ (b : Int) := by omega
      have h4d : decide ((4 : Int) ≤ (b : Int)) = false := decide_eq_false h4'
      replace hb := hide hb
      clear HS ER hin
      go_enter Try.func15, Try.ntmps15
      go_wp2
      obtain ⟨W, hW, hR, hV, hB, hs⟩ := two_cb w #[.int .i64 0, .slice none 0 0, .slice none 0 0] #[.int .i64 (b : Int), .slice none 0 0, .slice none 0 0] 26 26
      rw [hW]
      clear hW
      go_loopw [5] (fun ti wr => ∃ (k base2 : Nat) (v1 v2 : Value), k ≤ 12 ∧ ti = .int .i64 (k : Int) ∧ Hid (CB wr w.heap.size 26 #[.int .i64 0, .slice none 0 0, .slice none 0 0]) ∧ Hid (CB wr (w.heap.size + 1) 26 #[.int .i64 (b : Int), v1, v2]) ∧ Hid (OwnV wr w.heap.size 9 v1 ((onK F k).map sv)) ∧ Hid (OwnV wr base2 9 v2 ((ptK F k).map sv)) ∧ Hid (w.heap.size ≤ base2 ∧ base2 ≤ wr.heap.size ∧ ∀ j, v1.ownBlock = some j → j < base2) ∧ Hid (k ≤ 10 → v2 = .slice none 0 0) ∧ Below w.heap.size w wr) (fun ti _ => 12 - (intOf ti).toNat)
      case atStart => exact ⟨0, W.heap.size, _, _, by omega, rfl, hide hR, hide hV, hide (OwnV.nil _ _ _), hide (OwnV.nil _ _ _), hide ⟨hB.size, Nat.le_refl _, fun j hj => by cases hj⟩, hide (fun _ => rfl), hB⟩
      case round =>
        clear hR hV hB hs W
        obtain ⟨k, base2, v1, v2, hk, rfl, HR, HV, H1, H2, HB2, HN, hB⟩ := hrel
        have hbw := hB.size
        by_cases hlt : k < 12
        · have hk' : (k : Int) < 12 := by omega
          obtain ⟨m, hm⟩ : ∃ m, m = k * 4 := ⟨_, rfl⟩
          obtain ⟨m1, hm1⟩ : ∃ m1, m1 = 1 + k * 4 := ⟨_, rfl⟩
          obtain ⟨kk, hkk⟩ : ∃ m, m = k + 1 := ⟨_, rfl⟩
          obtain ⟨m2, hm2⟩ : ∃ m, m = (k + 1) * 4 := ⟨_, rfl⟩
          obtain ⟨m3, hm3⟩ : ∃ m, m = 1 + (k + 1) * 4 := ⟨_, rfl⟩
          have t1 : IntKind.i64.wrap ((k : Int) * 4) = (m : Int) := by rw [IntKind.wrap_i64]; omega
          have t2 : IntKind.i64.wrap (1 + (m : Int)) = (m1 : Int) := by rw [IntKind.wrap_i64]; omega
          have t3 : IntKind.i64.wrap ((k : Int) + 1) = (kk : Int) := by rw [IntKind.wrap_i64]; omega
          have t4 : IntKind.i64.wrap ((kk : Int) * 4) = (m2 : Int) := by rw [IntKind.wrap_i64]; omega
          have t5 : IntKind.i64.wrap (1 + (m2 : Int)) = (m3 : Int) := by rw [IntKind.wrap_i64]; omega
          have hsl := unhide HS2 k hlt
          rw [← hm1, ← hm3] at hsl
          by_cases h10 : k < 10
          · have h10' : (k : Int) < 10 := by omega
            have hv2 := unhide HN (by omega)
            subst hv2
            have HP := hide (onK_succ F k h10)
            have hpl : ((onK F k).map sv).length ≤ 1000 := by rw [List.length_map]; have := onK_len F k; omega
            have HQ := hide (show ptK F (k + 1) = [] from ptK_low F _ (by omega))
            obtain ⟨x, hx⟩ : ∃ x, x = F k := ⟨_, rfl⟩
            rw [← hx] at hsl HP
            have p1 := (unhide HV).cell 1 (v := v1) rfl
            replace hm := hide hm; replace hm1 := hide hm1; replace hkk := hide hkk; replace hm2 := hide hm2; replace hm3 := hide hm3; replace hx := hide hx; replace hpl := hide hpl
            clear HS2
            have off1 := hide ((unhide HV).off (unhide H1) (by decide))
            have off0 := hide ((unhide HR).off (unhide H1) (by decide))
            go_wp2_with (at_builtin; refine wpList_append_grow (w := wr) rfl (.tmp 37) (.tmp 39) 24 rfl w.heap.size 9 i0 (.string ⟨#[]⟩) 16 Try.underlying24 hi hz0 hz1 hz2 rfl v1 _ rfl (unhide H1) (.string x) rfl rfl (by have := unhide hpl; unfold maxLen; omega) (by have := unhide hpl; omega) hbw ?_; intro v' w' ho' hG; have hV2 := ((unhide HV).alloc (.cells #[.string x] 9)).grown hG (unhide off1); have hR2 := ((unhide HR).alloc (.cells #[.string x] 9)).grown hG (unhide off0); have hB2 := (hB.alloc hbw (.cells #[.string x] 9)).grown hG (by simp; omega) (fun j hj => ((unhide H1).lt j hj).1); obtain ⟨a', c', rfl⟩ := ho'.shape; generalize ((onK F k).map sv ++ [Value.string x]).length = n at *; have c1 := hV2.cell 1 (v := v1) rfl; have f1 := hV2.frozen 1)
            have hP2 : (onK F k).map sv ++ [.string x] = (onK F (k + 1)).map sv := by rw [unhide HP, List.map_append]; rfl
            rw [hP2] at ho'
            have o9 := hide (ho'.setO (w.heap.size + 1) 1 (.slice a' n c') (hV2.off ho' (by decide)))
            have V9 := hide (hV2.set 1 (.slice a' n c'))
            have R9 := hide (hR2.set_other (h := w.heap.size + 1) (k := 1) (by omega) (.slice a' n c'))
            have B9 := hB2.setCell (p := ⟨w.heap.size + 1, 1, none⟩) (by simp) (.slice a' n c')
            have lo9 := hide (fun j (hj : (Value.slice a' n c').ownBlock = some j) => ((unhide o9).lt j hj).2)
            exact ⟨⟨k + 1, (w'.setCell ⟨w.heap.size + 1, 1, none⟩ (.slice a' n c')).heap.size, .slice a' n c', .slice none 0 0, by omega, by rw [unhide hkk], R9, V9, o9, hide (by rw [unhide HQ]; exact OwnV.nil _ _ _), hide ⟨B9.size, Nat.le_refl _, unhide lo9⟩, hide (fun _ => rfl), B9⟩, by simp [intOf]; have := unhide hkk; omega⟩
          · have h10' : ¬ (k : Int) < 10 := by omega
            have HP := hide (ptK_succ F k (by omega))
            have hpl : ((ptK F k).map sv).length ≤ 1000 := by rw [List.length_map]; have := ptK_len F k (by omega); omega
            have HQ := hide (show onK F (k + 1) = onK F k by rw [onK_ten F _ (by omega), onK_ten F k (by omega)])
            obtain ⟨x, hx⟩ : ∃ x, x = F k := ⟨_, rfl⟩
            rw [← hx] at hsl HP
            have p2 := (unhide HV).cell 2 (v := v2) rfl
            have hb2 := (unhide HB2).2.1
            replace hm := hide hm; replace hm1 := hide hm1; replace hkk := hide hkk; replace hm2 := hide hm2; replace hm3 := hide hm3; replace hx := hide hx; replace hpl := hide hpl
            clear HS2
            have off1 := hide ((unhide HV).off (unhide H2) (by decide))
            have off0 := hide ((unhide HR).off (unhide H2) (by decide))
            have ap := hide (show ∀ j, v1.ownBlock = some j → v2.ownBlock ≠ some j from fun j hj hj2 => by
              have h1 := (unhide HB2).2.2 j hj
              have h2 := ((unhide H2).lt j hj2).1
              omega)
            go_wp2_with (at_builtin; refine wpList_append_grow (w := wr) rfl (.tmp 43) (.tmp 45) 24 rfl base2 9 i0 (.string ⟨#[]⟩) 16 Try.underlying24 hi hz0 hz1 hz2 rfl v2 _ rfl (unhide H2) (.string x) rfl rfl (by have := unhide hpl; unfold maxLen; omega) (by have := unhide hpl; omega) hb2 ?_; intro v' w' ho' hG; have hV2 := ((unhide HV).alloc (.cells #[.string x] 9)).grown hG (unhide off1); have hR2 := ((unhide HR).alloc (.cells #[.string x] 9)).grown hG (unhide off0); have hB2 := (hB.alloc hbw (.cells #[.string x] 9)).grown hG (by simp; omega) (fun j hj => Nat.le_trans (unhide HB2).1 ((unhide H2).lt j hj).1); have ho1 := hide (((unhide H1).alloc (.cells #[.string x] 9)).grown hG (fun j hj e => unhide ap j hj e)); have hsz2 := hG.size; obtain ⟨a', c', rfl⟩ := ho'.shape; generalize ((ptK F k).map sv ++ [Value.string x]).length = n at *; have c2 := hV2.cell 2 (v := v2) rfl; have f2 := hV2.frozen 2)
            have hP2 : (ptK F k).map sv ++ [.string x] = (ptK F (k + 1)).map sv := by rw [unhide HP, List.map_append]; rfl
            rw [hP2] at ho'
            have o9 := hide (ho'.setO (w.heap.size + 1) 2 (.slice a' n c') (hV2.off ho' (by decide)))
            have o8 := hide ((unhide ho1).setO (w.heap.size + 1) 2 (.slice a' n c') (hV2.off (unhide ho1) (by decide)))
            have V9 := hide (hV2.set 2 (.slice a' n c'))
            have R9 := hide (hR2.set_other (h := w.heap.size + 1) (k := 2) (by omega) (.slice a' n c'))
            have B9 := hB2.setCell (p := ⟨w.heap.size + 1, 2, none⟩) (by simp) (.slice a' n c')
            have hs9 : base2 ≤ (w'.setCell ⟨w.heap.size + 1, 2, none⟩ (.slice a' n c')).heap.size := by simp at hsz2 ⊢; omega
            exact ⟨⟨k + 1, base2, v1, .slice a' n c', by omega, by rw [unhide hkk], R9, V9, hide (by rw [unhide HQ]; exact unhide o8), o9, hide ⟨(unhide HB2).1, hs9, (unhide HB2).2.2⟩, hide (fun h => absurd h (by omega)), B9⟩, by simp [intOf]; have := unhide hkk; omega⟩
        · have hk' : ¬ (k : Int) < 12 := by omega
          obtain rfl : k = 12 := by omega
          have s1 := (unhide H1).shape
          have s2 := (unhide H2).shape
          obtain ⟨a1, c1, rfl⟩ := s1
          obtain ⟨a2, c2, rfl⟩ := s2
          generalize ((onK F 12).map sv).length = n1 at *
          generalize ((ptK F 12).map sv).length = n2 at *
          have of1 := hide ((unhide HR).off (unhide H1) (by decide))
          have of2 := hide ((unhide HR).off (unhide H2) (by decide))
          have p0 := (unhide HV).cell 0 (v := .int .i64 (b : Int)) rfl
          have p1 := (unhide HV).cell 1 (v := .slice a1 n1 c1) rfl
          have p2 := (unhide HV).cell 2 (v := .slice a2 n2 c2) rfl
          have r0 := (unhide HR).cell 0 (v := .int .i64 0) rfl
          have r1 := (unhide HR).cell 1 (v := .slice none 0 0) rfl
          have r2 := (unhide HR).cell 2 (v := .slice none 0 0) rfl
          have g0 := (unhide HR).frozen 0
          have g1 := (unhide HR).frozen 1
          have g2 := (unhide HR).frozen 2
          have ap := hide (show ∀ j, (Value.slice a1 n1 c1).ownBlock = some j → (Value.slice a2 n2 c2).ownBlock ≠ some j from fun j hj hj2 => by
            have h1 := (unhide HB2).2.2 j hj
            have h2 := ((unhide H2).lt j hj2).1
            omega)
          clear HS2
          go_wp2
          have hF := hide ((((unhide HR).set 0 (.int .i64 (b : Int))).set 1 (.slice a1 n1 c1)).set 2 (.slice a2 n2 c2))
          have hBF := hide (((hB.setCell (p := ⟨w.heap.size, 0, none⟩) (Nat.le_refl _) (.int .i64 (b : Int))).setCell (p := ⟨w.heap.size, 1, none⟩) (Nat.le_refl _) (.slice a1 n1 c1)).setCell (p := ⟨w.heap.size, 2, none⟩) (Nat.le_refl _) (.slice a2 n2 c2))
          have o6 := hide ((((unhide H1).setO w.heap.size 0 (.int .i64 (b : Int)) (unhide of1)).setO w.heap.size 1 (.slice a1 n1 c1) (unhide of1)).setO w.heap.size 2 (.slice a2 n2 c2) (unhide of1))
          have o7 := hide ((((unhide H2).setO w.heap.size 0 (.int .i64 (b : Int)) (unhide of2)).setO w.heap.size 1 (.slice a1 n1 c1) (unhide of2)).setO w.heap.size 2 (.slice a2 n2 c2) (unhide of2))
          exact bodyPost_ret (results_cb_tmp (by exact Try.results15) _ _ _ _ _ _ rfl (unhide hF) Try.underlying26 (by kernel_rfl)) rfl ⟨⟨_, rfl, _, _, rfl, unhide o6, (unhide o7).low (unhide HB2).1, unhide ap⟩, unhide hBF⟩
    · have hno : rdOk t = false := by
        cases e : rdOk t with
        | false => rfl
        | true => exact absurd (rdOk_in e).2 (by rw [← hb]; exact h4)
      have ER := hide (show rdS t = ⟨0, [], []⟩ by unfold rdS; rw [hno]; rfl)
      rw [unhide ER, hno]
      have h4' : (4 : Int) ≤ (b : Int) := by omega
      have h4d : decide ((4 : Int) ≤ (b : Int)) = true := decide_eq_true h4'
      replace hb := hide hb
      clear ER hno
      go_enter Try.func15, Try.ntmps15
      go_wp2
      obtain ⟨W, hW, hR, hB, hs1⟩ := one_cb w #[.int .i64 0, .slice none 0 0, .slice none 0 0] 26
      rw [hW]
      exact bodyPost_ret (results_cb_tmp (by exact Try.results15) _ _ _ _ _ _ rfl hR Try.underlying26 (by kernel_rfl)) rfl ⟨⟨_, rfl, _, _, rfl, OwnV.nil _ _ _, OwnV.nil _ _ _, fun k hk => by cases hk⟩, hB⟩
  · have hno : rdOk t = false := by
      cases e : rdOk t with
      | false => rfl
      | true => exact absurd (rdOk_in e).1 h49
    have ER := hide (show rdS t = ⟨0, [], []⟩ by unfold rdS; rw [hno]; rfl)
    rw [unhide ER, hno]
    have h49' : ¬ (t.size : Int) = 49 := by omega
    clear ER hno h49
    go_enter Try.func15, Try.ntmps15
    go_wp2
    obtain ⟨W, hW, hR, hB, hs1⟩ := one_cb w #[.int .i64 0, .slice none 0 0, .slice none 0 0] 26
    rw [hW]
    exact bodyPost_ret (results_cb_tmp (by exact Try.results15) _ _ _ _ _ _ rfl hR Try.underlying26 (by kernel_rfl)) rfl ⟨⟨_, rfl, _, _, rfl, OwnV.nil _ _ _, OwnV.nil _ _ _, fun k hk => by cases hk⟩, hB⟩
end Go.Proofs.Ytjgnjjphankhnaa

/- The laws FnExactSignAt, FnExactReadSig, walked over the loaded program; what the project's functions answer are premises. -/
namespace Go.Proofs.Ytjgnjjphankhnaa
open Go.RowKit
theorem MkSg.low {w w' : World} {base B : Nat} {v : Value} {s : Sg} (h : MkSg w base v s) (hb : Below B w w') (hB : w.heap.size ≤ B) : MkSg w' base v s := h.below (hb.mono hB)
theorem OwnSg.belowAt {w w' : World} {base B : Nat} {v : Value} {s : Sg} (h : OwnSg w base v s) (hb : Below B w w') (hB : w.heap.size ≤ B) : OwnSg w' base v s := h.below (hb.mono hB)
set_option maxRecDepth 20000 in
set_option maxHeartbeats 1600000 in
theorem lawSignAt_any (s m : ByteArray) (leaf : Int) (CI : s.size ≤ 1048576 → m.size ≤ 1048576 → ∀ W : World, Calls Try.prog 27 #[.string s, .int .i64 leaf, .string m] W fun e w' => (∃ v, e = .returned (.tuple #[v, .bool (decide (0 ≤ leaf ∧ leaf ≤ 3))]) ∧ OwnSg w' W.heap.size v (sgnS s leaf m)) ∧ Below W.heap.size W w') (w : World) :
    Calls Try.prog 6 #[.string s, .int .i64 leaf, .string m] w fun x w' => x = .returned (.bool true) ∧ Below w.heap.size w w' := by
  by_cases h1 : (1048576 : Int) < (s.size : Int)
  · go_enter Try.func6, Try.ntmps6
    go_wp2
    go_ret
    exact ⟨rfl, Below.refl _ _⟩
  by_cases h2 : (1048576 : Int) < (m.size : Int)
  · go_enter Try.func6, Try.ntmps6
    go_wp2
    go_ret
    exact ⟨rfl, Below.refl _ _⟩
  have CS := hide (fun W => specSignAt_any s leaf m (by omega) (by omega) W)
  replace CI := hide (CI (by omega) (by omega))
  have hl1 : (sgnS s leaf m).once.length ≤ 10 := by
    unfold sgnS
    split
    · exact Nat.le_of_eq (onceS_len _ _ _ (keysO_len _ _))
    · exact Nat.zero_le _
  have hl2 : (sgnS s leaf m).path.length ≤ 2 := by
    unfold sgnS
    split
    next h => exact Nat.le_of_eq (pathL_len _ _ (lvsO_len _) h)
    · exact Nat.zero_le _
  generalize (sgnS s leaf m) = S at *
  generalize (decide (0 ≤ leaf ∧ leaf ≤ 3)) = ok at *
  have CE := hide (fun (W : World) (v u : Value) (hv : RdSg W v S) (hu : RdSg W u S) => eqSig_any S v u W hv hu (by omega) (by omega))
  obtain ⟨M, hM⟩ : ∃ M, M = 1 + S.once.length + S.path.length := ⟨_, rfl⟩
  have CM := hide (fun (W W0 : World) (base : Nat) (v : Value) (ho : OwnSg W base v S) (hb : Below base W0 W) (hbw : base ≤ W.heap.size) => markSig_any S v base M W W0 hM ho hb hbw (by omega) (by omega))
  have CH := hide (fun (W : World) (base : Nat) (v : Value) (ho : MkSg W base v S) => heldSig_any S v base M W hM ho (by omega) (by omega))
  have hM0 : ¬ (M : Int) < 0 := by omega
  replace hM := hide hM; replace hl1 := hide hl1; replace hl2 := hide hl2
  go_enter Try.func6, Try.ntmps6
  go_wp2_with fail
  refine (unhide CS w).mono ?_
  rintro e w1 ⟨⟨v0, rfl, o0⟩, hb0⟩
  obtain ⟨a1, n1, c1, a2, n2, c2, rfl⟩ := o0.open
  replace o0 := hide o0
  clear CS
  go_wp2_with fail
  obtain ⟨W1, hW, P7, hB1, hs1⟩ := one_cb w1 #[.int .i64 S.leaf, .slice a1 n1 c1, .slice a2 n2 c2] 26
  rw [hW]
  clear hW
  have o0' := hide ((unhide o0).below hB1)
  have o0w := hide (unhide o0')
  have T1 := hb0.trans (hB1.mono hb0.size)
  clear o0 hb0 hB1
  refine (unhide CI W1).mono ?_
  rintro e w2 ⟨⟨v9, rfl, o9⟩, hb2⟩
  obtain ⟨a3, n3, c3, a4, n4, c4, rfl⟩ := o9.open
  have P7' := P7.step hb2
  have q0 := hide ((unhide o0').below hb2)
  replace o9 := hide o9
  have p0 := P7'.cell 0 (v := .int .i64 S.leaf) rfl
  have p1 := P7'.cell 1 (v := .slice a1 n1 c1) rfl
  have p2 := P7'.cell 2 (v := .slice a2 n2 c2) rfl
  have l7 := P7'.lt
  have hs2 := hb2.size
  have T2 := T1.trans (hb2.mono T1.size)
  clear o0'
  go_wp2_with fail
  obtain ⟨W2, hW, P9, hB2, hs3⟩ := one_cb w2 #[.int .i64 S.leaf, .slice a3 n3 c3, .slice a4 n4 c4] 26
  rw [hW]
  clear hW p0 p1 p2 l7
  have hs4 := hB2.size
  have T3 := T2.trans (hB2.mono T2.size)
  have Q3 := hb2.trans (hB2.mono hs2)
  have r9 := hide ((unhide o9).below hB2)
  have r0 := hide ((unhide q0).below hB2)
  have P7a := P7'.step hB2
  clear o9 q0 hB2 P7 P7' hb2
  refine (unhide CE W2 _ _ (unhide r9).rd (unhide r0).rd).mono ?_
  rintro e w3 ⟨rfl, hb3⟩
  have T4 := T3.trans (hb3.mono T3.size)
  have Q4 := Q3.trans (hb3.mono Q3.size)
  have s9 := hide ((unhide r9).below hb3)
  have s0 := hide ((unhide r0).below hb3)
  have P7b := P7a.step hb3
  have P9b := P9.step hb3
  have p0 := P9b.cell 0 (v := .int .i64 S.leaf) rfl
  have p1 := P9b.cell 1 (v := .slice a3 n3 c3) rfl
  have p2 := P9b.cell 2 (v := .slice a4 n4 c4) rfl
  have hs5 := Q4.size
  clear r9 r0 P7a P9 hb3 T3 Q3
  go_wp2_with fail
  refine (unhide CM w3 W1 W1.heap.size _ (unhide s9) Q4 hs5).mono ?_
  rintro e w4 ⟨rfl, mk4, Q5, KC⟩
  have P7c := KC _ _ _ P7b (by decide)
  have P9c := KC _ _ _ P9b (by decide)
  have T5 := T1.trans (Q5.mono T1.size)
  have x0 := hide (((unhide o0w).belowAt Q5 (Nat.le_refl _)))
  replace mk4 := hide mk4
  have p0 := P9c.cell 0 (v := .int .i64 S.leaf) rfl
  have p1 := P9c.cell 1 (v := .slice a3 n3 c3) rfl
  have p2 := P9c.cell 2 (v := .slice a4 n4 c4) rfl
  clear KC P7b P9b Q4 T4 s9 s0 CM
  go_wp2_with fail
  refine (unhide CH w4 _ _ (unhide mk4)).mono ?_
  rintro e w5 ⟨rfl, hb5⟩
  have T6 := T5.trans (hb5.mono T5.size)
  have mk5 := hide ((unhide mk4).below hb5)
  have y0 := hide ((unhide x0).below hb5)
  have P7d := P7c.step hb5
  have P9d := P9c.step hb5
  clear hb5 mk4 x0 P7c P9c T5 Q5 p0 p1 p2
  go_wp2_with fail
  refine (unhide CI w5).mono ?_
  rintro e w6 ⟨⟨v13, rfl, o13⟩, hb6⟩
  obtain ⟨a5, n5, c5, a6, n6, c6, rfl⟩ := o13.open
  have T7 := T6.trans (hb6.mono T6.size)
  have mk6 := hide ((unhide mk5).below hb6)
  have z0 := hide ((unhide y0).below hb6)
  have P7e := P7d.step hb6
  have P9e := P9d.step hb6
  have p0 := P7e.cell 0 (v := .int .i64 S.leaf) rfl
  have p1 := P7e.cell 1 (v := .slice a1 n1 c1) rfl
  have p2 := P7e.cell 2 (v := .slice a2 n2 c2) rfl
  have l7 := P7e.lt
  replace o13 := hide o13
  clear hb6 mk5 y0 P7d P9d T6 CI
  go_wp2_with fail
  obtain ⟨W6, hW, P13, hB6, hs6⟩ := one_cb w6 #[.int .i64 S.leaf, .slice a5 n5 c5, .slice a6 n6 c6] 26
  rw [hW]
  clear hW p0 p1 p2 l7
  have T8 := T7.trans (hB6.mono T7.size)
  have u13 := hide ((unhide o13).below hB6)
  have u0 := hide ((unhide z0).below hB6)
  have mk7 := hide ((unhide mk6).below hB6)
  have P9f := P9e.step hB6
  clear o13 z0 mk6 P9e P7e hB6 T7
  refine (unhide CE W6 _ _ (unhide u13).rd (unhide u0).rd).mono ?_
  rintro e w7 ⟨rfl, hb7⟩
  have T9 := T8.trans (hb7.mono T8.size)
  have mk8 := hide ((unhide mk7).below hb7)
  have P9g := P9f.step hb7
  have p0 := P9g.cell 0 (v := .int .i64 S.leaf) rfl
  have p1 := P9g.cell 1 (v := .slice a3 n3 c3) rfl
  have p2 := P9g.cell 2 (v := .slice a4 n4 c4) rfl
  clear hb7 mk7 P9f P13 T8 u13 u0 CE
  go_wp2_with fail
  refine (unhide CH w7 _ _ (unhide mk8)).mono ?_
  rintro e w8 ⟨rfl, hb8⟩
  have TF := T9.trans (hb8.mono T9.size)
  clear hb8 mk8 P9g T9 CH p0 p1 p2
  go_wp2
  go_ret
  exact ⟨rfl, TF⟩

end Go.Proofs.Ytjgnjjphankhnaa

/- What big, DrawSumOf and DrawPlaces come to: some text of fewer than 40 bytes; twelve numbers below 10000. -/
namespace Go.Proofs.Ytjgnjjphankhnaa
open Go.RowKit

set_option maxRecDepth 20000 in
set_option maxHeartbeats 400000 in
theorem big_any (w : World) (o : Option Addr) (n c : Nat) :
    Calls Try.prog 7 #[.slice o n c] w fun e w' => e = .returned (.bool (decide ((1048576 : Int) < (n : Int)))) ∧ w' = w := by
  go_enter Try.func7, Try.ntmps7
  go_wp2
  go_ret
  exact ⟨rfl, rfl⟩


theorem Try.infoIC : (Try.prog.info? 3).map (fun i => (i.zero, i.size, i.bytes)) = some (some (.int .i64 0), 1, 8) := by kernel_rfl

def ints (xs : List Nat) : List Value := xs.map fun (x : Nat) => Value.int .i64 (x : Int)


end Go.Proofs.Ytjgnjjphankhnaa

/- More draws by contracts: once in so many times, one of a list of numbers, many bytes of one kind, a number, a text. -/
namespace Go.Proofs.Ytjgnjjphankhnaa
open Go.RowKit

set_option maxRecDepth 20000 in
set_option maxHeartbeats 400000 in
theorem l01Once_any {w : World} {base g n c : Nat} {o : Option Addr} (h : Cur w base g o n c) (hn : n ≤ 1048576) (m : Nat) (hm : 0 < m) (hm2 : m ≤ 4294967296) :
    Calls Try.prog 33 #[.pointer (some ⟨g, 0, none⟩), .int .i64 (m : Int)] w fun e w' => ∃ b : Bool, e = .returned (.bool b) ∧ Only g w w' ∧ Cur w' base g o n c := by
  have H := hide h
  clear h
  go_enter Try.func33, Try.ntmps33
  go_wp2_with (go_at_call 61; refine (l01Below_any (unhide H) hn m hm hm2).mono ?_; rintro e w1 ⟨x, hx, rfl, ho, hc⟩; replace hc := hide hc)
  go_ret
  exact ⟨_, rfl, ho, unhide hc⟩

/-- A row of numbers in block b. -/
def Nums (w : World) (b k : Nat) : Prop := ∀ j, j < k → ∃ z : Int, -9223372036854775808 ≤ z ∧ z ≤ 9223372036854775807 ∧ w.cell? ⟨b, j, none⟩ = some (.int .i64 z)

set_option maxRecDepth 20000 in
set_option maxHeartbeats 400000 in
theorem l01PickInt_any {w : World} {base g n c : Nat} {o : Option Addr} (h : Cur w base g o n c) (hn : n ≤ 1048576) (b k cap : Nat) (hk : 0 < k) (hk2 : k ≤ 1000) (hN : Nums w b k) (hbg : b ≠ g) :
    Calls Try.prog 62 #[.pointer (some ⟨g, 0, none⟩), .slice (some ⟨b, 0, none⟩) k cap] w fun e w' => ∃ z : Int, -9223372036854775808 ≤ z ∧ z ≤ 9223372036854775807 ∧ e = .returned (.int .i64 z) ∧ Only g w w' ∧ Cur w' base g o n c := by
  have H := hide h
  have HN := hide hN
  clear h hN
  go_enter Try.func62, Try.ntmps62
  go_wp2_with fail
  go_at_call 61
  refine (l01Below_any (unhide H) hn k hk (by omega)).mono ?_
  rintro e w1 ⟨x, hx, rfl, ho, hc⟩
  replace hc := hide hc
  obtain ⟨z, hz1, hz2, hcell⟩ := (unhide HN) x hx
  have hcell1 : w1.cell? ⟨b, x, none⟩ = some (.int .i64 z) := (World.cell?_of_block (w := w) (ho.block b hbg)).trans hcell
  replace ho := hide ho
  have hx0 : (0 : Int) ≤ (x : Int) := by omega
  have hx1 : (x : Int) < (k : Int) := by omega
  go_wp2
  go_ret
  exact ⟨z, hz1, hz2, rfl, unhide ho, unhide hc⟩



end Go.Proofs.Ytjgnjjphankhnaa

/- The draws of chapter 5 by contracts, over the loaded program. -/
namespace Go.Proofs.Ytjgnjjphankhnaa
open Go.RowKit
set_option maxRecDepth 20000 in
set_option maxHeartbeats 400000 in
theorem l01PickP_any {w : World} {base g n c : Nat} {o : Option Addr} (p : Int → Prop) (h : Cur w base g o n c) (hn : n ≤ 1048576) (b k cap : Nat) (hk : 0 < k) (hk2 : k ≤ 1000) (hN : ∀ j, j < k → ∃ z, w.cell? ⟨b, j, none⟩ = some (.int .i64 z) ∧ p z) (hbg : b ≠ g) :
    Calls Try.prog 62 #[.pointer (some ⟨g, 0, none⟩), .slice (some ⟨b, 0, none⟩) k cap] w fun e w' => ∃ z : Int, p z ∧ e = .returned (.int .i64 z) ∧ Only g w w' ∧ Cur w' base g o n c := by
  have H := hide h
  have HN := hide hN
  clear h hN
  go_enter Try.func62, Try.ntmps62
  go_wp2_with fail
  go_at_call 61
  refine (l01Below_any (unhide H) hn k hk (by omega)).mono ?_
  rintro e w1 ⟨x, hx, rfl, ho, hc⟩
  replace hc := hide hc
  obtain ⟨z, hcell, hz⟩ := (unhide HN) x hx
  have hcell1 : w1.cell? ⟨b, x, none⟩ = some (.int .i64 z) := (World.cell?_of_block (w := w) (ho.block b hbg)).trans hcell
  replace ho := hide ho
  replace hz := hide hz
  have hx0 : (0 : Int) ≤ (x : Int) := by omega
  have hx1 : (x : Int) < (k : Int) := by omega
  go_wp2
  go_ret
  exact ⟨z, unhide hz, rfl, unhide ho, unhide hc⟩
end Go.Proofs.Ytjgnjjphankhnaa

/- Drawn polynomials, by contracts, over the loaded program. -/
namespace Go.Proofs.Ytjgnjjphankhnaa
open Go.RowKit
theorem gTB9 {w w1 w2 : World} {r : Option Nat} (h : w.grownBy w1 r) (hb : Below w.heap.size w1 w2) : w.grownBy w2 r :=
  ⟨by rw [hb.os, h.os], by rw [hb.tape, h.tape], by rw [hb.output, h.output], Nat.le_trans h.size hb.size, fun j hj hr => by rw [hb.block j hj, h.block j hj hr]⟩
theorem gO9 {g : Nat} {w w' : World} (h : Only g w w') : w.grownBy w' (some g) := ⟨h.os, h.tape, h.output, by rw [h.size]; exact Nat.le_refl _, fun k _ hk => h.block k (fun e => hk (by rw [e]))⟩
def rngL (l : List Int) : Prop := ∀ x ∈ l, 0 ≤ x ∧ x ≤ 3328
theorem rngL_add {l : List Int} (h : rngL l) {x : Int} (hx : 0 ≤ x ∧ x ≤ 3328) : rngL (l ++ [x]) := by
  intro y hy
  rw [List.mem_append] at hy
  rcases hy with h1 | h1
  · exact h y h1
  · rw [List.mem_singleton] at h1; rw [h1]; exact hx
theorem rngL_set {l : List Int} (h : rngL l) (k : Nat) {x : Int} (hx : 0 ≤ x ∧ x ≤ 3328) : rngL (l.set k x) := by
  intro y hy
  rcases List.mem_or_eq_of_mem_set hy with h1 | h1
  · exact h y h1
  · rw [h1]; exact hx
theorem okPl_rng {l : List Int} (hl : l.length = 256) (h : rngL l) : okPl l = true :=
  okPl_of hl fun i hi => by rw [cAt_lt (by omega)]; exact h _ (List.getElem_mem _)
theorem map_add_iv (l : List Int) (x : Int) : l.map iv ++ [.int .i64 x] = (l ++ [x]).map iv := by rw [List.map_append]; rfl
theorem OwnV.some9 {w : World} {base n c : Nat} {a : Option Addr} {e : TypeId} {xs : List Value} (h : OwnV w base e (.slice a n c) xs) (hn : 0 < n) : ∃ g, a = some ⟨g, 0, none⟩ ∧ base ≤ g ∧ g < w.heap.size := by
  rcases h.2 with ⟨h1, _⟩ | ⟨g, cap, cur, h1, hb, h2, _⟩
  · simp only [Value.slice.injEq] at h1; omega
  · simp only [Value.slice.injEq] at h1
    refine ⟨g, h1.1, hb, ?_⟩
    rcases Nat.lt_or_ge g w.heap.size with h3 | h3
    · exact h3
    · rw [Array.getElem?_eq_none h3] at h2; cases h2
end Go.Proofs.Ytjgnjjphankhnaa

/- Draws of a seed and two places, over the loaded program. -/
namespace Go.Proofs.Ytjgnjjphankhnaa
open Go.RowKit
theorem nums5v (w : World) (T : TypeId) (a b : Int) (ha : -9223372036854775808 ≤ a ∧ a ≤ 9223372036854775807) (hb : -9223372036854775808 ≤ b ∧ b ≤ 9223372036854775807) : Nums (w.alloc (.cells #[.int .i64 (-1), .int .i64 a, .int .i64 b, .int .i64 9223372036854775807, .int .i64 (-9223372036854775808)] T)) w.heap.size 5 := by
  intro j hj
  rw [cell_of_row _ w.heap.size j _ T (0, 0) (heap_alloc_new w _)]
  match j, hj with
  | 0, _ => exact ⟨_, by decide, by decide, rfl⟩
  | 1, _ => exact ⟨a, ha.1, ha.2, rfl⟩
  | 2, _ => exact ⟨b, hb.1, hb.2, rfl⟩
  | 3, _ => exact ⟨_, by decide, by decide, rfl⟩
  | 4, _ => exact ⟨_, by decide, by decide, rfl⟩
  | j + 5, hj => exact absurd hj (by omega)

end Go.Proofs.Ytjgnjjphankhnaa

/- The draws that leave every block but the cursor's. -/
namespace Go.Proofs.Ytjgnjjphankhnaa
open Go.RowKit
theorem gO {g : Nat} {w w' : World} (h : Only g w w') : w.grownBy w' (some g) := ⟨h.os, h.tape, h.output, by rw [h.size]; exact Nat.le_refl _, fun k _ hk => h.block k (fun e => hk (by rw [e]))⟩
theorem gTB {w w1 w2 : World} {r : Option Nat} (h : w.grownBy w1 r) (hb : Below w.heap.size w1 w2) : w.grownBy w2 r :=
  ⟨hb.os.trans h.os, hb.tape.trans h.tape, hb.output.trans h.output, Nat.le_trans h.size hb.size, fun i hi hr => (hb.block i hi).trans (h.block i hi hr)⟩
set_option maxRecDepth 20000 in
set_option maxHeartbeats 400000 in
theorem l01Text_g {w : World} {base g n c : Nat} {o : Option Addr} (h : Cur w base g o n c) (hn : n ≤ 1048576) (m : Nat) (hm : m ≤ 5000) :
    Calls Try.prog 60 #[.pointer (some ⟨g, 0, none⟩), .int .i64 (m : Int)] w fun e w' => ∃ l : List UInt8, l.length = m ∧ e = .returned (.string ⟨l.toArray⟩) ∧ w.grownBy w' (some g) ∧ Cur w' base g o n c := by
  obtain ⟨i0, hi, hz0, hz1, hz2⟩ := info_parts Try.infoBC
  have H := hide h
  clear h
  have h0 : ¬ (5000 : Int) < (m : Int) := by omega
  go_enter Try.func60, Try.ntmps60
  go_wp2
  have hg := (unhide H).lt
  have hlo := (unhide H).lo
  go_loopw [5, 6] (fun v ti wr => ∃ (k : Nat) (pre : List UInt8), k ≤ m ∧ pre.length = k ∧ ti = .int .i64 (k : Int) ∧ OwnB wr w.heap.size 5 v pre ∧ w.grownBy wr (some g) ∧ Hid (Cur wr base g o n c))
    (fun _ ti _ => m - (intOf ti).toNat)
  case atStart => exact ⟨0, [], Nat.zero_le _, rfl, rfl, World.ownsRow_made w #[] 0 (Nat.le_refl _) (by decide) (by simp), gB ((Below.refl w.heap.size w).alloc (Nat.le_refl _) _) _, (unhide H).below ((Below.refl (g + 1) w).alloc (by omega) _) (by omega)⟩
  case round =>
    clear H h0
    obtain ⟨k, pre, hk, hpl, rfl, hown, hb, HC⟩ := hrel
    have hsz := hb.size
    by_cases hlt : k < m
    · go_wp2_with fail
      go_at_call 86
      refine (l01Byte_any (unhide HC) hn).mono ?_
      rintro e w1 ⟨x, hx, rfl, ho, hc1⟩
      have hown1 := hown.only ho hg
      have hb1 := gT hb (gO ho)
      have hsz1 := hb1.size
      replace hc1 := hide hc1
      replace ho := hide ho
      clear hown hb HC
      have hbx : ((byteOf x).toNat : Int) = (x : Int) := by rw [byteOf_toNat hx]
      go_wp2_with (at_builtin; refine wpList_append_bytes rfl (.tmp 15) (.tmp 19) 22 rfl w.heap.size w.heap.size 5 i0 Try.underlying22 hi hz0 hz1 hz2 _ pre rfl hown1 _ [byteOf x] (cs_at hbx) 1 1 rfl rfl (by omega) (Nat.le_refl _) hsz1 (Below.refl _ w1) ?_; intro v' w2 hown' hb2)
      have hc2 := hide ((unhide hc1).below hb2 hg)
      have hb' := gTB hb1 hb2
      clear hown1 hb1 hb2 hc1
      go_wp2
      go_roundw
      case rel => exact ⟨k + 1, pre ++ [byteOf x], by omega, by simp [hpl], by go_num, hown', hb', hc2⟩
      case measure => simp [intOf]; omega
    · have hke : k = m := by omega
      have hc := run_string_owned (P := Try.prog) wr 22 9 5 w.heap.size _ _ Try.underlying22 Try.underlying5 Try.underlying9 hown
      clear hown
      go_wp2
      go_ret
      exact ⟨pre, by omega, rfl, hb, unhide HC⟩

theorem HB.grown {w w' : World} {k g : Nat} {T : TypeId} {a : Hs} (h : HB w k T a) (hg : w.grownBy w' (some g)) (hne : k ≠ g) : HB w' k T a := by
  have hl := h.lt
  unfold HB at h ⊢
  rw [hg.block k hl (fun e => hne (Option.some.inj e))]; exact h
end Go.Proofs.Ytjgnjjphankhnaa

/- A text that is picked out of short ones, over the loaded program. -/
namespace Go.Proofs.Ytjgnjjphankhnaa
open Go.RowKit
def Txt9 (w : World) (b k : Nat) : Prop := ∀ j, j < k → ∃ s : ByteArray, s.size ≤ 9 ∧ w.cell? ⟨b, j, none⟩ = some (.string s)
set_option maxHeartbeats 400000 in
theorem l01Pick_9 {w : World} {base g n c : Nat} {o : Option Addr} (h : Cur w base g o n c) (hn : n ≤ 1048576) (b k cap : Nat) (hk : 0 < k) (hk2 : k ≤ 1000) (hN : Txt9 w b k) (hbg : b ≠ g) :
    Calls Try.prog 85 #[.pointer (some ⟨g, 0, none⟩), .slice (some ⟨b, 0, none⟩) k cap] w fun e w' => ∃ s : ByteArray, s.size ≤ 9 ∧ e = .returned (.string s) ∧ Only g w w' ∧ Cur w' base g o n c := by
  have H := hide h
  have HN := hide hN
  clear h hN
  go_enter Try.func85, Try.ntmps85
  go_wp2_with fail
  go_at_call 61
  refine (l01Below_any (unhide H) hn k hk (by omega)).mono ?_
  rintro e w1 ⟨x, hx, rfl, ho, hc⟩
  replace hc := hide hc
  obtain ⟨z, hz1, hcell⟩ := (unhide HN) x hx
  have hcell1 : w1.cell? ⟨b, x, none⟩ = some (.string z) := (World.cell?_of_block (w := w) (ho.block b hbg)).trans hcell
  replace ho := hide ho
  have hx0 : (0 : Int) ≤ (x : Int) := by omega
  have hx1 : (x : Int) < (k : Int) := by omega
  go_wp2
  go_ret
  exact ⟨z, hz1, rfl, unhide ho, unhide hc⟩
theorem txt9_4 (w : World) (T : TypeId) : Txt9 (w.alloc (.cells #[.string ⟨#[]⟩, .string ⟨#[97]⟩, .string ⟨#[98]⟩, .string ⟨#[115, 101, 101, 100]⟩] T)) w.heap.size 4 := by
  intro j hj
  rw [cell_of_row _ w.heap.size j _ T (0, 0) (heap_alloc_new w _)]
  match j, hj with
  | 0, _ => exact ⟨_, by decide, rfl⟩
  | 1, _ => exact ⟨_, by decide, rfl⟩
  | 2, _ => exact ⟨_, by decide, rfl⟩
  | 3, _ => exact ⟨_, by decide, rfl⟩
  | j + 4, hj => exact absurd hj (by omega)
end Go.Proofs.Ytjgnjjphankhnaa

/- Draws of seeds, leaves and texts, over the loaded program. -/
namespace Go.Proofs.Ytjgnjjphankhnaa
open Go.RowKit
set_option maxRecDepth 20000 in
set_option maxHeartbeats 400000 in
theorem l16Seed_any {w : World} {base g n c : Nat} {o : Option Addr} (h : Cur w base g o n c) (hn : n ≤ 1048576) :
    Calls Try.prog 59 #[.pointer (some ⟨g, 0, none⟩)] w fun e w' => ∃ s : ByteArray, s.size ≤ 9 ∧ e = .returned (.string s) ∧ w.grownBy w' (some g) ∧ Cur w' base g o n c := by
  have hg := h.lt
  have H := hide h
  clear h
  go_enter Try.func59, Try.ntmps59
  go_wp2_with fail
  go_at_call 85
  refine (l01Pick_9 ((unhide H).below ((Below.refl w.heap.size w).alloc (Nat.le_refl _) _) hg) hn w.heap.size 4 4 (by decide) (by decide) (txt9_4 w _) (by omega)).mono ?_
  rintro e w1 ⟨s, hs, rfl, ho, hc⟩
  have G1 := hide (gT (gB ((Below.refl w.heap.size w).alloc (Nat.le_refl _) _) (some g)) (gO ho))
  replace hc := hide hc
  clear ho H
  go_wp2
  go_ret
  exact ⟨s, hs, rfl, unhide G1, unhide hc⟩
end Go.Proofs.Ytjgnjjphankhnaa

/- The law FnOnce, walked over the loaded program; what the project's functions answer is a premise. -/
namespace Go.Proofs.Ytjgnjjphankhnaa
open Go.RowKit
theorem OwnV.loU {w : World} {base : Nat} {e : TypeId} {v : Value} {xs : List Value} (h : OwnV w base e v xs) : ∀ k, v.ownBlock = some k → base ≤ k ∧ k < w.heap.size := fun k hk => World.ownsRow.lt h k hk
theorem row_some15 {w : World} {base : Nat} {e : TypeId} {v : Value} {xs : List Value} (h : OwnV w base e v xs) (hn : 0 < xs.length) : ∃ g c, v = .slice (some ⟨g, 0, none⟩) xs.length c ∧ base ≤ g ∧ g < w.heap.size ∧ xs.length ≤ c := by
  have h0 := h
  rcases h.2 with ⟨_, h2⟩ | ⟨g, cap, cur, h1, hb, _, hc, _⟩
  · omega
  · refine ⟨g, cap, h1, hb, ?_, hc⟩
    have := World.ownsRow.lt h0 g (by rw [h1]; rfl)
    exact this.2
theorem keysO_sizes (s : ByteArray) (leaf : Int) : (keysO s leaf).length = 10 ∧ ∀ x ∈ keysO s leaf, x.size = 4 := by
  unfold keysO
  refine ⟨by rw [List.length_map, List.length_range], fun x hx => ?_⟩
  obtain ⟨i, _, rfl⟩ := List.mem_map.1 hx
  unfold keyO
  exact chopB_size _
theorem sumS_most (l : List ByteArray) (c : Nat) (h : ∀ x ∈ l, x.size ≤ c) : sumS l ≤ c * l.length := by
  induction l with
  | nil => exact Nat.zero_le _
  | cons x xs ih =>
    have h1 := h x (by simp)
    have h2 := ih (fun y hy => h y (by simp [hy]))
    show x.size + sumS xs ≤ c * (xs.length + 1)
    rw [Nat.mul_add, Nat.mul_one]
    omega
theorem onceS_sizes (l : List ByteArray) (leaf : Int) (m : ByteArray) (hl : l.length = 10) (h : ∀ x ∈ l, x.size = 4) : (onceS l leaf m).length = 10 ∧ sumS (onceS l leaf m) ≤ 80 := by
  have hlen : (onceS l leaf m).length = 10 := by unfold onceS; rw [if_pos hl, List.length_map, List.length_range]
  refine ⟨hlen, ?_⟩
  have := sumS_most (onceS l leaf m) 8 (fun x hx => by
    unfold onceS at hx
    rw [if_pos hl] at hx
    obtain ⟨i, hi, rfl⟩ := List.mem_map.1 hx
    have h1 := chn_le (bAt l i) leaf (i : Int) 0 (dgAt m i)
    have h2 := bAt_size l i 4 (by rw [hl]; exact List.mem_range.1 hi) (fun x hx => by rw [h x hx]; exact Nat.le_refl _)
    omega)
  rw [hlen] at this
  omega
end Go.Proofs.Ytjgnjjphankhnaa

