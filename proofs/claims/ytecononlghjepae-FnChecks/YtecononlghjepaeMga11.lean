/- Merged: Sig4, LawSig, DrawT, DrawN, DrawH, DrawY, DrawV, DrawG, Pik9, DrSig, LawOn1. -/
import Derived.Test.YtecononlghjepaeMga1
import Derived.Test.YtecononlghjepaeMga2
import Derived.Test.YtecononlghjepaeMga3
import Derived.Test.YtecononlghjepaeMga4
import Derived.Test.YtecononlghjepaeMga5
import Derived.Test.YtecononlghjepaeMga6
import Derived.Test.YtecononlghjepaeMga7
import Derived.Test.YtecononlghjepaeMga8
import Derived.Test.YtecononlghjepaeMga9
import Derived.Test.YtecononlghjepaeMga10
/- Keys of a tree by the given model: a signature that is read, over the loaded program. -/
namespace Go.Proofs.Ytecononlghjepae
open Go.RowKit
theorem cut16 (T : ByteArray) (i j : Nat) (w : World) (h1 : i ≤ j) (h2 : j ≤ T.size) : (Instr.slice 9 (.string T) (some (.int .i64 (i : Int))) (some (.int .i64 (j : Int))) none).run Try.prog w = .ok (.string (T.extract i j)) w := by
  rw [run_slice_string_if w 9 T .i64 .i64 (i : Int) (j : Int) Try.underlying9, if_pos (by omega), if_pos (by omega)]
  rfl
/-- The texts of the first k parts, and of those behind the tenth. -/
def onK (F : Nat → ByteArray) (k : Nat) : List ByteArray := (List.range (min k 10)).map F
def ptK (F : Nat → ByteArray) (k : Nat) : List ByteArray := (List.range (k - 10)).map fun i => F (10 + i)
theorem onK_succ (F : Nat → ByteArray) (k : Nat) (h : k < 10) : onK F (k + 1) = onK F k ++ [F k] := by
  unfold onK
  rw [Nat.min_eq_left (by omega), Nat.min_eq_left (by omega), List.range_succ, List.map_append]
  rfl
theorem onK_ten (F : Nat → ByteArray) (k : Nat) (h : 10 ≤ k) : onK F k = onK F 10 := by unfold onK; rw [Nat.min_eq_right h]; rfl
theorem onK_len (F : Nat → ByteArray) (k : Nat) : (onK F k).length ≤ 10 := by unfold onK; rw [List.length_map, List.length_range]; exact Nat.min_le_right _ _
theorem ptK_len (F : Nat → ByteArray) (k : Nat) (h : k ≤ 12) : (ptK F k).length ≤ 2 := by unfold ptK; rw [List.length_map, List.length_range]; omega
theorem ptK_succ (F : Nat → ByteArray) (k : Nat) (h : 10 ≤ k) : ptK F (k + 1) = ptK F k ++ [F k] := by
  unfold ptK
  rw [show k + 1 - 10 = (k - 10) + 1 by omega, List.range_succ, List.map_append]
  show _ ++ [F (10 + (k - 10))] = _
  rw [show 10 + (k - 10) = k by omega]
theorem ptK_low (F : Nat → ByteArray) (k : Nat) (h : k ≤ 10) : ptK F k = [] := by unfold ptK; rw [show k - 10 = 0 by omega]; rfl
set_option maxRecDepth 20000 in
set_option maxHeartbeats 1600000 in
theorem specReadSig_any (t : ByteArray) (w : World) :
    Calls Try.prog 40 #[.string t] w fun e w' => (∃ v, e = .returned (.tuple #[v, .bool (rdOk t)]) ∧ OwnSg w' w.heap.size v (rdS t)) ∧ Below w.heap.size w w' := by
  obtain ⟨i0, hi, hz0, hz1, hz2⟩ := info_parts infoTxt
  by_cases h49 : t.size = 49
  · have h49' : (t.size : Int) = 49 := by omega
    have hix : ∀ h : 0 < t.size, (t[0]'h).toNat = byA t 0 := fun h => byA_at t 0 h
    have hbl := byA_lt t 0
    obtain ⟨b, hb⟩ : ∃ b, b = byA t 0 := ⟨_, rfl⟩
    rw [← hb] at hix hbl
    have q0 : IntKind.i64.wrap (b : Int) = (b : Int) := by rw [IntKind.wrap_i64]; omega
    have h0s : 0 < t.size := by omega
    by_cases h4 : b < 4
    · have hin : rdIn t := ⟨h49, by omega⟩
      have ER := hide (show rdS t = ⟨(b : Int), onK (prtB t) 12, ptK (prtB t) 12⟩ by unfold rdS; rw [if_pos (rdOk_of hin), hb]; rfl)
      rw [unhide ER, rdOk_of hin]
      have HS := hide (fun k (hk : k < 12) W => cut16 t (1 + k * 4) (1 + (k + 1) * 4) W (by omega) (by omega))
      have HS2 := hide (fun k (hk : k < 12) W => show (Instr.slice 9 (.string t) (some (.int .i64 ((1 + k * 4 : Nat) : Int))) (some (.int .i64 ((1 + (k + 1) * 4 : Nat) : Int))) none).run Try.prog W = .ok (.string (prtB t k)) W from unhide HS k hk W)
      generalize prtB t = F at *
      have h4' : ¬ (4 : Int) ≤ (b : Int) := by omega
      have h4d : decide ((4 : Int) ≤ (b : Int)) = false := decide_eq_false h4'
      replace hb := hide hb
      clear HS ER hin
      go_enter Try.func40, Try.ntmps40
      go_wp2
      obtain ⟨W, hW, hR, hV, hB, hs⟩ := two_cb w #[.int .i64 0, .slice none 0 0, .slice none 0 0] #[.int .i64 (b : Int), .slice none 0 0, .slice none 0 0] 48 48
      rw [hW]
      clear hW
      go_loopw [5] (fun ti wr => ∃ (k base2 : Nat) (v1 v2 : Value), k ≤ 12 ∧ ti = .int .i64 (k : Int) ∧ Hid (CB wr w.heap.size 48 #[.int .i64 0, .slice none 0 0, .slice none 0 0]) ∧ Hid (CB wr (w.heap.size + 1) 48 #[.int .i64 (b : Int), v1, v2]) ∧ Hid (OwnV wr w.heap.size 9 v1 ((onK F k).map sv)) ∧ Hid (OwnV wr base2 9 v2 ((ptK F k).map sv)) ∧ Hid (w.heap.size ≤ base2 ∧ base2 ≤ wr.heap.size ∧ ∀ j, v1.ownBlock = some j → j < base2) ∧ Hid (k ≤ 10 → v2 = .slice none 0 0) ∧ Below w.heap.size w wr) (fun ti _ => 12 - (intOf ti).toNat)
      case atStart => exact ⟨0, W.heap.size, _, _, by omega, rfl, hide hR, hide hV, hide (OwnV.nil _ _ _), hide (OwnV.nil _ _ _), hide ⟨hB.size, Nat.le_refl _, fun j hj => by cases hj⟩, hide (fun _ => rfl), hB⟩
      case round =>
        clear hR hV hB hs W
        obtain ⟨k, base2, v1, v2, hk, rfl, HR, HV, H1, H2, HB2, HN, hB⟩ := hrel
        have hbw := hB.size
        by_cases hlt : k < 12
        · have hk' : (k : Int) < 12 := by omega
          obtain ⟨m, hm⟩ : ∃ m, m = k * 4 := ⟨_, rfl⟩
          obtain ⟨m1, hm1⟩ : ∃ m1, m1 = 1 + k * 4 := ⟨_, rfl⟩
          obtain ⟨kk, hkk⟩ : ∃ m, m = k + 1 := ⟨_, rfl⟩
          obtain ⟨m2, hm2⟩ : ∃ m, m = (k + 1) * 4 := ⟨_, rfl⟩
          obtain ⟨m3, hm3⟩ : ∃ m, m = 1 + (k + 1) * 4 := ⟨_, rfl⟩
          have t1 : IntKind.i64.wrap ((k : Int) * 4) = (m : Int) := by rw [IntKind.wrap_i64]; omega
          have t2 : IntKind.i64.wrap (1 + (m : Int)) = (m1 : Int) := by rw [IntKind.wrap_i64]; omega
          have t3 : IntKind.i64.wrap ((k : Int) + 1) = (kk : Int) := by rw [IntKind.wrap_i64]; omega
          have t4 : IntKind.i64.wrap ((kk : Int) * 4) = (m2 : Int) := by rw [IntKind.wrap_i64]; omega
          have t5 : IntKind.i64.wrap (1 + (m2 : Int)) = (m3 : Int) := by rw [IntKind.wrap_i64]; omega
          have hsl := unhide HS2 k hlt
          rw [← hm1, ← hm3] at hsl
          by_cases h10 : k < 10
          · have h10' : (k : Int) < 10 := by omega
            have hv2 := unhide HN (by omega)
            subst hv2
            have HP := hide (onK_succ F k h10)
            have hpl : ((onK F k).map sv).length ≤ 1000 := by rw [List.length_map]; have := onK_len F k; omega
            have HQ := hide (show ptK F (k + 1) = [] from ptK_low F _ (by omega))
            obtain ⟨x, hx⟩ : ∃ x, x = F k := ⟨_, rfl⟩
            rw [← hx] at hsl HP
            have p1 := (unhide HV).cell 1 (v := v1) rfl
            replace hm := hide hm; replace hm1 := hide hm1; replace hkk := hide hkk; replace hm2 := hide hm2; replace hm3 := hide hm3; replace hx := hide hx; replace hpl := hide hpl
            clear HS2
            have off1 := hide ((unhide HV).off (unhide H1) (by decide))
            have off0 := hide ((unhide HR).off (unhide H1) (by decide))
            go_wp2_with (at_builtin; refine wpList_append_grow (w := wr) rfl (.tmp 37) (.tmp 39) 33 rfl w.heap.size 9 i0 (.string ⟨#[]⟩) 16 Try.underlying33 hi hz0 hz1 hz2 rfl v1 _ rfl (unhide H1) (.string x) rfl rfl (by have := unhide hpl; unfold maxLen; omega) (by have := unhide hpl; omega) hbw ?_; intro v' w' ho' hG; have hV2 := ((unhide HV).alloc (.cells #[.string x] 9)).grown hG (unhide off1); have hR2 := ((unhide HR).alloc (.cells #[.string x] 9)).grown hG (unhide off0); have hB2 := (hB.alloc hbw (.cells #[.string x] 9)).grown hG (by simp; omega) (fun j hj => ((unhide H1).lt j hj).1); obtain ⟨a', c', rfl⟩ := ho'.shape; generalize ((onK F k).map sv ++ [Value.string x]).length = n at *; have c1 := hV2.cell 1 (v := v1) rfl; have f1 := hV2.frozen 1)
            have hP2 : (onK F k).map sv ++ [.string x] = (onK F (k + 1)).map sv := by rw [unhide HP, List.map_append]; rfl
            rw [hP2] at ho'
            have o9 := hide (ho'.setO (w.heap.size + 1) 1 (.slice a' n c') (hV2.off ho' (by decide)))
            have V9 := hide (hV2.set 1 (.slice a' n c'))
            have R9 := hide (hR2.set_other (h := w.heap.size + 1) (k := 1) (by omega) (.slice a' n c'))
            have B9 := hB2.setCell (p := ⟨w.heap.size + 1, 1, none⟩) (by simp) (.slice a' n c')
            have lo9 := hide (fun j (hj : (Value.slice a' n c').ownBlock = some j) => ((unhide o9).lt j hj).2)
            exact ⟨⟨k + 1, (w'.setCell ⟨w.heap.size + 1, 1, none⟩ (.slice a' n c')).heap.size, .slice a' n c', .slice none 0 0, by omega, by rw [unhide hkk], R9, V9, o9, hide (by rw [unhide HQ]; exact OwnV.nil _ _ _), hide ⟨B9.size, Nat.le_refl _, unhide lo9⟩, hide (fun _ => rfl), B9⟩, by simp [intOf]; have := unhide hkk; omega⟩
          · have h10' : ¬ (k : Int) < 10 := by omega
            have HP := hide (ptK_succ F k (by omega))
            have hpl : ((ptK F k).map sv).length ≤ 1000 := by rw [List.length_map]; have := ptK_len F k (by omega); omega
            have HQ := hide (show onK F (k + 1) = onK F k by rw [onK_ten F _ (by omega), onK_ten F k (by omega)])
            obtain ⟨x, hx⟩ : ∃ x, x = F k := ⟨_, rfl⟩
            rw [← hx] at hsl HP
            have p2 := (unhide HV).cell 2 (v := v2) rfl
            have hb2 := (unhide HB2).2.1
            replace hm := hide hm; replace hm1 := hide hm1; replace hkk := hide hkk; replace hm2 := hide hm2; replace hm3 := hide hm3; replace hx := hide hx; replace hpl := hide hpl
            clear HS2
            have off1 := hide ((unhide HV).off (unhide H2) (by decide))
            have off0 := hide ((unhide HR).off (unhide H2) (by decide))
            have ap := hide (show ∀ j, v1.ownBlock = some j → v2.ownBlock ≠ some j from fun j hj hj2 => by
              have h1 := (unhide HB2).2.2 j hj
              have h2 := ((unhide H2).lt j hj2).1
              omega)
            go_wp2_with (at_builtin; refine wpList_append_grow (w := wr) rfl (.tmp 43) (.tmp 45) 33 rfl base2 9 i0 (.string ⟨#[]⟩) 16 Try.underlying33 hi hz0 hz1 hz2 rfl v2 _ rfl (unhide H2) (.string x) rfl rfl (by have := unhide hpl; unfold maxLen; omega) (by have := unhide hpl; omega) hb2 ?_; intro v' w' ho' hG; have hV2 := ((unhide HV).alloc (.cells #[.string x] 9)).grown hG (unhide off1); have hR2 := ((unhide HR).alloc (.cells #[.string x] 9)).grown hG (unhide off0); have hB2 := (hB.alloc hbw (.cells #[.string x] 9)).grown hG (by simp; omega) (fun j hj => Nat.le_trans (unhide HB2).1 ((unhide H2).lt j hj).1); have ho1 := hide (((unhide H1).alloc (.cells #[.string x] 9)).grown hG (fun j hj e => unhide ap j hj e)); have hsz2 := hG.size; obtain ⟨a', c', rfl⟩ := ho'.shape; generalize ((ptK F k).map sv ++ [Value.string x]).length = n at *; have c2 := hV2.cell 2 (v := v2) rfl; have f2 := hV2.frozen 2)
            have hP2 : (ptK F k).map sv ++ [.string x] = (ptK F (k + 1)).map sv := by rw [unhide HP, List.map_append]; rfl
            rw [hP2] at ho'
            have o9 := hide (ho'.setO (w.heap.size + 1) 2 (.slice a' n c') (hV2.off ho' (by decide)))
            have o8 := hide ((unhide ho1).setO (w.heap.size + 1) 2 (.slice a' n c') (hV2.off (unhide ho1) (by decide)))
            have V9 := hide (hV2.set 2 (.slice a' n c'))
            have R9 := hide (hR2.set_other (h := w.heap.size + 1) (k := 2) (by omega) (.slice a' n c'))
            have B9 := hB2.setCell (p := ⟨w.heap.size + 1, 2, none⟩) (by simp) (.slice a' n c')
            have hs9 : base2 ≤ (w'.setCell ⟨w.heap.size + 1, 2, none⟩ (.slice a' n c')).heap.size := by simp at hsz2 ⊢; omega
            exact ⟨⟨k + 1, base2, v1, .slice a' n c', by omega, by rw [unhide hkk], R9, V9, hide (by rw [unhide HQ]; exact unhide o8), o9, hide ⟨(unhide HB2).1, hs9, (unhide HB2).2.2⟩, hide (fun h => absurd h (by omega)), B9⟩, by simp [intOf]; have := unhide hkk; omega⟩
        · have hk' : ¬ (k : Int) < 12 := by omega
          obtain rfl : k = 12 := by omega
          have s1 := (unhide H1).shape
          have s2 := (unhide H2).shape
          obtain ⟨a1, c1, rfl⟩ := s1
          obtain ⟨a2, c2, rfl⟩ := s2
          generalize ((onK F 12).map sv).length = n1 at *
          generalize ((ptK F 12).map sv).length = n2 at *
          have of1 := hide ((unhide HR).off (unhide H1) (by decide))
          have of2 := hide ((unhide HR).off (unhide H2) (by decide))
          have p0 := (unhide HV).cell 0 (v := .int .i64 (b : Int)) rfl
          have p1 := (unhide HV).cell 1 (v := .slice a1 n1 c1) rfl
          have p2 := (unhide HV).cell 2 (v := .slice a2 n2 c2) rfl
          have r0 := (unhide HR).cell 0 (v := .int .i64 0) rfl
          have r1 := (unhide HR).cell 1 (v := .slice none 0 0) rfl
          have r2 := (unhide HR).cell 2 (v := .slice none 0 0) rfl
          have g0 := (unhide HR).frozen 0
          have g1 := (unhide HR).frozen 1
          have g2 := (unhide HR).frozen 2
          have ap := hide (show ∀ j, (Value.slice a1 n1 c1).ownBlock = some j → (Value.slice a2 n2 c2).ownBlock ≠ some j from fun j hj hj2 => by
            have h1 := (unhide HB2).2.2 j hj
            have h2 := ((unhide H2).lt j hj2).1
            omega)
          clear HS2
          go_wp2
          have hF := hide ((((unhide HR).set 0 (.int .i64 (b : Int))).set 1 (.slice a1 n1 c1)).set 2 (.slice a2 n2 c2))
          have hBF := hide (((hB.setCell (p := ⟨w.heap.size, 0, none⟩) (Nat.le_refl _) (.int .i64 (b : Int))).setCell (p := ⟨w.heap.size, 1, none⟩) (Nat.le_refl _) (.slice a1 n1 c1)).setCell (p := ⟨w.heap.size, 2, none⟩) (Nat.le_refl _) (.slice a2 n2 c2))
          have o6 := hide ((((unhide H1).setO w.heap.size 0 (.int .i64 (b : Int)) (unhide of1)).setO w.heap.size 1 (.slice a1 n1 c1) (unhide of1)).setO w.heap.size 2 (.slice a2 n2 c2) (unhide of1))
          have o7 := hide ((((unhide H2).setO w.heap.size 0 (.int .i64 (b : Int)) (unhide of2)).setO w.heap.size 1 (.slice a1 n1 c1) (unhide of2)).setO w.heap.size 2 (.slice a2 n2 c2) (unhide of2))
          exact bodyPost_ret (results_cb_tmp (by exact Try.results40) _ _ _ _ _ _ rfl (unhide hF) Try.underlying48 (by kernel_rfl)) rfl ⟨⟨_, rfl, _, _, rfl, unhide o6, (unhide o7).low (unhide HB2).1, unhide ap⟩, unhide hBF⟩
    · have hno : rdOk t = false := by
        cases e : rdOk t with
        | false => rfl
        | true => exact absurd (rdOk_in e).2 (by rw [← hb]; exact h4)
      have ER := hide (show rdS t = ⟨0, [], []⟩ by unfold rdS; rw [hno]; rfl)
      rw [unhide ER, hno]
      have h4' : (4 : Int) ≤ (b : Int) := by omega
      have h4d : decide ((4 : Int) ≤ (b : Int)) = true := decide_eq_true h4'
      replace hb := hide hb
      clear ER hno
      go_enter Try.func40, Try.ntmps40
      go_wp2
      obtain ⟨W, hW, hR, hB, hs1⟩ := one_cb w #[.int .i64 0, .slice none 0 0, .slice none 0 0] 48
      rw [hW]
      exact bodyPost_ret (results_cb_tmp (by exact Try.results40) _ _ _ _ _ _ rfl hR Try.underlying48 (by kernel_rfl)) rfl ⟨⟨_, rfl, _, _, rfl, OwnV.nil _ _ _, OwnV.nil _ _ _, fun k hk => by cases hk⟩, hB⟩
  · have hno : rdOk t = false := by
      cases e : rdOk t with
      | false => rfl
      | true => exact absurd (rdOk_in e).1 h49
    have ER := hide (show rdS t = ⟨0, [], []⟩ by unfold rdS; rw [hno]; rfl)
    rw [unhide ER, hno]
    have h49' : ¬ (t.size : Int) = 49 := by omega
    clear ER hno h49
    go_enter Try.func40, Try.ntmps40
    go_wp2
    obtain ⟨W, hW, hR, hB, hs1⟩ := one_cb w #[.int .i64 0, .slice none 0 0, .slice none 0 0] 48
    rw [hW]
    exact bodyPost_ret (results_cb_tmp (by exact Try.results40) _ _ _ _ _ _ rfl hR Try.underlying48 (by kernel_rfl)) rfl ⟨⟨_, rfl, _, _, rfl, OwnV.nil _ _ _, OwnV.nil _ _ _, fun k hk => by cases hk⟩, hB⟩
end Go.Proofs.Ytecononlghjepae

/- The laws FnExactSignAt, FnExactReadSig, walked over the loaded program; what the project's functions answer are premises. -/
namespace Go.Proofs.Ytecononlghjepae
open Go.RowKit
theorem MkSg.low {w w' : World} {base B : Nat} {v : Value} {s : Sg} (h : MkSg w base v s) (hb : Below B w w') (hB : w.heap.size ≤ B) : MkSg w' base v s := h.below (hb.mono hB)
theorem OwnSg.belowAt {w w' : World} {base B : Nat} {v : Value} {s : Sg} (h : OwnSg w base v s) (hb : Below B w w') (hB : w.heap.size ≤ B) : OwnSg w' base v s := h.below (hb.mono hB)
end Go.Proofs.Ytecononlghjepae

/- What big, DrawSumOf and DrawPlaces come to: some text of fewer than 40 bytes; twelve numbers below 10000. -/
namespace Go.Proofs.Ytecononlghjepae
open Go.RowKit

set_option maxRecDepth 20000 in
set_option maxHeartbeats 400000 in
theorem big_any (w : World) (o : Option Addr) (n c : Nat) :
    Calls Try.prog 8 #[.slice o n c] w fun e w' => e = .returned (.bool (decide ((1048576 : Int) < (n : Int)))) ∧ w' = w := by
  go_enter Try.func8, Try.ntmps8
  go_wp2
  go_ret
  exact ⟨rfl, rfl⟩


theorem Try.infoIC : (Try.prog.info? 3).map (fun i => (i.zero, i.size, i.bytes)) = some (some (.int .i64 0), 1, 8) := by kernel_rfl

def ints (xs : List Nat) : List Value := xs.map fun (x : Nat) => Value.int .i64 (x : Int)

set_option maxRecDepth 20000 in
set_option maxHeartbeats 400000 in
theorem drawPlaces_any (w : World) (o : Option Addr) (n c : Nat) (hs : Src w w.heap.size o n) (hn : n ≤ 1048576) :
    Calls Try.prog 10 #[.slice o n c] w fun e w' => ∃ (v : Value) (xs : List Nat), xs.length = 12 ∧ (∀ x ∈ xs, x < 10000) ∧ e = .returned v ∧ OwnV w' w.heap.size 3 v (ints xs) ∧ Below w.heap.size w w' := by
  obtain ⟨i0, hi, hz0, hz1, hz2⟩ := info_parts Try.infoIC
  have HS := hide hs
  clear hs
  go_enter Try.func10, Try.ntmps10
  go_wp2_with fail
  go_at_call 42
  refine (l01New_any w o n c (unhide HS) hn).mono ?_
  rintro e w1 ⟨rfl, hb1, hc1⟩
  replace hc1 := hide hc1
  go_wp2_with fail
  go_at_call 46
  refine (l01Byte_any (unhide hc1) hn).mono ?_
  rintro e w2 ⟨x, hx, rfl, ho2, hc2⟩
  have hb2 := hb1.trans (ho2.below (Nat.le_refl _))
  have hg := hc2.lt
  replace hc2 := hide hc2
  replace ho2 := hide ho2
  clear hb1 hc1
  go_wp2
  go_loopw [4, 5] (fun v ti wr => ∃ (k : Nat) (xs : List Nat), k ≤ 12 ∧ xs.length = k ∧ ti = .int .i64 (k : Int) ∧ Hid (∀ x ∈ xs, x < 10000) ∧ OwnV wr w2.heap.size 3 v (ints xs) ∧ Below w.heap.size w wr ∧ w2.heap.size ≤ wr.heap.size ∧ Hid (Cur wr w.heap.size w.heap.size o n c))
    (fun _ ti _ => 12 - (intOf ti).toNat)
  case atStart => exact ⟨0, [], Nat.zero_le _, rfl, rfl, hide (by simp), World.ownsRow_made w2 #[] 0 (Nat.le_refl _) (by decide) (by simp), hb2.alloc hb2.size _, by simp, (unhide hc2).below ((Below.refl (w.heap.size + 1) w2).alloc (by omega) _) (by omega)⟩
  case round =>
    obtain ⟨k, xs, hk, hxl, rfl, HX, hown, hb, hsz, HC⟩ := hrel
    clear hc2 ho2 hb2
    by_cases hlt : k < 12
    · go_wp2_with fail
      go_at_call 44
      refine (l01Below_any (unhide HC) hn 10000 (by decide) (by decide)).mono ?_
      rintro e w3 ⟨y, hy, rfl, ho, hc3⟩
      have hown1 := hown.only ho hg
      have hb3 := hb.trans (ho.below (Nat.le_refl _))
      have hsz3 : w2.heap.size ≤ w3.heap.size := by rw [ho.size]; exact hsz
      have hil : (ints xs).length ≤ 12 := by simp [ints]; omega
      replace hc3 := hide hc3
      replace ho := hide ho
      clear hown hb HC
      go_wp2_with (at_builtin; refine wpList_append_vals rfl (.tmp 15) (.tmp 18) 26 rfl w2.heap.size w2.heap.size 3 i0 (.int .i64 0) 8 Try.underlying26 hi hz0 hz1 hz2 rfl _ (ints xs) rfl hown1 _ [.int .i64 (y : Int)] rfl (by intro u hu; simp only [List.mem_singleton] at hu; subst hu; rfl) 1 1 rfl rfl (by unfold maxLen; omega) (by omega) (Nat.le_refl _) hsz3 (Below.refl _ w3) ?_; intro v' w4 hown' hb4)
      have hc4 := hide ((unhide hc3).below hb4 hg)
      have hb' := hb3.trans (hb4.mono (show w.heap.size ≤ w2.heap.size by omega))
      have hsz4 : w2.heap.size ≤ w4.heap.size := Nat.le_trans hsz3 hb4.size
      have hown2 : OwnV w4 w2.heap.size 3 v' (ints (xs ++ [y])) := by unfold ints at hown' ⊢; rw [List.map_append]; exact hown'
      clear hown1 hb3 hb4 hc3 hown'
      go_wp2
      go_roundw
      case rel => exact ⟨k + 1, xs ++ [y], by omega, by simp [hxl], by go_num, hide (by intro z hz; rw [List.mem_append] at hz; rcases hz with hz | hz; exact unhide HX z hz; simp only [List.mem_singleton] at hz; omega), hown2, hb', hsz4, hc4⟩
      case measure => simp [intOf]; omega
    · have hke : k = 12 := by omega
      have hw : w.heap.size ≤ w2.heap.size := by omega
      replace hown := hide hown
      go_wp2
      go_ret
      exact ⟨_, xs, by omega, unhide HX, rfl, (unhide hown).low hw, hb⟩

end Go.Proofs.Ytecononlghjepae

/- More draws by contracts: once in so many times, one of a list of numbers, many bytes of one kind, a number, a text. -/
namespace Go.Proofs.Ytecononlghjepae
open Go.RowKit

set_option maxRecDepth 20000 in
set_option maxHeartbeats 400000 in
theorem l01Once_any {w : World} {base g n c : Nat} {o : Option Addr} (h : Cur w base g o n c) (hn : n ≤ 1048576) (m : Nat) (hm : 0 < m) (hm2 : m ≤ 4294967296) :
    Calls Try.prog 69 #[.pointer (some ⟨g, 0, none⟩), .int .i64 (m : Int)] w fun e w' => ∃ b : Bool, e = .returned (.bool b) ∧ Only g w w' ∧ Cur w' base g o n c := by
  have H := hide h
  clear h
  go_enter Try.func69, Try.ntmps69
  go_wp2_with (go_at_call 44; refine (l01Below_any (unhide H) hn m hm hm2).mono ?_; rintro e w1 ⟨x, hx, rfl, ho, hc⟩; replace hc := hide hc)
  go_ret
  exact ⟨_, rfl, ho, unhide hc⟩

/-- A row of numbers in block b. -/
def Nums (w : World) (b k : Nat) : Prop := ∀ j, j < k → ∃ z : Int, -9223372036854775808 ≤ z ∧ z ≤ 9223372036854775807 ∧ w.cell? ⟨b, j, none⟩ = some (.int .i64 z)

set_option maxRecDepth 20000 in
set_option maxHeartbeats 400000 in
theorem l01PickInt_any {w : World} {base g n c : Nat} {o : Option Addr} (h : Cur w base g o n c) (hn : n ≤ 1048576) (b k cap : Nat) (hk : 0 < k) (hk2 : k ≤ 1000) (hN : Nums w b k) (hbg : b ≠ g) :
    Calls Try.prog 79 #[.pointer (some ⟨g, 0, none⟩), .slice (some ⟨b, 0, none⟩) k cap] w fun e w' => ∃ z : Int, -9223372036854775808 ≤ z ∧ z ≤ 9223372036854775807 ∧ e = .returned (.int .i64 z) ∧ Only g w w' ∧ Cur w' base g o n c := by
  have H := hide h
  have HN := hide hN
  clear h hN
  go_enter Try.func79, Try.ntmps79
  go_wp2_with fail
  go_at_call 44
  refine (l01Below_any (unhide H) hn k hk (by omega)).mono ?_
  rintro e w1 ⟨x, hx, rfl, ho, hc⟩
  replace hc := hide hc
  obtain ⟨z, hz1, hz2, hcell⟩ := (unhide HN) x hx
  have hcell1 : w1.cell? ⟨b, x, none⟩ = some (.int .i64 z) := (World.cell?_of_block (w := w) (ho.block b hbg)).trans hcell
  replace ho := hide ho
  have hx0 : (0 : Int) ≤ (x : Int) := by omega
  have hx1 : (x : Int) < (k : Int) := by omega
  go_wp2
  go_ret
  exact ⟨z, hz1, hz2, rfl, unhide ho, unhide hc⟩


theorem map_set_bv (l : List UInt8) (k x : Nat) (hx : x < 256) : (l.map bv).set k (.int .u8 (x : Int)) = (l.set k (byteOf x)).map bv := by
  rw [List.map_set]
  congr 1
  simp only [bv, byteOf_toNat hx]
theorem rep_bv (n : Nat) : List.replicate n (Value.int .u8 0) = (List.replicate n (0 : UInt8)).map bv := by
  rw [List.map_replicate]; rfl

set_option maxRecDepth 20000 in
set_option maxHeartbeats 400000 in
theorem l01Long_any (m x : Nat) (w : World) (hm : 0 < m) (hm2 : m ≤ 1000000) (hx : x < 256) :
    Calls Try.prog 83 #[.int .i64 (m : Int), .int .u8 (x : Int)] w fun e w' => ∃ l : List UInt8, l.length = m ∧ e = .returned (.string ⟨l.toArray⟩) ∧ Below w.heap.size w w' := by
  obtain ⟨i0, hi, hz0, hz1, hz2⟩ := info_parts Try.infoBC
  go_enter Try.func83, Try.ntmps83
  go_wp2_with (at_make; refine wpList_make_full _ rfl _ _ 22 rfl w.heap.size 5 i0 (.int .u8 0) 1 Try.underlying22 hi hz0 hz1 _ _ _ _ m rfl rfl rfl rfl (by rw [hz2]; omega) (by unfold maxLen; omega) (Nat.le_refl _) ?_; intro w1 hown1 hgrow1)
  have hb1 : Below w.heap.size w w1 := (Below.refl _ _).grown hgrow1 (Nat.le_refl _) (fun k hk => by cases hk)
  have hown0 : OwnB w1 w.heap.size 5 (.slice (some ⟨w.heap.size, 0, none⟩) m m) (List.replicate m (0 : UInt8)) := by
    have e1 : (madeCells (Value.int .u8 0).cells (m * 1)).toList = (List.replicate m (0 : UInt8)).map bv := by
      show (madeCells #[Value.int .u8 0] (m * 1)).toList = _
      rw [Nat.mul_one, toList_madeCells_one, rep_bv]
    rw [e1] at hown1
    unfold OwnB
    rw [List.length_replicate]
    exact hown1
  clear hown1 hgrow1
  go_loopw [6] (fun ti wr => ∃ (k : Nat) (l : List UInt8), k ≤ m ∧ ti = .int .i64 (k : Int) ∧ l.length = m ∧ OwnB wr w.heap.size 5 (.slice (some ⟨w.heap.size, 0, none⟩) m m) l ∧ Below w.heap.size w wr)
    (fun ti _ => m - (intOf ti).toNat)
  case atStart => exact ⟨0, _, Nat.zero_le _, rfl, List.length_replicate, hown0, hb1⟩
  case round =>
    obtain ⟨k, l, hk, rfl, hl, hown, hb⟩ := hrel
    clear hown0 hb1
    by_cases hlt : k < m
    · have hownV : OwnV wr w.heap.size 5 (.slice (some ⟨w.heap.size, 0, none⟩) m m) (l.map bv) := by unfold OwnV; rw [List.length_map]; exact hown
      have hset := hownV.set k (.int .u8 (x : Int))
      rw [map_set_bv l k x hx] at hset
      have hown2 : OwnB (wr.setCell ⟨w.heap.size, k, none⟩ (.int .u8 (x : Int))) w.heap.size 5 (.slice (some ⟨w.heap.size, 0, none⟩) m m) (l.set k (byteOf x)) := by
        unfold OwnV at hset; rw [List.length_map] at hset; exact hset
      have hcell : wr.cell? ⟨w.heap.size, k, none⟩ = some (bv (l[k]'(by omega))) := hownV.cell (by rw [List.getElem?_map, List.getElem?_eq_getElem (by omega)]; rfl)
      have hfr := hownV.frozen k
      have hb2 := hb.setCell (p := ⟨w.heap.size, k, none⟩) (Nat.le_refl _) (.int .u8 (x : Int))
      have hl2 : (l.set k (byteOf x)).length = m := by rw [List.length_set]; exact hl
      replace hset := hide hset
      replace hownV := hide hownV
      replace hown2 := hide hown2
      replace hb2 := hide hb2
      replace hown := hide hown
      replace hl2 := hide hl2
      clear hb
      go_wp2
      go_roundw
      case rel => exact ⟨k + 1, _, by omega, by go_num, unhide hl2, unhide hown2, unhide hb2⟩
      case measure => simp [intOf]; omega
    · have hc := run_string_owned (P := Try.prog) wr 22 9 5 w.heap.size _ _ Try.underlying22 Try.underlying5 Try.underlying9 hown
      replace hown := hide hown
      go_wp2
      go_ret
      exact ⟨l, hl, rfl, hb⟩

end Go.Proofs.Ytecononlghjepae

/- The draws of chapter 5 by contracts, over the loaded program. -/
namespace Go.Proofs.Ytecononlghjepae
open Go.RowKit
set_option maxRecDepth 20000 in
set_option maxHeartbeats 400000 in
theorem l01PickP_any {w : World} {base g n c : Nat} {o : Option Addr} (p : Int → Prop) (h : Cur w base g o n c) (hn : n ≤ 1048576) (b k cap : Nat) (hk : 0 < k) (hk2 : k ≤ 1000) (hN : ∀ j, j < k → ∃ z, w.cell? ⟨b, j, none⟩ = some (.int .i64 z) ∧ p z) (hbg : b ≠ g) :
    Calls Try.prog 79 #[.pointer (some ⟨g, 0, none⟩), .slice (some ⟨b, 0, none⟩) k cap] w fun e w' => ∃ z : Int, p z ∧ e = .returned (.int .i64 z) ∧ Only g w w' ∧ Cur w' base g o n c := by
  have H := hide h
  have HN := hide hN
  clear h hN
  go_enter Try.func79, Try.ntmps79
  go_wp2_with fail
  go_at_call 44
  refine (l01Below_any (unhide H) hn k hk (by omega)).mono ?_
  rintro e w1 ⟨x, hx, rfl, ho, hc⟩
  replace hc := hide hc
  obtain ⟨z, hcell, hz⟩ := (unhide HN) x hx
  have hcell1 : w1.cell? ⟨b, x, none⟩ = some (.int .i64 z) := (World.cell?_of_block (w := w) (ho.block b hbg)).trans hcell
  replace ho := hide ho
  replace hz := hide hz
  have hx0 : (0 : Int) ≤ (x : Int) := by omega
  have hx1 : (x : Int) < (k : Int) := by omega
  go_wp2
  go_ret
  exact ⟨z, unhide hz, rfl, unhide ho, unhide hc⟩
set_option maxRecDepth 20000 in
set_option maxHeartbeats 400000 in
theorem l01Long0_any (m x : Nat) (w : World) (hm2 : m ≤ 1000000) (hx : x < 256) :
    Calls Try.prog 83 #[.int .i64 (m : Int), .int .u8 (x : Int)] w fun e w' => ∃ l : List UInt8, l.length = m ∧ e = .returned (.string ⟨l.toArray⟩) ∧ Below w.heap.size w w' := by
  obtain ⟨i0, hi, hz0, hz1, hz2⟩ := info_parts Try.infoBC
  go_enter Try.func83, Try.ntmps83
  go_wp2_with (at_make; refine wpList_make_full _ rfl _ _ 22 rfl w.heap.size 5 i0 (.int .u8 0) 1 Try.underlying22 hi hz0 hz1 _ _ _ _ m rfl rfl rfl rfl (by rw [hz2]; omega) (by unfold maxLen; omega) (Nat.le_refl _) ?_; intro w1 hown1 hgrow1)
  have hb1 : Below w.heap.size w w1 := (Below.refl _ _).grown hgrow1 (Nat.le_refl _) (fun k hk => by cases hk)
  have hown0 : OwnB w1 w.heap.size 5 (.slice (some ⟨w.heap.size, 0, none⟩) m m) (List.replicate m (0 : UInt8)) := by
    have e1 : (madeCells (Value.int .u8 0).cells (m * 1)).toList = (List.replicate m (0 : UInt8)).map bv := by
      show (madeCells #[Value.int .u8 0] (m * 1)).toList = _
      rw [Nat.mul_one, toList_madeCells_one, rep_bv]
    rw [e1] at hown1
    unfold OwnB
    rw [List.length_replicate]
    exact hown1
  clear hown1 hgrow1
  go_loopw [6] (fun ti wr => ∃ (k : Nat) (l : List UInt8), k ≤ m ∧ ti = .int .i64 (k : Int) ∧ l.length = m ∧ OwnB wr w.heap.size 5 (.slice (some ⟨w.heap.size, 0, none⟩) m m) l ∧ Below w.heap.size w wr)
    (fun ti _ => m - (intOf ti).toNat)
  case atStart => exact ⟨0, _, Nat.zero_le _, rfl, List.length_replicate, hown0, hb1⟩
  case round =>
    obtain ⟨k, l, hk, rfl, hl, hown, hb⟩ := hrel
    clear hown0 hb1
    by_cases hlt : k < m
    · have hownV : OwnV wr w.heap.size 5 (.slice (some ⟨w.heap.size, 0, none⟩) m m) (l.map bv) := by unfold OwnV; rw [List.length_map]; exact hown
      have hset := hownV.set k (.int .u8 (x : Int))
      rw [map_set_bv l k x hx] at hset
      have hown2 : OwnB (wr.setCell ⟨w.heap.size, k, none⟩ (.int .u8 (x : Int))) w.heap.size 5 (.slice (some ⟨w.heap.size, 0, none⟩) m m) (l.set k (byteOf x)) := by
        unfold OwnV at hset; rw [List.length_map] at hset; exact hset
      have hcell : wr.cell? ⟨w.heap.size, k, none⟩ = some (bv (l[k]'(by omega))) := hownV.cell (by rw [List.getElem?_map, List.getElem?_eq_getElem (by omega)]; rfl)
      have hfr := hownV.frozen k
      have hb2 := hb.setCell (p := ⟨w.heap.size, k, none⟩) (Nat.le_refl _) (.int .u8 (x : Int))
      have hl2 : (l.set k (byteOf x)).length = m := by rw [List.length_set]; exact hl
      replace hset := hide hset
      replace hownV := hide hownV
      replace hown2 := hide hown2
      replace hb2 := hide hb2
      replace hown := hide hown
      replace hl2 := hide hl2
      clear hb
      go_wp2
      go_roundw
      case rel => exact ⟨k + 1, _, by omega, by go_num, unhide hl2, unhide hown2, unhide hb2⟩
      case measure => simp [intOf]; omega
    · have hc := run_string_owned (P := Try.prog) wr 22 9 5 w.heap.size _ _ Try.underlying22 Try.underlying5 Try.underlying9 hown
      replace hown := hide hown
      go_wp2
      go_ret
      exact ⟨l, hl, rfl, hb⟩
theorem nums13 (w : World) (T : TypeId) : ∀ j, j < 13 → ∃ z, (w.alloc (.cells #[.int .i64 0, .int .i64 3, .int .i64 10, .int .i64 54, .int .i64 55, .int .i64 56, .int .i64 57, .int .i64 63, .int .i64 64, .int .i64 65, .int .i64 119, .int .i64 120, .int .i64 130] T)).cell? ⟨w.heap.size, j, none⟩ = some (.int .i64 z) ∧ (0 ≤ z ∧ z ≤ 130) := by
  intro j hj
  rw [cell_of_row _ w.heap.size j _ T (0, 0) (heap_alloc_new w _)]
  match j, hj with
  | 0, _ => exact ⟨0, rfl, by decide⟩
  | 1, _ => exact ⟨3, rfl, by decide⟩
  | 2, _ => exact ⟨10, rfl, by decide⟩
  | 3, _ => exact ⟨54, rfl, by decide⟩
  | 4, _ => exact ⟨55, rfl, by decide⟩
  | 5, _ => exact ⟨56, rfl, by decide⟩
  | 6, _ => exact ⟨57, rfl, by decide⟩
  | 7, _ => exact ⟨63, rfl, by decide⟩
  | 8, _ => exact ⟨64, rfl, by decide⟩
  | 9, _ => exact ⟨65, rfl, by decide⟩
  | 10, _ => exact ⟨119, rfl, by decide⟩
  | 11, _ => exact ⟨120, rfl, by decide⟩
  | 12, _ => exact ⟨130, rfl, by decide⟩
  | j + 13, hj => exact absurd hj (by omega)
set_option maxRecDepth 20000 in
set_option maxHeartbeats 400000 in
theorem l05Text_any {w : World} {base g n c : Nat} {o : Option Addr} (h : Cur w base g o n c) (hn : n ≤ 1048576) :
    Calls Try.prog 53 #[.pointer (some ⟨g, 0, none⟩)] w fun e w' => ∃ s : ByteArray, s.size ≤ 200 ∧ e = .returned (.string s) ∧ Below base w w' ∧ Cur w' base g o n c := by
  have hlo := h.lo
  have hgl := h.lt
  have H1 := hide (h.below ((Below.refl w.heap.size w).alloc (Nat.le_refl _) (.cells #[.int .i64 0, .int .i64 3, .int .i64 10, .int .i64 54, .int .i64 55, .int .i64 56, .int .i64 57, .int .i64 63, .int .i64 64, .int .i64 65, .int .i64 119, .int .i64 120, .int .i64 130] 3)) hgl)
  have HN := hide (nums13 w 3)
  have hb1 : Below base w (w.alloc (.cells #[.int .i64 0, .int .i64 3, .int .i64 10, .int .i64 54, .int .i64 55, .int .i64 56, .int .i64 57, .int .i64 63, .int .i64 64, .int .i64 65, .int .i64 119, .int .i64 120, .int .i64 130] 3)) := (Below.refl base w).alloc (by omega) _
  have hne : w.heap.size ≠ g := by omega
  clear h
  go_enter Try.func53, Try.ntmps53
  go_wp2_with fail
  generalize w.alloc (.cells #[.int .i64 0, .int .i64 3, .int .i64 10, .int .i64 54, .int .i64 55, .int .i64 56, .int .i64 57, .int .i64 63, .int .i64 64, .int .i64 65, .int .i64 119, .int .i64 120, .int .i64 130] 3) = w1 at *
  refine (l01PickP_any (fun z => 0 ≤ z ∧ z ≤ 130) (unhide H1) hn w.heap.size 13 13 (by omega) (by omega) (unhide HN) hne).mono ?_
  rintro e w2 ⟨z, ⟨hz0, hz1⟩, rfl, ho2, hc2⟩
  obtain ⟨m, rfl⟩ : ∃ m : Nat, z = (m : Int) := ⟨z.toNat, by omega⟩
  have hb2 := hb1.trans (ho2.below hlo)
  replace hc2 := hide hc2
  clear hb1 ho2 H1 HN
  go_wp2_with fail
  refine (l01Below_any (unhide hc2) hn 5 (by omega) (by omega)).mono ?_
  rintro e w3 ⟨x, hx, rfl, ho3, hc3⟩
  have hb3 := hb2.trans (ho3.below hlo)
  replace hc3 := hide hc3
  clear hb2 ho3 hc2
  go_wp2_with fail
  refine (l01Text_any (unhide hc3) hn x (by omega)).mono ?_
  rintro e w4 ⟨l, hl, rfl, hb34, hc4⟩
  have hb4 := hb3.trans hb34
  replace hc4 := hide hc4
  clear hb3 hb34 hc3
  go_wp2_with fail
  refine (l01Below_any (unhide hc4) hn 20 (by omega) (by omega)).mono ?_
  rintro e w5 ⟨y, hy, rfl, ho5, hc5⟩
  have hb5 := hb4.trans (ho5.below hlo)
  clear hb4 ho5 hc4
  have hgl5 := hc5.lt
  replace hc5 := hide hc5
  obtain ⟨y2, hy2⟩ : ∃ y2, y2 = 65 + y := ⟨_, rfl⟩
  have ey : IntKind.i64.wrap (65 + (y : Int)) = (y2 : Int) := by rw [IntKind.wrap_i64]; omega
  have ey2 : IntKind.u8.wrap (y2 : Int) = (y2 : Int) := by rw [IntKind.wrap_u8]; omega
  have hyl : y2 < 256 := by omega
  replace hy2 := hide hy2
  go_wp2_with fail
  refine (l01Long0_any m y2 w5 (by omega) hyl).mono ?_
  rintro e w6 ⟨l2, hl2, rfl, hb56⟩
  have hc6 := (unhide hc5).below hb56 hgl5
  have hb6 := hb5.trans (hb56.mono (by omega))
  clear hb5 hb56 hc5
  go_wp2
  go_ret
  refine ⟨_, ?_, rfl, hb6, hc6⟩
  rw [ByteArray.size_append]
  show l.length + l2.length ≤ 200
  omega
end Go.Proofs.Ytecononlghjepae

/- Drawn polynomials, by contracts, over the loaded program. -/
namespace Go.Proofs.Ytecononlghjepae
open Go.RowKit
theorem gTB9 {w w1 w2 : World} {r : Option Nat} (h : w.grownBy w1 r) (hb : Below w.heap.size w1 w2) : w.grownBy w2 r :=
  ⟨by rw [hb.os, h.os], by rw [hb.tape, h.tape], by rw [hb.output, h.output], Nat.le_trans h.size hb.size, fun j hj hr => by rw [hb.block j hj, h.block j hj hr]⟩
theorem gO9 {g : Nat} {w w' : World} (h : Only g w w') : w.grownBy w' (some g) := ⟨h.os, h.tape, h.output, by rw [h.size]; exact Nat.le_refl _, fun k _ hk => h.block k (fun e => hk (by rw [e]))⟩
def rngL (l : List Int) : Prop := ∀ x ∈ l, 0 ≤ x ∧ x ≤ 3328
theorem rngL_add {l : List Int} (h : rngL l) {x : Int} (hx : 0 ≤ x ∧ x ≤ 3328) : rngL (l ++ [x]) := by
  intro y hy
  rw [List.mem_append] at hy
  rcases hy with h1 | h1
  · exact h y h1
  · rw [List.mem_singleton] at h1; rw [h1]; exact hx
theorem rngL_set {l : List Int} (h : rngL l) (k : Nat) {x : Int} (hx : 0 ≤ x ∧ x ≤ 3328) : rngL (l.set k x) := by
  intro y hy
  rcases List.mem_or_eq_of_mem_set hy with h1 | h1
  · exact h y h1
  · rw [h1]; exact hx
theorem okPl_rng {l : List Int} (hl : l.length = 256) (h : rngL l) : okPl l = true :=
  okPl_of hl fun i hi => by rw [cAt_lt (by omega)]; exact h _ (List.getElem_mem _)
theorem map_add_iv (l : List Int) (x : Int) : l.map iv ++ [.int .i64 x] = (l ++ [x]).map iv := by rw [List.map_append]; rfl
theorem OwnV.some9 {w : World} {base n c : Nat} {a : Option Addr} {e : TypeId} {xs : List Value} (h : OwnV w base e (.slice a n c) xs) (hn : 0 < n) : ∃ g, a = some ⟨g, 0, none⟩ ∧ base ≤ g ∧ g < w.heap.size := by
  rcases h.2 with ⟨h1, _⟩ | ⟨g, cap, cur, h1, hb, h2, _⟩
  · simp only [Value.slice.injEq] at h1; omega
  · simp only [Value.slice.injEq] at h1
    refine ⟨g, h1.1, hb, ?_⟩
    rcases Nat.lt_or_ge g w.heap.size with h3 | h3
    · exact h3
    · rw [Array.getElem?_eq_none h3] at h2; cases h2
end Go.Proofs.Ytecononlghjepae

/- Draws of a seed and two places, over the loaded program. -/
namespace Go.Proofs.Ytecononlghjepae
open Go.RowKit
theorem nums5v (w : World) (T : TypeId) (a b : Int) (ha : -9223372036854775808 ≤ a ∧ a ≤ 9223372036854775807) (hb : -9223372036854775808 ≤ b ∧ b ≤ 9223372036854775807) : Nums (w.alloc (.cells #[.int .i64 (-1), .int .i64 a, .int .i64 b, .int .i64 9223372036854775807, .int .i64 (-9223372036854775808)] T)) w.heap.size 5 := by
  intro j hj
  rw [cell_of_row _ w.heap.size j _ T (0, 0) (heap_alloc_new w _)]
  match j, hj with
  | 0, _ => exact ⟨_, by decide, by decide, rfl⟩
  | 1, _ => exact ⟨a, ha.1, ha.2, rfl⟩
  | 2, _ => exact ⟨b, hb.1, hb.2, rfl⟩
  | 3, _ => exact ⟨_, by decide, by decide, rfl⟩
  | 4, _ => exact ⟨_, by decide, by decide, rfl⟩
  | j + 5, hj => exact absurd hj (by omega)

set_option maxRecDepth 20000 in
set_option maxHeartbeats 1000000 in
theorem l01Place_v {w : World} {base g n c : Nat} {o : Option Addr} (h : Cur w base g o n c) (hn : n ≤ 1048576) (m : Nat) (hm : 0 < m) (hm2 : m ≤ 1000000) :
    Calls Try.prog 45 #[.pointer (some ⟨g, 0, none⟩), .int .i64 (m : Int)] w fun e w' => ∃ z : Int, e = .returned (.int .i64 z) ∧ w.grownBy w' (some g) ∧ Cur w' base g o n c := by
  have hg := h.lt
  have H := hide h
  clear h
  go_enter Try.func45, Try.ntmps45
  go_wp2_with fail
  go_at_call 69
  refine (l01Once_any (unhide H) hn 15 (by decide) (by decide)).mono ?_
  rintro e w1 ⟨b, rfl, ho1, hc1⟩
  have G1 := hide (gO9 ho1)
  have s1 : w.heap.size ≤ w1.heap.size := by rw [ho1.size]; exact Nat.le_refl _
  replace hc1 := hide hc1
  clear ho1
  cases b with
  | true =>
    go_wp2_with fail
    go_at_call 79
    refine (l01PickInt_any ((unhide hc1).below ((Below.refl w1.heap.size w1).alloc (Nat.le_refl _) _) (by omega)) hn w1.heap.size 5 5 (by decide) (by decide) (nums5v w1 _ (m : Int) ((m : Int) + 1) (by omega) (by omega)) (by omega)).mono ?_
    rintro e w2 ⟨z, _, _, rfl, ho2, hc2⟩
    have G2 := hide (gT (unhide G1) (gT (gB ((Below.refl w1.heap.size w1).alloc (Nat.le_refl _) _) (some g)) (gO9 ho2)))
    replace hc2 := hide hc2
    replace ho2 := hide ho2
    go_wp2
    go_ret
    exact ⟨z, rfl, unhide G2, unhide hc2⟩
  | false =>
    go_wp2_with fail
    go_at_call 44
    refine (l01Below_any (unhide hc1) hn m hm (by omega)).mono ?_
    rintro e w2 ⟨x, hx, rfl, ho2, hc2⟩
    have G2 := hide (gT (unhide G1) (gO9 ho2))
    replace hc2 := hide hc2
    replace ho2 := hide ho2
    go_wp2
    go_ret
    exact ⟨(x : Int), rfl, unhide G2, unhide hc2⟩
end Go.Proofs.Ytecononlghjepae

/- The draws that leave every block but the cursor's. -/
namespace Go.Proofs.Ytecononlghjepae
open Go.RowKit
theorem gO {g : Nat} {w w' : World} (h : Only g w w') : w.grownBy w' (some g) := ⟨h.os, h.tape, h.output, by rw [h.size]; exact Nat.le_refl _, fun k _ hk => h.block k (fun e => hk (by rw [e]))⟩
theorem gTB {w w1 w2 : World} {r : Option Nat} (h : w.grownBy w1 r) (hb : Below w.heap.size w1 w2) : w.grownBy w2 r :=
  ⟨hb.os.trans h.os, hb.tape.trans h.tape, hb.output.trans h.output, Nat.le_trans h.size hb.size, fun i hi hr => (hb.block i hi).trans (h.block i hi hr)⟩
set_option maxRecDepth 20000 in
set_option maxHeartbeats 400000 in
theorem l01Text_g {w : World} {base g n c : Nat} {o : Option Addr} (h : Cur w base g o n c) (hn : n ≤ 1048576) (m : Nat) (hm : m ≤ 5000) :
    Calls Try.prog 43 #[.pointer (some ⟨g, 0, none⟩), .int .i64 (m : Int)] w fun e w' => ∃ l : List UInt8, l.length = m ∧ e = .returned (.string ⟨l.toArray⟩) ∧ w.grownBy w' (some g) ∧ Cur w' base g o n c := by
  obtain ⟨i0, hi, hz0, hz1, hz2⟩ := info_parts Try.infoBC
  have H := hide h
  clear h
  have h0 : ¬ (5000 : Int) < (m : Int) := by omega
  go_enter Try.func43, Try.ntmps43
  go_wp2
  have hg := (unhide H).lt
  have hlo := (unhide H).lo
  go_loopw [5, 6] (fun v ti wr => ∃ (k : Nat) (pre : List UInt8), k ≤ m ∧ pre.length = k ∧ ti = .int .i64 (k : Int) ∧ OwnB wr w.heap.size 5 v pre ∧ w.grownBy wr (some g) ∧ Hid (Cur wr base g o n c))
    (fun _ ti _ => m - (intOf ti).toNat)
  case atStart => exact ⟨0, [], Nat.zero_le _, rfl, rfl, World.ownsRow_made w #[] 0 (Nat.le_refl _) (by decide) (by simp), gB ((Below.refl w.heap.size w).alloc (Nat.le_refl _) _) _, (unhide H).below ((Below.refl (g + 1) w).alloc (by omega) _) (by omega)⟩
  case round =>
    clear H h0
    obtain ⟨k, pre, hk, hpl, rfl, hown, hb, HC⟩ := hrel
    have hsz := hb.size
    by_cases hlt : k < m
    · go_wp2_with fail
      go_at_call 46
      refine (l01Byte_any (unhide HC) hn).mono ?_
      rintro e w1 ⟨x, hx, rfl, ho, hc1⟩
      have hown1 := hown.only ho hg
      have hb1 := gT hb (gO ho)
      have hsz1 := hb1.size
      replace hc1 := hide hc1
      replace ho := hide ho
      clear hown hb HC
      have hbx : ((byteOf x).toNat : Int) = (x : Int) := by rw [byteOf_toNat hx]
      go_wp2_with (at_builtin; refine wpList_append_bytes rfl (.tmp 15) (.tmp 19) 22 rfl w.heap.size w.heap.size 5 i0 Try.underlying22 hi hz0 hz1 hz2 _ pre rfl hown1 _ [byteOf x] (cs_at hbx) 1 1 rfl rfl (by omega) (Nat.le_refl _) hsz1 (Below.refl _ w1) ?_; intro v' w2 hown' hb2)
      have hc2 := hide ((unhide hc1).below hb2 hg)
      have hb' := gTB hb1 hb2
      clear hown1 hb1 hb2 hc1
      go_wp2
      go_roundw
      case rel => exact ⟨k + 1, pre ++ [byteOf x], by omega, by simp [hpl], by go_num, hown', hb', hc2⟩
      case measure => simp [intOf]; omega
    · have hke : k = m := by omega
      have hc := run_string_owned (P := Try.prog) wr 22 9 5 w.heap.size _ _ Try.underlying22 Try.underlying5 Try.underlying9 hown
      clear hown
      go_wp2
      go_ret
      exact ⟨pre, by omega, rfl, hb, unhide HC⟩

theorem HB.grown {w w' : World} {k g : Nat} {T : TypeId} {a : Hs} (h : HB w k T a) (hg : w.grownBy w' (some g)) (hne : k ≠ g) : HB w' k T a := by
  have hl := h.lt
  unfold HB at h ⊢
  rw [hg.block k hl (fun e => hne (Option.some.inj e))]; exact h
set_option maxRecDepth 20000 in
set_option maxHeartbeats 400000 in
theorem l05Text_g {w : World} {base g n c : Nat} {o : Option Addr} (h : Cur w base g o n c) (hn : n ≤ 1048576) :
    Calls Try.prog 53 #[.pointer (some ⟨g, 0, none⟩)] w fun e w' => ∃ s : ByteArray, s.size ≤ 200 ∧ e = .returned (.string s) ∧ w.grownBy w' (some g) ∧ Cur w' base g o n c := by
  have hgl := h.lt
  have H1 := hide (h.below ((Below.refl w.heap.size w).alloc (Nat.le_refl _) (.cells #[.int .i64 0, .int .i64 3, .int .i64 10, .int .i64 54, .int .i64 55, .int .i64 56, .int .i64 57, .int .i64 63, .int .i64 64, .int .i64 65, .int .i64 119, .int .i64 120, .int .i64 130] 3)) hgl)
  have HN := hide (nums13 w 3)
  have hb1 : w.grownBy (w.alloc (.cells #[.int .i64 0, .int .i64 3, .int .i64 10, .int .i64 54, .int .i64 55, .int .i64 56, .int .i64 57, .int .i64 63, .int .i64 64, .int .i64 65, .int .i64 119, .int .i64 120, .int .i64 130] 3)) (some g) := gB ((Below.refl w.heap.size w).alloc (Nat.le_refl _) _) _
  have hne : w.heap.size ≠ g := by omega
  clear h
  go_enter Try.func53, Try.ntmps53
  go_wp2_with fail
  generalize w.alloc (.cells #[.int .i64 0, .int .i64 3, .int .i64 10, .int .i64 54, .int .i64 55, .int .i64 56, .int .i64 57, .int .i64 63, .int .i64 64, .int .i64 65, .int .i64 119, .int .i64 120, .int .i64 130] 3) = w1 at *
  refine (l01PickP_any (fun z => 0 ≤ z ∧ z ≤ 130) (unhide H1) hn w.heap.size 13 13 (by omega) (by omega) (unhide HN) hne).mono ?_
  rintro e w2 ⟨z, ⟨hz0, hz1⟩, rfl, ho2, hc2⟩
  obtain ⟨m, rfl⟩ : ∃ m : Nat, z = (m : Int) := ⟨z.toNat, by omega⟩
  have hb2 := gT hb1 (gO ho2)
  replace hc2 := hide hc2
  clear hb1 ho2 H1 HN
  go_wp2_with fail
  refine (l01Below_any (unhide hc2) hn 5 (by omega) (by omega)).mono ?_
  rintro e w3 ⟨x, hx, rfl, ho3, hc3⟩
  have hb3 := gT hb2 (gO ho3)
  replace hc3 := hide hc3
  clear hb2 ho3 hc2
  go_wp2_with fail
  refine (l01Text_g (unhide hc3) hn x (by omega)).mono ?_
  rintro e w4 ⟨l, hl, rfl, hb34, hc4⟩
  have hb4 := gT hb3 hb34
  replace hc4 := hide hc4
  clear hb3 hb34 hc3
  go_wp2_with fail
  refine (l01Below_any (unhide hc4) hn 20 (by omega) (by omega)).mono ?_
  rintro e w5 ⟨y, hy, rfl, ho5, hc5⟩
  have hb5 := gT hb4 (gO ho5)
  clear hb4 ho5 hc4
  have hgl5 := hc5.lt
  replace hc5 := hide hc5
  obtain ⟨y2, hy2⟩ : ∃ y2, y2 = 65 + y := ⟨_, rfl⟩
  have ey : IntKind.i64.wrap (65 + (y : Int)) = (y2 : Int) := by rw [IntKind.wrap_i64]; omega
  have ey2 : IntKind.u8.wrap (y2 : Int) = (y2 : Int) := by rw [IntKind.wrap_u8]; omega
  have hyl : y2 < 256 := by omega
  replace hy2 := hide hy2
  go_wp2_with fail
  refine (l01Long0_any m y2 w5 (by omega) hyl).mono ?_
  rintro e w6 ⟨l2, hl2, rfl, hb56⟩
  have hc6 := (unhide hc5).below hb56 hgl5
  have hb6 := gT hb5 (gB hb56 _)
  clear hb5 hb56 hc5
  go_wp2
  go_ret
  refine ⟨_, ?_, rfl, hb6, hc6⟩
  rw [ByteArray.size_append]
  show l.length + l2.length ≤ 200
  omega
end Go.Proofs.Ytecononlghjepae

/- A text that is picked out of short ones, over the loaded program. -/
namespace Go.Proofs.Ytecononlghjepae
open Go.RowKit
def Txt9 (w : World) (b k : Nat) : Prop := ∀ j, j < k → ∃ s : ByteArray, s.size ≤ 9 ∧ w.cell? ⟨b, j, none⟩ = some (.string s)
set_option maxHeartbeats 400000 in
theorem l01Pick_9 {w : World} {base g n c : Nat} {o : Option Addr} (h : Cur w base g o n c) (hn : n ≤ 1048576) (b k cap : Nat) (hk : 0 < k) (hk2 : k ≤ 1000) (hN : Txt9 w b k) (hbg : b ≠ g) :
    Calls Try.prog 97 #[.pointer (some ⟨g, 0, none⟩), .slice (some ⟨b, 0, none⟩) k cap] w fun e w' => ∃ s : ByteArray, s.size ≤ 9 ∧ e = .returned (.string s) ∧ Only g w w' ∧ Cur w' base g o n c := by
  have H := hide h
  have HN := hide hN
  clear h hN
  go_enter Try.func97, Try.ntmps97
  go_wp2_with fail
  go_at_call 44
  refine (l01Below_any (unhide H) hn k hk (by omega)).mono ?_
  rintro e w1 ⟨x, hx, rfl, ho, hc⟩
  replace hc := hide hc
  obtain ⟨z, hz1, hcell⟩ := (unhide HN) x hx
  have hcell1 : w1.cell? ⟨b, x, none⟩ = some (.string z) := (World.cell?_of_block (w := w) (ho.block b hbg)).trans hcell
  replace ho := hide ho
  have hx0 : (0 : Int) ≤ (x : Int) := by omega
  have hx1 : (x : Int) < (k : Int) := by omega
  go_wp2
  go_ret
  exact ⟨z, hz1, rfl, unhide ho, unhide hc⟩
theorem txt9_4 (w : World) (T : TypeId) : Txt9 (w.alloc (.cells #[.string ⟨#[]⟩, .string ⟨#[97]⟩, .string ⟨#[98]⟩, .string ⟨#[115, 101, 101, 100]⟩] T)) w.heap.size 4 := by
  intro j hj
  rw [cell_of_row _ w.heap.size j _ T (0, 0) (heap_alloc_new w _)]
  match j, hj with
  | 0, _ => exact ⟨_, by decide, rfl⟩
  | 1, _ => exact ⟨_, by decide, rfl⟩
  | 2, _ => exact ⟨_, by decide, rfl⟩
  | 3, _ => exact ⟨_, by decide, rfl⟩
  | j + 4, hj => exact absurd hj (by omega)
end Go.Proofs.Ytecononlghjepae

/- Draws of seeds, leaves and texts, over the loaded program. -/
namespace Go.Proofs.Ytecononlghjepae
open Go.RowKit
set_option maxRecDepth 20000 in
set_option maxHeartbeats 400000 in
theorem l16Seed_any {w : World} {base g n c : Nat} {o : Option Addr} (h : Cur w base g o n c) (hn : n ≤ 1048576) :
    Calls Try.prog 87 #[.pointer (some ⟨g, 0, none⟩)] w fun e w' => ∃ s : ByteArray, s.size ≤ 9 ∧ e = .returned (.string s) ∧ w.grownBy w' (some g) ∧ Cur w' base g o n c := by
  have hg := h.lt
  have H := hide h
  clear h
  go_enter Try.func87, Try.ntmps87
  go_wp2_with fail
  go_at_call 97
  refine (l01Pick_9 ((unhide H).below ((Below.refl w.heap.size w).alloc (Nat.le_refl _) _) hg) hn w.heap.size 4 4 (by decide) (by decide) (txt9_4 w _) (by omega)).mono ?_
  rintro e w1 ⟨s, hs, rfl, ho, hc⟩
  have G1 := hide (gT (gB ((Below.refl w.heap.size w).alloc (Nat.le_refl _) _) (some g)) (gO ho))
  replace hc := hide hc
  clear ho H
  go_wp2
  go_ret
  exact ⟨s, hs, rfl, unhide G1, unhide hc⟩
end Go.Proofs.Ytecononlghjepae

/- The law FnOnce, walked over the loaded program; what the project's functions answer is a premise. -/
namespace Go.Proofs.Ytecononlghjepae
open Go.RowKit
theorem OwnV.loU {w : World} {base : Nat} {e : TypeId} {v : Value} {xs : List Value} (h : OwnV w base e v xs) : ∀ k, v.ownBlock = some k → base ≤ k ∧ k < w.heap.size := fun k hk => World.ownsRow.lt h k hk
theorem row_some15 {w : World} {base : Nat} {e : TypeId} {v : Value} {xs : List Value} (h : OwnV w base e v xs) (hn : 0 < xs.length) : ∃ g c, v = .slice (some ⟨g, 0, none⟩) xs.length c ∧ base ≤ g ∧ g < w.heap.size ∧ xs.length ≤ c := by
  have h0 := h
  rcases h.2 with ⟨_, h2⟩ | ⟨g, cap, cur, h1, hb, _, hc, _⟩
  · omega
  · refine ⟨g, cap, h1, hb, ?_, hc⟩
    have := World.ownsRow.lt h0 g (by rw [h1]; rfl)
    exact this.2
set_option maxRecDepth 20000 in
set_option maxHeartbeats 1000000 in
theorem sameTexts_any (l : List ByteArray) (v1 v2 : Value) (w : World) (hr1 : RdV w v1 (l.map sv)) (hr2 : RdV w v2 (l.map sv)) (hln : l.length ≤ 2000000) :
    Calls Try.prog 24 #[v1, v2] w fun e w' => e = .returned (.bool true) ∧ Below w.heap.size w w' := by
  obtain ⟨a1, c1, rfl, hc1⟩ := hr1.open
  obtain ⟨a2, c2, rfl, hc2⟩ := hr2.open
  clear hr1 hr2
  rw [List.length_map]
  obtain ⟨n, hnn⟩ : ∃ n, l.length = n := ⟨_, rfl⟩
  rw [hnn] at hln ⊢
  replace hnn := hide hnn
  go_enter Try.func24, Try.ntmps24
  go_wp2
  go_loopw [5] (fun ti wr => ∃ k q : Nat, k ≤ n ∧ ti = .int .i64 k ∧ wr = w.drewN q) (fun ti _ => n - (intOf ti).toNat)
  case atStart => exact ⟨0, 0, Nat.zero_le _, rfl, rfl⟩
  case round =>
    obtain ⟨k, q, hk, rfl, rfl⟩ := hrel
    by_cases hlt : k < n
    · have hk' : k < l.length := by rw [unhide hnn]; exact hlt
      have hf := sv_get l k hk'
      obtain ⟨g1, o1, rfl, hg1, d1⟩ := hc1 k _ hf
      obtain ⟨g2, o2, rfl, hg2, d2⟩ := hc2 k _ hf
      have hi0 : (0 : Int) ≤ (k : Int) := by omega
      have hi1 : (k : Int) < (n : Int) := by omega
      generalize l[k] = told at *
      clear hc1 hc2 hf
      go_wp2
      go_quiet (fail)
      go_wp2
      go_roundw
      case rel => exact ⟨k + 1, _, by omega, by go_num, by first | rfl | rw [World.drewN_drewN]⟩
      case measure => simp [intOf]; omega
    · go_wp2
      go_ret
      exact ⟨rfl, bDN (Below.refl _ w) _⟩
theorem keysO_sizes (s : ByteArray) (leaf : Int) : (keysO s leaf).length = 10 ∧ ∀ x ∈ keysO s leaf, x.size = 4 := by
  unfold keysO
  refine ⟨by rw [List.length_map, List.length_range], fun x hx => ?_⟩
  obtain ⟨i, _, rfl⟩ := List.mem_map.1 hx
  unfold keyO
  exact chopB_size _
set_option maxRecDepth 20000 in
set_option maxHeartbeats 400000 in
theorem l14Keys_any {w : World} {base g n c : Nat} {o : Option Addr} (h : Cur w base g o n c) (hn : n ≤ 1048576) :
    Calls Try.prog 55 #[.pointer (some ⟨g, 0, none⟩)] w fun e w' => ∃ (l : List ByteArray) (v : Value), (l.length = 10 ∨ l.length = 9) ∧ (∀ x ∈ l, x.size = 4) ∧ e = .returned v ∧ RdV w' v (l.map sv) ∧ (∀ k, v.ownBlock = some k → g < k) ∧ w.grownBy w' (some g) ∧ Cur w' base g o n c := by
  have H := hide h
  clear h
  go_enter Try.func55, Try.ntmps55
  go_wp2_with fail
  refine (l01Below_any (unhide H) hn 5 (by decide) (by decide)).mono ?_
  rintro e w1 ⟨x, hx, rfl, ho1, hc1⟩
  have G1 := gO ho1
  clear H ho1
  go_wp2_with fail
  refine (l01Text_g hc1 hn x (by omega)).mono ?_
  rintro e w2 ⟨lt, hlt, rfl, g2, hc2⟩
  have G2 := gT G1 g2
  have hsz : (⟨lt.toArray⟩ : ByteArray).size ≤ 200 := by show lt.length ≤ 200; omega
  generalize (⟨lt.toArray⟩ : ByteArray) = s at *
  clear hc1 G1 g2 hlt
  go_wp2_with fail
  refine (l01Below_any hc2 hn 4 (by decide) (by decide)).mono ?_
  rintro e w3 ⟨y, hy, rfl, ho3, hc3⟩
  have G3 := gT G2 (gO ho3)
  clear hc2 G2 ho3
  go_wp2_with fail
  refine (specOnceKey_any s (y : Int) (by omega) w3).mono ?_
  rintro e w4 ⟨⟨v, rfl, ow⟩, hb4⟩
  obtain ⟨hK1, hK2⟩ := keysO_sizes s (y : Int)
  generalize keysO s (y : Int) = l at *
  have hgl := hc3.lt
  have hc4 := hc3.below hb4 hgl
  have G4 := gT G3 (gB hb4 (some g))
  obtain ⟨gv, cv, rfl, hgv, hgv2, hcv⟩ := row_some15 ow (by rw [List.length_map]; omega)
  have hr4 := ow.rdv
  rw [List.length_map, hK1] at hr4 hcv ⊢
  clear hc3 G3 ow
  go_wp2_with fail
  refine (l01Once_any hc4 hn 12 (by decide) (by decide)).mono ?_
  rintro e w5 ⟨b, rfl, ho5, hc5⟩
  have G5 := gT G4 (gO ho5)
  have hs45 := (gO ho5).size
  have hr5 := hr4.grown (gO ho5) (fun k hk => by have e : gv = k := Option.some.inj hk; intro h; have := Option.some.inj h; omega)
  clear hc4 G4 hr4 ho5 hb4
  cases b with
  | false =>
    go_wp2
    go_ret
    exact ⟨l, _, .inl hK1, hK2, rfl, hr5, fun k hk => by have e : gv = k := Option.some.inj hk; omega, G5, hc5⟩
  | true =>
    have hcv' : (10 : Int) ≤ (cv : Int) := by omega
    have hr6 : RdV w5 (.slice (some ⟨gv, 1, none⟩) 9 (cv - 1)) ((l.drop 1).map sv) := by
      obtain ⟨s0, c0, he, hcell⟩ := hr5.open
      obtain ⟨rfl, _, rfl⟩ := Value.slice.inj he
      refine .inr ⟨gv, 1, cv - 1, by rw [List.length_map, List.length_drop, hK1], by rw [List.length_map, List.length_drop, hK1]; omega, Nat.lt_of_lt_of_le hgv2 hs45, fun j xx hj => ?_⟩
      obtain ⟨g1, o1, e1, _, hcl⟩ := hcell (1 + j) xx (by rw [← hj, List.map_drop, List.getElem?_drop])
      obtain ⟨rfl, rfl, _⟩ := Addr.mk.inj (Option.some.inj e1)
      rw [← hcl]
      congr 2
      omega
    clear hr5
    go_wp2
    go_ret
    exact ⟨l.drop 1, _, .inr (by rw [List.length_drop, hK1]), fun x hx => hK2 x (List.mem_of_mem_drop hx), rfl, hr6, fun k hk => by have e : gv = k := Option.some.inj hk; omega, G5, hc5⟩
theorem sumS_most (l : List ByteArray) (c : Nat) (h : ∀ x ∈ l, x.size ≤ c) : sumS l ≤ c * l.length := by
  induction l with
  | nil => exact Nat.zero_le _
  | cons x xs ih =>
    have h1 := h x (by simp)
    have h2 := ih (fun y hy => h y (by simp [hy]))
    show x.size + sumS xs ≤ c * (xs.length + 1)
    rw [Nat.mul_add, Nat.mul_one]
    omega
theorem onceS_sizes (l : List ByteArray) (leaf : Int) (m : ByteArray) (hl : l.length = 10) (h : ∀ x ∈ l, x.size = 4) : (onceS l leaf m).length = 10 ∧ sumS (onceS l leaf m) ≤ 80 := by
  have hlen : (onceS l leaf m).length = 10 := by unfold onceS; rw [if_pos hl, List.length_map, List.length_range]
  refine ⟨hlen, ?_⟩
  have := sumS_most (onceS l leaf m) 8 (fun x hx => by
    unfold onceS at hx
    rw [if_pos hl] at hx
    obtain ⟨i, hi, rfl⟩ := List.mem_map.1 hx
    have h1 := chn_le (bAt l i) leaf (i : Int) 0 (dgAt m i)
    have h2 := bAt_size l i 4 (by rw [hl]; exact List.mem_range.1 hi) (fun x hx => by rw [h x hx]; exact Nat.le_refl _)
    omega)
  rw [hlen] at this
  omega
set_option maxRecDepth 20000 in
set_option maxHeartbeats 400000 in
theorem drawOnceSign_any (w : World) (o : Option Addr) (n c : Nat) (hs : Src w w.heap.size o n) (hn : n ≤ 1048576) :
    Calls Try.prog 18 #[.slice o n c] w fun e w' => ∃ (l : List ByteArray) (v : Value) (leaf : Int) (m : ByteArray), (l.length = 10 ∨ l.length = 9) ∧ (∀ x ∈ l, x.size = 4) ∧ m.size ≤ 200 ∧ e = .returned (.tuple #[v, .int .i64 leaf, .string m]) ∧ RdV w' v (l.map sv) ∧ Below w.heap.size w w' := by
  have HS := hide hs
  clear hs
  go_enter Try.func18, Try.ntmps18
  go_wp2_with fail
  refine (l01New_any w o n c (unhide HS) hn).mono ?_
  rintro e w1 ⟨rfl, hb1, hc1⟩
  obtain ⟨g, hg⟩ : ∃ g, g = w.heap.size := ⟨_, rfl⟩
  rw [← hg] at hc1 ⊢
  have hgle : w.heap.size ≤ g := by omega
  clear HS hg
  go_wp2_with fail
  refine (l14Keys_any hc1 hn).mono ?_
  rintro e w2 ⟨l, v, hl, hsz, rfl, hr2, hv, g2, hc2⟩
  have hb2 := hb1.grown g2 hb1.size (fun k hk => by cases hk; exact hgle)
  clear hc1 hb1 g2
  go_wp2_with fail
  refine (l01Place_v hc2 hn 4 (by omega) (by omega)).mono ?_
  rintro e w3 ⟨i, rfl, g3, hc3⟩
  have hb3 := hb2.grown g3 hb2.size (fun k hk => by cases hk; exact hgle)
  have hr3 := hr2.grown g3 (fun k hk => by have := hv k hk; intro h; have := Option.some.inj h; omega)
  clear hc2 hb2 g3 hr2
  go_wp2_with fail
  refine (l05Text_g hc3 hn).mono ?_
  rintro e w4 ⟨m, hm, rfl, g4, hc4⟩
  have hb4 := hb3.grown g4 hb3.size (fun k hk => by cases hk; exact hgle)
  have hr4 := hide (hr3.grown g4 (fun k hk => by have := hv k hk; intro h; have := Option.some.inj h; omega))
  clear hc3 hb3 g4 hr3 hc4
  go_wp2
  refine bodyPost_ret (v := .tuple #[v, .int .i64 i, .string m]) (by simp [results, Try.results18, go_sem]) rfl ⟨l, v, i, m, hl, hsz, hm, rfl, unhide hr4, hb4⟩
set_option maxRecDepth 20000 in
set_option maxHeartbeats 1000000 in
theorem lawOnce_any (w : World) (o : Option Addr) (n c : Nat) (hs : Src w w.heap.size o n)
    (CK : ∀ (s : ByteArray) (leaf : Int) (W : World), s.size ≤ 1048576 → Below w.heap.size w W → Calls Try.prog 21 #[.string s, .int .i64 leaf] W fun e w' => (∃ v, e = .returned v ∧ OwnV w' W.heap.size 9 v ((keysO s leaf).map sv)) ∧ Below W.heap.size W w')
    (CP : ∀ (l : List ByteArray) (leaf : Int) (W : World) (ua : Value), l.length + sumS l ≤ 1048576 → Below w.heap.size w W → RdV W ua (l.map sv) → Calls Try.prog 20 #[ua, .int .i64 leaf] W fun e w' => e = .returned (.string (onceP l leaf)) ∧ Below W.heap.size W w')
    (CG : ∀ (l : List ByteArray) (leaf : Int) (m : ByteArray) (W : World) (ua : Value), l.length + sumS l ≤ 1048576 → m.size ≤ 1048576 → Below w.heap.size w W → RdV W ua (l.map sv) → Calls Try.prog 19 #[ua, .int .i64 leaf, .string m] W fun e w' => (∃ v, e = .returned v ∧ OwnV w' W.heap.size 9 v ((onceS l leaf m).map sv)) ∧ Below W.heap.size W w')
    (CF : ∀ (l : List ByteArray) (leaf : Int) (m : ByteArray) (W : World) (ua : Value), l.length + sumS l ≤ 1048576 → m.size ≤ 1048576 → Below w.heap.size w W → RdV W ua (l.map sv) → Calls Try.prog 22 #[ua, .int .i64 leaf, .string m] W fun e w' => e = .returned (.string (onceF l leaf m)) ∧ Below W.heap.size W w') :
    Calls Try.prog 5 #[.slice o n c] w fun e w' => e = .returned (.bool true) ∧ Below w.heap.size w w' := by
  have HS := hide hs
  replace CK := hide CK; replace CP := hide CP; replace CG := hide CG; replace CF := hide CF
  clear hs
  by_cases hbig : (1048576 : Int) < (n : Int)
  · have hd : decide ((1048576 : Int) < (n : Int)) = true := by rw [decide_eq_true_iff]; exact hbig
    go_enter Try.func5, Try.ntmps5
    go_wp2_with (go_at_call 8; refine (big_any w o n c).mono ?_; rintro e w1 ⟨rfl, rfl⟩)
    go_ret
    exact ⟨rfl, Below.refl _ _⟩
  have hd : decide ((1048576 : Int) < (n : Int)) = false := by rw [decide_eq_false_iff_not]; exact hbig
  have hn : n ≤ 1048576 := by omega
  go_enter Try.func5, Try.ntmps5
  go_wp2_with fail
  refine (big_any w o n c).mono ?_
  rintro e w0 ⟨rfl, hw0⟩
  have hw0' := hw0.symm
  subst hw0'
  clear hw0
  go_wp2_with fail
  refine (drawOnceSign_any w o n c (unhide HS) hn).mono ?_
  rintro e w1 ⟨l, v, leaf, m, hl, hsz, hm, rfl, hr, HT1⟩
  clear HS
  have hsum := sumS_most l 4 (fun x hx => by rw [hsz x hx]; exact Nat.le_refl _)
  have hls : l.length + sumS l ≤ 1048576 := by omega
  obtain ⟨av, cv, rfl, -⟩ := hr.open
  rw [List.length_map] at hr ⊢
  replace hsum := hide hsum
  go_wp2_with fail
  refine ((unhide CG) l leaf m w1 _ hls (by omega) HT1 hr).mono ?_
  rintro e w2 ⟨⟨vS, rfl, oS⟩, hb2⟩
  have HT2 := HT1.trans (hb2.mono HT1.size)
  have hr2 := hr.below hb2
  have rS2 := oS.rdv
  clear hb2 HT1 hr CG oS
  go_wp2_with fail
  refine ((unhide CP) l leaf w2 _ hls HT2 hr2).mono ?_
  rintro e w3 ⟨rfl, hb3⟩
  have HT3 := HT2.trans (hb3.mono HT2.size)
  have hr3 := hr2.below hb3
  have rS3 := rS2.below hb3
  clear hb3 HT2 hr2 rS2 CP
  by_cases h10 : l.length = 10
  · have h10' : (l.length : Int) = 10 := by omega
    obtain ⟨hS1, hS2⟩ := onceS_sizes l leaf m h10 hsz
    have hF := hide (once_found l leaf m h10)
    have hP4 : (onceP l leaf).size = 4 := by unfold onceP; rw [if_pos h10]; exact chopB_size _
    have hP4' : ((onceP l leaf).size : Int) = 4 := by omega
    obtain ⟨aS, cS, rfl, -⟩ := rS3.open
    rw [List.length_map, hS1] at rS3 ⊢
    rw [h10] at hr3 ⊢
    have CSP := hide (fun (W : World) (h : Below w3.heap.size w3 W) => specOncePublic_any l leaf _ W (hr3.below h) (fun x hx => by rw [hsz x hx]; omega))
    have CSK := hide (fun (W : World) => specOnceKey_any ⟨#[115, 101, 101, 100]⟩ leaf (by decide) W)
    obtain ⟨hK1, hK2⟩ := keysO_sizes ⟨#[115, 101, 101, 100]⟩ leaf
    have CK2 := hide (unhide CK ⟨#[115, 101, 101, 100]⟩ leaf w3 (by decide) HT3)
    have CF2 := hide (fun (W : World) (h : Below w.heap.size w W) (r : RdV W (.slice aS 10 cS) ((onceS l leaf m).map sv)) => unhide CF (onceS l leaf m) leaf m W _ (by rw [hS1]; omega) (by omega) h r)
    rw [unhide hF] at CF2
    generalize onceP l leaf = p at *
    generalize keysO ⟨#[115, 101, 101, 100]⟩ leaf = ks at *
    clear CK CF hF
    replace hls := hide hls; replace h10 := hide h10; replace hS1 := hide hS1; replace hS2 := hide hS2
    go_wp2_with fail
    refine (unhide CK2).mono ?_
    rintro e w4 ⟨⟨vK, rfl, oK⟩, hb4⟩
    have HT4 := HT3.trans (hb4.mono HT3.size)
    have rS4 := rS3.below hb4
    have rK4 := oK.rdv
    have B4 := hb4
    obtain ⟨aK, cK, rfl, -⟩ := rK4.open
    rw [List.length_map, hK1] at rK4 ⊢
    clear hb4 HT3 rS3 CK2 oK
    go_wp2_with fail
    refine (unhide CF2 w4 HT4 rS4).mono ?_
    rintro e w5 ⟨rfl, hb5⟩
    have HT5 := HT4.trans (hb5.mono HT4.size)
    have rK5 := rK4.below hb5
    have B5 := B4.trans (hb5.mono B4.size)
    clear hb5 HT4 rS4 rK4 B4 CF2
    go_wp2_with fail
    refine (unhide CSP w5 B5).mono ?_
    rintro e w6 ⟨rfl, hb6⟩
    have HT6 := HT5.trans (hb6.mono HT5.size)
    have rK6 := rK5.below hb6
    clear hb6 HT5 rK5 B5 CSP
    go_wp2_with fail
    refine (unhide CSK w6).mono ?_
    rintro e w7 ⟨⟨vJ, rfl, oJ⟩, hb7⟩
    have HT7 := HT6.trans (hb7.mono HT6.size)
    have rK7 := rK6.below hb7
    clear hb7 HT6 rK6 CSK
    go_wp2_with fail
    refine (sameTexts_any ks _ _ w7 rK7 oJ.rdv (by omega)).mono ?_
    rintro e w8 ⟨rfl, hb8⟩
    have HT8 := HT7.trans (hb8.mono HT7.size)
    clear HT7 hb8 rK7 oJ
    go_wp2
    go_ret
    exact ⟨rfl, HT8⟩
  · have h10' : ¬ (l.length : Int) = 10 := by omega
    have hS0 : onceS l leaf m = [] := by unfold onceS; rw [if_neg h10]
    have hP0 : onceP l leaf = ⟨#[]⟩ := by unfold onceP; rw [if_neg h10]
    rw [hS0] at rS3
    rw [hP0]
    obtain ⟨aS, cS, rfl, -⟩ := rS3.open
    clear rS3 hr3 hls
    replace hS0 := hide hS0; replace hP0 := hide hP0; replace h10 := hide h10
    go_wp2
    go_ret
    exact ⟨by simp, HT3⟩
end Go.Proofs.Ytecononlghjepae

