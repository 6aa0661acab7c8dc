/- Merged: Sig3, Sig4, LawSig, LawSg2, ArgSig, Hyp0, HyH, Hyp1, Hyp2. -/
import Derived.Test.YtjgnjjphankhnacMga1
import Derived.Test.YtjgnjjphankhnacMga2
import Derived.Test.YtjgnjjphankhnacMga3
import Derived.Test.YtjgnjjphankhnacMga4
import Derived.Test.YtjgnjjphankhnacMga5
import Derived.Test.YtjgnjjphankhnacMga6
import Derived.Test.YtjgnjjphankhnacMga7
import Derived.Deep.RegionHeld3
import Derived.Below
import Derived.Carry
import Derived.WalkKit
import Derived.WideShapes
import Derived.Deep.Strs
/- Keys of a tree by the given model: a signature's text, over the loaded program. -/
namespace Go.Proofs.Ytjgnjjphankhnac
open Go.RowKit
set_option maxRecDepth 20000 in
set_option maxHeartbeats 800000 in
theorem specSigText_any (s : Sg) (v : Value) (w : World) (hr : RdSg w v s) (n1 : s.once.length ≤ 2000000) (n2 : s.path.length ≤ 2000000) :
    Calls Try.prog 27 #[v] w fun e w' => e = .returned (.tuple #[.string (sgT s), .bool (sgOk s)]) ∧ Below w.heap.size w w' := by
  have C0 := hide (fun (W : World) (h : Below w.heap.size w W) => specSigOk_any s v W (hr.below h) n1 n2)
  obtain ⟨lf, l1, l2⟩ := s
  have CB0 := hide (fun W => specByteY_any lf W)
  obtain ⟨v1, v2, rfl, r1, r2, -⟩ := hr
  cases ho : sgOk ⟨lf, l1, l2⟩ with
  | true =>
    rw [ho] at C0
    have f1 := sgOk_once ho
    have f2 := sgOk_path ho
    obtain ⟨_, k1, k2⟩ := sgOk_shape ho
    obtain ⟨a1, c1, rfl, hc1⟩ := r1.open
    obtain ⟨a2, c2, rfl, hc2⟩ := r2.open
    replace hc1 : ∀ k, k < 10 → ∃ g o, a1 = some ⟨g, o, none⟩ ∧ g < w.heap.size ∧ w.cell? ⟨g, o + k, none⟩ = some (.string (bAt l1 k)) := fun k hk => hc1 k _ (bAt_get l1 k (by have : l1.length = 10 := k1; omega))
    replace hc2 : ∀ k, k < 2 → ∃ g o, a2 = some ⟨g, o, none⟩ ∧ g < w.heap.size ∧ w.cell? ⟨g, o + k, none⟩ = some (.string (bAt l2 k)) := fun k hk => hc2 k _ (bAt_get l2 k (by have : l2.length = 2 := k2; omega))
    have z1 := hide (fun k (hk : k < 10) => bAt_four f1 k (by have : l1.length = 10 := k1; omega))
    have z2 := hide (fun k (hk : k < 2) => bAt_four f2 k (by have : l2.length = 2 := k2; omega))
    have q1 := hide (fun k (hk : k ≤ 10) => catT_size (oneY lf) (bAt l1) 10 (fun i hi => unhide z1 i hi) k hk)
    have q2 := hide (fun k (hk : k ≤ 2) => catT_size (catT (oneY lf) (bAt l1) 10) (bAt l2) 2 (fun i hi => unhide z2 i hi) k hk)
    have q0 := unhide q1 10 (Nat.le_refl _)
    rw [oneY_size] at q1 q0
    rw [q0] at q2
    have EC := hide (show sgT ⟨lf, l1, l2⟩ = catT (catT (oneY lf) (bAt l1) 10) (bAt l2) 2 from sgT_is ho)
    rw [unhide EC]
    unfold sgv at C0 ⊢
    show Calls _ _ #[.agg #[.int .i64 lf, .slice a1 (l1.map sv).length c1, .slice a2 (l2.map sv).length c2]] _ _
    have e1 : (l1.map sv).length = 10 := by rw [List.length_map]; exact k1
    have e2 : (l2.map sv).length = 2 := by rw [List.length_map]; exact k2
    have C0' := hide (fun (W : World) (h : Below w.heap.size w W) => show Calls Try.prog 25 #[.agg #[.int .i64 lf, .slice a1 (l1.map sv).length c1, .slice a2 (l2.map sv).length c2]] W _ from unhide C0 W h)
    rw [e1, e2] at C0' ⊢
    have S1 := hide (show ∀ k, catT (oneY lf) (bAt l1) (k + 1) = catT (oneY lf) (bAt l1) k ++ bAt l1 k from fun k => rfl)
    have S2 := hide (show ∀ k, catT (catT (oneY lf) (bAt l1) 10) (bAt l2) (k + 1) = catT (catT (oneY lf) (bAt l1) 10) (bAt l2) k ++ bAt l2 k from fun k => rfl)
    have T1 := hide (show catT (oneY lf) (bAt l1) 0 = oneY lf from rfl)
    have T2 := hide (show catT (catT (oneY lf) (bAt l1) 10) (bAt l2) 0 = catT (oneY lf) (bAt l1) 10 from rfl)
    rw [← unhide T1] at CB0
    generalize catT (catT (oneY lf) (bAt l1) 10) (bAt l2) = F2 at *
    generalize catT (oneY lf) (bAt l1) = F1 at *
    generalize bAt l1 = b1 at *
    generalize bAt l2 = b2 at *
    clear r1 r2 n1 n2 k1 k2 f1 f2 ho EC e1 e2 C0 q0 T1
    go_enter Try.func27, Try.ntmps27
    go_wp2_with fail
    obtain ⟨W, hW, hP, hB, hs1⟩ := one_cb w #[.int .i64 lf, .slice a1 10 c1, .slice a2 2 c2] 29
    rw [hW]
    clear hW
    refine (unhide C0' W hB).mono ?_
    rintro e w1 ⟨rfl, hb1⟩
    have hB1 := hB.trans (hb1.mono hB.size)
    have hP1 := hP.step hb1
    have p0 := hP1.cell 0 (v := .int .i64 lf) rfl
    clear hb1 hB hP C0'
    go_wp2_with fail
    refine (unhide CB0 w1).mono ?_
    rintro e w2 ⟨rfl, hb2⟩
    have hB2 := hB1.trans (hb2.mono hB1.size)
    have hP2 := hP1.step hb2
    have p1 := hP2.cell 1 (v := .slice a1 10 c1) rfl
    have p2 := hP2.cell 2 (v := .slice a2 2 c2) rfl
    clear hb2 hB1 hP1 p0 CB0
    replace hP2 := hide hP2
    go_wp2
    go_loopw [4, 5] (fun tt ti wr => ∃ k : Nat, k ≤ 10 ∧ ti = .int .i64 (k : Int) ∧ tt = .string (F1 k) ∧ wr = w2) (fun _ ti _ => 10 - (intOf ti).toNat)
    case atStart => exact ⟨0, by omega, rfl, rfl, rfl⟩
    case round =>
      obtain ⟨k, hk, rfl, rfl, hw⟩ := hrel
      have hw' := hw.symm
      subst hw'
      clear hw
      by_cases hlt : k < 10
      · have hk' : (k : Int) < 10 := by omega
        obtain ⟨g, o, rfl, hg, d1⟩ := hc1 k hlt
        replace d1 := (hB2.cell (p := ⟨g, o + k, none⟩) hg).trans d1
        have zz := unhide z1 k hlt
        have qq := unhide q1 k (by omega)
        have HC := hide (unhide S1 k)
        generalize b1 k = told at *
        have hadd : ¬ 9223372036854775807 < (F1 k).size + told.size := by omega
        have hadd2 : (F1 k).size + told.size ≤ 9223372036854775807 := by omega
        clear hc1 hc2 zz qq
        go_wp2
        exact ⟨⟨k + 1, by omega, by go_num, by rw [unhide HC], by first | rfl | trivial⟩, by simp [intOf]; omega⟩
      · have hk' : ¬ (k : Int) < 10 := by omega
        obtain rfl : k = 10 := by omega
        rw [← unhide T2]
        clear hc1 S1 T2
        go_wp2
        go_loopw [4, 6] (fun tt ti wr => ∃ k : Nat, k ≤ 2 ∧ ti = .int .i64 (k : Int) ∧ tt = .string (F2 k) ∧ wr = w2) (fun _ ti _ => 2 - (intOf ti).toNat)
        case atStart => exact ⟨0, by omega, rfl, rfl, rfl⟩
        case round =>
          obtain ⟨k, hk, rfl, rfl, hw⟩ := hrel
          have hw' := hw.symm
          subst hw'
          clear hw
          by_cases hlt2 : k < 2
          · have hk2 : (k : Int) < 2 := by omega
            obtain ⟨g, o, rfl, hg, d1⟩ := hc2 k hlt2
            replace d1 := (hB2.cell (p := ⟨g, o + k, none⟩) hg).trans d1
            have zz := unhide z2 k hlt2
            have qq := unhide q2 k (by omega)
            have HC := hide (unhide S2 k)
            generalize b2 k = told at *
            have hadd : ¬ 9223372036854775807 < (F2 k).size + told.size := by omega
            have hadd2 : (F2 k).size + told.size ≤ 9223372036854775807 := by omega
            clear hc2 zz qq
            go_wp2
            exact ⟨⟨k + 1, by omega, by go_num, by rw [unhide HC], by first | rfl | trivial⟩, by simp [intOf]; omega⟩
          · have hk2 : ¬ (k : Int) < 2 := by omega
            obtain rfl : k = 2 := by omega
            clear hc2
            go_wp2
            go_ret2
            exact ⟨rfl, hB2⟩
  | false =>
    rw [ho] at C0
    have EC := hide (show sgT ⟨lf, l1, l2⟩ = ⟨#[]⟩ by unfold sgT; rw [ho]; rfl)
    rw [unhide EC]
    obtain ⟨a1, c1, rfl⟩ := r1.shape
    obtain ⟨a2, c2, rfl⟩ := r2.shape
    unfold sgv at C0 ⊢
    clear r1 r2 n1 n2 ho EC
    show Calls _ _ #[.agg #[.int .i64 lf, .slice a1 (l1.map sv).length c1, .slice a2 (l2.map sv).length c2]] _ _
    generalize ((Sg.mk lf l1 l2).once.map sv).length = k1 at *
    generalize ((Sg.mk lf l1 l2).path.map sv).length = k2 at *
    go_enter Try.func27, Try.ntmps27
    go_wp2_with fail
    obtain ⟨W, hW, hP, hB, hs1⟩ := one_cb w #[.int .i64 lf, .slice a1 k1 c1, .slice a2 k2 c2] 29
    rw [hW]
    clear hW
    refine (unhide C0 W hB).mono ?_
    rintro e w1 ⟨rfl, hb1⟩
    have hB1 := hB.trans (hb1.mono hB.size)
    clear hb1 hB hP C0
    go_wp2
    go_ret2
    exact ⟨rfl, hB1⟩
end Go.Proofs.Ytjgnjjphankhnac

/- Keys of a tree by the given model: a signature that is read, over the loaded program. -/
namespace Go.Proofs.Ytjgnjjphankhnac
open Go.RowKit
theorem cut16 (T : ByteArray) (i j : Nat) (w : World) (h1 : i ≤ j) (h2 : j ≤ T.size) : (Instr.slice 9 (.string T) (some (.int .i64 (i : Int))) (some (.int .i64 (j : Int))) none).run Try.prog w = .ok (.string (T.extract i j)) w := by
  rw [run_slice_string_if w 9 T .i64 .i64 (i : Int) (j : Int) Try.underlying9, if_pos (by omega), if_pos (by omega)]
  rfl
/-- The texts of the first k parts, and of those behind the tenth. -/
def onK (F : Nat → ByteArray) (k : Nat) : List ByteArray := (List.range (min k 10)).map F
def ptK (F : Nat → ByteArray) (k : Nat) : List ByteArray := (List.range (k - 10)).map fun i => F (10 + i)
theorem onK_succ (F : Nat → ByteArray) (k : Nat) (h : k < 10) : onK F (k + 1) = onK F k ++ [F k] := by
  unfold onK
  rw [Nat.min_eq_left (by omega), Nat.min_eq_left (by omega), List.range_succ, List.map_append]
  rfl
theorem onK_ten (F : Nat → ByteArray) (k : Nat) (h : 10 ≤ k) : onK F k = onK F 10 := by unfold onK; rw [Nat.min_eq_right h]; rfl
theorem onK_len (F : Nat → ByteArray) (k : Nat) : (onK F k).length ≤ 10 := by unfold onK; rw [List.length_map, List.length_range]; exact Nat.min_le_right _ _
theorem ptK_len (F : Nat → ByteArray) (k : Nat) (h : k ≤ 12) : (ptK F k).length ≤ 2 := by unfold ptK; rw [List.length_map, List.length_range]; omega
theorem ptK_succ (F : Nat → ByteArray) (k : Nat) (h : 10 ≤ k) : ptK F (k + 1) = ptK F k ++ [F k] := by
  unfold ptK
  rw [show k + 1 - 10 = (k - 10) + 1 by omega, List.range_succ, List.map_append]
  show _ ++ [F (10 + (k - 10))] = _
  rw [show 10 + (k - 10) = k by omega]
theorem ptK_low (F : Nat → ByteArray) (k : Nat) (h : k ≤ 10) : ptK F k = [] := by unfold ptK; rw [show k - 10 = 0 by omega]; rfl
set_option maxRecDepth 20000 in
set_option maxHeartbeats 1600000 in
theorem specReadSig_any (t : ByteArray) (w : World) :
    Calls Try.prog 29 #[.string t] w fun e w' => (∃ v, e = .returned (.tuple #[v, .bool (rdOk t)]) ∧ OwnSg w' w.heap.size v (rdS t)) ∧ Below w.heap.size w w' := by
  obtain ⟨i0, hi, hz0, hz1, hz2⟩ := info_parts infoTxt
  by_cases h49 : t.size = 49
  · have h49' : (t.size : Int) = 49 := by omega
    have hix : ∀ h : 0 < t.size, (t[0]'h).toNat = byA t 0 := fun h => byA_at t 0 h
    have hbl := byA_lt t 0
    obtain ⟨b, hb⟩ : ∃ b, b = byA t 0 := ⟨_, rfl⟩
    rw [← hb] at hix hbl
    have q0 : IntKind.i64.wrap (b : Int) = (b : Int) := by rw [IntKind.wrap_i64]; omega
    have h0s : 0 < t.size := by omega
    by_cases h4 : b < 4
    · have hin : rdIn t := ⟨h49, by omega⟩
      have ER := hide (show rdS t = ⟨(b : Int), onK (prtB t) 12, ptK (prtB t) 12⟩ by unfold rdS; rw [if_pos (rdOk_of hin), hb]; rfl)
      rw [unhide ER, rdOk_of hin]
      have HS := hide (fun k (hk : k < 12) W => cut16 t (1 + k * 4) (1 + (k + 1) * 4) W (by omega) (by omega))
      have HS2 := hide (fun k (hk : k < 12) W => show (Instr.slice 9 (.string t) (some (.int .i64 ((1 + k * 4 : Nat) : Int))) (some (.int .i64 ((1 + (k + 1) * 4 : Nat) : Int))) none).run Try.prog W = .ok (.string (prtB t k)) W from unhide HS k hk W)
      generalize prtB t = F at *
      have h4' : ¬ (4 : Int) ≤ (b : Int) := by omega
      have h4d : decide ((4 : Int) ≤ (b : Int)) = false := decide_eq_false h4'
      replace hb := hide hb
      clear HS ER hin
      go_enter Try.func29, Try.ntmps29
      go_wp2
      obtain ⟨W, hW, hR, hV, hB, hs⟩ := two_cb w #[.int .i64 0, .slice none 0 0, .slice none 0 0] #[.int .i64 (b : Int), .slice none 0 0, .slice none 0 0] 29 29
      rw [hW]
      clear hW
      go_loopw [5] (fun ti wr => ∃ (k base2 : Nat) (v1 v2 : Value), k ≤ 12 ∧ ti = .int .i64 (k : Int) ∧ Hid (CB wr w.heap.size 29 #[.int .i64 0, .slice none 0 0, .slice none 0 0]) ∧ Hid (CB wr (w.heap.size + 1) 29 #[.int .i64 (b : Int), v1, v2]) ∧ Hid (OwnV wr w.heap.size 9 v1 ((onK F k).map sv)) ∧ Hid (OwnV wr base2 9 v2 ((ptK F k).map sv)) ∧ Hid (w.heap.size ≤ base2 ∧ base2 ≤ wr.heap.size ∧ ∀ j, v1.ownBlock = some j → j < base2) ∧ Hid (k ≤ 10 → v2 = .slice none 0 0) ∧ Below w.heap.size w wr) (fun ti _ => 12 - (intOf ti).toNat)
      case atStart => exact ⟨0, W.heap.size, _, _, by omega, rfl, hide hR, hide hV, hide (OwnV.nil _ _ _), hide (OwnV.nil _ _ _), hide ⟨hB.size, Nat.le_refl _, fun j hj => by cases hj⟩, hide (fun _ => rfl), hB⟩
      case round =>
        clear hR hV hB hs W
        obtain ⟨k, base2, v1, v2, hk, rfl, HR, HV, H1, H2, HB2, HN, hB⟩ := hrel
        have hbw := hB.size
        by_cases hlt : k < 12
        · have hk' : (k : Int) < 12 := by omega
          obtain ⟨m, hm⟩ : ∃ m, m = k * 4 := ⟨_, rfl⟩
          obtain ⟨m1, hm1⟩ : ∃ m1, m1 = 1 + k * 4 := ⟨_, rfl⟩
          obtain ⟨kk, hkk⟩ : ∃ m, m = k + 1 := ⟨_, rfl⟩
          obtain ⟨m2, hm2⟩ : ∃ m, m = (k + 1) * 4 := ⟨_, rfl⟩
          obtain ⟨m3, hm3⟩ : ∃ m, m = 1 + (k + 1) * 4 := ⟨_, rfl⟩
          have t1 : IntKind.i64.wrap ((k : Int) * 4) = (m : Int) := by rw [IntKind.wrap_i64]; omega
          have t2 : IntKind.i64.wrap (1 + (m : Int)) = (m1 : Int) := by rw [IntKind.wrap_i64]; omega
          have t3 : IntKind.i64.wrap ((k : Int) + 1) = (kk : Int) := by rw [IntKind.wrap_i64]; omega
          have t4 : IntKind.i64.wrap ((kk : Int) * 4) = (m2 : Int) := by rw [IntKind.wrap_i64]; omega
          have t5 : IntKind.i64.wrap (1 + (m2 : Int)) = (m3 : Int) := by rw [IntKind.wrap_i64]; omega
          have hsl := unhide HS2 k hlt
          rw [← hm1, ← hm3] at hsl
          by_cases h10 : k < 10
          · have h10' : (k : Int) < 10 := by omega
            have hv2 := unhide HN (by omega)
            subst hv2
            have HP := hide (onK_succ F k h10)
            have hpl : ((onK F k).map sv).length ≤ 1000 := by rw [List.length_map]; have := onK_len F k; omega
            have HQ := hide (show ptK F (k + 1) = [] from ptK_low F _ (by omega))
            obtain ⟨x, hx⟩ : ∃ x, x = F k := ⟨_, rfl⟩
            rw [← hx] at hsl HP
            have p1 := (unhide HV).cell 1 (v := v1) rfl
            replace hm := hide hm; replace hm1 := hide hm1; replace hkk := hide hkk; replace hm2 := hide hm2; replace hm3 := hide hm3; replace hx := hide hx; replace hpl := hide hpl
            clear HS2
            have off1 := hide ((unhide HV).off (unhide H1) (by decide))
            have off0 := hide ((unhide HR).off (unhide H1) (by decide))
            go_wp2_with (at_builtin; refine wpList_append_grow (w := wr) rfl (.tmp 37) (.tmp 39) 22 rfl w.heap.size 9 i0 (.string ⟨#[]⟩) 16 Try.underlying22 hi hz0 hz1 hz2 rfl v1 _ rfl (unhide H1) (.string x) rfl rfl (by have := unhide hpl; unfold maxLen; omega) (by have := unhide hpl; omega) hbw ?_; intro v' w' ho' hG; have hV2 := ((unhide HV).alloc (.cells #[.string x] 9)).grown hG (unhide off1); have hR2 := ((unhide HR).alloc (.cells #[.string x] 9)).grown hG (unhide off0); have hB2 := (hB.alloc hbw (.cells #[.string x] 9)).grown hG (by simp; omega) (fun j hj => ((unhide H1).lt j hj).1); obtain ⟨a', c', rfl⟩ := ho'.shape; generalize ((onK F k).map sv ++ [Value.string x]).length = n at *; have c1 := hV2.cell 1 (v := v1) rfl; have f1 := hV2.frozen 1)
            have hP2 : (onK F k).map sv ++ [.string x] = (onK F (k + 1)).map sv := by rw [unhide HP, List.map_append]; rfl
            rw [hP2] at ho'
            have o9 := hide (ho'.setO (w.heap.size + 1) 1 (.slice a' n c') (hV2.off ho' (by decide)))
            have V9 := hide (hV2.set 1 (.slice a' n c'))
            have R9 := hide (hR2.set_other (h := w.heap.size + 1) (k := 1) (by omega) (.slice a' n c'))
            have B9 := hB2.setCell (p := ⟨w.heap.size + 1, 1, none⟩) (by simp) (.slice a' n c')
            have lo9 := hide (fun j (hj : (Value.slice a' n c').ownBlock = some j) => ((unhide o9).lt j hj).2)
            exact ⟨⟨k + 1, (w'.setCell ⟨w.heap.size + 1, 1, none⟩ (.slice a' n c')).heap.size, .slice a' n c', .slice none 0 0, by omega, by rw [unhide hkk], R9, V9, o9, hide (by rw [unhide HQ]; exact OwnV.nil _ _ _), hide ⟨B9.size, Nat.le_refl _, unhide lo9⟩, hide (fun _ => rfl), B9⟩, by simp [intOf]; have := unhide hkk; omega⟩
          · have h10' : ¬ (k : Int) < 10 := by omega
            have HP := hide (ptK_succ F k (by omega))
            have hpl : ((ptK F k).map sv).length ≤ 1000 := by rw [List.length_map]; have := ptK_len F k (by omega); omega
            have HQ := hide (show onK F (k + 1) = onK F k by rw [onK_ten F _ (by omega), onK_ten F k (by omega)])
            obtain ⟨x, hx⟩ : ∃ x, x = F k := ⟨_, rfl⟩
            rw [← hx] at hsl HP
            have p2 := (unhide HV).cell 2 (v := v2) rfl
            have hb2 := (unhide HB2).2.1
            replace hm := hide hm; replace hm1 := hide hm1; replace hkk := hide hkk; replace hm2 := hide hm2; replace hm3 := hide hm3; replace hx := hide hx; replace hpl := hide hpl
            clear HS2
            have off1 := hide ((unhide HV).off (unhide H2) (by decide))
            have off0 := hide ((unhide HR).off (unhide H2) (by decide))
            have ap := hide (show ∀ j, v1.ownBlock = some j → v2.ownBlock ≠ some j from fun j hj hj2 => by
              have h1 := (unhide HB2).2.2 j hj
              have h2 := ((unhide H2).lt j hj2).1
              omega)
            go_wp2_with (at_builtin; refine wpList_append_grow (w := wr) rfl (.tmp 43) (.tmp 45) 22 rfl base2 9 i0 (.string ⟨#[]⟩) 16 Try.underlying22 hi hz0 hz1 hz2 rfl v2 _ rfl (unhide H2) (.string x) rfl rfl (by have := unhide hpl; unfold maxLen; omega) (by have := unhide hpl; omega) hb2 ?_; intro v' w' ho' hG; have hV2 := ((unhide HV).alloc (.cells #[.string x] 9)).grown hG (unhide off1); have hR2 := ((unhide HR).alloc (.cells #[.string x] 9)).grown hG (unhide off0); have hB2 := (hB.alloc hbw (.cells #[.string x] 9)).grown hG (by simp; omega) (fun j hj => Nat.le_trans (unhide HB2).1 ((unhide H2).lt j hj).1); have ho1 := hide (((unhide H1).alloc (.cells #[.string x] 9)).grown hG (fun j hj e => unhide ap j hj e)); have hsz2 := hG.size; obtain ⟨a', c', rfl⟩ := ho'.shape; generalize ((ptK F k).map sv ++ [Value.string x]).length = n at *; have c2 := hV2.cell 2 (v := v2) rfl; have f2 := hV2.frozen 2)
            have hP2 : (ptK F k).map sv ++ [.string x] = (ptK F (k + 1)).map sv := by rw [unhide HP, List.map_append]; rfl
            rw [hP2] at ho'
            have o9 := hide (ho'.setO (w.heap.size + 1) 2 (.slice a' n c') (hV2.off ho' (by decide)))
            have o8 := hide ((unhide ho1).setO (w.heap.size + 1) 2 (.slice a' n c') (hV2.off (unhide ho1) (by decide)))
            have V9 := hide (hV2.set 2 (.slice a' n c'))
            have R9 := hide (hR2.set_other (h := w.heap.size + 1) (k := 2) (by omega) (.slice a' n c'))
            have B9 := hB2.setCell (p := ⟨w.heap.size + 1, 2, none⟩) (by simp) (.slice a' n c')
            have hs9 : base2 ≤ (w'.setCell ⟨w.heap.size + 1, 2, none⟩ (.slice a' n c')).heap.size := by simp at hsz2 ⊢; omega
            exact ⟨⟨k + 1, base2, v1, .slice a' n c', by omega, by rw [unhide hkk], R9, V9, hide (by rw [unhide HQ]; exact unhide o8), o9, hide ⟨(unhide HB2).1, hs9, (unhide HB2).2.2⟩, hide (fun h => absurd h (by omega)), B9⟩, by simp [intOf]; have := unhide hkk; omega⟩
        · have hk' : ¬ (k : Int) < 12 := by omega
          obtain rfl : k = 12 := by omega
          have s1 := (unhide H1).shape
          have s2 := (unhide H2).shape
          obtain ⟨a1, c1, rfl⟩ := s1
          obtain ⟨a2, c2, rfl⟩ := s2
          generalize ((onK F 12).map sv).length = n1 at *
          generalize ((ptK F 12).map sv).length = n2 at *
          have of1 := hide ((unhide HR).off (unhide H1) (by decide))
          have of2 := hide ((unhide HR).off (unhide H2) (by decide))
          have p0 := (unhide HV).cell 0 (v := .int .i64 (b : Int)) rfl
          have p1 := (unhide HV).cell 1 (v := .slice a1 n1 c1) rfl
          have p2 := (unhide HV).cell 2 (v := .slice a2 n2 c2) rfl
          have r0 := (unhide HR).cell 0 (v := .int .i64 0) rfl
          have r1 := (unhide HR).cell 1 (v := .slice none 0 0) rfl
          have r2 := (unhide HR).cell 2 (v := .slice none 0 0) rfl
          have g0 := (unhide HR).frozen 0
          have g1 := (unhide HR).frozen 1
          have g2 := (unhide HR).frozen 2
          have ap := hide (show ∀ j, (Value.slice a1 n1 c1).ownBlock = some j → (Value.slice a2 n2 c2).ownBlock ≠ some j from fun j hj hj2 => by
            have h1 := (unhide HB2).2.2 j hj
            have h2 := ((unhide H2).lt j hj2).1
            omega)
          clear HS2
          go_wp2
          have hF := hide ((((unhide HR).set 0 (.int .i64 (b : Int))).set 1 (.slice a1 n1 c1)).set 2 (.slice a2 n2 c2))
          have hBF := hide (((hB.setCell (p := ⟨w.heap.size, 0, none⟩) (Nat.le_refl _) (.int .i64 (b : Int))).setCell (p := ⟨w.heap.size, 1, none⟩) (Nat.le_refl _) (.slice a1 n1 c1)).setCell (p := ⟨w.heap.size, 2, none⟩) (Nat.le_refl _) (.slice a2 n2 c2))
          have o6 := hide ((((unhide H1).setO w.heap.size 0 (.int .i64 (b : Int)) (unhide of1)).setO w.heap.size 1 (.slice a1 n1 c1) (unhide of1)).setO w.heap.size 2 (.slice a2 n2 c2) (unhide of1))
          have o7 := hide ((((unhide H2).setO w.heap.size 0 (.int .i64 (b : Int)) (unhide of2)).setO w.heap.size 1 (.slice a1 n1 c1) (unhide of2)).setO w.heap.size 2 (.slice a2 n2 c2) (unhide of2))
          exact bodyPost_ret (results_cb_tmp (by exact Try.results29) _ _ _ _ _ _ rfl (unhide hF) Try.underlying29 (by kernel_rfl)) rfl ⟨⟨_, rfl, _, _, rfl, unhide o6, (unhide o7).low (unhide HB2).1, unhide ap⟩, unhide hBF⟩
    · have hno : rdOk t = false := by
        cases e : rdOk t with
        | false => rfl
        | true => exact absurd (rdOk_in e).2 (by rw [← hb]; exact h4)
      have ER := hide (show rdS t = ⟨0, [], []⟩ by unfold rdS; rw [hno]; rfl)
      rw [unhide ER, hno]
      have h4' : (4 : Int) ≤ (b : Int) := by omega
      have h4d : decide ((4 : Int) ≤ (b : Int)) = true := decide_eq_true h4'
      replace hb := hide hb
      clear ER hno
      go_enter Try.func29, Try.ntmps29
      go_wp2
      obtain ⟨W, hW, hR, hB, hs1⟩ := one_cb w #[.int .i64 0, .slice none 0 0, .slice none 0 0] 29
      rw [hW]
      exact bodyPost_ret (results_cb_tmp (by exact Try.results29) _ _ _ _ _ _ rfl hR Try.underlying29 (by kernel_rfl)) rfl ⟨⟨_, rfl, _, _, rfl, OwnV.nil _ _ _, OwnV.nil _ _ _, fun k hk => by cases hk⟩, hB⟩
  · have hno : rdOk t = false := by
      cases e : rdOk t with
      | false => rfl
      | true => exact absurd (rdOk_in e).1 h49
    have ER := hide (show rdS t = ⟨0, [], []⟩ by unfold rdS; rw [hno]; rfl)
    rw [unhide ER, hno]
    have h49' : ¬ (t.size : Int) = 49 := by omega
    clear ER hno h49
    go_enter Try.func29, Try.ntmps29
    go_wp2
    obtain ⟨W, hW, hR, hB, hs1⟩ := one_cb w #[.int .i64 0, .slice none 0 0, .slice none 0 0] 29
    rw [hW]
    exact bodyPost_ret (results_cb_tmp (by exact Try.results29) _ _ _ _ _ _ rfl hR Try.underlying29 (by kernel_rfl)) rfl ⟨⟨_, rfl, _, _, rfl, OwnV.nil _ _ _, OwnV.nil _ _ _, fun k hk => by cases hk⟩, hB⟩
end Go.Proofs.Ytjgnjjphankhnac

/- The laws FnExactSignAt, FnExactReadSig, walked over the loaded program; what the project's functions answer are premises. -/
namespace Go.Proofs.Ytjgnjjphankhnac
open Go.RowKit
theorem MkSg.low {w w' : World} {base B : Nat} {v : Value} {s : Sg} (h : MkSg w base v s) (hb : Below B w w') (hB : w.heap.size ≤ B) : MkSg w' base v s := h.below (hb.mono hB)
theorem OwnSg.belowAt {w w' : World} {base B : Nat} {v : Value} {s : Sg} (h : OwnSg w base v s) (hb : Below B w w') (hB : w.heap.size ≤ B) : OwnSg w' base v s := h.below (hb.mono hB)
end Go.Proofs.Ytjgnjjphankhnac

/- The laws FnExactPublicOf, FnExactSigOk, FnExactCheckSig, FnExactSigText, walked over the loaded program; what the project's functions answer are premises. -/
namespace Go.Proofs.Ytjgnjjphankhnac
open Go.RowKit
theorem RdSg.open {w : World} {v : Value} {s : Sg} (h : RdSg w v s) : ∃ a1 n1 c1 a2 n2 c2, v = .agg #[.int .i64 s.leaf, .slice a1 n1 c1, .slice a2 n2 c2] := by
  obtain ⟨v1, v2, rfl, h1, h2, -⟩ := h
  obtain ⟨a1, c1, rfl⟩ := h1.shape
  obtain ⟨a2, c2, rfl⟩ := h2.shape
  exact ⟨_, _, _, _, _, _, rfl⟩
/-- What is asked of a signature's texts, that they may be reckoned with. -/
def okSg (s : Sg) : Prop := (∀ x ∈ s.once, x.size ≤ maxLen) ∧ (∀ x ∈ s.path, x.size ≤ maxLen) ∧ s.once.length ≤ maxLen ∧ s.path.length ≤ maxLen
theorem szSig_sg (s : Sg) (v : Value) (w : World) (hr : RdSg w v s) (hk : okSg s) :
    Calls Try.prog 20 #[v, .int .i64 1048576] w fun e w' => (∃ z : Int, e = .returned (.int .i64 z) ∧ (z < 0 ∨ (0 ≤ z ∧ s.once.length + sumS s.once + s.path.length + sumS s.path ≤ 1048576))) ∧ Below w.heap.size w w' := by
  obtain ⟨v1, v2, rfl, r1, r2, -⟩ := hr
  exact szSig_any s.leaf s.once s.path v1 v2 w r1 r2 hk.1 hk.2.1 hk.2.2.1 hk.2.2.2
end Go.Proofs.Ytjgnjjphankhnac

/- A signature that comes in as an argument. -/
namespace Go.Proofs.Ytjgnjjphankhnac
open Go.ChangeShapes Go.WideShapes Go.ChangeAt Go.RowKit Go.WideElems
theorem three_ofS {α : Type} {l : List α} (h : l.length = 3) : ∃ a b c, l = [a, b, c] := by
  match l, h with
  | [a, b, c], _ => exact ⟨a, b, c, rfl⟩
theorem texts_cells {H : Type} {enc : TypeId × Value → H} {W : World} {fuel : Nat} {u : Value} {y : DataW H × List MemPlace} (hf : DataW.trod enc Try.prog W 0 (fun _ => true) true fuel 22 [u] = some y) :
    ∃ ss : List ByteArray, RdV W u (ss.map sv) ∧ (∀ x ∈ ss, x.size ≤ maxLen) ∧ ss.length ≤ maxLen ∧ CapV u := by
  have hsh : ∃ o len cap, u = .slice o len cap ∧ len ≤ cap := by
    rcases open_strings Try.underlying22 Try.underlying9 (by kernel_rfl) hf with ⟨hcs, _⟩ | ⟨a, len', cap', _, hcs, _, hlc, _⟩
    · exact ⟨none, 0, 0, (List.cons.inj hcs).1, Nat.le_refl _⟩
    · exact ⟨some a, len', cap', (List.cons.inj hcs).1, hlc⟩
  obtain ⟨o, len, cap, rfl, hlc⟩ := hsh
  obtain ⟨d, ps⟩ := y
  obtain ⟨ss, h1, h2, h3⟩ := open_texts_rd (d := d) (ps := ps) ⟨fuel, hf⟩
  exact ⟨ss, h1, h2, h3, capv_lit hlc⟩
set_option maxRecDepth 20000 in
theorem sig_cells {H : Type} {enc : TypeId × Value → H} {W : World} (n : Nat) (cs : List Value) (y : DataW H × List MemPlace) (h : DataW.trod enc Try.prog W 0 (fun _ => true) true n 24 cs = some y) :
    ∃ (s : Sg) (v1 v2 : Value), cs = [.int .i64 s.leaf, v1, v2] ∧ RdV W v1 (s.once.map sv) ∧ RdV W v2 (s.path.map sv) ∧ (CapV v1 ∧ CapV v2) ∧ okSg s := by
  obtain ⟨y0, y1, y2, k, _, hcl, g0, g1, g2⟩ := Go.Deep.trod_struct3 Try.underlying24 h
  have ce : Try.prog.cellsOf 24 = 3 := by kernel_rfl
  have c0 : Try.prog.cellsOf 3 = 1 := by kernel_rfl
  have c1 : Try.prog.cellsOf 22 = 1 := by kernel_rfl
  rw [ce] at hcl
  obtain ⟨v0, v1, v2, rfl⟩ := three_ofS hcl
  simp only [c0, c1, List.drop_zero, List.drop_succ_cons, List.take_succ_cons, List.take_zero] at g0 g1 g2
  obtain ⟨i0, e0, _, _⟩ := DataW.trod_int Try.underlying3 g0
  simp only [List.cons.injEq, and_true] at e0
  subst e0
  obtain ⟨s1, r1, b1, l1, q1⟩ := texts_cells g1
  obtain ⟨s2, r2, b2, l2, q2⟩ := texts_cells g2
  exact ⟨⟨i0, s1, s2⟩, v1, v2, rfl, r1, r2, ⟨q1, q2⟩, b1, b2, l1, l2⟩
set_option maxRecDepth 20000 in
theorem open_sig {H : Type} {enc : TypeId × Value → H} {W : World} {base : Nat} {v : Value} {d : DataW H} {ps : List MemPlace} (hv : Value.okWide Try.prog W .any base 24 v)
    (h : DataW.Trod enc Try.prog W 0 (fun _ => true) true 24 v d ps) : ∃ s : Sg, RdSg W v s ∧ okSg s := by
  obtain ⟨cs, rfl, hsz⟩ := okWide_struct Try.underlying24 hv
  obtain ⟨fuel, hf⟩ := h
  obtain ⟨s, v1, v2, hx, r1, r2, hq, hok⟩ := sig_cells _ _ _ hf
  refine ⟨s, ⟨v1, v2, ?_, r1, r2, hq⟩, hok⟩
  have : cs.toList = [.int .i64 s.leaf, v1, v2] := by simpa [Value.cells] using hx
  unfold sgv
  congr 1
  apply Array.toList_inj.1
  rw [this]
end Go.Proofs.Ytjgnjjphankhnac

/- Trees of trees, reckoned. -/
namespace Go.Proofs.Ytjgnjjphankhnac
open Go.RowKit
structure Hy where
  top : Sg
  root : ByteArray
  low : Sg
def noSg : Sg := ⟨0, [], []⟩
def lowB (seed : ByteArray) (place : Int) : ByteArray := seed ++ oneY place ++ ⟨#[108]⟩
def topB (seed : ByteArray) : ByteArray := seed ++ ⟨#[116]⟩
def hpubO (seed : ByteArray) : ByteArray := pubO (topB seed)
def hsgnS (seed : ByteArray) (i : Int) (m : ByteArray) : Hy :=
  if 0 ≤ i ∧ i ≤ 15 then ⟨sgnS (topB seed) (i / 4) (pubO (lowB seed (i / 4))), pubO (lowB seed (i / 4)), sgnS (lowB seed (i / 4)) (i % 4) m⟩ else ⟨noSg, ⟨#[]⟩, noSg⟩
def hchkB (p m : ByteArray) (h : Hy) : Bool := chkB p h.root h.top && chkB h.root m h.low
def bothSg (h : Hy) : Bool := sgOk h.top && sgOk h.low
def hidx (h : Hy) : Int := if bothSg h = true then 4 * h.top.leaf + h.low.leaf else -1
def htxOk (h : Hy) : Bool := bothSg h && decide (h.root.size = 4)
def htx (h : Hy) : ByteArray := if htxOk h = true then sgT h.top ++ h.root ++ sgT h.low else ⟨#[]⟩
def hA (t : ByteArray) : ByteArray := t.extract 0 49
def hR (t : ByteArray) : ByteArray := t.extract 49 53
def hL (t : ByteArray) : ByteArray := t.extract 53 t.size
def hrdOk (t : ByteArray) : Bool := decide (t.size = 102) && (rdOk (hA t) && rdOk (hL t))
def hrdS (t : ByteArray) : Hy := if hrdOk t = true then ⟨rdS (hA t), hR t, rdS (hL t)⟩ else ⟨noSg, ⟨#[]⟩, noSg⟩
theorem pubO_four (s : ByteArray) : (pubO s).size = 4 := by
  unfold pubO rootB
  rw [if_pos (lvsO_len s)]
  exact bAt_four (lvs_four _ (lvsO_size s) 2) 0 (by rw [lvs_len _ (lvsO_len s) 2]; decide)
theorem div4 {i : Int} (h : 0 ≤ i ∧ i ≤ 15) : 0 ≤ i / 4 ∧ i / 4 ≤ 3 := by omega
theorem mod4 (i : Int) : 0 ≤ i % 4 ∧ i % 4 ≤ 3 := by omega
theorem sgnS_leaf (seed : ByteArray) (leaf : Int) (m : ByteArray) (h : 0 ≤ leaf ∧ leaf ≤ 3) : (sgnS seed leaf m).leaf = leaf := by unfold sgnS; rw [if_pos h]
theorem hsgn_is {seed : ByteArray} {i : Int} {m : ByteArray} (h : 0 ≤ i ∧ i ≤ 15) : hsgnS seed i m = ⟨sgnS (topB seed) (i / 4) (pubO (lowB seed (i / 4))), pubO (lowB seed (i / 4)), sgnS (lowB seed (i / 4)) (i % 4) m⟩ := by unfold hsgnS; rw [if_pos h]
theorem hsgn_both (seed : ByteArray) (i : Int) (m : ByteArray) (h : 0 ≤ i ∧ i ≤ 15) : bothSg (hsgnS seed i m) = true := by
  rw [hsgn_is h]
  unfold bothSg
  rw [sgnS_ok _ _ _ (div4 h), sgnS_ok _ _ _ (mod4 i)]
  rfl
theorem hsgn_ok (seed : ByteArray) (i : Int) (m : ByteArray) (h : 0 ≤ i ∧ i ≤ 15) : htxOk (hsgnS seed i m) = true := by
  unfold htxOk
  rw [hsgn_both seed i m h, Bool.true_and, hsgn_is h]
  exact decide_eq_true (pubO_four _)
theorem hsgn_chk (seed : ByteArray) (i : Int) (m : ByteArray) (h : 0 ≤ i ∧ i ≤ 15) : hchkB (hpubO seed) m (hsgnS seed i m) = true := by
  rw [hsgn_is h]
  unfold hchkB hpubO
  rw [sgn_chk _ _ _ (div4 h), sgn_chk _ _ _ (mod4 i)]
  rfl
theorem hsgn_idx (seed : ByteArray) (i : Int) (m : ByteArray) (h : 0 ≤ i ∧ i ≤ 15) : hidx (hsgnS seed i m) = i := by
  unfold hidx
  rw [if_pos (hsgn_both seed i m h), hsgn_is h]
  show 4 * (sgnS _ _ _).leaf + (sgnS _ _ _).leaf = i
  rw [sgnS_leaf _ _ _ (div4 h), sgnS_leaf _ _ _ (mod4 i)]
  omega
theorem htxOk_top {h : Hy} (ho : htxOk h = true) : sgOk h.top = true := by unfold htxOk bothSg at ho; simp at ho; exact ho.1.1
theorem htxOk_low {h : Hy} (ho : htxOk h = true) : sgOk h.low = true := by unfold htxOk bothSg at ho; simp at ho; exact ho.1.2
theorem htxOk_root {h : Hy} (ho : htxOk h = true) : h.root.size = 4 := by unfold htxOk bothSg at ho; simp at ho; exact ho.2
theorem htx_is {h : Hy} (ho : htxOk h = true) : htx h = sgT h.top ++ h.root ++ sgT h.low := by unfold htx; rw [if_pos ho]
theorem htx_size {h : Hy} (ho : htxOk h = true) : (htx h).size = 102 := by
  rw [htx_is ho, ByteArray.size_append, ByteArray.size_append, sgT_size (htxOk_top ho), sgT_size (htxOk_low ho), htxOk_root ho]
theorem cut_three (a b c : ByteArray) (ha : a.size = 49) (hb : b.size = 4) : (a ++ b ++ c).extract 0 49 = a ∧ (a ++ b ++ c).extract 49 53 = b ∧ (a ++ b ++ c).extract 53 (a ++ b ++ c).size = c := by
  have hab : (a ++ b).size = 53 := by rw [ByteArray.size_append, ha, hb]
  refine ⟨?_, ?_, ?_⟩
  · rw [ByteArray.append_assoc]
    exact ByteArray.extract_append_eq_left ha.symm
  · rw [ByteArray.extract_append, hab, show c.extract (49 - 53) (53 - 53) = ByteArray.empty from ByteArray.extract_eq_empty_iff.2 (by omega), ByteArray.append_empty, ByteArray.extract_append, ha,
      show a.extract 49 53 = ByteArray.empty from ByteArray.extract_eq_empty_iff.2 (by rw [ha]; omega), ByteArray.empty_append, show 53 - 49 = b.size by rw [hb], Nat.sub_self]
    exact ByteArray.extract_zero_size
  · have hs : (a ++ b ++ c).size = 53 + c.size := by rw [ByteArray.size_append, hab]
    rw [hs, ByteArray.extract_append, hab, show (a ++ b).extract 53 (53 + c.size) = ByteArray.empty from ByteArray.extract_eq_empty_iff.2 (by rw [hab]; omega), ByteArray.empty_append, Nat.sub_self, Nat.add_sub_cancel_left]
    exact ByteArray.extract_zero_size
theorem hrdOk_htx {h : Hy} (ho : htxOk h = true) : hrdOk (htx h) = true := by
  obtain ⟨e1, _, e3⟩ := cut_three (sgT h.top) h.root (sgT h.low) (sgT_size (htxOk_top ho)) (htxOk_root ho)
  unfold hrdOk hA hL
  rw [decide_eq_true (htx_size ho), htx_is ho, e1, e3, rdOk_of (rdIn_sgT (htxOk_top ho)), rdOk_of (rdIn_sgT (htxOk_low ho))]
  rfl
/-- What is written is read. -/
theorem hrd_htx {h : Hy} (ho : htxOk h = true) : hrdS (htx h) = h := by
  obtain ⟨e1, e2, e3⟩ := cut_three (sgT h.top) h.root (sgT h.low) (sgT_size (htxOk_top ho)) (htxOk_root ho)
  unfold hrdS
  rw [if_pos (hrdOk_htx ho)]
  unfold hA hR hL
  rw [htx_is ho, e1, e2, e3, rd_sgT (htxOk_top ho), rd_sgT (htxOk_low ho)]
theorem hrd_parts {t : ByteArray} (h : hrdOk t = true) : t.size = 102 ∧ rdIn (hA t) ∧ rdIn (hL t) := by
  unfold hrdOk at h
  rw [Bool.and_eq_true, Bool.and_eq_true] at h
  exact ⟨of_decide_eq_true h.1, rdOk_in h.2.1, rdOk_in h.2.2⟩
theorem hrd_is {t : ByteArray} (h : hrdOk t = true) : hrdS t = ⟨rdS (hA t), hR t, rdS (hL t)⟩ := by unfold hrdS; rw [if_pos h]
theorem hrd_both {t : ByteArray} (h : hrdOk t = true) : bothSg (hrdS t) = true := by
  obtain ⟨_, h1, h2⟩ := hrd_parts h
  rw [hrd_is h]
  unfold bothSg
  rw [rdS_ok h1, rdS_ok h2]
  rfl
theorem hrd_ok {t : ByteArray} (h : hrdOk t = true) : htxOk (hrdS t) = true := by
  unfold htxOk
  rw [hrd_both h, Bool.true_and, hrd_is h]
  apply decide_eq_true
  show (t.extract 49 53).size = 4
  rw [ByteArray.size_extract, (hrd_parts h).1]
  rfl
theorem three_cut (t : ByteArray) (hz : t.size = 102) : hA t ++ hR t ++ hL t = t := by
  unfold hA hR hL
  have e1 : t.extract 0 49 ++ t.extract 49 53 = t.extract 0 53 := by
    rw [ByteArray.extract_append_extract, Nat.min_eq_left (by omega), Nat.max_eq_right (by omega)]
  rw [e1, ByteArray.extract_append_extract, Nat.min_eq_left (by omega), Nat.max_eq_right (by omega)]
  exact ByteArray.extract_zero_size
/-- What is read is written so. -/
theorem htx_hrd {t : ByteArray} (h : hrdOk t = true) : htx (hrdS t) = t := by
  have hp := hrd_parts h
  have e := htx_is (hrd_ok h)
  have e2 := hrd_is h
  generalize hrdS t = x at *
  subst e2
  rw [e]
  have e3 := sgT_rd hp.2.1
  have e4 := sgT_rd hp.2.2
  simp only [e3, e4]
  exact three_cut t hp.1
theorem hidx_nonneg {h : Hy} (hb : bothSg h = true) : 0 ≤ hidx h := by
  unfold hidx
  rw [if_pos hb]
  unfold bothSg at hb
  rw [Bool.and_eq_true] at hb
  have h1 := (sgOk_shape hb.1).1
  have h2 := (sgOk_shape hb.2).1
  omega
end Go.Proofs.Ytjgnjjphankhnac

/- The laws' helpers on signatures of trees of trees, over the loaded program. -/
namespace Go.Proofs.Ytjgnjjphankhnac
open Go.RowKit
def hyv (lt : Int) (v1 v2 : Value) (r : ByteArray) (ll : Int) (v3 v4 : Value) : Value := .agg #[.int .i64 lt, v1, v2, .string r, .int .i64 ll, v3, v4]
def RdHy (w : World) (v : Value) (h : Hy) : Prop := ∃ v1 v2 v3 v4, v = hyv h.top.leaf v1 v2 h.root h.low.leaf v3 v4 ∧ RdV w v1 (h.top.once.map sv) ∧ RdV w v2 (h.top.path.map sv) ∧ RdV w v3 (h.low.once.map sv) ∧ RdV w v4 (h.low.path.map sv) ∧ CapV v1 ∧ CapV v2 ∧ CapV v3 ∧ CapV v4
def OwnHy (w : World) (base : Nat) (v : Value) (h : Hy) : Prop := ∃ v1 v2 v3 v4, v = hyv h.top.leaf v1 v2 h.root h.low.leaf v3 v4 ∧ OwnSg w base (sgv h.top.leaf v1 v2) h.top ∧ OwnSg w base (sgv h.low.leaf v3 v4) h.low ∧ ∀ k, (v1.ownBlock = some k ∨ v2.ownBlock = some k) → v3.ownBlock ≠ some k ∧ v4.ownBlock ≠ some k
theorem OwnHy.rd {w : World} {base : Nat} {v : Value} {h : Hy} (ho : OwnHy w base v h) : RdHy w v h := by
  obtain ⟨v1, v2, v3, v4, e, h1, h2, _⟩ := ho
  exact ⟨v1, v2, v3, v4, e, h1.rows.1.rdv, h1.rows.2.1.rdv, h2.rows.1.rdv, h2.rows.2.1.rdv, h1.rows.1.capv, h1.rows.2.1.capv, h2.rows.1.capv, h2.rows.2.1.capv⟩
theorem RdHy.below {w w' : World} {v : Value} {h : Hy} (hr : RdHy w v h) (hb : Below w.heap.size w w') : RdHy w' v h := by
  obtain ⟨v1, v2, v3, v4, e, h1, h2, h3, h4, hq⟩ := hr
  exact ⟨v1, v2, v3, v4, e, h1.below hb, h2.below hb, h3.below hb, h4.below hb, hq⟩
theorem OwnHy.below {w w' : World} {base : Nat} {v : Value} {h : Hy} (ho : OwnHy w base v h) (hb : Below w.heap.size w w') : OwnHy w' base v h := by
  obtain ⟨v1, v2, v3, v4, e, h1, h2, h3⟩ := ho
  exact ⟨v1, v2, v3, v4, e, h1.below hb, h2.below hb, h3⟩
theorem RdHy.open {w : World} {v : Value} {h : Hy} (hr : RdHy w v h) : ∃ a1 n1 c1 a2 n2 c2 a3 n3 c3 a4 n4 c4, v = .agg #[.int .i64 h.top.leaf, .slice a1 n1 c1, .slice a2 n2 c2, .string h.root, .int .i64 h.low.leaf, .slice a3 n3 c3, .slice a4 n4 c4] := by
  obtain ⟨v1, v2, v3, v4, rfl, h1, h2, h3, h4, _⟩ := hr
  obtain ⟨a1, c1, rfl⟩ := h1.shape
  obtain ⟨a2, c2, rfl⟩ := h2.shape
  obtain ⟨a3, c3, rfl⟩ := h3.shape
  obtain ⟨a4, c4, rfl⟩ := h4.shape
  exact ⟨_, _, _, _, _, _, _, _, _, _, _, _, rfl⟩
/-- Both signatures of what is read as this. -/
theorem RdHy.parts {w : World} {h : Hy} {lt ll : Int} {r : ByteArray} {v1 v2 v3 v4 : Value} (hr : RdHy w (.agg #[.int .i64 lt, v1, v2, .string r, .int .i64 ll, v3, v4]) h) : RdSg w (.agg #[.int .i64 lt, v1, v2]) h.top ∧ RdSg w (.agg #[.int .i64 ll, v3, v4]) h.low := by
  obtain ⟨u1, u2, u3, u4, e, h1, h2, h3, h4, q1, q2, q3, q4⟩ := hr
  unfold hyv at e
  injection e with e
  simp at e
  obtain ⟨rfl, rfl, rfl, rfl, rfl, rfl, rfl⟩ := e
  exact ⟨⟨_, _, rfl, h1, h2, q1, q2⟩, ⟨_, _, rfl, h3, h4, q3, q4⟩⟩
theorem OwnHy.parts {w : World} {base : Nat} {h : Hy} {lt ll : Int} {r : ByteArray} {v1 v2 v3 v4 : Value} (ho : OwnHy w base (.agg #[.int .i64 lt, v1, v2, .string r, .int .i64 ll, v3, v4]) h) : OwnSg w base (sgv h.top.leaf v1 v2) h.top ∧ OwnSg w base (sgv h.low.leaf v3 v4) h.low ∧ (∀ k, (v1.ownBlock = some k ∨ v2.ownBlock = some k) → v3.ownBlock ≠ some k ∧ v4.ownBlock ≠ some k) ∧ lt = h.top.leaf ∧ ll = h.low.leaf ∧ r = h.root := by
  obtain ⟨u1, u2, u3, u4, e, h1, h2, h3⟩ := ho
  unfold hyv at e
  injection e with e
  simp at e
  obtain ⟨rfl, rfl, rfl, rfl, rfl, rfl, rfl⟩ := e
  exact ⟨h1, h2, h3, rfl, rfl, rfl⟩
def okHy (h : Hy) : Prop := ((∀ x ∈ h.top.once, x.size ≤ maxLen) ∧ (∀ x ∈ h.top.path, x.size ≤ maxLen) ∧ h.top.once.length ≤ maxLen ∧ h.top.path.length ≤ maxLen) ∧ h.root.size ≤ maxLen ∧ ((∀ x ∈ h.low.once, x.size ≤ maxLen) ∧ (∀ x ∈ h.low.path, x.size ≤ maxLen) ∧ h.low.once.length ≤ maxLen ∧ h.low.path.length ≤ maxLen)
def mass (s : Sg) : Nat := s.once.length + sumS s.once + s.path.length + sumS s.path
theorem szSig_m (L : Nat) (hL : L ≤ 1048576) (s : Sg) (v : Value) (w : World) (hr : RdSg w v s) (hk : (∀ x ∈ s.once, x.size ≤ maxLen) ∧ (∀ x ∈ s.path, x.size ≤ maxLen) ∧ s.once.length ≤ maxLen ∧ s.path.length ≤ maxLen) :
    Calls Try.prog 20 #[v, .int .i64 (L : Int)] w fun e w' => (∃ z : Int, e = .returned (.int .i64 z) ∧ (z < 0 ∨ ∃ m : Nat, z = m ∧ m + mass s = L)) ∧ Below w.heap.size w w' := by
  obtain ⟨v1, v2, rfl, r1, r2, _⟩ := hr
  exact szSigL_any L hL s.leaf s.once s.path v1 v2 w r1 r2 hk.1 hk.2.1 hk.2.2.1 hk.2.2.2
set_option maxRecDepth 20000 in
set_option maxHeartbeats 400000 in
theorem szHyper_any (h : Hy) (v : Value) (w : World) (hr : RdHy w v h) (hk : okHy h) :
    Calls Try.prog 7 #[v, .int .i64 1048576] w fun e w' => (∃ z : Int, e = .returned (.int .i64 z) ∧ (z < 0 ∨ (0 ≤ z ∧ mass h.top + h.root.size + mass h.low ≤ 1048576))) ∧ Below w.heap.size w w' := by
  obtain ⟨a1, n1, c1, a2, n2, c2, a3, n3, c3, a4, n4, c4, rfl⟩ := hr.open
  obtain ⟨p1, p2⟩ := hr.parts
  have C1 := hide (fun (W : World) (hb : Below w.heap.size w W) => szSig_m 1048576 (Nat.le_refl _) h.top _ W (p1.below hb) hk.1)
  have C2 := hide (fun (L : Nat) (hL : L ≤ 1048576) (W : World) (hb : Below w.heap.size w W) => szSig_m L hL h.low _ W (p2.below hb) hk.2.2)
  have hrm : h.root.size ≤ 9223372036854775807 := by have := hk.2.1; unfold maxLen at this; exact this
  clear hr p1 p2 hk
  go_enter Try.func7, Try.ntmps7
  go_wp2_with fail
  obtain ⟨W, hW, hP, hB, hs⟩ := one_cb w #[.int .i64 h.top.leaf, .slice a1 n1 c1, .slice a2 n2 c2, .string h.root, .int .i64 h.low.leaf, .slice a3 n3 c3, .slice a4 n4 c4] 26
  rw [hW]
  clear hW
  refine (unhide C1 W hB).mono ?_
  rintro e w1 ⟨⟨z, rfl, hz⟩, hb1⟩
  have T1 := hB.trans (hb1.mono hB.size)
  have hP1 := hP.step hb1
  clear hb1 C1 hB hP
  rcases hz with hz | ⟨m, rfl, hm⟩
  · clear C2 hP1
    go_wp2
    go_ret
    exact ⟨⟨-1, rfl, .inl (by decide)⟩, T1⟩
  have hm0 : ¬ (m : Int) < 0 := by omega
  have q3 := hP1.cell 3 (v := .string h.root) rfl
  have q4 := hP1.cell 4 (v := .int .i64 h.low.leaf) rfl
  have q5 := hP1.cell 5 (v := .slice a3 n3 c3) rfl
  have q6 := hP1.cell 6 (v := .slice a4 n4 c4) rfl
  obtain ⟨y, hy⟩ : ∃ y : Int, y = (m : Int) - (h.root.size : Int) := ⟨_, rfl⟩
  have ey : IntKind.i64.wrap ((m : Int) - (h.root.size : Int)) = y := by rw [IntKind.wrap_i64]; omega
  by_cases hy0 : y < 0
  · replace hy := hide hy
    clear C2 hm
    go_wp2
    go_ret
    exact ⟨⟨-1, rfl, .inl (by decide)⟩, T1⟩
  obtain ⟨L, hL⟩ : ∃ L : Nat, y = L := ⟨y.toNat, by omega⟩
  subst hL
  replace C2 := hide (unhide C2 L (by omega) w1 T1)
  have hmm := hide (show m = L + h.root.size by omega)
  replace hm := hide hm
  replace hy := hide hy
  go_wp2_with fail
  refine (unhide C2).mono ?_
  rintro e w2 ⟨⟨z, rfl, hz⟩, hb2⟩
  have T2 := T1.trans (hb2.mono T1.size)
  clear hb2 C2 T1 hP1 q3 q4 q5 q6
  rcases hz with hz | ⟨m', rfl, hm'⟩
  · go_wp2
    go_ret
    exact ⟨⟨-1, rfl, .inl (by decide)⟩, T2⟩
  have hm0' : ¬ (m' : Int) < 0 := by omega
  have HF := hide (show (0 : Int) ≤ (m' : Int) ∧ mass h.top + h.root.size + mass h.low ≤ 1048576 by have h1 := unhide hm; have h2 := unhide hmm; omega)
  clear hm' hm0
  go_wp2
  go_ret
  exact ⟨⟨_, rfl, .inr (unhide HF)⟩, T2⟩
def hyZ : Array Value := #[.int .i64 0, .slice none 0 0, .slice none 0 0, .string ⟨#[]⟩, .int .i64 0, .slice none 0 0, .slice none 0 0]
set_option maxRecDepth 20000 in
set_option maxHeartbeats 800000 in
theorem toHyper_any (h : Hy) (v : Value) (w : World) (hr : RdHy w v h) (n1 : h.top.once.length ≤ 1048576) (n2 : h.top.path.length ≤ 1048576) (n3 : h.low.once.length ≤ 1048576) (n4 : h.low.path.length ≤ 1048576) :
    Calls Try.prog 9 #[v] w fun e w' => (∃ u, e = .returned u ∧ OwnHy w' w.heap.size u h) ∧ Below w.heap.size w w' := by
  obtain ⟨a1, m1, c1, a2, m2, c2, a3, m3, c3, a4, m4, c4, rfl⟩ := hr.open
  obtain ⟨p1, p2⟩ := hr.parts
  have C1 := hide (fun (W : World) (hb : Below w.heap.size w W) => toSig_any h.top _ W (p1.below hb) n1 n2)
  have C2 := hide (fun (W : World) (hb : Below w.heap.size w W) => toSig_any h.low _ W (p2.below hb) n3 n4)
  clear hr p1 p2 n1 n2 n3 n4
  go_enter Try.func9, Try.ntmps9
  go_wp2_with fail
  obtain ⟨W, hW, hP, hR, hO, hB, hs⟩ := three_cb w #[.int .i64 h.top.leaf, .slice a1 m1 c1, .slice a2 m2 c2, .string h.root, .int .i64 h.low.leaf, .slice a3 m3 c3, .slice a4 m4 c4] #[.int .i64 0, .slice none 0 0, .slice none 0 0, .string ⟨#[]⟩, .int .i64 0, .slice none 0 0, .slice none 0 0] #[.int .i64 0, .slice none 0 0, .slice none 0 0, .string ⟨#[]⟩, .int .i64 0, .slice none 0 0, .slice none 0 0] 26 31 31
  rw [hW]
  clear hW
  refine (unhide C1 W hB).mono ?_
  rintro e w1 ⟨⟨u1, rfl, o1⟩, hb1⟩
  obtain ⟨b1, k1, e1, b2, k2, e2, rfl⟩ := o1.open
  have hP1 := hP.step hb1
  have hR1 := hR.step hb1
  have hO1 := hO.step hb1
  have T1 := hB.trans (hb1.mono hB.size)
  have of1 := hide (o1.offs hO1 (by decide))
  have bd1 := hide o1.bounds
  have hsb := hB.size
  have G2 := gSet (gSet (gSet (gSet (gR9 w1 (some (w.heap.size + 1 + 1))) 0 (.int .i64 h.top.leaf)) 1 (.slice b1 k1 e1)) 2 (.slice b2 k2 e2)) 3 (.string h.root)
  have o2 := hide (o1.grownO G2 (unhide of1).1 (unhide of1).2)
  have T2 := hide (T1.grown G2 T1.size (fun k hk => by cases hk; omega))
  have hP2 := hide (hP1.grown G2 (fun e => by have := Option.some.inj e; omega))
  have hR2 := hide (hR1.grown G2 (fun e => by have := Option.some.inj e; omega))
  have hO2 := hide ((((hO1.set 0 (.int .i64 h.top.leaf)).set 1 (.slice b1 k1 e1)).set 2 (.slice b2 k2 e2)).set 3 (.string h.root))
  have x3 := hP1.cell 3 (v := .string h.root) rfl
  have x4 := hP1.cell 4 (v := .int .i64 h.low.leaf) rfl
  have x5 := hP1.cell 5 (v := .slice a3 m3 c3) rfl
  have x6 := hP1.cell 6 (v := .slice a4 m4 c4) rfl
  have y0 := hO1.cell 0 (v := .int .i64 0) rfl
  have y1 := hO1.cell 1 (v := .slice none 0 0) rfl
  have y2 := hO1.cell 2 (v := .slice none 0 0) rfl
  have y3 := hO1.cell 3 (v := .string ⟨#[]⟩) rfl
  have f0 := hO1.frozen 0
  have f1 := hO1.frozen 1
  have f2 := hO1.frozen 2
  have f3 := hO1.frozen 3
  have hsz2 := G2.size
  replace o1 := hide o1
  clear hP hR hO hP1 hR1 hO1 C1 hB T1 hb1 G2
  go_wp2_with fail
  generalize (((w1.setCell ⟨w.heap.size + 1 + 1, 0, none⟩ (.int .i64 h.top.leaf)).setCell ⟨w.heap.size + 1 + 1, 1, none⟩ (.slice b1 k1 e1)).setCell ⟨w.heap.size + 1 + 1, 2, none⟩ (.slice b2 k2 e2)).setCell ⟨w.heap.size + 1 + 1, 3, none⟩ (.string h.root) = W2 at *
  refine (unhide C2 W2 (unhide T2)).mono ?_
  rintro e w3 ⟨⟨u3, rfl, o3⟩, hb3⟩
  obtain ⟨b3, k3, e3, b4, k4, e4, rfl⟩ := o3.open
  have T3 := (unhide T2).trans (hb3.mono (unhide T2).size)
  have hR3 := (unhide hR2).step hb3
  have hO3 := (unhide hO2).step hb3
  have o4 := hide ((unhide o2).below hb3)
  have ap := hide (show ∀ k, ((Value.slice b1 k1 e1).ownBlock = some k ∨ (Value.slice b2 k2 e2).ownBlock = some k) → (Value.slice b3 k3 e3).ownBlock ≠ some k ∧ (Value.slice b4 k4 e4).ownBlock ≠ some k from fun k hk => by
    have h1 := (unhide bd1 k hk).2
    exact ⟨fun e => by have h2 := (o3.bounds k (.inl e)).1; omega, fun e => by have h2 := (o3.bounds k (.inr e)).1; omega⟩)
  have of3 := hide (o3.offs hO3 (by decide))
  have of3r := hide (o3.offs hR3 (by decide))
  have of4 := hide ((unhide o4).offs hO3 (by decide))
  have of4r := hide ((unhide o4).offs hR3 (by decide))
  have y0 := hO3.cell 0 (v := .int .i64 h.top.leaf) rfl
  have y1 := hO3.cell 1 (v := .slice b1 k1 e1) rfl
  have y2 := hO3.cell 2 (v := .slice b2 k2 e2) rfl
  have y3 := hO3.cell 3 (v := .string h.root) rfl
  have y4 := hO3.cell 4 (v := .int .i64 0) rfl
  have y5 := hO3.cell 5 (v := .slice none 0 0) rfl
  have y6 := hO3.cell 6 (v := .slice none 0 0) rfl
  have f4 := hO3.frozen 4
  have f5 := hO3.frozen 5
  have f6 := hO3.frozen 6
  have G4 := gSet (gSet (gSet (gR9 w3 (some (w.heap.size + 1 + 1))) 4 (.int .i64 h.low.leaf)) 5 (.slice b3 k3 e3)) 6 (.slice b4 k4 e4)
  have hO4 := hide (((hO3.set 4 (.int .i64 h.low.leaf)).set 5 (.slice b3 k3 e3)).set 6 (.slice b4 k4 e4))
  have hR4 := hide (hR3.grown G4 (fun e => by have := Option.some.inj e; omega))
  have T4 := hide (T3.grown G4 T3.size (fun k hk => by cases hk; omega))
  have o5 := hide ((unhide o4).grownO G4 (unhide of4).1 (unhide of4).2)
  have o6 := hide (o3.grownO G4 (unhide of3).1 (unhide of3).2)
  have r0 := hR3.cell 0 (v := .int .i64 0) rfl
  have r1 := hR3.cell 1 (v := .slice none 0 0) rfl
  have r2 := hR3.cell 2 (v := .slice none 0 0) rfl
  have r3 := hR3.cell 3 (v := .string ⟨#[]⟩) rfl
  have r4 := hR3.cell 4 (v := .int .i64 0) rfl
  have r5 := hR3.cell 5 (v := .slice none 0 0) rfl
  have r6 := hR3.cell 6 (v := .slice none 0 0) rfl
  have g0 := hR3.frozen 0
  have g1 := hR3.frozen 1
  have g2 := hR3.frozen 2
  have g3 := hR3.frozen 3
  have g4 := hR3.frozen 4
  have g5 := hR3.frozen 5
  have g6 := hR3.frozen 6
  have hsz3 := hb3.size
  have hszW := (unhide T2).size
  clear hb3 C2 hR2 hO2 T2 o2 x3 x4 x5 x6 f0 f1 f2 f3 hP2 T3 G4 o1 of1 bd1 of4 of3 hR3 hO3
  replace o3 := hide o3
  go_wp2
  have hF := hide ((((((((unhide hR4).set 0 (.int .i64 h.top.leaf)).set 1 (.slice b1 k1 e1)).set 2 (.slice b2 k2 e2)).set 3 (.string h.root)).set 4 (.int .i64 h.low.leaf)).set 5 (.slice b3 k3 e3)).set 6 (.slice b4 k4 e4))
  have G5 := gSet (gSet (gSet (gSet (gSet (gSet (gSet (gR9 (((w3.setCell ⟨w.heap.size + 1 + 1, 4, none⟩ (.int .i64 h.low.leaf)).setCell ⟨w.heap.size + 1 + 1, 5, none⟩ (.slice b3 k3 e3)).setCell ⟨w.heap.size + 1 + 1, 6, none⟩ (.slice b4 k4 e4)) (some (w.heap.size + 1))) 0 (.int .i64 h.top.leaf)) 1 (.slice b1 k1 e1)) 2 (.slice b2 k2 e2)) 3 (.string h.root)) 4 (.int .i64 h.low.leaf)) 5 (.slice b3 k3 e3)) 6 (.slice b4 k4 e4)
  have o7 := hide ((unhide o5).grownO G5 (unhide of4r).1 (unhide of4r).2)
  have o8 := hide ((unhide o6).grownO G5 (unhide of3r).1 (unhide of3r).2)
  have T5 := hide ((unhide T4).grown G5 (unhide T4).size (fun k hk => by cases hk; omega))
  refine bodyPost_ret (results_cb (by exact Try.results9) _ _ _ _ _ _ rfl (unhide hF) Try.underlying31 (by kernel_rfl)) rfl ⟨⟨_, rfl, _, _, _, _, rfl, (unhide o7).low ?_, (unhide o8).low ?_, unhide ap⟩, unhide T5⟩
  · omega
  · omega
set_option maxRecDepth 20000 in
set_option maxHeartbeats 800000 in
theorem eqHyper_any (h : Hy) (v u : Value) (w : World) (hv : RdHy w v h) (hu : RdHy w u h) (n1 : h.top.once.length ≤ 2000000) (n2 : h.top.path.length ≤ 2000000) (n3 : h.low.once.length ≤ 2000000) (n4 : h.low.path.length ≤ 2000000) :
    Calls Try.prog 11 #[v, u] w fun e w' => e = .returned (.bool true) ∧ Below w.heap.size w w' := by
  obtain ⟨a1, m1, c1, a2, m2, c2, a3, m3, c3, a4, m4, c4, rfl⟩ := hv.open
  obtain ⟨b1, k1, d1, b2, k2, d2, b3, k3, d3, b4, k4, d4, rfl⟩ := hu.open
  obtain ⟨p1, p2⟩ := hv.parts
  obtain ⟨q1, q2⟩ := hu.parts
  have C1 := hide (fun (W : World) (hb : Below w.heap.size w W) => eqSig_any h.top _ _ W (p1.below hb) (q1.below hb) n1 n2)
  have C2 := hide (fun (W : World) (hb : Below w.heap.size w W) => eqSig_any h.low _ _ W (p2.below hb) (q2.below hb) n3 n4)
  clear hv hu p1 p2 q1 q2 n1 n2 n3 n4
  go_enter Try.func11, Try.ntmps11
  go_wp2_with fail
  obtain ⟨W, hW, hP, hR, hB, hs⟩ := two_cb w #[.int .i64 h.top.leaf, .slice a1 m1 c1, .slice a2 m2 c2, .string h.root, .int .i64 h.low.leaf, .slice a3 m3 c3, .slice a4 m4 c4] #[.int .i64 h.top.leaf, .slice b1 k1 d1, .slice b2 k2 d2, .string h.root, .int .i64 h.low.leaf, .slice b3 k3 d3, .slice b4 k4 d4] 31 31
  rw [hW]
  clear hW
  refine (unhide C1 W hB).mono ?_
  rintro e w1 ⟨rfl, hb1⟩
  have T1 := hB.trans (hb1.mono hB.size)
  have hP1 := hP.step hb1
  have hR1 := hR.step hb1
  have x3 := hP1.cell 3 (v := .string h.root) rfl
  have x4 := hP1.cell 4 (v := .int .i64 h.low.leaf) rfl
  have x5 := hP1.cell 5 (v := .slice a3 m3 c3) rfl
  have x6 := hP1.cell 6 (v := .slice a4 m4 c4) rfl
  have y3 := hR1.cell 3 (v := .string h.root) rfl
  have y4 := hR1.cell 4 (v := .int .i64 h.low.leaf) rfl
  have y5 := hR1.cell 5 (v := .slice b3 k3 d3) rfl
  have y6 := hR1.cell 6 (v := .slice b4 k4 d4) rfl
  clear hb1 hP hR C1 hB hP1 hR1
  replace C2 := hide (unhide C2 w1 T1)
  go_wp2_with fail
  refine (unhide C2).mono ?_
  rintro e w2 ⟨rfl, hb2⟩
  have T2 := T1.trans (hb2.mono T1.size)
  clear hb2 C2 T1 x3 x4 x5 x6 y3 y4 y5 y6
  go_wp2
  go_ret
  exact ⟨rfl, T2⟩
/-- One whose texts are marked from 1 on. -/
def MkHy (w : World) (base : Nat) (v : Value) (h : Hy) : Prop := ∃ v1 v2 v3 v4, v = hyv h.top.leaf v1 v2 h.root h.low.leaf v3 v4 ∧ MkSgK w base (sgv h.top.leaf v1 v2) h.top 1 ∧ MkSgK w base (sgv h.low.leaf v3 v4) h.low (1 + h.top.once.length + h.top.path.length)
theorem MkHy.below {w w' : World} {base : Nat} {v : Value} {h : Hy} (hm : MkHy w base v h) (hb : Below w.heap.size w w') : MkHy w' base v h := by
  obtain ⟨v1, v2, v3, v4, e, h1, h2⟩ := hm
  exact ⟨v1, v2, v3, v4, e, h1.below hb, h2.below hb⟩
set_option maxRecDepth 20000 in
set_option maxHeartbeats 800000 in
theorem markHyper_any (h : Hy) (v : Value) (base M : Nat) (w w0 : World) (hM : M = 1 + h.top.once.length + h.top.path.length + h.low.once.length + h.low.path.length) (ho : OwnHy w base v h) (hW0 : Below base w0 w) (hbw : base ≤ w.heap.size) (n1 : h.top.once.length ≤ 2000000) (n2 : h.top.path.length ≤ 2000000) (n3 : h.low.once.length ≤ 2000000) (n4 : h.low.path.length ≤ 2000000) :
    Calls Try.prog 18 #[v, .int .i64 1] w fun e w' => e = .returned (.int .i64 (M : Int)) ∧ MkHy w' base v h ∧ Below base w0 w' ∧ ∀ g T cs, CB w g T cs → T ≠ 9 → CB w' g T cs := by
  obtain ⟨a1, m1, c1, a2, m2, c2, a3, m3, c3, a4, m4, c4, rfl⟩ := ho.rd.open
  obtain ⟨o1, o2, ap, _, _, _⟩ := ho.parts
  obtain ⟨q, hq⟩ : ∃ q, q = 1 + h.top.once.length + h.top.path.length := ⟨_, rfl⟩
  have C1 := hide (fun (W : World) (ho : OwnSg W base (sgv h.top.leaf (.slice a1 m1 c1) (.slice a2 m2 c2)) h.top) (hb : Below base w0 W) (hw : base ≤ W.heap.size) => markSigK_any 1 (Nat.le_refl _) (by omega) h.top _ base q W w0 hq ho hb hw n1 n2)
  have C2 := hide (fun (W : World) (ho : OwnSg W base (sgv h.low.leaf (.slice a3 m3 c3) (.slice a4 m4 c4)) h.low) (hb : Below base w0 W) (hw : base ≤ W.heap.size) => markSigK_any q (by omega) (by omega) h.low _ base M W w0 (by omega) ho hb hw n3 n4)
  have HF := hide (fun (W : World) (x1 : MkSgK W base (sgv h.top.leaf (.slice a1 m1 c1) (.slice a2 m2 c2)) h.top 1) (x2 : MkSgK W base (sgv h.low.leaf (.slice a3 m3 c3) (.slice a4 m4 c4)) h.low q) => show MkHy W base (.agg #[.int .i64 h.top.leaf, .slice a1 m1 c1, .slice a2 m2 c2, .string h.root, .int .i64 h.low.leaf, .slice a3 m3 c3, .slice a4 m4 c4]) h from ⟨_, _, _, _, rfl, x1, by rw [← hq]; exact x2⟩)
  have hop := hide ho
  replace o1 := hide o1; replace o2 := hide o2; replace ap := hide ap; replace hq := hide hq; replace hM := hide hM
  clear ho hop n1 n2 n3 n4
  go_enter Try.func18, Try.ntmps18
  go_wp2_with fail
  obtain ⟨W, hW, hP, hB, hs⟩ := one_cb w #[.int .i64 h.top.leaf, .slice a1 m1 c1, .slice a2 m2 c2, .string h.root, .int .i64 h.low.leaf, .slice a3 m3 c3, .slice a4 m4 c4] 31
  rw [hW]
  clear hW
  have o1' := (unhide o1).below hB
  have o2' := hide ((unhide o2).below hB)
  have hBW := hW0.trans (hB.mono hbw)
  refine (unhide C1 W o1' hBW (by omega)).mono ?_
  rintro e w1 ⟨rfl, mk1, T1, KC1, KU1⟩
  have hP1 := KC1 _ _ _ hP (by decide)
  have r1 := (unhide o2').rows
  have s1 := KU1 _ _ rfl _ _ _ r1.1 (fun j hj => ⟨fun e => (unhide ap j (.inl e)).1 hj, fun e => (unhide ap j (.inr e)).1 hj⟩)
  have s2 := KU1 _ _ rfl _ _ _ r1.2.1 (fun j hj => ⟨fun e => (unhide ap j (.inl e)).2 hj, fun e => (unhide ap j (.inr e)).2 hj⟩)
  have o3 := hide (show OwnSg w1 base (sgv h.low.leaf (.slice a3 m3 c3) (.slice a4 m4 c4)) h.low from ⟨_, _, rfl, s1, s2, r1.2.2⟩)
  have K1 := hide (fun g T cs (hc : CB w g T cs) (hT : T ≠ 9) => KC1 g T cs (hc.step hB) hT)
  have x4 := hP1.cell 4 (v := .int .i64 h.low.leaf) rfl
  have x5 := hP1.cell 5 (v := .slice a3 m3 c3) rfl
  have x6 := hP1.cell 6 (v := .slice a4 m4 c4) rfl
  have hw1 : base ≤ w1.heap.size := by have := hP1.lt; omega
  replace mk1 := hide mk1
  replace C2 := hide (unhide C2 w1 (unhide o3) T1 hw1)
  clear C1 hB hBW o1' o2' r1 s1 s2 KC1 KU1 hP hP1 o1 o2
  go_wp2_with fail
  refine (unhide C2).mono ?_
  rintro e w2 ⟨rfl, mk2, T2, KC2, KU2⟩
  obtain ⟨y1, y2, ey, z1, z2⟩ := unhide mk1
  obtain ⟨rfl, rfl⟩ := sgv_inj ey
  have t1 := KU2 _ _ rfl _ _ _ z1 (fun j hj => ⟨fun e => (unhide ap j (.inl hj)).1 e, fun e => (unhide ap j (.inl hj)).2 e⟩)
  have t2 := KU2 _ _ rfl _ _ _ z2 (fun j hj => ⟨fun e => (unhide ap j (.inr hj)).1 e, fun e => (unhide ap j (.inr hj)).2 e⟩)
  have HR := hide (unhide HF w2 ⟨_, _, rfl, t1, t2⟩ mk2)
  have K2 := hide (fun g T cs (hc : CB w g T cs) (hT : T ≠ 9) => KC2 g T cs (unhide K1 g T cs hc hT) hT)
  clear C2 mk1 mk2 KC2 KU2 ey z1 z2 t1 t2 K1 x4 x5 x6 HF T1 hw1 o3
  go_wp2
  go_ret
  exact ⟨rfl, unhide HR, T2, unhide K2⟩
set_option maxRecDepth 20000 in
set_option maxHeartbeats 800000 in
theorem heldHyper_any (h : Hy) (v : Value) (base M : Nat) (w : World) (hM : M = 1 + h.top.once.length + h.top.path.length + h.low.once.length + h.low.path.length) (ho : MkHy w base v h) (n1 : h.top.once.length ≤ 2000000) (n2 : h.top.path.length ≤ 2000000) (n3 : h.low.once.length ≤ 2000000) (n4 : h.low.path.length ≤ 2000000) :
    Calls Try.prog 19 #[v, .int .i64 1] w fun e w' => e = .returned (.int .i64 (M : Int)) ∧ Below w.heap.size w w' := by
  obtain ⟨v1, v2, v3, v4, rfl, o1, o2⟩ := ho
  obtain ⟨q, hq⟩ : ∃ q, q = 1 + h.top.once.length + h.top.path.length := ⟨_, rfl⟩
  rw [← hq] at o2
  have C1 := hide (fun (W : World) (hb : Below w.heap.size w W) => heldSigK_any 1 (Nat.le_refl _) (by omega) h.top _ base q W hq (o1.below hb) n1 n2)
  have C2 := hide (fun (W : World) (hb : Below w.heap.size w W) => heldSigK_any q (by omega) (by omega) h.low _ base M W (by omega) (o2.below hb) n3 n4)
  have hq0 : ¬ (q : Int) < 0 := by omega
  have hM0 : ¬ (M : Int) < 0 := by omega
  obtain ⟨y1, y2, ey, z1, z2⟩ := o1
  obtain ⟨rfl, rfl⟩ := sgv_inj ey
  obtain ⟨y3, y4, ey2, z3, z4⟩ := o2
  obtain ⟨rfl, rfl⟩ := sgv_inj ey2
  obtain ⟨a1, c1, rfl⟩ := z1.shape
  obtain ⟨a2, c2, rfl⟩ := z2.shape
  obtain ⟨a3, c3, rfl⟩ := z3.shape
  obtain ⟨a4, c4, rfl⟩ := z4.shape
  unfold hyv sgv at *
  replace hq := hide hq; replace hM := hide hM
  clear ey ey2 z1 z2 z3 z4 n1 n2 n3 n4
  generalize (mkT 1 h.top.once.length).length = m1 at *
  generalize (mkT (1 + h.top.once.length) h.top.path.length).length = m2 at *
  generalize (mkT q h.low.once.length).length = m3 at *
  generalize (mkT (q + h.low.once.length) h.low.path.length).length = m4 at *
  go_enter Try.func19, Try.ntmps19
  go_wp2_with fail
  obtain ⟨W, hW, hP, hB, hs⟩ := one_cb w #[.int .i64 h.top.leaf, .slice a1 m1 c1, .slice a2 m2 c2, .string h.root, .int .i64 h.low.leaf, .slice a3 m3 c3, .slice a4 m4 c4] 31
  rw [hW]
  clear hW
  refine (unhide C1 W hB).mono ?_
  rintro e w1 ⟨rfl, hb1⟩
  have T1 := hB.trans (hb1.mono hB.size)
  have hP1 := hP.step hb1
  have x4 := hP1.cell 4 (v := .int .i64 h.low.leaf) rfl
  have x5 := hP1.cell 5 (v := .slice a3 m3 c3) rfl
  have x6 := hP1.cell 6 (v := .slice a4 m4 c4) rfl
  replace C2 := hide (unhide C2 w1 T1)
  clear hb1 hP C1 hB hP1
  go_wp2_with fail
  refine (unhide C2).mono ?_
  rintro e w2 ⟨rfl, hb2⟩
  have T2 := T1.trans (hb2.mono T1.size)
  clear hb2 C2 T1 x4 x5 x6
  go_wp2
  go_ret
  exact ⟨rfl, T2⟩
end Go.Proofs.Ytjgnjjphankhnac

/- Trees of trees by the given model: public texts, what is checked, indexes, over the loaded program. -/
namespace Go.Proofs.Ytjgnjjphankhnac
open Go.RowKit
def shHy (h : Hy) : Prop := (h.top.once.length ≤ 2000000 ∧ h.top.path.length ≤ 2000000) ∧ h.low.once.length ≤ 2000000 ∧ h.low.path.length ≤ 2000000
set_option maxRecDepth 20000 in
set_option maxHeartbeats 800000 in
theorem specHyperCheck_any (p m : ByteArray) (h : Hy) (v : Value) (w : World) (hr : RdHy w v h) (hn : shHy h) (hz : h.root.size ≤ 1048576) (hm : m.size ≤ 1048576) :
    Calls Try.prog 8 #[.string p, .string m, v] w fun e w' => e = .returned (.bool (hchkB p m h)) ∧ Below w.heap.size w w' := by
  obtain ⟨a1, m1, c1, a2, m2, c2, a3, m3, c3, a4, m4, c4, rfl⟩ := hr.open
  obtain ⟨p1, p2⟩ := hr.parts
  have C1 := hide (fun (W : World) (hb : Below w.heap.size w W) => specCheckSig_any p h.root h.top _ W (p1.below hb) hn.1.1 hn.1.2 hz)
  have C2 := hide (fun (W : World) (hb : Below w.heap.size w W) => specCheckSig_any h.root m h.low _ W (p2.below hb) hn.2.1 hn.2.2 hm)
  have HE := hide (show hchkB p m h = (chkB p h.root h.top && chkB h.root m h.low) from rfl)
  rw [unhide HE]
  generalize chkB p h.root h.top = r1 at *
  generalize chkB h.root m h.low = r2 at *
  clear hr p1 p2 hn HE
  cases r1 with
  | true =>
    go_enter Try.func8, Try.ntmps8
    go_wp2_with fail
    obtain ⟨W, hW, hP, hB, hs⟩ := one_cb w #[.int .i64 h.top.leaf, .slice a1 m1 c1, .slice a2 m2 c2, .string h.root, .int .i64 h.low.leaf, .slice a3 m3 c3, .slice a4 m4 c4] 31
    rw [hW]
    clear hW
    refine (unhide C1 W hB).mono ?_
    rintro e w1 ⟨rfl, hb1⟩
    have T1 := hB.trans (hb1.mono hB.size)
    have hP1 := hP.step hb1
    have x3 := hP1.cell 3 (v := .string h.root) rfl
    have x4 := hP1.cell 4 (v := .int .i64 h.low.leaf) rfl
    have x5 := hP1.cell 5 (v := .slice a3 m3 c3) rfl
    have x6 := hP1.cell 6 (v := .slice a4 m4 c4) rfl
    clear hb1 hB hP C1
    go_wp2_with fail
    refine (unhide C2 w1 T1).mono ?_
    rintro e w2 ⟨rfl, hb2⟩
    have T2 := T1.trans (hb2.mono T1.size)
    clear hb2 T1 hP1 C2 x3 x4 x5 x6
    go_wp2
    go_ret
    exact ⟨rfl, T2⟩
  | false =>
    clear C2
    go_enter Try.func8, Try.ntmps8
    go_wp2_with fail
    obtain ⟨W, hW, hP, hB, hs⟩ := one_cb w #[.int .i64 h.top.leaf, .slice a1 m1 c1, .slice a2 m2 c2, .string h.root, .int .i64 h.low.leaf, .slice a3 m3 c3, .slice a4 m4 c4] 31
    rw [hW]
    clear hW
    refine (unhide C1 W hB).mono ?_
    rintro e w1 ⟨rfl, hb1⟩
    have T1 := hB.trans (hb1.mono hB.size)
    clear hb1 hB hP C1
    go_wp2
    go_ret
    exact ⟨rfl, T1⟩
set_option maxRecDepth 20000 in
set_option maxHeartbeats 800000 in
theorem specHyperIndex_any (h : Hy) (v : Value) (w : World) (hr : RdHy w v h) (hn : shHy h) :
    Calls Try.prog 12 #[v] w fun e w' => e = .returned (.int .i64 (hidx h)) ∧ Below w.heap.size w w' := by
  obtain ⟨a1, m1, c1, a2, m2, c2, a3, m3, c3, a4, m4, c4, rfl⟩ := hr.open
  obtain ⟨p1, p2⟩ := hr.parts
  have C1 := hide (fun (W : World) (hb : Below w.heap.size w W) => specSigOk_any h.top _ W (p1.below hb) hn.1.1 hn.1.2)
  have C2 := hide (fun (W : World) (hb : Below w.heap.size w W) => specSigOk_any h.low _ W (p2.below hb) hn.2.1 hn.2.2)
  cases o1 : sgOk h.top with
  | true =>
    rw [o1] at C1
    cases o2 : sgOk h.low with
    | true =>
      rw [o2] at C2
      have HE := hide (show hidx h = 4 * h.top.leaf + h.low.leaf by unfold hidx bothSg; rw [o1, o2]; rfl)
      rw [unhide HE]
      have q1 := (sgOk_shape o1).1
      have q2 := (sgOk_shape o2).1
      generalize h.top.leaf = lt at *
      generalize h.low.leaf = ll at *
      obtain ⟨x, hx⟩ : ∃ x : Int, x = 4 * lt := ⟨_, rfl⟩
      obtain ⟨y, hy⟩ : ∃ y : Int, y = 4 * lt + ll := ⟨_, rfl⟩
      have t1 : IntKind.i64.wrap (4 * lt) = x := by rw [IntKind.wrap_i64]; omega
      have t2 : IntKind.i64.wrap (x + ll) = y := by rw [IntKind.wrap_i64]; omega
      rw [← hy]
      replace hx := hide hx; replace hy := hide hy
      clear hr p1 p2 hn HE o1 o2 q1 q2
      go_enter Try.func12, Try.ntmps12
      go_wp2_with fail
      obtain ⟨W, hW, hP, hB, hs⟩ := one_cb w #[.int .i64 lt, .slice a1 m1 c1, .slice a2 m2 c2, .string h.root, .int .i64 ll, .slice a3 m3 c3, .slice a4 m4 c4] 31
      rw [hW]
      clear hW
      refine (unhide C1 W hB).mono ?_
      rintro e w1 ⟨rfl, hb1⟩
      have T1 := hB.trans (hb1.mono hB.size)
      have hP1 := hP.step hb1
      have x4 := hP1.cell 4 (v := .int .i64 ll) rfl
      have x5 := hP1.cell 5 (v := .slice a3 m3 c3) rfl
      have x6 := hP1.cell 6 (v := .slice a4 m4 c4) rfl
      clear hb1 hB hP C1
      go_wp2_with fail
      refine (unhide C2 w1 T1).mono ?_
      rintro e w2 ⟨rfl, hb2⟩
      have T2 := T1.trans (hb2.mono T1.size)
      have hP2 := hP1.step hb2
      have x0 := hP2.cell 0 (v := .int .i64 lt) rfl
      have x4 := hP2.cell 4 (v := .int .i64 ll) rfl
      clear hb2 T1 hP1 C2 x5 x6
      go_wp2
      go_ret
      exact ⟨rfl, T2⟩
    | false =>
      rw [o2] at C2
      have HE := hide (show hidx h = -1 by unfold hidx bothSg; rw [o1, o2]; rfl)
      rw [unhide HE]
      clear hr p1 p2 hn HE o1 o2
      go_enter Try.func12, Try.ntmps12
      go_wp2_with fail
      obtain ⟨W, hW, hP, hB, hs⟩ := one_cb w #[.int .i64 h.top.leaf, .slice a1 m1 c1, .slice a2 m2 c2, .string h.root, .int .i64 h.low.leaf, .slice a3 m3 c3, .slice a4 m4 c4] 31
      rw [hW]
      clear hW
      refine (unhide C1 W hB).mono ?_
      rintro e w1 ⟨rfl, hb1⟩
      have T1 := hB.trans (hb1.mono hB.size)
      have hP1 := hP.step hb1
      have x4 := hP1.cell 4 (v := .int .i64 h.low.leaf) rfl
      have x5 := hP1.cell 5 (v := .slice a3 m3 c3) rfl
      have x6 := hP1.cell 6 (v := .slice a4 m4 c4) rfl
      clear hb1 hB hP C1
      go_wp2_with fail
      refine (unhide C2 w1 T1).mono ?_
      rintro e w2 ⟨rfl, hb2⟩
      have T2 := T1.trans (hb2.mono T1.size)
      clear hb2 T1 hP1 C2 x4 x5 x6
      go_wp2
      go_ret
      exact ⟨rfl, T2⟩
  | false =>
    rw [o1] at C1
    have HE := hide (show hidx h = -1 by unfold hidx bothSg; rw [o1]; rfl)
    rw [unhide HE]
    clear hr p1 p2 hn HE o1 C2
    go_enter Try.func12, Try.ntmps12
    go_wp2_with fail
    obtain ⟨W, hW, hP, hB, hs⟩ := one_cb w #[.int .i64 h.top.leaf, .slice a1 m1 c1, .slice a2 m2 c2, .string h.root, .int .i64 h.low.leaf, .slice a3 m3 c3, .slice a4 m4 c4] 31
    rw [hW]
    clear hW
    refine (unhide C1 W hB).mono ?_
    rintro e w1 ⟨rfl, hb1⟩
    have T1 := hB.trans (hb1.mono hB.size)
    clear hb1 hB hP C1
    go_wp2
    go_ret
    exact ⟨rfl, T1⟩
end Go.Proofs.Ytjgnjjphankhnac

/- Trees of trees by the given model: signatures, over the loaded program. -/
namespace Go.Proofs.Ytjgnjjphankhnac
open Go.RowKit
end Go.Proofs.Ytjgnjjphankhnac

