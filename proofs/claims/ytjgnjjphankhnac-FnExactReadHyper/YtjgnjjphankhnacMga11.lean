/- Merged: SgI3, HyI2. -/
import Derived.Test.YtjgnjjphankhnacMga1
import Derived.Test.YtjgnjjphankhnacMga2
import Derived.Test.YtjgnjjphankhnacMga3
import Derived.Test.YtjgnjjphankhnacMga4
import Derived.Test.YtjgnjjphankhnacMga5
import Derived.Test.YtjgnjjphankhnacMga6
import Derived.Test.YtjgnjjphankhnacMga7
import Derived.Test.YtjgnjjphankhnacMga8
import Derived.Test.YtjgnjjphankhnacMga9
import Derived.Test.YtjgnjjphankhnacMga10
import Derived.Deep.RegionHeld3
/- Keys of a tree by the project's own functions: a signature that is made, and one that is read, over the loaded program. -/
namespace Go.Proofs.Ytjgnjjphankhnac
open Go.RowKit
theorem cutI16 (T : ByteArray) (i j : Nat) (w : World) (h1 : i ≤ j) (h2 : j ≤ T.size) : (Instr.slice 9 (.string T) (some (.int .i64 (i : Int))) (some (.int .i64 (j : Int))) none).run Try.prog w = .ok (.string (T.extract i j)) w := by
  rw [run_slice_string_if w 9 T .i64 .i64 (i : Int) (j : Int) Try.underlying9, if_pos (by omega), if_pos (by omega)]
  rfl
def prI (f : Nat → ByteArray) (k : Nat) : List ByteArray := (List.range k).map f
theorem prI_len (f : Nat → ByteArray) (k : Nat) : (prI f k).length = k := by unfold prI; rw [List.length_map, List.length_range]
theorem prI_succ (f : Nat → ByteArray) (k : Nat) : prI f (k + 1) = prI f k ++ [f k] := by unfold prI; rw [List.range_succ, List.map_append]; rfl
set_option maxRecDepth 20000 in
set_option maxHeartbeats 800000 in
theorem shortsOf_any (t : ByteArray) (n : Nat) (ht : t.size = 4 * n) (hn : n ≤ 1000) (F : Nat → ByteArray) (hF : ∀ k, k < n → t.extract (k * 4) (k * 4 + 4) = F k) (w : World) :
    Calls Try.prog 47 #[.string t] w fun e w' => (∃ v, e = .returned v ∧ OwnV w' w.heap.size 9 v ((prI F n).map sv)) ∧ Below w.heap.size w w' := by
  obtain ⟨i0, hi, hz0, hz1, hz2⟩ := info_parts infoTxt
  have v1' : (t.size : Int) / 4 = (n : Int) := by omega
  have v1 : (t.size : Int).tdiv 4 = (n : Int) := by rw [Int.tdiv_eq_ediv_of_nonneg (by omega)]; omega
  have HS := hide (fun k (hk : k < n) (W : World) => show (Instr.slice 9 (.string t) (some (.int .i64 ((k * 4 : Nat) : Int))) (some (.int .i64 ((k * 4 + 4 : Nat) : Int))) none).run Try.prog W = .ok (.string (F k)) W by rw [cutI16 t (k * 4) (k * 4 + 4) W (by omega) (by omega), hF k hk])
  have HC := hide (fun k (hk : k < n) (W : World) => stringsClone14_any (F k) W (by rw [← hF k hk, ByteArray.size_extract]; omega))
  clear hF
  go_enter Try.func47, Try.ntmps47
  go_wp2_with (at_make; refine wpList_make_own _ rfl _ _ 22 rfl w.heap.size 9 i0 (.string ⟨#[]⟩) 1 Try.underlying22 hi hz0 hz1 _ _ _ n rfl rfl (by omega) (by rw [hz2]; omega) (by unfold maxLen; omega) (Nat.le_refl _) ?_; intro w1 hown1 hgrow1)
  have hb1 : Below w.heap.size w w1 := (Below.refl _ _).grown hgrow1 (Nat.le_refl _) (fun k hk => by cases hk)
  have hown0 : OwnV w1 w.heap.size 9 (.slice (some ⟨w.heap.size, 0, none⟩) 0 n) ((prI F 0).map sv) := hown1
  clear hown1 hgrow1
  go_loopw [3, 4] (fun tv ti wr => ∃ k m : Nat, k ≤ n ∧ m = k * 4 ∧ ti = .int .i64 (m : Int) ∧ Hid (OwnV wr w.heap.size 9 tv ((prI F k).map sv)) ∧ Below w.heap.size w wr) (fun _ ti _ => 4 * n - (intOf ti).toNat)
  case atStart => exact ⟨0, 0, by omega, rfl, rfl, hide hown0, hb1⟩
  case round =>
    clear hown0 hb1
    obtain ⟨k, m, hk, hm, rfl, HO, hB⟩ := hrel
    by_cases hlt : k < n
    · have hk' : (m : Int) < (t.size : Int) := by omega
      obtain ⟨m4, hm4⟩ : ∃ m4, m4 = k * 4 + 4 := ⟨_, rfl⟩
      have t1 : IntKind.i64.wrap ((m : Int) + 4) = (m4 : Int) := by rw [IntKind.wrap_i64]; omega
      have hsl := unhide HS k hlt
      have hcl := hide (unhide HC k hlt)
      rw [← hm4, ← hm] at hsl
      have HP := hide (prI_succ F k)
      have hpl : ((prI F k).map sv).length ≤ 1000 := by rw [List.length_map, prI_len]; omega
      generalize F k = x at *
      have hmm := hide hm
      have hmm4 := hide hm4
      have hlt4 : m4 ≤ 4 * n := by omega
      have hm5 : m < m4 := by omega
      clear HS HC hm hm4
      replace hpl := hide hpl
      go_wp2_with fail
      refine (unhide hcl wr).mono ?_
      rintro e w3 ⟨rfl, hb3⟩
      have hB3 := hB.trans (hb3.mono hB.size)
      have HO3 := hide ((unhide HO).below hb3)
      have hsz3 := hB3.size
      clear hb3 hB hcl HO
      go_wp2_with (at_builtin; refine wpList_append_val (w := w3) rfl (.tmp 15) (.tmp 22) 22 rfl w.heap.size 9 i0 (.string ⟨#[]⟩) 16 Try.underlying22 hi hz0 hz1 hz2 rfl u3 _ (by rfl) (unhide HO3) (.string x) rfl (by rfl) (unhide hpl) (by decide) hB3 (Nat.le_refl _) hsz3 ?_; intro v' w8 ho8 hB8)
      have ho9 := hide (show OwnV w8 w.heap.size 9 v' ((prI F (k + 1)).map sv) by rw [unhide HP, List.map_append]; exact ho8)
      clear ho8 HO3 HP hsl
      go_wp2
      exact ⟨⟨k + 1, m4, by omega, by rw [unhide hmm4]; omega, rfl, ho9, hB8⟩, by simp [intOf]; omega⟩
    · have hk' : ¬ (m : Int) < (t.size : Int) := by omega
      obtain rfl : k = n := by omega
      clear HS HC
      go_wp2
      go_ret
      exact ⟨⟨_, rfl, unhide HO⟩, hB⟩
set_option maxRecDepth 20000 in
set_option maxHeartbeats 800000 in
theorem implReadSig_any (t : ByteArray) (w : World) :
    Calls Try.prog 30 #[.string t] w fun e w' => (∃ v, e = .returned (.tuple #[v, .bool (rdOk t)]) ∧ OwnSg w' w.heap.size v (rdS t)) ∧ Below w.heap.size w w' := by
  by_cases h49 : t.size = 49
  · have h49' : (t.size : Int) = 49 := by omega
    have hix : ∀ h : 0 < t.size, (t[0]'h).toNat = byA t 0 := fun h => byA_at t 0 h
    have hbl := byA_lt t 0
    obtain ⟨b, hb⟩ : ∃ b, b = byA t 0 := ⟨_, rfl⟩
    rw [← hb] at hix hbl
    have q0 : IntKind.i64.wrap (b : Int) = (b : Int) := by rw [IntKind.wrap_i64]; omega
    have h0s : 0 < t.size := by omega
    have h1t := fun (W : World) => run_slice_string_l W 9 t Try.underlying9 .i64 1 (by omega) (by omega)
    have C0 := hide (fun W => isLeaf_any (b : Int) W)
    obtain ⟨T, hT⟩ : ∃ T, T = t.extract 1 49 := ⟨_, rfl⟩
    have hTs : T.size = 48 := by rw [hT, ByteArray.size_extract]; omega
    by_cases h4 : b < 4
    · have hin : rdIn t := ⟨h49, by omega⟩
      have ER := hide (show rdS t = ⟨(b : Int), prI (prtB t) 10, prI (fun i => prtB t (10 + i)) 2⟩ by unfold rdS; rw [if_pos (rdOk_of hin), hb]; rfl)
      rw [unhide ER, rdOk_of hin]
      rw [decide_eq_true (show 0 ≤ (b : Int) ∧ (b : Int) ≤ 3 by omega)] at C0
      have C1 := hide (fun W => shortsOf_any (T.extract 0 40) 10 (by rw [ByteArray.size_extract]; omega) (by omega) (prtB t) (fun k hk => by
        unfold prtB
        rw [hT, ByteArray.extract_extract, ByteArray.extract_extract]
        congr 1 <;> omega) W)
      have C2 := hide (fun W => shortsOf_any (T.extract 40 T.size) 2 (by rw [ByteArray.size_extract]; omega) (by omega) (fun i => prtB t (10 + i)) (fun k hk => by
        unfold prtB
        rw [hTs, hT, ByteArray.extract_extract, ByteArray.extract_extract]
        congr 1 <;> omega) W)
      generalize prI (prtB t) 10 = L1 at *
      generalize prI (fun i => prtB t (10 + i)) 2 = L2 at *
      have hc1 : ∀ W : World, (Instr.slice 9 (.string T) none (some (.int .i64 40)) none).run Try.prog W = .ok (.string (T.extract 0 40)) W := fun W => run_slice_string_h W 9 T Try.underlying9 .i64 40 (by omega) (by omega)
      have hc2 : ∀ W : World, (Instr.slice 9 (.string T) (some (.int .i64 40)) none none).run Try.prog W = .ok (.string (T.extract 40 T.size)) W := fun W => run_slice_string_l W 9 T Try.underlying9 .i64 40 (by omega) (by omega)
      generalize T.extract 0 40 = Ta at *
      generalize T.extract 40 T.size = Tb at *
      replace hb := hide hb
      clear ER hin
      go_enter Try.func30, Try.ntmps30
      go_wp2
      obtain ⟨W, hW, hR, hB, hs1⟩ := one_cb w #[.int .i64 0, .slice none 0 0, .slice none 0 0] 29
      rw [hW]
      clear hW
      go_quiet (fail)
      rw [← hT]
      have hRV := hR.step (bDN (Below.refl _ _) nq)
      have hBV := bDN hB nq
      have hwV : w.heap.size < (W.drewN nq).heap.size := hs1
      generalize W.drewN nq = V at *
      replace hT := hide hT
      clear hB hR hs1 hix h1t W h49' h49 q0 hbl h0s h4 hTs
      go_wp2_with fail
      refine (unhide C0 V).mono ?_
      rintro e w1 ⟨rfl, hw1⟩
      have hw2 := hw1.symm
      subst hw2
      clear hw1 C0
      go_wp2_with fail
      have HR := hide (fun (W' : World) (h : Below V.heap.size V W') => hRV.step h)
      have HT0 := (Below.refl V.heap.size V).drew
      clear hRV
      go_region_held3 (fun _ => True) (first | trivial | fail) (first
        | (go_at_call 47; have hq1 := hT1; refine (unhide C2 _).mono ?_; rintro e w2 ⟨⟨v2, rfl, o2⟩, hb2⟩; have hT2 := hT1.trans (hb2.mono hT1.size); have s2 := o2.shape; obtain ⟨a2, c2, rfl⟩ := s2; replace o2 := hide o2; generalize hn2 : (L2.map sv).length = n2 at *; have hR2 := unhide HR _ hT2; have r0 := hR2.cell 0 (v := .int .i64 0) rfl; have r1 := hR2.cell 1 (v := .slice none 0 0) rfl; have r2 := hR2.cell 2 (v := .slice none 0 0) rfl; have g0 := hR2.frozen 0; have g1 := hR2.frozen 1; have g2 := hR2.frozen 2; replace hR2 := hide hR2)
        | (go_at_call 47; refine (unhide C1 _).mono ?_; rintro e w1 ⟨⟨v1, rfl, o1⟩, hb1⟩; have hT1 := HT0.trans (hb1.mono HT0.size); have s1 := o1.shape; obtain ⟨a1, c1, rfl⟩ := s1; replace o1 := hide o1; generalize hn1 : (L1.map sv).length = n1 at *))
      all_goals
        have hsT : V.heap.size ≤ w1.heap.size := hT1.size
        have o5 := hide ((unhide o1).below hb2)
        have ap := hide (show ∀ k, (Value.slice a1 n1 c1).ownBlock = some k → (Value.slice a2 n2 c2).ownBlock ≠ some k from fun k hk hk2 => by
          have h1 := ((unhide o1).lt k hk).2
          have h2 := ((unhide o2).lt k hk2).1
          omega)
        have of5 := hide ((unhide hR2).off (unhide o5) (by decide))
        have of4 := hide ((unhide hR2).off (unhide o2) (by decide))
        have hB4 := hBV.trans (hT2.mono hBV.size)
        have o4' := hide ((unhide o2).low (show w.heap.size ≤ w1.heap.size by omega))
        have o5' := hide ((unhide o5).low (show w.heap.size ≤ V.drew.heap.size from Nat.le_of_lt hwV))
        have hF := hide ((((unhide hR2).set 0 (.int .i64 (b : Int))).set 1 (.slice a1 n1 c1)).set 2 (.slice a2 n2 c2))
        have hBF := hide (((hB4.setCell (p := ⟨w.heap.size, 0, none⟩) (Nat.le_refl _) (.int .i64 (b : Int))).setCell (p := ⟨w.heap.size, 1, none⟩) (Nat.le_refl _) (.slice a1 n1 c1)).setCell (p := ⟨w.heap.size, 2, none⟩) (Nat.le_refl _) (.slice a2 n2 c2))
        have o6 := hide ((((unhide o5').setO w.heap.size 0 (.int .i64 (b : Int)) (unhide of5)).setO w.heap.size 1 (.slice a1 n1 c1) (unhide of5)).setO w.heap.size 2 (.slice a2 n2 c2) (unhide of5))
        have o7 := hide ((((unhide o4').setO w.heap.size 0 (.int .i64 (b : Int)) (unhide of4)).setO w.heap.size 1 (.slice a1 n1 c1) (unhide of4)).setO w.heap.size 2 (.slice a2 n2 c2) (unhide of4))
        clear o1 o2 o5 o4' o5' of5 of4 hB4 hR2 HR HT0 hT1 hT2 hb1 hb2 r0 r1 r2 g0 g1 g2 C1 C2 hc1 hc2
        go_wp2
        exact bodyPost_ret (results_cb_tmp (by exact Try.results30) _ _ _ _ _ _ rfl (unhide hF) Try.underlying29 (by kernel_rfl)) rfl ⟨⟨_, rfl, _, _, rfl, unhide o6, unhide o7, unhide ap⟩, unhide hBF⟩
    · have hno : rdOk t = false := by
        cases e : rdOk t with
        | false => rfl
        | true => exact absurd (rdOk_in e).2 (by rw [← hb]; exact h4)
      have ER := hide (show rdS t = ⟨0, [], []⟩ by unfold rdS; rw [hno]; rfl)
      rw [unhide ER, hno]
      rw [decide_eq_false (show ¬ (0 ≤ (b : Int) ∧ (b : Int) ≤ 3) by omega)] at C0
      replace hb := hide hb
      clear ER hno
      go_enter Try.func30, Try.ntmps30
      go_wp2
      obtain ⟨W, hW, hR, hB, hs1⟩ := one_cb w #[.int .i64 0, .slice none 0 0, .slice none 0 0] 29
      rw [hW]
      clear hW
      go_quiet (fail)
      have hRV := hR.step (bDN (Below.refl _ _) nq)
      have hBV := bDN hB nq
      have hwV : w.heap.size < (W.drewN nq).heap.size := hs1
      generalize W.drewN nq = V at *
      clear hB hR hs1 hix h1t W
      go_wp2_with fail
      refine (unhide C0 V).mono ?_
      rintro e w1 ⟨rfl, hw1⟩
      have hw2 := hw1.symm
      subst hw2
      clear hw1 C0
      have r0 := hRV.cell 0 (v := .int .i64 0) rfl
      have r1 := hRV.cell 1 (v := .slice none 0 0) rfl
      have r2 := hRV.cell 2 (v := .slice none 0 0) rfl
      have g0 := hRV.frozen 0
      have g1 := hRV.frozen 1
      have g2 := hRV.frozen 2
      go_wp2
      have hF := hide (((hRV.set 0 (.int .i64 0)).set 1 (.slice none 0 0)).set 2 (.slice none 0 0))
      have hBF := hide (((hBV.setCell (p := ⟨w.heap.size, 0, none⟩) (Nat.le_refl _) (.int .i64 0)).setCell (p := ⟨w.heap.size, 1, none⟩) (Nat.le_refl _) (.slice none 0 0)).setCell (p := ⟨w.heap.size, 2, none⟩) (Nat.le_refl _) (.slice none 0 0))
      exact bodyPost_ret (results_cb_tmp (by exact Try.results30) _ _ _ _ _ _ rfl (unhide hF) Try.underlying29 (by kernel_rfl)) rfl ⟨⟨_, rfl, _, _, rfl, OwnV.nil _ _ _, OwnV.nil _ _ _, fun k hk => by cases hk⟩, unhide hBF⟩
  · have hno : rdOk t = false := by
      cases e : rdOk t with
      | false => rfl
      | true => exact absurd (rdOk_in e).1 h49
    have ER := hide (show rdS t = ⟨0, [], []⟩ by unfold rdS; rw [hno]; rfl)
    rw [unhide ER, hno]
    have h49' : ¬ (t.size : Int) = 49 := by omega
    clear ER hno h49
    go_enter Try.func30, Try.ntmps30
    go_wp2
    obtain ⟨W, hW, hR, hB, hs1⟩ := one_cb w #[.int .i64 0, .slice none 0 0, .slice none 0 0] 29
    rw [hW]
    exact bodyPost_ret (results_cb_tmp (by exact Try.results30) _ _ _ _ _ _ rfl hR Try.underlying29 (by kernel_rfl)) rfl ⟨⟨_, rfl, _, _, rfl, OwnV.nil _ _ _, OwnV.nil _ _ _, fun k hk => by cases hk⟩, hB⟩
end Go.Proofs.Ytjgnjjphankhnac

/- Trees of trees by the project's own functions: what is checked, indexes, texts, over the loaded program. -/
namespace Go.Proofs.Ytjgnjjphankhnac
open Go.RowKit
set_option maxRecDepth 20000 in
set_option maxHeartbeats 800000 in
theorem implHyperCheck_any (p m : ByteArray) (h : Hy) (v : Value) (w : World) (hr : RdHy w v h) (hz : h.root.size ≤ 1048576) (hm : m.size ≤ 1048576) :
    Calls Try.prog 10 #[.string p, .string m, v] w fun e w' => e = .returned (.bool (hchkB p m h)) ∧ Below w.heap.size w w' := by
  obtain ⟨a1, m1, c1, a2, m2, c2, a3, m3, c3, a4, m4, c4, rfl⟩ := hr.open
  obtain ⟨p1, p2⟩ := hr.parts
  have C1 := hide (fun (W : World) (hb : Below w.heap.size w W) => implCheckSig_any p h.root h.top _ W (p1.below hb) hz)
  have C2 := hide (fun (W : World) (hb : Below w.heap.size w W) => implCheckSig_any h.root m h.low _ W (p2.below hb) hm)
  have HE := hide (show hchkB p m h = (chkB p h.root h.top && chkB h.root m h.low) from rfl)
  rw [unhide HE]
  generalize chkB p h.root h.top = r1 at *
  generalize chkB h.root m h.low = r2 at *
  clear hr p1 p2 HE
  cases r1 with
  | true =>
    go_enter Try.func10, Try.ntmps10
    go_wp2_with fail
    obtain ⟨W, hW, hP, hB, hs⟩ := one_cb w #[.int .i64 h.top.leaf, .slice a1 m1 c1, .slice a2 m2 c2, .string h.root, .int .i64 h.low.leaf, .slice a3 m3 c3, .slice a4 m4 c4] 31
    rw [hW]
    clear hW
    refine (unhide C1 W hB).mono ?_
    rintro e w1 ⟨rfl, hb1⟩
    have T1 := hB.trans (hb1.mono hB.size)
    have hP1 := hP.step hb1
    have x3 := hP1.cell 3 (v := .string h.root) rfl
    have x4 := hP1.cell 4 (v := .int .i64 h.low.leaf) rfl
    have x5 := hP1.cell 5 (v := .slice a3 m3 c3) rfl
    have x6 := hP1.cell 6 (v := .slice a4 m4 c4) rfl
    clear hb1 hB hP C1
    go_wp2_with fail
    refine (unhide C2 w1 T1).mono ?_
    rintro e w2 ⟨rfl, hb2⟩
    have T2 := T1.trans (hb2.mono T1.size)
    clear hb2 T1 hP1 C2 x3 x4 x5 x6
    go_wp2
    go_ret
    exact ⟨rfl, T2⟩
  | false =>
    clear C2
    go_enter Try.func10, Try.ntmps10
    go_wp2_with fail
    obtain ⟨W, hW, hP, hB, hs⟩ := one_cb w #[.int .i64 h.top.leaf, .slice a1 m1 c1, .slice a2 m2 c2, .string h.root, .int .i64 h.low.leaf, .slice a3 m3 c3, .slice a4 m4 c4] 31
    rw [hW]
    clear hW
    refine (unhide C1 W hB).mono ?_
    rintro e w1 ⟨rfl, hb1⟩
    have T1 := hB.trans (hb1.mono hB.size)
    clear hb1 hB hP C1
    go_wp2
    go_ret
    exact ⟨rfl, T1⟩
set_option maxRecDepth 20000 in
set_option maxHeartbeats 800000 in
theorem implHyperIndex_any (h : Hy) (v : Value) (w : World) (hr : RdHy w v h) :
    Calls Try.prog 13 #[v] w fun e w' => e = .returned (.int .i64 (hidx h)) ∧ Below w.heap.size w w' := by
  obtain ⟨a1, m1, c1, a2, m2, c2, a3, m3, c3, a4, m4, c4, rfl⟩ := hr.open
  obtain ⟨p1, p2⟩ := hr.parts
  have C1 := hide (fun (W : World) (hb : Below w.heap.size w W) => implSigOk_any h.top _ W (p1.below hb))
  have C2 := hide (fun (W : World) (hb : Below w.heap.size w W) => implSigOk_any h.low _ W (p2.below hb))
  cases o1 : sgOk h.top with
  | true =>
    rw [o1] at C1
    cases o2 : sgOk h.low with
    | true =>
      rw [o2] at C2
      have HE := hide (show hidx h = 4 * h.top.leaf + h.low.leaf by unfold hidx bothSg; rw [o1, o2]; rfl)
      rw [unhide HE]
      have q1 := (sgOk_shape o1).1
      have q2 := (sgOk_shape o2).1
      generalize h.top.leaf = lt at *
      generalize h.low.leaf = ll at *
      obtain ⟨x, hx⟩ : ∃ x : Int, x = 4 * lt := ⟨_, rfl⟩
      obtain ⟨y, hy⟩ : ∃ y : Int, y = 4 * lt + ll := ⟨_, rfl⟩
      have t1 : IntKind.i64.wrap (4 * lt) = x := by rw [IntKind.wrap_i64]; omega
      have t2 : IntKind.i64.wrap (x + ll) = y := by rw [IntKind.wrap_i64]; omega
      rw [← hy]
      replace hx := hide hx; replace hy := hide hy
      clear hr p1 p2 HE o1 o2 q1 q2
      go_enter Try.func13, Try.ntmps13
      go_wp2_with fail
      obtain ⟨W, hW, hP, hB, hs⟩ := one_cb w #[.int .i64 lt, .slice a1 m1 c1, .slice a2 m2 c2, .string h.root, .int .i64 ll, .slice a3 m3 c3, .slice a4 m4 c4] 31
      rw [hW]
      clear hW
      refine (unhide C1 W hB).mono ?_
      rintro e w1 ⟨rfl, hb1⟩
      have T1 := hB.trans (hb1.mono hB.size)
      have hP1 := hP.step hb1
      have x4 := hP1.cell 4 (v := .int .i64 ll) rfl
      have x5 := hP1.cell 5 (v := .slice a3 m3 c3) rfl
      have x6 := hP1.cell 6 (v := .slice a4 m4 c4) rfl
      clear hb1 hB hP C1
      go_wp2_with fail
      refine (unhide C2 w1 T1).mono ?_
      rintro e w2 ⟨rfl, hb2⟩
      have T2 := T1.trans (hb2.mono T1.size)
      have hP2 := hP1.step hb2
      have x0 := hP2.cell 0 (v := .int .i64 lt) rfl
      have x4 := hP2.cell 4 (v := .int .i64 ll) rfl
      clear hb2 T1 hP1 C2 x5 x6
      go_wp2
      go_ret
      exact ⟨rfl, T2⟩
    | false =>
      rw [o2] at C2
      have HE := hide (show hidx h = -1 by unfold hidx bothSg; rw [o1, o2]; rfl)
      rw [unhide HE]
      clear hr p1 p2 HE o1 o2
      go_enter Try.func13, Try.ntmps13
      go_wp2_with fail
      obtain ⟨W, hW, hP, hB, hs⟩ := one_cb w #[.int .i64 h.top.leaf, .slice a1 m1 c1, .slice a2 m2 c2, .string h.root, .int .i64 h.low.leaf, .slice a3 m3 c3, .slice a4 m4 c4] 31
      rw [hW]
      clear hW
      refine (unhide C1 W hB).mono ?_
      rintro e w1 ⟨rfl, hb1⟩
      have T1 := hB.trans (hb1.mono hB.size)
      have hP1 := hP.step hb1
      have x4 := hP1.cell 4 (v := .int .i64 h.low.leaf) rfl
      have x5 := hP1.cell 5 (v := .slice a3 m3 c3) rfl
      have x6 := hP1.cell 6 (v := .slice a4 m4 c4) rfl
      clear hb1 hB hP C1
      go_wp2_with fail
      refine (unhide C2 w1 T1).mono ?_
      rintro e w2 ⟨rfl, hb2⟩
      have T2 := T1.trans (hb2.mono T1.size)
      clear hb2 T1 hP1 C2 x4 x5 x6
      go_wp2
      go_ret
      exact ⟨rfl, T2⟩
  | false =>
    rw [o1] at C1
    have HE := hide (show hidx h = -1 by unfold hidx bothSg; rw [o1]; rfl)
    rw [unhide HE]
    clear hr p1 p2 HE o1 C2
    go_enter Try.func13, Try.ntmps13
    go_wp2_with fail
    obtain ⟨W, hW, hP, hB, hs⟩ := one_cb w #[.int .i64 h.top.leaf, .slice a1 m1 c1, .slice a2 m2 c2, .string h.root, .int .i64 h.low.leaf, .slice a3 m3 c3, .slice a4 m4 c4] 31
    rw [hW]
    clear hW
    refine (unhide C1 W hB).mono ?_
    rintro e w1 ⟨rfl, hb1⟩
    have T1 := hB.trans (hb1.mono hB.size)
    clear hb1 hB hP C1
    go_wp2
    go_ret
    exact ⟨rfl, T1⟩
set_option maxRecDepth 20000 in
set_option maxHeartbeats 800000 in
theorem implHyperText_any (h : Hy) (v : Value) (w : World) (hr : RdHy w v h) :
    Calls Try.prog 15 #[v] w fun e w' => e = .returned (.tuple #[.string (htx h), .bool (htxOk h)]) ∧ Below w.heap.size w w' := by
  obtain ⟨a1, m1, c1, a2, m2, c2, a3, m3, c3, a4, m4, c4, rfl⟩ := hr.open
  obtain ⟨p1, p2⟩ := hr.parts
  have C1 := hide (fun (W : World) (hb : Below w.heap.size w W) => implSigText_any h.top _ W (p1.below hb))
  have C2 := hide (fun (W : World) (hb : Below w.heap.size w W) => implSigText_any h.low _ W (p2.below hb))
  have E1 := hide (show htxOk h = (sgOk h.top && sgOk h.low && decide (h.root.size = 4)) from rfl)
  have E2 := hide (show htx h = if htxOk h = true then sgT h.top ++ h.root ++ sgT h.low else ⟨#[]⟩ from rfl)
  have z1 : sgOk h.top = true → (sgT h.top).size = 49 := sgT_size
  have z2 : sgOk h.low = true → (sgT h.low).size = 49 := sgT_size
  rw [unhide E2, unhide E1]
  obtain ⟨b4, hb4⟩ : ∃ b, b = decide (h.root.size = 4) := ⟨_, rfl⟩
  rw [← hb4]
  generalize sgOk h.top = k1 at *
  generalize sgOk h.low = k2 at *
  generalize sgT h.top = x1 at *
  generalize sgT h.low = x2 at *
  clear hr p1 p2 E1 E2
  replace hb4 := hide hb4
  go_enter Try.func15, Try.ntmps15
  go_wp2_with fail
  obtain ⟨W, hW, hP, hB, hs⟩ := one_cb w #[.int .i64 h.top.leaf, .slice a1 m1 c1, .slice a2 m2 c2, .string h.root, .int .i64 h.low.leaf, .slice a3 m3 c3, .slice a4 m4 c4] 31
  rw [hW]
  clear hW
  refine (unhide C1 W hB).mono ?_
  rintro e w1 ⟨rfl, hb1⟩
  have T1 := hB.trans (hb1.mono hB.size)
  have hP1 := hP.step hb1
  have x4 := hP1.cell 4 (v := .int .i64 h.low.leaf) rfl
  have x5 := hP1.cell 5 (v := .slice a3 m3 c3) rfl
  have x6 := hP1.cell 6 (v := .slice a4 m4 c4) rfl
  clear hb1 hB hP C1
  go_wp2_with fail
  refine (unhide C2 w1 T1).mono ?_
  rintro e w2 ⟨rfl, hb2⟩
  have T2 := T1.trans (hb2.mono T1.size)
  have hP2 := hP1.step hb2
  have x3 := hP2.cell 3 (v := .string h.root) rfl
  clear hb2 T1 hP1 C2 x4 x5 x6
  cases k1 with
  | false =>
    clear z1 z2
    go_wp2
    go_ret2
    exact ⟨rfl, T2⟩
  | true =>
    cases k2 with
    | false =>
      clear z1 z2
      go_wp2
      go_ret2
      exact ⟨rfl, T2⟩
    | true =>
      have y1 := z1 rfl
      have y2 := z2 rfl
      clear z1 z2
      by_cases h4 : h.root.size = 4
      · have h4' : (h.root.size : Int) = 4 := by omega
        have s1 : ¬ 9223372036854775807 < x1.size + h.root.size := by omega
        have s2 : x1.size + h.root.size ≤ 9223372036854775807 := by omega
        have s3 : ¬ 9223372036854775807 < (x1 ++ h.root).size + x2.size := by rw [ByteArray.size_append]; omega
        have s4 : (x1 ++ h.root).size + x2.size ≤ 9223372036854775807 := by rw [ByteArray.size_append]; omega
        have s5 : (x1 ++ h.root).size = x1.size + h.root.size := ByteArray.size_append
        replace y1 := hide y1; replace y2 := hide y2
        have hd : b4 = true := by rw [unhide hb4]; exact decide_eq_true h4
        subst hd
        replace h4 := hide h4
        clear hb4
        go_wp2
        go_ret2
        exact ⟨rfl, T2⟩
      · have h4' : ¬ (h.root.size : Int) = 4 := by omega
        have hd : b4 = false := by rw [unhide hb4]; exact decide_eq_false h4
        subst hd
        clear y1 y2 h4 hb4
        go_wp2
        go_ret2
        exact ⟨rfl, T2⟩
set_option maxRecDepth 20000 in
set_option maxHeartbeats 1600000 in
theorem implReadHyper_any (t : ByteArray) (w : World) :
    Calls Try.prog 17 #[.string t] w fun e w' => (∃ v, e = .returned (.tuple #[v, .bool (hrdOk t)]) ∧ OwnHy w' w.heap.size v (hrdS t)) ∧ Below w.heap.size w w' := by
  by_cases h102 : t.size = 102
  · have h102' : (t.size : Int) = 102 := by omega
    have E1 := hide (show hrdOk t = (rdOk (t.extract 0 49) && rdOk (t.extract 53 102)) by unfold hrdOk hA hL; rw [decide_eq_true h102, Bool.true_and, h102])
    have E2 := hide (fun (h : hrdOk t = true) => show hrdS t = ⟨rdS (t.extract 0 49), t.extract 49 53, rdS (t.extract 53 102)⟩ by rw [hrd_is h]; unfold hA hR hL; rw [h102])
    have E3 := hide (fun (h : ¬ hrdOk t = true) => show hrdS t = ⟨noSg, ⟨#[]⟩, noSg⟩ by unfold hrdS; rw [if_neg h])
    have C1 := hide (fun W => implReadSig_any (t.extract 0 49) W)
    have C2 := hide (fun W => implReadSig_any (t.extract 53 102) W)
    rw [unhide E1] at E2 E3 ⊢
    generalize hrdS t = HH at *
    generalize rdOk (t.extract 0 49) = k1 at *
    generalize rdOk (t.extract 53 102) = k2 at *
    generalize rdS (t.extract 0 49) = S1 at *
    generalize rdS (t.extract 53 102) = S2 at *
    clear E1
    go_enter Try.func17, Try.ntmps17
    go_wp2_with fail
    obtain ⟨W, hW, hR, hB, hs1⟩ := one_cb w #[.int .i64 0, .slice none 0 0, .slice none 0 0, .string ⟨#[]⟩, .int .i64 0, .slice none 0 0, .slice none 0 0] 31
    rw [hW]
    clear hW
    refine (unhide C1 W).mono ?_
    rintro e w1 ⟨⟨v1, rfl, o1⟩, hb1⟩
    obtain ⟨b1, n1, e1, b2, n2, e2, rfl⟩ := o1.open
    have T1 := hB.trans (hb1.mono hB.size)
    have hR1 := hR.step hb1
    replace o1 := hide o1
    clear hb1 hR hB C1
    go_wp2_with fail
    obtain ⟨W1, hW, hA5, hB1, hs2⟩ := one_cb w1 #[.int .i64 S1.leaf, .slice b1 n1 e1, .slice b2 n2 e2] 29
    rw [hW]
    clear hW
    have T2 := T1.trans (hB1.mono T1.size)
    have hR2 := hR1.step hB1
    have o2 := hide ((unhide o1).below hB1)
    have hsT1 := T1.size
    have g25 : w.heap.size ≠ w1.heap.size := by have := hR1.lt; omega
    obtain ⟨g5, hg5⟩ : ∃ x, x = w1.heap.size := ⟨_, rfl⟩
    have hlo5 : w.heap.size ≤ g5 := by omega
    rw [← hg5] at hA5 g25 ⊢
    clear T1 hR1 hB1 o1 hs2 hg5
    refine (unhide C2 W1).mono ?_
    rintro e w3 ⟨⟨v3, rfl, o3⟩, hb3⟩
    obtain ⟨b3, n3, e3, b4, n4, e4, rfl⟩ := o3.open
    have T3 := T2.trans (hb3.mono T2.size)
    have hR3 := hR2.step hb3
    have hA6 := hA5.step hb3
    have o4 := hide ((unhide o2).below hb3)
    have hsT2 := T2.size
    have ap := hide (show ∀ k, ((Value.slice b1 n1 e1).ownBlock = some k ∨ (Value.slice b2 n2 e2).ownBlock = some k) → (Value.slice b3 n3 e3).ownBlock ≠ some k ∧ (Value.slice b4 n4 e4).ownBlock ≠ some k from fun k hk => by
      have h1 := (OwnSg.bounds (lf := S1.leaf) (unhide o2) k hk).2
      exact ⟨fun e => by have h2 := (OwnSg.bounds (lf := S2.leaf) o3 k (.inl e)).1; omega, fun e => by have h2 := (OwnSg.bounds (lf := S2.leaf) o3 k (.inr e)).1; omega⟩)
    have l5 := hA6.lt
    replace o3 := hide o3
    clear hb3 T2 hR2 hA5 o2 C2
    have lR := hR3.lt
    cases hk : (k1 && k2) with
    | false =>
      have hHH := unhide E3 (by rw [hk]; decide)
      have hc : ¬ (k1 = true ∧ k2 = true) := fun h => by rw [h.1, h.2] at hk; cases hk
      obtain ⟨W3, hW3, hA7, hB3, hs3⟩ := one_cb w3 #[.int .i64 S2.leaf, .slice b3 n3 e3, .slice b4 n4 e4] 29
      have T4 := T3.trans (hB3.mono T3.size)
      have hR4 := hR3.step hB3
      have G9 := (gSet (gSet (gSet (gSet (gSet (gSet (gSet (gR9 W3 (some w.heap.size)) 0 (.int .i64 0)) 1 (.slice none 0 0)) 2 (.slice none 0 0)) 3 (.string ⟨#[]⟩)) 4 (.int .i64 0)) 5 (.slice none 0 0)) 6 (.slice none 0 0))
      have hF := hide ((((((((hR4).set 0 (.int .i64 0)).set 1 (.slice none 0 0)).set 2 (.slice none 0 0)).set 3 (.string ⟨#[]⟩)).set 4 (.int .i64 0)).set 5 (.slice none 0 0)).set 6 (.slice none 0 0))
      have T9 := hide (T4.grown G9 T4.size (fun k hk => by cases hk; exact Nat.le_refl _))
      replace hW3 := hide hW3
      clear hB3 hs3 T3 hR3 hA6 hA7 E2 E3 o3 o4 ap T4 G9
      have r0 := hR4.cell 0 (v := (.int .i64 0)) rfl
      have r1 := hR4.cell 1 (v := (.slice none 0 0)) rfl
      have r2 := hR4.cell 2 (v := (.slice none 0 0)) rfl
      have r3 := hR4.cell 3 (v := (.string ⟨#[]⟩)) rfl
      have r4 := hR4.cell 4 (v := (.int .i64 0)) rfl
      have r5 := hR4.cell 5 (v := (.slice none 0 0)) rfl
      have r6 := hR4.cell 6 (v := (.slice none 0 0)) rfl
      have z0 := hR4.frozen 0
      have z1 := hR4.frozen 1
      have z2 := hR4.frozen 2
      have z3 := hR4.frozen 3
      have z4 := hR4.frozen 4
      have z5 := hR4.frozen 5
      have z6 := hR4.frozen 6
      subst hHH
      cases k1 with
      | true =>
        cases k2 with
        | true => exact absurd ⟨rfl, rfl⟩ hc
        | false =>
          clear hc hk
          go_wp2_with (rw [unhide hW3])
          exact bodyPost_ret (results_cb_tmp (by exact Try.results17) _ _ _ _ _ _ rfl (unhide hF) Try.underlying31 (by kernel_rfl)) rfl ⟨⟨_, rfl, _, _, _, _, rfl, ⟨_, _, rfl, OwnV.nil _ _ _, OwnV.nil _ _ _, fun k hk => by cases hk⟩, ⟨_, _, rfl, OwnV.nil _ _ _, OwnV.nil _ _ _, fun k hk => by cases hk⟩, fun k hk => by rcases hk with hk | hk <;> cases hk⟩, unhide T9⟩
      | false =>
        clear hc hk
        go_wp2_with (rw [unhide hW3])
        exact bodyPost_ret (results_cb_tmp (by exact Try.results17) _ _ _ _ _ _ rfl (unhide hF) Try.underlying31 (by kernel_rfl)) rfl ⟨⟨_, rfl, _, _, _, _, rfl, ⟨_, _, rfl, OwnV.nil _ _ _, OwnV.nil _ _ _, fun k hk => by cases hk⟩, ⟨_, _, rfl, OwnV.nil _ _ _, OwnV.nil _ _ _, fun k hk => by cases hk⟩, fun k hk => by rcases hk with hk | hk <;> cases hk⟩, unhide T9⟩
    | true =>
      have hHH := unhide E2 (by rw [hk])
      have hk1 : k1 = true := by revert hk; cases k1 <;> simp
      have hk2 : k2 = true := by revert hk; cases k2 <;> simp
      subst hk1 hk2
      obtain ⟨W3, hW3, hA7, hB3, hs3⟩ := one_cb w3 #[.int .i64 S2.leaf, .slice b3 n3 e3, .slice b4 n4 e4] 29
      have T4 := T3.trans (hB3.mono T3.size)
      have hA8 := hA6.step hB3
      have g57 : g5 ≠ w3.heap.size := by omega
      have gw7 : w.heap.size ≠ w3.heap.size := by omega
      have hlo7 : w.heap.size ≤ W3.heap.size := T4.size
      have hs34 : w3.heap.size ≤ W3.heap.size := Nat.le_of_lt hs3
      replace hs3 := hide hs3
      have KS := hide (fun (W' : World) (h : Below W3.heap.size W3 W') => (show CB W' g5 29 #[.int .i64 S1.leaf, .slice b1 n1 e1, .slice b2 n2 e2] ∧ CB W' w3.heap.size 29 #[.int .i64 S2.leaf, .slice b3 n3 e3, .slice b4 n4 e4] from ⟨hA8.step h, hA7.step h⟩))
      have HR := hide (fun (W' : World) (h : Below W3.heap.size W3 W') => (hR3.step hB3).step h)
      have o5 := hide ((unhide o4).below hB3)
      have o6 := hide ((unhide o3).below hB3)
      have CC := hide (fun W => stringsClone14_any (t.extract 49 53) W (by rw [ByteArray.size_extract]; omega))
      have hcut : ∀ W : World, (Instr.slice 9 (.string t) (some (.int .i64 49)) (some (.int .i64 53)) none).run Try.prog W = .ok (.string (t.extract 49 53)) W := fun W => cutI16 t 49 53 W (by omega) (by omega)
      generalize t.extract 49 53 = rt at *
      subst hHH
      have HT0 := (Below.refl W3.heap.size W3).drew
      replace hW3 := hide hW3
      clear hB3 T3 hR3 hA6 hA7 hA8 E2 E3 o3 o4 hk g57
      go_wp2_with (rw [unhide hW3])
      refine wp_region_held_drew (S := fun W => CB W g5 29 #[.int .i64 S1.leaf, .slice b1 n1 e1, .slice b2 n2 e2] ∧ CB W w3.heap.size 29 #[.int .i64 S2.leaf, .slice b3 n3 e3, .slice b4 n4 e4]) (by kernel_rfl) (unhide KS _ HT0) (fun hHeld => ?_)
      refine wpAnyH_take (i := 0) (v := .agg #[.int .i64 S1.leaf, .slice b1 n1 e1, .slice b2 n2 e2]) rfl (by kernel_rfl) (by kernel_rfl) (by kernel_rfl) (fun _ _ _ h => h) (Or.inl ⟨by kernel_rfl, fun W hS => by obtain ⟨s4, s10⟩ := hS; have p0 := s4.cell 0 (v := (.int .i64 S1.leaf)) rfl; have p1 := s4.cell 1 (v := (.slice b1 n1 e1)) rfl; have p2 := s4.cell 2 (v := (.slice b2 n2 e2)) rfl; go_simp⟩) hHeld ?_
      refine wpAnyH_take (i := 1) (v := .string t) rfl (by kernel_rfl) (by kernel_rfl) (by kernel_rfl) (fun _ _ _ h => h) (Or.inl ⟨by kernel_rfl, fun W hS => by obtain ⟨s4, s10⟩ := hS; go_simp⟩) hHeld ?_
      refine wpAnyH_take (i := 2) (v := .string rt) rfl (by kernel_rfl) (by kernel_rfl) (by kernel_rfl) (fun _ _ _ h => h) (Or.inl ⟨by kernel_rfl, fun W hS => by obtain ⟨s4, s10⟩ := hS; go_simp⟩) hHeld ?_
      refine wpAnyH_take (i := 4) (v := .agg #[.int .i64 S2.leaf, .slice b3 n3 e3, .slice b4 n4 e4]) rfl (by kernel_rfl) (by kernel_rfl) (by kernel_rfl) (fun _ _ _ h => h) (Or.inl ⟨by kernel_rfl, fun W hS => by obtain ⟨s4, s10⟩ := hS; have p0 := s10.cell 0 (v := (.int .i64 S2.leaf)) rfl; have p1 := s10.cell 1 (v := (.slice b3 n3 e3)) rfl; have p2 := s10.cell 2 (v := (.slice b4 n4 e4)) rfl; go_simp⟩) hHeld ?_
      refine wpAnyH_ready (rs := [3]) (by kernel_rfl) (by simp) ?_
      refine AllReadyH.cons rfl (fun K hK => ?_) AllReadyH.nil
      go_simp
      refine (unhide CC _).mono ?_
      rintro e w5 ⟨rfl, hb5⟩
      have hT1 := HT0.trans (hb5.mono HT0.size)
      have hR4 := unhide HR _ hT1
      refine hK.out _ _ (unhide KS _ hT1) (fun hHeld => ?_)
      clear hK K CC
      refine wpAnyH_take (i := 5) (v := .agg #[.int .i64 S1.leaf, .slice b1 n1 e1, .slice b2 n2 e2, .string rt, .int .i64 S2.leaf, .slice b3 n3 e3, .slice b4 n4 e4]) rfl (by kernel_rfl) (by kernel_rfl) (by kernel_rfl) (fun _ _ _ h => h) (Or.inl ⟨by kernel_rfl, fun W hS => by obtain ⟨s4, s10⟩ := hS; go_simp⟩) hHeld ?_
      have r0 := hR4.cell 0 (v := (.int .i64 0)) rfl
      have r1 := hR4.cell 1 (v := (.slice none 0 0)) rfl
      have r2 := hR4.cell 2 (v := (.slice none 0 0)) rfl
      have r3 := hR4.cell 3 (v := (.string ⟨#[]⟩)) rfl
      have r4 := hR4.cell 4 (v := (.int .i64 0)) rfl
      have r5 := hR4.cell 5 (v := (.slice none 0 0)) rfl
      have r6 := hR4.cell 6 (v := (.slice none 0 0)) rfl
      have z0 := hR4.frozen 0
      have z1 := hR4.frozen 1
      have z2 := hR4.frozen 2
      have z3 := hR4.frozen 3
      have z4 := hR4.frozen 4
      have z5 := hR4.frozen 5
      have z6 := hR4.frozen 6
      have G9 := gSet (gSet (gSet (gSet (gSet (gSet (gSet (gR9 w5 (some w.heap.size)) 0 (.int .i64 S1.leaf)) 1 (.slice b1 n1 e1)) 2 (.slice b2 n2 e2)) 3 (.string rt)) 4 (.int .i64 S2.leaf)) 5 (.slice b3 n3 e3)) 6 (.slice b4 n4 e4)
      refine wpAnyH_ready (rs := [6]) (by kernel_rfl) (by simp) ?_
      refine AllReadyH.cons rfl (fun K hK => ?_) AllReadyH.nil
      go_simp
      refine hK.out _ _ ⟨(unhide KS _ hT1).1.grown G9 (fun e => g25 (Option.some.inj e)), (unhide KS _ hT1).2.grown G9 (fun e => gw7 (Option.some.inj e))⟩ (fun hHeld => ?_)
      clear hK K r0 r1 r2 r3 r4 r5 r6 z0 z1 z2 z3 z4 z5 z6
      refine wpAnyH_take (i := 7) (v := .bool true) rfl (by kernel_rfl) (by kernel_rfl) (by kernel_rfl) (fun _ _ _ h => h) (Or.inl ⟨by kernel_rfl, fun W hS => by obtain ⟨s4, s10⟩ := hS; go_simp⟩) hHeld ?_
      refine wpAnyH_done (by kernel_rfl) ?_ _
      simp only [Act.put, List.getElem_toArray, List.getElem_cons_zero, List.getElem_cons_succ, List.setIfInBounds_toArray, List.set_cons_zero, List.set_cons_succ]
      have hF := hide ((((((((hR4).set 0 (.int .i64 S1.leaf)).set 1 (.slice b1 n1 e1)).set 2 (.slice b2 n2 e2)).set 3 (.string rt)).set 4 (.int .i64 S2.leaf)).set 5 (.slice b3 n3 e3)).set 6 (.slice b4 n4 e4))
      have T5 := T4.trans (hT1.mono hlo7)
      have T9 := hide (T5.grown G9 T5.size (fun k hk => by cases hk; exact Nat.le_refl _))
      have p5 := hide ((unhide o5).below hT1)
      have p6 := hide ((unhide o6).below hT1)
      have of5 := hide (OwnSg.offs (lf := S1.leaf) (unhide p5) hR4 (by decide))
      have of6 := hide (OwnSg.offs (lf := S2.leaf) (unhide p6) hR4 (by decide))
      have o7 := hide (OwnSg.grownO (lf := S1.leaf) (unhide p5) G9 (unhide of5).1 (unhide of5).2)
      have o8 := hide (OwnSg.grownO (lf := S2.leaf) (unhide p6) G9 (unhide of6).1 (unhide of6).2)
      clear KS HR HT0 hT1 hb5 hR4 G9 T5 p5 p6 of5 of6 hcut hHeld
      go_wp2
      exact bodyPost_ret (results_cb_tmp (by exact Try.results17) _ _ _ _ _ _ rfl (unhide hF) Try.underlying31 (by kernel_rfl)) rfl ⟨⟨_, rfl, _, _, _, _, rfl, ((unhide o7).low (by omega)), ((unhide o8).low (by omega)), unhide ap⟩, (unhide T9)⟩
  · have hno : hrdOk t = false := by unfold hrdOk; rw [decide_eq_false h102]; rfl
    have ER := hide (show hrdS t = ⟨noSg, ⟨#[]⟩, noSg⟩ by unfold hrdS; rw [hno]; rfl)
    rw [unhide ER, hno]
    have h102' : ¬ (t.size : Int) = 102 := by omega
    clear ER hno h102
    go_enter Try.func17, Try.ntmps17
    go_wp2
    obtain ⟨W, hW, hR, hB, hs1⟩ := one_cb w #[.int .i64 0, .slice none 0 0, .slice none 0 0, .string ⟨#[]⟩, .int .i64 0, .slice none 0 0, .slice none 0 0] 31
    rw [hW]
    exact bodyPost_ret (results_cb_tmp (by exact Try.results17) _ _ _ _ _ _ rfl hR Try.underlying31 (by kernel_rfl)) rfl ⟨⟨_, rfl, _, _, _, _, rfl, ⟨_, _, rfl, OwnV.nil _ _ _, OwnV.nil _ _ _, fun k hk => by cases hk⟩, ⟨_, _, rfl, OwnV.nil _ _ _, OwnV.nil _ _ _, fun k hk => by cases hk⟩, fun k hk => by rcases hk with hk | hk <;> cases hk⟩, hB⟩
end Go.Proofs.Ytjgnjjphankhnac

