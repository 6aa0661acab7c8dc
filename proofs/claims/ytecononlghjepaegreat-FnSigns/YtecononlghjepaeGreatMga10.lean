/- Merged: Sig2, Sig3, Sig4, LawSig, DrawT, DrawN, DrawH, DrawY, DrawV, DrawG, Pik9, DrSig, LawOn1, LawSg2, LawSgn. -/
import Derived.Test.YtecononlghjepaeGreatMga1
import Derived.Test.YtecononlghjepaeGreatMga2
import Derived.Test.YtecononlghjepaeGreatMga3
import Derived.Test.YtecononlghjepaeGreatMga4
import Derived.Test.YtecononlghjepaeGreatMga5
import Derived.Test.YtecononlghjepaeGreatMga6
import Derived.Test.YtecononlghjepaeGreatMga7
import Derived.Test.YtecononlghjepaeGreatMga8
import Derived.Test.YtecononlghjepaeGreatMga9
import Derived.BigQuiet
import Derived.Deep.RegionHeld3
/- Keys of a tree by the given model: whether a signature is right, over the loaded program. -/
namespace Go.Proofs.YtecononlghjepaeGreat
open Go.RowKit
set_option maxRecDepth 20000 in
set_option maxHeartbeats 800000 in
theorem specSigOk_any (s : Sg) (v : Value) (w : World) (hr : RdSg w v s) (n1 : s.once.length ≤ 2000000) (n2 : s.path.length ≤ 2000000) :
    Calls Tryz.prog 32 #[v] w fun e w' => e = .returned (.bool (sgOk s)) ∧ Below w.heap.size w w' := by
  obtain ⟨lf, l1, l2⟩ := s
  obtain ⟨v1, v2, rfl, r1, r2, -⟩ := hr
  have C0 := hide (fun W => inb9 lf 0 3 W)
  obtain ⟨a1, c1, rfl, hc1⟩ := r1.open
  obtain ⟨a2, c2, rfl, hc2⟩ := r2.open
  clear r1 r2
  replace hc1 : ∀ k, k < l1.length → ∃ g o, a1 = some ⟨g, o, none⟩ ∧ g < w.heap.size ∧ w.cell? ⟨g, o + k, none⟩ = some (.string (bAt l1 k)) := fun k hk => hc1 k _ (bAt_get l1 k hk)
  replace hc2 : ∀ k, k < l2.length → ∃ g o, a2 = some ⟨g, o, none⟩ ∧ g < w.heap.size ∧ w.cell? ⟨g, o + k, none⟩ = some (.string (bAt l2 k)) := fun k hk => hc2 k _ (bAt_get l2 k hk)
  unfold sgv
  show Calls _ _ #[.agg #[.int .i64 lf, .slice a1 (l1.map sv).length c1, .slice a2 (l2.map sv).length c2]] _ _
  rw [List.length_map, List.length_map]
  by_cases h : 0 ≤ lf ∧ lf ≤ 3
  · rw [decide_eq_true h] at C0
    by_cases h1 : l1.length = 10
    · by_cases h2 : l2.length = 2
      · have E1 := hide (fun (h3 : ∀ k, k < 10 → (bAt l1 k).size = 4) (h4 : ∀ k, k < 2 → (bAt l2 k).size = 4) => show sgOk ⟨lf, l1, l2⟩ = true from sgOk_of ⟨h, h1, h2⟩ (four_bAt (l := l1) fun k hk => h3 k (by omega)) (four_bAt (l := l2) fun k hk => h4 k (by omega)))
        have E2 := hide (fun k (hk : k < 10) (hx : ¬ (bAt l1 k).size = 4) => show sgOk ⟨lf, l1, l2⟩ = false from sgOk_no2 (four_no (l := l1) k (by omega) hx))
        have E3 := hide (fun k (hk : k < 2) (hx : ¬ (bAt l2 k).size = 4) => show sgOk ⟨lf, l1, l2⟩ = false from sgOk_no3 (four_no (l := l2) k (by omega) hx))
        rw [h1] at hc1 ⊢
        rw [h2] at hc2 ⊢
        generalize sgOk ⟨lf, l1, l2⟩ = R at *
        generalize bAt l1 = F1 at *
        generalize bAt l2 = F2 at *
        clear h h1 h2 n1 n2
        go_enter Tryz.func32, Tryz.ntmps32
        go_wp2_with fail
        obtain ⟨W, hW, hP, hB, hs1⟩ := one_cb w #[.int .i64 lf, .slice a1 10 c1, .slice a2 2 c2] 31
        rw [hW]
        clear hW
        refine (unhide C0 W).mono ?_
        rintro e w1 ⟨rfl, hw1⟩
        have hw2 := hw1.symm
        subst hw2
        clear hw1 C0
        have p1 := hP.cell 1 (v := .slice a1 10 c1) rfl
        have p2 := hP.cell 2 (v := .slice a2 2 c2) rfl
        replace hP := hide hP
        go_wp2
        go_loopw [3] (fun ti wr => ∃ k : Nat, k ≤ 10 ∧ ti = .int .i64 (k : Int) ∧ Hid (∀ j, j < k → (F1 j).size = 4) ∧ wr = W) (fun ti _ => 10 - (intOf ti).toNat)
        case atStart => exact ⟨0, by omega, rfl, hide (fun j hj => absurd hj (by omega)), rfl⟩
        case round =>
          obtain ⟨k, hk, rfl, HK, hw⟩ := hrel
          have hw' := hw.symm
          subst hw'
          clear hw
          by_cases hlt : k < 10
          · have hk' : (k : Int) < 10 := by omega
            obtain ⟨g, o, rfl, hg, d1⟩ := hc1 k hlt
            replace d1 := (hB.cell (p := ⟨g, o + k, none⟩) hg).trans d1
            by_cases hx : (F1 k).size = 4
            · have HK2 := hide (show ∀ j, j < k + 1 → (F1 j).size = 4 from fun j hj => by
                by_cases e : j = k
                · rw [e]; exact hx
                · exact unhide HK j (by omega))
              generalize F1 k = told at d1 hx
              clear hc1 hc2 HK
              go_wp2
              exact ⟨⟨k + 1, by omega, by go_num, HK2, by first | rfl | trivial⟩, by simp [intOf]; omega⟩
            · have E := hide (unhide E2 k hlt hx)
              have hx' : ¬ ((F1 k).size : Int) = 4 := by omega
              generalize F1 k = told at d1 hx'
              clear hc1 hc2 HK E1 E2 E3 hx
              go_wp2
              go_ret
              exact ⟨by rw [unhide E]; rfl, hB⟩
          · have hk' : ¬ (k : Int) < 10 := by omega
            have HK2 := hide (show ∀ j, j < 10 → (F1 j).size = 4 from fun j hj => unhide HK j (by omega))
            clear hc1 HK
            go_wp2
            go_loopw [4] (fun ti wr => ∃ k : Nat, k ≤ 2 ∧ ti = .int .i64 (k : Int) ∧ Hid (∀ j, j < k → (F2 j).size = 4) ∧ wr = W) (fun ti _ => 2 - (intOf ti).toNat)
            case atStart => exact ⟨0, by omega, rfl, hide (fun j hj => absurd hj (by omega)), rfl⟩
            case round =>
              obtain ⟨k, hk, rfl, HK, hw⟩ := hrel
              have hw' := hw.symm
              subst hw'
              clear hw
              by_cases hlt2 : k < 2
              · have hk2 : (k : Int) < 2 := by omega
                obtain ⟨g, o, rfl, hg, d1⟩ := hc2 k hlt2
                replace d1 := (hB.cell (p := ⟨g, o + k, none⟩) hg).trans d1
                by_cases hx : (F2 k).size = 4
                · have HK3 := hide (show ∀ j, j < k + 1 → (F2 j).size = 4 from fun j hj => by
                    by_cases e : j = k
                    · rw [e]; exact hx
                    · exact unhide HK j (by omega))
                  generalize F2 k = told at d1 hx
                  clear hc2 HK
                  go_wp2
                  exact ⟨⟨k + 1, by omega, by go_num, HK3, by first | rfl | trivial⟩, by simp [intOf]; omega⟩
                · have E := hide (unhide E3 k hlt2 hx)
                  have hx' : ¬ ((F2 k).size : Int) = 4 := by omega
                  generalize F2 k = told at d1 hx'
                  clear hc2 HK E1 E2 E3 hx
                  go_wp2
                  go_ret
                  exact ⟨by rw [unhide E]; rfl, hB⟩
              · have hk2 : ¬ (k : Int) < 2 := by omega
                have E := hide (unhide E1 (unhide HK2) (fun j hj => unhide HK j (by omega)))
                clear hc2 HK HK2 E1 E2 E3
                go_wp2
                go_ret
                exact ⟨by rw [unhide E]; rfl, hB⟩
      · have E := hide (show sgOk ⟨lf, l1, l2⟩ = false from sgOk_no1 fun x => h2 x.2.2)
        rw [unhide E, h1]
        have h2' : ¬ (l2.length : Int) = 2 := by omega
        generalize l2.length = m2 at *
        clear E h hc1 hc2 h2
        go_enter Tryz.func32, Tryz.ntmps32
        go_wp2_with fail
        obtain ⟨W, hW, hP, hB, hs1⟩ := one_cb w #[.int .i64 lf, .slice a1 10 c1, .slice a2 m2 c2] 31
        rw [hW]
        clear hW
        refine (unhide C0 W).mono ?_
        rintro e w1 ⟨rfl, hw1⟩
        have hw2 := hw1.symm
        subst hw2
        clear hw1 C0
        have p1 := hP.cell 1 (v := .slice a1 10 c1) rfl
        have p2 := hP.cell 2 (v := .slice a2 m2 c2) rfl
        go_wp2
        go_ret
        exact ⟨rfl, hB⟩
    · have E := hide (show sgOk ⟨lf, l1, l2⟩ = false from sgOk_no1 fun x => h1 x.2.1)
      rw [unhide E]
      have h1' : ¬ (l1.length : Int) = 10 := by omega
      generalize l1.length = m1 at *
      generalize l2.length = m2 at *
      clear E h hc1 hc2 h1
      go_enter Tryz.func32, Tryz.ntmps32
      go_wp2_with fail
      obtain ⟨W, hW, hP, hB, hs1⟩ := one_cb w #[.int .i64 lf, .slice a1 m1 c1, .slice a2 m2 c2] 31
      rw [hW]
      clear hW
      refine (unhide C0 W).mono ?_
      rintro e w1 ⟨rfl, hw1⟩
      have hw2 := hw1.symm
      subst hw2
      clear hw1 C0
      have p1 := hP.cell 1 (v := .slice a1 m1 c1) rfl
      go_wp2
      go_ret
      exact ⟨rfl, hB⟩
  · have E := hide (show sgOk ⟨lf, l1, l2⟩ = false from sgOk_no1 fun x => h x.1)
    rw [unhide E]
    rw [decide_eq_false h] at C0
    generalize l1.length = m1 at *
    generalize l2.length = m2 at *
    clear E h hc1 hc2
    go_enter Tryz.func32, Tryz.ntmps32
    go_wp2_with fail
    obtain ⟨W, hW, hP, hB, hs1⟩ := one_cb w #[.int .i64 lf, .slice a1 m1 c1, .slice a2 m2 c2] 31
    rw [hW]
    clear hW
    refine (unhide C0 W).mono ?_
    rintro e w1 ⟨rfl, hw1⟩
    have hw2 := hw1.symm
    subst hw2
    clear hw1 C0
    go_wp2
    go_ret
    exact ⟨rfl, hB⟩
theorem same_txt (a b : ByteArray) : (a.toList == b.toList) = decide (a = b) := by
  have e : ∀ x : ByteArray, x.toList = x.data.toList := fun x => ByteArray.toList_eq x
  by_cases h : a = b
  · subst h
    rw [decide_eq_true rfl]
    exact beq_self_eq_true _
  · rw [decide_eq_false h]
    apply beq_false_of_ne
    rw [e, e]
    exact fun h2 => h (ByteArray.ext (Array.toList_inj.1 h2))
theorem sumS_four (l : List ByteArray) (h : ∀ x ∈ l, x.size = 4) : sumS l = 4 * l.length := by
  induction l with
  | nil => rfl
  | cons x xs ih =>
    show x.size + sumS xs = 4 * (xs.length + 1)
    rw [h x (by simp), ih fun y hy => h y (by simp [hy])]
    omega
theorem onceF_size (l : List ByteArray) (leaf : Int) (m : ByteArray) : (onceF l leaf m).size ≤ 4 := by
  unfold onceF
  split
  · rw [chopB_size]; omega
  · show 0 ≤ 4; omega
set_option maxRecDepth 20000 in
set_option maxHeartbeats 800000 in
theorem specCheckSig_any (p m : ByteArray) (s : Sg) (v : Value) (w : World) (hr : RdSg w v s) (n1 : s.once.length ≤ 2000000) (n2 : s.path.length ≤ 2000000) (hm : m.size ≤ 1048576) :
    Calls Tryz.prog 13 #[.string p, .string m, v] w fun e w' => e = .returned (.bool (chkB p m s)) ∧ Below w.heap.size w w' := by
  have C0 := hide (fun (W : World) (h : Below w.heap.size w W) => specSigOk_any s v W (hr.below h) n1 n2)
  obtain ⟨lf, l1, l2⟩ := s
  obtain ⟨v1, v2, rfl, r1, r2, -⟩ := hr
  cases ho : sgOk ⟨lf, l1, l2⟩ with
  | true =>
    rw [ho] at C0
    have f1 := sgOk_once ho
    have f2 := sgOk_path ho
    obtain ⟨_, k1, k2⟩ := sgOk_shape ho
    have C1 := hide (fun (W : World) (h : Below w.heap.size w W) => specOnceFound_any l1 lf m v1 W (r1.below h) (by rw [sumS_four l1 (four_yes f1)]; have : l1.length = 10 := k1; omega) hm)
    have C2 := hide (fun (W : World) (h : Below w.heap.size w W) => specRootBy_any (onceF l1 lf m) lf l2 v2 W (by have := onceF_size l1 lf m; omega) (r2.below h) (fun x hx => by rw [four_yes f2 x hx]; omega))
    have EC := hide (show chkB p m ⟨lf, l1, l2⟩ = decide (rootBy (onceF l1 lf m) lf l2 = p) by unfold chkB fndB; rw [ho]; rfl)
    rw [unhide EC]
    obtain ⟨a1, c1, rfl⟩ := r1.shape
    obtain ⟨a2, c2, rfl⟩ := r2.shape
    unfold sgv at C0 ⊢
    generalize onceF l1 lf m = fo at *
    generalize rootBy fo lf l2 = ro at *
    clear r1 r2 n1 n2 k1 k2 f1 f2 ho EC
    show Calls _ _ #[_, _, .agg #[.int .i64 lf, .slice a1 (l1.map sv).length c1, .slice a2 (l2.map sv).length c2]] _ _
    generalize ((Sg.mk lf l1 l2).once.map sv).length = k1 at *
    generalize ((Sg.mk lf l1 l2).path.map sv).length = k2 at *
    go_enter Tryz.func13, Tryz.ntmps13
    go_wp2_with fail
    obtain ⟨W, hW, hP, hB, hs1⟩ := one_cb w #[.int .i64 lf, .slice a1 k1 c1, .slice a2 k2 c2] 31
    rw [hW]
    clear hW
    have KS := hide (fun (W' : World) (h : Below W.heap.size W W') => (show W'.cell? ⟨w.heap.size, 0, none⟩ = some (.int .i64 lf) ∧ W'.cell? ⟨w.heap.size, 1, none⟩ = some (.slice a1 k1 c1) ∧ W'.cell? ⟨w.heap.size, 2, none⟩ = some (.slice a2 k2 c2) from ⟨(hP.step h).cell 0 rfl, (hP.step h).cell 1 rfl, (hP.step h).cell 2 rfl⟩))
    have C0' := hide (fun (W' : World) (h : Below W.heap.size W W') => unhide C0 W' (hB.trans (h.mono hB.size)))
    have C1' := hide (fun (W' : World) (h : Below W.heap.size W W') => unhide C1 W' (hB.trans (h.mono hB.size)))
    have C2' := hide (fun (W' : World) (h : Below W.heap.size W W') => unhide C2 W' (hB.trans (h.mono hB.size)))
    have HT0 := (Below.refl W.heap.size W).drew
    clear C0 C1 C2 hP
    go_region_held3 (fun W => W.cell? ⟨w.heap.size, 0, none⟩ = some (.int .i64 lf) ∧ W.cell? ⟨w.heap.size, 1, none⟩ = some (.slice a1 k1 c1) ∧ W.cell? ⟨w.heap.size, 2, none⟩ = some (.slice a2 k2 c2)) (first | exact unhide KS _ HT0 | exact unhide KS _ hT1 | exact unhide KS _ hT2 | exact unhide KS _ hT3 | fail) (first
      | (go_at_call 32; refine (unhide C0' _ HT0).mono ?_; rintro e w1 ⟨rfl, hb1⟩; have hT1 := HT0.trans (hb1.mono HT0.size); clear hb1)
      | (go_at_call 34; refine (unhide C1' _ hT1).mono ?_; rintro e w2 ⟨rfl, hb2⟩; have hT2 := hT1.trans (hb2.mono hT1.size); clear hb2)
      | (go_at_call 33; refine (unhide C2' _ hT2).mono ?_; rintro e w3 ⟨rfl, hb3⟩; have hT3 := hT2.trans (hb3.mono hT2.size); clear hb3))
    all_goals
      have hF := hB.trans (hT3.mono hB.size)
      clear C0' C1' C2' KS hT1 hT2 HT0
      go_wp2
      go_ret
      exact ⟨by show Ending.returned (.bool (ro.toList == p.toList)) = _; rw [same_txt], hF⟩
  | false =>
    rw [ho] at C0
    have EC := hide (show chkB p m ⟨lf, l1, l2⟩ = false by unfold chkB; rw [ho]; rfl)
    rw [unhide EC]
    obtain ⟨a1, c1, rfl⟩ := r1.shape
    obtain ⟨a2, c2, rfl⟩ := r2.shape
    unfold sgv at C0 ⊢
    clear r1 r2 n1 n2 ho EC
    show Calls _ _ #[_, _, .agg #[.int .i64 lf, .slice a1 (l1.map sv).length c1, .slice a2 (l2.map sv).length c2]] _ _
    generalize ((Sg.mk lf l1 l2).once.map sv).length = k1 at *
    generalize ((Sg.mk lf l1 l2).path.map sv).length = k2 at *
    go_enter Tryz.func13, Tryz.ntmps13
    go_wp2_with fail
    obtain ⟨W, hW, hP, hB, hs1⟩ := one_cb w #[.int .i64 lf, .slice a1 k1 c1, .slice a2 k2 c2] 31
    rw [hW]
    clear hW
    have KS := hide (fun (W' : World) (h : Below W.heap.size W W') => (show W'.cell? ⟨w.heap.size, 0, none⟩ = some (.int .i64 lf) ∧ W'.cell? ⟨w.heap.size, 1, none⟩ = some (.slice a1 k1 c1) ∧ W'.cell? ⟨w.heap.size, 2, none⟩ = some (.slice a2 k2 c2) from ⟨(hP.step h).cell 0 rfl, (hP.step h).cell 1 rfl, (hP.step h).cell 2 rfl⟩))
    have C0' := hide (fun (W' : World) (h : Below W.heap.size W W') => unhide C0 W' (hB.trans (h.mono hB.size)))
    have HT0 := (Below.refl W.heap.size W).drew
    clear C0 hP
    refine wp_region_held_drew (S := fun W => W.cell? ⟨w.heap.size, 0, none⟩ = some (.int .i64 lf) ∧ W.cell? ⟨w.heap.size, 1, none⟩ = some (.slice a1 k1 c1) ∧ W.cell? ⟨w.heap.size, 2, none⟩ = some (.slice a2 k2 c2)) (by kernel_rfl) (unhide KS _ HT0) (fun hHeld => ?_)
    refine wpAnyH_take (i := 0) (v := .agg #[.int .i64 lf, .slice a1 k1 c1, .slice a2 k2 c2]) rfl (by kernel_rfl) (by kernel_rfl) (by kernel_rfl) (fun _ _ _ h => h) (Or.inl ⟨by kernel_rfl, fun W hS => by obtain ⟨s0, s1, s2⟩ := hS; go_simp⟩) hHeld ?_
    refine wpAnyH_ready (rs := [1]) (by kernel_rfl) (by simp) ?_
    refine AllReadyH.cons rfl (fun K hK => ?_) AllReadyH.nil
    go_simp
    refine (unhide C0' _ HT0).mono ?_
    rintro e w1 ⟨rfl, hb1⟩
    have hT1 := HT0.trans (hb1.mono HT0.size)
    have hF := hB.trans (hT1.mono hB.size)
    refine hK.out _ _ (unhide KS _ hT1) (fun hHeld => ?_)
    clear hK K hb1 HT0 C0'
    refine wpAnyH_take (i := 2) (v := .bool false) rfl (by kernel_rfl) (by kernel_rfl) (by kernel_rfl) (fun _ _ _ h => h) (Or.inl ⟨by kernel_rfl, fun W hS => by go_simp⟩) hHeld ?_
    refine wpAnyH_take (i := 3) (v := undef) rfl (by kernel_rfl) (by kernel_rfl) (by kernel_rfl) (fun _ _ _ h => h) (Or.inr ⟨by kernel_rfl, rfl⟩) hHeld ?_
    refine wpAnyH_take (i := 4) (v := undef) rfl (by kernel_rfl) (by kernel_rfl) (by kernel_rfl) (fun _ _ _ h => h) (Or.inr ⟨by kernel_rfl, rfl⟩) hHeld ?_
    refine wpAnyH_take (i := 5) (v := undef) rfl (by kernel_rfl) (by kernel_rfl) (by kernel_rfl) (fun _ _ _ h => h) (Or.inr ⟨by kernel_rfl, rfl⟩) hHeld ?_
    refine wpAnyH_take (i := 6) (v := undef) rfl (by kernel_rfl) (by kernel_rfl) (by kernel_rfl) (fun _ _ _ h => h) (Or.inr ⟨by kernel_rfl, rfl⟩) hHeld ?_
    refine wpAnyH_take (i := 7) (v := undef) rfl (by kernel_rfl) (by kernel_rfl) (by kernel_rfl) (fun _ _ _ h => h) (Or.inr ⟨by kernel_rfl, rfl⟩) hHeld ?_
    refine wpAnyH_take (i := 8) (v := undef) rfl (by kernel_rfl) (by kernel_rfl) (by kernel_rfl) (fun _ _ _ h => h) (Or.inr ⟨by kernel_rfl, rfl⟩) hHeld ?_
    refine wpAnyH_take (i := 9) (v := undef) rfl (by kernel_rfl) (by kernel_rfl) (by kernel_rfl) (fun _ _ _ h => h) (Or.inr ⟨by kernel_rfl, rfl⟩) hHeld ?_
    refine wpAnyH_take (i := 10) (v := undef) rfl (by kernel_rfl) (by kernel_rfl) (by kernel_rfl) (fun _ _ _ h => h) (Or.inr ⟨by kernel_rfl, rfl⟩) hHeld ?_
    refine wpAnyH_take (i := 11) (v := undef) rfl (by kernel_rfl) (by kernel_rfl) (by kernel_rfl) (fun _ _ _ h => h) (Or.inr ⟨by kernel_rfl, rfl⟩) hHeld ?_
    refine wpAnyH_take (i := 12) (v := undef) rfl (by kernel_rfl) (by kernel_rfl) (by kernel_rfl) (fun _ _ _ h => h) (Or.inr ⟨by kernel_rfl, rfl⟩) hHeld ?_
    refine wpAnyH_take (i := 13) (v := undef) rfl (by kernel_rfl) (by kernel_rfl) (by kernel_rfl) (fun _ _ _ h => h) (Or.inr ⟨by kernel_rfl, rfl⟩) hHeld ?_
    refine wpAnyH_take (i := 14) (v := undef) rfl (by kernel_rfl) (by kernel_rfl) (by kernel_rfl) (fun _ _ _ h => h) (Or.inr ⟨by kernel_rfl, rfl⟩) hHeld ?_
    refine wpAnyH_take (i := 15) (v := undef) rfl (by kernel_rfl) (by kernel_rfl) (by kernel_rfl) (fun _ _ _ h => h) (Or.inr ⟨by kernel_rfl, rfl⟩) hHeld ?_
    refine wpAnyH_take (i := 16) (v := .bool false) rfl (by kernel_rfl) (by kernel_rfl) (by kernel_rfl) (fun _ _ _ h => h) (Or.inl ⟨by kernel_rfl, fun W hS => by go_simp⟩) hHeld ?_
    refine wpAnyH_take (i := 17) (v := .bool false) rfl (by kernel_rfl) (by kernel_rfl) (by kernel_rfl) (fun _ _ _ h => h) (Or.inl ⟨by kernel_rfl, fun W hS => by go_simp⟩) hHeld ?_
    refine wpAnyH_done (by kernel_rfl) ?_ _
    simp only [Act.put, List.getElem_toArray, List.getElem_cons_zero, List.getElem_cons_succ, List.setIfInBounds_toArray, List.set_cons_zero, List.set_cons_succ]
    clear KS hHeld hT1
    go_wp2
    go_ret
    exact ⟨rfl, hF⟩
end Go.Proofs.YtecononlghjepaeGreat

/- Keys of a tree by the given model: a signature's text, over the loaded program. -/
namespace Go.Proofs.YtecononlghjepaeGreat
open Go.RowKit
end Go.Proofs.YtecononlghjepaeGreat

/- Keys of a tree by the given model: a signature that is read, over the loaded program. -/
namespace Go.Proofs.YtecononlghjepaeGreat
open Go.RowKit
theorem cut16 (T : ByteArray) (i j : Nat) (w : World) (h1 : i ≤ j) (h2 : j ≤ T.size) : (Instr.slice 9 (.string T) (some (.int .i64 (i : Int))) (some (.int .i64 (j : Int))) none).run Tryz.prog w = .ok (.string (T.extract i j)) w := by
  rw [run_slice_string_if w 9 T .i64 .i64 (i : Int) (j : Int) Tryz.underlying9, if_pos (by omega), if_pos (by omega)]
  rfl
/-- The texts of the first k parts, and of those behind the tenth. -/
def onK (F : Nat → ByteArray) (k : Nat) : List ByteArray := (List.range (min k 10)).map F
def ptK (F : Nat → ByteArray) (k : Nat) : List ByteArray := (List.range (k - 10)).map fun i => F (10 + i)
theorem onK_succ (F : Nat → ByteArray) (k : Nat) (h : k < 10) : onK F (k + 1) = onK F k ++ [F k] := by
  unfold onK
  rw [Nat.min_eq_left (by omega), Nat.min_eq_left (by omega), List.range_succ, List.map_append]
  rfl
theorem onK_ten (F : Nat → ByteArray) (k : Nat) (h : 10 ≤ k) : onK F k = onK F 10 := by unfold onK; rw [Nat.min_eq_right h]; rfl
theorem onK_len (F : Nat → ByteArray) (k : Nat) : (onK F k).length ≤ 10 := by unfold onK; rw [List.length_map, List.length_range]; exact Nat.min_le_right _ _
theorem ptK_len (F : Nat → ByteArray) (k : Nat) (h : k ≤ 12) : (ptK F k).length ≤ 2 := by unfold ptK; rw [List.length_map, List.length_range]; omega
theorem ptK_succ (F : Nat → ByteArray) (k : Nat) (h : 10 ≤ k) : ptK F (k + 1) = ptK F k ++ [F k] := by
  unfold ptK
  rw [show k + 1 - 10 = (k - 10) + 1 by omega, List.range_succ, List.map_append]
  show _ ++ [F (10 + (k - 10))] = _
  rw [show 10 + (k - 10) = k by omega]
theorem ptK_low (F : Nat → ByteArray) (k : Nat) (h : k ≤ 10) : ptK F k = [] := by unfold ptK; rw [show k - 10 = 0 by omega]; rfl
end Go.Proofs.YtecononlghjepaeGreat

/- The laws FnExactSignAt, FnExactReadSig, walked over the loaded program; what the project's functions answer are premises. -/
namespace Go.Proofs.YtecononlghjepaeGreat
open Go.RowKit
theorem MkSg.low {w w' : World} {base B : Nat} {v : Value} {s : Sg} (h : MkSg w base v s) (hb : Below B w w') (hB : w.heap.size ≤ B) : MkSg w' base v s := h.below (hb.mono hB)
theorem OwnSg.belowAt {w w' : World} {base B : Nat} {v : Value} {s : Sg} (h : OwnSg w base v s) (hb : Below B w w') (hB : w.heap.size ≤ B) : OwnSg w' base v s := h.below (hb.mono hB)
end Go.Proofs.YtecononlghjepaeGreat

/- What big, DrawSumOf and DrawPlaces come to: some text of fewer than 40 bytes; twelve numbers below 10000. -/
namespace Go.Proofs.YtecononlghjepaeGreat
open Go.RowKit

set_option maxRecDepth 20000 in
set_option maxHeartbeats 400000 in
theorem big_any (w : World) (o : Option Addr) (n c : Nat) :
    Calls Tryz.prog 4 #[.slice o n c] w fun e w' => e = .returned (.bool (decide ((1048576 : Int) < (n : Int)))) ∧ w' = w := by
  go_enter Tryz.func4, Tryz.ntmps4
  go_wp2
  go_ret
  exact ⟨rfl, rfl⟩


theorem Tryz.infoIC : (Tryz.prog.info? 3).map (fun i => (i.zero, i.size, i.bytes)) = some (some (.int .i64 0), 1, 8) := by kernel_rfl

def ints (xs : List Nat) : List Value := xs.map fun (x : Nat) => Value.int .i64 (x : Int)

set_option maxRecDepth 20000 in
set_option maxHeartbeats 400000 in
theorem drawPlaces_any (w : World) (o : Option Addr) (n c : Nat) (hs : Src w w.heap.size o n) (hn : n ≤ 1048576) :
    Calls Tryz.prog 6 #[.slice o n c] w fun e w' => ∃ (v : Value) (xs : List Nat), xs.length = 12 ∧ (∀ x ∈ xs, x < 10000) ∧ e = .returned v ∧ OwnV w' w.heap.size 3 v (ints xs) ∧ Below w.heap.size w w' := by
  obtain ⟨i0, hi, hz0, hz1, hz2⟩ := info_parts Tryz.infoIC
  have HS := hide hs
  clear hs
  go_enter Tryz.func6, Tryz.ntmps6
  go_wp2_with fail
  go_at_call 15
  refine (l01New_any w o n c (unhide HS) hn).mono ?_
  rintro e w1 ⟨rfl, hb1, hc1⟩
  replace hc1 := hide hc1
  go_wp2_with fail
  go_at_call 20
  refine (l01Byte_any (unhide hc1) hn).mono ?_
  rintro e w2 ⟨x, hx, rfl, ho2, hc2⟩
  have hb2 := hb1.trans (ho2.below (Nat.le_refl _))
  have hg := hc2.lt
  replace hc2 := hide hc2
  replace ho2 := hide ho2
  clear hb1 hc1
  go_wp2
  go_loopw [4, 5] (fun v ti wr => ∃ (k : Nat) (xs : List Nat), k ≤ 12 ∧ xs.length = k ∧ ti = .int .i64 (k : Int) ∧ Hid (∀ x ∈ xs, x < 10000) ∧ OwnV wr w2.heap.size 3 v (ints xs) ∧ Below w.heap.size w wr ∧ w2.heap.size ≤ wr.heap.size ∧ Hid (Cur wr w.heap.size w.heap.size o n c))
    (fun _ ti _ => 12 - (intOf ti).toNat)
  case atStart => exact ⟨0, [], Nat.zero_le _, rfl, rfl, hide (by simp), World.ownsRow_made w2 #[] 0 (Nat.le_refl _) (by decide) (by simp), hb2.alloc hb2.size _, by simp, (unhide hc2).below ((Below.refl (w.heap.size + 1) w2).alloc (by omega) _) (by omega)⟩
  case round =>
    obtain ⟨k, xs, hk, hxl, rfl, HX, hown, hb, hsz, HC⟩ := hrel
    clear hc2 ho2 hb2
    by_cases hlt : k < 12
    · go_wp2_with fail
      go_at_call 19
      refine (l01Below_any (unhide HC) hn 10000 (by decide) (by decide)).mono ?_
      rintro e w3 ⟨y, hy, rfl, ho, hc3⟩
      have hown1 := hown.only ho hg
      have hb3 := hb.trans (ho.below (Nat.le_refl _))
      have hsz3 : w2.heap.size ≤ w3.heap.size := by rw [ho.size]; exact hsz
      have hil : (ints xs).length ≤ 12 := by simp [ints]; omega
      replace hc3 := hide hc3
      replace ho := hide ho
      clear hown hb HC
      go_wp2_with (at_builtin; refine wpList_append_vals rfl (.tmp 15) (.tmp 18) 26 rfl w2.heap.size w2.heap.size 3 i0 (.int .i64 0) 8 Tryz.underlying26 hi hz0 hz1 hz2 rfl _ (ints xs) rfl hown1 _ [.int .i64 (y : Int)] rfl (by intro u hu; simp only [List.mem_singleton] at hu; subst hu; rfl) 1 1 rfl rfl (by unfold maxLen; omega) (by omega) (Nat.le_refl _) hsz3 (Below.refl _ w3) ?_; intro v' w4 hown' hb4)
      have hc4 := hide ((unhide hc3).below hb4 hg)
      have hb' := hb3.trans (hb4.mono (show w.heap.size ≤ w2.heap.size by omega))
      have hsz4 : w2.heap.size ≤ w4.heap.size := Nat.le_trans hsz3 hb4.size
      have hown2 : OwnV w4 w2.heap.size 3 v' (ints (xs ++ [y])) := by unfold ints at hown' ⊢; rw [List.map_append]; exact hown'
      clear hown1 hb3 hb4 hc3 hown'
      go_wp2
      go_roundw
      case rel => exact ⟨k + 1, xs ++ [y], by omega, by simp [hxl], by go_num, hide (by intro z hz; rw [List.mem_append] at hz; rcases hz with hz | hz; exact unhide HX z hz; simp only [List.mem_singleton] at hz; omega), hown2, hb', hsz4, hc4⟩
      case measure => simp [intOf]; omega
    · have hke : k = 12 := by omega
      have hw : w.heap.size ≤ w2.heap.size := by omega
      replace hown := hide hown
      go_wp2
      go_ret
      exact ⟨_, xs, by omega, unhide HX, rfl, (unhide hown).low hw, hb⟩

end Go.Proofs.YtecononlghjepaeGreat

/- More draws by contracts: once in so many times, one of a list of numbers, many bytes of one kind, a number, a text. -/
namespace Go.Proofs.YtecononlghjepaeGreat
open Go.RowKit

set_option maxRecDepth 20000 in
set_option maxHeartbeats 400000 in
theorem l01Once_any {w : World} {base g n c : Nat} {o : Option Addr} (h : Cur w base g o n c) (hn : n ≤ 1048576) (m : Nat) (hm : 0 < m) (hm2 : m ≤ 4294967296) :
    Calls Tryz.prog 36 #[.pointer (some ⟨g, 0, none⟩), .int .i64 (m : Int)] w fun e w' => ∃ b : Bool, e = .returned (.bool b) ∧ Only g w w' ∧ Cur w' base g o n c := by
  have H := hide h
  clear h
  go_enter Tryz.func36, Tryz.ntmps36
  go_wp2_with (go_at_call 19; refine (l01Below_any (unhide H) hn m hm hm2).mono ?_; rintro e w1 ⟨x, hx, rfl, ho, hc⟩; replace hc := hide hc)
  go_ret
  exact ⟨_, rfl, ho, unhide hc⟩

/-- A row of numbers in block b. -/
def Nums (w : World) (b k : Nat) : Prop := ∀ j, j < k → ∃ z : Int, -9223372036854775808 ≤ z ∧ z ≤ 9223372036854775807 ∧ w.cell? ⟨b, j, none⟩ = some (.int .i64 z)

set_option maxRecDepth 20000 in
set_option maxHeartbeats 400000 in
theorem l01PickInt_any {w : World} {base g n c : Nat} {o : Option Addr} (h : Cur w base g o n c) (hn : n ≤ 1048576) (b k cap : Nat) (hk : 0 < k) (hk2 : k ≤ 1000) (hN : Nums w b k) (hbg : b ≠ g) :
    Calls Tryz.prog 37 #[.pointer (some ⟨g, 0, none⟩), .slice (some ⟨b, 0, none⟩) k cap] w fun e w' => ∃ z : Int, -9223372036854775808 ≤ z ∧ z ≤ 9223372036854775807 ∧ e = .returned (.int .i64 z) ∧ Only g w w' ∧ Cur w' base g o n c := by
  have H := hide h
  have HN := hide hN
  clear h hN
  go_enter Tryz.func37, Tryz.ntmps37
  go_wp2_with fail
  go_at_call 19
  refine (l01Below_any (unhide H) hn k hk (by omega)).mono ?_
  rintro e w1 ⟨x, hx, rfl, ho, hc⟩
  replace hc := hide hc
  obtain ⟨z, hz1, hz2, hcell⟩ := (unhide HN) x hx
  have hcell1 : w1.cell? ⟨b, x, none⟩ = some (.int .i64 z) := (World.cell?_of_block (w := w) (ho.block b hbg)).trans hcell
  replace ho := hide ho
  have hx0 : (0 : Int) ≤ (x : Int) := by omega
  have hx1 : (x : Int) < (k : Int) := by omega
  go_wp2
  go_ret
  exact ⟨z, hz1, hz2, rfl, unhide ho, unhide hc⟩



end Go.Proofs.YtecononlghjepaeGreat

/- The draws of chapter 5 by contracts, over the loaded program. -/
namespace Go.Proofs.YtecononlghjepaeGreat
open Go.RowKit
set_option maxRecDepth 20000 in
set_option maxHeartbeats 400000 in
theorem l01PickP_any {w : World} {base g n c : Nat} {o : Option Addr} (p : Int → Prop) (h : Cur w base g o n c) (hn : n ≤ 1048576) (b k cap : Nat) (hk : 0 < k) (hk2 : k ≤ 1000) (hN : ∀ j, j < k → ∃ z, w.cell? ⟨b, j, none⟩ = some (.int .i64 z) ∧ p z) (hbg : b ≠ g) :
    Calls Tryz.prog 37 #[.pointer (some ⟨g, 0, none⟩), .slice (some ⟨b, 0, none⟩) k cap] w fun e w' => ∃ z : Int, p z ∧ e = .returned (.int .i64 z) ∧ Only g w w' ∧ Cur w' base g o n c := by
  have H := hide h
  have HN := hide hN
  clear h hN
  go_enter Tryz.func37, Tryz.ntmps37
  go_wp2_with fail
  go_at_call 19
  refine (l01Below_any (unhide H) hn k hk (by omega)).mono ?_
  rintro e w1 ⟨x, hx, rfl, ho, hc⟩
  replace hc := hide hc
  obtain ⟨z, hcell, hz⟩ := (unhide HN) x hx
  have hcell1 : w1.cell? ⟨b, x, none⟩ = some (.int .i64 z) := (World.cell?_of_block (w := w) (ho.block b hbg)).trans hcell
  replace ho := hide ho
  replace hz := hide hz
  have hx0 : (0 : Int) ≤ (x : Int) := by omega
  have hx1 : (x : Int) < (k : Int) := by omega
  go_wp2
  go_ret
  exact ⟨z, unhide hz, rfl, unhide ho, unhide hc⟩
end Go.Proofs.YtecononlghjepaeGreat

/- Drawn polynomials, by contracts, over the loaded program. -/
namespace Go.Proofs.YtecononlghjepaeGreat
open Go.RowKit
theorem gTB9 {w w1 w2 : World} {r : Option Nat} (h : w.grownBy w1 r) (hb : Below w.heap.size w1 w2) : w.grownBy w2 r :=
  ⟨by rw [hb.os, h.os], by rw [hb.tape, h.tape], by rw [hb.output, h.output], Nat.le_trans h.size hb.size, fun j hj hr => by rw [hb.block j hj, h.block j hj hr]⟩
theorem gO9 {g : Nat} {w w' : World} (h : Only g w w') : w.grownBy w' (some g) := ⟨h.os, h.tape, h.output, by rw [h.size]; exact Nat.le_refl _, fun k _ hk => h.block k (fun e => hk (by rw [e]))⟩
def rngL (l : List Int) : Prop := ∀ x ∈ l, 0 ≤ x ∧ x ≤ 3328
theorem rngL_add {l : List Int} (h : rngL l) {x : Int} (hx : 0 ≤ x ∧ x ≤ 3328) : rngL (l ++ [x]) := by
  intro y hy
  rw [List.mem_append] at hy
  rcases hy with h1 | h1
  · exact h y h1
  · rw [List.mem_singleton] at h1; rw [h1]; exact hx
theorem rngL_set {l : List Int} (h : rngL l) (k : Nat) {x : Int} (hx : 0 ≤ x ∧ x ≤ 3328) : rngL (l.set k x) := by
  intro y hy
  rcases List.mem_or_eq_of_mem_set hy with h1 | h1
  · exact h y h1
  · rw [h1]; exact hx
theorem okPl_rng {l : List Int} (hl : l.length = 256) (h : rngL l) : okPl l = true :=
  okPl_of hl fun i hi => by rw [cAt_lt (by omega)]; exact h _ (List.getElem_mem _)
theorem map_add_iv (l : List Int) (x : Int) : l.map iv ++ [.int .i64 x] = (l ++ [x]).map iv := by rw [List.map_append]; rfl
theorem OwnV.some9 {w : World} {base n c : Nat} {a : Option Addr} {e : TypeId} {xs : List Value} (h : OwnV w base e (.slice a n c) xs) (hn : 0 < n) : ∃ g, a = some ⟨g, 0, none⟩ ∧ base ≤ g ∧ g < w.heap.size := by
  rcases h.2 with ⟨h1, _⟩ | ⟨g, cap, cur, h1, hb, h2, _⟩
  · simp only [Value.slice.injEq] at h1; omega
  · simp only [Value.slice.injEq] at h1
    refine ⟨g, h1.1, hb, ?_⟩
    rcases Nat.lt_or_ge g w.heap.size with h3 | h3
    · exact h3
    · rw [Array.getElem?_eq_none h3] at h2; cases h2
end Go.Proofs.YtecononlghjepaeGreat

/- Draws of a seed and two places, over the loaded program. -/
namespace Go.Proofs.YtecononlghjepaeGreat
open Go.RowKit
theorem nums5v (w : World) (T : TypeId) (a b : Int) (ha : -9223372036854775808 ≤ a ∧ a ≤ 9223372036854775807) (hb : -9223372036854775808 ≤ b ∧ b ≤ 9223372036854775807) : Nums (w.alloc (.cells #[.int .i64 (-1), .int .i64 a, .int .i64 b, .int .i64 9223372036854775807, .int .i64 (-9223372036854775808)] T)) w.heap.size 5 := by
  intro j hj
  rw [cell_of_row _ w.heap.size j _ T (0, 0) (heap_alloc_new w _)]
  match j, hj with
  | 0, _ => exact ⟨_, by decide, by decide, rfl⟩
  | 1, _ => exact ⟨a, ha.1, ha.2, rfl⟩
  | 2, _ => exact ⟨b, hb.1, hb.2, rfl⟩
  | 3, _ => exact ⟨_, by decide, by decide, rfl⟩
  | 4, _ => exact ⟨_, by decide, by decide, rfl⟩
  | j + 5, hj => exact absurd hj (by omega)

set_option maxRecDepth 20000 in
set_option maxHeartbeats 1000000 in
theorem l01Place_v {w : World} {base g n c : Nat} {o : Option Addr} (h : Cur w base g o n c) (hn : n ≤ 1048576) (m : Nat) (hm : 0 < m) (hm2 : m ≤ 1000000) :
    Calls Tryz.prog 17 #[.pointer (some ⟨g, 0, none⟩), .int .i64 (m : Int)] w fun e w' => ∃ z : Int, e = .returned (.int .i64 z) ∧ w.grownBy w' (some g) ∧ Cur w' base g o n c := by
  have hg := h.lt
  have H := hide h
  clear h
  go_enter Tryz.func17, Tryz.ntmps17
  go_wp2_with fail
  go_at_call 36
  refine (l01Once_any (unhide H) hn 15 (by decide) (by decide)).mono ?_
  rintro e w1 ⟨b, rfl, ho1, hc1⟩
  have G1 := hide (gO9 ho1)
  have s1 : w.heap.size ≤ w1.heap.size := by rw [ho1.size]; exact Nat.le_refl _
  replace hc1 := hide hc1
  clear ho1
  cases b with
  | true =>
    go_wp2_with fail
    go_at_call 37
    refine (l01PickInt_any ((unhide hc1).below ((Below.refl w1.heap.size w1).alloc (Nat.le_refl _) _) (by omega)) hn w1.heap.size 5 5 (by decide) (by decide) (nums5v w1 _ (m : Int) ((m : Int) + 1) (by omega) (by omega)) (by omega)).mono ?_
    rintro e w2 ⟨z, _, _, rfl, ho2, hc2⟩
    have G2 := hide (gT (unhide G1) (gT (gB ((Below.refl w1.heap.size w1).alloc (Nat.le_refl _) _) (some g)) (gO9 ho2)))
    replace hc2 := hide hc2
    replace ho2 := hide ho2
    go_wp2
    go_ret
    exact ⟨z, rfl, unhide G2, unhide hc2⟩
  | false =>
    go_wp2_with fail
    go_at_call 19
    refine (l01Below_any (unhide hc1) hn m hm (by omega)).mono ?_
    rintro e w2 ⟨x, hx, rfl, ho2, hc2⟩
    have G2 := hide (gT (unhide G1) (gO9 ho2))
    replace hc2 := hide hc2
    replace ho2 := hide ho2
    go_wp2
    go_ret
    exact ⟨(x : Int), rfl, unhide G2, unhide hc2⟩
end Go.Proofs.YtecononlghjepaeGreat

/- The draws that leave every block but the cursor's. -/
namespace Go.Proofs.YtecononlghjepaeGreat
open Go.RowKit
theorem gO {g : Nat} {w w' : World} (h : Only g w w') : w.grownBy w' (some g) := ⟨h.os, h.tape, h.output, by rw [h.size]; exact Nat.le_refl _, fun k _ hk => h.block k (fun e => hk (by rw [e]))⟩
theorem gTB {w w1 w2 : World} {r : Option Nat} (h : w.grownBy w1 r) (hb : Below w.heap.size w1 w2) : w.grownBy w2 r :=
  ⟨hb.os.trans h.os, hb.tape.trans h.tape, hb.output.trans h.output, Nat.le_trans h.size hb.size, fun i hi hr => (hb.block i hi).trans (h.block i hi hr)⟩
set_option maxRecDepth 20000 in
set_option maxHeartbeats 400000 in
theorem l01Text_g {w : World} {base g n c : Nat} {o : Option Addr} (h : Cur w base g o n c) (hn : n ≤ 1048576) (m : Nat) (hm : m ≤ 5000) :
    Calls Tryz.prog 18 #[.pointer (some ⟨g, 0, none⟩), .int .i64 (m : Int)] w fun e w' => ∃ l : List UInt8, l.length = m ∧ e = .returned (.string ⟨l.toArray⟩) ∧ w.grownBy w' (some g) ∧ Cur w' base g o n c := by
  obtain ⟨i0, hi, hz0, hz1, hz2⟩ := info_parts Tryz.infoBC
  have H := hide h
  clear h
  have h0 : ¬ (5000 : Int) < (m : Int) := by omega
  go_enter Tryz.func18, Tryz.ntmps18
  go_wp2
  have hg := (unhide H).lt
  have hlo := (unhide H).lo
  go_loopw [5, 6] (fun v ti wr => ∃ (k : Nat) (pre : List UInt8), k ≤ m ∧ pre.length = k ∧ ti = .int .i64 (k : Int) ∧ OwnB wr w.heap.size 5 v pre ∧ w.grownBy wr (some g) ∧ Hid (Cur wr base g o n c))
    (fun _ ti _ => m - (intOf ti).toNat)
  case atStart => exact ⟨0, [], Nat.zero_le _, rfl, rfl, World.ownsRow_made w #[] 0 (Nat.le_refl _) (by decide) (by simp), gB ((Below.refl w.heap.size w).alloc (Nat.le_refl _) _) _, (unhide H).below ((Below.refl (g + 1) w).alloc (by omega) _) (by omega)⟩
  case round =>
    clear H h0
    obtain ⟨k, pre, hk, hpl, rfl, hown, hb, HC⟩ := hrel
    have hsz := hb.size
    by_cases hlt : k < m
    · go_wp2_with fail
      go_at_call 20
      refine (l01Byte_any (unhide HC) hn).mono ?_
      rintro e w1 ⟨x, hx, rfl, ho, hc1⟩
      have hown1 := hown.only ho hg
      have hb1 := gT hb (gO ho)
      have hsz1 := hb1.size
      replace hc1 := hide hc1
      replace ho := hide ho
      clear hown hb HC
      have hbx : ((byteOf x).toNat : Int) = (x : Int) := by rw [byteOf_toNat hx]
      go_wp2_with (at_builtin; refine wpList_append_bytes rfl (.tmp 15) (.tmp 19) 22 rfl w.heap.size w.heap.size 5 i0 Tryz.underlying22 hi hz0 hz1 hz2 _ pre rfl hown1 _ [byteOf x] (cs_at hbx) 1 1 rfl rfl (by omega) (Nat.le_refl _) hsz1 (Below.refl _ w1) ?_; intro v' w2 hown' hb2)
      have hc2 := hide ((unhide hc1).below hb2 hg)
      have hb' := gTB hb1 hb2
      clear hown1 hb1 hb2 hc1
      go_wp2
      go_roundw
      case rel => exact ⟨k + 1, pre ++ [byteOf x], by omega, by simp [hpl], by go_num, hown', hb', hc2⟩
      case measure => simp [intOf]; omega
    · have hke : k = m := by omega
      have hc := run_string_owned (P := Tryz.prog) wr 22 9 5 w.heap.size _ _ Tryz.underlying22 Tryz.underlying5 Tryz.underlying9 hown
      clear hown
      go_wp2
      go_ret
      exact ⟨pre, by omega, rfl, hb, unhide HC⟩

theorem HB.grown {w w' : World} {k g : Nat} {T : TypeId} {a : Hs} (h : HB w k T a) (hg : w.grownBy w' (some g)) (hne : k ≠ g) : HB w' k T a := by
  have hl := h.lt
  unfold HB at h ⊢
  rw [hg.block k hl (fun e => hne (Option.some.inj e))]; exact h
end Go.Proofs.YtecononlghjepaeGreat

/- A text that is picked out of short ones, over the loaded program. -/
namespace Go.Proofs.YtecononlghjepaeGreat
open Go.RowKit
def Txt9 (w : World) (b k : Nat) : Prop := ∀ j, j < k → ∃ s : ByteArray, s.size ≤ 9 ∧ w.cell? ⟨b, j, none⟩ = some (.string s)
set_option maxHeartbeats 400000 in
theorem l01Pick_9 {w : World} {base g n c : Nat} {o : Option Addr} (h : Cur w base g o n c) (hn : n ≤ 1048576) (b k cap : Nat) (hk : 0 < k) (hk2 : k ≤ 1000) (hN : Txt9 w b k) (hbg : b ≠ g) :
    Calls Tryz.prog 35 #[.pointer (some ⟨g, 0, none⟩), .slice (some ⟨b, 0, none⟩) k cap] w fun e w' => ∃ s : ByteArray, s.size ≤ 9 ∧ e = .returned (.string s) ∧ Only g w w' ∧ Cur w' base g o n c := by
  have H := hide h
  have HN := hide hN
  clear h hN
  go_enter Tryz.func35, Tryz.ntmps35
  go_wp2_with fail
  go_at_call 19
  refine (l01Below_any (unhide H) hn k hk (by omega)).mono ?_
  rintro e w1 ⟨x, hx, rfl, ho, hc⟩
  replace hc := hide hc
  obtain ⟨z, hz1, hcell⟩ := (unhide HN) x hx
  have hcell1 : w1.cell? ⟨b, x, none⟩ = some (.string z) := (World.cell?_of_block (w := w) (ho.block b hbg)).trans hcell
  replace ho := hide ho
  have hx0 : (0 : Int) ≤ (x : Int) := by omega
  have hx1 : (x : Int) < (k : Int) := by omega
  go_wp2
  go_ret
  exact ⟨z, hz1, rfl, unhide ho, unhide hc⟩
theorem txt9_4 (w : World) (T : TypeId) : Txt9 (w.alloc (.cells #[.string ⟨#[]⟩, .string ⟨#[97]⟩, .string ⟨#[98]⟩, .string ⟨#[115, 101, 101, 100]⟩] T)) w.heap.size 4 := by
  intro j hj
  rw [cell_of_row _ w.heap.size j _ T (0, 0) (heap_alloc_new w _)]
  match j, hj with
  | 0, _ => exact ⟨_, by decide, rfl⟩
  | 1, _ => exact ⟨_, by decide, rfl⟩
  | 2, _ => exact ⟨_, by decide, rfl⟩
  | 3, _ => exact ⟨_, by decide, rfl⟩
  | j + 4, hj => exact absurd hj (by omega)
end Go.Proofs.YtecononlghjepaeGreat

/- Draws of seeds, leaves and texts, over the loaded program. -/
namespace Go.Proofs.YtecononlghjepaeGreat
open Go.RowKit
set_option maxRecDepth 20000 in
set_option maxHeartbeats 400000 in
theorem l16Seed_any {w : World} {base g n c : Nat} {o : Option Addr} (h : Cur w base g o n c) (hn : n ≤ 1048576) :
    Calls Tryz.prog 16 #[.pointer (some ⟨g, 0, none⟩)] w fun e w' => ∃ s : ByteArray, s.size ≤ 9 ∧ e = .returned (.string s) ∧ w.grownBy w' (some g) ∧ Cur w' base g o n c := by
  have hg := h.lt
  have H := hide h
  clear h
  go_enter Tryz.func16, Tryz.ntmps16
  go_wp2_with fail
  go_at_call 35
  refine (l01Pick_9 ((unhide H).below ((Below.refl w.heap.size w).alloc (Nat.le_refl _) _) hg) hn w.heap.size 4 4 (by decide) (by decide) (txt9_4 w _) (by omega)).mono ?_
  rintro e w1 ⟨s, hs, rfl, ho, hc⟩
  have G1 := hide (gT (gB ((Below.refl w.heap.size w).alloc (Nat.le_refl _) _) (some g)) (gO ho))
  replace hc := hide hc
  clear ho H
  go_wp2
  go_ret
  exact ⟨s, hs, rfl, unhide G1, unhide hc⟩
set_option maxRecDepth 20000 in
set_option maxHeartbeats 400000 in
theorem drawSignAt_any (w : World) (o : Option Addr) (n c : Nat) (hs : Src w w.heap.size o n) (hn : n ≤ 1048576) :
    Calls Tryz.prog 5 #[.slice o n c] w fun e w' => ∃ (s : ByteArray) (leaf : Int) (m : ByteArray), s.size ≤ 9 ∧ m.size ≤ 10 ∧ e = .returned (.tuple #[.string s, .int .i64 leaf, .string m]) ∧ Below w.heap.size w w' := by
  have HS := hide hs
  clear hs
  go_enter Tryz.func5, Tryz.ntmps5
  go_wp2_with fail
  refine (l01New_any w o n c (unhide HS) hn).mono ?_
  rintro e w1 ⟨rfl, hb1, hc1⟩
  obtain ⟨g, hg⟩ : ∃ g, g = w.heap.size := ⟨_, rfl⟩
  rw [← hg] at hc1 ⊢
  have hgle : w.heap.size ≤ g := by omega
  clear HS hg
  go_wp2_with fail
  refine (l16Seed_any hc1 hn).mono ?_
  rintro e w2 ⟨s, hs, rfl, g2, hc2⟩
  have hb2 := hb1.grown g2 hb1.size (fun k hk => by cases hk; exact hgle)
  clear hc1 hb1 g2
  go_wp2_with fail
  refine (l01Place_v hc2 hn 4 (by omega) (by omega)).mono ?_
  rintro e w3 ⟨i, rfl, g3, hc3⟩
  have hb3 := hb2.grown g3 hb2.size (fun k hk => by cases hk; exact hgle)
  clear hc2 hb2 g3
  go_wp2_with fail
  refine (l01Below_any hc3 hn 6 (by decide) (by decide)).mono ?_
  rintro e w4 ⟨x, hx, rfl, ho4, hc4⟩
  have hb4 := hb3.grown (gO ho4) hb3.size (fun k hk => by cases hk; exact hgle)
  clear hc3 hb3 ho4
  go_wp2_with fail
  refine (l01Text_g hc4 hn x (by omega)).mono ?_
  rintro e w5 ⟨l, hl, rfl, g5, hc5⟩
  have hb5 := hb4.grown g5 hb4.size (fun k hk => by cases hk; exact hgle)
  have hm : (ByteArray.mk l.toArray).size ≤ 10 := by show l.toArray.size ≤ 10; simp; omega
  clear hc4 hb4 g5 hc5
  go_wp2
  refine bodyPost_ret (v := .tuple #[.string s, .int .i64 i, .string ⟨l.toArray⟩]) (by simp [results, Tryz.results5, go_sem]) rfl ⟨s, i, _, hs, hm, rfl, hb5⟩
end Go.Proofs.YtecononlghjepaeGreat

/- The law FnOnce, walked over the loaded program; what the project's functions answer is a premise. -/
namespace Go.Proofs.YtecononlghjepaeGreat
open Go.RowKit
theorem OwnV.loU {w : World} {base : Nat} {e : TypeId} {v : Value} {xs : List Value} (h : OwnV w base e v xs) : ∀ k, v.ownBlock = some k → base ≤ k ∧ k < w.heap.size := fun k hk => World.ownsRow.lt h k hk
theorem row_some15 {w : World} {base : Nat} {e : TypeId} {v : Value} {xs : List Value} (h : OwnV w base e v xs) (hn : 0 < xs.length) : ∃ g c, v = .slice (some ⟨g, 0, none⟩) xs.length c ∧ base ≤ g ∧ g < w.heap.size ∧ xs.length ≤ c := by
  have h0 := h
  rcases h.2 with ⟨_, h2⟩ | ⟨g, cap, cur, h1, hb, _, hc, _⟩
  · omega
  · refine ⟨g, cap, h1, hb, ?_, hc⟩
    have := World.ownsRow.lt h0 g (by rw [h1]; rfl)
    exact this.2
set_option maxRecDepth 20000 in
set_option maxHeartbeats 1000000 in
theorem sameTexts_any (l : List ByteArray) (v1 v2 : Value) (w : World) (hr1 : RdV w v1 (l.map sv)) (hr2 : RdV w v2 (l.map sv)) (hln : l.length ≤ 2000000) :
    Calls Tryz.prog 14 #[v1, v2] w fun e w' => e = .returned (.bool true) ∧ Below w.heap.size w w' := by
  obtain ⟨a1, c1, rfl, hc1⟩ := hr1.open
  obtain ⟨a2, c2, rfl, hc2⟩ := hr2.open
  clear hr1 hr2
  rw [List.length_map]
  obtain ⟨n, hnn⟩ : ∃ n, l.length = n := ⟨_, rfl⟩
  rw [hnn] at hln ⊢
  replace hnn := hide hnn
  go_enter Tryz.func14, Tryz.ntmps14
  go_wp2
  go_loopw [5] (fun ti wr => ∃ k q : Nat, k ≤ n ∧ ti = .int .i64 k ∧ wr = w.drewN q) (fun ti _ => n - (intOf ti).toNat)
  case atStart => exact ⟨0, 0, Nat.zero_le _, rfl, rfl⟩
  case round =>
    obtain ⟨k, q, hk, rfl, rfl⟩ := hrel
    by_cases hlt : k < n
    · have hk' : k < l.length := by rw [unhide hnn]; exact hlt
      have hf := sv_get l k hk'
      obtain ⟨g1, o1, rfl, hg1, d1⟩ := hc1 k _ hf
      obtain ⟨g2, o2, rfl, hg2, d2⟩ := hc2 k _ hf
      have hi0 : (0 : Int) ≤ (k : Int) := by omega
      have hi1 : (k : Int) < (n : Int) := by omega
      generalize l[k] = told at *
      clear hc1 hc2 hf
      go_wp2
      go_quiet (fail)
      go_wp2
      go_roundw
      case rel => exact ⟨k + 1, _, by omega, by go_num, by first | rfl | rw [World.drewN_drewN]⟩
      case measure => simp [intOf]; omega
    · go_wp2
      go_ret
      exact ⟨rfl, bDN (Below.refl _ w) _⟩
theorem keysO_sizes (s : ByteArray) (leaf : Int) : (keysO s leaf).length = 10 ∧ ∀ x ∈ keysO s leaf, x.size = 4 := by
  unfold keysO
  refine ⟨by rw [List.length_map, List.length_range], fun x hx => ?_⟩
  obtain ⟨i, _, rfl⟩ := List.mem_map.1 hx
  unfold keyO
  exact chopB_size _
theorem sumS_most (l : List ByteArray) (c : Nat) (h : ∀ x ∈ l, x.size ≤ c) : sumS l ≤ c * l.length := by
  induction l with
  | nil => exact Nat.zero_le _
  | cons x xs ih =>
    have h1 := h x (by simp)
    have h2 := ih (fun y hy => h y (by simp [hy]))
    show x.size + sumS xs ≤ c * (xs.length + 1)
    rw [Nat.mul_add, Nat.mul_one]
    omega
theorem onceS_sizes (l : List ByteArray) (leaf : Int) (m : ByteArray) (hl : l.length = 10) (h : ∀ x ∈ l, x.size = 4) : (onceS l leaf m).length = 10 ∧ sumS (onceS l leaf m) ≤ 80 := by
  have hlen : (onceS l leaf m).length = 10 := by unfold onceS; rw [if_pos hl, List.length_map, List.length_range]
  refine ⟨hlen, ?_⟩
  have := sumS_most (onceS l leaf m) 8 (fun x hx => by
    unfold onceS at hx
    rw [if_pos hl] at hx
    obtain ⟨i, hi, rfl⟩ := List.mem_map.1 hx
    have h1 := chn_le (bAt l i) leaf (i : Int) 0 (dgAt m i)
    have h2 := bAt_size l i 4 (by rw [hl]; exact List.mem_range.1 hi) (fun x hx => by rw [h x hx]; exact Nat.le_refl _)
    omega)
  rw [hlen] at this
  omega
end Go.Proofs.YtecononlghjepaeGreat

/- The laws FnExactPublicOf, FnExactSigOk, FnExactCheckSig, FnExactSigText, walked over the loaded program; what the project's functions answer are premises. -/
namespace Go.Proofs.YtecononlghjepaeGreat
open Go.RowKit
theorem RdSg.open {w : World} {v : Value} {s : Sg} (h : RdSg w v s) : ∃ a1 n1 c1 a2 n2 c2, v = .agg #[.int .i64 s.leaf, .slice a1 n1 c1, .slice a2 n2 c2] := by
  obtain ⟨v1, v2, rfl, h1, h2, -⟩ := h
  obtain ⟨a1, c1, rfl⟩ := h1.shape
  obtain ⟨a2, c2, rfl⟩ := h2.shape
  exact ⟨_, _, _, _, _, _, rfl⟩
/-- What is asked of a signature's texts, that they may be reckoned with. -/
def okSg (s : Sg) : Prop := (∀ x ∈ s.once, x.size ≤ maxLen) ∧ (∀ x ∈ s.path, x.size ≤ maxLen) ∧ s.once.length ≤ maxLen ∧ s.path.length ≤ maxLen
end Go.Proofs.YtecononlghjepaeGreat

/- The law FnSigns, walked over the loaded program; what the project's functions answer are premises. -/
namespace Go.Proofs.YtecononlghjepaeGreat
open Go.RowKit
set_option maxRecDepth 20000 in
set_option maxHeartbeats 1600000 in
theorem lawSigns_any (w : World) (o : Option Addr) (n c : Nat) (hs : Src w w.heap.size o n)
    (CP : ∀ (s : ByteArray) (W : World), s.size ≤ 1048576 → Below w.heap.size w W → Calls Tryz.prog 7 #[.string s] W fun e w' => e = .returned (.string (pubO s)) ∧ Below W.heap.size W w')
    (CG : ∀ (s m : ByteArray) (leaf : Int) (W : World), s.size ≤ 1048576 → m.size ≤ 1048576 → Below w.heap.size w W → Calls Tryz.prog 8 #[.string s, .int .i64 leaf, .string m] W fun e w' => (∃ v, e = .returned (.tuple #[v, .bool (decide (0 ≤ leaf ∧ leaf ≤ 3))]) ∧ OwnSg w' W.heap.size v (sgnS s leaf m)) ∧ Below W.heap.size W w')
    (CT : ∀ (S : Sg) (W : World) (v : Value), S.once.length ≤ 1048576 → S.path.length ≤ 1048576 → Below w.heap.size w W → RdSg W v S → Calls Tryz.prog 9 #[v] W fun e w' => e = .returned (.tuple #[.string (sgT S), .bool (sgOk S)]) ∧ Below W.heap.size W w')
    (CR : ∀ (t : ByteArray) (W : World), t.size ≤ 1048576 → Below w.heap.size w W → Calls Tryz.prog 10 #[.string t] W fun e w' => (∃ v, e = .returned (.tuple #[v, .bool (rdOk t)]) ∧ OwnSg w' W.heap.size v (rdS t)) ∧ Below W.heap.size W w')
    (CO : ∀ (S : Sg) (W : World) (v : Value), S.once.length ≤ 1048576 → S.path.length ≤ 1048576 → Below w.heap.size w W → RdSg W v S → Calls Tryz.prog 11 #[v] W fun e w' => e = .returned (.bool (sgOk S)) ∧ Below W.heap.size W w')
    (CC : ∀ (p m : ByteArray) (S : Sg) (W : World) (v : Value), p.size ≤ 1048576 → m.size ≤ 1048576 → S.once.length ≤ 1048576 → S.path.length ≤ 1048576 → Below w.heap.size w W → RdSg W v S → Calls Tryz.prog 12 #[.string p, .string m, v] W fun e w' => e = .returned (.bool (chkB p m S)) ∧ Below W.heap.size W w') :
    Calls Tryz.prog 3 #[.slice o n c] w fun e w' => e = .returned (.bool true) ∧ Below w.heap.size w w' := by
  have HS := hide hs
  replace CP := hide CP; replace CG := hide CG; replace CT := hide CT; replace CR := hide CR; replace CO := hide CO; replace CC := hide CC
  clear hs
  by_cases hbig : (1048576 : Int) < (n : Int)
  · have hd : decide ((1048576 : Int) < (n : Int)) = true := by rw [decide_eq_true_iff]; exact hbig
    go_enter Tryz.func3, Tryz.ntmps3
    go_wp2_with (go_at_call 4; refine (big_any w o n c).mono ?_; rintro e w1 ⟨rfl, rfl⟩)
    go_ret
    exact ⟨rfl, Below.refl _ _⟩
  have hd : decide ((1048576 : Int) < (n : Int)) = false := by rw [decide_eq_false_iff_not]; exact hbig
  have hn : n ≤ 1048576 := by omega
  go_enter Tryz.func3, Tryz.ntmps3
  go_wp2_with fail
  refine (big_any w o n c).mono ?_
  rintro e w0 ⟨rfl, hw0⟩
  have hw0' := hw0.symm
  subst hw0'
  clear hw0
  go_wp2_with fail
  refine (drawSignAt_any w o n c (unhide HS) hn).mono ?_
  rintro e w1 ⟨s, lfd, m, hs9, hm9, rfl, HT1⟩
  have HS1 := hide (((unhide HS).below HT1 (Nat.le_refl _)).up HT1.size)
  clear HS
  go_wp2_with fail
  refine (drawPlaces_any w1 o n c (unhide HS1) hn).mono ?_
  rintro e w2 ⟨v, xs, hxl, hx, rfl, oX, hb2⟩
  have HT2 := HT1.trans (hb2.mono HT1.size)
  obtain ⟨x0, xs', rfl⟩ : ∃ x t, xs = x :: t := by
    cases xs with
    | nil => cases hxl
    | cons x t => exact ⟨x, t, rfl⟩
  have hx0 := hx x0 (by simp)
  have oX2 := oX
  obtain ⟨aX, cX, rfl⟩ := oX.shape
  have hlX : (ints (x0 :: xs')).length = 12 := by unfold ints; rw [List.length_map]; exact hxl
  rw [hlX] at oX2 ⊢
  obtain ⟨gX, hgX⟩ : ∃ g, aX = some ⟨g, 0, none⟩ := by
    rcases oX2.2 with ⟨_, h2⟩ | ⟨g, cap, cur, h1, _⟩
    · rw [hlX] at h2; cases h2
    · exact ⟨g, (Value.slice.inj h1).1⟩
  subst hgX
  have dX := oX2.cell (k := 0) (u := .int .i64 (x0 : Int)) rfl
  obtain ⟨lf, hlf⟩ : ∃ l : Nat, l = x0 % 4 := ⟨_, rfl⟩
  have hlf4 : lf < 4 := by omega
  have t1 : (x0 : Int).tmod 4 = (lf : Int) := by rw [Int.tmod_eq_emod_of_nonneg (by omega)]; omega
  have t1' : (x0 : Int) % 4 = (lf : Int) := by omega
  have t2 : IntKind.i64.wrap (lf : Int) = (lf : Int) := by rw [IntKind.wrap_i64]; omega
  have hin : (0 : Int) ≤ (lf : Int) ∧ (lf : Int) ≤ 3 := by omega
  have CP1 := hide (fun (W : World) (h : Below w.heap.size w W) => unhide CP s W (by omega) h)
  have CG1 := hide (fun (W : World) (h : Below w.heap.size w W) => unhide CG s m (lf : Int) W (by omega) (by omega) h)
  have CG2 := hide (fun (W : World) (h : Below w.heap.size w W) => unhide CG s m 4 W (by omega) (by omega) h)
  rw [decide_eq_true hin] at CG1
  have hok := sgnS_ok s (lf : Int) m hin
  have hlS : (sgnS s (lf : Int) m).leaf = (lf : Int) := by unfold sgnS; rw [if_pos hin]
  have hchk := sgn_chk s (lf : Int) m hin
  obtain ⟨_, hS1, hS2⟩ := sgOk_shape hok
  have hpz : (pubO s).size ≤ 1048576 := by
    have h4 : (pubO s).size ≤ 4 := by
      unfold pubO rootB
      rw [if_pos (lvsO_len s)]
      exact Nat.le_of_eq (bAt_four (lvs_four _ (lvsO_size s) 2) 0 (by rw [lvs_len _ (lvsO_len s) 2]; decide))
    omega
  have CT1 := hide (fun (W : World) (v : Value) (h : Below w.heap.size w W) (r : RdSg W v (sgnS s (lf : Int) m)) => unhide CT _ W v (by omega) (by omega) h r)
  have CO1 := hide (fun (W : World) (v : Value) (h : Below w.heap.size w W) (r : RdSg W v (sgnS s (lf : Int) m)) => unhide CO _ W v (by omega) (by omega) h r)
  have CC1 := hide (fun (W : World) (v : Value) (h : Below w.heap.size w W) (r : RdSg W v (sgnS s (lf : Int) m)) => unhide CC (pubO s) m _ W v hpz (by omega) (by omega) (by omega) h r)
  have CC2 := hide (fun (W : World) (v : Value) (r : RdSg W v (sgnS s (lf : Int) m)) => specCheckSig_any (pubO s) m _ v W r (by omega) (by omega) (by omega))
  have CR1 := hide (fun (W : World) (h : Below w.heap.size w W) => unhide CR (sgT (sgnS s (lf : Int) m)) W (by rw [sgT_size hok]; omega) h)
  rw [rd_sgT hok, rdOk_of (rdIn_sgT hok)] at CR1
  rw [hchk] at CC1 CC2
  rw [hok] at CT1 CO1
  have hS4 : decide ((0 : Int) ≤ 4 ∧ (4 : Int) ≤ 3) = false := by decide
  rw [hS4] at CG2
  generalize sgnS s 4 m = S4 at *
  generalize sgnS s (lf : Int) m = S at *
  have CX1 := hide (fun (W : World) (v u : Value) (hv : RdV W v (S.once.map sv)) (hu : RdV W u (S.once.map sv)) => sameTexts_any S.once v u W hv hu (by omega))
  have CX2 := hide (fun (W : World) (v u : Value) (hv : RdV W v (S.path.map sv)) (hu : RdV W u (S.path.map sv)) => sameTexts_any S.path v u W hv hu (by omega))
  generalize pubO s = p at *
  generalize sgT S = tx at *
  clear CP CG CT CR CO CC oX oX2 hlX hb2 HT1 HS1 hxl hx hS1 hS2 hok hchk hpz hS4 hin
  replace hlf := hide hlf
  go_wp2_with fail
  refine (unhide CP1 w2 HT2).mono ?_
  rintro e w3 ⟨rfl, hb3⟩
  have HT3 := HT2.trans (hb3.mono HT2.size)
  clear hb3 HT2 CP1 dX
  go_wp2_with fail
  refine (unhide CG1 w3 HT3).mono ?_
  rintro e w4 ⟨⟨v4, rfl, o4⟩, hb4⟩
  have HT4 := HT3.trans (hb4.mono HT3.size)
  obtain ⟨a1, n1, c1, a2, n2, c2, rfl⟩ := o4.open
  rw [hlS] at o4 ⊢
  have r4 := hide o4.rd
  clear hb4 HT3 CG1 o4
  go_wp2_with fail
  obtain ⟨W4, hW, P8, hB4, hs4⟩ := one_cb w4 #[.int .i64 (lf : Int), .slice a1 n1 c1, .slice a2 n2 c2] 31
  rw [hW]
  clear hW
  have HT5 := HT4.trans (hB4.mono HT4.size)
  have r5 := hide ((unhide r4).below hB4)
  clear hB4 r4 HT4
  refine (unhide CT1 W4 _ HT5 (unhide r5)).mono ?_
  rintro e w6 ⟨rfl, hb6⟩
  have HT6 := HT5.trans (hb6.mono HT5.size)
  have r6 := hide ((unhide r5).below hb6)
  have P8a := P8.step hb6
  clear hb6 r5 HT5 P8 CT1
  go_wp2_with fail
  refine (unhide CR1 w6 HT6).mono ?_
  rintro e w7 ⟨⟨v7, rfl, o7⟩, hb7⟩
  have HT7 := HT6.trans (hb7.mono HT6.size)
  have r7 := hide ((unhide r6).below hb7)
  have P8b := P8a.step hb7
  obtain ⟨a3, n3, c3, a4, n4, c4, rfl⟩ := o7.open
  rw [hlS] at o7 ⊢
  have x7 := hide o7.rd
  clear hb7 r6 HT6 P8a CR1 o7
  go_wp2_with fail
  obtain ⟨W7, hW, P12, hB7, hs7⟩ := one_cb w7 #[.int .i64 (lf : Int), .slice a3 n3 c3, .slice a4 n4 c4] 31
  rw [hW]
  clear hW
  have HT8 := HT7.trans (hB7.mono HT7.size)
  have r8 := hide ((unhide r7).below hB7)
  have x8 := hide ((unhide x7).below hB7)
  have P8c := P8b.step hB7
  clear hB7 r7 x7 HT7 P8b
  refine (unhide CG2 W7 HT8).mono ?_
  rintro e w9 ⟨⟨v9, rfl, o9⟩, hb9⟩
  have HT9 := HT8.trans (hb9.mono HT8.size)
  have r9 := hide ((unhide r8).below hb9)
  have x9 := hide ((unhide x8).below hb9)
  have P8d := P8c.step hb9
  have P12d := P12.step hb9
  obtain ⟨a5, n5, c5, a6, n6, c6, rfl⟩ := o9.open
  have p0 := P8d.cell 0 (v := .int .i64 (lf : Int)) rfl
  have p1 := P8d.cell 1 (v := .slice a1 n1 c1) rfl
  have p2 := P8d.cell 2 (v := .slice a2 n2 c2) rfl
  have l8 := P8d.lt
  clear hb9 r8 x8 HT8 P8c P12 CG2 o9
  go_wp2_with fail
  obtain ⟨W9, hW, P14, hB9, hs9'⟩ := one_cb w9 #[.int .i64 S4.leaf, .slice a5 n5 c5, .slice a6 n6 c6] 31
  rw [hW]
  clear hW p0 p1 p2 l8 P14
  have HT10 := HT9.trans (hB9.mono HT9.size)
  have r10 := hide ((unhide r9).below hB9)
  have x10 := hide ((unhide x9).below hB9)
  have P8e := P8d.step hB9
  have P12e := P12d.step hB9
  clear hB9 r9 x9 HT9 P8d P12d
  refine (unhide CO1 W9 _ HT10 (unhide r10)).mono ?_
  rintro e w11 ⟨rfl, hb11⟩
  have HT11 := HT10.trans (hb11.mono HT10.size)
  have r11 := hide ((unhide r10).below hb11)
  have x11 := hide ((unhide x10).below hb11)
  have P8f := P8e.step hb11
  have P12f := P12e.step hb11
  have p0 := P8f.cell 0 (v := .int .i64 (lf : Int)) rfl
  have p1 := P8f.cell 1 (v := .slice a1 n1 c1) rfl
  have p2 := P8f.cell 2 (v := .slice a2 n2 c2) rfl
  clear hb11 r10 x10 HT10 P8e P12e CO1
  go_wp2_with fail
  refine (unhide CC1 w11 _ HT11 (unhide r11)).mono ?_
  rintro e w12 ⟨rfl, hb12⟩
  have HT12 := HT11.trans (hb12.mono HT11.size)
  have r12 := hide ((unhide r11).below hb12)
  have x12 := hide ((unhide x11).below hb12)
  have P8g := P8f.step hb12
  have P12g := P12f.step hb12
  have q0 := P12g.cell 0 (v := .int .i64 (lf : Int)) rfl
  have q1 := P12g.cell 1 (v := .slice a3 n3 c3) rfl
  have q2 := P12g.cell 2 (v := .slice a4 n4 c4) rfl
  clear hb12 r11 x11 HT11 P8f P12f CC1 p0 p1 p2
  go_wp2_with fail
  refine (unhide CC2 w12 _ (unhide x12)).mono ?_
  rintro e w13 ⟨rfl, hb13⟩
  have HT13 := HT12.trans (hb13.mono HT12.size)
  have r13 := hide ((unhide r12).below hb13)
  have x13 := hide ((unhide x12).below hb13)
  have P8h := P8g.step hb13
  have P12h := P12g.step hb13
  clear hb13 r12 x12 HT12 P8g P12g CC2 q0 q1 q2
  have q0 := P12h.cell 0 (v := .int .i64 (lf : Int)) rfl
  have q1 := P12h.cell 1 (v := .slice a3 n3 c3) rfl
  have p1 := P8h.cell 1 (v := .slice a1 n1 c1) rfl
  obtain ⟨f1, f2, ef, rf1, rf2, -⟩ := unhide r13
  obtain ⟨g1, g2, eg, rg1, rg2, -⟩ := unhide x13
  have ef' : (Value.slice a1 n1 c1 = f1) ∧ (Value.slice a2 n2 c2 = f2) := by unfold sgv at ef; injection ef with ef; simp at ef; exact ef.2
  have eg' : (Value.slice a3 n3 c3 = g1) ∧ (Value.slice a4 n4 c4 = g2) := by unfold sgv at eg; injection eg with eg; simp at eg; exact eg.2
  obtain ⟨rfl, rfl⟩ := ef'
  obtain ⟨rfl, rfl⟩ := eg'
  have HX1 := hide (unhide CX1 w13 _ _ rg1 rf1)
  have HX2 := hide (fun (W : World) (h : Below w13.heap.size w13 W) => unhide CX2 W _ _ (rg2.below h) (rf2.below h))
  clear ef eg rf1 rf2 rg1 rg2 r13 x13 CX1 CX2
  go_wp2_with fail
  refine (unhide HX1).mono ?_
  rintro e w14 ⟨rfl, hb14⟩
  have HT14 := HT13.trans (hb14.mono HT13.size)
  have q2 := (P12h.step hb14).cell 2 (v := .slice a4 n4 c4) rfl
  have p2 := (P8h.step hb14).cell 2 (v := .slice a2 n2 c2) rfl
  replace HX2 := hide (unhide HX2 w14 hb14)
  clear hb14 HT13 HX1 q0 q1 p1 P8h P12h
  go_wp2_with fail
  refine (unhide HX2).mono ?_
  rintro e w15 ⟨rfl, hb15⟩
  have HT15 := HT14.trans (hb15.mono HT14.size)
  clear hb15 HT14 HX2 q2 p2
  go_wp2
  go_ret
  exact ⟨rfl, HT15⟩
end Go.Proofs.YtecononlghjepaeGreat

