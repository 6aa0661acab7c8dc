/- Keys of a tree by the given model: whether a signature is right, over the loaded program. -/
import Derived.Test.YtecononlghjepawSig1
import Derived.BigQuiet
namespace Go.Proofs.Ytecononlghjepaw
open Go.RowKit
set_option maxRecDepth 20000 in
set_option maxHeartbeats 800000 in
theorem specSigOk_any (s : Sg) (v : Value) (w : World) (hr : RdSg w v s) (n1 : s.once.length ≤ 2000000) (n2 : s.path.length ≤ 2000000) :
    Calls Try.prog 21 #[v] w fun e w' => e = .returned (.bool (sgOk s)) ∧ Below w.heap.size w w' := by
  obtain ⟨lf, l1, l2⟩ := s
  obtain ⟨v1, v2, rfl, r1, r2, -⟩ := hr
  have C0 := hide (fun W => inb9 lf 0 3 W)
  obtain ⟨a1, c1, rfl, hc1⟩ := r1.open
  obtain ⟨a2, c2, rfl, hc2⟩ := r2.open
  clear r1 r2
  replace hc1 : ∀ k, k < l1.length → ∃ g o, a1 = some ⟨g, o, none⟩ ∧ g < w.heap.size ∧ w.cell? ⟨g, o + k, none⟩ = some (.string (bAt l1 k)) := fun k hk => hc1 k _ (bAt_get l1 k hk)
  replace hc2 : ∀ k, k < l2.length → ∃ g o, a2 = some ⟨g, o, none⟩ ∧ g < w.heap.size ∧ w.cell? ⟨g, o + k, none⟩ = some (.string (bAt l2 k)) := fun k hk => hc2 k _ (bAt_get l2 k hk)
  unfold sgv
  show Calls _ _ #[.agg #[.int .i64 lf, .slice a1 (l1.map sv).length c1, .slice a2 (l2.map sv).length c2]] _ _
  rw [List.length_map, List.length_map]
  by_cases h : 0 ≤ lf ∧ lf ≤ 3
  · rw [decide_eq_true h] at C0
    by_cases h1 : l1.length = 10
    · by_cases h2 : l2.length = 2
      · have E1 := hide (fun (h3 : ∀ k, k < 10 → (bAt l1 k).size = 4) (h4 : ∀ k, k < 2 → (bAt l2 k).size = 4) => show sgOk ⟨lf, l1, l2⟩ = true from sgOk_of ⟨h, h1, h2⟩ (four_bAt (l := l1) fun k hk => h3 k (by omega)) (four_bAt (l := l2) fun k hk => h4 k (by omega)))
        have E2 := hide (fun k (hk : k < 10) (hx : ¬ (bAt l1 k).size = 4) => show sgOk ⟨lf, l1, l2⟩ = false from sgOk_no2 (four_no (l := l1) k (by omega) hx))
        have E3 := hide (fun k (hk : k < 2) (hx : ¬ (bAt l2 k).size = 4) => show sgOk ⟨lf, l1, l2⟩ = false from sgOk_no3 (four_no (l := l2) k (by omega) hx))
        rw [h1] at hc1 ⊢
        rw [h2] at hc2 ⊢
        generalize sgOk ⟨lf, l1, l2⟩ = R at *
        generalize bAt l1 = F1 at *
        generalize bAt l2 = F2 at *
        clear h h1 h2 n1 n2
        go_enter Try.func21, Try.ntmps21
        go_wp2_with fail
        obtain ⟨W, hW, hP, hB, hs1⟩ := one_cb w #[.int .i64 lf, .slice a1 10 c1, .slice a2 2 c2] 28
        rw [hW]
        clear hW
        refine (unhide C0 W).mono ?_
        rintro e w1 ⟨rfl, hw1⟩
        have hw2 := hw1.symm
        subst hw2
        clear hw1 C0
        have p1 := hP.cell 1 (v := .slice a1 10 c1) rfl
        have p2 := hP.cell 2 (v := .slice a2 2 c2) rfl
        replace hP := hide hP
        go_wp2
        go_loopw [3] (fun ti wr => ∃ k : Nat, k ≤ 10 ∧ ti = .int .i64 (k : Int) ∧ Hid (∀ j, j < k → (F1 j).size = 4) ∧ wr = W) (fun ti _ => 10 - (intOf ti).toNat)
        case atStart => exact ⟨0, by omega, rfl, hide (fun j hj => absurd hj (by omega)), rfl⟩
        case round =>
          obtain ⟨k, hk, rfl, HK, hw⟩ := hrel
          have hw' := hw.symm
          subst hw'
          clear hw
          by_cases hlt : k < 10
          · have hk' : (k : Int) < 10 := by omega
            obtain ⟨g, o, rfl, hg, d1⟩ := hc1 k hlt
            replace d1 := (hB.cell (p := ⟨g, o + k, none⟩) hg).trans d1
            by_cases hx : (F1 k).size = 4
            · have HK2 := hide (show ∀ j, j < k + 1 → (F1 j).size = 4 from fun j hj => by
                by_cases e : j = k
                · rw [e]; exact hx
                · exact unhide HK j (by omega))
              generalize F1 k = told at d1 hx
              clear hc1 hc2 HK
              go_wp2
              exact ⟨⟨k + 1, by omega, by go_num, HK2, by first | rfl | trivial⟩, by simp [intOf]; omega⟩
            · have E := hide (unhide E2 k hlt hx)
              have hx' : ¬ ((F1 k).size : Int) = 4 := by omega
              generalize F1 k = told at d1 hx'
              clear hc1 hc2 HK E1 E2 E3 hx
              go_wp2
              go_ret
              exact ⟨by rw [unhide E]; rfl, hB⟩
          · have hk' : ¬ (k : Int) < 10 := by omega
            have HK2 := hide (show ∀ j, j < 10 → (F1 j).size = 4 from fun j hj => unhide HK j (by omega))
            clear hc1 HK
            go_wp2
            go_loopw [4] (fun ti wr => ∃ k : Nat, k ≤ 2 ∧ ti = .int .i64 (k : Int) ∧ Hid (∀ j, j < k → (F2 j).size = 4) ∧ wr = W) (fun ti _ => 2 - (intOf ti).toNat)
            case atStart => exact ⟨0, by omega, rfl, hide (fun j hj => absurd hj (by omega)), rfl⟩
            case round =>
              obtain ⟨k, hk, rfl, HK, hw⟩ := hrel
              have hw' := hw.symm
              subst hw'
              clear hw
              by_cases hlt2 : k < 2
              · have hk2 : (k : Int) < 2 := by omega
                obtain ⟨g, o, rfl, hg, d1⟩ := hc2 k hlt2
                replace d1 := (hB.cell (p := ⟨g, o + k, none⟩) hg).trans d1
                by_cases hx : (F2 k).size = 4
                · have HK3 := hide (show ∀ j, j < k + 1 → (F2 j).size = 4 from fun j hj => by
                    by_cases e : j = k
                    · rw [e]; exact hx
                    · exact unhide HK j (by omega))
                  generalize F2 k = told at d1 hx
                  clear hc2 HK
                  go_wp2
                  exact ⟨⟨k + 1, by omega, by go_num, HK3, by first | rfl | trivial⟩, by simp [intOf]; omega⟩
                · have E := hide (unhide E3 k hlt2 hx)
                  have hx' : ¬ ((F2 k).size : Int) = 4 := by omega
                  generalize F2 k = told at d1 hx'
                  clear hc2 HK E1 E2 E3 hx
                  go_wp2
                  go_ret
                  exact ⟨by rw [unhide E]; rfl, hB⟩
              · have hk2 : ¬ (k : Int) < 2 := by omega
                have E := hide (unhide E1 (unhide HK2) (fun j hj => unhide HK j (by omega)))
                clear hc2 HK HK2 E1 E2 E3
                go_wp2
                go_ret
                exact ⟨by rw [unhide E]; rfl, hB⟩
      · have E := hide (show sgOk ⟨lf, l1, l2⟩ = false from sgOk_no1 fun x => h2 x.2.2)
        rw [unhide E, h1]
        have h2' : ¬ (l2.length : Int) = 2 := by omega
        generalize l2.length = m2 at *
        clear E h hc1 hc2 h2
        go_enter Try.func21, Try.ntmps21
        go_wp2_with fail
        obtain ⟨W, hW, hP, hB, hs1⟩ := one_cb w #[.int .i64 lf, .slice a1 10 c1, .slice a2 m2 c2] 28
        rw [hW]
        clear hW
        refine (unhide C0 W).mono ?_
        rintro e w1 ⟨rfl, hw1⟩
        have hw2 := hw1.symm
        subst hw2
        clear hw1 C0
        have p1 := hP.cell 1 (v := .slice a1 10 c1) rfl
        have p2 := hP.cell 2 (v := .slice a2 m2 c2) rfl
        go_wp2
        go_ret
        exact ⟨rfl, hB⟩
    · have E := hide (show sgOk ⟨lf, l1, l2⟩ = false from sgOk_no1 fun x => h1 x.2.1)
      rw [unhide E]
      have h1' : ¬ (l1.length : Int) = 10 := by omega
      generalize l1.length = m1 at *
      generalize l2.length = m2 at *
      clear E h hc1 hc2 h1
      go_enter Try.func21, Try.ntmps21
      go_wp2_with fail
      obtain ⟨W, hW, hP, hB, hs1⟩ := one_cb w #[.int .i64 lf, .slice a1 m1 c1, .slice a2 m2 c2] 28
      rw [hW]
      clear hW
      refine (unhide C0 W).mono ?_
      rintro e w1 ⟨rfl, hw1⟩
      have hw2 := hw1.symm
      subst hw2
      clear hw1 C0
      have p1 := hP.cell 1 (v := .slice a1 m1 c1) rfl
      go_wp2
      go_ret
      exact ⟨rfl, hB⟩
  · have E := hide (show sgOk ⟨lf, l1, l2⟩ = false from sgOk_no1 fun x => h x.1)
    rw [unhide E]
    rw [decide_eq_false h] at C0
    generalize l1.length = m1 at *
    generalize l2.length = m2 at *
    clear E h hc1 hc2
    go_enter Try.func21, Try.ntmps21
    go_wp2_with fail
    obtain ⟨W, hW, hP, hB, hs1⟩ := one_cb w #[.int .i64 lf, .slice a1 m1 c1, .slice a2 m2 c2] 28
    rw [hW]
    clear hW
    refine (unhide C0 W).mono ?_
    rintro e w1 ⟨rfl, hw1⟩
    have hw2 := hw1.symm
    subst hw2
    clear hw1 C0
    go_wp2
    go_ret
    exact ⟨rfl, hB⟩
theorem same_txt (a b : ByteArray) : (a.toList == b.toList) = decide (a = b) := by
  have e : ∀ x : ByteArray, x.toList = x.data.toList := fun x => ByteArray.toList_eq x
  by_cases h : a = b
  · subst h
    rw [decide_eq_true rfl]
    exact beq_self_eq_true _
  · rw [decide_eq_false h]
    apply beq_false_of_ne
    rw [e, e]
    exact fun h2 => h (ByteArray.ext (Array.toList_inj.1 h2))
theorem sumS_four (l : List ByteArray) (h : ∀ x ∈ l, x.size = 4) : sumS l = 4 * l.length := by
  induction l with
  | nil => rfl
  | cons x xs ih =>
    show x.size + sumS xs = 4 * (xs.length + 1)
    rw [h x (by simp), ih fun y hy => h y (by simp [hy])]
    omega
theorem onceF_size (l : List ByteArray) (leaf : Int) (m : ByteArray) : (onceF l leaf m).size ≤ 4 := by
  unfold onceF
  split
  · rw [chopB_size]; omega
  · show 0 ≤ 4; omega
end Go.Proofs.Ytecononlghjepaw
