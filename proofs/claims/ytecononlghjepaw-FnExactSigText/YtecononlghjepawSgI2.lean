/- Keys of a tree by the project's own functions: whether a signature is right, and its text, over the loaded program. -/
import Derived.Test.YtecononlghjepawSgI1
namespace Go.Proofs.Ytecononlghjepaw
open Go.RowKit
theorem sgOk_parts (lf : Int) (l1 l2 : List ByteArray) : sgOk ⟨lf, l1, l2⟩ = (decide (0 ≤ lf ∧ lf ≤ 3) && (decide (l1.length = 10) && four l1) && (decide (l2.length = 2) && four l2)) := by
  unfold sgOk sgSh
  by_cases h1 : 0 ≤ lf ∧ lf ≤ 3 <;> by_cases h2 : l1.length = 10 <;> by_cases h3 : l2.length = 2 <;> simp [h1, h2, h3]
theorem same_txt16 (a b : ByteArray) : (a.toList == b.toList) = decide (a = b) := by
  have e : ∀ x : ByteArray, x.toList = x.data.toList := fun x => ByteArray.toList_eq x
  by_cases h : a = b
  · subst h
    rw [decide_eq_true rfl]
    exact beq_self_eq_true _
  · rw [decide_eq_false h]
    apply beq_false_of_ne
    rw [e, e]
    exact fun h2 => h (ByteArray.ext (Array.toList_inj.1 h2))
set_option maxRecDepth 20000 in
set_option maxHeartbeats 800000 in
theorem areShorts_any (l : List ByteArray) (n : Nat) (hn : n ≤ 1000) (v : Value) (w : World) (hr : RdV w v (l.map sv)) :
    Calls Try.prog 34 #[v, .int .i64 (n : Int)] w fun e w' => e = .returned (.bool (decide (l.length = n) && four l)) ∧ w' = w := by
  obtain ⟨a, c, rfl, hc⟩ := hr.open
  clear hr
  replace hc : ∀ k, k < l.length → ∃ g o, a = some ⟨g, o, none⟩ ∧ g < w.heap.size ∧ w.cell? ⟨g, o + k, none⟩ = some (.string (bAt l k)) := fun k hk => hc k _ (bAt_get l k hk)
  rw [List.length_map]
  by_cases hl : l.length = n
  · have E1 := hide (fun (h3 : ∀ k, k < n → (bAt l k).size = 4) => show four l = true from four_bAt (l := l) fun k hk => h3 k (by omega))
    have E2 := hide (fun k (hk : k < n) (hx : ¬ (bAt l k).size = 4) => show four l = false from four_no (l := l) k (by omega) hx)
    rw [decide_eq_true hl, Bool.true_and, hl]
    rw [hl] at hc
    generalize four l = R at *
    generalize bAt l = F at *
    replace hc := hide hc
    clear hl
    go_enter Try.func34, Try.ntmps34
    go_wp2
    go_loopw [13] (fun ti wr => ∃ k : Nat, k ≤ n ∧ ti = .int .i64 (k : Int) ∧ Hid (∀ j, j < k → (F j).size = 4) ∧ wr = w) (fun ti _ => n - (intOf ti).toNat)
    case atStart => exact ⟨0, by omega, rfl, hide (fun j hj => by omega), rfl⟩
    case round =>
      obtain ⟨k, hk, rfl, HJ, rfl⟩ := hrel
      by_cases hlt : k < n
      · have hk' : (k : Int) < (n : Int) := by omega
        have hk0 : (0 : Int) ≤ (k : Int) := by omega
        obtain ⟨g, o, rfl, hg, d1⟩ := unhide hc k hlt
        have HX := hide (unhide E2 k hlt)
        have HN := hide (fun (h : (F k).size = 4) j (hj : j < k + 1) => show (F j).size = 4 from by
          by_cases e : j = k
          · subst e; exact h
          · exact unhide HJ j (by omega))
        generalize F k = x at *
        clear hc E1 E2
        by_cases h4 : x.size = 4
        · have h4' : (x.size : Int) = 4 := by omega
          go_wp2
          exact ⟨⟨k + 1, by omega, by go_num, hide (unhide HN h4), by first | rfl | trivial⟩, by simp [intOf]; omega⟩
        · have h4' : ¬ (x.size : Int) = 4 := by omega
          go_wp2
          go_ret
          exact ⟨by rw [unhide HX h4]; rfl, rfl⟩
      · have hk' : ¬ (k : Int) < (n : Int) := by omega
        obtain rfl : k = n := by omega
        have e1 := unhide E1 (unhide HJ)
        subst e1
        clear hc E1 E2 HJ
        go_wp2
        go_ret
        exact ⟨rfl, rfl⟩
  · have hl' : ¬ (l.length : Int) = (n : Int) := by omega
    rw [decide_eq_false hl, Bool.false_and]
    clear hc
    go_enter Try.func34, Try.ntmps34
    go_wp2
    go_ret
    exact ⟨rfl, rfl⟩
set_option maxRecDepth 20000 in
set_option maxHeartbeats 800000 in
theorem implSigOk_any (s : Sg) (v : Value) (w : World) (hr : RdSg w v s) :
    Calls Try.prog 24 #[v] w fun e w' => e = .returned (.bool (sgOk s)) ∧ Below w.heap.size w w' := by
  obtain ⟨lf, l1, l2⟩ := s
  obtain ⟨v1, v2, rfl, r1, r2, q1, q2⟩ := hr
  have C0 := hide (fun W => isLeaf_any lf W)
  have C1 := hide (fun (W : World) (h : Below w.heap.size w W) => areShorts_any l1 10 (by omega) v1 W (r1.below h))
  have C2 := hide (fun (W : World) (h : Below w.heap.size w W) => areShorts_any l2 2 (by omega) v2 W (r2.below h))
  have E := sgOk_parts lf l1 l2
  rw [E]
  obtain ⟨a1, c1, rfl⟩ := r1.shape
  obtain ⟨a2, c2, rfl⟩ := r2.shape
  unfold sgv
  show Calls _ _ #[.agg #[.int .i64 lf, .slice a1 (l1.map sv).length c1, .slice a2 (l2.map sv).length c2]] _ _
  generalize ((Sg.mk lf l1 l2).once.map sv).length = k1 at *
  generalize ((Sg.mk lf l1 l2).path.map sv).length = k2 at *
  generalize (decide (l1.length = 10) && four l1) = b1 at *
  generalize (decide (l2.length = 2) && four l2) = b2 at *
  generalize decide (0 ≤ lf ∧ lf ≤ 3) = b0 at *
  clear r1 r2 q1 q2 E
  go_enter Try.func24, Try.ntmps24
  go_wp2_with fail
  obtain ⟨W, hW, hP, hB, hs1⟩ := one_cb w #[.int .i64 lf, .slice a1 k1 c1, .slice a2 k2 c2] 28
  rw [hW]
  clear hW
  have p0 := hP.cell 0 (v := .int .i64 lf) rfl
  have p1 := hP.cell 1 (v := .slice a1 k1 c1) rfl
  have p2 := hP.cell 2 (v := .slice a2 k2 c2) rfl
  replace C1 := hide (unhide C1 W hB)
  replace C2 := hide (unhide C2 W hB)
  go_wp2_with fail
  refine (unhide C0 W).mono ?_
  rintro e w1 ⟨rfl, hw1⟩
  have hw2 := hw1.symm
  subst hw2
  clear hw1 C0
  cases b0 with
  | false =>
    go_wp2
    go_ret
    exact ⟨rfl, hB⟩
  | true =>
    go_wp2_with fail
    refine (unhide C1).mono ?_
    rintro e w1 ⟨rfl, hw1⟩
    have hw2 := hw1.symm
    subst hw2
    clear hw1
    cases b1 with
    | false =>
      go_wp2
      go_ret
      exact ⟨rfl, hB⟩
    | true =>
      go_wp2_with fail
      refine (unhide C2).mono ?_
      rintro e w1 ⟨rfl, hw1⟩
      have hw2 := hw1.symm
      subst hw2
      clear hw1
      go_wp2
      go_ret
      exact ⟨by cases b2 <;> rfl, hB⟩
theorem cat_data (t : ByteArray) (f : Nat → ByteArray) (k : Nat) : (catT t f k).data.toList = t.data.toList ++ ((List.range k).map fun i => (f i).data.toList).flatten := by
  induction k with
  | zero => simp [catT]
  | succ k ih =>
    show (catT t f k ++ f k).data.toList = _
    rw [ByteArray.data_append, Array.toList_append, ih, List.range_succ, List.map_append, List.flatten_append, List.append_assoc]
    simp
theorem map_bAt {α : Type} (l : List ByteArray) (g : ByteArray → α) : l.map g = (List.range l.length).map fun i => g (bAt l i) := by
  apply List.ext_getElem
  · simp
  · intro i h1 h2
    rw [List.getElem_map, List.getElem_map, List.getElem_range]
    unfold bAt
    rw [List.getD_eq_getElem?_getD, List.getElem?_eq_getElem (by simpa using h1)]
    rfl
theorem cat_two (t : ByteArray) (f : Nat → ByteArray) (k : Nat) : catT t f k = t ++ catT ⟨#[]⟩ f k := by
  apply barr_eq
  rw [cat_data, ByteArray.data_append, Array.toList_append, cat_data]
  rfl
theorem joinS_any (l : List ByteArray) (n : Nat) (hl : l.length = n) (h0 : 0 < n) (hn : n ≤ 100) (v : Value) (w : World) (hr : RdV w v (l.map sv)) (hq : CapV v) (h4 : ∀ x ∈ l, x.size = 4) :
    Calls Try.prog 26 #[v, .string ⟨#[]⟩] w fun e w' => e = .returned (.string (catT ⟨#[]⟩ (bAt l) n)) ∧ Below w.heap.size w w' := by
  obtain ⟨a, c, rfl, hc⟩ := hr.open
  have hcap : (l.map sv).length ≤ c := hq _ _ _ rfl
  obtain ⟨g, o, rfl, hg, -⟩ := hc 0 _ (bAt_get l 0 (by omega))
  have hcells : ∀ (j : Nat) x, l[j]? = some x → w.cell? ⟨g, o + j, none⟩ = some (.string x) := by
    intro j x hj
    obtain ⟨g', o', e, _, h⟩ := hc j (.string x) (by rw [List.getElem?_map, hj]; rfl)
    cases e
    exact h
  have hT : (catT ⟨#[]⟩ (bAt l) n).data.toList = (l.map (·.data.toList)).flatten := by
    rw [cat_data, map_bAt l (·.data.toList), hl]
    rfl
  have hj : (⟨(Lib.join (l.map (·.data.toList)) (⟨#[]⟩ : ByteArray).data.toList).toArray⟩ : ByteArray) = catT ⟨#[]⟩ (bAt l) n := by
    apply barr_eq
    rw [hT]
    exact join_flat _
  have hz : (Lib.join (l.map (·.data.toList)) (⟨#[]⟩ : ByteArray).data.toList).length ≤ 140737488355328 := by
    have e : (Lib.join (l.map (·.data.toList)) (⟨#[]⟩ : ByteArray).data.toList) = (catT ⟨#[]⟩ (bAt l) n).data.toList := by rw [← hj]
    rw [e]
    show (catT ⟨#[]⟩ (bAt l) n).size ≤ _
    rw [catT_size ⟨#[]⟩ (bAt l) n (fun i hi => bAt_four (four_of h4) i (by omega)) n (Nat.le_refl _)]
    show 0 + 4 * n ≤ _
    omega
  have CJ := Try.strings_Join g o c l ⟨#[]⟩ w hcells hg (by omega) (by rw [List.length_map] at hcap; exact hcap) hz
  rw [hj] at CJ
  rw [List.length_map]
  exact CJ
set_option maxRecDepth 20000 in
set_option maxHeartbeats 800000 in
theorem implSigText_any (s : Sg) (v : Value) (w : World) (hr : RdSg w v s) :
    Calls Try.prog 9 #[v] w fun e w' => e = .returned (.tuple #[.string (sgT s), .bool (sgOk s)]) ∧ Below w.heap.size w w' := by
  have C0 := hide (fun (W : World) (h : Below w.heap.size w W) => implSigOk_any s v W (hr.below h))
  obtain ⟨lf, l1, l2⟩ := s
  obtain ⟨v1, v2, rfl, r1, r2, q1, q2⟩ := hr
  cases ho : sgOk ⟨lf, l1, l2⟩ with
  | true =>
    rw [ho] at C0
    have f1 := sgOk_once ho
    have f2 := sgOk_path ho
    obtain ⟨_, k1, k2⟩ := sgOk_shape ho
    have CY := hide (fun (W : World) => implByteY_any lf W)
    have C1 := hide (fun (W : World) (h : Below w.heap.size w W) => joinS_any l1 10 k1 (by omega) (by omega) v1 W (r1.below h) q1 (four_yes f1))
    have C2 := hide (fun (W : World) (h : Below w.heap.size w W) => joinS_any l2 2 k2 (by omega) (by omega) v2 W (r2.below h) q2 (four_yes f2))
    have EC := hide (show sgT ⟨lf, l1, l2⟩ = oneY lf ++ catT ⟨#[]⟩ (bAt l1) 10 ++ catT ⟨#[]⟩ (bAt l2) 2 by rw [sgT_is ho, cat_two _ (bAt l2) 2, cat_two _ (bAt l1) 10])
    rw [unhide EC]
    obtain ⟨a1, c1, rfl⟩ := r1.shape
    obtain ⟨a2, c2, rfl⟩ := r2.shape
    unfold sgv at C0 ⊢
    have hz1 := catT_size ⟨#[]⟩ (bAt l1) 10 (fun i hi => bAt_four f1 i (by have : l1.length = 10 := k1; omega)) 10 (Nat.le_refl _)
    have hz2 := catT_size ⟨#[]⟩ (bAt l2) 2 (fun i hi => bAt_four f2 i (by have : l2.length = 2 := k2; omega)) 2 (Nat.le_refl _)
    have hzy := oneY_size lf
    rw [show (⟨#[]⟩ : ByteArray).size = 0 from rfl] at hz1 hz2
    generalize catT ⟨#[]⟩ (bAt l1) 10 = J1 at *
    generalize catT ⟨#[]⟩ (bAt l2) 2 = J2 at *
    generalize oneY lf = y at *
    clear r1 r2 q1 q2 k1 k2 f1 f2 ho EC
    show Calls _ _ #[.agg #[.int .i64 lf, .slice a1 (l1.map sv).length c1, .slice a2 (l2.map sv).length c2]] _ _
    generalize ((Sg.mk lf l1 l2).once.map sv).length = k1 at *
    generalize ((Sg.mk lf l1 l2).path.map sv).length = k2 at *
    have hz3 : (y ++ J1).size = 41 := by rw [ByteArray.size_append]; omega
    go_enter Try.func9, Try.ntmps9
    go_wp2_with fail
    obtain ⟨W, hW, hP, hB, hs1⟩ := one_cb w #[.int .i64 lf, .slice a1 k1 c1, .slice a2 k2 c2] 28
    rw [hW]
    clear hW
    have p0 := hP.cell 0 (v := .int .i64 lf) rfl
    have p1 := hP.cell 1 (v := .slice a1 k1 c1) rfl
    have p2 := hP.cell 2 (v := .slice a2 k2 c2) rfl
    go_wp2_with fail
    refine (unhide C0 W hB).mono ?_
    rintro e w1 ⟨rfl, hb1⟩
    have hB1 := hB.trans (hb1.mono hB.size)
    have hP1 := hP.step hb1
    clear p0 p1 p2 hb1 hP hs1 C0 hB
    go_wp2_with fail
    have KS := hide (fun (W' : World) (h : Below w1.heap.size w1 W') => (show W'.cell? ⟨w.heap.size, 0, none⟩ = some (.int .i64 lf) ∧ W'.cell? ⟨w.heap.size, 1, none⟩ = some (.slice a1 k1 c1) ∧ W'.cell? ⟨w.heap.size, 2, none⟩ = some (.slice a2 k2 c2) from ⟨(hP1.step h).cell 0 rfl, (hP1.step h).cell 1 rfl, (hP1.step h).cell 2 rfl⟩))
    have C1' := hide (fun (W' : World) (h : Below w1.heap.size w1 W') => unhide C1 W' (hB1.trans (h.mono hB1.size)))
    have C2' := hide (fun (W' : World) (h : Below w1.heap.size w1 W') => unhide C2 W' (hB1.trans (h.mono hB1.size)))
    have HT0 := (Below.refl w1.heap.size w1).drew
    clear C1 C2 hP1
    go_region_held3 (fun W => W.cell? ⟨w.heap.size, 0, none⟩ = some (.int .i64 lf) ∧ W.cell? ⟨w.heap.size, 1, none⟩ = some (.slice a1 k1 c1) ∧ W.cell? ⟨w.heap.size, 2, none⟩ = some (.slice a2 k2 c2)) (first | exact unhide KS _ HT0 | exact unhide KS _ hT4 | exact unhide KS _ hT3 | exact unhide KS _ hT2 | fail) (first
      | (go_at_call 26; refine (unhide C2' _ hT3).mono ?_; rintro e w4 ⟨rfl, hb4⟩; have hT4 := hT3.trans (hb4.mono hT3.size); clear hb4)
      | (go_at_call 26; refine (unhide C1' _ hT2).mono ?_; rintro e w3 ⟨rfl, hb3⟩; have hT3 := hT2.trans (hb3.mono hT2.size); clear hb3)
      | (go_at_call 25; refine (unhide CY _).mono ?_; rintro e w2 ⟨rfl, hb2⟩; have hT2 := HT0.trans (hb2.mono HT0.size); clear hb2))
    all_goals
      have hF := hB1.trans (hT4.mono hB1.size)
      clear C1' C2' KS hT2 hT3 HT0
      go_wp2
      go_ret2
      exact ⟨rfl, hF⟩
  | false =>
    rw [ho] at C0
    have EC := hide (show sgT ⟨lf, l1, l2⟩ = ⟨#[]⟩ by unfold sgT; rw [ho]; rfl)
    rw [unhide EC]
    obtain ⟨a1, c1, rfl⟩ := r1.shape
    obtain ⟨a2, c2, rfl⟩ := r2.shape
    unfold sgv at C0 ⊢
    clear r1 r2 q1 q2 ho EC
    show Calls _ _ #[.agg #[.int .i64 lf, .slice a1 (l1.map sv).length c1, .slice a2 (l2.map sv).length c2]] _ _
    generalize ((Sg.mk lf l1 l2).once.map sv).length = k1 at *
    generalize ((Sg.mk lf l1 l2).path.map sv).length = k2 at *
    go_enter Try.func9, Try.ntmps9
    go_wp2_with fail
    obtain ⟨W, hW, hP, hB, hs1⟩ := one_cb w #[.int .i64 lf, .slice a1 k1 c1, .slice a2 k2 c2] 28
    rw [hW]
    clear hW
    have p0 := hP.cell 0 (v := .int .i64 lf) rfl
    have p1 := hP.cell 1 (v := .slice a1 k1 c1) rfl
    have p2 := hP.cell 2 (v := .slice a2 k2 c2) rfl
    go_wp2_with fail
    refine (unhide C0 W hB).mono ?_
    rintro e w1 ⟨rfl, hb1⟩
    have hB1 := hB.trans (hb1.mono hB.size)
    clear p0 p1 p2 hb1 hP hs1 C0 hB
    go_wp2
    go_ret2
    exact ⟨rfl, hB1⟩
end Go.Proofs.Ytecononlghjepaw
