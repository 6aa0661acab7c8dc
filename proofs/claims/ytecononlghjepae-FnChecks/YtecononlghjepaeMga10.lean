/- Merged: SgI2, SgI3, Sig1, Sig2, Sig3. -/
import Derived.Test.YtecononlghjepaeMga1
import Derived.Test.YtecononlghjepaeMga2
import Derived.Test.YtecononlghjepaeMga3
import Derived.Test.YtecononlghjepaeMga4
import Derived.Test.YtecononlghjepaeMga5
import Derived.Test.YtecononlghjepaeMga6
import Derived.Test.YtecononlghjepaeMga7
import Derived.Test.YtecononlghjepaeMga8
import Derived.Test.YtecononlghjepaeMga9
import Derived.BigQuiet
/- Keys of a tree by the project's own functions: whether a signature is right, and its text, over the loaded program. -/
namespace Go.Proofs.Ytecononlghjepae
open Go.RowKit
theorem sgOk_parts (lf : Int) (l1 l2 : List ByteArray) : sgOk ⟨lf, l1, l2⟩ = (decide (0 ≤ lf ∧ lf ≤ 3) && (decide (l1.length = 10) && four l1) && (decide (l2.length = 2) && four l2)) := by
  unfold sgOk sgSh
  by_cases h1 : 0 ≤ lf ∧ lf ≤ 3 <;> by_cases h2 : l1.length = 10 <;> by_cases h3 : l2.length = 2 <;> simp [h1, h2, h3]
theorem same_txt16 (a b : ByteArray) : (a.toList == b.toList) = decide (a = b) := by
  have e : ∀ x : ByteArray, x.toList = x.data.toList := fun x => ByteArray.toList_eq x
  by_cases h : a = b
  · subst h
    rw [decide_eq_true rfl]
    exact beq_self_eq_true _
  · rw [decide_eq_false h]
    apply beq_false_of_ne
    rw [e, e]
    exact fun h2 => h (ByteArray.ext (Array.toList_inj.1 h2))
set_option maxRecDepth 20000 in
set_option maxHeartbeats 800000 in
theorem areShorts_any (l : List ByteArray) (n : Nat) (hn : n ≤ 1000) (v : Value) (w : World) (hr : RdV w v (l.map sv)) :
    Calls Try.prog 73 #[v, .int .i64 (n : Int)] w fun e w' => e = .returned (.bool (decide (l.length = n) && four l)) ∧ w' = w := by
  obtain ⟨a, c, rfl, hc⟩ := hr.open
  clear hr
  replace hc : ∀ k, k < l.length → ∃ g o, a = some ⟨g, o, none⟩ ∧ g < w.heap.size ∧ w.cell? ⟨g, o + k, none⟩ = some (.string (bAt l k)) := fun k hk => hc k _ (bAt_get l k hk)
  rw [List.length_map]
  by_cases hl : l.length = n
  · have E1 := hide (fun (h3 : ∀ k, k < n → (bAt l k).size = 4) => show four l = true from four_bAt (l := l) fun k hk => h3 k (by omega))
    have E2 := hide (fun k (hk : k < n) (hx : ¬ (bAt l k).size = 4) => show four l = false from four_no (l := l) k (by omega) hx)
    rw [decide_eq_true hl, Bool.true_and, hl]
    rw [hl] at hc
    generalize four l = R at *
    generalize bAt l = F at *
    replace hc := hide hc
    clear hl
    go_enter Try.func73, Try.ntmps73
    go_wp2
    go_loopw [13] (fun ti wr => ∃ k : Nat, k ≤ n ∧ ti = .int .i64 (k : Int) ∧ Hid (∀ j, j < k → (F j).size = 4) ∧ wr = w) (fun ti _ => n - (intOf ti).toNat)
    case atStart => exact ⟨0, by omega, rfl, hide (fun j hj => by omega), rfl⟩
    case round =>
      obtain ⟨k, hk, rfl, HJ, rfl⟩ := hrel
      by_cases hlt : k < n
      · have hk' : (k : Int) < (n : Int) := by omega
        have hk0 : (0 : Int) ≤ (k : Int) := by omega
        obtain ⟨g, o, rfl, hg, d1⟩ := unhide hc k hlt
        have HX := hide (unhide E2 k hlt)
        have HN := hide (fun (h : (F k).size = 4) j (hj : j < k + 1) => show (F j).size = 4 from by
          by_cases e : j = k
          · subst e; exact h
          · exact unhide HJ j (by omega))
        generalize F k = x at *
        clear hc E1 E2
        by_cases h4 : x.size = 4
        · have h4' : (x.size : Int) = 4 := by omega
          go_wp2
          exact ⟨⟨k + 1, by omega, by go_num, hide (unhide HN h4), by first | rfl | trivial⟩, by simp [intOf]; omega⟩
        · have h4' : ¬ (x.size : Int) = 4 := by omega
          go_wp2
          go_ret
          exact ⟨by rw [unhide HX h4]; rfl, rfl⟩
      · have hk' : ¬ (k : Int) < (n : Int) := by omega
        obtain rfl : k = n := by omega
        have e1 := unhide E1 (unhide HJ)
        subst e1
        clear hc E1 E2 HJ
        go_wp2
        go_ret
        exact ⟨rfl, rfl⟩
  · have hl' : ¬ (l.length : Int) = (n : Int) := by omega
    rw [decide_eq_false hl, Bool.false_and]
    clear hc
    go_enter Try.func73, Try.ntmps73
    go_wp2
    go_ret
    exact ⟨rfl, rfl⟩
set_option maxRecDepth 20000 in
set_option maxHeartbeats 800000 in
theorem implSigOk_any (s : Sg) (v : Value) (w : World) (hr : RdSg w v s) :
    Calls Try.prog 36 #[v] w fun e w' => e = .returned (.bool (sgOk s)) ∧ Below w.heap.size w w' := by
  obtain ⟨lf, l1, l2⟩ := s
  obtain ⟨v1, v2, rfl, r1, r2, q1, q2⟩ := hr
  have C0 := hide (fun W => isLeaf_any lf W)
  have C1 := hide (fun (W : World) (h : Below w.heap.size w W) => areShorts_any l1 10 (by omega) v1 W (r1.below h))
  have C2 := hide (fun (W : World) (h : Below w.heap.size w W) => areShorts_any l2 2 (by omega) v2 W (r2.below h))
  have E := sgOk_parts lf l1 l2
  rw [E]
  obtain ⟨a1, c1, rfl⟩ := r1.shape
  obtain ⟨a2, c2, rfl⟩ := r2.shape
  unfold sgv
  show Calls _ _ #[.agg #[.int .i64 lf, .slice a1 (l1.map sv).length c1, .slice a2 (l2.map sv).length c2]] _ _
  generalize ((Sg.mk lf l1 l2).once.map sv).length = k1 at *
  generalize ((Sg.mk lf l1 l2).path.map sv).length = k2 at *
  generalize (decide (l1.length = 10) && four l1) = b1 at *
  generalize (decide (l2.length = 2) && four l2) = b2 at *
  generalize decide (0 ≤ lf ∧ lf ≤ 3) = b0 at *
  clear r1 r2 q1 q2 E
  go_enter Try.func36, Try.ntmps36
  go_wp2_with fail
  obtain ⟨W, hW, hP, hB, hs1⟩ := one_cb w #[.int .i64 lf, .slice a1 k1 c1, .slice a2 k2 c2] 48
  rw [hW]
  clear hW
  have p0 := hP.cell 0 (v := .int .i64 lf) rfl
  have p1 := hP.cell 1 (v := .slice a1 k1 c1) rfl
  have p2 := hP.cell 2 (v := .slice a2 k2 c2) rfl
  replace C1 := hide (unhide C1 W hB)
  replace C2 := hide (unhide C2 W hB)
  go_wp2_with fail
  refine (unhide C0 W).mono ?_
  rintro e w1 ⟨rfl, hw1⟩
  have hw2 := hw1.symm
  subst hw2
  clear hw1 C0
  cases b0 with
  | false =>
    go_wp2
    go_ret
    exact ⟨rfl, hB⟩
  | true =>
    go_wp2_with fail
    refine (unhide C1).mono ?_
    rintro e w1 ⟨rfl, hw1⟩
    have hw2 := hw1.symm
    subst hw2
    clear hw1
    cases b1 with
    | false =>
      go_wp2
      go_ret
      exact ⟨rfl, hB⟩
    | true =>
      go_wp2_with fail
      refine (unhide C2).mono ?_
      rintro e w1 ⟨rfl, hw1⟩
      have hw2 := hw1.symm
      subst hw2
      clear hw1
      go_wp2
      go_ret
      exact ⟨by cases b2 <;> rfl, hB⟩
set_option maxRecDepth 20000 in
set_option maxHeartbeats 800000 in
theorem implCheckSig_any (p m : ByteArray) (s : Sg) (v : Value) (w : World) (hr : RdSg w v s) (hm : m.size ≤ 1048576) :
    Calls Try.prog 34 #[.string p, .string m, v] w fun e w' => e = .returned (.bool (chkB p m s)) ∧ Below w.heap.size w w' := by
  have C0 := hide (fun (W : World) (h : Below w.heap.size w W) => implSigOk_any s v W (hr.below h))
  obtain ⟨lf, l1, l2⟩ := s
  obtain ⟨v1, v2, rfl, r1, r2, q1, q2⟩ := hr
  cases ho : sgOk ⟨lf, l1, l2⟩ with
  | true =>
    rw [ho] at C0
    have f1 := sgOk_once ho
    have f2 := sgOk_path ho
    obtain ⟨_, k1, k2⟩ := sgOk_shape ho
    have hF : (onceF l1 lf m).size ≤ 4 := by
      unfold onceF
      rw [if_pos (show l1.length = 10 from k1), chopB_size]
      exact Nat.le_refl _
    have C1 := hide (fun (W : World) (h : Below w.heap.size w W) => implOnceFound_any l1 lf m v1 W (r1.below h) (by rw [sum_four16 l1 (four_yes f1)]; have : l1.length = 10 := k1; omega) (by omega))
    have C2 := hide (fun (W : World) (h : Below w.heap.size w W) => implRootBy_any (onceF l1 lf m) lf l2 v2 W (by omega) (r2.below h) (fun x hx => by rw [four_yes f2 x hx]; omega))
    have EC := hide (show chkB p m ⟨lf, l1, l2⟩ = decide (rootBy (onceF l1 lf m) lf l2 = p) by unfold chkB fndB; rw [ho]; rfl)
    rw [unhide EC]
    obtain ⟨a1, c1, rfl⟩ := r1.shape
    obtain ⟨a2, c2, rfl⟩ := r2.shape
    unfold sgv at C0 ⊢
    clear hF
    generalize onceF l1 lf m = fo at *
    generalize rootBy fo lf l2 = ro at *
    clear r1 r2 q1 q2 k1 k2 f1 f2 ho EC
    show Calls _ _ #[_, _, .agg #[.int .i64 lf, .slice a1 (l1.map sv).length c1, .slice a2 (l2.map sv).length c2]] _ _
    generalize ((Sg.mk lf l1 l2).once.map sv).length = k1 at *
    generalize ((Sg.mk lf l1 l2).path.map sv).length = k2 at *
    go_enter Try.func34, Try.ntmps34
    go_wp2_with fail
    obtain ⟨W, hW, hP, hB, hs1⟩ := one_cb w #[.int .i64 lf, .slice a1 k1 c1, .slice a2 k2 c2] 48
    rw [hW]
    clear hW
    have p0 := hP.cell 0 (v := .int .i64 lf) rfl
    have p1 := hP.cell 1 (v := .slice a1 k1 c1) rfl
    have p2 := hP.cell 2 (v := .slice a2 k2 c2) rfl
    go_wp2_with fail
    refine (unhide C0 W hB).mono ?_
    rintro e w1 ⟨rfl, hb1⟩
    have hB1 := hB.trans (hb1.mono hB.size)
    have hP1 := hP.step hb1
    clear p0 p1 p2 hb1 hP hs1 C0 hB
    go_wp2_with fail
    have KS := hide (fun (W' : World) (h : Below w1.heap.size w1 W') => (show W'.cell? ⟨w.heap.size, 0, none⟩ = some (.int .i64 lf) ∧ W'.cell? ⟨w.heap.size, 1, none⟩ = some (.slice a1 k1 c1) ∧ W'.cell? ⟨w.heap.size, 2, none⟩ = some (.slice a2 k2 c2) from ⟨(hP1.step h).cell 0 rfl, (hP1.step h).cell 1 rfl, (hP1.step h).cell 2 rfl⟩))
    have C1' := hide (fun (W' : World) (h : Below w1.heap.size w1 W') => unhide C1 W' (hB1.trans (h.mono hB1.size)))
    have C2' := hide (fun (W' : World) (h : Below w1.heap.size w1 W') => unhide C2 W' (hB1.trans (h.mono hB1.size)))
    have HT0 := (Below.refl w1.heap.size w1).drew
    clear C1 C2 hP1
    go_region_held3 (fun W => W.cell? ⟨w.heap.size, 0, none⟩ = some (.int .i64 lf) ∧ W.cell? ⟨w.heap.size, 1, none⟩ = some (.slice a1 k1 c1) ∧ W.cell? ⟨w.heap.size, 2, none⟩ = some (.slice a2 k2 c2)) (first | exact unhide KS _ HT0 | exact unhide KS _ hT2 | exact unhide KS _ hT3 | fail) (first
      | (go_at_call 22; refine (unhide C1' _ HT0).mono ?_; rintro e w2 ⟨rfl, hb2⟩; have hT2 := HT0.trans (hb2.mono HT0.size); clear hb2)
      | (go_at_call 29; refine (unhide C2' _ hT2).mono ?_; rintro e w3 ⟨rfl, hb3⟩; have hT3 := hT2.trans (hb3.mono hT2.size); clear hb3))
    all_goals
      have hF := hB1.trans (hT3.mono hB1.size)
      clear C1' C2' KS hT2 HT0
      go_wp2
      go_ret
      exact ⟨by show Ending.returned (.bool (ro.toList == p.toList)) = _; rw [same_txt16], hF⟩
  | false =>
    rw [ho] at C0
    have EC := hide (show chkB p m ⟨lf, l1, l2⟩ = false by unfold chkB; rw [ho]; rfl)
    rw [unhide EC]
    obtain ⟨a1, c1, rfl⟩ := r1.shape
    obtain ⟨a2, c2, rfl⟩ := r2.shape
    unfold sgv at C0 ⊢
    clear r1 r2 q1 q2 ho EC
    show Calls _ _ #[_, _, .agg #[.int .i64 lf, .slice a1 (l1.map sv).length c1, .slice a2 (l2.map sv).length c2]] _ _
    generalize ((Sg.mk lf l1 l2).once.map sv).length = k1 at *
    generalize ((Sg.mk lf l1 l2).path.map sv).length = k2 at *
    go_enter Try.func34, Try.ntmps34
    go_wp2_with fail
    obtain ⟨W, hW, hP, hB, hs1⟩ := one_cb w #[.int .i64 lf, .slice a1 k1 c1, .slice a2 k2 c2] 48
    rw [hW]
    clear hW
    have p0 := hP.cell 0 (v := .int .i64 lf) rfl
    have p1 := hP.cell 1 (v := .slice a1 k1 c1) rfl
    have p2 := hP.cell 2 (v := .slice a2 k2 c2) rfl
    go_wp2_with fail
    refine (unhide C0 W hB).mono ?_
    rintro e w1 ⟨rfl, hb1⟩
    have hB1 := hB.trans (hb1.mono hB.size)
    clear p0 p1 p2 hb1 hP hs1 C0 hB
    go_wp2
    go_ret
    exact ⟨rfl, hB1⟩
theorem cat_data (t : ByteArray) (f : Nat → ByteArray) (k : Nat) : (catT t f k).data.toList = t.data.toList ++ ((List.range k).map fun i => (f i).data.toList).flatten := by
  induction k with
  | zero => simp [catT]
  | succ k ih =>
    show (catT t f k ++ f k).data.toList = _
    rw [ByteArray.data_append, Array.toList_append, ih, List.range_succ, List.map_append, List.flatten_append, List.append_assoc]
    simp
theorem map_bAt {α : Type} (l : List ByteArray) (g : ByteArray → α) : l.map g = (List.range l.length).map fun i => g (bAt l i) := by
  apply List.ext_getElem
  · simp
  · intro i h1 h2
    rw [List.getElem_map, List.getElem_map, List.getElem_range]
    unfold bAt
    rw [List.getD_eq_getElem?_getD, List.getElem?_eq_getElem (by simpa using h1)]
    rfl
theorem cat_two (t : ByteArray) (f : Nat → ByteArray) (k : Nat) : catT t f k = t ++ catT ⟨#[]⟩ f k := by
  apply barr_eq
  rw [cat_data, ByteArray.data_append, Array.toList_append, cat_data]
  rfl
theorem joinS_any (l : List ByteArray) (n : Nat) (hl : l.length = n) (h0 : 0 < n) (hn : n ≤ 100) (v : Value) (w : World) (hr : RdV w v (l.map sv)) (hq : CapV v) (h4 : ∀ x ∈ l, x.size = 4) :
    Calls Try.prog 78 #[v, .string ⟨#[]⟩] w fun e w' => e = .returned (.string (catT ⟨#[]⟩ (bAt l) n)) ∧ Below w.heap.size w w' := by
  obtain ⟨a, c, rfl, hc⟩ := hr.open
  have hcap : (l.map sv).length ≤ c := hq _ _ _ rfl
  obtain ⟨g, o, rfl, hg, -⟩ := hc 0 _ (bAt_get l 0 (by omega))
  have hcells : ∀ (j : Nat) x, l[j]? = some x → w.cell? ⟨g, o + j, none⟩ = some (.string x) := by
    intro j x hj
    obtain ⟨g', o', e, _, h⟩ := hc j (.string x) (by rw [List.getElem?_map, hj]; rfl)
    cases e
    exact h
  have hT : (catT ⟨#[]⟩ (bAt l) n).data.toList = (l.map (·.data.toList)).flatten := by
    rw [cat_data, map_bAt l (·.data.toList), hl]
    rfl
  have hj : (⟨(Lib.join (l.map (·.data.toList)) (⟨#[]⟩ : ByteArray).data.toList).toArray⟩ : ByteArray) = catT ⟨#[]⟩ (bAt l) n := by
    apply barr_eq
    rw [hT]
    exact join_flat _
  have hz : (Lib.join (l.map (·.data.toList)) (⟨#[]⟩ : ByteArray).data.toList).length ≤ 140737488355328 := by
    have e : (Lib.join (l.map (·.data.toList)) (⟨#[]⟩ : ByteArray).data.toList) = (catT ⟨#[]⟩ (bAt l) n).data.toList := by rw [← hj]
    rw [e]
    show (catT ⟨#[]⟩ (bAt l) n).size ≤ _
    rw [catT_size ⟨#[]⟩ (bAt l) n (fun i hi => bAt_four (four_of h4) i (by omega)) n (Nat.le_refl _)]
    show 0 + 4 * n ≤ _
    omega
  have CJ := Try.strings_Join g o c l ⟨#[]⟩ w hcells hg (by omega) (by rw [List.length_map] at hcap; exact hcap) hz
  rw [hj] at CJ
  rw [List.length_map]
  exact CJ
set_option maxRecDepth 20000 in
set_option maxHeartbeats 800000 in
theorem implSigText_any (s : Sg) (v : Value) (w : World) (hr : RdSg w v s) :
    Calls Try.prog 41 #[v] w fun e w' => e = .returned (.tuple #[.string (sgT s), .bool (sgOk s)]) ∧ Below w.heap.size w w' := by
  have C0 := hide (fun (W : World) (h : Below w.heap.size w W) => implSigOk_any s v W (hr.below h))
  obtain ⟨lf, l1, l2⟩ := s
  obtain ⟨v1, v2, rfl, r1, r2, q1, q2⟩ := hr
  cases ho : sgOk ⟨lf, l1, l2⟩ with
  | true =>
    rw [ho] at C0
    have f1 := sgOk_once ho
    have f2 := sgOk_path ho
    obtain ⟨_, k1, k2⟩ := sgOk_shape ho
    have CY := hide (fun (W : World) => implByteY_any lf W)
    have C1 := hide (fun (W : World) (h : Below w.heap.size w W) => joinS_any l1 10 k1 (by omega) (by omega) v1 W (r1.below h) q1 (four_yes f1))
    have C2 := hide (fun (W : World) (h : Below w.heap.size w W) => joinS_any l2 2 k2 (by omega) (by omega) v2 W (r2.below h) q2 (four_yes f2))
    have EC := hide (show sgT ⟨lf, l1, l2⟩ = oneY lf ++ catT ⟨#[]⟩ (bAt l1) 10 ++ catT ⟨#[]⟩ (bAt l2) 2 by rw [sgT_is ho, cat_two _ (bAt l2) 2, cat_two _ (bAt l1) 10])
    rw [unhide EC]
    obtain ⟨a1, c1, rfl⟩ := r1.shape
    obtain ⟨a2, c2, rfl⟩ := r2.shape
    unfold sgv at C0 ⊢
    have hz1 := catT_size ⟨#[]⟩ (bAt l1) 10 (fun i hi => bAt_four f1 i (by have : l1.length = 10 := k1; omega)) 10 (Nat.le_refl _)
    have hz2 := catT_size ⟨#[]⟩ (bAt l2) 2 (fun i hi => bAt_four f2 i (by have : l2.length = 2 := k2; omega)) 2 (Nat.le_refl _)
    have hzy := oneY_size lf
    rw [show (⟨#[]⟩ : ByteArray).size = 0 from rfl] at hz1 hz2
    generalize catT ⟨#[]⟩ (bAt l1) 10 = J1 at *
    generalize catT ⟨#[]⟩ (bAt l2) 2 = J2 at *
    generalize oneY lf = y at *
    clear r1 r2 q1 q2 k1 k2 f1 f2 ho EC
    show Calls _ _ #[.agg #[.int .i64 lf, .slice a1 (l1.map sv).length c1, .slice a2 (l2.map sv).length c2]] _ _
    generalize ((Sg.mk lf l1 l2).once.map sv).length = k1 at *
    generalize ((Sg.mk lf l1 l2).path.map sv).length = k2 at *
    have hz3 : (y ++ J1).size = 41 := by rw [ByteArray.size_append]; omega
    go_enter Try.func41, Try.ntmps41
    go_wp2_with fail
    obtain ⟨W, hW, hP, hB, hs1⟩ := one_cb w #[.int .i64 lf, .slice a1 k1 c1, .slice a2 k2 c2] 48
    rw [hW]
    clear hW
    have p0 := hP.cell 0 (v := .int .i64 lf) rfl
    have p1 := hP.cell 1 (v := .slice a1 k1 c1) rfl
    have p2 := hP.cell 2 (v := .slice a2 k2 c2) rfl
    go_wp2_with fail
    refine (unhide C0 W hB).mono ?_
    rintro e w1 ⟨rfl, hb1⟩
    have hB1 := hB.trans (hb1.mono hB.size)
    have hP1 := hP.step hb1
    clear p0 p1 p2 hb1 hP hs1 C0 hB
    go_wp2_with fail
    have KS := hide (fun (W' : World) (h : Below w1.heap.size w1 W') => (show W'.cell? ⟨w.heap.size, 0, none⟩ = some (.int .i64 lf) ∧ W'.cell? ⟨w.heap.size, 1, none⟩ = some (.slice a1 k1 c1) ∧ W'.cell? ⟨w.heap.size, 2, none⟩ = some (.slice a2 k2 c2) from ⟨(hP1.step h).cell 0 rfl, (hP1.step h).cell 1 rfl, (hP1.step h).cell 2 rfl⟩))
    have C1' := hide (fun (W' : World) (h : Below w1.heap.size w1 W') => unhide C1 W' (hB1.trans (h.mono hB1.size)))
    have C2' := hide (fun (W' : World) (h : Below w1.heap.size w1 W') => unhide C2 W' (hB1.trans (h.mono hB1.size)))
    have HT0 := (Below.refl w1.heap.size w1).drew
    clear C1 C2 hP1
    go_region_held3 (fun W => W.cell? ⟨w.heap.size, 0, none⟩ = some (.int .i64 lf) ∧ W.cell? ⟨w.heap.size, 1, none⟩ = some (.slice a1 k1 c1) ∧ W.cell? ⟨w.heap.size, 2, none⟩ = some (.slice a2 k2 c2)) (first | exact unhide KS _ HT0 | exact unhide KS _ hT4 | exact unhide KS _ hT3 | exact unhide KS _ hT2 | fail) (first
      | (go_at_call 78; refine (unhide C2' _ hT3).mono ?_; rintro e w4 ⟨rfl, hb4⟩; have hT4 := hT3.trans (hb4.mono hT3.size); clear hb4)
      | (go_at_call 78; refine (unhide C1' _ hT2).mono ?_; rintro e w3 ⟨rfl, hb3⟩; have hT3 := hT2.trans (hb3.mono hT2.size); clear hb3)
      | (go_at_call 60; refine (unhide CY _).mono ?_; rintro e w2 ⟨rfl, hb2⟩; have hT2 := HT0.trans (hb2.mono HT0.size); clear hb2))
    all_goals
      have hF := hB1.trans (hT4.mono hB1.size)
      clear C1' C2' KS hT2 hT3 HT0
      go_wp2
      go_ret2
      exact ⟨rfl, hF⟩
  | false =>
    rw [ho] at C0
    have EC := hide (show sgT ⟨lf, l1, l2⟩ = ⟨#[]⟩ by unfold sgT; rw [ho]; rfl)
    rw [unhide EC]
    obtain ⟨a1, c1, rfl⟩ := r1.shape
    obtain ⟨a2, c2, rfl⟩ := r2.shape
    unfold sgv at C0 ⊢
    clear r1 r2 q1 q2 ho EC
    show Calls _ _ #[.agg #[.int .i64 lf, .slice a1 (l1.map sv).length c1, .slice a2 (l2.map sv).length c2]] _ _
    generalize ((Sg.mk lf l1 l2).once.map sv).length = k1 at *
    generalize ((Sg.mk lf l1 l2).path.map sv).length = k2 at *
    go_enter Try.func41, Try.ntmps41
    go_wp2_with fail
    obtain ⟨W, hW, hP, hB, hs1⟩ := one_cb w #[.int .i64 lf, .slice a1 k1 c1, .slice a2 k2 c2] 48
    rw [hW]
    clear hW
    have p0 := hP.cell 0 (v := .int .i64 lf) rfl
    have p1 := hP.cell 1 (v := .slice a1 k1 c1) rfl
    have p2 := hP.cell 2 (v := .slice a2 k2 c2) rfl
    go_wp2_with fail
    refine (unhide C0 W hB).mono ?_
    rintro e w1 ⟨rfl, hb1⟩
    have hB1 := hB.trans (hb1.mono hB.size)
    clear p0 p1 p2 hb1 hP hs1 C0 hB
    go_wp2
    go_ret2
    exact ⟨rfl, hB1⟩
end Go.Proofs.Ytecononlghjepae

/- Keys of a tree by the project's own functions: a signature that is made, and one that is read, over the loaded program. -/
namespace Go.Proofs.Ytecononlghjepae
open Go.RowKit
theorem cutI16 (T : ByteArray) (i j : Nat) (w : World) (h1 : i ≤ j) (h2 : j ≤ T.size) : (Instr.slice 9 (.string T) (some (.int .i64 (i : Int))) (some (.int .i64 (j : Int))) none).run Try.prog w = .ok (.string (T.extract i j)) w := by
  rw [run_slice_string_if w 9 T .i64 .i64 (i : Int) (j : Int) Try.underlying9, if_pos (by omega), if_pos (by omega)]
  rfl
def prI (f : Nat → ByteArray) (k : Nat) : List ByteArray := (List.range k).map f
theorem prI_len (f : Nat → ByteArray) (k : Nat) : (prI f k).length = k := by unfold prI; rw [List.length_map, List.length_range]
theorem prI_succ (f : Nat → ByteArray) (k : Nat) : prI f (k + 1) = prI f k ++ [f k] := by unfold prI; rw [List.range_succ, List.map_append]; rfl
set_option maxRecDepth 20000 in
set_option maxHeartbeats 800000 in
theorem shortsOf_any (t : ByteArray) (n : Nat) (ht : t.size = 4 * n) (hn : n ≤ 1000) (F : Nat → ByteArray) (hF : ∀ k, k < n → t.extract (k * 4) (k * 4 + 4) = F k) (w : World) :
    Calls Try.prog 77 #[.string t] w fun e w' => (∃ v, e = .returned v ∧ OwnV w' w.heap.size 9 v ((prI F n).map sv)) ∧ Below w.heap.size w w' := by
  obtain ⟨i0, hi, hz0, hz1, hz2⟩ := info_parts infoTxt
  have v1' : (t.size : Int) / 4 = (n : Int) := by omega
  have v1 : (t.size : Int).tdiv 4 = (n : Int) := by rw [Int.tdiv_eq_ediv_of_nonneg (by omega)]; omega
  have HS := hide (fun k (hk : k < n) (W : World) => show (Instr.slice 9 (.string t) (some (.int .i64 ((k * 4 : Nat) : Int))) (some (.int .i64 ((k * 4 + 4 : Nat) : Int))) none).run Try.prog W = .ok (.string (F k)) W by rw [cutI16 t (k * 4) (k * 4 + 4) W (by omega) (by omega), hF k hk])
  have HC := hide (fun k (hk : k < n) (W : World) => stringsClone14_any (F k) W (by rw [← hF k hk, ByteArray.size_extract]; omega))
  clear hF
  go_enter Try.func77, Try.ntmps77
  go_wp2_with (at_make; refine wpList_make_own _ rfl _ _ 33 rfl w.heap.size 9 i0 (.string ⟨#[]⟩) 1 Try.underlying33 hi hz0 hz1 _ _ _ n rfl rfl (by omega) (by rw [hz2]; omega) (by unfold maxLen; omega) (Nat.le_refl _) ?_; intro w1 hown1 hgrow1)
  have hb1 : Below w.heap.size w w1 := (Below.refl _ _).grown hgrow1 (Nat.le_refl _) (fun k hk => by cases hk)
  have hown0 : OwnV w1 w.heap.size 9 (.slice (some ⟨w.heap.size, 0, none⟩) 0 n) ((prI F 0).map sv) := hown1
  clear hown1 hgrow1
  go_loopw [3, 4] (fun tv ti wr => ∃ k m : Nat, k ≤ n ∧ m = k * 4 ∧ ti = .int .i64 (m : Int) ∧ Hid (OwnV wr w.heap.size 9 tv ((prI F k).map sv)) ∧ Below w.heap.size w wr) (fun _ ti _ => 4 * n - (intOf ti).toNat)
  case atStart => exact ⟨0, 0, by omega, rfl, rfl, hide hown0, hb1⟩
  case round =>
    clear hown0 hb1
    obtain ⟨k, m, hk, hm, rfl, HO, hB⟩ := hrel
    by_cases hlt : k < n
    · have hk' : (m : Int) < (t.size : Int) := by omega
      obtain ⟨m4, hm4⟩ : ∃ m4, m4 = k * 4 + 4 := ⟨_, rfl⟩
      have t1 : IntKind.i64.wrap ((m : Int) + 4) = (m4 : Int) := by rw [IntKind.wrap_i64]; omega
      have hsl := unhide HS k hlt
      have hcl := hide (unhide HC k hlt)
      rw [← hm4, ← hm] at hsl
      have HP := hide (prI_succ F k)
      have hpl : ((prI F k).map sv).length ≤ 1000 := by rw [List.length_map, prI_len]; omega
      generalize F k = x at *
      have hmm := hide hm
      have hmm4 := hide hm4
      have hlt4 : m4 ≤ 4 * n := by omega
      have hm5 : m < m4 := by omega
      clear HS HC hm hm4
      replace hpl := hide hpl
      go_wp2_with fail
      refine (unhide hcl wr).mono ?_
      rintro e w3 ⟨rfl, hb3⟩
      have hB3 := hB.trans (hb3.mono hB.size)
      have HO3 := hide ((unhide HO).below hb3)
      have hsz3 := hB3.size
      clear hb3 hB hcl HO
      go_wp2_with (at_builtin; refine wpList_append_val (w := w3) rfl (.tmp 15) (.tmp 22) 33 rfl w.heap.size 9 i0 (.string ⟨#[]⟩) 16 Try.underlying33 hi hz0 hz1 hz2 rfl u3 _ (by rfl) (unhide HO3) (.string x) rfl (by rfl) (unhide hpl) (by decide) hB3 (Nat.le_refl _) hsz3 ?_; intro v' w8 ho8 hB8)
      have ho9 := hide (show OwnV w8 w.heap.size 9 v' ((prI F (k + 1)).map sv) by rw [unhide HP, List.map_append]; exact ho8)
      clear ho8 HO3 HP hsl
      go_wp2
      exact ⟨⟨k + 1, m4, by omega, by rw [unhide hmm4]; omega, rfl, ho9, hB8⟩, by simp [intOf]; omega⟩
    · have hk' : ¬ (m : Int) < (t.size : Int) := by omega
      obtain rfl : k = n := by omega
      clear HS HC
      go_wp2
      go_ret
      exact ⟨⟨_, rfl, unhide HO⟩, hB⟩
set_option maxRecDepth 20000 in
set_option maxHeartbeats 800000 in
theorem implReadSig_any (t : ByteArray) (w : World) :
    Calls Try.prog 39 #[.string t] w fun e w' => (∃ v, e = .returned (.tuple #[v, .bool (rdOk t)]) ∧ OwnSg w' w.heap.size v (rdS t)) ∧ Below w.heap.size w w' := by
  by_cases h49 : t.size = 49
  · have h49' : (t.size : Int) = 49 := by omega
    have hix : ∀ h : 0 < t.size, (t[0]'h).toNat = byA t 0 := fun h => byA_at t 0 h
    have hbl := byA_lt t 0
    obtain ⟨b, hb⟩ : ∃ b, b = byA t 0 := ⟨_, rfl⟩
    rw [← hb] at hix hbl
    have q0 : IntKind.i64.wrap (b : Int) = (b : Int) := by rw [IntKind.wrap_i64]; omega
    have h0s : 0 < t.size := by omega
    have h1t := fun (W : World) => run_slice_string_l W 9 t Try.underlying9 .i64 1 (by omega) (by omega)
    have C0 := hide (fun W => isLeaf_any (b : Int) W)
    obtain ⟨T, hT⟩ : ∃ T, T = t.extract 1 49 := ⟨_, rfl⟩
    have hTs : T.size = 48 := by rw [hT, ByteArray.size_extract]; omega
    by_cases h4 : b < 4
    · have hin : rdIn t := ⟨h49, by omega⟩
      have ER := hide (show rdS t = ⟨(b : Int), prI (prtB t) 10, prI (fun i => prtB t (10 + i)) 2⟩ by unfold rdS; rw [if_pos (rdOk_of hin), hb]; rfl)
      rw [unhide ER, rdOk_of hin]
      rw [decide_eq_true (show 0 ≤ (b : Int) ∧ (b : Int) ≤ 3 by omega)] at C0
      have C1 := hide (fun W => shortsOf_any (T.extract 0 40) 10 (by rw [ByteArray.size_extract]; omega) (by omega) (prtB t) (fun k hk => by
        unfold prtB
        rw [hT, ByteArray.extract_extract, ByteArray.extract_extract]
        congr 1 <;> omega) W)
      have C2 := hide (fun W => shortsOf_any (T.extract 40 T.size) 2 (by rw [ByteArray.size_extract]; omega) (by omega) (fun i => prtB t (10 + i)) (fun k hk => by
        unfold prtB
        rw [hTs, hT, ByteArray.extract_extract, ByteArray.extract_extract]
        congr 1 <;> omega) W)
      generalize prI (prtB t) 10 = L1 at *
      generalize prI (fun i => prtB t (10 + i)) 2 = L2 at *
      have hc1 : ∀ W : World, (Instr.slice 9 (.string T) none (some (.int .i64 40)) none).run Try.prog W = .ok (.string (T.extract 0 40)) W := fun W => run_slice_string_h W 9 T Try.underlying9 .i64 40 (by omega) (by omega)
      have hc2 : ∀ W : World, (Instr.slice 9 (.string T) (some (.int .i64 40)) none none).run Try.prog W = .ok (.string (T.extract 40 T.size)) W := fun W => run_slice_string_l W 9 T Try.underlying9 .i64 40 (by omega) (by omega)
      generalize T.extract 0 40 = Ta at *
      generalize T.extract 40 T.size = Tb at *
      replace hb := hide hb
      clear ER hin
      go_enter Try.func39, Try.ntmps39
      go_wp2
      obtain ⟨W, hW, hR, hB, hs1⟩ := one_cb w #[.int .i64 0, .slice none 0 0, .slice none 0 0] 48
      rw [hW]
      clear hW
      go_quiet (fail)
      rw [← hT]
      have hRV := hR.step (bDN (Below.refl _ _) nq)
      have hBV := bDN hB nq
      have hwV : w.heap.size < (W.drewN nq).heap.size := hs1
      generalize W.drewN nq = V at *
      replace hT := hide hT
      clear hB hR hs1 hix h1t W h49' h49 q0 hbl h0s h4 hTs
      go_wp2_with fail
      refine (unhide C0 V).mono ?_
      rintro e w1 ⟨rfl, hw1⟩
      have hw2 := hw1.symm
      subst hw2
      clear hw1 C0
      go_wp2_with fail
      have HR := hide (fun (W' : World) (h : Below V.heap.size V W') => hRV.step h)
      have HT0 := (Below.refl V.heap.size V).drew
      clear hRV
      go_region_held3 (fun _ => True) (first | trivial | fail) (first
        | (go_at_call 77; have hq1 := hT1; refine (unhide C2 _).mono ?_; rintro e w2 ⟨⟨v2, rfl, o2⟩, hb2⟩; have hT2 := hT1.trans (hb2.mono hT1.size); have s2 := o2.shape; obtain ⟨a2, c2, rfl⟩ := s2; replace o2 := hide o2; generalize hn2 : (L2.map sv).length = n2 at *; have hR2 := unhide HR _ hT2; have r0 := hR2.cell 0 (v := .int .i64 0) rfl; have r1 := hR2.cell 1 (v := .slice none 0 0) rfl; have r2 := hR2.cell 2 (v := .slice none 0 0) rfl; have g0 := hR2.frozen 0; have g1 := hR2.frozen 1; have g2 := hR2.frozen 2; replace hR2 := hide hR2)
        | (go_at_call 77; refine (unhide C1 _).mono ?_; rintro e w1 ⟨⟨v1, rfl, o1⟩, hb1⟩; have hT1 := HT0.trans (hb1.mono HT0.size); have s1 := o1.shape; obtain ⟨a1, c1, rfl⟩ := s1; replace o1 := hide o1; generalize hn1 : (L1.map sv).length = n1 at *))
      all_goals
        have hsT : V.heap.size ≤ w1.heap.size := hT1.size
        have o5 := hide ((unhide o1).below hb2)
        have ap := hide (show ∀ k, (Value.slice a1 n1 c1).ownBlock = some k → (Value.slice a2 n2 c2).ownBlock ≠ some k from fun k hk hk2 => by
          have h1 := ((unhide o1).lt k hk).2
          have h2 := ((unhide o2).lt k hk2).1
          omega)
        have of5 := hide ((unhide hR2).off (unhide o5) (by decide))
        have of4 := hide ((unhide hR2).off (unhide o2) (by decide))
        have hB4 := hBV.trans (hT2.mono hBV.size)
        have o4' := hide ((unhide o2).low (show w.heap.size ≤ w1.heap.size by omega))
        have o5' := hide ((unhide o5).low (show w.heap.size ≤ V.drew.heap.size from Nat.le_of_lt hwV))
        have hF := hide ((((unhide hR2).set 0 (.int .i64 (b : Int))).set 1 (.slice a1 n1 c1)).set 2 (.slice a2 n2 c2))
        have hBF := hide (((hB4.setCell (p := ⟨w.heap.size, 0, none⟩) (Nat.le_refl _) (.int .i64 (b : Int))).setCell (p := ⟨w.heap.size, 1, none⟩) (Nat.le_refl _) (.slice a1 n1 c1)).setCell (p := ⟨w.heap.size, 2, none⟩) (Nat.le_refl _) (.slice a2 n2 c2))
        have o6 := hide ((((unhide o5').setO w.heap.size 0 (.int .i64 (b : Int)) (unhide of5)).setO w.heap.size 1 (.slice a1 n1 c1) (unhide of5)).setO w.heap.size 2 (.slice a2 n2 c2) (unhide of5))
        have o7 := hide ((((unhide o4').setO w.heap.size 0 (.int .i64 (b : Int)) (unhide of4)).setO w.heap.size 1 (.slice a1 n1 c1) (unhide of4)).setO w.heap.size 2 (.slice a2 n2 c2) (unhide of4))
        clear o1 o2 o5 o4' o5' of5 of4 hB4 hR2 HR HT0 hT1 hT2 hb1 hb2 r0 r1 r2 g0 g1 g2 C1 C2 hc1 hc2
        go_wp2
        exact bodyPost_ret (results_cb_tmp (by exact Try.results39) _ _ _ _ _ _ rfl (unhide hF) Try.underlying48 (by kernel_rfl)) rfl ⟨⟨_, rfl, _, _, rfl, unhide o6, unhide o7, unhide ap⟩, unhide hBF⟩
    · have hno : rdOk t = false := by
        cases e : rdOk t with
        | false => rfl
        | true => exact absurd (rdOk_in e).2 (by rw [← hb]; exact h4)
      have ER := hide (show rdS t = ⟨0, [], []⟩ by unfold rdS; rw [hno]; rfl)
      rw [unhide ER, hno]
      rw [decide_eq_false (show ¬ (0 ≤ (b : Int) ∧ (b : Int) ≤ 3) by omega)] at C0
      replace hb := hide hb
      clear ER hno
      go_enter Try.func39, Try.ntmps39
      go_wp2
      obtain ⟨W, hW, hR, hB, hs1⟩ := one_cb w #[.int .i64 0, .slice none 0 0, .slice none 0 0] 48
      rw [hW]
      clear hW
      go_quiet (fail)
      have hRV := hR.step (bDN (Below.refl _ _) nq)
      have hBV := bDN hB nq
      have hwV : w.heap.size < (W.drewN nq).heap.size := hs1
      generalize W.drewN nq = V at *
      clear hB hR hs1 hix h1t W
      go_wp2_with fail
      refine (unhide C0 V).mono ?_
      rintro e w1 ⟨rfl, hw1⟩
      have hw2 := hw1.symm
      subst hw2
      clear hw1 C0
      have r0 := hRV.cell 0 (v := .int .i64 0) rfl
      have r1 := hRV.cell 1 (v := .slice none 0 0) rfl
      have r2 := hRV.cell 2 (v := .slice none 0 0) rfl
      have g0 := hRV.frozen 0
      have g1 := hRV.frozen 1
      have g2 := hRV.frozen 2
      go_wp2
      have hF := hide (((hRV.set 0 (.int .i64 0)).set 1 (.slice none 0 0)).set 2 (.slice none 0 0))
      have hBF := hide (((hBV.setCell (p := ⟨w.heap.size, 0, none⟩) (Nat.le_refl _) (.int .i64 0)).setCell (p := ⟨w.heap.size, 1, none⟩) (Nat.le_refl _) (.slice none 0 0)).setCell (p := ⟨w.heap.size, 2, none⟩) (Nat.le_refl _) (.slice none 0 0))
      exact bodyPost_ret (results_cb_tmp (by exact Try.results39) _ _ _ _ _ _ rfl (unhide hF) Try.underlying48 (by kernel_rfl)) rfl ⟨⟨_, rfl, _, _, rfl, OwnV.nil _ _ _, OwnV.nil _ _ _, fun k hk => by cases hk⟩, unhide hBF⟩
  · have hno : rdOk t = false := by
      cases e : rdOk t with
      | false => rfl
      | true => exact absurd (rdOk_in e).1 h49
    have ER := hide (show rdS t = ⟨0, [], []⟩ by unfold rdS; rw [hno]; rfl)
    rw [unhide ER, hno]
    have h49' : ¬ (t.size : Int) = 49 := by omega
    clear ER hno h49
    go_enter Try.func39, Try.ntmps39
    go_wp2
    obtain ⟨W, hW, hR, hB, hs1⟩ := one_cb w #[.int .i64 0, .slice none 0 0, .slice none 0 0] 48
    rw [hW]
    exact bodyPost_ret (results_cb_tmp (by exact Try.results39) _ _ _ _ _ _ rfl hR Try.underlying48 (by kernel_rfl)) rfl ⟨⟨_, rfl, _, _, rfl, OwnV.nil _ _ _, OwnV.nil _ _ _, fun k hk => by cases hk⟩, hB⟩
end Go.Proofs.Ytecononlghjepae

/- Keys of a tree by the given model: leaves, public texts, signatures, over the loaded program. -/
namespace Go.Proofs.Ytecononlghjepae
open Go.RowKit
set_option maxRecDepth 20000 in
set_option maxHeartbeats 800000 in
theorem specLeaves_any (s : ByteArray) (hs : s.size ≤ 2000000) (w : World) :
    Calls Try.prog 89 #[.string s] w fun e w' => (∃ v, e = .returned v ∧ OwnV w' w.heap.size 9 v ((lvsO s).map sv)) ∧ Below w.heap.size w w' := by
  obtain ⟨i0, hi, hz0, hz1, hz2⟩ := info_parts infoTxt
  have C1 := hide (fun (i : Nat) W => specOnceKeyL_any s (i : Int) hs W)
  have C2 := hide (fun (i : Nat) W v hr => specOncePublic_any (keysO s (i : Int)) (i : Int) v W hr (fun x hx => by rw [keysO_size s _ x hx]; omega))
  have HK := hide (show ∀ i : Nat, onceP (keysO s (i : Int)) (i : Int) = lefO s i from fun i => rfl)
  have EK := hide (show lvsO s = preS (lefO s) 4 from rfl)
  rw [unhide EK]
  generalize lefO s = F at *
  clear EK
  go_enter Try.func89, Try.ntmps89
  have ho0 : OwnV (w.alloc (.cells #[] 9)) w.heap.size 9 (.slice (some ⟨w.heap.size, 0, none⟩) 0 0) ((preS F 0).map sv) := World.ownsRow_made w #[] 0 (Nat.le_refl _) (by decide) (by simp)
  replace ho0 := hide ho0
  have hb0 := (Below.refl w.heap.size w).alloc (Nat.le_refl _) (.cells #[] 9)
  go_wp2
  go_loopw [3, 4] (fun tv ti wr => ∃ k : Nat, k ≤ 4 ∧ ti = .int .i64 (k : Int) ∧ Hid (OwnV wr w.heap.size 9 tv ((preS F k).map sv)) ∧ Below w.heap.size w wr) (fun _ ti _ => 4 - (intOf ti).toNat)
  case atStart => exact ⟨0, by omega, rfl, ho0, hb0⟩
  case round =>
    clear ho0 hb0
    obtain ⟨k, hk, rfl, HO, hB⟩ := hrel
    by_cases hlt : k < 4
    · have hk' : (k : Int) < 4 := by omega
      have c1 := hide (unhide C1 k)
      have c2 := hide (unhide C2 k)
      rw [unhide HK k] at c2
      have HP := hide (preS_succ F k)
      have hpl : ((preS F k).map sv).length ≤ 1000 := by rw [List.length_map, preS_len]; omega
      generalize F k = fk at *
      replace hpl := hide hpl
      clear C1 C2
      go_wp2_with fail
      refine (unhide c1 wr).mono ?_
      rintro e w1 ⟨⟨v1, rfl, o1⟩, hb1⟩
      have hB1 := hB.trans (hb1.mono hB.size)
      have HO1 := hide ((unhide HO).below hb1)
      replace c2 := hide (unhide c2 w1 v1 o1.rdv)
      clear hb1 hB c1 HO o1
      go_wp2_with fail
      refine (unhide c2).mono ?_
      rintro e w3 ⟨rfl, hb3⟩
      have hB3 := hB1.trans (hb3.mono hB1.size)
      have HO3 := hide ((unhide HO1).below hb3)
      have hsz3 := hB3.size
      clear hb3 hB1 c2 HO1
      go_wp2_with (at_builtin; refine wpList_append_val (w := w3) rfl (.tmp 10) (.tmp 16) 33 rfl w.heap.size 9 i0 (.string ⟨#[]⟩) 16 Try.underlying33 hi hz0 hz1 hz2 rfl u3 _ (by rfl) (unhide HO3) (.string fk) rfl (by rfl) (unhide hpl) (by decide) hB3 (Nat.le_refl _) hsz3 ?_; intro v' w8 ho8 hB8)
      have ho9 := hide (show OwnV w8 w.heap.size 9 v' ((preS F (k + 1)).map sv) by rw [unhide HP, List.map_append]; exact ho8)
      clear ho8 HO3 HP
      go_wp2
      exact ⟨⟨k + 1, by omega, by go_num, ho9, hB8⟩, by simp [intOf]; omega⟩
    · have hk' : ¬ (k : Int) < 4 := by omega
      obtain rfl : k = 4 := by omega
      go_wp2
      go_ret
      exact ⟨⟨_, rfl, unhide HO⟩, hB⟩
set_option maxRecDepth 20000 in
set_option maxHeartbeats 800000 in
theorem specPublicOf_any (s : ByteArray) (hs : s.size ≤ 2000000) (w : World) :
    Calls Try.prog 70 #[.string s] w fun e w' => e = .returned (.string (pubO s)) ∧ Below w.heap.size w w' := by
  have C1 := hide (fun W => specLeaves_any s hs W)
  have C2 := hide (fun W v hr => specRootOf_any (lvsO s) v W hr (fun x hx => by rw [lvsO_size s x hx]; omega))
  have HK := hide (show rootB (lvsO s) = pubO s from rfl)
  rw [unhide HK] at C2
  generalize pubO s = p at *
  go_enter Try.func70, Try.ntmps70
  go_wp2_with fail
  refine (unhide C1 w).mono ?_
  rintro e w1 ⟨⟨v1, rfl, o1⟩, hb1⟩
  replace C2 := hide (unhide C2 w1 v1 o1.rdv)
  clear C1 o1
  go_wp2_with fail
  refine (unhide C2).mono ?_
  rintro e w2 ⟨rfl, hb2⟩
  have hB2 := hb1.trans (hb2.mono hb1.size)
  clear C2 hb1 hb2
  go_wp2
  go_ret
  exact ⟨rfl, hB2⟩
set_option maxRecDepth 20000 in
set_option maxHeartbeats 800000 in
theorem specSignAt_any (s : ByteArray) (leaf : Int) (m : ByteArray) (hs : s.size ≤ 2000000) (hm : m.size ≤ 1048576) (w : World) :
    Calls Try.prog 88 #[.string s, .int .i64 leaf, .string m] w fun e w' => (∃ v, e = .returned (.tuple #[v, .bool (decide (0 ≤ leaf ∧ leaf ≤ 3))]) ∧ OwnSg w' w.heap.size v (sgnS s leaf m)) ∧ Below w.heap.size w w' := by
  have C0 := hide (fun W => inb9 leaf 0 3 W)
  by_cases h : 0 ≤ leaf ∧ leaf ≤ 3
  · have C1 := hide (fun W => specOnceKeyL_any s leaf hs W)
    have C2 := hide (fun W v hr => specOnceSign_any (keysO s leaf) leaf m v W hr (fun x hx => by rw [keysO_size s _ x hx]; omega) hm)
    have C3 := hide (fun W => specLeaves_any s hs W)
    have C4 := hide (fun W v hr => specPathOf_any (lvsO s) leaf v W hr (fun x hx => by rw [lvsO_size s x hx]; omega))
    have ES := hide (show sgnS s leaf m = ⟨leaf, onceS (keysO s leaf) leaf m, pathL (lvsO s) leaf⟩ by unfold sgnS; rw [if_pos h])
    rw [unhide ES, decide_eq_true h]
    generalize onceS (keysO s leaf) leaf m = L1 at *
    generalize pathL (lvsO s) leaf = L2 at *
    generalize (keysO s leaf).map sv = K1 at *
    generalize (lvsO s).map sv = K2 at *
    have hd1 := decide_eq_true h.1
    have hd2 := decide_eq_true h.2
    rw [decide_eq_true h] at C0
    clear ES h
    go_enter Try.func88, Try.ntmps88
    go_wp2_with fail
    obtain ⟨W, hW, hR, hB, hs1⟩ := one_cb w #[.int .i64 0, .slice none 0 0, .slice none 0 0] 48
    rw [hW]
    clear hW
    refine (unhide C0 W).mono ?_
    rintro e w1 ⟨rfl, hw1⟩
    have hw2 := hw1.symm
    subst hw2
    clear hw1 C0
    go_wp2_with fail
    refine (unhide C1 W).mono ?_
    rintro e w1 ⟨⟨v1, rfl, o1⟩, hb1⟩
    have hB1 := hB.trans (hb1.mono hB.size)
    have hR1 := hR.step hb1
    replace C2 := hide (unhide C2 w1 v1 o1.rdv)
    clear C1 o1 hb1 hB hR
    go_wp2_with fail
    refine (unhide C2).mono ?_
    rintro e w2 ⟨⟨v2, rfl, o2⟩, hb2⟩
    have hB2 := hB1.trans (hb2.mono hB1.size)
    have hR2 := hR1.step hb2
    have o2' := hide (o2.low hB1.size)
    clear C2 o2 hb2 hB1 hR1
    go_wp2_with fail
    refine (unhide C3 w2).mono ?_
    rintro e w3 ⟨⟨v3, rfl, o3⟩, hb3⟩
    have hB3 := hB2.trans (hb3.mono hB2.size)
    have hR3 := hR2.step hb3
    have o2'' := hide ((unhide o2').below hb3)
    replace C4 := hide (unhide C4 w3 v3 o3.rdv)
    clear C3 o3 hb3 hB2 hR2 o2'
    go_wp2_with fail
    refine (unhide C4).mono ?_
    rintro e w4 ⟨⟨v4, rfl, o4⟩, hb4⟩
    have hB4 := hB3.trans (hb4.mono hB3.size)
    have hR4 := hR3.step hb4
    have o5 := hide ((unhide o2'').below hb4)
    have ap := hide (show ∀ k, v2.ownBlock = some k → v4.ownBlock ≠ some k from fun k hk hk2 => by
      have h1 := ((unhide o2'').lt k hk).2
      have h2 := (o4.lt k hk2).1
      omega)
    have o4' := hide (o4.low hB3.size)
    have of5 := hide (hR4.off (unhide o5) (by decide))
    have of4 := hide (hR4.off o4 (by decide))
    have s2 := (unhide o5).shape
    have s4 := o4.shape
    clear C4 o4 hb4 hB3 hR3 o2''
    obtain ⟨a2, c2, rfl⟩ := s2
    obtain ⟨a4, c4, rfl⟩ := s4
    have r0 := hR4.cell 0 (v := .int .i64 0) rfl
    have r1 := hR4.cell 1 (v := .slice none 0 0) rfl
    have r2 := hR4.cell 2 (v := .slice none 0 0) rfl
    have g0 := hR4.frozen 0
    have g1 := hR4.frozen 1
    have g2 := hR4.frozen 2
    generalize hn2 : (L1.map sv).length = n2 at *
    generalize hn4 : (L2.map sv).length = n4 at *
    go_wp2
    have hF := hide (((hR4.set 0 (.int .i64 leaf)).set 1 (.slice a2 n2 c2)).set 2 (.slice a4 n4 c4))
    have hBF := hide (((hB4.setCell (p := ⟨w.heap.size, 0, none⟩) (Nat.le_refl _) (.int .i64 leaf)).setCell (p := ⟨w.heap.size, 1, none⟩) (Nat.le_refl _) (.slice a2 n2 c2)).setCell (p := ⟨w.heap.size, 2, none⟩) (Nat.le_refl _) (.slice a4 n4 c4))
    have o6 := hide ((((unhide o5).setO w.heap.size 0 (.int .i64 leaf) (unhide of5)).setO w.heap.size 1 (.slice a2 n2 c2) (unhide of5)).setO w.heap.size 2 (.slice a4 n4 c4) (unhide of5))
    have o7 := hide ((((unhide o4').setO w.heap.size 0 (.int .i64 leaf) (unhide of4)).setO w.heap.size 1 (.slice a2 n2 c2) (unhide of4)).setO w.heap.size 2 (.slice a4 n4 c4) (unhide of4))
    exact bodyPost_ret (results_cb_tmp (by exact Try.results88) _ _ _ _ _ _ rfl (unhide hF) Try.underlying48 (by kernel_rfl)) rfl ⟨⟨_, rfl, _, _, rfl, unhide o6, unhide o7, unhide ap⟩, unhide hBF⟩
  · have ES := hide (show sgnS s leaf m = ⟨0, [], []⟩ by unfold sgnS; rw [if_neg h])
    rw [unhide ES, decide_eq_false h]
    rw [decide_eq_false h] at C0
    clear ES h
    go_enter Try.func88, Try.ntmps88
    go_wp2_with fail
    obtain ⟨W, hW, hR, hB, hs1⟩ := one_cb w #[.int .i64 0, .slice none 0 0, .slice none 0 0] 48
    rw [hW]
    clear hW
    refine (unhide C0 W).mono ?_
    rintro e w1 ⟨rfl, hw1⟩
    have hw2 := hw1.symm
    subst hw2
    clear hw1 C0
    have r0 := hR.cell 0 (v := .int .i64 0) rfl
    have r1 := hR.cell 1 (v := .slice none 0 0) rfl
    have r2 := hR.cell 2 (v := .slice none 0 0) rfl
    have g0 := hR.frozen 0
    have g1 := hR.frozen 1
    have g2 := hR.frozen 2
    go_wp2
    have hF := hide (((hR.set 0 (.int .i64 0)).set 1 (.slice none 0 0)).set 2 (.slice none 0 0))
    have hBF := hide (((hB.setCell (p := ⟨w.heap.size, 0, none⟩) (Nat.le_refl _) (.int .i64 0)).setCell (p := ⟨w.heap.size, 1, none⟩) (Nat.le_refl _) (.slice none 0 0)).setCell (p := ⟨w.heap.size, 2, none⟩) (Nat.le_refl _) (.slice none 0 0))
    exact bodyPost_ret (results_cb_tmp (by exact Try.results88) _ _ _ _ _ _ rfl (unhide hF) Try.underlying48 (by kernel_rfl)) rfl ⟨⟨_, rfl, _, _, rfl, OwnV.nil _ _ _, OwnV.nil _ _ _, fun k hk => by cases hk⟩, unhide hBF⟩
end Go.Proofs.Ytecononlghjepae

/- Keys of a tree by the given model: whether a signature is right, over the loaded program. -/
namespace Go.Proofs.Ytecononlghjepae
open Go.RowKit
set_option maxRecDepth 20000 in
set_option maxHeartbeats 800000 in
theorem specSigOk_any (s : Sg) (v : Value) (w : World) (hr : RdSg w v s) (n1 : s.once.length ≤ 2000000) (n2 : s.path.length ≤ 2000000) :
    Calls Try.prog 37 #[v] w fun e w' => e = .returned (.bool (sgOk s)) ∧ Below w.heap.size w w' := by
  obtain ⟨lf, l1, l2⟩ := s
  obtain ⟨v1, v2, rfl, r1, r2, -⟩ := hr
  have C0 := hide (fun W => inb9 lf 0 3 W)
  obtain ⟨a1, c1, rfl, hc1⟩ := r1.open
  obtain ⟨a2, c2, rfl, hc2⟩ := r2.open
  clear r1 r2
  replace hc1 : ∀ k, k < l1.length → ∃ g o, a1 = some ⟨g, o, none⟩ ∧ g < w.heap.size ∧ w.cell? ⟨g, o + k, none⟩ = some (.string (bAt l1 k)) := fun k hk => hc1 k _ (bAt_get l1 k hk)
  replace hc2 : ∀ k, k < l2.length → ∃ g o, a2 = some ⟨g, o, none⟩ ∧ g < w.heap.size ∧ w.cell? ⟨g, o + k, none⟩ = some (.string (bAt l2 k)) := fun k hk => hc2 k _ (bAt_get l2 k hk)
  unfold sgv
  show Calls _ _ #[.agg #[.int .i64 lf, .slice a1 (l1.map sv).length c1, .slice a2 (l2.map sv).length c2]] _ _
  rw [List.length_map, List.length_map]
  by_cases h : 0 ≤ lf ∧ lf ≤ 3
  · rw [decide_eq_true h] at C0
    by_cases h1 : l1.length = 10
    · by_cases h2 : l2.length = 2
      · have E1 := hide (fun (h3 : ∀ k, k < 10 → (bAt l1 k).size = 4) (h4 : ∀ k, k < 2 → (bAt l2 k).size = 4) => show sgOk ⟨lf, l1, l2⟩ = true from sgOk_of ⟨h, h1, h2⟩ (four_bAt (l := l1) fun k hk => h3 k (by omega)) (four_bAt (l := l2) fun k hk => h4 k (by omega)))
        have E2 := hide (fun k (hk : k < 10) (hx : ¬ (bAt l1 k).size = 4) => show sgOk ⟨lf, l1, l2⟩ = false from sgOk_no2 (four_no (l := l1) k (by omega) hx))
        have E3 := hide (fun k (hk : k < 2) (hx : ¬ (bAt l2 k).size = 4) => show sgOk ⟨lf, l1, l2⟩ = false from sgOk_no3 (four_no (l := l2) k (by omega) hx))
        rw [h1] at hc1 ⊢
        rw [h2] at hc2 ⊢
        generalize sgOk ⟨lf, l1, l2⟩ = R at *
        generalize bAt l1 = F1 at *
        generalize bAt l2 = F2 at *
        clear h h1 h2 n1 n2
        go_enter Try.func37, Try.ntmps37
        go_wp2_with fail
        obtain ⟨W, hW, hP, hB, hs1⟩ := one_cb w #[.int .i64 lf, .slice a1 10 c1, .slice a2 2 c2] 48
        rw [hW]
        clear hW
        refine (unhide C0 W).mono ?_
        rintro e w1 ⟨rfl, hw1⟩
        have hw2 := hw1.symm
        subst hw2
        clear hw1 C0
        have p1 := hP.cell 1 (v := .slice a1 10 c1) rfl
        have p2 := hP.cell 2 (v := .slice a2 2 c2) rfl
        replace hP := hide hP
        go_wp2
        go_loopw [3] (fun ti wr => ∃ k : Nat, k ≤ 10 ∧ ti = .int .i64 (k : Int) ∧ Hid (∀ j, j < k → (F1 j).size = 4) ∧ wr = W) (fun ti _ => 10 - (intOf ti).toNat)
        case atStart => exact ⟨0, by omega, rfl, hide (fun j hj => absurd hj (by omega)), rfl⟩
        case round =>
          obtain ⟨k, hk, rfl, HK, hw⟩ := hrel
          have hw' := hw.symm
          subst hw'
          clear hw
          by_cases hlt : k < 10
          · have hk' : (k : Int) < 10 := by omega
            obtain ⟨g, o, rfl, hg, d1⟩ := hc1 k hlt
            replace d1 := (hB.cell (p := ⟨g, o + k, none⟩) hg).trans d1
            by_cases hx : (F1 k).size = 4
            · have HK2 := hide (show ∀ j, j < k + 1 → (F1 j).size = 4 from fun j hj => by
                by_cases e : j = k
                · rw [e]; exact hx
                · exact unhide HK j (by omega))
              generalize F1 k = told at d1 hx
              clear hc1 hc2 HK
              go_wp2
              exact ⟨⟨k + 1, by omega, by go_num, HK2, by first | rfl | trivial⟩, by simp [intOf]; omega⟩
            · have E := hide (unhide E2 k hlt hx)
              have hx' : ¬ ((F1 k).size : Int) = 4 := by omega
              generalize F1 k = told at d1 hx'
              clear hc1 hc2 HK E1 E2 E3 hx
              go_wp2
              go_ret
              exact ⟨by rw [unhide E]; rfl, hB⟩
          · have hk' : ¬ (k : Int) < 10 := by omega
            have HK2 := hide (show ∀ j, j < 10 → (F1 j).size = 4 from fun j hj => unhide HK j (by omega))
            clear hc1 HK
            go_wp2
            go_loopw [4] (fun ti wr => ∃ k : Nat, k ≤ 2 ∧ ti = .int .i64 (k : Int) ∧ Hid (∀ j, j < k → (F2 j).size = 4) ∧ wr = W) (fun ti _ => 2 - (intOf ti).toNat)
            case atStart => exact ⟨0, by omega, rfl, hide (fun j hj => absurd hj (by omega)), rfl⟩
            case round =>
              obtain ⟨k, hk, rfl, HK, hw⟩ := hrel
              have hw' := hw.symm
              subst hw'
              clear hw
              by_cases hlt2 : k < 2
              · have hk2 : (k : Int) < 2 := by omega
                obtain ⟨g, o, rfl, hg, d1⟩ := hc2 k hlt2
                replace d1 := (hB.cell (p := ⟨g, o + k, none⟩) hg).trans d1
                by_cases hx : (F2 k).size = 4
                · have HK3 := hide (show ∀ j, j < k + 1 → (F2 j).size = 4 from fun j hj => by
                    by_cases e : j = k
                    · rw [e]; exact hx
                    · exact unhide HK j (by omega))
                  generalize F2 k = told at d1 hx
                  clear hc2 HK
                  go_wp2
                  exact ⟨⟨k + 1, by omega, by go_num, HK3, by first | rfl | trivial⟩, by simp [intOf]; omega⟩
                · have E := hide (unhide E3 k hlt2 hx)
                  have hx' : ¬ ((F2 k).size : Int) = 4 := by omega
                  generalize F2 k = told at d1 hx'
                  clear hc2 HK E1 E2 E3 hx
                  go_wp2
                  go_ret
                  exact ⟨by rw [unhide E]; rfl, hB⟩
              · have hk2 : ¬ (k : Int) < 2 := by omega
                have E := hide (unhide E1 (unhide HK2) (fun j hj => unhide HK j (by omega)))
                clear hc2 HK HK2 E1 E2 E3
                go_wp2
                go_ret
                exact ⟨by rw [unhide E]; rfl, hB⟩
      · have E := hide (show sgOk ⟨lf, l1, l2⟩ = false from sgOk_no1 fun x => h2 x.2.2)
        rw [unhide E, h1]
        have h2' : ¬ (l2.length : Int) = 2 := by omega
        generalize l2.length = m2 at *
        clear E h hc1 hc2 h2
        go_enter Try.func37, Try.ntmps37
        go_wp2_with fail
        obtain ⟨W, hW, hP, hB, hs1⟩ := one_cb w #[.int .i64 lf, .slice a1 10 c1, .slice a2 m2 c2] 48
        rw [hW]
        clear hW
        refine (unhide C0 W).mono ?_
        rintro e w1 ⟨rfl, hw1⟩
        have hw2 := hw1.symm
        subst hw2
        clear hw1 C0
        have p1 := hP.cell 1 (v := .slice a1 10 c1) rfl
        have p2 := hP.cell 2 (v := .slice a2 m2 c2) rfl
        go_wp2
        go_ret
        exact ⟨rfl, hB⟩
    · have E := hide (show sgOk ⟨lf, l1, l2⟩ = false from sgOk_no1 fun x => h1 x.2.1)
      rw [unhide E]
      have h1' : ¬ (l1.length : Int) = 10 := by omega
      generalize l1.length = m1 at *
      generalize l2.length = m2 at *
      clear E h hc1 hc2 h1
      go_enter Try.func37, Try.ntmps37
      go_wp2_with fail
      obtain ⟨W, hW, hP, hB, hs1⟩ := one_cb w #[.int .i64 lf, .slice a1 m1 c1, .slice a2 m2 c2] 48
      rw [hW]
      clear hW
      refine (unhide C0 W).mono ?_
      rintro e w1 ⟨rfl, hw1⟩
      have hw2 := hw1.symm
      subst hw2
      clear hw1 C0
      have p1 := hP.cell 1 (v := .slice a1 m1 c1) rfl
      go_wp2
      go_ret
      exact ⟨rfl, hB⟩
  · have E := hide (show sgOk ⟨lf, l1, l2⟩ = false from sgOk_no1 fun x => h x.1)
    rw [unhide E]
    rw [decide_eq_false h] at C0
    generalize l1.length = m1 at *
    generalize l2.length = m2 at *
    clear E h hc1 hc2
    go_enter Try.func37, Try.ntmps37
    go_wp2_with fail
    obtain ⟨W, hW, hP, hB, hs1⟩ := one_cb w #[.int .i64 lf, .slice a1 m1 c1, .slice a2 m2 c2] 48
    rw [hW]
    clear hW
    refine (unhide C0 W).mono ?_
    rintro e w1 ⟨rfl, hw1⟩
    have hw2 := hw1.symm
    subst hw2
    clear hw1 C0
    go_wp2
    go_ret
    exact ⟨rfl, hB⟩
theorem same_txt (a b : ByteArray) : (a.toList == b.toList) = decide (a = b) := by
  have e : ∀ x : ByteArray, x.toList = x.data.toList := fun x => ByteArray.toList_eq x
  by_cases h : a = b
  · subst h
    rw [decide_eq_true rfl]
    exact beq_self_eq_true _
  · rw [decide_eq_false h]
    apply beq_false_of_ne
    rw [e, e]
    exact fun h2 => h (ByteArray.ext (Array.toList_inj.1 h2))
theorem sumS_four (l : List ByteArray) (h : ∀ x ∈ l, x.size = 4) : sumS l = 4 * l.length := by
  induction l with
  | nil => rfl
  | cons x xs ih =>
    show x.size + sumS xs = 4 * (xs.length + 1)
    rw [h x (by simp), ih fun y hy => h y (by simp [hy])]
    omega
theorem onceF_size (l : List ByteArray) (leaf : Int) (m : ByteArray) : (onceF l leaf m).size ≤ 4 := by
  unfold onceF
  split
  · rw [chopB_size]; omega
  · show 0 ≤ 4; omega
set_option maxRecDepth 20000 in
set_option maxHeartbeats 800000 in
theorem specCheckSig_any (p m : ByteArray) (s : Sg) (v : Value) (w : World) (hr : RdSg w v s) (n1 : s.once.length ≤ 2000000) (n2 : s.path.length ≤ 2000000) (hm : m.size ≤ 1048576) :
    Calls Try.prog 35 #[.string p, .string m, v] w fun e w' => e = .returned (.bool (chkB p m s)) ∧ Below w.heap.size w w' := by
  have C0 := hide (fun (W : World) (h : Below w.heap.size w W) => specSigOk_any s v W (hr.below h) n1 n2)
  obtain ⟨lf, l1, l2⟩ := s
  obtain ⟨v1, v2, rfl, r1, r2, -⟩ := hr
  cases ho : sgOk ⟨lf, l1, l2⟩ with
  | true =>
    rw [ho] at C0
    have f1 := sgOk_once ho
    have f2 := sgOk_path ho
    obtain ⟨_, k1, k2⟩ := sgOk_shape ho
    have C1 := hide (fun (W : World) (h : Below w.heap.size w W) => specOnceFound_any l1 lf m v1 W (r1.below h) (by rw [sumS_four l1 (four_yes f1)]; have : l1.length = 10 := k1; omega) hm)
    have C2 := hide (fun (W : World) (h : Below w.heap.size w W) => specRootBy_any (onceF l1 lf m) lf l2 v2 W (by have := onceF_size l1 lf m; omega) (r2.below h) (fun x hx => by rw [four_yes f2 x hx]; omega))
    have EC := hide (show chkB p m ⟨lf, l1, l2⟩ = decide (rootBy (onceF l1 lf m) lf l2 = p) by unfold chkB fndB; rw [ho]; rfl)
    rw [unhide EC]
    obtain ⟨a1, c1, rfl⟩ := r1.shape
    obtain ⟨a2, c2, rfl⟩ := r2.shape
    unfold sgv at C0 ⊢
    generalize onceF l1 lf m = fo at *
    generalize rootBy fo lf l2 = ro at *
    clear r1 r2 n1 n2 k1 k2 f1 f2 ho EC
    show Calls _ _ #[_, _, .agg #[.int .i64 lf, .slice a1 (l1.map sv).length c1, .slice a2 (l2.map sv).length c2]] _ _
    generalize ((Sg.mk lf l1 l2).once.map sv).length = k1 at *
    generalize ((Sg.mk lf l1 l2).path.map sv).length = k2 at *
    go_enter Try.func35, Try.ntmps35
    go_wp2_with fail
    obtain ⟨W, hW, hP, hB, hs1⟩ := one_cb w #[.int .i64 lf, .slice a1 k1 c1, .slice a2 k2 c2] 48
    rw [hW]
    clear hW
    have KS := hide (fun (W' : World) (h : Below W.heap.size W W') => (show W'.cell? ⟨w.heap.size, 0, none⟩ = some (.int .i64 lf) ∧ W'.cell? ⟨w.heap.size, 1, none⟩ = some (.slice a1 k1 c1) ∧ W'.cell? ⟨w.heap.size, 2, none⟩ = some (.slice a2 k2 c2) from ⟨(hP.step h).cell 0 rfl, (hP.step h).cell 1 rfl, (hP.step h).cell 2 rfl⟩))
    have C0' := hide (fun (W' : World) (h : Below W.heap.size W W') => unhide C0 W' (hB.trans (h.mono hB.size)))
    have C1' := hide (fun (W' : World) (h : Below W.heap.size W W') => unhide C1 W' (hB.trans (h.mono hB.size)))
    have C2' := hide (fun (W' : World) (h : Below W.heap.size W W') => unhide C2 W' (hB.trans (h.mono hB.size)))
    have HT0 := (Below.refl W.heap.size W).drew
    clear C0 C1 C2 hP
    go_region_held3 (fun W => W.cell? ⟨w.heap.size, 0, none⟩ = some (.int .i64 lf) ∧ W.cell? ⟨w.heap.size, 1, none⟩ = some (.slice a1 k1 c1) ∧ W.cell? ⟨w.heap.size, 2, none⟩ = some (.slice a2 k2 c2)) (first | exact unhide KS _ HT0 | exact unhide KS _ hT1 | exact unhide KS _ hT2 | exact unhide KS _ hT3 | fail) (first
      | (go_at_call 37; refine (unhide C0' _ HT0).mono ?_; rintro e w1 ⟨rfl, hb1⟩; have hT1 := HT0.trans (hb1.mono HT0.size); clear hb1)
      | (go_at_call 72; refine (unhide C1' _ hT1).mono ?_; rintro e w2 ⟨rfl, hb2⟩; have hT2 := hT1.trans (hb2.mono hT1.size); clear hb2)
      | (go_at_call 71; refine (unhide C2' _ hT2).mono ?_; rintro e w3 ⟨rfl, hb3⟩; have hT3 := hT2.trans (hb3.mono hT2.size); clear hb3))
    all_goals
      have hF := hB.trans (hT3.mono hB.size)
      clear C0' C1' C2' KS hT1 hT2 HT0
      go_wp2
      go_ret
      exact ⟨by show Ending.returned (.bool (ro.toList == p.toList)) = _; rw [same_txt], hF⟩
  | false =>
    rw [ho] at C0
    have EC := hide (show chkB p m ⟨lf, l1, l2⟩ = false by unfold chkB; rw [ho]; rfl)
    rw [unhide EC]
    obtain ⟨a1, c1, rfl⟩ := r1.shape
    obtain ⟨a2, c2, rfl⟩ := r2.shape
    unfold sgv at C0 ⊢
    clear r1 r2 n1 n2 ho EC
    show Calls _ _ #[_, _, .agg #[.int .i64 lf, .slice a1 (l1.map sv).length c1, .slice a2 (l2.map sv).length c2]] _ _
    generalize ((Sg.mk lf l1 l2).once.map sv).length = k1 at *
    generalize ((Sg.mk lf l1 l2).path.map sv).length = k2 at *
    go_enter Try.func35, Try.ntmps35
    go_wp2_with fail
    obtain ⟨W, hW, hP, hB, hs1⟩ := one_cb w #[.int .i64 lf, .slice a1 k1 c1, .slice a2 k2 c2] 48
    rw [hW]
    clear hW
    have KS := hide (fun (W' : World) (h : Below W.heap.size W W') => (show W'.cell? ⟨w.heap.size, 0, none⟩ = some (.int .i64 lf) ∧ W'.cell? ⟨w.heap.size, 1, none⟩ = some (.slice a1 k1 c1) ∧ W'.cell? ⟨w.heap.size, 2, none⟩ = some (.slice a2 k2 c2) from ⟨(hP.step h).cell 0 rfl, (hP.step h).cell 1 rfl, (hP.step h).cell 2 rfl⟩))
    have C0' := hide (fun (W' : World) (h : Below W.heap.size W W') => unhide C0 W' (hB.trans (h.mono hB.size)))
    have HT0 := (Below.refl W.heap.size W).drew
    clear C0 hP
    refine wp_region_held_drew (S := fun W => W.cell? ⟨w.heap.size, 0, none⟩ = some (.int .i64 lf) ∧ W.cell? ⟨w.heap.size, 1, none⟩ = some (.slice a1 k1 c1) ∧ W.cell? ⟨w.heap.size, 2, none⟩ = some (.slice a2 k2 c2)) (by kernel_rfl) (unhide KS _ HT0) (fun hHeld => ?_)
    refine wpAnyH_take (i := 0) (v := .agg #[.int .i64 lf, .slice a1 k1 c1, .slice a2 k2 c2]) rfl (by kernel_rfl) (by kernel_rfl) (by kernel_rfl) (fun _ _ _ h => h) (Or.inl ⟨by kernel_rfl, fun W hS => by obtain ⟨s0, s1, s2⟩ := hS; go_simp⟩) hHeld ?_
    refine wpAnyH_ready (rs := [1]) (by kernel_rfl) (by simp) ?_
    refine AllReadyH.cons rfl (fun K hK => ?_) AllReadyH.nil
    go_simp
    refine (unhide C0' _ HT0).mono ?_
    rintro e w1 ⟨rfl, hb1⟩
    have hT1 := HT0.trans (hb1.mono HT0.size)
    have hF := hB.trans (hT1.mono hB.size)
    refine hK.out _ _ (unhide KS _ hT1) (fun hHeld => ?_)
    clear hK K hb1 HT0 C0'
    refine wpAnyH_take (i := 2) (v := .bool false) rfl (by kernel_rfl) (by kernel_rfl) (by kernel_rfl) (fun _ _ _ h => h) (Or.inl ⟨by kernel_rfl, fun W hS => by go_simp⟩) hHeld ?_
    refine wpAnyH_take (i := 3) (v := undef) rfl (by kernel_rfl) (by kernel_rfl) (by kernel_rfl) (fun _ _ _ h => h) (Or.inr ⟨by kernel_rfl, rfl⟩) hHeld ?_
    refine wpAnyH_take (i := 4) (v := undef) rfl (by kernel_rfl) (by kernel_rfl) (by kernel_rfl) (fun _ _ _ h => h) (Or.inr ⟨by kernel_rfl, rfl⟩) hHeld ?_
    refine wpAnyH_take (i := 5) (v := undef) rfl (by kernel_rfl) (by kernel_rfl) (by kernel_rfl) (fun _ _ _ h => h) (Or.inr ⟨by kernel_rfl, rfl⟩) hHeld ?_
    refine wpAnyH_take (i := 6) (v := undef) rfl (by kernel_rfl) (by kernel_rfl) (by kernel_rfl) (fun _ _ _ h => h) (Or.inr ⟨by kernel_rfl, rfl⟩) hHeld ?_
    refine wpAnyH_take (i := 7) (v := undef) rfl (by kernel_rfl) (by kernel_rfl) (by kernel_rfl) (fun _ _ _ h => h) (Or.inr ⟨by kernel_rfl, rfl⟩) hHeld ?_
    refine wpAnyH_take (i := 8) (v := undef) rfl (by kernel_rfl) (by kernel_rfl) (by kernel_rfl) (fun _ _ _ h => h) (Or.inr ⟨by kernel_rfl, rfl⟩) hHeld ?_
    refine wpAnyH_take (i := 9) (v := undef) rfl (by kernel_rfl) (by kernel_rfl) (by kernel_rfl) (fun _ _ _ h => h) (Or.inr ⟨by kernel_rfl, rfl⟩) hHeld ?_
    refine wpAnyH_take (i := 10) (v := undef) rfl (by kernel_rfl) (by kernel_rfl) (by kernel_rfl) (fun _ _ _ h => h) (Or.inr ⟨by kernel_rfl, rfl⟩) hHeld ?_
    refine wpAnyH_take (i := 11) (v := undef) rfl (by kernel_rfl) (by kernel_rfl) (by kernel_rfl) (fun _ _ _ h => h) (Or.inr ⟨by kernel_rfl, rfl⟩) hHeld ?_
    refine wpAnyH_take (i := 12) (v := undef) rfl (by kernel_rfl) (by kernel_rfl) (by kernel_rfl) (fun _ _ _ h => h) (Or.inr ⟨by kernel_rfl, rfl⟩) hHeld ?_
    refine wpAnyH_take (i := 13) (v := undef) rfl (by kernel_rfl) (by kernel_rfl) (by kernel_rfl) (fun _ _ _ h => h) (Or.inr ⟨by kernel_rfl, rfl⟩) hHeld ?_
    refine wpAnyH_take (i := 14) (v := undef) rfl (by kernel_rfl) (by kernel_rfl) (by kernel_rfl) (fun _ _ _ h => h) (Or.inr ⟨by kernel_rfl, rfl⟩) hHeld ?_
    refine wpAnyH_take (i := 15) (v := undef) rfl (by kernel_rfl) (by kernel_rfl) (by kernel_rfl) (fun _ _ _ h => h) (Or.inr ⟨by kernel_rfl, rfl⟩) hHeld ?_
    refine wpAnyH_take (i := 16) (v := .bool false) rfl (by kernel_rfl) (by kernel_rfl) (by kernel_rfl) (fun _ _ _ h => h) (Or.inl ⟨by kernel_rfl, fun W hS => by go_simp⟩) hHeld ?_
    refine wpAnyH_take (i := 17) (v := .bool false) rfl (by kernel_rfl) (by kernel_rfl) (by kernel_rfl) (fun _ _ _ h => h) (Or.inl ⟨by kernel_rfl, fun W hS => by go_simp⟩) hHeld ?_
    refine wpAnyH_done (by kernel_rfl) ?_ _
    simp only [Act.put, List.getElem_toArray, List.getElem_cons_zero, List.getElem_cons_succ, List.setIfInBounds_toArray, List.set_cons_zero, List.set_cons_succ]
    clear KS hHeld hT1
    go_wp2
    go_ret
    exact ⟨rfl, hF⟩
end Go.Proofs.Ytecononlghjepae

/- Keys of a tree by the given model: a signature's text, over the loaded program. -/
namespace Go.Proofs.Ytecononlghjepae
open Go.RowKit
set_option maxRecDepth 20000 in
set_option maxHeartbeats 800000 in
theorem specSigText_any (s : Sg) (v : Value) (w : World) (hr : RdSg w v s) (n1 : s.once.length ≤ 2000000) (n2 : s.path.length ≤ 2000000) :
    Calls Try.prog 75 #[v] w fun e w' => e = .returned (.tuple #[.string (sgT s), .bool (sgOk s)]) ∧ Below w.heap.size w w' := by
  have C0 := hide (fun (W : World) (h : Below w.heap.size w W) => specSigOk_any s v W (hr.below h) n1 n2)
  obtain ⟨lf, l1, l2⟩ := s
  have CB0 := hide (fun W => specByteY_any lf W)
  obtain ⟨v1, v2, rfl, r1, r2, -⟩ := hr
  cases ho : sgOk ⟨lf, l1, l2⟩ with
  | true =>
    rw [ho] at C0
    have f1 := sgOk_once ho
    have f2 := sgOk_path ho
    obtain ⟨_, k1, k2⟩ := sgOk_shape ho
    obtain ⟨a1, c1, rfl, hc1⟩ := r1.open
    obtain ⟨a2, c2, rfl, hc2⟩ := r2.open
    replace hc1 : ∀ k, k < 10 → ∃ g o, a1 = some ⟨g, o, none⟩ ∧ g < w.heap.size ∧ w.cell? ⟨g, o + k, none⟩ = some (.string (bAt l1 k)) := fun k hk => hc1 k _ (bAt_get l1 k (by have : l1.length = 10 := k1; omega))
    replace hc2 : ∀ k, k < 2 → ∃ g o, a2 = some ⟨g, o, none⟩ ∧ g < w.heap.size ∧ w.cell? ⟨g, o + k, none⟩ = some (.string (bAt l2 k)) := fun k hk => hc2 k _ (bAt_get l2 k (by have : l2.length = 2 := k2; omega))
    have z1 := hide (fun k (hk : k < 10) => bAt_four f1 k (by have : l1.length = 10 := k1; omega))
    have z2 := hide (fun k (hk : k < 2) => bAt_four f2 k (by have : l2.length = 2 := k2; omega))
    have q1 := hide (fun k (hk : k ≤ 10) => catT_size (oneY lf) (bAt l1) 10 (fun i hi => unhide z1 i hi) k hk)
    have q2 := hide (fun k (hk : k ≤ 2) => catT_size (catT (oneY lf) (bAt l1) 10) (bAt l2) 2 (fun i hi => unhide z2 i hi) k hk)
    have q0 := unhide q1 10 (Nat.le_refl _)
    rw [oneY_size] at q1 q0
    rw [q0] at q2
    have EC := hide (show sgT ⟨lf, l1, l2⟩ = catT (catT (oneY lf) (bAt l1) 10) (bAt l2) 2 from sgT_is ho)
    rw [unhide EC]
    unfold sgv at C0 ⊢
    show Calls _ _ #[.agg #[.int .i64 lf, .slice a1 (l1.map sv).length c1, .slice a2 (l2.map sv).length c2]] _ _
    have e1 : (l1.map sv).length = 10 := by rw [List.length_map]; exact k1
    have e2 : (l2.map sv).length = 2 := by rw [List.length_map]; exact k2
    have C0' := hide (fun (W : World) (h : Below w.heap.size w W) => show Calls Try.prog 37 #[.agg #[.int .i64 lf, .slice a1 (l1.map sv).length c1, .slice a2 (l2.map sv).length c2]] W _ from unhide C0 W h)
    rw [e1, e2] at C0' ⊢
    have S1 := hide (show ∀ k, catT (oneY lf) (bAt l1) (k + 1) = catT (oneY lf) (bAt l1) k ++ bAt l1 k from fun k => rfl)
    have S2 := hide (show ∀ k, catT (catT (oneY lf) (bAt l1) 10) (bAt l2) (k + 1) = catT (catT (oneY lf) (bAt l1) 10) (bAt l2) k ++ bAt l2 k from fun k => rfl)
    have T1 := hide (show catT (oneY lf) (bAt l1) 0 = oneY lf from rfl)
    have T2 := hide (show catT (catT (oneY lf) (bAt l1) 10) (bAt l2) 0 = catT (oneY lf) (bAt l1) 10 from rfl)
    rw [← unhide T1] at CB0
    generalize catT (catT (oneY lf) (bAt l1) 10) (bAt l2) = F2 at *
    generalize catT (oneY lf) (bAt l1) = F1 at *
    generalize bAt l1 = b1 at *
    generalize bAt l2 = b2 at *
    clear r1 r2 n1 n2 k1 k2 f1 f2 ho EC e1 e2 C0 q0 T1
    go_enter Try.func75, Try.ntmps75
    go_wp2_with fail
    obtain ⟨W, hW, hP, hB, hs1⟩ := one_cb w #[.int .i64 lf, .slice a1 10 c1, .slice a2 2 c2] 48
    rw [hW]
    clear hW
    refine (unhide C0' W hB).mono ?_
    rintro e w1 ⟨rfl, hb1⟩
    have hB1 := hB.trans (hb1.mono hB.size)
    have hP1 := hP.step hb1
    have p0 := hP1.cell 0 (v := .int .i64 lf) rfl
    clear hb1 hB hP C0'
    go_wp2_with fail
    refine (unhide CB0 w1).mono ?_
    rintro e w2 ⟨rfl, hb2⟩
    have hB2 := hB1.trans (hb2.mono hB1.size)
    have hP2 := hP1.step hb2
    have p1 := hP2.cell 1 (v := .slice a1 10 c1) rfl
    have p2 := hP2.cell 2 (v := .slice a2 2 c2) rfl
    clear hb2 hB1 hP1 p0 CB0
    replace hP2 := hide hP2
    go_wp2
    go_loopw [4, 5] (fun tt ti wr => ∃ k : Nat, k ≤ 10 ∧ ti = .int .i64 (k : Int) ∧ tt = .string (F1 k) ∧ wr = w2) (fun _ ti _ => 10 - (intOf ti).toNat)
    case atStart => exact ⟨0, by omega, rfl, rfl, rfl⟩
    case round =>
      obtain ⟨k, hk, rfl, rfl, hw⟩ := hrel
      have hw' := hw.symm
      subst hw'
      clear hw
      by_cases hlt : k < 10
      · have hk' : (k : Int) < 10 := by omega
        obtain ⟨g, o, rfl, hg, d1⟩ := hc1 k hlt
        replace d1 := (hB2.cell (p := ⟨g, o + k, none⟩) hg).trans d1
        have zz := unhide z1 k hlt
        have qq := unhide q1 k (by omega)
        have HC := hide (unhide S1 k)
        generalize b1 k = told at *
        have hadd : ¬ 9223372036854775807 < (F1 k).size + told.size := by omega
        have hadd2 : (F1 k).size + told.size ≤ 9223372036854775807 := by omega
        clear hc1 hc2 zz qq
        go_wp2
        exact ⟨⟨k + 1, by omega, by go_num, by rw [unhide HC], by first | rfl | trivial⟩, by simp [intOf]; omega⟩
      · have hk' : ¬ (k : Int) < 10 := by omega
        obtain rfl : k = 10 := by omega
        rw [← unhide T2]
        clear hc1 S1 T2
        go_wp2
        go_loopw [4, 6] (fun tt ti wr => ∃ k : Nat, k ≤ 2 ∧ ti = .int .i64 (k : Int) ∧ tt = .string (F2 k) ∧ wr = w2) (fun _ ti _ => 2 - (intOf ti).toNat)
        case atStart => exact ⟨0, by omega, rfl, rfl, rfl⟩
        case round =>
          obtain ⟨k, hk, rfl, rfl, hw⟩ := hrel
          have hw' := hw.symm
          subst hw'
          clear hw
          by_cases hlt2 : k < 2
          · have hk2 : (k : Int) < 2 := by omega
            obtain ⟨g, o, rfl, hg, d1⟩ := hc2 k hlt2
            replace d1 := (hB2.cell (p := ⟨g, o + k, none⟩) hg).trans d1
            have zz := unhide z2 k hlt2
            have qq := unhide q2 k (by omega)
            have HC := hide (unhide S2 k)
            generalize b2 k = told at *
            have hadd : ¬ 9223372036854775807 < (F2 k).size + told.size := by omega
            have hadd2 : (F2 k).size + told.size ≤ 9223372036854775807 := by omega
            clear hc2 zz qq
            go_wp2
            exact ⟨⟨k + 1, by omega, by go_num, by rw [unhide HC], by first | rfl | trivial⟩, by simp [intOf]; omega⟩
          · have hk2 : ¬ (k : Int) < 2 := by omega
            obtain rfl : k = 2 := by omega
            clear hc2
            go_wp2
            go_ret2
            exact ⟨rfl, hB2⟩
  | false =>
    rw [ho] at C0
    have EC := hide (show sgT ⟨lf, l1, l2⟩ = ⟨#[]⟩ by unfold sgT; rw [ho]; rfl)
    rw [unhide EC]
    obtain ⟨a1, c1, rfl⟩ := r1.shape
    obtain ⟨a2, c2, rfl⟩ := r2.shape
    unfold sgv at C0 ⊢
    clear r1 r2 n1 n2 ho EC
    show Calls _ _ #[.agg #[.int .i64 lf, .slice a1 (l1.map sv).length c1, .slice a2 (l2.map sv).length c2]] _ _
    generalize ((Sg.mk lf l1 l2).once.map sv).length = k1 at *
    generalize ((Sg.mk lf l1 l2).path.map sv).length = k2 at *
    go_enter Try.func75, Try.ntmps75
    go_wp2_with fail
    obtain ⟨W, hW, hP, hB, hs1⟩ := one_cb w #[.int .i64 lf, .slice a1 k1 c1, .slice a2 k2 c2] 48
    rw [hW]
    clear hW
    refine (unhide C0 W hB).mono ?_
    rintro e w1 ⟨rfl, hb1⟩
    have hB1 := hB.trans (hb1.mono hB.size)
    clear hb1 hB hP C0
    go_wp2
    go_ret2
    exact ⟨rfl, hB1⟩
end Go.Proofs.Ytecononlghjepae

