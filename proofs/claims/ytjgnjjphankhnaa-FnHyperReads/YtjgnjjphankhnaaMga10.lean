/- Merged: SgI1, SgI2, SgI3. -/
import Derived.Test.YtjgnjjphankhnaaMga1
import Derived.Test.YtjgnjjphankhnaaMga2
import Derived.Test.YtjgnjjphankhnaaMga3
import Derived.Test.YtjgnjjphankhnaaMga4
import Derived.Test.YtjgnjjphankhnaaMga5
import Derived.Test.YtjgnjjphankhnaaMga6
import Derived.Test.YtjgnjjphankhnaaMga7
import Derived.Test.YtjgnjjphankhnaaMga8
import Derived.Test.YtjgnjjphankhnaaMga9
/- Keys of a tree by the project's own functions: the keys of a seed, public texts, signatures, over the loaded program. -/
namespace Go.Proofs.Ytjgnjjphankhnaa
open Go.RowKit
theorem sum_four16 (l : List ByteArray) (h : ∀ x ∈ l, x.size = 4) : sumS l = 4 * l.length := by
  induction l with
  | nil => rfl
  | cons x xs ih =>
    show x.size + sumS xs = 4 * (xs.length + 1)
    rw [h x (by simp), ih fun y hy => h y (by simp [hy])]
    omega
theorem keysO_sum (s : ByteArray) (leaf : Int) : sumS (keysO s leaf) ≤ 1048576 := by
  rw [sum_four16 _ (keysO_size s leaf), keysO_len]; omega
set_option maxRecDepth 20000 in
set_option maxHeartbeats 400000 in
theorem keysOf_any (s : ByteArray) (leaf : Int) (hs : s.size ≤ 2000000) (w : World) :
    Calls Try.prog 98 #[.string s, .int .i64 leaf] w fun e w' => (∃ v, e = .returned v ∧ OwnV w' w.heap.size 9 v ((keysO s leaf).map sv)) ∧ Below w.heap.size w w' := by
  have C := hide (fun W => implOnceKey_any s leaf hs W)
  generalize (keysO s leaf).map sv = L at *
  go_enter Try.func98, Try.ntmps98
  go_wp2_with fail
  refine (unhide C w).mono ?_
  rintro e w1 ⟨⟨v1, rfl, o1⟩, hb1⟩
  clear C
  go_wp2
  go_ret
  exact ⟨⟨_, rfl, o1⟩, hb1⟩
set_option maxRecDepth 20000 in
set_option maxHeartbeats 1000000 in
theorem publics_any (s : ByteArray) (hs : s.size ≤ 2000000) (w : World) :
    Calls Try.prog 81 #[.string s] w fun e w' => (∃ v, e = .returned v ∧ OwnV w' w.heap.size 9 v ((lvsO s).map sv)) ∧ Below w.heap.size w w' := by
  obtain ⟨i0, hi, hz0, hz1, hz2⟩ := info_parts infoTxt
  have C1 := hide (fun (k : Nat) W => keysOf_any s (k : Int) hs W)
  have C2 := hide (fun (k : Nat) W v hr => implOncePublic_any (keysO s (k : Int)) (k : Int) v W hr (keysO_sum s _))
  have HK := hide (show ∀ k : Nat, onceP (keysO s (k : Int)) (k : Int) = lefO s k from fun k => rfl)
  have EK : lvsO s = (List.range 4).map (lefO s) := rfl
  rw [EK]
  simp only [unhide HK] at C2
  generalize lefO s = F at *
  obtain ⟨L, hL⟩ : ∃ L : List Value, L = ((List.range 4).map F).map sv := ⟨_, rfl⟩
  have hLl := hide (show L.length = 4 by rw [hL, List.length_map, List.length_map, List.length_range])
  have hLk := hide (show ∀ k, k < 4 → L[k]? = some (.string (F k)) from fun k hk => by rw [hL, List.getElem?_map, List.getElem?_map, List.getElem?_range hk]; rfl)
  rw [← hL]
  replace hL := hide hL
  clear HK EK
  go_enter Try.func81, Try.ntmps81
  go_wp2_with (at_make; refine wpList_make_full _ rfl _ _ 24 rfl w.heap.size 9 i0 (.string ⟨#[]⟩) 1 Try.underlying24 hi hz0 hz1 _ _ _ _ 4 rfl rfl rfl rfl (by rw [hz2]; omega) (by unfold maxLen; omega) (Nat.le_refl _) ?_; intro w1 hown1 hgrow1)
  have hr0 : OwnV w1 w.heap.size 9 (.slice (some ⟨w.heap.size, 0, none⟩) 4 4) (L.take 0 ++ List.replicate (4 - 0) (.string ⟨#[]⟩)) := by
    rw [madeT] at hown1
    unfold OwnV
    simpa using hown1
  have hb0 : Below w.heap.size w w1 := (Below.refl w.heap.size w).grown hgrow1 (Nat.le_refl _) (fun k hk => by cases hk)
  clear hown1 hgrow1
  go_loopw [8] (fun ti wr => ∃ k : Nat, k ≤ 4 ∧ ti = .int .i64 k ∧ Hid (OwnV wr w.heap.size 9 (.slice (some ⟨w.heap.size, 0, none⟩) 4 4) (L.take k ++ List.replicate (4 - k) (.string ⟨#[]⟩))) ∧ Below w.heap.size w wr ∧ w.heap.size < wr.heap.size) (fun ti _ => 4 - (intOf ti).toNat)
  case atStart => exact ⟨0, Nat.zero_le _, rfl, hide hr0, hb0, (hr0.lt _ rfl).2⟩
  case round =>
    obtain ⟨k, hk, rfl, HO, hb, hszz⟩ := hrel
    clear hr0 hb0
    by_cases hlt : k < 4
    · have hk' : (k : Int) < 4 := by omega
      have hk0 : (0 : Int) ≤ (k : Int) := by omega
      have c1 := hide (unhide C1 k)
      have c2 := hide (unhide C2 k)
      have HF := hide (fillV (z := .string ⟨#[]⟩) (unhide hLk k hlt) (unhide hLl))
      generalize F k = y at *
      generalize keysO s (k : Int) = K at *
      clear C1 C2
      go_wp2_with fail
      refine (unhide c1 wr).mono ?_
      rintro e w2 ⟨⟨v2, rfl, o2⟩, hb2⟩
      have hB2 := hb.trans (hb2.mono hb.size)
      have HO2 := hide ((unhide HO).below hb2)
      have hs2 := Nat.lt_of_lt_of_le hszz hb2.size
      replace c2 := hide (unhide c2 w2 v2 o2.rdv)
      clear hb2 hb HO hszz c1 o2
      go_wp2_with fail
      refine (unhide c2).mono ?_
      rintro e w4 ⟨rfl, hb4⟩
      have hB4 := hB2.trans (hb4.mono hB2.size)
      have HO4 := (unhide HO2).below hb4
      have hs4 := Nat.lt_of_lt_of_le hs2 hb4.size
      obtain ⟨u, hu⟩ : ∃ u, (L.take k ++ List.replicate (4 - k) (.string ⟨#[]⟩))[k]? = some u := ⟨_, List.getElem?_eq_getElem (by have := HO4.len; omega)⟩
      have cu := HO4.cell hu
      have cz := HO4.frozen k
      have ho2 := HO4.set k (.string y)
      rw [unhide HF] at ho2
      replace ho2 := hide ho2; replace HO4 := hide HO4
      clear hu hb4 hB2 HO2 hs2 c2
      go_wp2
      go_roundw
      case rel => exact ⟨k + 1, by omega, by go_num, ho2, hB4.setCell (p := ⟨w.heap.size, k, none⟩) (Nat.le_refl _) _, by simpa using hs4⟩
      case measure => simp [intOf]; omega
    · have hk' : ¬ (k : Int) < 4 := by omega
      obtain rfl : k = 4 := by omega
      have e2 : L.take 4 ++ List.replicate (4 - 4) (.string ⟨#[]⟩) = L := by
        rw [Nat.sub_self, List.take_of_length_le (by rw [unhide hLl]; exact Nat.le_refl _)]
        simp
      rw [e2] at HO
      go_wp2
      go_ret
      exact ⟨⟨_, rfl, unhide HO⟩, hb⟩
set_option maxRecDepth 20000 in
set_option maxHeartbeats 400000 in
theorem public_any (s : ByteArray) (hs : s.size ≤ 2000000) (w : World) :
    Calls Try.prog 51 #[.string s] w fun e w' => e = .returned (.string (pubO s)) ∧ Below w.heap.size w w' := by
  have C1 := hide (fun W => publics_any s hs W)
  have C2 := hide (fun W v hr => implRootOf_any (lvsO s) v W hr (fun x hx => by rw [lvsO_size s x hx]; omega))
  have HK := hide (show rootB (lvsO s) = pubO s from rfl)
  rw [unhide HK] at C2
  generalize pubO s = p at *
  go_enter Try.func51, Try.ntmps51
  go_wp2_with fail
  refine (unhide C1 w).mono ?_
  rintro e w1 ⟨⟨v1, rfl, o1⟩, hb1⟩
  replace C2 := hide (unhide C2 w1 v1 o1.rdv)
  clear C1 o1
  go_wp2_with fail
  refine (unhide C2).mono ?_
  rintro e w2 ⟨rfl, hb2⟩
  have hB2 := hb1.trans (hb2.mono hb1.size)
  clear C2 hb1 hb2
  go_wp2
  go_ret
  exact ⟨rfl, hB2⟩
set_option maxRecDepth 20000 in
set_option maxHeartbeats 400000 in
theorem implPublicOf_any (s : ByteArray) (hs : s.size ≤ 2000000) (w : World) :
    Calls Try.prog 25 #[.string s] w fun e w' => e = .returned (.string (pubO s)) ∧ Below w.heap.size w w' := by
  have C1 := hide (fun W => public_any s hs W)
  generalize pubO s = p at *
  go_enter Try.func25, Try.ntmps25
  go_wp2_with fail
  refine (unhide C1 w).mono ?_
  rintro e w1 ⟨rfl, hb1⟩
  clear C1
  go_wp2
  go_ret
  exact ⟨rfl, hb1⟩
set_option maxRecDepth 20000 in
set_option maxHeartbeats 800000 in
theorem once_any (s : ByteArray) (leaf : Int) (m : ByteArray) (hs : s.size ≤ 2000000) (hm : m.size ≤ 4000000) (w : World) :
    Calls Try.prog 82 #[.agg #[.string s, .int .i64 leaf], .string m] w fun e w' => (∃ v, e = .returned v ∧ OwnV w' w.heap.size 9 v ((onceS (keysO s leaf) leaf m).map sv)) ∧ Below w.heap.size w w' := by
  have C1 := hide (fun W => keysOf_any s leaf hs W)
  have C2 := hide (fun W v hr => implOnceSign_any (keysO s leaf) leaf m v W hr (keysO_sum s leaf) hm)
  generalize (onceS (keysO s leaf) leaf m).map sv = L at *
  generalize (keysO s leaf).map sv = K at *
  go_enter Try.func82, Try.ntmps82
  go_wp2_with fail
  obtain ⟨W, hW, hP, hB, hs1⟩ := one_cb w #[.string s, .int .i64 leaf] 71
  rw [hW]
  clear hW
  have KS := hide (fun (W' : World) (h : Below W.heap.size W W') => (show W'.cell? ⟨w.heap.size, 0, none⟩ = some (.string s) ∧ W'.cell? ⟨w.heap.size, 1, none⟩ = some (.int .i64 leaf) from ⟨(hP.step h).cell 0 rfl, (hP.step h).cell 1 rfl⟩))
  have HT0 := (Below.refl W.heap.size W).drew
  clear hP
  go_region_held3 (fun W => W.cell? ⟨w.heap.size, 0, none⟩ = some (.string s) ∧ W.cell? ⟨w.heap.size, 1, none⟩ = some (.int .i64 leaf)) (first | exact unhide KS _ HT0 | exact unhide KS _ hT1 | exact unhide KS _ hT2 | fail) (first
    | (go_at_call 98; refine (unhide C1 _).mono ?_; rintro e w1 ⟨⟨v1, rfl, o1⟩, hb1⟩; have hT1 := HT0.trans (hb1.mono HT0.size); have c2 := hide (unhide C2 w1 v1 o1.rdv); clear hb1 o1)
    | (go_at_call 99; refine (unhide c2).mono ?_; rintro e w2 ⟨⟨v2, rfl, o2⟩, hb2⟩; have hT2 := hT1.trans (hb2.mono hT1.size); have o3 := hide (o2.low (Nat.le_trans hB.size hT1.size)); clear hb2 o2))
  all_goals
    have hF := hB.trans (hT2.mono hB.size)
    clear C1 C2 c2 KS hT1 hT2 HT0
    go_wp2
    go_ret
    exact ⟨⟨_, rfl, unhide o3⟩, hF⟩
set_option maxRecDepth 20000 in
set_option maxHeartbeats 800000 in
theorem path_any (s : ByteArray) (leaf : Int) (hs : s.size ≤ 2000000) (w : World) :
    Calls Try.prog 83 #[.agg #[.string s, .int .i64 leaf]] w fun e w' => (∃ v, e = .returned v ∧ OwnV w' w.heap.size 9 v ((pathL (lvsO s) leaf).map sv)) ∧ Below w.heap.size w w' := by
  have C1 := hide (fun W => publics_any s hs W)
  have C2 := hide (fun W v hr => implPathOf_any (lvsO s) leaf v W hr (fun x hx => by rw [lvsO_size s x hx]; omega))
  generalize (pathL (lvsO s) leaf).map sv = L at *
  generalize (lvsO s).map sv = K at *
  go_enter Try.func83, Try.ntmps83
  go_wp2_with fail
  obtain ⟨W, hW, hP, hB, hs1⟩ := one_cb w #[.string s, .int .i64 leaf] 71
  rw [hW]
  clear hW
  have KS := hide (fun (W' : World) (h : Below W.heap.size W W') => (show W'.cell? ⟨w.heap.size, 0, none⟩ = some (.string s) ∧ W'.cell? ⟨w.heap.size, 1, none⟩ = some (.int .i64 leaf) from ⟨(hP.step h).cell 0 rfl, (hP.step h).cell 1 rfl⟩))
  have HT0 := (Below.refl W.heap.size W).drew
  clear hP
  go_region_held3 (fun W => W.cell? ⟨w.heap.size, 0, none⟩ = some (.string s) ∧ W.cell? ⟨w.heap.size, 1, none⟩ = some (.int .i64 leaf)) (first | exact unhide KS _ HT0 | exact unhide KS _ hT1 | exact unhide KS _ hT2 | fail) (first
    | (go_at_call 81; refine (unhide C1 _).mono ?_; rintro e w1 ⟨⟨v1, rfl, o1⟩, hb1⟩; have hT1 := HT0.trans (hb1.mono HT0.size); have c2 := hide (unhide C2 w1 v1 o1.rdv); clear hb1 o1)
    | (go_at_call 100; refine (unhide c2).mono ?_; rintro e w2 ⟨⟨v2, rfl, o2⟩, hb2⟩; have hT2 := hT1.trans (hb2.mono hT1.size); have o3 := hide (o2.low (Nat.le_trans hB.size hT1.size)); clear hb2 o2))
  all_goals
    have hF := hB.trans (hT2.mono hB.size)
    clear C1 C2 c2 KS hT1 hT2 HT0
    go_wp2
    go_ret
    exact ⟨⟨_, rfl, unhide o3⟩, hF⟩
end Go.Proofs.Ytjgnjjphankhnaa

/- Keys of a tree by the project's own functions: whether a signature is right, and its text, over the loaded program. -/
namespace Go.Proofs.Ytjgnjjphankhnaa
open Go.RowKit
theorem sgOk_parts (lf : Int) (l1 l2 : List ByteArray) : sgOk ⟨lf, l1, l2⟩ = (decide (0 ≤ lf ∧ lf ≤ 3) && (decide (l1.length = 10) && four l1) && (decide (l2.length = 2) && four l2)) := by
  unfold sgOk sgSh
  by_cases h1 : 0 ≤ lf ∧ lf ≤ 3 <;> by_cases h2 : l1.length = 10 <;> by_cases h3 : l2.length = 2 <;> simp [h1, h2, h3]
theorem same_txt16 (a b : ByteArray) : (a.toList == b.toList) = decide (a = b) := by
  have e : ∀ x : ByteArray, x.toList = x.data.toList := fun x => ByteArray.toList_eq x
  by_cases h : a = b
  · subst h
    rw [decide_eq_true rfl]
    exact beq_self_eq_true _
  · rw [decide_eq_false h]
    apply beq_false_of_ne
    rw [e, e]
    exact fun h2 => h (ByteArray.ext (Array.toList_inj.1 h2))
set_option maxRecDepth 20000 in
set_option maxHeartbeats 800000 in
theorem areShorts_any (l : List ByteArray) (n : Nat) (hn : n ≤ 1000) (v : Value) (w : World) (hr : RdV w v (l.map sv)) :
    Calls Try.prog 39 #[v, .int .i64 (n : Int)] w fun e w' => e = .returned (.bool (decide (l.length = n) && four l)) ∧ w' = w := by
  obtain ⟨a, c, rfl, hc⟩ := hr.open
  clear hr
  replace hc : ∀ k, k < l.length → ∃ g o, a = some ⟨g, o, none⟩ ∧ g < w.heap.size ∧ w.cell? ⟨g, o + k, none⟩ = some (.string (bAt l k)) := fun k hk => hc k _ (bAt_get l k hk)
  rw [List.length_map]
  by_cases hl : l.length = n
  · have E1 := hide (fun (h3 : ∀ k, k < n → (bAt l k).size = 4) => show four l = true from four_bAt (l := l) fun k hk => h3 k (by omega))
    have E2 := hide (fun k (hk : k < n) (hx : ¬ (bAt l k).size = 4) => show four l = false from four_no (l := l) k (by omega) hx)
    rw [decide_eq_true hl, Bool.true_and, hl]
    rw [hl] at hc
    generalize four l = R at *
    generalize bAt l = F at *
    replace hc := hide hc
    clear hl
    go_enter Try.func39, Try.ntmps39
    go_wp2
    go_loopw [13] (fun ti wr => ∃ k : Nat, k ≤ n ∧ ti = .int .i64 (k : Int) ∧ Hid (∀ j, j < k → (F j).size = 4) ∧ wr = w) (fun ti _ => n - (intOf ti).toNat)
    case atStart => exact ⟨0, by omega, rfl, hide (fun j hj => by omega), rfl⟩
    case round =>
      obtain ⟨k, hk, rfl, HJ, rfl⟩ := hrel
      by_cases hlt : k < n
      · have hk' : (k : Int) < (n : Int) := by omega
        have hk0 : (0 : Int) ≤ (k : Int) := by omega
        obtain ⟨g, o, rfl, hg, d1⟩ := unhide hc k hlt
        have HX := hide (unhide E2 k hlt)
        have HN := hide (fun (h : (F k).size = 4) j (hj : j < k + 1) => show (F j).size = 4 from by
          by_cases e : j = k
          · subst e; exact h
          · exact unhide HJ j (by omega))
        generalize F k = x at *
        clear hc E1 E2
        by_cases h4 : x.size = 4
        · have h4' : (x.size : Int) = 4 := by omega
          go_wp2
          exact ⟨⟨k + 1, by omega, by go_num, hide (unhide HN h4), by first | rfl | trivial⟩, by simp [intOf]; omega⟩
        · have h4' : ¬ (x.size : Int) = 4 := by omega
          go_wp2
          go_ret
          exact ⟨by rw [unhide HX h4]; rfl, rfl⟩
      · have hk' : ¬ (k : Int) < (n : Int) := by omega
        obtain rfl : k = n := by omega
        have e1 := unhide E1 (unhide HJ)
        subst e1
        clear hc E1 E2 HJ
        go_wp2
        go_ret
        exact ⟨rfl, rfl⟩
  · have hl' : ¬ (l.length : Int) = (n : Int) := by omega
    rw [decide_eq_false hl, Bool.false_and]
    clear hc
    go_enter Try.func39, Try.ntmps39
    go_wp2
    go_ret
    exact ⟨rfl, rfl⟩
set_option maxRecDepth 20000 in
set_option maxHeartbeats 800000 in
theorem implSigOk_any (s : Sg) (v : Value) (w : World) (hr : RdSg w v s) :
    Calls Try.prog 11 #[v] w fun e w' => e = .returned (.bool (sgOk s)) ∧ Below w.heap.size w w' := by
  obtain ⟨lf, l1, l2⟩ := s
  obtain ⟨v1, v2, rfl, r1, r2, q1, q2⟩ := hr
  have C0 := hide (fun W => isLeaf_any lf W)
  have C1 := hide (fun (W : World) (h : Below w.heap.size w W) => areShorts_any l1 10 (by omega) v1 W (r1.below h))
  have C2 := hide (fun (W : World) (h : Below w.heap.size w W) => areShorts_any l2 2 (by omega) v2 W (r2.below h))
  have E := sgOk_parts lf l1 l2
  rw [E]
  obtain ⟨a1, c1, rfl⟩ := r1.shape
  obtain ⟨a2, c2, rfl⟩ := r2.shape
  unfold sgv
  show Calls _ _ #[.agg #[.int .i64 lf, .slice a1 (l1.map sv).length c1, .slice a2 (l2.map sv).length c2]] _ _
  generalize ((Sg.mk lf l1 l2).once.map sv).length = k1 at *
  generalize ((Sg.mk lf l1 l2).path.map sv).length = k2 at *
  generalize (decide (l1.length = 10) && four l1) = b1 at *
  generalize (decide (l2.length = 2) && four l2) = b2 at *
  generalize decide (0 ≤ lf ∧ lf ≤ 3) = b0 at *
  clear r1 r2 q1 q2 E
  go_enter Try.func11, Try.ntmps11
  go_wp2_with fail
  obtain ⟨W, hW, hP, hB, hs1⟩ := one_cb w #[.int .i64 lf, .slice a1 k1 c1, .slice a2 k2 c2] 26
  rw [hW]
  clear hW
  have p0 := hP.cell 0 (v := .int .i64 lf) rfl
  have p1 := hP.cell 1 (v := .slice a1 k1 c1) rfl
  have p2 := hP.cell 2 (v := .slice a2 k2 c2) rfl
  replace C1 := hide (unhide C1 W hB)
  replace C2 := hide (unhide C2 W hB)
  go_wp2_with fail
  refine (unhide C0 W).mono ?_
  rintro e w1 ⟨rfl, hw1⟩
  have hw2 := hw1.symm
  subst hw2
  clear hw1 C0
  cases b0 with
  | false =>
    go_wp2
    go_ret
    exact ⟨rfl, hB⟩
  | true =>
    go_wp2_with fail
    refine (unhide C1).mono ?_
    rintro e w1 ⟨rfl, hw1⟩
    have hw2 := hw1.symm
    subst hw2
    clear hw1
    cases b1 with
    | false =>
      go_wp2
      go_ret
      exact ⟨rfl, hB⟩
    | true =>
      go_wp2_with fail
      refine (unhide C2).mono ?_
      rintro e w1 ⟨rfl, hw1⟩
      have hw2 := hw1.symm
      subst hw2
      clear hw1
      go_wp2
      go_ret
      exact ⟨by cases b2 <;> rfl, hB⟩
set_option maxRecDepth 20000 in
set_option maxHeartbeats 800000 in
theorem implCheckSig_any (p m : ByteArray) (s : Sg) (v : Value) (w : World) (hr : RdSg w v s) (hm : m.size ≤ 1048576) :
    Calls Try.prog 9 #[.string p, .string m, v] w fun e w' => e = .returned (.bool (chkB p m s)) ∧ Below w.heap.size w w' := by
  have C0 := hide (fun (W : World) (h : Below w.heap.size w W) => implSigOk_any s v W (hr.below h))
  obtain ⟨lf, l1, l2⟩ := s
  obtain ⟨v1, v2, rfl, r1, r2, q1, q2⟩ := hr
  cases ho : sgOk ⟨lf, l1, l2⟩ with
  | true =>
    rw [ho] at C0
    have f1 := sgOk_once ho
    have f2 := sgOk_path ho
    obtain ⟨_, k1, k2⟩ := sgOk_shape ho
    have hF : (onceF l1 lf m).size ≤ 4 := by
      unfold onceF
      rw [if_pos (show l1.length = 10 from k1), chopB_size]
      exact Nat.le_refl _
    have C1 := hide (fun (W : World) (h : Below w.heap.size w W) => implOnceFound_any l1 lf m v1 W (r1.below h) (by rw [sum_four16 l1 (four_yes f1)]; have : l1.length = 10 := k1; omega) (by omega))
    have C2 := hide (fun (W : World) (h : Below w.heap.size w W) => implRootBy_any (onceF l1 lf m) lf l2 v2 W (by omega) (r2.below h) (fun x hx => by rw [four_yes f2 x hx]; omega))
    have EC := hide (show chkB p m ⟨lf, l1, l2⟩ = decide (rootBy (onceF l1 lf m) lf l2 = p) by unfold chkB fndB; rw [ho]; rfl)
    rw [unhide EC]
    obtain ⟨a1, c1, rfl⟩ := r1.shape
    obtain ⟨a2, c2, rfl⟩ := r2.shape
    unfold sgv at C0 ⊢
    clear hF
    generalize onceF l1 lf m = fo at *
    generalize rootBy fo lf l2 = ro at *
    clear r1 r2 q1 q2 k1 k2 f1 f2 ho EC
    show Calls _ _ #[_, _, .agg #[.int .i64 lf, .slice a1 (l1.map sv).length c1, .slice a2 (l2.map sv).length c2]] _ _
    generalize ((Sg.mk lf l1 l2).once.map sv).length = k1 at *
    generalize ((Sg.mk lf l1 l2).path.map sv).length = k2 at *
    go_enter Try.func9, Try.ntmps9
    go_wp2_with fail
    obtain ⟨W, hW, hP, hB, hs1⟩ := one_cb w #[.int .i64 lf, .slice a1 k1 c1, .slice a2 k2 c2] 26
    rw [hW]
    clear hW
    have p0 := hP.cell 0 (v := .int .i64 lf) rfl
    have p1 := hP.cell 1 (v := .slice a1 k1 c1) rfl
    have p2 := hP.cell 2 (v := .slice a2 k2 c2) rfl
    go_wp2_with fail
    refine (unhide C0 W hB).mono ?_
    rintro e w1 ⟨rfl, hb1⟩
    have hB1 := hB.trans (hb1.mono hB.size)
    have hP1 := hP.step hb1
    clear p0 p1 p2 hb1 hP hs1 C0 hB
    go_wp2_with fail
    have KS := hide (fun (W' : World) (h : Below w1.heap.size w1 W') => (show W'.cell? ⟨w.heap.size, 0, none⟩ = some (.int .i64 lf) ∧ W'.cell? ⟨w.heap.size, 1, none⟩ = some (.slice a1 k1 c1) ∧ W'.cell? ⟨w.heap.size, 2, none⟩ = some (.slice a2 k2 c2) from ⟨(hP1.step h).cell 0 rfl, (hP1.step h).cell 1 rfl, (hP1.step h).cell 2 rfl⟩))
    have C1' := hide (fun (W' : World) (h : Below w1.heap.size w1 W') => unhide C1 W' (hB1.trans (h.mono hB1.size)))
    have C2' := hide (fun (W' : World) (h : Below w1.heap.size w1 W') => unhide C2 W' (hB1.trans (h.mono hB1.size)))
    have HT0 := (Below.refl w1.heap.size w1).drew
    clear C1 C2 hP1
    go_region_held3 (fun W => W.cell? ⟨w.heap.size, 0, none⟩ = some (.int .i64 lf) ∧ W.cell? ⟨w.heap.size, 1, none⟩ = some (.slice a1 k1 c1) ∧ W.cell? ⟨w.heap.size, 2, none⟩ = some (.slice a2 k2 c2)) (first | exact unhide KS _ HT0 | exact unhide KS _ hT2 | exact unhide KS _ hT3 | fail) (first
      | (go_at_call 35; refine (unhide C1' _ HT0).mono ?_; rintro e w2 ⟨rfl, hb2⟩; have hT2 := HT0.trans (hb2.mono HT0.size); clear hb2)
      | (go_at_call 34; refine (unhide C2' _ hT2).mono ?_; rintro e w3 ⟨rfl, hb3⟩; have hT3 := hT2.trans (hb3.mono hT2.size); clear hb3))
    all_goals
      have hF := hB1.trans (hT3.mono hB1.size)
      clear C1' C2' KS hT2 HT0
      go_wp2
      go_ret
      exact ⟨by show Ending.returned (.bool (ro.toList == p.toList)) = _; rw [same_txt16], hF⟩
  | false =>
    rw [ho] at C0
    have EC := hide (show chkB p m ⟨lf, l1, l2⟩ = false by unfold chkB; rw [ho]; rfl)
    rw [unhide EC]
    obtain ⟨a1, c1, rfl⟩ := r1.shape
    obtain ⟨a2, c2, rfl⟩ := r2.shape
    unfold sgv at C0 ⊢
    clear r1 r2 q1 q2 ho EC
    show Calls _ _ #[_, _, .agg #[.int .i64 lf, .slice a1 (l1.map sv).length c1, .slice a2 (l2.map sv).length c2]] _ _
    generalize ((Sg.mk lf l1 l2).once.map sv).length = k1 at *
    generalize ((Sg.mk lf l1 l2).path.map sv).length = k2 at *
    go_enter Try.func9, Try.ntmps9
    go_wp2_with fail
    obtain ⟨W, hW, hP, hB, hs1⟩ := one_cb w #[.int .i64 lf, .slice a1 k1 c1, .slice a2 k2 c2] 26
    rw [hW]
    clear hW
    have p0 := hP.cell 0 (v := .int .i64 lf) rfl
    have p1 := hP.cell 1 (v := .slice a1 k1 c1) rfl
    have p2 := hP.cell 2 (v := .slice a2 k2 c2) rfl
    go_wp2_with fail
    refine (unhide C0 W hB).mono ?_
    rintro e w1 ⟨rfl, hb1⟩
    have hB1 := hB.trans (hb1.mono hB.size)
    clear p0 p1 p2 hb1 hP hs1 C0 hB
    go_wp2
    go_ret
    exact ⟨rfl, hB1⟩
theorem cat_data (t : ByteArray) (f : Nat → ByteArray) (k : Nat) : (catT t f k).data.toList = t.data.toList ++ ((List.range k).map fun i => (f i).data.toList).flatten := by
  induction k with
  | zero => simp [catT]
  | succ k ih =>
    show (catT t f k ++ f k).data.toList = _
    rw [ByteArray.data_append, Array.toList_append, ih, List.range_succ, List.map_append, List.flatten_append, List.append_assoc]
    simp
theorem map_bAt {α : Type} (l : List ByteArray) (g : ByteArray → α) : l.map g = (List.range l.length).map fun i => g (bAt l i) := by
  apply List.ext_getElem
  · simp
  · intro i h1 h2
    rw [List.getElem_map, List.getElem_map, List.getElem_range]
    unfold bAt
    rw [List.getD_eq_getElem?_getD, List.getElem?_eq_getElem (by simpa using h1)]
    rfl
theorem cat_two (t : ByteArray) (f : Nat → ByteArray) (k : Nat) : catT t f k = t ++ catT ⟨#[]⟩ f k := by
  apply barr_eq
  rw [cat_data, ByteArray.data_append, Array.toList_append, cat_data]
  rfl
theorem joinS_any (l : List ByteArray) (n : Nat) (hl : l.length = n) (h0 : 0 < n) (hn : n ≤ 100) (v : Value) (w : World) (hr : RdV w v (l.map sv)) (hq : CapV v) (h4 : ∀ x ∈ l, x.size = 4) :
    Calls Try.prog 45 #[v, .string ⟨#[]⟩] w fun e w' => e = .returned (.string (catT ⟨#[]⟩ (bAt l) n)) ∧ Below w.heap.size w w' := by
  obtain ⟨a, c, rfl, hc⟩ := hr.open
  have hcap : (l.map sv).length ≤ c := hq _ _ _ rfl
  obtain ⟨g, o, rfl, hg, -⟩ := hc 0 _ (bAt_get l 0 (by omega))
  have hcells : ∀ (j : Nat) x, l[j]? = some x → w.cell? ⟨g, o + j, none⟩ = some (.string x) := by
    intro j x hj
    obtain ⟨g', o', e, _, h⟩ := hc j (.string x) (by rw [List.getElem?_map, hj]; rfl)
    cases e
    exact h
  have hT : (catT ⟨#[]⟩ (bAt l) n).data.toList = (l.map (·.data.toList)).flatten := by
    rw [cat_data, map_bAt l (·.data.toList), hl]
    rfl
  have hj : (⟨(Lib.join (l.map (·.data.toList)) (⟨#[]⟩ : ByteArray).data.toList).toArray⟩ : ByteArray) = catT ⟨#[]⟩ (bAt l) n := by
    apply barr_eq
    rw [hT]
    exact join_flat _
  have hz : (Lib.join (l.map (·.data.toList)) (⟨#[]⟩ : ByteArray).data.toList).length ≤ 140737488355328 := by
    have e : (Lib.join (l.map (·.data.toList)) (⟨#[]⟩ : ByteArray).data.toList) = (catT ⟨#[]⟩ (bAt l) n).data.toList := by rw [← hj]
    rw [e]
    show (catT ⟨#[]⟩ (bAt l) n).size ≤ _
    rw [catT_size ⟨#[]⟩ (bAt l) n (fun i hi => bAt_four (four_of h4) i (by omega)) n (Nat.le_refl _)]
    show 0 + 4 * n ≤ _
    omega
  have CJ := Try.strings_Join g o c l ⟨#[]⟩ w hcells hg (by omega) (by rw [List.length_map] at hcap; exact hcap) hz
  rw [hj] at CJ
  rw [List.length_map]
  exact CJ
set_option maxRecDepth 20000 in
set_option maxHeartbeats 800000 in
theorem implSigText_any (s : Sg) (v : Value) (w : World) (hr : RdSg w v s) :
    Calls Try.prog 16 #[v] w fun e w' => e = .returned (.tuple #[.string (sgT s), .bool (sgOk s)]) ∧ Below w.heap.size w w' := by
  have C0 := hide (fun (W : World) (h : Below w.heap.size w W) => implSigOk_any s v W (hr.below h))
  obtain ⟨lf, l1, l2⟩ := s
  obtain ⟨v1, v2, rfl, r1, r2, q1, q2⟩ := hr
  cases ho : sgOk ⟨lf, l1, l2⟩ with
  | true =>
    rw [ho] at C0
    have f1 := sgOk_once ho
    have f2 := sgOk_path ho
    obtain ⟨_, k1, k2⟩ := sgOk_shape ho
    have CY := hide (fun (W : World) => implByteY_any lf W)
    have C1 := hide (fun (W : World) (h : Below w.heap.size w W) => joinS_any l1 10 k1 (by omega) (by omega) v1 W (r1.below h) q1 (four_yes f1))
    have C2 := hide (fun (W : World) (h : Below w.heap.size w W) => joinS_any l2 2 k2 (by omega) (by omega) v2 W (r2.below h) q2 (four_yes f2))
    have EC := hide (show sgT ⟨lf, l1, l2⟩ = oneY lf ++ catT ⟨#[]⟩ (bAt l1) 10 ++ catT ⟨#[]⟩ (bAt l2) 2 by rw [sgT_is ho, cat_two _ (bAt l2) 2, cat_two _ (bAt l1) 10])
    rw [unhide EC]
    obtain ⟨a1, c1, rfl⟩ := r1.shape
    obtain ⟨a2, c2, rfl⟩ := r2.shape
    unfold sgv at C0 ⊢
    have hz1 := catT_size ⟨#[]⟩ (bAt l1) 10 (fun i hi => bAt_four f1 i (by have : l1.length = 10 := k1; omega)) 10 (Nat.le_refl _)
    have hz2 := catT_size ⟨#[]⟩ (bAt l2) 2 (fun i hi => bAt_four f2 i (by have : l2.length = 2 := k2; omega)) 2 (Nat.le_refl _)
    have hzy := oneY_size lf
    rw [show (⟨#[]⟩ : ByteArray).size = 0 from rfl] at hz1 hz2
    generalize catT ⟨#[]⟩ (bAt l1) 10 = J1 at *
    generalize catT ⟨#[]⟩ (bAt l2) 2 = J2 at *
    generalize oneY lf = y at *
    clear r1 r2 q1 q2 k1 k2 f1 f2 ho EC
    show Calls _ _ #[.agg #[.int .i64 lf, .slice a1 (l1.map sv).length c1, .slice a2 (l2.map sv).length c2]] _ _
    generalize ((Sg.mk lf l1 l2).once.map sv).length = k1 at *
    generalize ((Sg.mk lf l1 l2).path.map sv).length = k2 at *
    have hz3 : (y ++ J1).size = 41 := by rw [ByteArray.size_append]; omega
    go_enter Try.func16, Try.ntmps16
    go_wp2_with fail
    obtain ⟨W, hW, hP, hB, hs1⟩ := one_cb w #[.int .i64 lf, .slice a1 k1 c1, .slice a2 k2 c2] 26
    rw [hW]
    clear hW
    have p0 := hP.cell 0 (v := .int .i64 lf) rfl
    have p1 := hP.cell 1 (v := .slice a1 k1 c1) rfl
    have p2 := hP.cell 2 (v := .slice a2 k2 c2) rfl
    go_wp2_with fail
    refine (unhide C0 W hB).mono ?_
    rintro e w1 ⟨rfl, hb1⟩
    have hB1 := hB.trans (hb1.mono hB.size)
    have hP1 := hP.step hb1
    clear p0 p1 p2 hb1 hP hs1 C0 hB
    go_wp2_with fail
    have KS := hide (fun (W' : World) (h : Below w1.heap.size w1 W') => (show W'.cell? ⟨w.heap.size, 0, none⟩ = some (.int .i64 lf) ∧ W'.cell? ⟨w.heap.size, 1, none⟩ = some (.slice a1 k1 c1) ∧ W'.cell? ⟨w.heap.size, 2, none⟩ = some (.slice a2 k2 c2) from ⟨(hP1.step h).cell 0 rfl, (hP1.step h).cell 1 rfl, (hP1.step h).cell 2 rfl⟩))
    have C1' := hide (fun (W' : World) (h : Below w1.heap.size w1 W') => unhide C1 W' (hB1.trans (h.mono hB1.size)))
    have C2' := hide (fun (W' : World) (h : Below w1.heap.size w1 W') => unhide C2 W' (hB1.trans (h.mono hB1.size)))
    have HT0 := (Below.refl w1.heap.size w1).drew
    clear C1 C2 hP1
    go_region_held3 (fun W => W.cell? ⟨w.heap.size, 0, none⟩ = some (.int .i64 lf) ∧ W.cell? ⟨w.heap.size, 1, none⟩ = some (.slice a1 k1 c1) ∧ W.cell? ⟨w.heap.size, 2, none⟩ = some (.slice a2 k2 c2)) (first | exact unhide KS _ HT0 | exact unhide KS _ hT4 | exact unhide KS _ hT3 | exact unhide KS _ hT2 | fail) (first
      | (go_at_call 45; refine (unhide C2' _ hT3).mono ?_; rintro e w4 ⟨rfl, hb4⟩; have hT4 := hT3.trans (hb4.mono hT3.size); clear hb4)
      | (go_at_call 45; refine (unhide C1' _ hT2).mono ?_; rintro e w3 ⟨rfl, hb3⟩; have hT3 := hT2.trans (hb3.mono hT2.size); clear hb3)
      | (go_at_call 44; refine (unhide CY _).mono ?_; rintro e w2 ⟨rfl, hb2⟩; have hT2 := HT0.trans (hb2.mono HT0.size); clear hb2))
    all_goals
      have hF := hB1.trans (hT4.mono hB1.size)
      clear C1' C2' KS hT2 hT3 HT0
      go_wp2
      go_ret2
      exact ⟨rfl, hF⟩
  | false =>
    rw [ho] at C0
    have EC := hide (show sgT ⟨lf, l1, l2⟩ = ⟨#[]⟩ by unfold sgT; rw [ho]; rfl)
    rw [unhide EC]
    obtain ⟨a1, c1, rfl⟩ := r1.shape
    obtain ⟨a2, c2, rfl⟩ := r2.shape
    unfold sgv at C0 ⊢
    clear r1 r2 q1 q2 ho EC
    show Calls _ _ #[.agg #[.int .i64 lf, .slice a1 (l1.map sv).length c1, .slice a2 (l2.map sv).length c2]] _ _
    generalize ((Sg.mk lf l1 l2).once.map sv).length = k1 at *
    generalize ((Sg.mk lf l1 l2).path.map sv).length = k2 at *
    go_enter Try.func16, Try.ntmps16
    go_wp2_with fail
    obtain ⟨W, hW, hP, hB, hs1⟩ := one_cb w #[.int .i64 lf, .slice a1 k1 c1, .slice a2 k2 c2] 26
    rw [hW]
    clear hW
    have p0 := hP.cell 0 (v := .int .i64 lf) rfl
    have p1 := hP.cell 1 (v := .slice a1 k1 c1) rfl
    have p2 := hP.cell 2 (v := .slice a2 k2 c2) rfl
    go_wp2_with fail
    refine (unhide C0 W hB).mono ?_
    rintro e w1 ⟨rfl, hb1⟩
    have hB1 := hB.trans (hb1.mono hB.size)
    clear p0 p1 p2 hb1 hP hs1 C0 hB
    go_wp2
    go_ret2
    exact ⟨rfl, hB1⟩
end Go.Proofs.Ytjgnjjphankhnaa

/- Keys of a tree by the project's own functions: a signature that is made, and one that is read, over the loaded program. -/
namespace Go.Proofs.Ytjgnjjphankhnaa
open Go.RowKit
theorem cutI16 (T : ByteArray) (i j : Nat) (w : World) (h1 : i ≤ j) (h2 : j ≤ T.size) : (Instr.slice 9 (.string T) (some (.int .i64 (i : Int))) (some (.int .i64 (j : Int))) none).run Try.prog w = .ok (.string (T.extract i j)) w := by
  rw [run_slice_string_if w 9 T .i64 .i64 (i : Int) (j : Int) Try.underlying9, if_pos (by omega), if_pos (by omega)]
  rfl
def prI (f : Nat → ByteArray) (k : Nat) : List ByteArray := (List.range k).map f
theorem prI_len (f : Nat → ByteArray) (k : Nat) : (prI f k).length = k := by unfold prI; rw [List.length_map, List.length_range]
theorem prI_succ (f : Nat → ByteArray) (k : Nat) : prI f (k + 1) = prI f k ++ [f k] := by unfold prI; rw [List.range_succ, List.map_append]; rfl
set_option maxRecDepth 20000 in
set_option maxHeartbeats 800000 in
theorem shortsOf_any (t : ByteArray) (n : Nat) (ht : t.size = 4 * n) (hn : n ≤ 1000) (F : Nat → ByteArray) (hF : ∀ k, k < n → t.extract (k * 4) (k * 4 + 4) = F k) (w : World) :
    Calls Try.prog 43 #[.string t] w fun e w' => (∃ v, e = .returned v ∧ OwnV w' w.heap.size 9 v ((prI F n).map sv)) ∧ Below w.heap.size w w' := by
  obtain ⟨i0, hi, hz0, hz1, hz2⟩ := info_parts infoTxt
  have v1' : (t.size : Int) / 4 = (n : Int) := by omega
  have v1 : (t.size : Int).tdiv 4 = (n : Int) := by rw [Int.tdiv_eq_ediv_of_nonneg (by omega)]; omega
  have HS := hide (fun k (hk : k < n) (W : World) => show (Instr.slice 9 (.string t) (some (.int .i64 ((k * 4 : Nat) : Int))) (some (.int .i64 ((k * 4 + 4 : Nat) : Int))) none).run Try.prog W = .ok (.string (F k)) W by rw [cutI16 t (k * 4) (k * 4 + 4) W (by omega) (by omega), hF k hk])
  have HC := hide (fun k (hk : k < n) (W : World) => stringsClone14_any (F k) W (by rw [← hF k hk, ByteArray.size_extract]; omega))
  clear hF
  go_enter Try.func43, Try.ntmps43
  go_wp2_with (at_make; refine wpList_make_own _ rfl _ _ 24 rfl w.heap.size 9 i0 (.string ⟨#[]⟩) 1 Try.underlying24 hi hz0 hz1 _ _ _ n rfl rfl (by omega) (by rw [hz2]; omega) (by unfold maxLen; omega) (Nat.le_refl _) ?_; intro w1 hown1 hgrow1)
  have hb1 : Below w.heap.size w w1 := (Below.refl _ _).grown hgrow1 (Nat.le_refl _) (fun k hk => by cases hk)
  have hown0 : OwnV w1 w.heap.size 9 (.slice (some ⟨w.heap.size, 0, none⟩) 0 n) ((prI F 0).map sv) := hown1
  clear hown1 hgrow1
  go_loopw [3, 4] (fun tv ti wr => ∃ k m : Nat, k ≤ n ∧ m = k * 4 ∧ ti = .int .i64 (m : Int) ∧ Hid (OwnV wr w.heap.size 9 tv ((prI F k).map sv)) ∧ Below w.heap.size w wr) (fun _ ti _ => 4 * n - (intOf ti).toNat)
  case atStart => exact ⟨0, 0, by omega, rfl, rfl, hide hown0, hb1⟩
  case round =>
    clear hown0 hb1
    obtain ⟨k, m, hk, hm, rfl, HO, hB⟩ := hrel
    by_cases hlt : k < n
    · have hk' : (m : Int) < (t.size : Int) := by omega
      obtain ⟨m4, hm4⟩ : ∃ m4, m4 = k * 4 + 4 := ⟨_, rfl⟩
      have t1 : IntKind.i64.wrap ((m : Int) + 4) = (m4 : Int) := by rw [IntKind.wrap_i64]; omega
      have hsl := unhide HS k hlt
      have hcl := hide (unhide HC k hlt)
      rw [← hm4, ← hm] at hsl
      have HP := hide (prI_succ F k)
      have hpl : ((prI F k).map sv).length ≤ 1000 := by rw [List.length_map, prI_len]; omega
      generalize F k = x at *
      have hmm := hide hm
      have hmm4 := hide hm4
      have hlt4 : m4 ≤ 4 * n := by omega
      have hm5 : m < m4 := by omega
      clear HS HC hm hm4
      replace hpl := hide hpl
      go_wp2_with fail
      refine (unhide hcl wr).mono ?_
      rintro e w3 ⟨rfl, hb3⟩
      have hB3 := hB.trans (hb3.mono hB.size)
      have HO3 := hide ((unhide HO).below hb3)
      have hsz3 := hB3.size
      clear hb3 hB hcl HO
      go_wp2_with (at_builtin; refine wpList_append_val (w := w3) rfl (.tmp 15) (.tmp 22) 24 rfl w.heap.size 9 i0 (.string ⟨#[]⟩) 16 Try.underlying24 hi hz0 hz1 hz2 rfl u3 _ (by rfl) (unhide HO3) (.string x) rfl (by rfl) (unhide hpl) (by decide) hB3 (Nat.le_refl _) hsz3 ?_; intro v' w8 ho8 hB8)
      have ho9 := hide (show OwnV w8 w.heap.size 9 v' ((prI F (k + 1)).map sv) by rw [unhide HP, List.map_append]; exact ho8)
      clear ho8 HO3 HP hsl
      go_wp2
      exact ⟨⟨k + 1, m4, by omega, by rw [unhide hmm4]; omega, rfl, ho9, hB8⟩, by simp [intOf]; omega⟩
    · have hk' : ¬ (m : Int) < (t.size : Int) := by omega
      obtain rfl : k = n := by omega
      clear HS HC
      go_wp2
      go_ret
      exact ⟨⟨_, rfl, unhide HO⟩, hB⟩
set_option maxRecDepth 20000 in
set_option maxHeartbeats 800000 in
theorem sign_any (s : ByteArray) (leaf : Int) (m : ByteArray) (hs : s.size ≤ 2000000) (hm : m.size ≤ 1048576) (w : World) :
    Calls Try.prog 55 #[.agg #[.string s, .int .i64 leaf], .string m] w fun e w' => (∃ v, e = .returned v ∧ OwnSg w' w.heap.size v ⟨leaf, onceS (keysO s leaf) leaf m, pathL (lvsO s) leaf⟩) ∧ Below w.heap.size w w' := by
  have C1 := hide (fun W => once_any s leaf m hs (by omega) W)
  have C2 := hide (fun W => path_any s leaf hs W)
  generalize onceS (keysO s leaf) leaf m = L1 at *
  generalize pathL (lvsO s) leaf = L2 at *
  go_enter Try.func55, Try.ntmps55
  go_wp2_with fail
  obtain ⟨V, hV, hKV, hR, hBV, hs2⟩ := two_cb w #[.string s, .int .i64 leaf] #[.int .i64 0, .slice none 0 0, .slice none 0 0] 71 26
  rw [hV]
  clear hV
  have hwV : w.heap.size ≤ V.heap.size := by omega
  have hWle : w.heap.size ≤ w.heap.size + 1 := by omega
  have KS := hide (fun (W' : World) (h : Below V.heap.size V W') => (show W'.cell? ⟨w.heap.size, 0, none⟩ = some (.string s) ∧ W'.cell? ⟨w.heap.size, 1, none⟩ = some (.int .i64 leaf) from ⟨(hKV.step h).cell 0 rfl, (hKV.step h).cell 1 rfl⟩))
  have KF := hide (fun (W' : World) (h : Below V.heap.size V W') (x0 x1 x2 : Value) => (show ((( W'.setCell ⟨w.heap.size + 1, 0, none⟩ x0).setCell ⟨w.heap.size + 1, 1, none⟩ x1).setCell ⟨w.heap.size + 1, 2, none⟩ x2).cell? ⟨w.heap.size, 0, none⟩ = some (.string s) ∧ (((W'.setCell ⟨w.heap.size + 1, 0, none⟩ x0).setCell ⟨w.heap.size + 1, 1, none⟩ x1).setCell ⟨w.heap.size + 1, 2, none⟩ x2).cell? ⟨w.heap.size, 1, none⟩ = some (.int .i64 leaf) from
    have hq := ((((hKV.step h).set_other (h := (w.heap.size + 1)) (k := 0) (by omega) x0).set_other (h := (w.heap.size + 1)) (k := 1) (by omega) x1).set_other (h := (w.heap.size + 1)) (k := 2) (by omega) x2)
    ⟨hq.cell 0 rfl, hq.cell 1 rfl⟩))
  have HR := hide (fun (W' : World) (h : Below V.heap.size V W') => hR.step h)
  have HT0 := (Below.refl V.heap.size V).drew
  clear hR hKV
  go_region_held3 (fun W' => W'.cell? ⟨w.heap.size, 0, none⟩ = some (.string s) ∧ W'.cell? ⟨w.heap.size, 1, none⟩ = some (.int .i64 leaf)) (first | exact unhide KS _ HT0 | exact unhide KF _ hT2 _ _ _ | exact unhide KS _ hT2 | exact unhide KS _ hT1 | fail) (first
    | (go_at_call 82; refine (unhide C1 _).mono ?_; rintro e w1 ⟨⟨v1, rfl, o1⟩, hb1⟩; have hT1 := HT0.trans (hb1.mono HT0.size); have s1 := o1.shape; obtain ⟨a1, c1, rfl⟩ := s1; replace o1 := hide o1; generalize hn1 : (L1.map sv).length = n1 at *)
    | (go_at_call 83; refine (unhide C2 _).mono ?_; rintro e w2 ⟨⟨v2, rfl, o2⟩, hb2⟩; have hT2 := hT1.trans (hb2.mono hT1.size); have s2 := o2.shape; obtain ⟨a2, c2, rfl⟩ := s2; replace o2 := hide o2; generalize hn2 : (L2.map sv).length = n2 at *; have hR2 := unhide HR _ hT2; have r0 := hR2.cell 0 (v := .int .i64 0) rfl; have r1 := hR2.cell 1 (v := .slice none 0 0) rfl; have r2 := hR2.cell 2 (v := .slice none 0 0) rfl; have g0 := hR2.frozen 0; have g1 := hR2.frozen 1; have g2 := hR2.frozen 2; replace hR2 := hide hR2))
  all_goals
    have hsT : V.heap.size ≤ w1.heap.size := hT1.size
    have o5 := hide ((unhide o1).below hb2)
    have ap := hide (show ∀ k, (Value.slice a1 n1 c1).ownBlock = some k → (Value.slice a2 n2 c2).ownBlock ≠ some k from fun k hk hk2 => by
      have h1 := ((unhide o1).lt k hk).2
      have h2 := ((unhide o2).lt k hk2).1
      omega)
    have of5 := hide ((unhide hR2).off (unhide o5) (by decide))
    have of4 := hide ((unhide hR2).off (unhide o2) (by decide))
    have hB4 := hBV.trans (hT2.mono hBV.size)
    have o4' := hide ((unhide o2).low (Nat.le_trans hwV hsT))
    have o5' := hide ((unhide o5).low (show w.heap.size ≤ V.drew.heap.size from hwV))
    have hF := hide ((((unhide hR2).set 0 (.int .i64 leaf)).set 1 (.slice a1 n1 c1)).set 2 (.slice a2 n2 c2))
    have hBF := hide (((hB4.setCell (p := ⟨w.heap.size + 1, 0, none⟩) hWle (.int .i64 leaf)).setCell (p := ⟨w.heap.size + 1, 1, none⟩) hWle (.slice a1 n1 c1)).setCell (p := ⟨w.heap.size + 1, 2, none⟩) hWle (.slice a2 n2 c2))
    have o6 := hide ((((unhide o5').setO (w.heap.size + 1) 0 (.int .i64 leaf) (unhide of5)).setO (w.heap.size + 1) 1 (.slice a1 n1 c1) (unhide of5)).setO (w.heap.size + 1) 2 (.slice a2 n2 c2) (unhide of5))
    have o7 := hide ((((unhide o4').setO (w.heap.size + 1) 0 (.int .i64 leaf) (unhide of4)).setO (w.heap.size + 1) 1 (.slice a1 n1 c1) (unhide of4)).setO (w.heap.size + 1) 2 (.slice a2 n2 c2) (unhide of4))
    clear o1 o2 o5 o4' o5' of5 of4 hB4 hR2 KS KF HR HT0 hT1 hT2 hb1 hb2 r0 r1 r2 g0 g1 g2 C1 C2
    go_wp2
    exact bodyPost_ret (results_cb (by exact Try.results55) _ _ _ _ _ _ rfl (unhide hF) Try.underlying26 (by kernel_rfl)) rfl ⟨⟨_, rfl, _, _, rfl, unhide o6, unhide o7, unhide ap⟩, unhide hBF⟩
set_option maxRecDepth 20000 in
set_option maxHeartbeats 800000 in
theorem implSignAt_any (s : ByteArray) (leaf : Int) (m : ByteArray) (hs : s.size ≤ 2000000) (hm : m.size ≤ 1048576) (w : World) :
    Calls Try.prog 27 #[.string s, .int .i64 leaf, .string m] w fun e w' => (∃ v, e = .returned (.tuple #[v, .bool (decide (0 ≤ leaf ∧ leaf ≤ 3))]) ∧ OwnSg w' w.heap.size v (sgnS s leaf m)) ∧ Below w.heap.size w w' := by
  have C0 := hide (fun W => isLeaf_any leaf W)
  by_cases h : 0 ≤ leaf ∧ leaf ≤ 3
  · have C1 := hide (fun W => sign_any s leaf m hs hm W)
    have ES := hide (show sgnS s leaf m = ⟨leaf, onceS (keysO s leaf) leaf m, pathL (lvsO s) leaf⟩ by unfold sgnS; rw [if_pos h])
    rw [← unhide ES] at C1
    rw [decide_eq_true h]
    rw [decide_eq_true h] at C0
    generalize sgnS s leaf m = S at *
    clear ES h
    go_enter Try.func27, Try.ntmps27
    go_wp2_with fail
    obtain ⟨W, hW, hR, hB, hs1⟩ := one_cb w #[.int .i64 0, .slice none 0 0, .slice none 0 0] 26
    rw [hW]
    clear hW
    refine (unhide C0 W).mono ?_
    rintro e w1 ⟨rfl, hw1⟩
    have hw2 := hw1.symm
    subst hw2
    clear hw1 C0
    go_wp2_with fail
    refine (unhide C1 W).mono ?_
    rintro e w2 ⟨⟨v2, rfl, o2⟩, hb2⟩
    obtain ⟨a1, n1, c1, a2, n2, c2, rfl⟩ := o2.open
    have T2 := hB.trans (hb2.mono hB.size)
    have hR2 := hR.step hb2
    have of2 := hide (OwnSg.offs (lf := S.leaf) o2 hR2 (by decide))
    have r0 := hR2.cell 0 (v := .int .i64 0) rfl
    have r1 := hR2.cell 1 (v := .slice none 0 0) rfl
    have r2 := hR2.cell 2 (v := .slice none 0 0) rfl
    have g0 := hR2.frozen 0
    have g1 := hR2.frozen 1
    have g2 := hR2.frozen 2
    have G8 := gSet (gSet (gSet (gR9 w2 (some w.heap.size)) 0 (.int .i64 S.leaf)) 1 (.slice a1 n1 c1)) 2 (.slice a2 n2 c2)
    have hF := hide (((hR2.set 0 (.int .i64 S.leaf)).set 1 (.slice a1 n1 c1)).set 2 (.slice a2 n2 c2))
    have T8 := hide (T2.grown G8 T2.size (fun k hk => by cases hk; exact Nat.le_refl _))
    have o9 := hide ((OwnSg.grownO (lf := S.leaf) o2 G8 (unhide of2).1 (unhide of2).2).low hB.size)
    clear hb2 T2 hR hR2 o2 of2 G8 C1 hB
    go_wp2
    exact bodyPost_ret (results_cb_tmp (by exact Try.results27) _ _ _ _ _ _ rfl (unhide hF) Try.underlying26 (by kernel_rfl)) rfl ⟨⟨_, rfl, unhide o9⟩, unhide T8⟩
  · have ES := hide (show sgnS s leaf m = ⟨0, [], []⟩ by unfold sgnS; rw [if_neg h])
    rw [unhide ES, decide_eq_false h]
    rw [decide_eq_false h] at C0
    clear ES h
    go_enter Try.func27, Try.ntmps27
    go_wp2_with fail
    obtain ⟨W, hW, hR, hB, hs1⟩ := one_cb w #[.int .i64 0, .slice none 0 0, .slice none 0 0] 26
    rw [hW]
    clear hW
    refine (unhide C0 W).mono ?_
    rintro e w1 ⟨rfl, hw1⟩
    have hw2 := hw1.symm
    subst hw2
    clear hw1 C0
    have r0 := hR.cell 0 (v := .int .i64 0) rfl
    have r1 := hR.cell 1 (v := .slice none 0 0) rfl
    have r2 := hR.cell 2 (v := .slice none 0 0) rfl
    have g0 := hR.frozen 0
    have g1 := hR.frozen 1
    have g2 := hR.frozen 2
    go_wp2
    have hF := hide (((hR.set 0 (.int .i64 0)).set 1 (.slice none 0 0)).set 2 (.slice none 0 0))
    have hBF := hide (((hB.setCell (p := ⟨w.heap.size, 0, none⟩) (Nat.le_refl _) (.int .i64 0)).setCell (p := ⟨w.heap.size, 1, none⟩) (Nat.le_refl _) (.slice none 0 0)).setCell (p := ⟨w.heap.size, 2, none⟩) (Nat.le_refl _) (.slice none 0 0))
    exact bodyPost_ret (results_cb_tmp (by exact Try.results27) _ _ _ _ _ _ rfl (unhide hF) Try.underlying26 (by kernel_rfl)) rfl ⟨⟨_, rfl, _, _, rfl, OwnV.nil _ _ _, OwnV.nil _ _ _, fun k hk => by cases hk⟩, unhide hBF⟩
set_option maxRecDepth 20000 in
set_option maxHeartbeats 800000 in
theorem implReadSig_any (t : ByteArray) (w : World) :
    Calls Try.prog 14 #[.string t] w fun e w' => (∃ v, e = .returned (.tuple #[v, .bool (rdOk t)]) ∧ OwnSg w' w.heap.size v (rdS t)) ∧ Below w.heap.size w w' := by
  by_cases h49 : t.size = 49
  · have h49' : (t.size : Int) = 49 := by omega
    have hix : ∀ h : 0 < t.size, (t[0]'h).toNat = byA t 0 := fun h => byA_at t 0 h
    have hbl := byA_lt t 0
    obtain ⟨b, hb⟩ : ∃ b, b = byA t 0 := ⟨_, rfl⟩
    rw [← hb] at hix hbl
    have q0 : IntKind.i64.wrap (b : Int) = (b : Int) := by rw [IntKind.wrap_i64]; omega
    have h0s : 0 < t.size := by omega
    have h1t := fun (W : World) => run_slice_string_l W 9 t Try.underlying9 .i64 1 (by omega) (by omega)
    have C0 := hide (fun W => isLeaf_any (b : Int) W)
    obtain ⟨T, hT⟩ : ∃ T, T = t.extract 1 49 := ⟨_, rfl⟩
    have hTs : T.size = 48 := by rw [hT, ByteArray.size_extract]; omega
    by_cases h4 : b < 4
    · have hin : rdIn t := ⟨h49, by omega⟩
      have ER := hide (show rdS t = ⟨(b : Int), prI (prtB t) 10, prI (fun i => prtB t (10 + i)) 2⟩ by unfold rdS; rw [if_pos (rdOk_of hin), hb]; rfl)
      rw [unhide ER, rdOk_of hin]
      rw [decide_eq_true (show 0 ≤ (b : Int) ∧ (b : Int) ≤ 3 by omega)] at C0
      have C1 := hide (fun W => shortsOf_any (T.extract 0 40) 10 (by rw [ByteArray.size_extract]; omega) (by omega) (prtB t) (fun k hk => by
        unfold prtB
        rw [hT, ByteArray.extract_extract, ByteArray.extract_extract]
        congr 1 <;> omega) W)
      have C2 := hide (fun W => shortsOf_any (T.extract 40 T.size) 2 (by rw [ByteArray.size_extract]; omega) (by omega) (fun i => prtB t (10 + i)) (fun k hk => by
        unfold prtB
        rw [hTs, hT, ByteArray.extract_extract, ByteArray.extract_extract]
        congr 1 <;> omega) W)
      generalize prI (prtB t) 10 = L1 at *
      generalize prI (fun i => prtB t (10 + i)) 2 = L2 at *
      have hc1 : ∀ W : World, (Instr.slice 9 (.string T) none (some (.int .i64 40)) none).run Try.prog W = .ok (.string (T.extract 0 40)) W := fun W => run_slice_string_h W 9 T Try.underlying9 .i64 40 (by omega) (by omega)
      have hc2 : ∀ W : World, (Instr.slice 9 (.string T) (some (.int .i64 40)) none none).run Try.prog W = .ok (.string (T.extract 40 T.size)) W := fun W => run_slice_string_l W 9 T Try.underlying9 .i64 40 (by omega) (by omega)
      generalize T.extract 0 40 = Ta at *
      generalize T.extract 40 T.size = Tb at *
      replace hb := hide hb
      clear ER hin
      go_enter Try.func14, Try.ntmps14
      go_wp2
      obtain ⟨W, hW, hR, hB, hs1⟩ := one_cb w #[.int .i64 0, .slice none 0 0, .slice none 0 0] 26
      rw [hW]
      clear hW
      go_quiet (fail)
      rw [← hT]
      have hRV := hR.step (bDN (Below.refl _ _) nq)
      have hBV := bDN hB nq
      have hwV : w.heap.size < (W.drewN nq).heap.size := hs1
      generalize W.drewN nq = V at *
      replace hT := hide hT
      clear hB hR hs1 hix h1t W h49' h49 q0 hbl h0s h4 hTs
      go_wp2_with fail
      refine (unhide C0 V).mono ?_
      rintro e w1 ⟨rfl, hw1⟩
      have hw2 := hw1.symm
      subst hw2
      clear hw1 C0
      go_wp2_with fail
      have HR := hide (fun (W' : World) (h : Below V.heap.size V W') => hRV.step h)
      have HT0 := (Below.refl V.heap.size V).drew
      clear hRV
      go_region_held3 (fun _ => True) (first | trivial | fail) (first
        | (go_at_call 43; have hq1 := hT1; refine (unhide C2 _).mono ?_; rintro e w2 ⟨⟨v2, rfl, o2⟩, hb2⟩; have hT2 := hT1.trans (hb2.mono hT1.size); have s2 := o2.shape; obtain ⟨a2, c2, rfl⟩ := s2; replace o2 := hide o2; generalize hn2 : (L2.map sv).length = n2 at *; have hR2 := unhide HR _ hT2; have r0 := hR2.cell 0 (v := .int .i64 0) rfl; have r1 := hR2.cell 1 (v := .slice none 0 0) rfl; have r2 := hR2.cell 2 (v := .slice none 0 0) rfl; have g0 := hR2.frozen 0; have g1 := hR2.frozen 1; have g2 := hR2.frozen 2; replace hR2 := hide hR2)
        | (go_at_call 43; refine (unhide C1 _).mono ?_; rintro e w1 ⟨⟨v1, rfl, o1⟩, hb1⟩; have hT1 := HT0.trans (hb1.mono HT0.size); have s1 := o1.shape; obtain ⟨a1, c1, rfl⟩ := s1; replace o1 := hide o1; generalize hn1 : (L1.map sv).length = n1 at *))
      all_goals
        have hsT : V.heap.size ≤ w1.heap.size := hT1.size
        have o5 := hide ((unhide o1).below hb2)
        have ap := hide (show ∀ k, (Value.slice a1 n1 c1).ownBlock = some k → (Value.slice a2 n2 c2).ownBlock ≠ some k from fun k hk hk2 => by
          have h1 := ((unhide o1).lt k hk).2
          have h2 := ((unhide o2).lt k hk2).1
          omega)
        have of5 := hide ((unhide hR2).off (unhide o5) (by decide))
        have of4 := hide ((unhide hR2).off (unhide o2) (by decide))
        have hB4 := hBV.trans (hT2.mono hBV.size)
        have o4' := hide ((unhide o2).low (show w.heap.size ≤ w1.heap.size by omega))
        have o5' := hide ((unhide o5).low (show w.heap.size ≤ V.drew.heap.size from Nat.le_of_lt hwV))
        have hF := hide ((((unhide hR2).set 0 (.int .i64 (b : Int))).set 1 (.slice a1 n1 c1)).set 2 (.slice a2 n2 c2))
        have hBF := hide (((hB4.setCell (p := ⟨w.heap.size, 0, none⟩) (Nat.le_refl _) (.int .i64 (b : Int))).setCell (p := ⟨w.heap.size, 1, none⟩) (Nat.le_refl _) (.slice a1 n1 c1)).setCell (p := ⟨w.heap.size, 2, none⟩) (Nat.le_refl _) (.slice a2 n2 c2))
        have o6 := hide ((((unhide o5').setO w.heap.size 0 (.int .i64 (b : Int)) (unhide of5)).setO w.heap.size 1 (.slice a1 n1 c1) (unhide of5)).setO w.heap.size 2 (.slice a2 n2 c2) (unhide of5))
        have o7 := hide ((((unhide o4').setO w.heap.size 0 (.int .i64 (b : Int)) (unhide of4)).setO w.heap.size 1 (.slice a1 n1 c1) (unhide of4)).setO w.heap.size 2 (.slice a2 n2 c2) (unhide of4))
        clear o1 o2 o5 o4' o5' of5 of4 hB4 hR2 HR HT0 hT1 hT2 hb1 hb2 r0 r1 r2 g0 g1 g2 C1 C2 hc1 hc2
        go_wp2
        exact bodyPost_ret (results_cb_tmp (by exact Try.results14) _ _ _ _ _ _ rfl (unhide hF) Try.underlying26 (by kernel_rfl)) rfl ⟨⟨_, rfl, _, _, rfl, unhide o6, unhide o7, unhide ap⟩, unhide hBF⟩
    · have hno : rdOk t = false := by
        cases e : rdOk t with
        | false => rfl
        | true => exact absurd (rdOk_in e).2 (by rw [← hb]; exact h4)
      have ER := hide (show rdS t = ⟨0, [], []⟩ by unfold rdS; rw [hno]; rfl)
      rw [unhide ER, hno]
      rw [decide_eq_false (show ¬ (0 ≤ (b : Int) ∧ (b : Int) ≤ 3) by omega)] at C0
      replace hb := hide hb
      clear ER hno
      go_enter Try.func14, Try.ntmps14
      go_wp2
      obtain ⟨W, hW, hR, hB, hs1⟩ := one_cb w #[.int .i64 0, .slice none 0 0, .slice none 0 0] 26
      rw [hW]
      clear hW
      go_quiet (fail)
      have hRV := hR.step (bDN (Below.refl _ _) nq)
      have hBV := bDN hB nq
      have hwV : w.heap.size < (W.drewN nq).heap.size := hs1
      generalize W.drewN nq = V at *
      clear hB hR hs1 hix h1t W
      go_wp2_with fail
      refine (unhide C0 V).mono ?_
      rintro e w1 ⟨rfl, hw1⟩
      have hw2 := hw1.symm
      subst hw2
      clear hw1 C0
      have r0 := hRV.cell 0 (v := .int .i64 0) rfl
      have r1 := hRV.cell 1 (v := .slice none 0 0) rfl
      have r2 := hRV.cell 2 (v := .slice none 0 0) rfl
      have g0 := hRV.frozen 0
      have g1 := hRV.frozen 1
      have g2 := hRV.frozen 2
      go_wp2
      have hF := hide (((hRV.set 0 (.int .i64 0)).set 1 (.slice none 0 0)).set 2 (.slice none 0 0))
      have hBF := hide (((hBV.setCell (p := ⟨w.heap.size, 0, none⟩) (Nat.le_refl _) (.int .i64 0)).setCell (p := ⟨w.heap.size, 1, none⟩) (Nat.le_refl _) (.slice none 0 0)).setCell (p := ⟨w.heap.size, 2, none⟩) (Nat.le_refl _) (.slice none 0 0))
      exact bodyPost_ret (results_cb_tmp (by exact Try.results14) _ _ _ _ _ _ rfl (unhide hF) Try.underlying26 (by kernel_rfl)) rfl ⟨⟨_, rfl, _, _, rfl, OwnV.nil _ _ _, OwnV.nil _ _ _, fun k hk => by cases hk⟩, unhide hBF⟩
  · have hno : rdOk t = false := by
      cases e : rdOk t with
      | false => rfl
      | true => exact absurd (rdOk_in e).1 h49
    have ER := hide (show rdS t = ⟨0, [], []⟩ by unfold rdS; rw [hno]; rfl)
    rw [unhide ER, hno]
    have h49' : ¬ (t.size : Int) = 49 := by omega
    clear ER hno h49
    go_enter Try.func14, Try.ntmps14
    go_wp2
    obtain ⟨W, hW, hR, hB, hs1⟩ := one_cb w #[.int .i64 0, .slice none 0 0, .slice none 0 0] 26
    rw [hW]
    exact bodyPost_ret (results_cb_tmp (by exact Try.results14) _ _ _ _ _ _ rfl hR Try.underlying26 (by kernel_rfl)) rfl ⟨⟨_, rfl, _, _, rfl, OwnV.nil _ _ _, OwnV.nil _ _ _, fun k hk => by cases hk⟩, hB⟩
end Go.Proofs.Ytjgnjjphankhnaa

