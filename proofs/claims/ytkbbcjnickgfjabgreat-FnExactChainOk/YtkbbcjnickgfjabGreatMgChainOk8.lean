/- Merged: Bok8, EqR, Ent0, ThI1. -/
import Derived.Test.YtkbbcjnickgfjabGreatMgChainOk1
import Derived.Test.YtkbbcjnickgfjabGreatMgChainOk2
import Derived.Test.YtkbbcjnickgfjabGreatMgChainOk3
import Derived.Test.YtkbbcjnickgfjabGreatMgChainOk4
import Derived.Test.YtkbbcjnickgfjabGreatMgChainOk5
import Derived.Test.YtkbbcjnickgfjabGreatMgChainOk6
import Derived.Test.YtkbbcjnickgfjabGreatMgChainOk7
import Derived.Deep.DeepCutAuto
import Derived.Deep.CutRange
/- Books by the given model: a record entered, over the loaded program. -/
namespace Go.Proofs.YtkbbcjnickgfjabGreat
open Go.RowKit
/-- The six cells of a book. -/
def bkc (b : Bk) (u : Value) : Array Value := #[.string b.wd, .int .i64 b.tr, u, .int .i64 b.la, .string b.ch, .int .i64 b.ct]
theorem bkv_c (b : Bk) (u : Value) : bkv b u = .agg (bkc b u) := rfl
theorem bkc_size (b : Bk) (u : Value) : (bkc b u).size = 6 := rfl
theorem bkc_all (b : Bk) (a : Option Addr) (n c : Nat) : (bkc b (.slice a n c)).all (·.oneCell') = true := bkc_one _ _ _ _ _ _ _ _
theorem rcT_le (r : Rc) : (rcT r).size ≤ 2000 := by
  unfold rcT
  split
  · rename_i h
    have h1 := (rcOk_iff r).1 h
    show (rcL r).toArray.size ≤ 2000
    rw [List.size_toArray]
    unfold rcL
    rw [List.length_cons]
    rcases h1 with ⟨h2, h3, _, _⟩ | ⟨h2, _, _, h5, h6⟩ | ⟨h2, h3, _, _⟩ | ⟨h2, _, _, h5, h6⟩
    · rw [if_pos h2]
      have : r.tx.data.toList.length = r.tx.size := rfl
      omega
    · rw [if_neg (by omega), if_neg (by omega)]
      have := (varB_len r.nm.toNat).2; omega
    · rw [if_neg (by omega), if_pos h2]
      have h9 := thT_le ((thOk_iff r.th).2 h3)
      have : (thL r.th).length = (thT r.th).size := by unfold thT; show _ = (thL r.th).toArray.size; rw [List.size_toArray]
      omega
    · rw [if_neg (by omega), if_neg (by omega)]
      have := (varB_len r.nm.toNat).2; omega
  · exact Nat.zero_le _
theorem entB_one (b : Bk) (r : Rc) (h : bkOk b = false) : entB b r = none := by unfold entB; rw [if_neg (by rw [h]; simp)]
theorem entB_two (b : Bk) (r : Rc) (h : rcOk r = false) : entB b r = none := by unfold entB; rw [if_neg (by rw [h]; simp)]
theorem entB_three (b : Bk) (r : Rc) (h : b.ct = 10000) : entB b r = none := by unfold entB; rw [if_neg (by rw [h]; simp)]
theorem entB_on (b : Bk) (r : Rc) (h1 : bkOk b = true) (h2 : rcOk r = true) (h3 : ¬ b.ct = 10000) : entB b r = (entM b r).bind (entEnd b r) := by unfold entB; rw [if_pos ⟨h1, h2, h3⟩]
/-- What entering answers. -/
def EntRes (T : TypeId) (w : World) (o : Option Bk) (e : Ending) (w' : World) : Prop := (∃ a c, e = .returned (.tuple #[bkv (o.getD bkZ) (.slice a (o.getD bkZ).ths.length c), .bool o.isSome]) ∧ OwnN thY w' w.heap.size T (.slice a (o.getD bkZ).ths.length c) (o.getD bkZ).ths) ∧ Below w.heap.size w w'
theorem OwnN.off {α : Type} {L : Lay α} {w : World} {g base : Nat} {T e : TypeId} {cs : Array Value} {v : Value} {xs : List α} (hA : CB w g T cs) (ho : OwnN L w base e v xs) (hT : T ≠ e) : v.ownBlock ≠ some g := by
  intro hv
  rcases ho.2 with ⟨h1, _⟩ | ⟨g', cap, cur, h1, _, h3, _⟩
  · rw [h1] at hv; cases hv
  · rw [h1] at hv
    have hv' : (some g' : Option Nat) = some g := hv
    have hg : g' = g := Option.some.inj hv'
    subst hg
    unfold CB at hA
    rw [hA] at h3
    have h4 := Option.some.inj h3
    injection h4 with h5 h6
    exact hT h6
theorem OwnN.setO {α : Type} {L : Lay α} {w : World} {base : Nat} {e : TypeId} {v : Value} {xs : List α} (h : OwnN L w base e v xs) (g k : Nat) (u : Value) (hne : v.ownBlock ≠ some g) : OwnN L (w.setCell ⟨g, k, none⟩ u) base e v xs := h.grown (tS0 w g k u) fun j hj e => hne (by rw [hj, e])
/-- A book in a variable, its row of the call's own. -/
def BkAt (w : World) (g base : Nat) (T e : TypeId) (b : Bk) : Prop := ∃ a c, CB w g T (bkc b (.slice a b.ths.length c)) ∧ OwnN thY w base e (.slice a b.ths.length c) b.ths
theorem BkAt.step {w w' : World} {g base : Nat} {T e : TypeId} {b : Bk} (h : BkAt w g base T e b) (hb : Below w.heap.size w w') : BkAt w' g base T e b := by
  obtain ⟨a, c, h1, h2⟩ := h
  exact ⟨a, c, h1.step hb, h2.below hb⟩
theorem bkOk_head {b : Bk} (h : bkOk b = true) : BkHead b := by
  unfold bkOk at h
  rw [Bool.and_eq_true, decide_eq_true_iff] at h
  exact h.1
theorem rc_at {w : World} {g : Nat} {T : TypeId} {r : Rc} (h : CB w g T (rcC r)) : AtN thY w g 3 r.th := fun i u hu => by
  have hi : i < 8 := (List.getElem?_eq_some_iff.1 hu).1
  have e : (rcC r)[3 + i]? = some u := by
    have : i = 0 ∨ i = 1 ∨ i = 2 ∨ i = 3 ∨ i = 4 ∨ i = 5 ∨ i = 6 ∨ i = 7 := by omega
    rcases this with rfl | rfl | rfl | rfl | rfl | rfl | rfl | rfl <;> exact hu
  exact h.cell (3 + i) e
theorem entM_1 {b : Bk} {r : Rc} (h : r.kd = 1) : entM b r = some { b with wd := r.tx, tr := 0 } := by unfold entM; rw [if_pos h]
theorem entM_2 {b : Bk} {r : Rc} (h : r.kd = 2) : entM b r = some { b with tr := r.nm } := by unfold entM; rw [if_neg (by omega), if_pos h]
theorem entM_3a {b : Bk} {r : Rc} (h : r.kd = 3) (h1 : hasT b.ths r.th.id = true) (h2 : grownB (ofT b.ths r.th.id) r.th = true) : entM b r = some { b with ths := putT b.ths r.th } := by unfold entM; rw [if_neg (by omega), if_neg (by omega), if_pos h, if_pos h1, if_pos h2]
theorem entM_3b {b : Bk} {r : Rc} (h : r.kd = 3) (h1 : hasT b.ths r.th.id = true) (h2 : grownB (ofT b.ths r.th.id) r.th = false) : entM b r = none := by unfold entM; rw [if_neg (by omega), if_neg (by omega), if_pos h, if_pos h1, if_neg (by rw [h2]; simp)]
theorem entM_3c {b : Bk} {r : Rc} (h : r.kd = 3) (h1 : hasT b.ths r.th.id = false) (h2 : r.th.id = b.la + 1) (h3 : ¬ b.ths.length = 8) : entM b r = some { b with la := r.th.id, ths := putT b.ths r.th } := by unfold entM; rw [if_neg (by omega), if_neg (by omega), if_pos h, if_neg (by rw [h1]; simp), if_pos ⟨h2, h3⟩]
theorem entM_3d {b : Bk} {r : Rc} (h : r.kd = 3) (h1 : hasT b.ths r.th.id = false) (h2 : ¬ (r.th.id = b.la + 1 ∧ ¬ b.ths.length = 8)) : entM b r = none := by unfold entM; rw [if_neg (by omega), if_neg (by omega), if_pos h, if_neg (by rw [h1]; simp), if_neg h2]
theorem entM_4a {b : Bk} {r : Rc} (h : r.kd = 4) (h1 : hasT b.ths r.nm = true) : entM b r = some { b with ths := dropT b.ths r.nm } := by unfold entM; rw [if_neg (by omega), if_neg (by omega), if_neg (by omega), if_pos h1]
theorem entM_4b {b : Bk} {r : Rc} (h : r.kd = 4) (h1 : hasT b.ths r.nm = false) : entM b r = none := by unfold entM; rw [if_neg (by omega), if_neg (by omega), if_neg (by omega), if_neg (by rw [h1]; simp)]
theorem putT_len (l : List Th) (x : Th) : (putT l x).length ≤ 2 * l.length + 1 := by
  unfold putT
  rw [List.length_append, List.length_cons]
  have h1 := List.length_filter_le (fun y : Th => decide (y.id < x.id)) l
  have h2 := List.length_filter_le (fun y : Th => decide (x.id < y.id)) l
  omega
theorem dropT_len (l : List Th) (id : Int) : (dropT l id).length ≤ l.length := List.length_filter_le _ _
theorem entEnd_yes {b : Bk} {r : Rc} {o : Bk} (h : bkOk { o with ch := digB (b.ch ++ rcT r), ct := b.ct + 1 } = true) : entEnd b r o = some { o with ch := digB (b.ch ++ rcT r), ct := b.ct + 1 } := by unfold entEnd; rw [if_pos h]
theorem entEnd_no {b : Bk} {r : Rc} {o : Bk} (h : bkOk { o with ch := digB (b.ch ++ rcT r), ct := b.ct + 1 } = false) : entEnd b r o = none := by unfold entEnd; rw [if_neg (by rw [h]; simp)]
theorem bk_info : (Tryz.prog.info? 31).map (·.size) = some 6 := by kernel_rfl
set_option maxRecDepth 20000 in
set_option maxHeartbeats 6400000 in
theorem specEnter_any (b : Bk) (r : Rc) (v : Value) (w : World) (hr : RdBk w v b) (hn9 : b.ths.length ≤ 1048576) (hs1 : b.wd.size ≤ 100000000) (hs2 : b.ch.size ≤ 100000000) :
    Calls Tryz.prog 24 #[v, .agg (rcC r)] w fun e w' => EntRes 48 w (entB b r) e w' := by
  obtain ⟨i0, hi, hz0, hz1, hz2⟩ := info_parts infoThing
  obtain ⟨a, n, c, rfl, hn, hu⟩ := hr.open
  subst hn
  have CR := hide (fun W => specRecText_any r W)
  have CB1 := hide (fun W (h : RdBk W (bkv b (.slice a b.ths.length c)) b) => specBookOk_any b _ W h (by omega) hs1 hs2)
  have CY := hide (fun W (h : RdBk W (bkv b (.slice a b.ths.length c)) b) => l21Copy_any b _ W h (by omega))
  have CT := hide (fun (id : Int) W (h : RdBk W (bkv b (.slice a b.ths.length c)) b) => specThingOf_any b id _ W h (by omega))
  obtain ⟨W, hW, hX, hY, hZ, hB, hs0⟩ := three_cb w (bkc b (.slice a b.ths.length c)) (rcC r) #[.string ⟨#[]⟩, .int .i64 0, .slice none 0 0, .int .i64 0, .string ⟨#[]⟩, .int .i64 0] 31 50 31
  have hr1 := hr.below hB
  obtain ⟨ok, hok⟩ : ∃ z, z = rcOk r := ⟨_, rfl⟩
  obtain ⟨t, ht⟩ : ∃ z, z = rcT r := ⟨_, rfl⟩
  obtain ⟨bo, hbo⟩ : ∃ z, z = bkOk b := ⟨_, rfl⟩
  rw [← hok, ← ht] at CR
  rw [← hbo] at CB1
  replace hok := hide hok; replace ht := hide ht; replace hbo := hide hbo
  have hW2 := hW
  simp only [bkc] at hW2
  have K := hide (show RdBk W (bkv b (.slice a b.ths.length c)) b from hr1)
  have HB := hide hB
  replace hX := hide hX; replace hY := hide hY; replace hZ := hide hZ
  have HU := hide hu
  clear hW hr1 hB hu hr
  go_enter Tryz.func24, Tryz.ntmps24
  go_upto_region 1 with fail
  first | rw [hW2] | skip
  clear hW2
  go_upto_region 2 with (first
    | (refine wpList_load_row rfl 50 (.tmp 3) rfl (w.heap.size + 1) rfl 50 (rcC r) (0, 0) _ (unhide hY) Tryz.underlying50 rfl rfl ?_)
    | (go_at_call 33; refine (unhide CR _).mono ?_; rintro e w1 ⟨rfl, hb1⟩))
  have K1 := hide ((unhide K).below hb1)
  have T1 := hide ((unhide HB).trans (hb1.mono (unhide HB).size))
  have hX1 := hide ((unhide hX).step hb1)
  have hY1 := hide ((unhide hY).step hb1)
  have hZ1 := hide ((unhide hZ).step hb1)
  clear hb1 K HB hX hY hZ CR hs0
  have q5 : ∀ w2 : World, Below w1.heap.size w1 w2 → w2.cell? ⟨w.heap.size, 5, none⟩ = some (.int .i64 b.ct) := fun w2 h => ((unhide hX1).step h).cell 5 rfl
  replace q5 := hide q5
  cases bo with
  | false =>
    have E := entB_one b r (unhide hbo).symm
    clear CT CY
    go_upto_region 3 with (first
      | (refine wpList_load_row rfl 31 (.tmp 2) rfl w.heap.size rfl 31 (bkc b (.slice a b.ths.length c)) (0, 0) _ (unhide hX1) Tryz.underlying31 rfl rfl ?_)
      | (go_at_call 34; refine (unhide CB1 _ (unhide K1)).mono ?_; rintro e w2 ⟨rfl, hb2⟩; have c5 := unhide q5 w2 hb2))
    have hZ2 := hide ((unhide hZ1).step hb2)
    have T2 := hide ((unhide T1).trans (hb2.mono (unhide T1).size))
    clear hb2 c5 hZ1 T1 q5
    go_wp2_with (refine wpList_store_row (P := Tryz.prog) rfl 31 (.tmp 4) (.tmp 32) rfl (w.heap.size + 1 + 1) #[.string ⟨#[]⟩, .int .i64 0, .slice none 0 0, .int .i64 0, .string ⟨#[]⟩, .int .i64 0] rfl rfl 31 _ (unhide hZ2) rfl rfl (bkc_one _ _ _ _ _ _ _ _) ?_)
    have hZ9 := setRow_heap _ (w.heap.size + 1 + 1) _ #[.string ⟨#[]⟩, .int .i64 0, .slice none 0 0, .int .i64 0, .string ⟨#[]⟩, .int .i64 0] 31 (0, 0) (unhide hZ2)
    have T9 := Go.below_setRow (unhide T2) (show w.heap.size ≤ w.heap.size + 1 + 1 by omega) #[.string ⟨#[]⟩, .int .i64 0, .slice none 0 0, .int .i64 0, .string ⟨#[]⟩, .int .i64 0]
    exact bodyPost_ret (results_cb_tmp (by exact Tryz.results24) _ _ (w.heap.size + 1 + 1) 31 #[.string ⟨#[]⟩, .int .i64 0, .slice none 0 0, .int .i64 0, .string ⟨#[]⟩, .int .i64 0] _ rfl hZ9 Tryz.underlying31 rfl) rfl (by rw [E]; exact ⟨⟨none, 0, rfl, OwnN.nil _ _ _⟩, T9⟩)
  | true =>
    cases ok with
    | false =>
      have E := entB_two b r (unhide hok).symm
      clear CT CY
      go_upto_region 3 with (first
        | (refine wpList_load_row rfl 31 (.tmp 2) rfl w.heap.size rfl 31 (bkc b (.slice a b.ths.length c)) (0, 0) _ (unhide hX1) Tryz.underlying31 rfl rfl ?_)
        | (go_at_call 34; refine (unhide CB1 _ (unhide K1)).mono ?_; rintro e w2 ⟨rfl, hb2⟩; have c5 := unhide q5 w2 hb2))
      have hZ2 := hide ((unhide hZ1).step hb2)
      have T2 := hide ((unhide T1).trans (hb2.mono (unhide T1).size))
      clear hb2 c5 hZ1 T1 q5
      go_wp2_with (refine wpList_store_row (P := Tryz.prog) rfl 31 (.tmp 4) (.tmp 32) rfl (w.heap.size + 1 + 1) #[.string ⟨#[]⟩, .int .i64 0, .slice none 0 0, .int .i64 0, .string ⟨#[]⟩, .int .i64 0] rfl rfl 31 _ (unhide hZ2) rfl rfl (bkc_one _ _ _ _ _ _ _ _) ?_)
      have hZ9 := setRow_heap _ (w.heap.size + 1 + 1) _ #[.string ⟨#[]⟩, .int .i64 0, .slice none 0 0, .int .i64 0, .string ⟨#[]⟩, .int .i64 0] 31 (0, 0) (unhide hZ2)
      have T9 := Go.below_setRow (unhide T2) (show w.heap.size ≤ w.heap.size + 1 + 1 by omega) #[.string ⟨#[]⟩, .int .i64 0, .slice none 0 0, .int .i64 0, .string ⟨#[]⟩, .int .i64 0]
      exact bodyPost_ret (results_cb_tmp (by exact Tryz.results24) _ _ (w.heap.size + 1 + 1) 31 #[.string ⟨#[]⟩, .int .i64 0, .slice none 0 0, .int .i64 0, .string ⟨#[]⟩, .int .i64 0] _ rfl hZ9 Tryz.underlying31 rfl) rfl (by rw [E]; exact ⟨⟨none, 0, rfl, OwnN.nil _ _ _⟩, T9⟩)
    | true =>
      by_cases hct : b.ct = 10000
      · have E := entB_three b r hct
        have hct2 : (b.ct == 10000) = true := by simpa using hct
        clear CT CY
        go_upto_region 3 with (first
          | (refine wpList_load_row rfl 31 (.tmp 2) rfl w.heap.size rfl 31 (bkc b (.slice a b.ths.length c)) (0, 0) _ (unhide hX1) Tryz.underlying31 rfl rfl ?_)
          | (go_at_call 34; refine (unhide CB1 _ (unhide K1)).mono ?_; rintro e w2 ⟨rfl, hb2⟩; have c5 := unhide q5 w2 hb2))
        have hZ2 := hide ((unhide hZ1).step hb2)
        have T2 := hide ((unhide T1).trans (hb2.mono (unhide T1).size))
        clear hb2 c5 hZ1 T1 q5
        go_wp2_with (refine wpList_store_row (P := Tryz.prog) rfl 31 (.tmp 4) (.tmp 32) rfl (w.heap.size + 1 + 1) #[.string ⟨#[]⟩, .int .i64 0, .slice none 0 0, .int .i64 0, .string ⟨#[]⟩, .int .i64 0] rfl rfl 31 _ (unhide hZ2) rfl rfl (bkc_one _ _ _ _ _ _ _ _) ?_)
        have hZ9 := setRow_heap _ (w.heap.size + 1 + 1) _ #[.string ⟨#[]⟩, .int .i64 0, .slice none 0 0, .int .i64 0, .string ⟨#[]⟩, .int .i64 0] 31 (0, 0) (unhide hZ2)
        have T9 := Go.below_setRow (unhide T2) (show w.heap.size ≤ w.heap.size + 1 + 1 by omega) #[.string ⟨#[]⟩, .int .i64 0, .slice none 0 0, .int .i64 0, .string ⟨#[]⟩, .int .i64 0]
        exact bodyPost_ret (results_cb_tmp (by exact Tryz.results24) _ _ (w.heap.size + 1 + 1) 31 #[.string ⟨#[]⟩, .int .i64 0, .slice none 0 0, .int .i64 0, .string ⟨#[]⟩, .int .i64 0] _ rfl hZ9 Tryz.underlying31 rfl) rfl (by rw [E]; exact ⟨⟨none, 0, rfl, OwnN.nil _ _ _⟩, T9⟩)
      · have E := hide (entB_on b r (unhide hbo).symm (unhide hok).symm hct)
        have hct2 : (b.ct == 10000) = false := by simpa using hct
        have hn9b : b.ths.length ≤ 900000 := by have := (bkOk_head (unhide hbo).symm).2.2.2.2.1; omega
        clear hn9
        rename b.ths.length ≤ 900000 => hn9
        go_upto_region 4 with (first
          | (refine wpList_load_row rfl 31 (.tmp 2) rfl w.heap.size rfl 31 (bkc b (.slice a b.ths.length c)) (0, 0) _ (unhide hX1) Tryz.underlying31 rfl rfl ?_)
          | (go_at_call 34; refine (unhide CB1 _ (unhide K1)).mono ?_; rintro e w2 ⟨rfl, hb2⟩; have c5 := unhide q5 w2 hb2))
        have K2 := hide ((unhide K1).below hb2)
        have T2 := hide ((unhide T1).trans (hb2.mono (unhide T1).size))
        have hX2 := hide ((unhide hX1).step hb2)
        have hY2 := hide ((unhide hY1).step hb2)
        have hZ2 := hide ((unhide hZ1).step hb2)
        clear hb2 c5 hZ1 hY1 hX1 T1 K1 q5 CB1
        go_cut [8] (fun t8 wx => ∃ g8, t8 = .pointer (some ⟨g8, 0, none⟩) ∧ BkAt wx g8 w2.heap.size 31 48 b ∧ w2.heap.size ≤ g8 ∧ Below w2.heap.size w2 wx)
        case first =>
          go_wp2_with (first
            | (refine wpList_load_row rfl 31 (.tmp 2) rfl w.heap.size rfl 31 (bkc b (.slice a b.ths.length c)) (0, 0) _ (unhide hX2) Tryz.underlying31 rfl rfl ?_)
            | (go_at_call 23; refine (unhide CY _ (unhide K2)).mono ?_; rintro e w3 ⟨⟨a1, c1, rfl, ho3⟩, hb3⟩; simp only [bkv]))
          go_meet
          case rel =>
            have hs3 := hb3.size
            exact ⟨_, rfl, ⟨a1, c1, CB.new w3 (bkc b (.slice a1 b.ths.length c1)) 31, ho3.alloc _⟩, by omega, hb3.alloc hs3 _⟩
        case rest =>
          obtain ⟨g8, rfl, hO, hg8, hb3⟩ := hcut
          have T3 := hide ((unhide T2).trans (hb3.mono (unhide T2).size))
          have hX3 := hide ((unhide hX2).step hb3)
          have hY3 := hide ((unhide hY2).step hb3)
          have hZ3 := hide ((unhide hZ2).step hb3)
          have K3 := hide ((unhide K2).below hb3)
          have hs23 := hide hb3.size
          have HRo := hide ((rcOk_iff r).1 (unhide hok).symm)
          replace hO := hide hO
          replace hb3 := hide hb3
          clear CY
          go_step
          go_step
          go_cut [8] (fun t8 wx => t8 = .pointer (some ⟨g8, 0, none⟩) ∧ ∃ o, entM b r = some o ∧ BkAt wx g8 w2.heap.size 31 48 o ∧ o.ths.length ≤ 2000000 ∧ o.wd.size ≤ 100000000 ∧ Below w2.heap.size w2 wx)
          case first =>
            have k0 := (unhide hY3).cell 0 (v := .int .i64 r.kd) rfl
            have k1 := (unhide hY3).cell 1 (v := .string r.tx) rfl
            have k2 := (unhide hY3).cell 2 (v := .int .i64 r.nm) rfl
            obtain ⟨a1, c1, hO1, oO1⟩ := unhide hO
            have hoff := OwnN.off hO1 oO1 (by decide)
            rcases unhide HRo with ⟨hk, h32, h0, _⟩ | ⟨hk, _, _, h0, h3⟩ | ⟨hk, _, _, _⟩ | ⟨hk, _, _, _, _⟩
            · rw [hk] at k0
              have p0 := hO1.cell 0 (v := .string b.wd) rfl
              have f0 := hO1.frozen 0
              have hO2 := hO1.set 0 (.string r.tx)
              have p1 := hO2.cell 1 (v := .int .i64 b.tr) rfl
              have f1 := hO2.frozen 1
              have hO3 := cb_eq (hO2.set 1 (.int .i64 0)) (show bkc { b with wd := r.tx, tr := 0 } (.slice a1 b.ths.length c1) = _ from rfl)
              have oO3 := (oO1.setO g8 0 (.string r.tx) hoff).setO g8 1 (.int .i64 0) hoff
              have T4 := ((unhide hb3).setCell (p := ⟨g8, 0, none⟩) hg8 (.string r.tx)).setCell (p := ⟨g8, 1, none⟩) hg8 (.int .i64 0)
              replace hO3 := hide hO3; replace oO3 := hide oO3; replace T4 := hide T4
              have EM := hide (entM_1 (b := b) hk)
              have htx : r.tx.size ≤ 100000000 := by omega
              replace htx := hide htx
              clear hO1 oO1 hO2 hO HRo hk h32 h0
              go_wp2
              go_meet
              case rel => exact ⟨rfl, _, unhide EM, ⟨a1, c1, unhide hO3, unhide oO3⟩, by show b.ths.length ≤ _; omega, unhide htx, unhide T4⟩
            · rw [hk] at k0
              have p1 := hO1.cell 1 (v := .int .i64 b.tr) rfl
              have f1 := hO1.frozen 1
              have hO3 := hide (cb_eq (hO1.set 1 (.int .i64 r.nm)) (show bkc { b with tr := r.nm } (.slice a1 b.ths.length c1) = _ from rfl))
              have oO3 := hide (oO1.setO g8 1 (.int .i64 r.nm) hoff)
              have T4 := hide ((unhide hb3).setCell (p := ⟨g8, 1, none⟩) hg8 (.int .i64 r.nm))
              have EM := hide (entM_2 (b := b) hk)
              clear hO1 oO1 hO HRo hk h0 h3
              go_wp2
              go_meet
              case rel => exact ⟨rfl, _, unhide EM, ⟨a1, c1, unhide hO3, unhide oO3⟩, by show b.ths.length ≤ _; omega, by show b.wd.size ≤ _; omega, unhide T4⟩
            · rw [hk] at k0
              obtain ⟨hs, hhs⟩ : ∃ z, z = hasT b.ths r.th.id := ⟨_, rfl⟩
              obtain ⟨xo, hxo⟩ : ∃ z, z = ofT b.ths r.th.id := ⟨_, rfl⟩
              have CT3 := unhide CT r.th.id wc (unhide K3)
              rw [← hhs, ← hxo] at CT3
              replace CT3 := hide CT3
              replace hhs := hide hhs; replace hxo := hide hxo
              have k3 := (unhide hY3).cell 3 (v := .int .i64 r.th.id) rfl
              clear CT hO1 oO1 hoff HRo hZ3 T3 K3
              go_upto_region 13 with (first
                | (refine wpList_load_row rfl 31 (.tmp 2) rfl w.heap.size rfl 31 (bkc b (.slice a b.ths.length c)) (0, 0) _ (unhide hX3) Tryz.underlying31 rfl rfl ?_)
                | (go_at_call 35; refine (unhide CT3).mono ?_; rintro e w4 ⟨rfl, hb4⟩; obtain ⟨xi, xk, xh, xf, xg, xw, xv, xn⟩ := xo; simp only [thC]))
              refine wp_gen (fun W5 => Below w2.heap.size w2 W5 ∧ BkAt W5 g8 w2.heap.size 31 48 b ∧ CB W5 w4.heap.size 48 #[.int .i64 xi, .int .i64 xk, .bool xh, .bool xf, .bool xg, .bool xw, .string xv, .int .i64 xn]) ⟨((unhide hb3).trans (hb4.mono (unhide hs23))).alloc (by have := hb4.size; have := unhide hs23; omega) _, ((unhide hO).step hb4).step ((Below.refl _ w4).alloc (Nat.le_refl _) _), CB.new w4 _ _⟩ ?_
              rintro W5 ⟨hb5, hO5, hG5⟩
              obtain ⟨g9, hg9⟩ : ∃ g, g = w4.heap.size := ⟨_, rfl⟩
              rw [← hg9] at hG5 ⊢
              have hX5 := hide ((unhide hX2).step hb5)
              have hY5 := hide ((unhide hY2).step hb5)
              have hZ5 := hide ((unhide hZ2).step hb5)
              have T5 := hide ((unhide T2).trans (hb5.mono (unhide T2).size))
              clear hb4 hg9 CT3 hX3 hY3 k0 k1 k2 k3 hO hb3
              replace hb5 := hide hb5; replace hO5 := hide hO5; replace hG5 := hide hG5
              cases hs with
              | true =>
                obtain ⟨gr, hgr⟩ : ∃ z, z = grownB ⟨xi, xk, xh, xf, xg, xw, xv, xn⟩ r.th := ⟨_, rfl⟩
                have CG := fun W => l21Grown_any ⟨xi, xk, xh, xf, xg, xw, xv, xn⟩ r.th W
                rw [← hgr] at CG
                simp only [thC] at CG
                replace CG := hide CG
                replace hgr := hide hgr
                have m0 := (unhide hG5).cell 0 (v := (.int .i64 xi)) rfl
                have m1 := (unhide hG5).cell 1 (v := (.int .i64 xk)) rfl
                have m2 := (unhide hG5).cell 2 (v := (.bool xh)) rfl
                have m3 := (unhide hG5).cell 3 (v := (.bool xf)) rfl
                have m4 := (unhide hG5).cell 4 (v := (.bool xg)) rfl
                have m5 := (unhide hG5).cell 5 (v := (.bool xw)) rfl
                have m6 := (unhide hG5).cell 6 (v := (.string xv)) rfl
                have m7 := (unhide hG5).cell 7 (v := (.int .i64 xn)) rfl
                have y3 := (unhide hY5).cell 3 (v := (.int .i64 r.th.id)) rfl
                have y4 := (unhide hY5).cell 4 (v := (.int .i64 r.th.kind)) rfl
                have y5 := (unhide hY5).cell 5 (v := (.bool r.th.hid)) rfl
                have y6 := (unhide hY5).cell 6 (v := (.bool r.th.fix)) rfl
                have y7 := (unhide hY5).cell 7 (v := (.bool r.th.sgn)) rfl
                have y8 := (unhide hY5).cell 8 (v := (.bool r.th.wrp)) rfl
                have y9 := (unhide hY5).cell 9 (v := (.string r.th.val)) rfl
                have y10 := (unhide hY5).cell 10 (v := (.int .i64 r.th.nxt)) rfl
                cases gr with
                | false =>
                  have E2 : entB b r = none := by
                    rw [unhide E, entM_3b hk (unhide hhs).symm (by rw [← unhide hxo]; exact (unhide hgr).symm)]; rfl
                  clear hO5
                  go_upto_region 14 with (first
                    | (go_at_call 36; refine (unhide CG _).mono ?_; rintro e w6 ⟨rfl, hb6⟩))
                  have hZ6 := hide ((unhide hZ5).step hb6)
                  have T6 := hide ((unhide T5).trans (hb6.mono (unhide T5).size))
                  clear hb6 hZ5 T5 m0 m1 m2 m3 m4 m5 m6 m7 y3 y4 y5 y6 y7 y8 y9 y10
                  go_wp2_with (refine wpList_store_row (P := Tryz.prog) rfl 31 (.tmp 4) (.tmp 85) rfl (w.heap.size + 1 + 1) #[.string ⟨#[]⟩, .int .i64 0, .slice none 0 0, .int .i64 0, .string ⟨#[]⟩, .int .i64 0] rfl rfl 31 _ (unhide hZ6) rfl rfl (bkc_one _ _ _ _ _ _ _ _) ?_)
                  have hZ9 := setRow_heap _ (w.heap.size + 1 + 1) _ #[.string ⟨#[]⟩, .int .i64 0, .slice none 0 0, .int .i64 0, .string ⟨#[]⟩, .int .i64 0] 31 (0, 0) (unhide hZ6)
                  have T9 := Go.below_setRow (unhide T6) (show w.heap.size ≤ w.heap.size + 1 + 1 by omega) #[.string ⟨#[]⟩, .int .i64 0, .slice none 0 0, .int .i64 0, .string ⟨#[]⟩, .int .i64 0]
                  exact bodyPost_ret (results_cb_tmp (by exact Tryz.results24) _ _ (w.heap.size + 1 + 1) 31 #[.string ⟨#[]⟩, .int .i64 0, .slice none 0 0, .int .i64 0, .string ⟨#[]⟩, .int .i64 0] _ rfl hZ9 Tryz.underlying31 rfl) rfl (by rw [E2]; exact ⟨⟨none, 0, rfl, OwnN.nil _ _ _⟩, T9⟩)
                | true =>
                  have EM := hide (entM_3a hk (unhide hhs).symm (by rw [← unhide hxo]; exact (unhide hgr).symm))
                  go_upto_region 17 with (first
                    | (go_at_call 36; refine (unhide CG _).mono ?_; rintro e w6 ⟨rfl, hb6⟩))
                  have hb7 := (unhide hb5).trans (hb6.mono (unhide hb5).size)
                  have hO6 := (unhide hO5).step hb6
                  clear hb6 hO5 hZ5 T5 hb5 hX5 hY5 hG5 CG m0 m1 m2 m3 m4 m5 m6 m7 y3 y4 y5 y6 y7 y8 y9 y10
                  obtain ⟨a6, c6, hO7, oO7⟩ := hO6
                  have x2 := ((unhide hX2).step hb7).cell 2 (v := .slice a b.ths.length c) rfl
                  have hY7 := hide ((unhide hY2).step hb7)
                  have CP := hide (l21Put_any b.ths r.th (.slice a b.ths.length c) _ ((unhide HU).below ((unhide T2).trans (hb7.mono (unhide T2).size))) (by omega))
                  have hs7 := hide hb7.size
                  replace hO7 := hide hO7; replace hb7 := hide hb7
                  clear oO7
                  go_wp2_with (first
                    | (refine wpList_load_n (P := Tryz.prog) (L := thY) rfl 48 (.tmp 94) rfl (w.heap.size + 1) 3 rfl r.th (rc_at (unhide hY7)) _ Tryz.underlying48 rfl ?_)
                    | (go_at_call 37; refine (unhide CP).mono ?_; rintro e w8 ⟨⟨u, rfl, ho8⟩, hb8⟩; obtain ⟨a8, c8, rfl⟩ := ho8.shape; have hO8 := (unhide hO7).step hb8; have p2 := hO8.cell 2 (v := .slice a6 b.ths.length c6) rfl; have f2 := hO8.frozen 2))
                  go_meet
                  case rel =>
                    have hO9 := cb_eq (hO8.set 2 (.slice a8 (putT b.ths r.th).length c8)) (show bkc { b with ths := putT b.ths r.th } (.slice a8 (putT b.ths r.th).length c8) = _ from rfl)
                    have oO9 := (ho8.setO g8 2 (.slice a8 (putT b.ths r.th).length c8) (OwnN.off hO8 ho8 (by decide))).low (unhide hs7)
                    exact ⟨rfl, _, unhide EM, ⟨a8, c8, hO9, oO9⟩, by have := putT_len b.ths r.th; show (putT b.ths r.th).length ≤ _; omega, by show b.wd.size ≤ _; omega, ((unhide hb7).trans (hb8.mono (unhide hs7))).setCell (p := ⟨g8, 2, none⟩) hg8 _⟩
              | false =>
                have HH := bkOk_head (unhide hbo).symm
                have hla : 0 ≤ b.la ∧ b.la ≤ 1000 := ⟨HH.2.2.2.2.2.1, HH.2.2.2.2.2.2.1⟩
                clear HH
                have y3 := (unhide hY5).cell 3 (v := .int .i64 r.th.id) rfl
                have x3 := (unhide hX5).cell 3 (v := .int .i64 b.la) rfl
                have x2 := (unhide hX5).cell 2 (v := .slice a b.ths.length c) rfl
                by_cases hid : r.th.id = b.la + 1
                · have hidb : (r.th.id == b.la + 1) = true := by simpa using hid
                  by_cases h8 : b.ths.length = 8
                  · have h8b : ((b.ths.length : Int) == 8) = true := by simp [h8]
                    have E2 : entB b r = none := by
                      rw [unhide E, entM_3d hk (unhide hhs).symm (fun h => h.2 h8)]; rfl
                    replace hid := hide hid; replace h8 := hide h8
                    clear hO5
                    go_upto_region 14 with fail
                    go_wp2_with (refine wpList_store_row (P := Tryz.prog) rfl 31 (.tmp 4) (.tmp 85) rfl (w.heap.size + 1 + 1) #[.string ⟨#[]⟩, .int .i64 0, .slice none 0 0, .int .i64 0, .string ⟨#[]⟩, .int .i64 0] rfl rfl 31 _ (unhide hZ5) rfl rfl (bkc_one _ _ _ _ _ _ _ _) ?_)
                    have hZ9 := setRow_heap _ (w.heap.size + 1 + 1) _ #[.string ⟨#[]⟩, .int .i64 0, .slice none 0 0, .int .i64 0, .string ⟨#[]⟩, .int .i64 0] 31 (0, 0) (unhide hZ5)
                    have T9 := Go.below_setRow (unhide T5) (show w.heap.size ≤ w.heap.size + 1 + 1 by omega) #[.string ⟨#[]⟩, .int .i64 0, .slice none 0 0, .int .i64 0, .string ⟨#[]⟩, .int .i64 0]
                    exact bodyPost_ret (results_cb_tmp (by exact Tryz.results24) _ _ (w.heap.size + 1 + 1) 31 #[.string ⟨#[]⟩, .int .i64 0, .slice none 0 0, .int .i64 0, .string ⟨#[]⟩, .int .i64 0] _ rfl hZ9 Tryz.underlying31 rfl) rfl (by rw [E2]; exact ⟨⟨none, 0, rfl, OwnN.nil _ _ _⟩, T9⟩)
                  · have h8b : ((b.ths.length : Int) == 8) = false := by simp; omega
                    have EM := hide (entM_3c hk (unhide hhs).symm hid h8)
                    replace hid := hide hid; replace h8 := hide h8
                    have hb7 := unhide hb5
                    have hO6 := unhide hO5
                    obtain ⟨a6, c6, hO7, oO7⟩ := hO6
                    have p3 := hO7.cell 3 (v := .int .i64 b.la) rfl
                    have f3 := hO7.frozen 3
                    have hO8 := cb_eq (hO7.set 3 (.int .i64 (b.la + 1))) (show bkc { b with la := b.la + 1 } (.slice a6 b.ths.length c6) = _ from rfl)
                    have oO8 := oO7.setO g8 3 (.int .i64 (b.la + 1)) (OwnN.off hO7 oO7 (by decide))
                    have hb8 := hb7.setCell (p := ⟨g8, 3, none⟩) hg8 (.int .i64 (b.la + 1))
                    rw [unhide hid] at EM
                    replace hO8 := hide hO8; replace oO8 := hide oO8; replace hb8 := hide hb8
                    clear hO7 oO7 hb7
                    go_upto_region 17 with fail
                    refine wp_gen (fun W6 => Below w2.heap.size w2 W6 ∧ BkAt W6 g8 w2.heap.size 31 48 { b with la := b.la + 1 }) ⟨unhide hb8, ⟨a6, c6, unhide hO8, unhide oO8⟩⟩ ?_
                    rintro W6 ⟨hb7, hO6⟩
                    clear hO8 oO8 hb8 hO5 hZ5 T5 hb5 hX5 hY5 hG5 y3 x3 x2 p3 f3
                    obtain ⟨a6, c6, hO7, oO7⟩ := hO6
                    have x2 := ((unhide hX2).step hb7).cell 2 (v := .slice a b.ths.length c) rfl
                    have hY7 := hide ((unhide hY2).step hb7)
                    have CP := hide (l21Put_any b.ths r.th (.slice a b.ths.length c) _ ((unhide HU).below ((unhide T2).trans (hb7.mono (unhide T2).size))) (by omega))
                    have hs7 := hide hb7.size
                    replace hO7 := hide hO7; replace hb7 := hide hb7
                    clear oO7
                    go_wp2_with (first
                      | (refine wpList_load_n (P := Tryz.prog) (L := thY) rfl 48 (.tmp 94) rfl (w.heap.size + 1) 3 rfl r.th (rc_at (unhide hY7)) _ Tryz.underlying48 rfl ?_)
                      | (go_at_call 37; refine (unhide CP).mono ?_; rintro e w8 ⟨⟨u, rfl, ho8⟩, hb8⟩; obtain ⟨a8, c8, rfl⟩ := ho8.shape; have hO8 := (unhide hO7).step hb8; have p2 := hO8.cell 2 (v := .slice a6 b.ths.length c6) rfl; have f2 := hO8.frozen 2))
                    go_meet
                    case rel =>
                      have hO9 := cb_eq (hO8.set 2 (.slice a8 (putT b.ths r.th).length c8)) (show bkc { b with la := b.la + 1, ths := putT b.ths r.th } (.slice a8 (putT b.ths r.th).length c8) = _ from rfl)
                      have oO9 := (ho8.setO g8 2 (.slice a8 (putT b.ths r.th).length c8) (OwnN.off hO8 ho8 (by decide))).low (unhide hs7)
                      exact ⟨rfl, _, unhide EM, ⟨a8, c8, hO9, oO9⟩, by have := putT_len b.ths r.th; show (putT b.ths r.th).length ≤ _; omega, by show b.wd.size ≤ _; omega, ((unhide hb7).trans (hb8.mono (unhide hs7))).setCell (p := ⟨g8, 2, none⟩) hg8 _⟩
                · have hidb : (r.th.id == b.la + 1) = false := by simpa using hid
                  have E2 : entB b r = none := by
                    rw [unhide E, entM_3d hk (unhide hhs).symm (fun h => hid h.1)]; rfl
                  clear hO5
                  go_upto_region 14 with fail
                  go_wp2_with (refine wpList_store_row (P := Tryz.prog) rfl 31 (.tmp 4) (.tmp 85) rfl (w.heap.size + 1 + 1) #[.string ⟨#[]⟩, .int .i64 0, .slice none 0 0, .int .i64 0, .string ⟨#[]⟩, .int .i64 0] rfl rfl 31 _ (unhide hZ5) rfl rfl (bkc_one _ _ _ _ _ _ _ _) ?_)
                  have hZ9 := setRow_heap _ (w.heap.size + 1 + 1) _ #[.string ⟨#[]⟩, .int .i64 0, .slice none 0 0, .int .i64 0, .string ⟨#[]⟩, .int .i64 0] 31 (0, 0) (unhide hZ5)
                  have T9 := Go.below_setRow (unhide T5) (show w.heap.size ≤ w.heap.size + 1 + 1 by omega) #[.string ⟨#[]⟩, .int .i64 0, .slice none 0 0, .int .i64 0, .string ⟨#[]⟩, .int .i64 0]
                  exact bodyPost_ret (results_cb_tmp (by exact Tryz.results24) _ _ (w.heap.size + 1 + 1) 31 #[.string ⟨#[]⟩, .int .i64 0, .slice none 0 0, .int .i64 0, .string ⟨#[]⟩, .int .i64 0] _ rfl hZ9 Tryz.underlying31 rfl) rfl (by rw [E2]; exact ⟨⟨none, 0, rfl, OwnN.nil _ _ _⟩, T9⟩)
            · rw [hk] at k0
              obtain ⟨hs, hhs⟩ : ∃ z, z = hasT b.ths r.nm := ⟨_, rfl⟩
              obtain ⟨xo, hxo⟩ : ∃ z, z = ofT b.ths r.nm := ⟨_, rfl⟩
              have CT3 := unhide CT r.nm wc (unhide K3)
              rw [← hhs, ← hxo] at CT3
              replace CT3 := hide CT3
              replace hhs := hide hhs
              clear CT hO1 oO1 hoff HRo hZ3 T3 K3 hxo
              go_upto_region 20 with (first
                | (refine wpList_load_row rfl 31 (.tmp 2) rfl w.heap.size rfl 31 (bkc b (.slice a b.ths.length c)) (0, 0) _ (unhide hX3) Tryz.underlying31 rfl rfl ?_)
                | (go_at_call 35; refine (unhide CT3).mono ?_; rintro e w4 ⟨rfl, hb4⟩; obtain ⟨xi, xk, xh, xf, xg, xw, xv, xn⟩ := xo; simp only [thC]))
              refine wp_gen (fun W5 => Below w2.heap.size w2 W5 ∧ BkAt W5 g8 w2.heap.size 31 48 b) ⟨((unhide hb3).trans (hb4.mono (unhide hs23))).alloc (by have := hb4.size; have := unhide hs23; omega) _, ((unhide hO).step hb4).step ((Below.refl _ w4).alloc (Nat.le_refl _) _)⟩ ?_
              rintro W5 ⟨hb5, hO5⟩
              obtain ⟨g9, hg9⟩ : ∃ g, g = w4.heap.size := ⟨_, rfl⟩
              rw [← hg9]
              clear hb4 hg9 CT3 hX3 hY3 k0 k1 k2 hO hb3
              have hs25 := hide hb5.size
              cases hs with
              | false =>
                have E2 : entB b r = none := by
                  rw [unhide E, entM_4b hk (unhide hhs).symm]; rfl
                have hZ5 := hide ((unhide hZ2).step hb5)
                have T5 := hide ((unhide T2).trans (hb5.mono (unhide T2).size))
                clear hO5
                replace hb5 := hide hb5
                go_upto_region 21 with fail
                go_wp2_with (refine wpList_store_row (P := Tryz.prog) rfl 31 (.tmp 4) (.tmp 109) rfl (w.heap.size + 1 + 1) #[.string ⟨#[]⟩, .int .i64 0, .slice none 0 0, .int .i64 0, .string ⟨#[]⟩, .int .i64 0] rfl rfl 31 _ (unhide hZ5) rfl rfl (bkc_one _ _ _ _ _ _ _ _) ?_)
                have hZ9 := setRow_heap _ (w.heap.size + 1 + 1) _ #[.string ⟨#[]⟩, .int .i64 0, .slice none 0 0, .int .i64 0, .string ⟨#[]⟩, .int .i64 0] 31 (0, 0) (unhide hZ5)
                have T9 := Go.below_setRow (unhide T5) (show w.heap.size ≤ w.heap.size + 1 + 1 by omega) #[.string ⟨#[]⟩, .int .i64 0, .slice none 0 0, .int .i64 0, .string ⟨#[]⟩, .int .i64 0]
                exact bodyPost_ret (results_cb_tmp (by exact Tryz.results24) _ _ (w.heap.size + 1 + 1) 31 #[.string ⟨#[]⟩, .int .i64 0, .slice none 0 0, .int .i64 0, .string ⟨#[]⟩, .int .i64 0] _ rfl hZ9 Tryz.underlying31 rfl) rfl (by rw [E2]; exact ⟨⟨none, 0, rfl, OwnN.nil _ _ _⟩, T9⟩)
              | true =>
                have EM := hide (entM_4a hk (unhide hhs).symm)
                obtain ⟨P1, hP1⟩ : ∃ P1 : Th → Bool, P1 = fun y => decide (y.id ≠ r.nm) := ⟨_, rfl⟩
                have HP := hide (show dropT b.ths r.nm = b.ths.filter P1 by rw [hP1]; rfl)
                have Q1 := hide (show ∀ y, P1 y = decide (y.id ≠ r.nm) from fun y => by rw [hP1])
                clear hP1
                have T5 := hide ((unhide T2).trans (hb5.mono (unhide T2).size))
                have hc := (unhide HU).openT
                obtain ⟨a', c', hsl, hc⟩ := hc
                simp only [Value.slice.injEq] at hsl
                obtain ⟨rfl, _, rfl⟩ := hsl
                replace hO5 := hide hO5; replace hb5 := hide hb5; replace hc := hide hc
                go_upto_region 23 with fail
                refine wp_gen (fun W6 => OwnN thY W6 W5.heap.size 48 (.slice (some ⟨W5.heap.size, 0, none⟩) 0 0) [] ∧ Below W5.heap.size W5 W6) ⟨OwnN.lit0 W5 _ _ (Nat.le_refl _), (Below.refl _ W5).alloc (Nat.le_refl _) _⟩ ?_
                rintro W6 ⟨ho0, hb0⟩
                go_wp2
                go_loopw [13, 14] (fun tl ti wr => ∃ k : Nat, k ≤ b.ths.length ∧ ti = .int .i64 k ∧ OwnN thY wr W5.heap.size 48 tl ((b.ths.take k).filter P1) ∧ Below W5.heap.size W5 wr) (fun _ ti _ => b.ths.length - (intOf ti).toNat)
                case atStart => exact ⟨0, Nat.zero_le _, rfl, ho0, hb0⟩
                case round =>
                  obtain ⟨k, hk2, rfl, ho, hb⟩ := hrel
                  clear ho0 hb0
                  have hss := hb.size
                  have hb2r := (unhide hb5).trans (hb.mono (unhide hs25))
                  have x2 : wr.cell? ⟨w.heap.size, 2, none⟩ = some (.slice a b.ths.length c) := ((unhide hX2).step hb2r).cell 2 rfl
                  have k2 := ((unhide hY2).step hb2r).cell 2 (v := .int .i64 r.nm) rfl
                  have hOr := hide ((unhide hO5).step hb)
                  by_cases hlt : k < b.ths.length
                  · obtain ⟨f, hf⟩ : ∃ f, b.ths[k]? = some f := ⟨b.ths[k], List.getElem?_eq_getElem hlt⟩
                    obtain ⟨g, o, rfl, hg, hat⟩ := (unhide hc) k f hf
                    have hA := hat.below ((unhide T2).trans (hb2r.mono (unhide T2).size)) hg
                    obtain ⟨d0, d1, d2, d3, d4, d5, d6, d7⟩ := AtN.th hA
                    have hlk : (k : Int) < (b.ths.length : Int) := by omega
                    have hi0 : (0 : Int) ≤ (k : Int) := by omega
                    have q1 := unhide Q1 f
                    have HY := hide (fun h => @filt_yes b.ths k f P1 hf h)
                    have HZ := hide (fun h => @filt_no b.ths k f P1 hf h)
                    have hfl : ((b.ths.take k).filter P1).length ≤ 2000000 := by have := filt_len b.ths k P1; omega
                    replace hf := hide hf
                    clear hat
                    obtain ⟨f0, hf0⟩ : ∃ y, y = f := ⟨_, rfl⟩
                    rw [← hf0] at HY HZ
                    obtain ⟨id, kind, hid, fix, sgn, wrp, val, nxt⟩ := f
                    dsimp only at d0 d1 d2 d3 d4 d5 d6 d7 q1
                    replace hf0 := hide hf0
                    replace hb2r := hide hb2r
                    by_cases hd : id = r.nm
                    · rw [decide_eq_false (by simpa using hd), ← unhide hf0] at q1
                      have E5 := hide (unhide HZ q1)
                      have hdb : (id == r.nm) = true := by simpa using hd
                      replace hd := hide hd
                      clear q1 HY HZ
                      go_wp2
                      go_quiet (fail)
                      go_wp2
                      go_roundw
                      case rel => exact ⟨k + 1, by omega, by go_num, by rw [unhide E5]; exact ho, bDN hb nq⟩
                      case measure => simp [intOf]; omega
                    · rw [decide_eq_true (by simpa using hd), ← unhide hf0] at q1
                      have E5 := hide (unhide HY q1)
                      have hdb : (id == r.nm) = false := by simpa using hd
                      replace hd := hide hd
                      clear q1 HY HZ
                      have HO := hide ho
                      clear ho
                      go_wp2
                      go_quiet (fail)
                      have HO : Hid (OwnN thY (wr.drewN nq) _ _ _ _) := HO
                      go_wp2_with (first | (at_builtin; refine wpList_append_n (L := thY) (w := wr.drewN nq) rfl (.tmp 127) (.tmp 133) 29 rfl W5.heap.size W5.heap.size 48 i0 (.agg (thC thZ)) 48 Tryz.underlying29 hi hz0 hz1 hz2 rfl _ _ (by rfl) (unhide HO) _ ⟨id, kind, hid, fix, sgn, wrp, val, nxt⟩ rfl _ rfl hfl (by decide) (by omega) (by show _ ≤ wr.heap.size; omega) (bDN hb nq) ?_; intro v' w8 ho2 hb8))
                      go_roundw
                      case rel => exact ⟨k + 1, by omega, by go_num, by rw [unhide E5, unhide hf0]; exact ho2, hb8⟩
                      case measure => simp [intOf]; omega
                  · have e2 : b.ths.take k = b.ths := List.take_of_length_le (by omega)
                    rw [e2, ← unhide HP] at ho
                    obtain ⟨a8, c8, rfl⟩ := ho.shape
                    obtain ⟨a6, c6, hO7, oO7⟩ := unhide hOr
                    have p2 := hO7.cell 2 (v := .slice a6 b.ths.length c6) rfl
                    have f2 := hO7.frozen 2
                    have hO9 := hide (cb_eq (hO7.set 2 (.slice a8 (dropT b.ths r.nm).length c8)) (show bkc { b with ths := dropT b.ths r.nm } (.slice a8 (dropT b.ths r.nm).length c8) = _ from rfl))
                    have oO9 := hide ((ho.setO g8 2 (.slice a8 (dropT b.ths r.nm).length c8) (OwnN.off hO7 ho (by decide))).low (unhide hs25))
                    have T9 := hide (hb2r.setCell (p := ⟨g8, 2, none⟩) hg8 (.slice a8 (dropT b.ths r.nm).length c8))
                    clear hO7 oO7 ho e2 hOr hb2r
                    go_wp2
                    go_meet
                    case rel => exact ⟨rfl, _, unhide EM, ⟨a8, c8, unhide hO9, unhide oO9⟩, by have := dropT_len b.ths r.nm; show (dropT b.ths r.nm).length ≤ _; omega, by show b.wd.size ≤ _; omega, unhide T9⟩
          case rest =>
            obtain ⟨rfl, o, EM, ⟨a4, c4, hO4, oO4⟩, hln, hwd, hb4⟩ := hcut
            have HH := bkOk_head (unhide hbo).symm
            have hch : b.ch.size = 32 := HH.2.1
            have hctb : 0 ≤ b.ct ∧ b.ct ≤ 10000 := ⟨HH.2.2.2.2.2.2.2.1, HH.2.2.2.2.2.2.2.2⟩
            clear HH
            have htl : t.size ≤ 2000 := by rw [unhide ht]; exact rcT_le r
            have hsz : (b.ch ++ t).size ≤ 4000000 := by rw [ByteArray.size_append]; omega
            have CD := fun W => specDigest_any (b.ch ++ t) hsz W
            obtain ⟨dg, hdg⟩ : ∃ z, z = digB (b.ch ++ t) := ⟨_, rfl⟩
            rw [← hdg] at CD
            replace CD := hide CD
            have E3 := hide (show entB b r = entEnd b r o by rw [unhide E, EM]; rfl)
            obtain ⟨o2, ho2⟩ : ∃ o2 : Bk, o2 = { o with ch := digB (b.ch ++ rcT r), ct := b.ct + 1 } := ⟨_, rfl⟩
            have hd32 : dg.size ≤ 100000000 := by rw [hdg, show (digB (b.ch ++ t)).size = 32 from V8.text_size _]; decide
            have CB2 := hide (fun W (h : RdBk W (bkv o2 (.slice a4 o2.ths.length c4)) o2) => specBookOk_any o2 _ W h (by rw [ho2]; show o.ths.length ≤ 2000000; omega) (by rw [ho2]; exact hwd) (by rw [ho2, ← unhide ht, ← hdg]; exact hd32))
            have hl0 := (unhide hX2).lt
            have hXc := hide ((unhide hX2).step hb4)
            have x4 := (unhide hXc).cell 4 (v := .string b.ch) rfl
            have s1 : ¬ 9223372036854775807 < b.ch.size + t.size := by omega
            have s2 : b.ch.size + t.size ≤ 9223372036854775807 := by omega
            have hT4 := hide ((unhide T2).trans (hb4.mono (unhide T2).size))
            have hZc := hide ((unhide hZ2).step hb4)
            replace ho2 := hide ho2; replace hdg := hide hdg; replace EM := hide EM
            replace hO4 := hide hO4; replace oO4 := hide oO4; replace hb4 := hide hb4
            clear hX3 hY3 hZ3 K3 T3 hO CT HRo HU hX2 hY2 hb3 hch
            go_step
            go_upto_region 31 with (go_at_call 25; refine (unhide CD _).mono ?_; rintro e w9 ⟨rfl, hb9⟩; have hX9 := (unhide hXc).step hb9; have hO9 := (unhide hO4).step hb9; have p4 := hO9.cell 4 (v := .string o.ch) rfl; have f4 := hO9.frozen 4; have hOa := hO9.set 4 (.string dg); have x5 := (hX9.set_other (h := g8) (k := 4) (by omega) (.string dg)).cell 5 (v := .int .i64 b.ct) rfl; have p5 := hOa.cell 5 (v := .int .i64 o.ct) rfl; have f5 := hOa.frozen 5)
            have hOb := cb_eq (hOa.set 5 (.int .i64 (b.ct + 1))) (show bkc o2 (.slice a4 o2.ths.length c4) = _ by rw [unhide ho2, ← unhide ht, ← unhide hdg]; rfl)
            have oO9 := (unhide oO4).below hb9
            have oOb := (oO9.setO g8 4 (.string dg) (OwnN.off hO9 oO9 (by decide))).setO g8 5 (.int .i64 (b.ct + 1)) (OwnN.off hO9 oO9 (by decide))
            have oOc : OwnN thY ((w9.setCell ⟨g8, 4, none⟩ (.string dg)).setCell ⟨g8, 5, none⟩ (.int .i64 (b.ct + 1))) w2.heap.size 48 (.slice a4 o2.ths.length c4) o2.ths := by rw [unhide ho2]; exact oOb
            have hZb := (((unhide hZc).step hb9).set_other (h := g8) (k := 4) (by have := (unhide hZ2).lt; omega) (.string dg)).set_other (h := g8) (k := 5) (by have := (unhide hZ2).lt; omega) (.int .i64 (b.ct + 1))
            have Tb := (((unhide hT4).trans (hb9.mono (unhide hT4).size)).setCell (p := ⟨g8, 4, none⟩) (by show w.heap.size ≤ g8; have := (unhide T2).size; omega) (.string dg)).setCell (p := ⟨g8, 5, none⟩) (by show w.heap.size ≤ g8; have := (unhide T2).size; omega) (.int .i64 (b.ct + 1))
            refine wp_gen (fun W10 => CB W10 g8 31 (bkc o2 (.slice a4 o2.ths.length c4)) ∧ OwnN thY W10 w2.heap.size 48 (.slice a4 o2.ths.length c4) o2.ths ∧ CB W10 (w.heap.size + 1 + 1) 31 #[.string ⟨#[]⟩, .int .i64 0, .slice none 0 0, .int .i64 0, .string ⟨#[]⟩, .int .i64 0] ∧ Below w.heap.size w W10) ⟨hOb, oOc, hZb, Tb⟩ ?_
            clear hOb oO9 oOb oOc hZb Tb hX9 hO9 hOa p4 f4 p5 f5 x5 hb9 x4
            rintro W10 ⟨hO10, oO10, hZ10, T10⟩
            obtain ⟨bo2, hbo2⟩ : ∃ z, z = bkOk o2 := ⟨_, rfl⟩
            rw [← hbo2] at CB2
            have CBx := hide (unhide CB2 W10 ⟨_, rfl, oO10.rd⟩)
            have hlz := (unhide hZ2).lt
            have hs2w := (unhide T2).size
            replace hbo2 := hide hbo2; replace hO10 := hide hO10; replace oO10 := hide oO10; replace hZ10 := hide hZ10; replace T10 := hide T10
            clear CB2 CD hXc hO4 oO4 hZc hT4 hb4
            cases bo2 with
            | false =>
              have E2 : entB b r = none := by
                rw [unhide E3]; exact entEnd_no (by rw [← unhide ho2]; exact (unhide hbo2).symm)
              go_upto_region 32 with (first
                | (refine wpList_load_row (P := Tryz.prog) rfl 31 (.tmp 8) rfl g8 rfl 31 (bkc o2 (.slice a4 o2.ths.length c4)) (0, 0) _ (unhide hO10) Tryz.underlying31 rfl rfl ?_)
                | (go_at_call 34; refine (unhide CBx).mono ?_; rintro e w11 ⟨rfl, hb11⟩))
              have hZ11 := hide ((unhide hZ10).step hb11)
              have T11 := hide ((unhide T10).trans (hb11.mono (unhide T10).size))
              clear hb11 hZ10 T10
              go_wp2_with (refine wpList_store_row (P := Tryz.prog) rfl 31 (.tmp 4) (.tmp 150) rfl (w.heap.size + 1 + 1) #[.string ⟨#[]⟩, .int .i64 0, .slice none 0 0, .int .i64 0, .string ⟨#[]⟩, .int .i64 0] rfl rfl 31 _ (unhide hZ11) rfl rfl (bkc_one _ _ _ _ _ _ _ _) ?_)
              have hZ9 := setRow_heap _ (w.heap.size + 1 + 1) _ #[.string ⟨#[]⟩, .int .i64 0, .slice none 0 0, .int .i64 0, .string ⟨#[]⟩, .int .i64 0] 31 (0, 0) (unhide hZ11)
              have T9 := Go.below_setRow (unhide T11) (show w.heap.size ≤ w.heap.size + 1 + 1 by omega) #[.string ⟨#[]⟩, .int .i64 0, .slice none 0 0, .int .i64 0, .string ⟨#[]⟩, .int .i64 0]
              exact bodyPost_ret (results_cb_tmp (by exact Tryz.results24) _ _ (w.heap.size + 1 + 1) 31 #[.string ⟨#[]⟩, .int .i64 0, .slice none 0 0, .int .i64 0, .string ⟨#[]⟩, .int .i64 0] _ rfl hZ9 Tryz.underlying31 rfl) rfl (by rw [E2]; exact ⟨⟨none, 0, rfl, OwnN.nil _ _ _⟩, T9⟩)
            | true =>
              have E2 : entB b r = some o2 := by
                rw [unhide E3, entEnd_yes (by rw [← unhide ho2]; exact (unhide hbo2).symm), ← unhide ho2]
              go_upto_region 33 with (first
                | (refine wpList_load_row (P := Tryz.prog) rfl 31 (.tmp 8) rfl g8 rfl 31 (bkc o2 (.slice a4 o2.ths.length c4)) (0, 0) _ (unhide hO10) Tryz.underlying31 rfl rfl ?_)
                | (go_at_call 34; refine (unhide CBx).mono ?_; rintro e w11 ⟨rfl, hb11⟩))
              have hO11 := hide ((unhide hO10).step hb11)
              have oO11 := hide ((unhide oO10).below hb11)
              have hZ11 := hide ((unhide hZ10).step hb11)
              have T11 := hide ((unhide T10).trans (hb11.mono (unhide T10).size))
              clear hb11 hZ10 T10 hO10 oO10
              go_wp2_with (first
                | (refine wpList_load_row (P := Tryz.prog) rfl 31 (.tmp 8) rfl g8 rfl 31 (bkc o2 (.slice a4 o2.ths.length c4)) (0, 0) _ (unhide hO11) Tryz.underlying31 rfl rfl ?_)
                | (refine wpList_store_row (P := Tryz.prog) rfl 31 (.tmp 4) (.tmp 151) rfl (w.heap.size + 1 + 1) (bkc o2 (.slice a4 o2.ths.length c4)) rfl rfl 31 _ (unhide hZ11) rfl rfl (bkc_all o2 _ _ _) ?_))
              have hZ12 := setRow_heap _ (w.heap.size + 1 + 1) _ (bkc o2 (.slice a4 o2.ths.length c4)) 31 (0, 0) (unhide hZ11)
              have T12 := Go.below_setRow (unhide T11) (show w.heap.size ≤ w.heap.size + 1 + 1 by omega) (bkc o2 (.slice a4 o2.ths.length c4))
              have oO12 := ((unhide oO11).setRow (g := w.heap.size + 1 + 1) hlz (bkc o2 (.slice a4 o2.ths.length c4))).low hs2w
              exact bodyPost_ret (results_cb_tmp (by exact Tryz.results24) _ _ (w.heap.size + 1 + 1) 31 (bkc o2 (.slice a4 o2.ths.length c4)) _ rfl hZ12 Tryz.underlying31 rfl) rfl (by rw [E2]; exact ⟨⟨a4, c4, rfl, oO12⟩, T12⟩)
end Go.Proofs.YtkbbcjnickgfjabGreat

/- Things and records held against each other, over the loaded program. -/
namespace Go.Proofs.YtkbbcjnickgfjabGreat
open Go.RowKit
def thEq (x y : Th) : Bool := decide (x.id = y.id ∧ x.kind = y.kind ∧ x.hid = y.hid ∧ x.fix = y.fix ∧ x.sgn = y.sgn ∧ x.wrp = y.wrp ∧ x.val = y.val ∧ x.nxt = y.nxt)
def rcEq (x y : Rc) : Bool := decide (x.kd = y.kd ∧ x.tx = y.tx ∧ x.nm = y.nm ∧ thEq x.th y.th = true)
theorem thEq_iff (x y : Th) : thEq x y = true ↔ x = y := by
  unfold thEq
  rw [decide_eq_true_iff]
  obtain ⟨id, kind, hid, fix, sgn, wrp, val, nxt⟩ := x
  obtain ⟨yi, yk, yh, yf, ys, yw, yv, yn⟩ := y
  simp
theorem rcEq_iff (x y : Rc) : rcEq x y = true ↔ x = y := by
  unfold rcEq
  rw [decide_eq_true_iff, thEq_iff]
  obtain ⟨a, b, c, d⟩ := x
  obtain ⟨e, f, g, h⟩ := y
  simp
theorem toList_ne {a b : ByteArray} (h : ¬ a = b) : ¬ a.toList = b.toList := fun e => h (ByteArray.ext (Array.toList_inj.1 (by rw [← ByteArray.toList_eq, ← ByteArray.toList_eq, e])))
set_option maxRecDepth 20000 in
set_option maxHeartbeats 1600000 in
theorem eqTh_run (x y : Th) (W : World) : (binOp .eql 48 (.agg (thC x)) (.agg (thC y))).run Tryz.prog W = .ok (.bool (thEq x y)) W := by
  obtain ⟨id, kind, hid, fix, sgn, wrp, val, nxt⟩ := x
  obtain ⟨yi, yk, yh, yf, ys, yw, yv, yn⟩ := y
  simp only [thC]
  have HN : thEq ⟨id, kind, hid, fix, sgn, wrp, val, nxt⟩ ⟨yi, yk, yh, yf, ys, yw, yv, yn⟩ = (decide (id = yi) && (decide (kind = yk) && (decide (hid = yh) && (decide (fix = yf) && (decide (sgn = ys) && (decide (wrp = yw) && (decide (val = yv) && decide (nxt = yn)))))))) := by
    unfold thEq
    simp only [Bool.decide_and]
  rw [HN]
  by_cases h1 : id = yi
  · subst h1
    by_cases h2 : kind = yk
    · subst h2
      by_cases h3 : hid = yh
      · subst h3
        by_cases h4 : fix = yf
        · subst h4
          by_cases h5 : sgn = ys
          · subst h5
            by_cases h6 : wrp = yw
            · subst h6
              by_cases h7 : val = yv
              · subst h7
                by_cases h8 : nxt = yn
                · subst h8; go_simp
                · go_simp
              · have h9 := toList_ne h7
                go_simp
            · go_simp
          · go_simp
        · go_simp
      · go_simp
    · go_simp
  · go_simp
theorem rcGuard0 : Tryz.prog.eqGuardType Tryz.prog.depth 50 = false := by kernel_rfl
theorem guardRc (x y : Operand) (p q : Array Value) (W : World) : (eqGuard .neq 50 x y (.agg p) (.agg q)).run Tryz.prog W = .ok () W := run_eqGuard_agg W .neq _ x y _ _ rcGuard0
set_option maxRecDepth 20000 in
set_option maxHeartbeats 4000000 in
theorem neRc_run (x y : Rc) (W : World) : (binOp .neq 50 (.agg (rcC x)) (.agg (rcC y))).run Tryz.prog W = .ok (.bool (!rcEq x y)) W := by
  obtain ⟨kd, tx, nm, ⟨id, kind, hid, fix, sgn, wrp, val, nxt⟩⟩ := x
  obtain ⟨kd2, tx2, nm2, ⟨yi, yk, yh, yf, ys, yw, yv, yn⟩⟩ := y
  simp only [rcC]
  have HN : rcEq ⟨kd, tx, nm, ⟨id, kind, hid, fix, sgn, wrp, val, nxt⟩⟩ ⟨kd2, tx2, nm2, ⟨yi, yk, yh, yf, ys, yw, yv, yn⟩⟩ = (decide (kd = kd2) && (decide (tx = tx2) && (decide (nm = nm2) && (decide (id = yi) && (decide (kind = yk) && (decide (hid = yh) && (decide (fix = yf) && (decide (sgn = ys) && (decide (wrp = yw) && (decide (val = yv) && decide (nxt = yn))))))))))) := by
    unfold rcEq thEq
    simp only [Bool.decide_and, Bool.decide_eq_true]
  rw [HN]
  by_cases g1 : kd = kd2
  · subst g1
    by_cases g2 : tx = tx2
    · subst g2
      by_cases g3 : nm = nm2
      · subst g3
        by_cases h1 : id = yi
        · subst h1
          by_cases h2 : kind = yk
          · subst h2
            by_cases h3 : hid = yh
            · subst h3
              by_cases h4 : fix = yf
              · subst h4
                by_cases h5 : sgn = ys
                · subst h5
                  by_cases h6 : wrp = yw
                  · subst h6
                    by_cases h7 : val = yv
                    · subst h7
                      by_cases h8 : nxt = yn
                      · subst h8; go_simp
                      · go_simp
                    · have h9 := toList_ne h7
                      go_simp
                  · go_simp
                · go_simp
              · go_simp
            · go_simp
          · go_simp
        · go_simp
      · go_simp
    · have g9 := toList_ne g2
      go_simp
  · go_simp
end Go.Proofs.YtkbbcjnickgfjabGreat

/- Entering, reckoned: what a right book becomes, place by place. -/
namespace Go.Proofs.YtkbbcjnickgfjabGreat
theorem ts_sorted {la : Int} {xs : List Th} (h : thsOk la xs = true) : ∀ (j i : Nat) (x y : Th), i < j → xs[i]? = some x → xs[j]? = some y → x.id < y.id
  | 0, i, x, y, hij, _, _ => by omega
  | j + 1, i, x, y, hij, hx, hy => by
    have hlt := (List.getElem?_eq_some_iff.1 hy).1
    obtain ⟨p, hp⟩ : ∃ p, xs[j]? = some p := ⟨xs[j], List.getElem?_eq_getElem (by omega)⟩
    have h1 := ((thsOk_iff la xs).1 h (j + 1) y hy).2.2 j p rfl hp
    by_cases e : i = j
    · subst e
      rw [hx] at hp
      obtain rfl := Option.some.inj hp
      exact h1
    · have := ts_sorted h j i x p (by omega) hx hp
      omega
theorem thsOk_pw (la : Int) (xs : List Th) : thsOk la xs = true ↔ (∀ z ∈ xs, thOk z = true ∧ z.id ≤ la) ∧ xs.Pairwise (fun a b => a.id < b.id) := by
  constructor
  · intro h
    refine ⟨fun z hz => ?_, ?_⟩
    · obtain ⟨j, hj⟩ := List.mem_iff_getElem?.1 hz
      have := (thsOk_iff la xs).1 h j z hj
      exact ⟨this.1, this.2.1⟩
    · rw [List.pairwise_iff_getElem]
      intro i j hi hj hij
      exact ts_sorted h j i _ _ hij (List.getElem?_eq_getElem hi) (List.getElem?_eq_getElem hj)
  · rintro ⟨h1, h2⟩
    refine thsOk_all fun j hj => ?_
    have hx := List.getElem?_eq_getElem hj
    have hm := h1 _ (List.mem_of_getElem? hx)
    refine tsAt_mk hx hm.1 hm.2 fun i p hi hp => ?_
    subst hi
    obtain ⟨hi, hpe⟩ := List.getElem?_eq_some_iff.1 hp
    have := (List.pairwise_iff_getElem.1 h2) i (i + 1) hi hj (by omega)
    rw [hpe] at this
    exact this
theorem split_at {xs : List Th} {k : Nat} {x : Th} (h : xs[k]? = some x) : xs = xs.take k ++ x :: xs.drop (k + 1) := by
  obtain ⟨hk, he⟩ := List.getElem?_eq_some_iff.1 h
  have h1 := List.drop_eq_getElem_cons hk
  rw [he] at h1
  rw [← h1, List.take_append_drop]
theorem take_low {la : Int} {xs : List Th} (h : thsOk la xs = true) {k : Nat} {x : Th} (hx : xs[k]? = some x) : ∀ z ∈ xs.take k, z.id < x.id := by
  intro z hz
  obtain ⟨i, hi⟩ := List.mem_iff_getElem?.1 hz
  rw [List.getElem?_take] at hi
  split at hi
  · rename_i hik
    exact ts_sorted h k i z x hik hi hx
  · cases hi
theorem drop_high {la : Int} {xs : List Th} (h : thsOk la xs = true) {k : Nat} {x : Th} (hx : xs[k]? = some x) : ∀ z ∈ xs.drop (k + 1), x.id < z.id := by
  intro z hz
  obtain ⟨i, hi⟩ := List.mem_iff_getElem?.1 hz
  rw [List.getElem?_drop] at hi
  exact ts_sorted h (k + 1 + i) k x z (by omega) hx hi
theorem putT_at {la : Int} {xs : List Th} (h : thsOk la xs = true) {k : Nat} {x y : Th} (hx : xs[k]? = some x) (e : x.id = y.id) : putT xs y = xs.set k y := by
  have hk := (List.getElem?_eq_some_iff.1 hx).1
  have h1 := take_low h hx
  have h2 := drop_high h hx
  have hs := split_at hx
  have f1 : xs.filter (fun z => decide (z.id < y.id)) = xs.take k := by
    conv => lhs; rw [hs]
    rw [List.filter_append, List.filter_cons_of_neg (by simp [e]), List.filter_eq_self.2 (fun z hz => by have := h1 z hz; simp; omega), List.filter_eq_nil_iff.2 (fun z hz => by have := h2 z hz; simp; omega), List.append_nil]
  have f2 : xs.filter (fun z => decide (y.id < z.id)) = xs.drop (k + 1) := by
    conv => lhs; rw [hs]
    rw [List.filter_append, List.filter_cons_of_neg (by simp [e]), List.filter_eq_nil_iff.2 (fun z hz => by have := h1 z hz; simp; omega), List.filter_eq_self.2 (fun z hz => by have := h2 z hz; simp; omega), List.nil_append]
  unfold putT
  rw [f1, f2, List.set_eq_take_append_cons_drop, if_pos hk]
theorem putT_new {la : Int} {xs : List Th} (h : thsOk la xs = true) {y : Th} (e : la < y.id) : putT xs y = xs ++ [y] := by
  have h1 := ((thsOk_pw la xs).1 h).1
  unfold putT
  rw [List.filter_eq_self.2 (fun z hz => by have := (h1 z hz).2; simp; omega), List.filter_eq_nil_iff.2 (fun z hz => by have := (h1 z hz).2; simp; omega)]
theorem dropT_at {la : Int} {xs : List Th} (h : thsOk la xs = true) {k : Nat} {x : Th} (hx : xs[k]? = some x) : dropT xs x.id = xs.take k ++ xs.drop (k + 1) := by
  have h1 := take_low h hx
  have h2 := drop_high h hx
  have hs := split_at hx
  unfold dropT
  conv => lhs; rw [hs]
  rw [List.filter_append, List.filter_cons_of_neg (by simp), List.filter_eq_self.2 (fun z hz => by have := h1 z hz; simp; omega), List.filter_eq_self.2 (fun z hz => by have := h2 z hz; simp; omega)]
theorem thsOk_put {la lb : Int} {xs : List Th} (h : thsOk la xs = true) {y : Th} (hy : thOk y = true) (hl : la ≤ lb) (hb : y.id ≤ lb) : thsOk lb (putT xs y) = true := by
  obtain ⟨h1, h2⟩ := (thsOk_pw la xs).1 h
  refine (thsOk_pw lb _).2 ⟨fun z hz => ?_, ?_⟩
  · unfold putT at hz
    rcases List.mem_append.1 hz with hz | hz
    · have := h1 z (List.mem_filter.1 hz).1
      exact ⟨this.1, by omega⟩
    · rcases List.mem_cons.1 hz with rfl | hz
      · exact ⟨hy, hb⟩
      · have := h1 z (List.mem_filter.1 hz).1
        exact ⟨this.1, by omega⟩
  · unfold putT
    refine List.pairwise_append.2 ⟨h2.filter _, List.pairwise_cons.2 ⟨fun z hz => ?_, h2.filter _⟩, fun a ha z hz => ?_⟩
    · simpa using (List.mem_filter.1 hz).2
    · have h3 : a.id < y.id := by simpa using (List.mem_filter.1 ha).2
      rcases List.mem_cons.1 hz with rfl | hz
      · exact h3
      · have h4 : y.id < z.id := by simpa using (List.mem_filter.1 hz).2
        omega
theorem thsOk_drop {la : Int} {xs : List Th} (h : thsOk la xs = true) (id : Int) : thsOk la (dropT xs id) = true := by
  obtain ⟨h1, h2⟩ := (thsOk_pw la xs).1 h
  exact (thsOk_pw la _).2 ⟨fun z hz => h1 z (List.mem_filter.1 hz).1, h2.filter _⟩
/-- The book o with its chain and count gone on. -/
def bkOn (b : Bk) (r : Rc) (o : Bk) : Bk := { o with ch := digB (b.ch ++ rcT r), ct := b.ct + 1 }
theorem entB_fin {b : Bk} {r : Rc} {o : Bk} (h1 : bkOk b = true) (h2 : rcOk r = true) (h3 : ¬ b.ct = 10000) (hm : entM b r = some o) (hd : (digB (b.ch ++ rcT r)).size = 32)
    (hh : o.wd.size = 32 ∧ 0 ≤ o.tr ∧ o.tr ≤ 3 ∧ o.ths.length ≤ 8 ∧ 0 ≤ o.la ∧ o.la ≤ 1000) (ht : thsOk o.la o.ths = true) : entB b r = some (bkOn b r o) := by
  have hb := bkOk_head h1
  rw [entB_on b r h1 h2 h3, hm]
  show entEnd b r o = _
  refine entEnd_yes ?_
  rw [bkOk_is, Bool.and_eq_true, decide_eq_true_iff]
  refine ⟨⟨hh.1, hd, hh.2.1, hh.2.2.1, hh.2.2.2.1, hh.2.2.2.2.1, hh.2.2.2.2.2, ?_, ?_⟩, ht⟩
  · show 0 ≤ b.ct + 1
    have := hb.2.2.2.2.2.2.2.1; omega
  · show b.ct + 1 ≤ 10000
    have := hb.2.2.2.2.2.2.2.2; omega
theorem bkOk_ths {b : Bk} (h : bkOk b = true) : thsOk b.la b.ths = true := by
  rw [bkOk_is, Bool.and_eq_true] at h
  exact h.2
theorem entB_e1 {b : Bk} {r : Rc} (h1 : bkOk b = true) (h2 : rcOk r = true) (h3 : ¬ b.ct = 10000) (hd : (digB (b.ch ++ rcT r)).size = 32) (hk : r.kd = 1) : entB b r = some (bkOn b r { b with wd := r.tx, tr := r.nm }) := by
  obtain ⟨a1, a2, a3, a4, a5, a6, a7, a8, a9⟩ := bkOk_head h1
  have hr := (rcOk_iff r).1 h2
  have e : r.tx.size = 32 ∧ r.nm = 0 := by rcases hr with h | h | h | h <;> first | exact ⟨h.2.1, h.2.2.1⟩ | omega
  have hm := entM_1 (b := b) hk
  rw [← e.2] at hm
  exact entB_fin h1 h2 h3 hm hd ⟨e.1, (by rw [e.2]; show (0 : Int) ≤ 0; decide), (by rw [e.2]; show (0 : Int) ≤ 3; decide), a5, a6, a7⟩ (bkOk_ths (b := b) h1)
theorem entB_e2 {b : Bk} {r : Rc} (h1 : bkOk b = true) (h2 : rcOk r = true) (h3 : ¬ b.ct = 10000) (hd : (digB (b.ch ++ rcT r)).size = 32) (hk : r.kd = 2) : entB b r = some (bkOn b r { b with tr := r.nm }) := by
  obtain ⟨a1, a2, a3, a4, a5, a6, a7, a8, a9⟩ := bkOk_head h1
  have hr := (rcOk_iff r).1 h2
  have e : 0 ≤ r.nm ∧ r.nm ≤ 3 := by rcases hr with h | h | h | h <;> omega
  exact entB_fin h1 h2 h3 (entM_2 hk) hd ⟨a1, e.1, e.2, a5, a6, a7⟩ (bkOk_ths (b := b) h1)
theorem rcOk_th {r : Rc} (h : rcOk r = true) (hk : r.kd = 3) : ThOk r.th := by
  have hr := (rcOk_iff r).1 h
  rcases hr with h | h | h | h <;> first | exact h.2.1 | omega
/-- A thing takes the place of its Id, or not. -/
theorem entB_e3 {b : Bk} {r : Rc} (h1 : bkOk b = true) (h2 : rcOk r = true) (h3 : ¬ b.ct = 10000) (hd : (digB (b.ch ++ rcT r)).size = 32) (hk : r.kd = 3) {k : Nat} {x : Th} (hx : b.ths[k]? = some x) (e : x.id = r.th.id) (hn : ∀ y ∈ b.ths.take k, y.id ≠ r.th.id) :
    entB b r = if grownB x r.th = true then some (bkOn b r { b with ths := b.ths.set k r.th }) else none := by
  obtain ⟨a1, a2, a3, a4, a5, a6, a7, a8, a9⟩ := bkOk_head h1
  obtain ⟨g1, g2⟩ := ofT_at hx hn e
  have hp := putT_at (bkOk_ths h1) hx e
  by_cases hg : grownB x r.th = true
  · rw [if_pos hg]
    have hm := entM_3a (b := b) hk g1 (by rw [g2]; exact hg)
    have hl : x.id ≤ b.la := (((thsOk_pw b.la b.ths).1 (bkOk_ths h1)).1 x (List.mem_of_getElem? hx)).2
    have hq := thsOk_put (bkOk_ths h1) ((thOk_iff _).2 (rcOk_th h2 hk)) (Int.le_refl _) (show r.th.id ≤ b.la by omega)
    rw [hp] at hm hq
    exact entB_fin h1 h2 h3 hm hd ⟨a1, a3, a4, by show (b.ths.set k r.th).length ≤ 8; rw [List.length_set]; exact a5, a6, a7⟩ hq
  · rw [if_neg hg]
    have hg' : grownB x r.th = false := by simpa using hg
    rw [entB_on b r h1 h2 h3, entM_3b hk g1 (by rw [g2]; exact hg')]
    rfl
theorem entB_e3n {b : Bk} {r : Rc} (h1 : bkOk b = true) (h2 : rcOk r = true) (h3 : ¬ b.ct = 10000) (hd : (digB (b.ch ++ rcT r)).size = 32) (hk : r.kd = 3) (hn : ∀ y ∈ b.ths, y.id ≠ r.th.id) :
    entB b r = if r.th.id = b.la + 1 ∧ ¬ b.ths.length = 8 then some (bkOn b r { b with ths := b.ths ++ [r.th], la := r.th.id }) else none := by
  obtain ⟨a1, a2, a3, a4, a5, a6, a7, a8, a9⟩ := bkOk_head h1
  have g1 := (ofT_no hn).1
  have ho := rcOk_th h2 hk
  by_cases hg : r.th.id = b.la + 1 ∧ ¬ b.ths.length = 8
  · rw [if_pos hg]
    have hp := putT_new (bkOk_ths h1) (show b.la < r.th.id by omega)
    have hm := entM_3c (b := b) hk g1 hg.1 hg.2
    have hq := thsOk_put (lb := r.th.id) (bkOk_ths h1) ((thOk_iff _).2 ho) (by omega) (Int.le_refl _)
    rw [hp] at hm hq
    exact entB_fin h1 h2 h3 hm hd ⟨a1, a3, a4, by show (b.ths ++ [r.th]).length ≤ 8; rw [List.length_append, List.length_singleton]; omega, by show 0 ≤ r.th.id; omega, ho.2.1⟩ hq
  · rw [if_neg hg, entB_on b r h1 h2 h3, entM_3d hk g1 hg]
    rfl
theorem entB_e4 {b : Bk} {r : Rc} (h1 : bkOk b = true) (h2 : rcOk r = true) (h3 : ¬ b.ct = 10000) (hd : (digB (b.ch ++ rcT r)).size = 32) (hk : r.kd = 4) {k : Nat} {x : Th} (hx : b.ths[k]? = some x) (e : x.id = r.nm) (hn : ∀ y ∈ b.ths.take k, y.id ≠ r.nm) :
    entB b r = some (bkOn b r { b with ths := b.ths.take k ++ b.ths.drop (k + 1) }) := by
  obtain ⟨a1, a2, a3, a4, a5, a6, a7, a8, a9⟩ := bkOk_head h1
  obtain ⟨g1, g2⟩ := ofT_at hx hn e
  have hp := dropT_at (bkOk_ths h1) hx
  rw [e] at hp
  have hm := entM_4a (b := b) hk g1
  have hq := thsOk_drop (bkOk_ths h1) r.nm
  have hl := dropT_len b.ths r.nm
  rw [hp] at hm hq hl
  exact entB_fin h1 h2 h3 hm hd ⟨a1, a3, a4, by show (b.ths.take k ++ b.ths.drop (k + 1)).length ≤ 8; omega, a6, a7⟩ hq
theorem entB_e4n {b : Bk} {r : Rc} (h1 : bkOk b = true) (h2 : rcOk r = true) (h3 : ¬ b.ct = 10000) (hk : r.kd = 4) (hn : ∀ y ∈ b.ths, y.id ≠ r.nm) : entB b r = none := by
  rw [entB_on b r h1 h2 h3, entM_4b hk (ofT_no hn).1]
  rfl
/-- Does a thing become another one, by the project? -/
def chg9 (x y : Th) : Th := { chgT x y.hid y.fix with nxt := y.nxt }
def becB (x y : Th) : Bool := chgOk x y.hid y.fix && thEq (chg9 x y) y && decide (x.nxt ≤ y.nxt)
theorem becB_is {x y : Th} (hx : thOk x = true) (e : x.id = y.id) : becB x y = grownB x y := by
  by_cases h : (x.hid = true → y.hid = true) ∧ (x.fix = true → y.fix = true)
  · have hc : chgOk x y.hid y.fix = true := by unfold chgOk; exact decide_eq_true ⟨hx, h⟩
    have ht : chg9 x y = ⟨x.id, x.kind, y.hid, y.fix, x.sgn, x.wrp, x.val, y.nxt⟩ := by unfold chg9 chgT; rw [if_pos hc]
    unfold becB
    rw [hc, ht, Bool.true_and, Bool.eq_iff_iff, Bool.and_eq_true, decide_eq_true_iff]
    unfold thEq grownB
    rw [decide_eq_true_iff, decide_eq_true_iff]
    dsimp only
    constructor
    · rintro ⟨⟨_, a2, _, _, a5, a6, a7, _⟩, a9⟩
      exact ⟨a2, a7, a5, a6, a9, h.1, h.2⟩
    · rintro ⟨a2, a7, a5, a6, a9, _, _⟩
      exact ⟨⟨e, a2, rfl, rfl, a5, a6, a7, rfl⟩, a9⟩
  · have hc : chgOk x y.hid y.fix = false := by unfold chgOk; exact decide_eq_false (fun q => h q.2)
    have hg : grownB x y = false := by unfold grownB; exact decide_eq_false (fun q => h ⟨q.2.2.2.2.2.1, q.2.2.2.2.2.2⟩)
    unfold becB
    rw [hc, hg, Bool.false_and, Bool.false_and]
end Go.Proofs.YtkbbcjnickgfjabGreat

/- The project's things: what is right, flags, a byte, over the loaded program. -/
namespace Go.Proofs.YtkbbcjnickgfjabGreat
open Go.RowKit
theorem idOk_yes (a : Int) (w : World) (h1 : 1 ≤ a) (h2 : a ≤ 1000) : Calls Tryz.prog 93 #[.int .i64 a] w fun e w' => e = .returned (.bool true) ∧ w' = w := by
  go_enter Tryz.func93, Tryz.ntmps93
  go_wp2
  go_ret
  exact ⟨rfl, rfl⟩
theorem idOk_no (a : Int) (w : World) (h : a < 1 ∨ 1000 < a) : Calls Tryz.prog 93 #[.int .i64 a] w fun e w' => e = .returned (.bool false) ∧ w' = w := by
  by_cases h1 : 1 ≤ a
  · have h2 : ¬ a ≤ 1000 := by omega
    clear h
    go_enter Tryz.func93, Tryz.ntmps93
    go_wp2
    go_ret
    exact ⟨rfl, rfl⟩
  · have h2 : decide (1 ≤ a) = false := by rw [decide_eq_false_iff_not]; exact h1
    clear h
    go_enter Tryz.func93, Tryz.ntmps93
    go_wp2
    go_ret
    exact ⟨rfl, rfl⟩
set_option maxRecDepth 20000 in
set_option maxHeartbeats 4000000 in
theorem implThingOk_any (x : Th) (w : World) :
    Calls Tryz.prog 94 #[.agg (thC x)] w fun e w' => e = .returned (.bool (thOk x)) ∧ Below w.heap.size w w' := by
  have HY := hide ((thOk_iff x).2)
  have HN := hide ((thOk_not x).2)
  generalize thOk x = r at *
  obtain ⟨id, kind, hid, fix, sgn, wrp, val, nxt⟩ := x
  unfold thC
  obtain ⟨W, hW, hC, hb, hlt⟩ := one_cb w #[.int .i64 id, .int .i64 kind, .bool hid, .bool fix, .bool sgn, .bool wrp, .string val, .int .i64 nxt] 48
  have c0 := hC.cell 0 rfl
  have c1 := hC.cell 1 rfl
  have c4 := hC.cell 4 rfl
  have c5 := hC.cell 5 rfl
  have c6 := hC.cell 6 rfl
  have c7 := hC.cell 7 rfl
  clear hC
  by_cases A1 : 1 ≤ id ∧ id ≤ 1000
  · have C1 := hide (fun W => idOk_yes id W A1.1 A1.2)
    by_cases k1 : kind = 1
    · subst k1
      by_cases hs : val.size = 32
      · by_cases hn : nxt = 0
        · subst hn
          cases sgn with
          | true =>
            obtain rfl := unhide HN (fun h => by have := (h.2.2.2.2.2.2.1 (by simp)).2; cases this)
            have hs' : ((val.size : Int) == 32) = true := by rw [beq_iff_eq]; omega
            clear HY HN A1
            go_enter Tryz.func94, Tryz.ntmps94
            go_wp2_with fail
            refine (unhide C1 W).mono ?_
            rintro e w1 ⟨rfl, hw1⟩
            subst hw1
            go_wp2
            go_ret
            exact ⟨rfl, hb⟩
          | false =>
            obtain rfl := unhide HY ⟨A1.1, A1.2, (by dsimp only; omega), (by dsimp only; omega), (by dsimp only; omega), (by dsimp only; omega), fun _ => ⟨rfl, rfl⟩, fun h => absurd rfl h, fun h => by simp at h, fun _ => hs⟩
            have hs' : ((val.size : Int) == 32) = true := by rw [beq_iff_eq]; omega
            clear HY HN A1
            go_enter Tryz.func94, Tryz.ntmps94
            go_wp2_with fail
            refine (unhide C1 W).mono ?_
            rintro e w1 ⟨rfl, hw1⟩
            subst hw1
            go_wp2
            go_ret
            exact ⟨rfl, hb⟩
        · obtain rfl := unhide HN (fun h => hn (h.2.2.2.2.2.2.1 (by simp)).1)
          have hs' : ((val.size : Int) == 32) = true := by rw [beq_iff_eq]; omega
          have hn' : (nxt == 0) = false := by rw [beq_eq_false_iff_ne]; exact hn
          clear HY HN A1
          go_enter Tryz.func94, Tryz.ntmps94
          go_wp2_with fail
          refine (unhide C1 W).mono ?_
          rintro e w1 ⟨rfl, hw1⟩
          subst hw1
          go_wp2
          go_ret
          exact ⟨rfl, hb⟩
      · obtain rfl := unhide HN (fun h => hs (h.2.2.2.2.2.2.2.2.2 (by simp)))
        have hs' : ((val.size : Int) == 32) = false := by rw [beq_eq_false_iff_ne]; omega
        clear HY HN A1
        go_enter Tryz.func94, Tryz.ntmps94
        go_wp2_with fail
        refine (unhide C1 W).mono ?_
        rintro e w1 ⟨rfl, hw1⟩
        subst hw1
        go_wp2
        go_ret
        exact ⟨rfl, hb⟩
    · by_cases k2 : kind = 2
      · subst k2
        by_cases hs : val.size = 32
        · by_cases hn : 0 ≤ nxt
          · by_cases hm : nxt ≤ 16
            · cases wrp with
              | true =>
                obtain rfl := unhide HN (fun h => by have := h.2.2.2.2.2.2.2.1 (by simp); cases this)
                have hs' : ((val.size : Int) == 32) = true := by rw [beq_iff_eq]; omega
                clear HY HN A1
                go_enter Tryz.func94, Tryz.ntmps94
                go_wp2_with fail
                refine (unhide C1 W).mono ?_
                rintro e w1 ⟨rfl, hw1⟩
                subst hw1
                go_wp2
                go_ret
                exact ⟨rfl, hb⟩
              | false =>
                obtain rfl := unhide HY ⟨A1.1, A1.2, (by dsimp only; omega), (by dsimp only; omega), hn, hm, fun h => absurd rfl h, fun _ => rfl, fun h => by simp at h, fun _ => hs⟩
                have hs' : ((val.size : Int) == 32) = true := by rw [beq_iff_eq]; omega
                clear HY HN A1
                go_enter Tryz.func94, Tryz.ntmps94
                go_wp2_with fail
                refine (unhide C1 W).mono ?_
                rintro e w1 ⟨rfl, hw1⟩
                subst hw1
                go_wp2
                go_ret
                exact ⟨rfl, hb⟩
            · obtain rfl := unhide HN (fun h => hm (h.2.2.2.2.2.1))
              have hs' : ((val.size : Int) == 32) = true := by rw [beq_iff_eq]; omega
              have hm' : decide (nxt ≤ 16) = false := by rw [decide_eq_false_iff_not]; exact hm
              clear HY HN A1
              go_enter Tryz.func94, Tryz.ntmps94
              go_wp2_with fail
              refine (unhide C1 W).mono ?_
              rintro e w1 ⟨rfl, hw1⟩
              subst hw1
              go_wp2
              go_ret
              exact ⟨rfl, hb⟩
          · obtain rfl := unhide HN (fun h => hn (h.2.2.2.2.1))
            have hs' : ((val.size : Int) == 32) = true := by rw [beq_iff_eq]; omega
            have hn' : decide (0 ≤ nxt) = false := by rw [decide_eq_false_iff_not]; exact hn
            clear HY HN A1
            go_enter Tryz.func94, Tryz.ntmps94
            go_wp2_with fail
            refine (unhide C1 W).mono ?_
            rintro e w1 ⟨rfl, hw1⟩
            subst hw1
            go_wp2
            go_ret
            exact ⟨rfl, hb⟩
        · obtain rfl := unhide HN (fun h => hs (h.2.2.2.2.2.2.2.2.2 (by simp)))
          have hs' : ((val.size : Int) == 32) = false := by rw [beq_eq_false_iff_ne]; omega
          clear HY HN A1
          go_enter Tryz.func94, Tryz.ntmps94
          go_wp2_with fail
          refine (unhide C1 W).mono ?_
          rintro e w1 ⟨rfl, hw1⟩
          subst hw1
          go_wp2
          go_ret
          exact ⟨rfl, hb⟩
      · by_cases k3 : kind = 3
        · subst k3
          by_cases hs : val.size ≤ 100
          · by_cases hn : nxt = 0
            · subst hn
              cases sgn with
              | true =>
                obtain rfl := unhide HN (fun h => by have := (h.2.2.2.2.2.2.1 (by simp)).2; cases this)
                have hs' : (val.size : Int) ≤ 100 := by omega
                clear HY HN A1
                go_enter Tryz.func94, Tryz.ntmps94
                go_wp2_with fail
                refine (unhide C1 W).mono ?_
                rintro e w1 ⟨rfl, hw1⟩
                subst hw1
                go_wp2
                go_ret
                exact ⟨rfl, hb⟩
              | false =>
                cases wrp with
                | true =>
                  obtain rfl := unhide HN (fun h => by have := h.2.2.2.2.2.2.2.1 (by simp); cases this)
                  have hs' : (val.size : Int) ≤ 100 := by omega
                  clear HY HN A1
                  go_enter Tryz.func94, Tryz.ntmps94
                  go_wp2_with fail
                  refine (unhide C1 W).mono ?_
                  rintro e w1 ⟨rfl, hw1⟩
                  subst hw1
                  go_wp2
                  go_ret
                  exact ⟨rfl, hb⟩
                | false =>
                  obtain rfl := unhide HY ⟨A1.1, A1.2, (by dsimp only; omega), (by dsimp only; omega), (by dsimp only; omega), (by dsimp only; omega), fun _ => ⟨rfl, rfl⟩, fun _ => rfl, fun _ => hs, fun h => absurd rfl h⟩
                  have hs' : (val.size : Int) ≤ 100 := by omega
                  clear HY HN A1
                  go_enter Tryz.func94, Tryz.ntmps94
                  go_wp2_with fail
                  refine (unhide C1 W).mono ?_
                  rintro e w1 ⟨rfl, hw1⟩
                  subst hw1
                  go_wp2
                  go_ret
                  exact ⟨rfl, hb⟩
            · obtain rfl := unhide HN (fun h => hn (h.2.2.2.2.2.2.1 (by simp)).1)
              have hs' : (val.size : Int) ≤ 100 := by omega
              have hn' : (nxt == 0) = false := by rw [beq_eq_false_iff_ne]; exact hn
              clear HY HN A1
              go_enter Tryz.func94, Tryz.ntmps94
              go_wp2_with fail
              refine (unhide C1 W).mono ?_
              rintro e w1 ⟨rfl, hw1⟩
              subst hw1
              go_wp2
              go_ret
              exact ⟨rfl, hb⟩
          · obtain rfl := unhide HN (fun h => hs (h.2.2.2.2.2.2.2.2.1 rfl))
            have hs1 : ¬ (val.size : Int) ≤ 100 := by omega
            have hs' : decide ((val.size : Int) ≤ 100) = false := by rw [decide_eq_false_iff_not]; omega
            clear HY HN A1
            go_enter Tryz.func94, Tryz.ntmps94
            go_wp2_with fail
            refine (unhide C1 W).mono ?_
            rintro e w1 ⟨rfl, hw1⟩
            subst hw1
            go_wp2
            go_ret
            exact ⟨rfl, hb⟩
        · obtain rfl := unhide HN (fun h => by have h1 := h.2.2.1; have h2 := h.2.2.2.1; dsimp only at h1 h2; omega)
          have k1' : (kind == 1) = false := by rw [beq_eq_false_iff_ne]; exact k1
          have k2' : (kind == 2) = false := by rw [beq_eq_false_iff_ne]; exact k2
          have k3' : (kind == 3) = false := by rw [beq_eq_false_iff_ne]; exact k3
          clear HY HN A1
          go_enter Tryz.func94, Tryz.ntmps94
          go_wp2_with fail
          refine (unhide C1 W).mono ?_
          rintro e w1 ⟨rfl, hw1⟩
          subst hw1
          go_wp2
          go_ret
          exact ⟨rfl, hb⟩
  · have C1 := hide (fun W => idOk_no id W (by omega))
    obtain rfl := unhide HN (fun h => A1 ⟨h.1, h.2.1⟩)
    clear HY HN A1
    go_enter Tryz.func94, Tryz.ntmps94
    go_wp2_with fail
    refine (unhide C1 W).mono ?_
    rintro e w1 ⟨rfl, hw1⟩
    subst hw1
    go_wp2
    go_ret
    exact ⟨rfl, hb⟩
theorem flagIf_any (b : Bool) (n : Int) (w : World) :
    Calls Tryz.prog 111 #[.bool b, .int .u8 n] w fun e w' => e = .returned (.int .u8 (flI b n)) ∧ w' = w := by
  cases b with
  | true =>
    go_enter Tryz.func111, Tryz.ntmps111
    go_wp2
    go_ret
    exact ⟨rfl, rfl⟩
  | false =>
    go_enter Tryz.func111, Tryz.ntmps111
    go_wp2
    go_ret
    exact ⟨rfl, rfl⟩
theorem fl_or (h f s w : Bool) : bits .or .u8 (bits .or .u8 (bits .or .u8 (flI h 1) (flI f 2)) (flI s 4)) (flI w 8) = ((flN h f s w : Nat) : Int) := by
  cases h <;> cases f <;> cases s <;> cases w <;> rfl
set_option maxRecDepth 20000 in
set_option maxHeartbeats 1000000 in
theorem flags_any (x : Th) (w : World) :
    Calls Tryz.prog 106 #[.agg (thC x)] w fun e w' => e = .returned (.int .u8 ((fl x : Nat) : Int)) ∧ Below w.heap.size w w' := by
  have CF := hide (fun b n W => flagIf_any b n W)
  have E := fl_or x.hid x.fix x.sgn x.wrp
  have E2 : flN x.hid x.fix x.sgn x.wrp = fl x := rfl
  rw [E2] at E
  clear E2
  generalize ((fl x : Nat) : Int) = F at *
  obtain ⟨id, kind, hid, fix, sgn, wrp, val, nxt⟩ := x
  unfold thC
  simp only at E
  have q1 := hide (fun W => unhide CF hid 1 W)
  have q2 := hide (fun W => unhide CF fix 2 W)
  have q4 := hide (fun W => unhide CF sgn 4 W)
  have q8 := hide (fun W => unhide CF wrp 8 W)
  clear CF
  generalize flI hid 1 = f1 at *
  generalize flI fix 2 = f2 at *
  generalize flI sgn 4 = f4 at *
  generalize flI wrp 8 = f8 at *
  obtain ⟨W, hW, hC, hb, hlt⟩ := one_cb w #[.int .i64 id, .int .i64 kind, .bool hid, .bool fix, .bool sgn, .bool wrp, .string val, .int .i64 nxt] 48
  have c2 := hC.cell 2 rfl
  have c3 := hC.cell 3 rfl
  have c4 := hC.cell 4 rfl
  have c5 := hC.cell 5 rfl
  clear hC
  go_enter Tryz.func106, Tryz.ntmps106
  go_wp2
  go_quiet ((first | (go_at_call 111; exact Calls.quiet_of_same (unhide q1 _)) | (go_at_call 111; exact Calls.quiet_of_same (unhide q2 _)) | (go_at_call 111; exact Calls.quiet_of_same (unhide q4 _)) | (go_at_call 111; exact Calls.quiet_of_same (unhide q8 _))))
  go_wp2
  go_ret
  exact ⟨by rw [← E]; rfl, bDN hb _⟩
set_option maxRecDepth 20000 in
set_option maxHeartbeats 400000 in
theorem implByteY9_any (z : Int) (w : World) :
    Calls Tryz.prog 69 #[.int .i64 z] w fun e w' => e = .returned (.string (oneY z)) ∧ Below w.heap.size w w' := by
  have hx := b256_lt z
  have E := hide (show oneY z = ⟨#[UInt8.ofNat (b256 z)]⟩ from rfl)
  rw [unhide E]
  have ew : IntKind.u8.wrap z = (b256 z : Int) := by rw [IntKind.wrap_u8]; unfold b256; omega
  have ew8 : z % 256 = (b256 z : Int) := by unfold b256; omega
  generalize b256 z = x at *
  have hcv := conv_oneY w x hx
  have hb : Below w.heap.size w (w.alloc (.cells #[.int .u8 (x : Int)] 5)) := (Below.refl w.heap.size w).alloc (Nat.le_refl _) _
  go_enter Tryz.func69, Tryz.ntmps69
  go_wp2
  go_ret
  exact ⟨rfl, hb⟩
end Go.Proofs.YtkbbcjnickgfjabGreat

