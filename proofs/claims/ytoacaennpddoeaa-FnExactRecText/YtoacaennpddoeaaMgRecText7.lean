/- Merged: BkI3, BkI4, BkI5, Tsz, Dec, Hex, Decimal, MarkT, Tmk, Bkh. -/
import Derived.Test.YtoacaennpddoeaaMgRecText1
import Derived.Test.YtoacaennpddoeaaMgRecText2
import Derived.Test.YtoacaennpddoeaaMgRecText3
import Derived.Test.YtoacaennpddoeaaMgRecText4
import Derived.Test.YtoacaennpddoeaaMgRecText5
import Derived.Test.YtoacaennpddoeaaMgRecText6
import Derived.Deep.DeepCutAuto
import Derived.Deep.QuietTactic
import Derived.BigQuiet
import Derived.Test.YtoacaennpddoeaaChecked
import Derived.Deep.RegionWith
import Derived.Deep.RegionLaw
import Derived.Deep.RegionHeld3
/- The project's records: their texts, over the loaded program. -/
namespace Go.Proofs.Ytoacaennpddoeaa
open Go.RowKit
def vT (n : Int) : ByteArray := if 0 ≤ n ∧ n ≤ 1000000000 then ⟨(varB n.toNat).toArray⟩ else ⟨#[]⟩
def bodyS (r : Rc) : ByteArray := if r.kd = 1 then r.tx else if r.kd = 2 ∨ r.kd = 4 then vT r.nm else if r.kd = 3 then ttB r.th else ⟨#[]⟩
def bodyO (r : Rc) : Bool := if r.kd = 1 then decide (r.tx.size = 32) else if r.kd = 2 then decide (0 ≤ r.nm ∧ r.nm ≤ 3) else if r.kd = 3 then thOk r.th else if r.kd = 4 then decide (1 ≤ r.nm ∧ r.nm ≤ 1000) else false
def onlyT (r : Rc) : Rc := if r.kd = 1 then ⟨r.kd, r.tx, 0, thZ⟩ else if r.kd = 2 ∨ r.kd = 4 then ⟨r.kd, ⟨#[]⟩, r.nm, thZ⟩ else if r.kd = 3 then ⟨r.kd, ⟨#[]⟩, 0, r.th⟩ else ⟨r.kd, ⟨#[]⟩, 0, thZ⟩
theorem rc_at9 {w : World} {g : Nat} {T : TypeId} {kd : Int} {tx : ByteArray} {nm id kind : Int} {hid fix sgn wrp : Bool} {val : ByteArray} {nxt : Int} (h : CB w g T #[.int .i64 kd, .string tx, .int .i64 nm, .int .i64 id, .int .i64 kind, .bool hid, .bool fix, .bool sgn, .bool wrp, .string val, .int .i64 nxt]) : AtN thY w g 3 ⟨id, kind, hid, fix, sgn, wrp, val, nxt⟩ := fun i u hu => by
  have hi : i < 8 := (List.getElem?_eq_some_iff.1 hu).1
  have e : (#[.int .i64 kd, .string tx, .int .i64 nm, .int .i64 id, .int .i64 kind, .bool hid, .bool fix, .bool sgn, .bool wrp, .string val, .int .i64 nxt] : Array Value)[3 + i]? = some u := by
    have : i = 0 ∨ i = 1 ∨ i = 2 ∨ i = 3 ∨ i = 4 ∨ i = 5 ∨ i = 6 ∨ i = 7 := by omega
    rcases this with rfl | rfl | rfl | rfl | rfl | rfl | rfl | rfl <;> exact hu
  exact h.cell (3 + i) e
theorem rc_one9 (a : Int) (b : ByteArray) (c d e : Int) (f g h i : Bool) (j : ByteArray) (k : Int) : (#[.int .i64 a, .string b, .int .i64 c, .int .i64 d, .int .i64 e, .bool f, .bool g, .bool h, .bool i, .string j, .int .i64 k] : Array Value).all (·.oneCell') = true := by simp [Value.oneCell']
set_option maxRecDepth 20000 in
set_option maxHeartbeats 2000000 in
theorem onlyTold_any (r : Rc) (w : World) :
    Calls Try.prog 35 #[.agg (rcC r)] w fun e w' => e = .returned (.agg (rcC (onlyT r))) ∧ Below w.heap.size w w' := by
  obtain ⟨o, ho⟩ : ∃ o, o = onlyT r := ⟨_, rfl⟩
  rw [← ho]
  obtain ⟨kd, tx, nm, ⟨id, kind, hid, fix, sgn, wrp, val, nxt⟩⟩ := r
  unfold onlyT at ho
  dsimp only at ho
  simp only [rcC]
  replace ho := hide ho
  obtain ⟨W, hW, hX, hR, hB, hs1⟩ := two_cb w #[.int .i64 kd, .string tx, .int .i64 nm, .int .i64 id, .int .i64 kind, .bool hid, .bool fix, .bool sgn, .bool wrp, .string val, .int .i64 nxt] (rcC rcZ) 27 27
  have hW2 := hW
  unfold rcC rcZ thZ at hW2
  dsimp only at hW2
  clear hW
  replace ho := unhide ho
  replace hX := hide hX; replace hR := hide hR; replace hB := hide hB
  have x0 : W.cell? ⟨w.heap.size, 0, none⟩ = some (.int .i64 kd) := (unhide hX).cell 0 rfl
  go_enter Try.func35, Try.ntmps35
  go_upto_region 1 with fail
  first | rw [hW2] | skip
  clear hW2
  go_upto_region 2 with fail
  refine wp_gen (fun W1 => CB W1 w.heap.size 27 #[.int .i64 kd, .string tx, .int .i64 nm, .int .i64 id, .int .i64 kind, .bool hid, .bool fix, .bool sgn, .bool wrp, .string val, .int .i64 nxt] ∧ CB W1 (w.heap.size + 1) 27 (rcC rcZ) ∧ CB W1 W.heap.size 27 #[.int .i64 kd, .string ⟨#[]⟩, .int .i64 0, .int .i64 0, .int .i64 0, .bool false, .bool false, .bool false, .bool false, .string ⟨#[]⟩, .int .i64 0] ∧ Below w.heap.size w W1) ⟨(unhide hX).alloc _, (unhide hR).alloc _, CB.new W _ _, (unhide hB).alloc (unhide hB).size _⟩ ?_
  rintro W1 ⟨hX1, hR1, hT1, T1⟩
  obtain ⟨gT, hgT⟩ : ∃ g, g = W.heap.size := ⟨_, rfl⟩
  rw [← hgT] at hT1 hs1 ⊢
  clear x0 hX hR hB hgT
  have x0 := hX1.cell 0 (v := .int .i64 kd) rfl
  by_cases k1 : kd = 1
  · subst k1
    rw [if_pos rfl] at ho
    replace ho := hide ho
    have x1 := hX1.cell 1 (v := .string tx) rfl
    have t1 := hT1.cell 1 (v := .string ⟨#[]⟩) rfl
    have f1 := hT1.frozen 1
    have hT2 := hide (cb_eq (hT1.set 1 (.string tx)) (show (#[.int .i64 1, .string tx, .int .i64 0, .int .i64 0, .int .i64 0, .bool false, .bool false, .bool false, .bool false, .string ⟨#[]⟩, .int .i64 0] : Array Value) = _ from rfl))
    have hR2 := hide (hR1.set_other (h := gT) (k := 1) (by omega) (.string tx))
    have T2 := hide (T1.setCell (p := ⟨gT, 1, none⟩) (by show w.heap.size ≤ gT; omega) (.string tx))
    go_upto_region 10 with fail
    refine wp_gen (fun W2 => CB W2 gT 27 #[.int .i64 1, .string tx, .int .i64 0, .int .i64 0, .int .i64 0, .bool false, .bool false, .bool false, .bool false, .string ⟨#[]⟩, .int .i64 0] ∧ CB W2 (w.heap.size + 1) 27 (rcC rcZ) ∧ Below w.heap.size w W2) ⟨unhide hT2, unhide hR2, unhide T2⟩ ?_
    rintro W2 ⟨hT9, hR9, T9⟩
    clear hT1 hR1 T1 x0
    clear x1 t1 f1 hT2 hR2 T2 hX1
    go_wp2_with (first
      | (refine wpList_load_row (P := Try.prog) rfl 27 (.tmp 3) rfl gT rfl 27 #[.int .i64 1, .string tx, .int .i64 0, .int .i64 0, .int .i64 0, .bool false, .bool false, .bool false, .bool false, .string ⟨#[]⟩, .int .i64 0] (0, 0) _ hT9 Try.underlying27 rfl rfl ?_)
      | (refine wpList_store_row (P := Try.prog) rfl 27 (.tmp 2) (.tmp 25) rfl (w.heap.size + 1) #[.int .i64 1, .string tx, .int .i64 0, .int .i64 0, .int .i64 0, .bool false, .bool false, .bool false, .bool false, .string ⟨#[]⟩, .int .i64 0] rfl rfl 27 _ hR9 rfl rfl (rc_one9 _ _ _ _ _ _ _ _ _ _ _) ?_))
    have hR8 := setRow_heap _ (w.heap.size + 1) _ #[.int .i64 1, .string tx, .int .i64 0, .int .i64 0, .int .i64 0, .bool false, .bool false, .bool false, .bool false, .string ⟨#[]⟩, .int .i64 0] 27 (0, 0) hR9
    have T4 := Go.below_setRow T9 (show w.heap.size ≤ w.heap.size + 1 by omega) #[.int .i64 1, .string tx, .int .i64 0, .int .i64 0, .int .i64 0, .bool false, .bool false, .bool false, .bool false, .string ⟨#[]⟩, .int .i64 0]
    exact bodyPost_ret (results_cb (by exact Try.results35) _ _ (w.heap.size + 1) 27 #[.int .i64 1, .string tx, .int .i64 0, .int .i64 0, .int .i64 0, .bool false, .bool false, .bool false, .bool false, .string ⟨#[]⟩, .int .i64 0] _ rfl hR8 Try.underlying27 rfl) rfl ⟨by rw [unhide ho] <;> rfl, T4⟩
  · by_cases k2 : kd = 2
    · subst k2
      rw [if_neg (by decide), if_pos (by decide)] at ho
      replace ho := hide ho
      have x2 := hX1.cell 2 (v := .int .i64 nm) rfl
      have t2 := hT1.cell 2 (v := .int .i64 0) rfl
      have f2 := hT1.frozen 2
      have hT2 := hide (cb_eq (hT1.set 2 (.int .i64 nm)) (show (#[.int .i64 2, .string ⟨#[]⟩, .int .i64 nm, .int .i64 0, .int .i64 0, .bool false, .bool false, .bool false, .bool false, .string ⟨#[]⟩, .int .i64 0] : Array Value) = _ from rfl))
      have hR2 := hide (hR1.set_other (h := gT) (k := 2) (by omega) (.int .i64 nm))
      have T2 := hide (T1.setCell (p := ⟨gT, 2, none⟩) (by show w.heap.size ≤ gT; omega) (.int .i64 nm))
      go_upto_region 10 with fail
      refine wp_gen (fun W2 => CB W2 gT 27 #[.int .i64 2, .string ⟨#[]⟩, .int .i64 nm, .int .i64 0, .int .i64 0, .bool false, .bool false, .bool false, .bool false, .string ⟨#[]⟩, .int .i64 0] ∧ CB W2 (w.heap.size + 1) 27 (rcC rcZ) ∧ Below w.heap.size w W2) ⟨unhide hT2, unhide hR2, unhide T2⟩ ?_
      rintro W2 ⟨hT9, hR9, T9⟩
      clear hT1 hR1 T1 x0
      clear x2 t2 f2 hT2 hR2 T2 hX1
      go_wp2_with (first
        | (refine wpList_load_row (P := Try.prog) rfl 27 (.tmp 3) rfl gT rfl 27 #[.int .i64 2, .string ⟨#[]⟩, .int .i64 nm, .int .i64 0, .int .i64 0, .bool false, .bool false, .bool false, .bool false, .string ⟨#[]⟩, .int .i64 0] (0, 0) _ hT9 Try.underlying27 rfl rfl ?_)
        | (refine wpList_store_row (P := Try.prog) rfl 27 (.tmp 2) (.tmp 25) rfl (w.heap.size + 1) #[.int .i64 2, .string ⟨#[]⟩, .int .i64 nm, .int .i64 0, .int .i64 0, .bool false, .bool false, .bool false, .bool false, .string ⟨#[]⟩, .int .i64 0] rfl rfl 27 _ hR9 rfl rfl (rc_one9 _ _ _ _ _ _ _ _ _ _ _) ?_))
      have hR8 := setRow_heap _ (w.heap.size + 1) _ #[.int .i64 2, .string ⟨#[]⟩, .int .i64 nm, .int .i64 0, .int .i64 0, .bool false, .bool false, .bool false, .bool false, .string ⟨#[]⟩, .int .i64 0] 27 (0, 0) hR9
      have T4 := Go.below_setRow T9 (show w.heap.size ≤ w.heap.size + 1 by omega) #[.int .i64 2, .string ⟨#[]⟩, .int .i64 nm, .int .i64 0, .int .i64 0, .bool false, .bool false, .bool false, .bool false, .string ⟨#[]⟩, .int .i64 0]
      exact bodyPost_ret (results_cb (by exact Try.results35) _ _ (w.heap.size + 1) 27 #[.int .i64 2, .string ⟨#[]⟩, .int .i64 nm, .int .i64 0, .int .i64 0, .bool false, .bool false, .bool false, .bool false, .string ⟨#[]⟩, .int .i64 0] _ rfl hR8 Try.underlying27 rfl) rfl ⟨by rw [unhide ho] <;> rfl, T4⟩
    · by_cases k4 : kd = 4
      · subst k4
        rw [if_neg (by decide), if_pos (by decide)] at ho
        replace ho := hide ho
        have x2 := hX1.cell 2 (v := .int .i64 nm) rfl
        have t2 := hT1.cell 2 (v := .int .i64 0) rfl
        have f2 := hT1.frozen 2
        have hT2 := hide (cb_eq (hT1.set 2 (.int .i64 nm)) (show (#[.int .i64 4, .string ⟨#[]⟩, .int .i64 nm, .int .i64 0, .int .i64 0, .bool false, .bool false, .bool false, .bool false, .string ⟨#[]⟩, .int .i64 0] : Array Value) = _ from rfl))
        have hR2 := hide (hR1.set_other (h := gT) (k := 2) (by omega) (.int .i64 nm))
        have T2 := hide (T1.setCell (p := ⟨gT, 2, none⟩) (by show w.heap.size ≤ gT; omega) (.int .i64 nm))
        go_upto_region 10 with fail
        refine wp_gen (fun W2 => CB W2 gT 27 #[.int .i64 4, .string ⟨#[]⟩, .int .i64 nm, .int .i64 0, .int .i64 0, .bool false, .bool false, .bool false, .bool false, .string ⟨#[]⟩, .int .i64 0] ∧ CB W2 (w.heap.size + 1) 27 (rcC rcZ) ∧ Below w.heap.size w W2) ⟨unhide hT2, unhide hR2, unhide T2⟩ ?_
        rintro W2 ⟨hT9, hR9, T9⟩
        clear hT1 hR1 T1 x0
        clear x2 t2 f2 hT2 hR2 T2 hX1
        go_wp2_with (first
          | (refine wpList_load_row (P := Try.prog) rfl 27 (.tmp 3) rfl gT rfl 27 #[.int .i64 4, .string ⟨#[]⟩, .int .i64 nm, .int .i64 0, .int .i64 0, .bool false, .bool false, .bool false, .bool false, .string ⟨#[]⟩, .int .i64 0] (0, 0) _ hT9 Try.underlying27 rfl rfl ?_)
          | (refine wpList_store_row (P := Try.prog) rfl 27 (.tmp 2) (.tmp 25) rfl (w.heap.size + 1) #[.int .i64 4, .string ⟨#[]⟩, .int .i64 nm, .int .i64 0, .int .i64 0, .bool false, .bool false, .bool false, .bool false, .string ⟨#[]⟩, .int .i64 0] rfl rfl 27 _ hR9 rfl rfl (rc_one9 _ _ _ _ _ _ _ _ _ _ _) ?_))
        have hR8 := setRow_heap _ (w.heap.size + 1) _ #[.int .i64 4, .string ⟨#[]⟩, .int .i64 nm, .int .i64 0, .int .i64 0, .bool false, .bool false, .bool false, .bool false, .string ⟨#[]⟩, .int .i64 0] 27 (0, 0) hR9
        have T4 := Go.below_setRow T9 (show w.heap.size ≤ w.heap.size + 1 by omega) #[.int .i64 4, .string ⟨#[]⟩, .int .i64 nm, .int .i64 0, .int .i64 0, .bool false, .bool false, .bool false, .bool false, .string ⟨#[]⟩, .int .i64 0]
        exact bodyPost_ret (results_cb (by exact Try.results35) _ _ (w.heap.size + 1) 27 #[.int .i64 4, .string ⟨#[]⟩, .int .i64 nm, .int .i64 0, .int .i64 0, .bool false, .bool false, .bool false, .bool false, .string ⟨#[]⟩, .int .i64 0] _ rfl hR8 Try.underlying27 rfl) rfl ⟨by rw [unhide ho] <;> rfl, T4⟩
      · by_cases k3 : kd = 3
        · subst k3
          rw [if_neg (by decide), if_neg (by decide), if_pos rfl] at ho
          replace ho := hide ho
          have hX3 := hide (rc_at9 hX1)
          replace hT1 := hide hT1
          go_upto_region 10 with (first
            | (refine wpList_load_n (P := Try.prog) (L := thY) rfl 25 (.tmp 22) rfl w.heap.size 3 rfl ⟨id, kind, hid, fix, sgn, wrp, val, nxt⟩ (unhide hX3) _ Try.underlying25 rfl ?_)
            | (refine wpList_store_cb (P := Try.prog) rfl 25 (.tmp 24) (.tmp 23) rfl (thY.c ⟨id, kind, hid, fix, sgn, wrp, val, nxt⟩) rfl rfl (unhide hT1) (show 3 + 8 ≤ 11 by decide) (thY.one _) rfl ?_; intro w5 hT5 hg5 hs5))
          refine wp_gen (fun W2 => CB W2 gT 27 #[.int .i64 3, .string ⟨#[]⟩, .int .i64 0, .int .i64 id, .int .i64 kind, .bool hid, .bool fix, .bool sgn, .bool wrp, .string val, .int .i64 nxt] ∧ CB W2 (w.heap.size + 1) 27 (rcC rcZ) ∧ Below w.heap.size w W2) ⟨cb_eq hT5 (show (#[.int .i64 3, .string ⟨#[]⟩, .int .i64 0, .int .i64 id, .int .i64 kind, .bool hid, .bool fix, .bool sgn, .bool wrp, .string val, .int .i64 nxt] : Array Value) = _ from rfl), hR1.grown hg5 (by intro e; injection e with e; omega), T1.grown hg5 (by have := T1.size; omega) (fun k hk => by injection hk with hk; omega)⟩ ?_
          rintro W2 ⟨hT9, hR9, T9⟩
          clear hT1 hR1 T1 x0
          clear hX3 hX1 hT5 hg5 hs5
          go_wp2_with (first
            | (refine wpList_load_row (P := Try.prog) rfl 27 (.tmp 3) rfl gT rfl 27 #[.int .i64 3, .string ⟨#[]⟩, .int .i64 0, .int .i64 id, .int .i64 kind, .bool hid, .bool fix, .bool sgn, .bool wrp, .string val, .int .i64 nxt] (0, 0) _ hT9 Try.underlying27 rfl rfl ?_)
            | (refine wpList_store_row (P := Try.prog) rfl 27 (.tmp 2) (.tmp 25) rfl (w.heap.size + 1) #[.int .i64 3, .string ⟨#[]⟩, .int .i64 0, .int .i64 id, .int .i64 kind, .bool hid, .bool fix, .bool sgn, .bool wrp, .string val, .int .i64 nxt] rfl rfl 27 _ hR9 rfl rfl (rc_one9 _ _ _ _ _ _ _ _ _ _ _) ?_))
          have hR8 := setRow_heap _ (w.heap.size + 1) _ #[.int .i64 3, .string ⟨#[]⟩, .int .i64 0, .int .i64 id, .int .i64 kind, .bool hid, .bool fix, .bool sgn, .bool wrp, .string val, .int .i64 nxt] 27 (0, 0) hR9
          have T4 := Go.below_setRow T9 (show w.heap.size ≤ w.heap.size + 1 by omega) #[.int .i64 3, .string ⟨#[]⟩, .int .i64 0, .int .i64 id, .int .i64 kind, .bool hid, .bool fix, .bool sgn, .bool wrp, .string val, .int .i64 nxt]
          exact bodyPost_ret (results_cb (by exact Try.results35) _ _ (w.heap.size + 1) 27 #[.int .i64 3, .string ⟨#[]⟩, .int .i64 0, .int .i64 id, .int .i64 kind, .bool hid, .bool fix, .bool sgn, .bool wrp, .string val, .int .i64 nxt] _ rfl hR8 Try.underlying27 rfl) rfl ⟨by rw [unhide ho] <;> rfl, T4⟩
        · rw [if_neg k1, if_neg (by omega), if_neg k3] at ho
          skip
          replace ho := hide ho
          go_upto_region 10 with fail
          refine wp_gen (fun W2 => CB W2 gT 27 #[.int .i64 kd, .string ⟨#[]⟩, .int .i64 0, .int .i64 0, .int .i64 0, .bool false, .bool false, .bool false, .bool false, .string ⟨#[]⟩, .int .i64 0] ∧ CB W2 (w.heap.size + 1) 27 (rcC rcZ) ∧ Below w.heap.size w W2) ⟨hT1, hR1, T1⟩ ?_
          rintro W2 ⟨hT9, hR9, T9⟩
          clear hT1 hR1 T1 x0
          clear hX1
          go_wp2_with (first
            | (refine wpList_load_row (P := Try.prog) rfl 27 (.tmp 3) rfl gT rfl 27 #[.int .i64 kd, .string ⟨#[]⟩, .int .i64 0, .int .i64 0, .int .i64 0, .bool false, .bool false, .bool false, .bool false, .string ⟨#[]⟩, .int .i64 0] (0, 0) _ hT9 Try.underlying27 rfl rfl ?_)
            | (refine wpList_store_row (P := Try.prog) rfl 27 (.tmp 2) (.tmp 25) rfl (w.heap.size + 1) #[.int .i64 kd, .string ⟨#[]⟩, .int .i64 0, .int .i64 0, .int .i64 0, .bool false, .bool false, .bool false, .bool false, .string ⟨#[]⟩, .int .i64 0] rfl rfl 27 _ hR9 rfl rfl (rc_one9 _ _ _ _ _ _ _ _ _ _ _) ?_))
          have hR8 := setRow_heap _ (w.heap.size + 1) _ #[.int .i64 kd, .string ⟨#[]⟩, .int .i64 0, .int .i64 0, .int .i64 0, .bool false, .bool false, .bool false, .bool false, .string ⟨#[]⟩, .int .i64 0] 27 (0, 0) hR9
          have T4 := Go.below_setRow T9 (show w.heap.size ≤ w.heap.size + 1 by omega) #[.int .i64 kd, .string ⟨#[]⟩, .int .i64 0, .int .i64 0, .int .i64 0, .bool false, .bool false, .bool false, .bool false, .string ⟨#[]⟩, .int .i64 0]
          exact bodyPost_ret (results_cb (by exact Try.results35) _ _ (w.heap.size + 1) 27 #[.int .i64 kd, .string ⟨#[]⟩, .int .i64 0, .int .i64 0, .int .i64 0, .bool false, .bool false, .bool false, .bool false, .string ⟨#[]⟩, .int .i64 0] _ rfl hR8 Try.underlying27 rfl) rfl ⟨by rw [unhide ho] <;> rfl, T4⟩
end Go.Proofs.Ytoacaennpddoeaa

/- The project's records: their bodies and their texts, over the loaded program. -/
namespace Go.Proofs.Ytoacaennpddoeaa
open Go.RowKit
theorem rcT_le9 (r : Rc) : (rcT r).size ≤ 2000 := by
  unfold rcT
  split
  · rename_i h
    have h1 := (rcOk_iff r).1 h
    show (rcL r).toArray.size ≤ 2000
    rw [List.size_toArray]
    unfold rcL
    rw [List.length_cons]
    rcases h1 with ⟨h2, h3, _, _⟩ | ⟨h2, _, _, h5, h6⟩ | ⟨h2, h3, _, _⟩ | ⟨h2, _, _, h5, h6⟩
    · rw [if_pos h2]
      have : r.tx.data.toList.length = r.tx.size := rfl
      omega
    · rw [if_neg (by omega), if_neg (by omega)]
      have := (varB_len r.nm.toNat).2; omega
    · rw [if_neg (by omega), if_pos h2]
      have h9 := thT_le ((thOk_iff r.th).2 h3)
      have : (thL r.th).length = (thT r.th).size := by unfold thT; show _ = (thL r.th).toArray.size; rw [List.size_toArray]
      omega
    · rw [if_neg (by omega), if_neg (by omega)]
      have := (varB_len r.nm.toNat).2; omega
  · exact Nat.zero_le _
theorem implVar_any (n : Int) (w : World) : Calls Try.prog 73 #[.int .i64 n] w fun e w' => (∃ b, e = .returned (.tuple #[.string (vT n), .bool b])) ∧ Below w.heap.size w w' := by
  by_cases h : 0 ≤ n ∧ n ≤ 1000000000
  · obtain ⟨m, rfl⟩ : ∃ m : Nat, n = (m : Int) := ⟨n.toNat, by omega⟩
    refine (implVar_yes m w (by omega)).mono ?_
    rintro e w' ⟨rfl, hb⟩
    refine ⟨⟨true, ?_⟩, hb⟩
    unfold vT
    rw [if_pos h]; rfl
  · refine (implVar_no n w (by omega)).mono ?_
    rintro e w' ⟨rfl, rfl⟩
    refine ⟨⟨false, ?_⟩, Below.refl _ _⟩
    unfold vT
    rw [if_neg h]
theorem triesOk_any (n : Int) (w : World) : Calls Try.prog 55 #[.int .i64 n] w fun e w' => e = .returned (.bool (decide (0 ≤ n ∧ n ≤ 3))) ∧ w' = w := by
  by_cases h1 : 0 ≤ n
  · by_cases h2 : n ≤ 3
    · have H := hide (show decide (0 ≤ n ∧ n ≤ 3) = true from decide_eq_true ⟨h1, h2⟩)
      go_enter Try.func55, Try.ntmps55
      go_wp2
      go_ret
      exact ⟨retB (by simp; try omega), rfl⟩
    · have H := hide (show decide (0 ≤ n ∧ n ≤ 3) = false from decide_eq_false (fun h => h2 h.2))
      go_enter Try.func55, Try.ntmps55
      go_wp2
      go_ret
      exact ⟨retB (by simp; try omega), rfl⟩
  · have H := hide (show decide (0 ≤ n ∧ n ≤ 3) = false from decide_eq_false (fun h => h1 h.1))
    go_enter Try.func55, Try.ntmps55
    go_wp2
    go_ret
    exact ⟨retB (by simp; try omega), rfl⟩
set_option maxRecDepth 20000 in
set_option maxHeartbeats 2000000 in
theorem recBody_any (r : Rc) (htx : r.tx.size ≤ 100000000) (w : World) :
    Calls Try.prog 34 #[.agg (rcC r)] w fun e w' => e = .returned (.tuple #[.string (bodyS r), .bool (bodyO r)]) ∧ Below w.heap.size w w' := by
  obtain ⟨bs, hbs⟩ : ∃ z, z = bodyS r := ⟨_, rfl⟩
  obtain ⟨bo, hbo⟩ : ∃ z, z = bodyO r := ⟨_, rfl⟩
  rw [← hbs, ← hbo]
  have CV := hide (fun W => implVar_any r.nm W)
  have CT := (fun W => implThingText_any r.th W)
  obtain ⟨kd, tx, nm, ⟨id, kind, hid, fix, sgn, wrp, val, nxt⟩⟩ := r
  unfold bodyS at hbs
  unfold bodyO at hbo
  dsimp only at hbs hbo htx CV CT
  simp only [rcC]
  simp only [thC] at CT
  obtain ⟨tt, htt⟩ : ∃ z, z = ttB ⟨id, kind, hid, fix, sgn, wrp, val, nxt⟩ := ⟨_, rfl⟩
  obtain ⟨tk, hto⟩ : ∃ z, z = thOk ⟨id, kind, hid, fix, sgn, wrp, val, nxt⟩ := ⟨_, rfl⟩
  rw [← htt, ← hto] at CT
  rw [← htt] at hbs
  rw [← hto] at hbo
  clear htt hto
  obtain ⟨vt, hvt⟩ : ∃ z, z = vT nm := ⟨_, rfl⟩
  rw [← hvt] at CV hbs
  clear hvt
  replace CT := hide CT
  obtain ⟨W, hW, hX, hB, hs1⟩ := one_cb w #[.int .i64 kd, .string tx, .int .i64 nm, .int .i64 id, .int .i64 kind, .bool hid, .bool fix, .bool sgn, .bool wrp, .string val, .int .i64 nxt] 27
  have x2 := hX.cell 2 (v := .int .i64 nm) rfl
  replace hX := hide hX; replace hB := hide hB
  replace hbs := hide hbs; replace hbo := hide hbo
  go_enter Try.func34, Try.ntmps34
  go_upto_region 1 with fail
  first | rw [hW] | skip
  clear hW
  go_upto_region 2 with (go_at_call 73; refine (unhide CV _).mono ?_; rintro e w1 ⟨⟨vb, rfl⟩, hb1⟩)
  have hX1 := (unhide hX).step hb1
  have T1 := hide ((unhide hB).trans (hb1.mono (unhide hB).size))
  clear hb1 x2 hX hB CV
  have x0 := hX1.cell 0 (v := (.int .i64 kd)) rfl
  have x1 := hX1.cell 1 (v := (.string tx)) rfl
  have x2 := hX1.cell 2 (v := (.int .i64 nm)) rfl
  have x3 := hX1.cell 3 (v := (.int .i64 id)) rfl
  have x4 := hX1.cell 4 (v := (.int .i64 kind)) rfl
  have x5 := hX1.cell 5 (v := (.bool hid)) rfl
  have x6 := hX1.cell 6 (v := (.bool fix)) rfl
  have x7 := hX1.cell 7 (v := (.bool sgn)) rfl
  have x8 := hX1.cell 8 (v := (.bool wrp)) rfl
  have x9 := hX1.cell 9 (v := (.string val)) rfl
  have x10 := hX1.cell 10 (v := (.int .i64 nxt)) rfl
  clear hX1
  replace hbs := unhide hbs; replace hbo := unhide hbo
  by_cases k1 : kd = 1
  · subst k1
    rw [if_pos rfl] at hbs hbo
    subst hbs hbo
    have hsz : ((bs.size : Int) == 32) = decide (bs.size = 32) := by
      rw [Bool.eq_iff_iff]; simp; omega
    clear CT
    go_wp2
    go_quiet (fail)
    go_wp2
    go_ret2
    exact ⟨rfl, (unhide T1).trans (bDN (Below.refl _ _) nq)⟩
  · by_cases k2 : kd = 2
    · subst k2
      rw [if_neg (by decide), if_pos (by decide)] at hbs
      rw [if_neg (by decide), if_pos rfl] at hbo
      subst hbs
      have CI := (fun W => triesOk_any nm W)
      rw [← hbo] at CI
      replace CI := hide CI; replace hbo := hide hbo
      clear CT
      go_wp2_with (go_at_call 55; refine (unhide CI _).mono ?_; rintro e w2 ⟨rfl, hw2⟩; have hw2' := hw2.symm; subst hw2')
      go_ret2
      exact ⟨rfl, unhide T1⟩
    · by_cases k4 : kd = 4
      · subst k4
        rw [if_neg (by decide), if_pos (by decide)] at hbs
        rw [if_neg (by decide), if_neg (by decide), if_neg (by decide), if_pos rfl] at hbo
        subst hbs
        by_cases c1 : 1 ≤ nm ∧ nm ≤ 1000
        · rw [decide_eq_true c1] at hbo
          subst hbo
          have CI := hide (fun W => idOk_yes nm W c1.1 c1.2)
          clear CT
          go_wp2_with (go_at_call 75; refine (unhide CI _).mono ?_; rintro e w2 ⟨rfl, hw2⟩; have hw2' := hw2.symm; subst hw2')
          go_ret2
          exact ⟨rfl, unhide T1⟩
        · rw [decide_eq_false c1] at hbo
          subst hbo
          have CI := hide (fun W => idOk_no nm W (by omega))
          clear CT
          go_wp2_with (go_at_call 75; refine (unhide CI _).mono ?_; rintro e w2 ⟨rfl, hw2⟩; have hw2' := hw2.symm; subst hw2')
          go_ret2
          exact ⟨rfl, unhide T1⟩
      · by_cases k3 : kd = 3
        · subst k3
          rw [if_neg (by decide), if_neg (by decide), if_pos rfl] at hbs
          rw [if_neg (by decide), if_neg (by decide), if_pos rfl] at hbo
          subst hbs hbo
          go_wp2_with (go_at_call 74; refine (unhide CT _).mono ?_; rintro e w2 ⟨rfl, hb2⟩)
          go_ret2
          exact ⟨rfl, (unhide T1).trans (hb2.mono (unhide T1).size)⟩
        · rw [if_neg k1, if_neg (by omega), if_neg k3] at hbs
          rw [if_neg k1, if_neg k2, if_neg k3, if_neg k4] at hbo
          subst hbs hbo
          clear CT
          go_wp2
          go_ret2
          exact ⟨rfl, unhide T1⟩
theorem recOk_is (r : Rc) : rcOk r = (bodyO r && rcEq r (onlyT r)) := by
  rw [Bool.eq_iff_iff, rcOk_iff, Bool.and_eq_true, rcEq_iff]
  obtain ⟨kd, tx, nm, th⟩ := r
  unfold RcOk bodyO onlyT
  dsimp only
  have hE : ∀ s : ByteArray, s.size = 0 ↔ s = ⟨#[]⟩ := fun s => ⟨size_zero_is, fun h => by rw [h]; rfl⟩
  have hZ : ∀ x : Th, ThNo x ↔ x = thZ := fun x => ⟨thNo_is, fun h => by rw [h]; exact thNo_thZ⟩
  rw [hE, hZ]
  by_cases k1 : kd = 1
  · subst k1; simp
  · by_cases k2 : kd = 2
    · subst k2; simp; constructor
      · rintro ⟨a, b, c, d⟩; exact ⟨⟨c, d⟩, a, b⟩
      · rintro ⟨⟨c, d⟩, a, b⟩; exact ⟨a, b, c, d⟩
    · by_cases k4 : kd = 4
      · subst k4; simp; constructor
        · rintro ⟨a, b, c, d⟩; exact ⟨⟨c, d⟩, a, b⟩
        · rintro ⟨⟨c, d⟩, a, b⟩; exact ⟨a, b, c, d⟩
      · by_cases k3 : kd = 3
        · subst k3; simp [thOk_iff]
        · simp [k1, k2, k3, k4]
theorem recT_is {r : Rc} (h : rcOk r = true) : rcT r = oneY r.kd ++ bodyS r ∧ 1 ≤ r.kd ∧ r.kd ≤ 4 := by
  have h1 := (rcOk_iff r).1 h
  have e : ∀ (k : Nat) (l : List UInt8), (⟨(byteOf k :: l).toArray⟩ : ByteArray) = ⟨#[byteOf k]⟩ ++ ⟨l.toArray⟩ := fun k l => by
    apply ByteArray.ext
    apply Array.toList_inj.1
    rw [ByteArray.data_append]
    simp
  unfold rcT rcL bodyS
  rw [if_pos h]
  obtain ⟨kd, tx, nm, th⟩ := r
  unfold RcOk at h1
  dsimp only at h1 ⊢
  rcases h1 with ⟨rfl, h2, h3, _⟩ | ⟨rfl, _, _, h5, h6⟩ | ⟨rfl, h2, _, _⟩ | ⟨rfl, _, _, h5, h6⟩
  · refine ⟨?_, by decide, by decide⟩
    rw [if_pos rfl, if_pos rfl, e]
    rfl
  · refine ⟨?_, by decide, by decide⟩
    rw [if_neg (by decide), if_neg (by decide), if_neg (by decide), if_pos (by decide), e]
    unfold vT
    rw [if_pos ⟨h5, by omega⟩]
    rfl
  · refine ⟨?_, by decide, by decide⟩
    rw [if_neg (by decide), if_pos rfl, if_neg (by decide), if_neg (by decide), if_pos rfl, e]
    unfold ttB
    rw [if_pos ((thOk_iff th).2 h2)]
    rfl
  · refine ⟨?_, by decide, by decide⟩
    rw [if_neg (by decide), if_neg (by decide), if_neg (by decide), if_pos (by decide), e]
    unfold vT
    rw [if_pos ⟨by omega, by omega⟩]
    rfl
end Go.Proofs.Ytoacaennpddoeaa

/- The project's records: their texts, over the loaded program. -/
namespace Go.Proofs.Ytoacaennpddoeaa
open Go.RowKit
set_option maxRecDepth 20000 in
set_option maxHeartbeats 4000000 in
theorem implRecText_any (r : Rc) (htx : r.tx.size ≤ 100000000) (w : World) :
    Calls Try.prog 10 #[.agg (rcC r)] w fun e w' => e = .returned (.tuple #[.string (rcT r), .bool (rcOk r)]) ∧ Below w.heap.size w w' := by
  have CB := (fun W => recBody_any r htx W)
  have CO := (fun W => onlyTold_any r W)
  have NE := (fun W => neRc_run r (onlyT r) W)
  have CY := hide (fun W => implByteY9_any r.kd W)
  have RO := recOk_is r
  have RT := fun h => @recT_is r h
  have RN : rcOk r = false → rcT r = ⟨#[]⟩ := fun h => by unfold rcT; rw [h]; rfl
  obtain ⟨bo, hbo⟩ : ∃ z, z = bodyO r := ⟨_, rfl⟩
  obtain ⟨eo, heo⟩ : ∃ z, z = rcEq r (onlyT r) := ⟨_, rfl⟩
  obtain ⟨bs, hbs⟩ : ∃ z, z = bodyS r := ⟨_, rfl⟩
  have hbsz : bo = true → eo = true → bs.size ≤ 100000000 := by
    intro h1 h2
    have h := RT (by rw [RO, ← hbo, ← heo, h1, h2]; rfl)
    have h3 := rcT_le9 r
    rw [h.1, ByteArray.size_append] at h3
    rw [hbs]; omega
  rw [← hbo, ← hbs] at CB
  rw [← hbo, ← heo] at RO
  rw [← heo] at NE
  rw [← hbs] at RT
  clear hbo heo hbs
  obtain ⟨o, ho⟩ : ∃ z, z = onlyT r := ⟨_, rfl⟩
  rw [← ho] at CO NE
  clear ho
  obtain ⟨rt, hrt⟩ : ∃ z, z = rcT r := ⟨_, rfl⟩
  obtain ⟨ro, hro⟩ : ∃ z, z = rcOk r := ⟨_, rfl⟩
  rw [← hrt, ← hro] at RT RN
  rw [← hro] at RO
  rw [← hrt, ← hro]
  clear hrt hro
  obtain ⟨kd, tx, nm, ⟨id, kind, hid, fix, sgn, wrp, val, nxt⟩⟩ := r
  obtain ⟨okd, otx, onm, ⟨oid, okind, ohid, ofix, osgn, owrp, oval, onxt⟩⟩ := o
  simp only [rcC] at CB CO NE ⊢
  dsimp only at CY RT htx
  obtain ⟨yk, hyk⟩ : ∃ z, z = oneY kd := ⟨_, rfl⟩
  have hyz : yk.size = 1 := by rw [hyk]; exact oneY_size9 kd
  rw [← hyk] at CY RT
  clear hyk
  replace CB := hide CB; replace CO := hide CO; replace NE := hide NE; replace CY := hide CY; replace RO := hide RO; replace RT := hide RT; replace RN := hide RN; replace hbsz := hide hbsz; replace hyz := hide hyz
  obtain ⟨W, hW, hX, hB, hs1⟩ := one_cb w #[.int .i64 kd, .string tx, .int .i64 nm, .int .i64 id, .int .i64 kind, .bool hid, .bool fix, .bool sgn, .bool wrp, .string val, .int .i64 nxt] 27
  replace hX := hide hX; replace hB := hide hB
  go_enter Try.func10, Try.ntmps10
  go_upto_region 1 with fail
  first | rw [hW] | skip
  clear hW hs1
  go_upto_region 2 with (first
    | (refine wpList_load_row (P := Try.prog) rfl 27 (.tmp 1) rfl w.heap.size rfl 27 #[.int .i64 kd, .string tx, .int .i64 nm, .int .i64 id, .int .i64 kind, .bool hid, .bool fix, .bool sgn, .bool wrp, .string val, .int .i64 nxt] (0, 0) _ (unhide hX) Try.underlying27 rfl rfl ?_)
    | (go_at_call 34; refine (unhide CB _).mono ?_; rintro e w1 ⟨rfl, hb1⟩))
  have hX1 := (unhide hX).step hb1
  have T1 := hide ((unhide hB).trans (hb1.mono (unhide hB).size))
  have KF := hide (show ∀ W', Below w1.heap.size w1 W' → W'.cell? ⟨w.heap.size, 0, none⟩ = some (.int .i64 kd) ∧ W'.cell? ⟨w.heap.size, 1, none⟩ = some (.string tx) ∧ W'.cell? ⟨w.heap.size, 2, none⟩ = some (.int .i64 nm) ∧ W'.cell? ⟨w.heap.size, 3, none⟩ = some (.int .i64 id) ∧ W'.cell? ⟨w.heap.size, 4, none⟩ = some (.int .i64 kind) ∧ W'.cell? ⟨w.heap.size, 5, none⟩ = some (.bool hid) ∧ W'.cell? ⟨w.heap.size, 6, none⟩ = some (.bool fix) ∧ W'.cell? ⟨w.heap.size, 7, none⟩ = some (.bool sgn) ∧ W'.cell? ⟨w.heap.size, 8, none⟩ = some (.bool wrp) ∧ W'.cell? ⟨w.heap.size, 9, none⟩ = some (.string val) ∧ W'.cell? ⟨w.heap.size, 10, none⟩ = some (.int .i64 nxt) from fun W' h => ⟨(hX1.step h).cell 0 rfl, (hX1.step h).cell 1 rfl, (hX1.step h).cell 2 rfl, (hX1.step h).cell 3 rfl, (hX1.step h).cell 4 rfl, (hX1.step h).cell 5 rfl, (hX1.step h).cell 6 rfl, (hX1.step h).cell 7 rfl, (hX1.step h).cell 8 rfl, (hX1.step h).cell 9 rfl, (hX1.step h).cell 10 rfl⟩)
  clear hb1 hX1 hX hB CB
  cases bo with
  | false =>
    have E : ro = false := by rw [unhide RO]; rfl
    have E2 := unhide RN E
    subst E E2
    clear RO RT RN
    refine wp_region_held_drew (S := fun W => Below w1.heap.size w1 W) (by kernel_rfl) (Below.refl _ w1).drew (fun hHeld => ?_)
    refine held_take (i := 0) 11 (v := ?vb_0) rfl rfl (by kernel_rfl) (by kernel_rfl) (by kernel_rfl) (fun _ _ _ h => h) (Or.inl ⟨by rfl, ?hyb_0⟩) hHeld ?restb_0
    case hyb_0 => (intro W hS; go_simp; try with_reducible rfl)
    simp only [Act.put, List.setIfInBounds_toArray, List.set_cons_zero, List.set_cons_succ]
    refine held_take (i := 1) 12 (v := ?vb_1) rfl rfl (by kernel_rfl) (by kernel_rfl) (by kernel_rfl) (fun _ _ _ h => h) (Or.inl ⟨by rfl, ?hyb_1⟩) hHeld ?restb_1
    case hyb_1 => (intro W hS; go_simp; try with_reducible rfl)
    simp only [Act.put, List.setIfInBounds_toArray, List.set_cons_zero, List.set_cons_succ]
    refine held_take (i := 2) 13 (v := ?vb_2) rfl rfl (by kernel_rfl) (by kernel_rfl) (by kernel_rfl) (fun _ _ _ h => h) (Or.inl ⟨by rfl, ?hyb_2⟩) hHeld ?restb_2
    case hyb_2 => (intro W hS; go_simp; try with_reducible rfl)
    simp only [Act.put, List.setIfInBounds_toArray, List.set_cons_zero, List.set_cons_succ]
    refine held_take (i := 3) 14 (v := undef) rfl rfl (by kernel_rfl) (by kernel_rfl) (by kernel_rfl) (fun _ _ _ h => h) (Or.inr ⟨by kernel_rfl, rfl⟩) hHeld ?_
    simp only [Act.put, List.setIfInBounds_toArray, List.set_cons_zero, List.set_cons_succ]
    refine held_take (i := 4) 15 (v := undef) rfl rfl (by kernel_rfl) (by kernel_rfl) (by kernel_rfl) (fun _ _ _ h => h) (Or.inr ⟨by kernel_rfl, rfl⟩) hHeld ?_
    simp only [Act.put, List.setIfInBounds_toArray, List.set_cons_zero, List.set_cons_succ]
    refine held_take (i := 5) 16 (v := undef) rfl rfl (by kernel_rfl) (by kernel_rfl) (by kernel_rfl) (fun _ _ _ h => h) (Or.inr ⟨by kernel_rfl, rfl⟩) hHeld ?_
    simp only [Act.put, List.setIfInBounds_toArray, List.set_cons_zero, List.set_cons_succ]
    refine held_take (i := 6) 17 (v := undef) rfl rfl (by kernel_rfl) (by kernel_rfl) (by kernel_rfl) (fun _ _ _ h => h) (Or.inr ⟨by kernel_rfl, rfl⟩) hHeld ?_
    simp only [Act.put, List.setIfInBounds_toArray, List.set_cons_zero, List.set_cons_succ]
    refine held_take (i := 7) 18 (v := ?vb_7) rfl rfl (by kernel_rfl) (by kernel_rfl) (by kernel_rfl) (fun _ _ _ h => h) (Or.inl ⟨by rfl, ?hyb_7⟩) hHeld ?restb_7
    case hyb_7 => (intro W hS; go_simp; try with_reducible rfl)
    simp only [Act.put, List.setIfInBounds_toArray, List.set_cons_zero, List.set_cons_succ]
    refine wpAnyH_done (by kernel_rfl) ?_ _
    have T9 := (unhide T1).trans (hHeld.mono (unhide T1).size)
    clear hHeld KF NE CO
    go_wp2
    go_ret2
    exact ⟨rfl, T9⟩
  | true =>
    refine wp_region_held_drew (S := fun W => Below w1.heap.size w1 W) (by kernel_rfl) (Below.refl _ w1).drew (fun hHeld => ?_)
    refine held_take (i := 0) 11 (v := ?vc_0) rfl rfl (by kernel_rfl) (by kernel_rfl) (by kernel_rfl) (fun _ _ _ h => h) (Or.inl ⟨by rfl, ?hyc_0⟩) hHeld ?restc_0
    case hyc_0 => (intro W hS; go_simp; try with_reducible rfl)
    simp only [Act.put, List.setIfInBounds_toArray, List.set_cons_zero, List.set_cons_succ]
    refine held_take (i := 1) 12 (v := ?vc_1) rfl rfl (by kernel_rfl) (by kernel_rfl) (by kernel_rfl) (fun _ _ _ h => h) (Or.inl ⟨by rfl, ?hyc_1⟩) hHeld ?restc_1
    case hyc_1 => (intro W hS; go_simp; try with_reducible rfl)
    simp only [Act.put, List.setIfInBounds_toArray, List.set_cons_zero, List.set_cons_succ]
    refine held_take (i := 2) 13 (v := ?vc_2) rfl rfl (by kernel_rfl) (by kernel_rfl) (by kernel_rfl) (fun _ _ _ h => h) (Or.inl ⟨by rfl, ?hyc_2⟩) hHeld ?restc_2
    case hyc_2 => (intro W hS; go_simp; try with_reducible rfl)
    simp only [Act.put, List.setIfInBounds_toArray, List.set_cons_zero, List.set_cons_succ]
    refine held_take (i := 3) 14 (v := ?vc_3) rfl rfl (by kernel_rfl) (by kernel_rfl) (by kernel_rfl) (fun _ _ _ h => h) (Or.inl ⟨by rfl, ?hyc_3⟩) hHeld ?restc_3
    case hyc_3 => (intro W hS; obtain ⟨z0, z1, z2, z3, z4, z5, z6, z7, z8, z9, z10⟩ := unhide KF W hS; go_simp; try with_reducible rfl)
    simp only [Act.put, List.setIfInBounds_toArray, List.set_cons_zero, List.set_cons_succ]
    refine held_take (i := 4) 15 (v := ?vc_4) rfl rfl (by kernel_rfl) (by kernel_rfl) (by kernel_rfl) (fun _ _ _ h => h) (Or.inl ⟨by rfl, ?hyc_4⟩) hHeld ?restc_4
    case hyc_4 => (intro W hS; obtain ⟨z0, z1, z2, z3, z4, z5, z6, z7, z8, z9, z10⟩ := unhide KF W hS; go_simp; try with_reducible rfl)
    simp only [Act.put, List.setIfInBounds_toArray, List.set_cons_zero, List.set_cons_succ]
    refine wpAnyH_ready (rs := [5]) (by kernel_rfl) (by simp) ?_
    refine AllReadyH.cons rfl (fun K hK => ?_) AllReadyH.nil
    go_simp
    refine (unhide CO _).mono ?_
    rintro e w5 ⟨rfl, hb5⟩
    refine hK.out _ _ (hHeld.trans (hb5.mono hHeld.size)) (fun hHeld => ?_)
    clear hK K hb5
    refine held_take (i := 6) 17 (v := .bool (!eo)) rfl rfl (by kernel_rfl) (by kernel_rfl) (by kernel_rfl) (fun _ _ _ h => h) (Or.inl ⟨by rfl, fun W hS => exec_neq 27 (.tmp 14) (.tmp 16) 27 rfl rfl rfl (guardRc _ _ _ _ W) (unhide NE W)⟩) hHeld ?restc_6
    simp only [Act.put, List.setIfInBounds_toArray, List.set_cons_zero, List.set_cons_succ]
    refine held_take (i := 7) 18 (v := ?vc_7) rfl rfl (by kernel_rfl) (by kernel_rfl) (by kernel_rfl) (fun _ _ _ h => h) (Or.inl ⟨by rfl, ?hyc_7⟩) hHeld ?restc_7
    case hyc_7 => (intro W hS; go_simp; try with_reducible rfl)
    simp only [Act.put, List.setIfInBounds_toArray, List.set_cons_zero, List.set_cons_succ]
    refine wpAnyH_done (by kernel_rfl) ?_ _
    have T9 := (unhide T1).trans (hHeld.mono (unhide T1).size)
    cases eo with
    | false =>
      have E : ro = false := by rw [unhide RO]; rfl
      have E2 := unhide RN E
      subst E E2
      clear hHeld KF NE CO RO RT RN
      go_wp2
      go_ret2
      exact ⟨rfl, T9⟩
    | true =>
      have E : ro = true := by rw [unhide RO]; rfl
      have E2 := (unhide RT E).1
      subst E E2
      have hz := unhide hbsz rfl rfl
      have hy := unhide hyz
      have s1 : ¬ 9223372036854775807 < yk.size + bs.size := by omega
      have s2 : yk.size + bs.size ≤ 9223372036854775807 := by omega
      obtain ⟨z0, _⟩ := unhide KF _ hHeld
      replace hz := hide hz; replace hy := hide hy
      have T9 := hide T9
      clear hHeld KF NE CO RO RT RN
      go_wp2_with (go_at_call 36; refine (unhide CY _).mono ?_; rintro e w8 ⟨rfl, hb8⟩)
      go_ret2
      exact ⟨rfl, (unhide T9).trans (hb8.mono (unhide T9).size)⟩
end Go.Proofs.Ytoacaennpddoeaa

/- The laws' helpers on rows of things: how much, a copy, whether they are the same. -/
namespace Go.Proofs.Ytoacaennpddoeaa
open Go.RowKit
def thsSz : List Th → Nat
  | [] => 0
  | x :: r => x.val.size + thsSz r
theorem thsSz_append (a b : List Th) : thsSz (a ++ b) = thsSz a + thsSz b := by
  induction a with
  | nil => simp [thsSz]
  | cons f r ih => rw [List.cons_append, thsSz, thsSz, ih]; omega
theorem thsSz_mem {fs : List Th} {f : Th} (h : f ∈ fs) : f.val.size ≤ thsSz fs := by
  induction fs with
  | nil => cases h
  | cons x r ih =>
    rw [thsSz]
    rcases List.mem_cons.1 h with rfl | h
    · omega
    · have := ih h; omega
theorem thsSz_take {fs : List Th} {k : Nat} {f : Th} (h : fs[k]? = some f) : thsSz (fs.take (k + 1)) = thsSz (fs.take k) + f.val.size := by
  rw [List.take_add_one, h, thsSz_append]
  simp [thsSz]
/-- What the counted size of a row of things tells. -/
def TsEnd (L : Int) (xs : List Th) (z : Int) : Prop := z < 0 ∨ z = L - ((xs.length + thsSz xs : Nat) : Int) ∧ 0 ≤ z
theorem RdN.openT {w : World} {v : Value} {xs : List Th} (h : RdN thY w v xs) : ∃ a c, v = .slice a xs.length c ∧ ∀ j x, xs[j]? = some x → ∃ g o, a = some ⟨g, o, none⟩ ∧ g < w.heap.size ∧ AtN thY w g (o + j * 8) x := h.open
theorem infoThing : (Try.prog.info? 25).map (fun i => (i.zero, i.size, i.bytes)) = some (some (.agg (thC thZ)), 8, 48) := by kernel_rfl
set_option maxRecDepth 20000 in
set_option maxHeartbeats 1000000 in
theorem szThingS_any (xs : List Th) (v : Value) (L : Int) (hL : 0 ≤ L ∧ L ≤ 1048576) (w : World) (hr : RdN thY w v xs) (hn : xs.length ≤ maxLen) (hz : ∀ x ∈ xs, x.val.size ≤ maxLen) :
    Calls Try.prog 65 #[v, .int .i64 L] w fun e w' => (∃ z : Int, e = .returned (.int .i64 z) ∧ TsEnd L xs z) ∧ Below w.heap.size w w' := by
  obtain ⟨a, c, rfl, hc⟩ := hr.openT
  have hn' := hn
  unfold maxLen at hn'
  clear hr hn
  obtain ⟨n, hnn⟩ : ∃ n, xs.length = n := ⟨_, rfl⟩
  rw [hnn] at hn' ⊢
  replace hnn := hide hnn
  replace hz := hide hz
  by_cases c1 : L - (n : Int) < 0
  · go_enter Try.func65, Try.ntmps65
    go_wp2
    go_ret
    exact ⟨⟨-1, rfl, .inl (by decide)⟩, Below.refl _ _⟩
  · go_enter Try.func65, Try.ntmps65
    go_wp2
    go_loopw [1, 5] (fun tl ti wr => ∃ (k : Nat) (l : Int), k ≤ n ∧ ti = .int .i64 k ∧ tl = .int .i64 l ∧ Hid (l = L - ((n + thsSz (xs.take k) : Nat) : Int) ∧ 0 ≤ l) ∧ Below w.heap.size w wr) (fun _ ti _ => n - (intOf ti).toNat)
    case atStart => exact ⟨0, L - n, Nat.zero_le _, rfl, by go_num, ⟨by show _ = L - ((n + thsSz [] : Nat) : Int); simp [thsSz], by omega⟩, Below.refl _ _⟩
    case round =>
      obtain ⟨k, l, hk, rfl, rfl, hsum, hb⟩ := hrel
      by_cases hlt : k < n
      · have hk' : k < xs.length := by rw [unhide hnn]; exact hlt
        obtain ⟨f, hf⟩ : ∃ f, xs[k]? = some f := ⟨xs[k], List.getElem?_eq_getElem hk'⟩
        obtain ⟨g, o, rfl, hg, hat⟩ := hc k f hf
        obtain ⟨d0, d1, d2, d3, d4, d5, d6, d7⟩ := (hat.below hb hg).th
        have hzf := unhide hz f (List.mem_of_getElem? hf)
        have hl2 : 0 ≤ l ∧ l ≤ 1048576 := by have := unhide hsum; omega
        have HT := hide (thsSz_take hf)
        have C := hide (fun W => szThing_any f l hl2 hzf W)
        have hss := hb.size
        replace hf := hide hf
        clear hc hat hzf
        obtain ⟨id, kind, hid, fix, sgn, wrp, val, nxt⟩ := f
        go_wp2_with (go_at_call 67; refine ((unhide C) _).mono ?_; rintro e w1 ⟨⟨r, rfl, hr1⟩, hb1⟩)
        · go_ret
          exact ⟨⟨_, rfl, .inl (by decide)⟩, hb.trans (hb1.mono hss)⟩
        · go_roundw
          case rel =>
            refine ⟨k + 1, r, by omega, by go_num, rfl, ?_, hb.trans (hb1.mono hss)⟩
            have h3 := unhide HT
            have h4 := unhide hsum
            rcases hr1 with ⟨q, _⟩ | ⟨q, q2⟩
            · exact absurd q (by omega)
            · skip
              exact ⟨by rw [h3]; omega, by omega⟩
          case measure => simp [intOf]; omega
      · have e1 : k = n := by omega
        have e2 : xs.take k = xs := List.take_of_length_le (by rw [unhide hnn]; omega)
        rw [e2] at hsum
        go_wp2
        go_ret
        exact ⟨⟨l, rfl, .inr (by rw [unhide hnn]; exact unhide hsum)⟩, hb⟩
set_option maxRecDepth 20000 in
set_option maxHeartbeats 2000000 in
theorem toThingS_any (fs : List Th) (v : Value) (w : World) (hr : RdN thY w v fs) (hn : fs.length ≤ 1048576) :
    Calls Try.prog 66 #[v] w fun e w' => (∃ a c, e = .returned (.slice a fs.length c) ∧ OwnN thY w' w.heap.size 25 (.slice a fs.length c) fs) ∧ Below w.heap.size w w' := by
  obtain ⟨i0, hi, hz0, hz1, hz2⟩ := info_parts infoThing
  obtain ⟨a, c, rfl, hc⟩ := hr.openT
  clear hr
  obtain ⟨n, hnn⟩ : ∃ n, fs.length = n := ⟨_, rfl⟩
  rw [hnn] at hn ⊢
  replace hnn := hide hnn
  go_enter Try.func66, Try.ntmps66
  go_wp2_with (at_make; refine wpList_make_full _ rfl _ _ 34 rfl w.heap.size 25 i0 (.agg (thC thZ)) 8 Try.underlying34 hi hz0 hz1 _ _ _ _ n rfl rfl rfl rfl (by rw [hz2]; omega) (by unfold maxLen; omega) (Nat.le_refl _) ?_; intro w1 hown1 hgrow1)
  have hr0 : OwnN thY w1 w.heap.size 25 (.slice (some ⟨w.heap.size, 0, none⟩) n n) (fs.take 0 ++ List.replicate (n - 0) thZ) := OwnN.made thZ rfl hown1
  have hb0 : Below w.heap.size w w1 := (Below.refl w.heap.size w).grown hgrow1 (Nat.le_refl _) (fun k hk => by cases hk)
  clear hown1 hgrow1
  go_loopw [4] (fun ti wr => ∃ k : Nat, k ≤ n ∧ ti = .int .i64 k ∧ OwnN thY wr w.heap.size 25 (.slice (some ⟨w.heap.size, 0, none⟩) n n) (fs.take k ++ List.replicate (n - k) thZ) ∧ Below w.heap.size w wr) (fun ti _ => n - (intOf ti).toNat)
  case atStart => exact ⟨0, Nat.zero_le _, rfl, hr0, hb0⟩
  case round =>
    obtain ⟨k, hk, rfl, ho, hb⟩ := hrel
    by_cases hlt : k < n
    · have hk' : k < fs.length := by rw [unhide hnn]; exact hlt
      obtain ⟨f, hf⟩ : ∃ f, fs[k]? = some f := ⟨fs[k], List.getElem?_eq_getElem hk'⟩
      obtain ⟨g, o, rfl, hg, hat⟩ := hc k f hf
      have hatw := hat.below hb hg
      have hss := hb.size
      replace hf := hide hf
      have hlk : (k : Int) < (n : Int) := by omega
      clear hc hat hr0 hb0
      go_wp2_with (first
        | (refine wpList_load_n (L := thY) rfl 54 (.tmp 18) rfl g (o + k * 8) rfl f hatw _ Try.underlying54 rfl ?_)
        | (go_at_call 68; refine (toThing_any f _).mono ?_; rintro e w2 ⟨rfl, hb1⟩; have ho1 := ho.below hb1)
        | (refine wpList_store_n (L := thY) rfl 25 (.tmp 21) (.tmp 20) rfl (k := k) rfl f rfl ho1 hlt rfl ?_; intro w3 ho2 hg2 hs2))
      rw [take_fillN (unhide hf) (unhide hnn)] at ho2
      go_roundw
      case rel => exact ⟨k + 1, by omega, by go_num, ho2, (hb.trans (hb1.mono hss)).grown hg2 (by have := hb1.size; omega) (fun j hj => by cases hj; exact Nat.le_refl _)⟩
      case measure => simp [intOf]; omega
    · have e1 : k = n := by omega
      have e2 : fs.take k ++ List.replicate (n - k) thZ = fs := by
        rw [e1, Nat.sub_self, List.take_of_length_le (by rw [unhide hnn]; exact Nat.le_refl _)]
        simp
      rw [e2] at ho
      go_wp2
      go_ret
      exact ⟨⟨_, _, rfl, ho⟩, hb⟩
set_option maxRecDepth 20000 in
set_option maxHeartbeats 2000000 in
theorem eqThingS_any (fs : List Th) (v1 v2 : Value) (w : World) (hr1 : RdN thY w v1 fs) (hr2 : RdN thY w v2 fs) (hn : fs.length ≤ 2000000) :
    Calls Try.prog 62 #[v1, v2] w fun e w' => e = .returned (.bool true) ∧ Below w.heap.size w w' := by
  obtain ⟨a1, c1, rfl, hc1⟩ := hr1.openT
  obtain ⟨a2, c2, rfl, hc2⟩ := hr2.openT
  clear hr1 hr2
  obtain ⟨n, hnn⟩ : ∃ n, fs.length = n := ⟨_, rfl⟩
  rw [hnn] at hn ⊢
  replace hnn := hide hnn
  go_enter Try.func62, Try.ntmps62
  go_wp2
  go_loopw [5] (fun ti wr => ∃ k : Nat, k ≤ n ∧ ti = .int .i64 k ∧ Below w.heap.size w wr) (fun ti _ => n - (intOf ti).toNat)
  case atStart => exact ⟨0, Nat.zero_le _, rfl, Below.refl _ _⟩
  case round =>
    obtain ⟨k, hk, rfl, hb⟩ := hrel
    by_cases hlt : k < n
    · have hk' : k < fs.length := by rw [unhide hnn]; exact hlt
      obtain ⟨f, hf⟩ : ∃ f, fs[k]? = some f := ⟨fs[k], List.getElem?_eq_getElem hk'⟩
      obtain ⟨g1, o1, rfl, hg1, hat1⟩ := hc1 k f hf
      obtain ⟨g2, o2, rfl, hg2, hat2⟩ := hc2 k f hf
      have hA1 := hide (hat1.below hb hg1)
      have hA2 := hide (hat2.below hb hg2)
      have hss := hb.size
      have hgw1 : g1 < wr.heap.size := by omega
      have hgw2 : g2 < wr.heap.size := by omega
      have hi0 : (0 : Int) ≤ (k : Int) := by omega
      have hi1 : (k : Int) < (n : Int) := by omega
      replace hf := hide hf
      clear hc1 hc2 hat1 hat2
      have C := hide (fun W => eqThing_any f W)
      obtain ⟨id, kind, hid, fix, sgn, wrp, val, nxt⟩ := f
      obtain ⟨d0, d1, d2, d3, d4, d5, d6, d7⟩ := (unhide hA1).th
      obtain ⟨e0, e1, e2, e3, e4, e5, e6, e7⟩ := (unhide hA2).th
      go_wp2
      go_region_held3 (fun W => W.cell? ⟨g1, o1 + k * 8, none⟩ = some (.int .i64 id) ∧ W.cell? ⟨g1, o1 + k * 8 + 1, none⟩ = some (.int .i64 kind) ∧ W.cell? ⟨g1, o1 + k * 8 + 2, none⟩ = some (.bool hid) ∧ W.cell? ⟨g1, o1 + k * 8 + 3, none⟩ = some (.bool fix) ∧ W.cell? ⟨g1, o1 + k * 8 + 4, none⟩ = some (.bool sgn) ∧ W.cell? ⟨g1, o1 + k * 8 + 5, none⟩ = some (.bool wrp) ∧ W.cell? ⟨g1, o1 + k * 8 + 6, none⟩ = some (.string val) ∧ W.cell? ⟨g1, o1 + k * 8 + 7, none⟩ = some (.int .i64 nxt) ∧ W.cell? ⟨g2, o2 + k * 8, none⟩ = some (.int .i64 id) ∧ W.cell? ⟨g2, o2 + k * 8 + 1, none⟩ = some (.int .i64 kind) ∧ W.cell? ⟨g2, o2 + k * 8 + 2, none⟩ = some (.bool hid) ∧ W.cell? ⟨g2, o2 + k * 8 + 3, none⟩ = some (.bool fix) ∧ W.cell? ⟨g2, o2 + k * 8 + 4, none⟩ = some (.bool sgn) ∧ W.cell? ⟨g2, o2 + k * 8 + 5, none⟩ = some (.bool wrp) ∧ W.cell? ⟨g2, o2 + k * 8 + 6, none⟩ = some (.string val) ∧ W.cell? ⟨g2, o2 + k * 8 + 7, none⟩ = some (.int .i64 nxt)) (first | exact ⟨d0, d1, d2, d3, d4, d5, d6, d7, e0, e1, e2, e3, e4, e5, e6, e7⟩ | (obtain ⟨p0, p1, p2, p3, p4, p5, p6, p7⟩ := (AtN.below (w := wr.drew) (unhide hA1) hb1 hgw1).th; obtain ⟨q0, q1, q2, q3, q4, q5, q6, q7⟩ := (AtN.below (w := wr.drew) (unhide hA2) hb1 hgw2).th; exact ⟨p0, p1, p2, p3, p4, p5, p6, p7, q0, q1, q2, q3, q4, q5, q6, q7⟩)) (first | (go_at_call 103; refine ((unhide C) _).mono ?_; rintro e w1 ⟨rfl, hb1⟩))
      go_wp2
      go_roundw
      case rel => exact ⟨k + 1, by omega, by go_num, hb.drew.trans (hb1.mono hss)⟩
      case measure => simp [intOf]; omega
    · go_wp2
      go_ret
      exact ⟨rfl, hb⟩
end Go.Proofs.Ytoacaennpddoeaa

/- Decimal figures of a number, and the number of figures: the mathematics, of no program. -/
namespace Go.Proofs.Ytoacaennpddoeaa

/-- The decimal figures of u, the first ahead; one nought for 0 (f: how many may stand ahead). -/
def decF : Nat → Nat → List UInt8
  | 0, u => [byteOf (48 + u)]
  | f + 1, u => if u < 10 then [byteOf (48 + u)] else decF f (u / 10) ++ [byteOf (48 + u % 10)]
def decB (u : Nat) : List UInt8 := decF u u

theorem decF_more : ∀ (f g u : Nat), u ≤ f → u ≤ g → decF f u = decF g u := by
  intro f
  induction f with
  | zero =>
    intro g u h1 h2
    have : u = 0 := by omega
    subst this
    cases g with
    | zero => rfl
    | succ g => rfl
  | succ f ih =>
    intro g u h1 h2
    cases g with
    | zero =>
      have : u = 0 := by omega
      subst this
      rfl
    | succ g =>
      unfold decF
      by_cases h : u < 10
      · rw [if_pos h, if_pos h]
      · rw [if_neg h, if_neg h, ih g (u / 10) (by omega) (by omega)]
theorem decB_small {u : Nat} (h : u < 10) : decB u = [byteOf (48 + u)] := by
  unfold decB
  cases u with
  | zero => rfl
  | succ u => unfold decF; rw [if_pos h]
theorem decB_big {u : Nat} (h : ¬ u < 10) : decB u = decB (u / 10) ++ [byteOf (48 + u % 10)] := by
  unfold decB
  cases u with
  | zero => omega
  | succ u =>
    rw [decF, if_neg h, decF_more u ((u + 1) / 10) ((u + 1) / 10) (by omega) (Nat.le_refl _)]
theorem decB_len : ∀ (k u : Nat), u < 10 ^ (k + 1) → 1 ≤ (decB u).length ∧ (decB u).length ≤ k + 1 := by
  intro k
  induction k with
  | zero => intro u h; rw [decB_small (by omega)]; simp
  | succ k ih =>
    intro u h
    by_cases hu : u < 10
    · rw [decB_small hu]; simp
    · have := ih (u / 10) (by rw [Nat.pow_succ] at h; omega)
      rw [decB_big hu, List.length_append]
      simp only [List.length_singleton]
      omega
theorem decB_pos (u : Nat) : 1 ≤ (decB u).length := by
  by_cases hu : u < 10
  · rw [decB_small hu]; simp
  · rw [decB_big hu]; simp

/-- Is it a figure? -/
def isFig (c : UInt8) : Bool := decide (48 ≤ c.toNat ∧ c.toNat ≤ 57)
/-- The number of figures. -/
def valB (l : List UInt8) : Nat := l.foldl (fun n c => 10 * n + (c.toNat - 48)) 0
theorem valB_nil : valB [] = 0 := rfl
theorem valB_snoc (l : List UInt8) (c : UInt8) : valB (l ++ [c]) = 10 * valB l + (c.toNat - 48) := by unfold valB; simp
theorem foldl_ge (l : List UInt8) : ∀ n, n ≤ l.foldl (fun n c => 10 * n + (c.toNat - 48)) n := by
  induction l with
  | nil => intro n; exact Nat.le_refl _
  | cons c t ih => intro n; rw [List.foldl_cons]; exact Nat.le_trans (by omega) (ih _)
theorem valB_append_ge (l m : List UInt8) : valB l ≤ valB (l ++ m) := by
  unfold valB; rw [List.foldl_append]; exact foldl_ge _ _
theorem foldl_pow (l : List UInt8) : ∀ n, n * 10 ^ l.length ≤ l.foldl (fun n c => 10 * n + (c.toNat - 48)) n := by
  induction l with
  | nil => intro n; simp
  | cons c t ih =>
    intro n
    rw [List.foldl_cons, List.length_cons, Nat.pow_succ]
    refine Nat.le_trans ?_ (ih _)
    calc n * (10 ^ t.length * 10) = (10 * n) * 10 ^ t.length := by rw [Nat.mul_comm (10 ^ t.length) 10, ← Nat.mul_assoc, Nat.mul_comm n 10]
      _ ≤ _ := Nat.mul_le_mul_right _ (by omega)
theorem valB_cons_ge (c : UInt8) (t : List UInt8) (h : 49 ≤ c.toNat) : 10 ^ t.length ≤ valB (c :: t) := by
  unfold valB
  rw [List.foldl_cons]
  refine Nat.le_trans ?_ (foldl_pow t _)
  calc 10 ^ t.length = 1 * 10 ^ t.length := by omega
    _ ≤ _ := Nat.mul_le_mul_right _ (by omega)
theorem valB_lt (l : List UInt8) : (∀ c ∈ l, isFig c = true) → valB l < 10 ^ l.length := by
  intro h
  induction hl : l.length generalizing l with
  | zero => have : l = [] := List.length_eq_zero_iff.1 hl; subst this; simp [valB_nil]
  | succ k ih =>
    obtain ⟨l', c, rfl⟩ : ∃ l' c, l = l' ++ [c] := by
      have hne : l ≠ [] := by intro e; subst e; simp at hl
      exact ⟨l.dropLast, l.getLast hne, (List.dropLast_concat_getLast hne).symm⟩
    have h1 := ih l' (fun c hc => h c (by simp [hc])) (by simpa using hl)
    have h2 := h c (by simp)
    simp only [isFig, decide_eq_true_eq] at h2
    rw [valB_snoc, Nat.pow_succ]
    omega

/-- No needless nought stands ahead. -/
def plainFigs (l : List UInt8) : Prop := l ≠ [] ∧ (1 < l.length → l.head? ≠ some 48)

theorem valB_ge_one {l : List UInt8} (hf : ∀ c ∈ l, isFig c = true) (hn : l ≠ []) (h0 : l.head? ≠ some 48) : 1 ≤ valB l := by
  cases l with
  | nil => exact absurd rfl hn
  | cons c t =>
    have h2 := hf c (by simp)
    simp only [isFig, decide_eq_true_eq] at h2
    have h3 : c.toNat ≠ 48 := by
      intro e
      apply h0
      simp only [List.head?_cons, Option.some.injEq]
      apply UInt8.toNat_inj.1; rw [e]; rfl
    have := valB_cons_ge c t (by omega)
    have hp : 1 ≤ 10 ^ t.length := Nat.one_le_pow _ _ (by decide)
    omega

theorem decB_valB : ∀ (k : Nat) (l : List UInt8), l.length = k → (∀ c ∈ l, isFig c = true) → plainFigs l → decB (valB l) = l := by
  intro k
  induction k with
  | zero => intro l hl _ hp; exact absurd (List.length_eq_zero_iff.1 hl) hp.1
  | succ k ih =>
    intro l hl hf hp
    obtain ⟨l', c, rfl⟩ : ∃ l' c, l = l' ++ [c] := ⟨l.dropLast, l.getLast hp.1, (List.dropLast_concat_getLast hp.1).symm⟩
    have hc := hf c (by simp)
    simp only [isFig, decide_eq_true_eq] at hc
    have hbc : byteOf c.toNat = c := by unfold byteOf; simp
    rw [valB_snoc]
    by_cases hn : l' = []
    · subst hn
      rw [valB_nil, decB_small (by omega), show 48 + (10 * 0 + (c.toNat - 48)) = c.toNat by omega, hbc]
      rfl
    · have hlen : 0 < l'.length := List.length_pos_iff.2 hn
      have hh : l'.head? ≠ some 48 := by
        have := hp.2 (by simp; omega)
        cases l' with
        | nil => exact absurd rfl hn
        | cons a t => simpa using this
      have h1 := valB_ge_one (fun c hc => hf c (by simp [hc])) hn hh
      have h2 := ih l' (by simpa using hl) (fun c hc => hf c (by simp [hc])) ⟨hn, fun _ => hh⟩
      rw [decB_big (by omega), show (10 * valB l' + (c.toNat - 48)) / 10 = valB l' by omega, show 48 + (10 * valB l' + (c.toNat - 48)) % 10 = c.toNat by omega, h2, hbc]

theorem decB_head : ∀ (n : Nat) (t : List UInt8), decB n = 48 :: t → t = [] ∧ n = 0 := by
  intro n
  induction n using Nat.strongRecOn with
  | _ n ih =>
    intro t h
    by_cases hn : n < 10
    · rw [decB_small hn] at h
      simp only [List.cons.injEq] at h
      refine ⟨h.2.symm, ?_⟩
      have := congrArg UInt8.toNat h.1
      rw [byteOf_toNat (by omega)] at this
      simp at this
      omega
    · exfalso
      rw [decB_big hn] at h
      have hp := decB_pos (n / 10)
      cases hd : decB (n / 10) with
      | nil => rw [hd] at hp; simp at hp
      | cons y ys =>
        rw [hd] at h
        simp only [List.cons_append, List.cons.injEq] at h
        have := ih (n / 10) (by omega) ys (by rw [hd, h.1])
        omega

/-- The figures of the number that figures stand for are these just where no needless nought stands ahead. -/
theorem decB_iff {l : List UInt8} (hf : ∀ c ∈ l, isFig c = true) : decB (valB l) = l ↔ plainFigs l := by
  constructor
  · intro h
    refine ⟨?_, ?_⟩
    · intro e; subst e
      have hp := decB_pos (valB [])
      rw [h] at hp
      simp at hp
    · intro hl hh
      cases l with
      | nil => simp at hh
      | cons a t =>
        simp only [List.head?_cons, Option.some.injEq] at hh
        subst hh
        have := (decB_head _ _ h).1
        subst this
        simp at hl
  · exact decB_valB _ l rfl hf

/-- What is read. -/
def rdB (l : List UInt8) : Option Nat := if l.all isFig = true ∧ valB l ≤ 1000000000 ∧ decB (valB l) = l then some (valB l) else none
end Go.Proofs.Ytoacaennpddoeaa

/- What spec.Hex and impl.Hex come to, over the loaded program. -/
namespace Go.Proofs.Ytoacaennpddoeaa
open Go.RowKit

theorem Try.infoBH : (Try.prog.info? 5).map (fun i => (i.zero, i.size, i.bytes)) = some (some (.int .u8 0), 1, 1) := by kernel_rfl

/-- The figure of a half byte. -/
def fig (n : Nat) : UInt8 := byteOf (if n < 10 then 48 + n else 87 + n)
/-- Two figures for each byte. -/
def hexB (l : List UInt8) : List UInt8 := l.flatMap fun b => [fig (b.toNat / 16), fig (b.toNat % 16)]
theorem fig_toNat {n : Nat} (h : n < 16) : (fig n).toNat = if n < 10 then 48 + n else 87 + n := by
  unfold fig; rw [byteOf_toNat]; split <;> omega
theorem hexB_len (l : List UInt8) : (hexB l).length = 2 * l.length := by
  unfold hexB; induction l with
  | nil => rfl
  | cons a t ih => rw [List.flatMap_cons, List.length_append, ih]; simp; omega
theorem hexB_snoc (l : List UInt8) (b : UInt8) : hexB (l ++ [b]) = hexB l ++ [fig (b.toNat / 16), fig (b.toNat % 16)] := by
  unfold hexB; simp


theorem cs_two {c d : Int} {a b : UInt8} (h : c = (a.toNat : Int)) (h' : d = (b.toNat : Int)) : (#[Value.int .u8 c, Value.int .u8 d] : Array Value).toList = [a, b].map bv := by simp [bv, h, h']

theorem take_step0 (s : ByteArray) (k : Nat) (h : k < s.size) : s.data.toList.take (k + 1) = s.data.toList.take k ++ [s[k]] := by
  rw [List.take_succ_eq_append_getElem (by simpa using h)]; rfl

end Go.Proofs.Ytoacaennpddoeaa

/- What spec.Decimal comes to at numbers that are not below 0, over the loaded program. -/
namespace Go.Proofs.Ytoacaennpddoeaa
open Go.RowKit

/-- 'string([]byte{b})' -/
theorem run_string_new {P : Program} (src dst e : TypeId) (hs : P.underlying src = some (.slice e)) (he : P.underlying e = some (.int .u8)) (hd : P.underlying dst = some .string) (W : World) (b : UInt8) :
    (convert src dst (.slice (some ⟨W.heap.size, 0, none⟩) 1 1)).run P (W.alloc (.cells #[.int .u8 (b.toNat : Int)] e)) = .ok (.string ⟨#[b]⟩) (W.alloc (.cells #[.int .u8 (b.toNat : Int)] e)) := by
  have := run_convert_bytes_back (P := P) (W.alloc (.cells #[.int .u8 (b.toNat : Int)] e)) src dst e ⟨W.heap.size, 0, none⟩ 1 [b] hs he hd (fun j hj => by
    have h0 : j = 0 := by simpa using hj
    subst h0
    rw [show (⟨W.heap.size, 0, none⟩ : Addr).add 0 = ⟨W.heap.size, 0, none⟩ from rfl, cell_of_row (W.alloc (.cells #[.int .u8 (b.toNat : Int)] e)) W.heap.size 0 _ e (0, 0) (heap_alloc_new W _)]
    rfl)
  exact this

/-- What stands at the head of a round: the figures that are to come and those that lie ready. -/
def DecAt (n m : Nat) (t : List UInt8) : Prop := t.length ≤ 20 ∧ (if m = 0 then t = decB n else decB m ++ t = decB n)
theorem DecAt.start {n : Nat} (h : n ≠ 0) : DecAt n n [] := ⟨by simp, by rw [if_neg h]; simp⟩
theorem DecAt.next {n m : Nat} {t : List UInt8} (hn : n < 10 ^ 20) (h : DecAt n m t) (hm : m ≠ 0) : DecAt n (m / 10) (fig (m % 10) :: t) := by
  have hlen := (decB_len 19 n hn).2
  have hf : fig (m % 10) = byteOf (48 + m % 10) := by unfold fig; rw [if_pos (by omega)]
  have h2 := h.2
  rw [if_neg hm] at h2
  have key : (if m / 10 = 0 then fig (m % 10) :: t = decB n else decB (m / 10) ++ fig (m % 10) :: t = decB n) := by
    by_cases hs : m < 10
    · rw [if_pos (by omega), hf, show m % 10 = m by omega, ← h2, decB_small hs]
      rfl
    · rw [if_neg (by omega), hf, ← h2, decB_big hs]
      simp
  refine ⟨?_, key⟩
  split at key
  · have := congrArg List.length key
    simp only [List.length_cons] at *
    omega
  · have := congrArg List.length key
    simp only [List.length_cons, List.length_append] at *
    omega
theorem DecAt.done {n m : Nat} {t : List UInt8} (h : DecAt n m t) (hm : m = 0) : t = decB n := by
  have := h.2; rw [if_pos hm] at this; exact this

theorem ret_str {a b : List UInt8} (h : a = b) : Ending.returned (.string ⟨a.toArray⟩) = .returned (.string ⟨b.toArray⟩) := by rw [h]
theorem str_cons (b : UInt8) (t : List UInt8) : Value.string (ByteArray.mk #[b] ++ ByteArray.mk t.toArray) = Value.string ⟨(b :: t).toArray⟩ := by
  show Value.string (ByteArray.mk [b].toArray ++ ByteArray.mk t.toArray) = _
  rw [ByteArray.mk_append_mk]; rfl



end Go.Proofs.Ytoacaennpddoeaa

/- What laws.markText comes to. -/
namespace Go.Proofs.Ytoacaennpddoeaa
open Go.RowKit

/-- The text of a mark. -/
def mkS (k : Nat) : ByteArray := ⟨(109 :: decB k).toArray⟩
theorem fig_ten {m : Nat} (h : m < 10) : fig m = byteOf (48 + m) := by unfold fig; rw [if_pos h]
theorem ret_m {t l : List UInt8} (h : t = l) : Ending.returned (.string (ByteArray.mk #[109] ++ ByteArray.mk t.toArray)) = .returned (.string ⟨(109 :: l).toArray⟩) := by rw [str_cons, h]

set_option maxHeartbeats 400000 in
theorem markText_any (n : Nat) (w : World) (h0 : 1 ≤ n) (hn : n ≤ 1000000000) :
    Calls Try.prog 104 #[.int .i64 n] w fun e w' => e = .returned (.string (mkS n)) ∧ Below w.heap.size w w' := by
  have h1 : ¬ (n : Int) ≤ 0 := by omega
  go_enter Try.func104, Try.ntmps104
  go_wp2
  go_loopw [0, 3] (fun ti ts wr => ∃ (m : Nat) (t : List UInt8), m ≤ 1000000000 ∧ DecAt n m t ∧ ti = .int .i64 m ∧ ts = .string ⟨t.toArray⟩ ∧ Below w.heap.size w wr) (fun ti _ _ => (intOf ti).toNat)
  case atStart => exact ⟨n, [], hn, DecAt.start (by omega), rfl, rfl, Below.refl _ _⟩
  case round =>
    obtain ⟨m, t, hm, hat, rfl, rfl, hb⟩ := hrel
    clear h1
    have hsz := hb.size
    by_cases hz : m = 0
    · have hfin := hide (hat.done hz)
      have hl := hat.1
      subst hz
      go_wp2
      go_ret
      exact ⟨ret_m (unhide hfin), hb⟩
    · have hx := hat.next (by omega) hz
      have hl := hat.1
      have h3 : (0 : Int) < (m : Int) := by omega
      have hcv : ((fig (m % 10)).toNat : Int) = 48 + (m : Int) % 10 := by rw [fig_ten (by omega), byteOf_toNat (by omega)]; omega
      have hconv := fun (W : World) => run_string_new (P := Try.prog) 22 9 5 Try.underlying22 Try.underlying5 Try.underlying9 W (fig (m % 10))
      rw [hcv] at hconv
      clear hcv
      go_wp2
      go_roundw
      case rel => exact ⟨m / 10, fig (m % 10) :: t, by omega, hx, by go_num, str_cons _ _, hb.alloc hsz _⟩
      case measure => simp [intOf]; omega

theorem markText_at (z : Int) (n : Nat) (hz : z = n) (w : World) (h0 : 1 ≤ n) (hn : n ≤ 1000000000) :
    Calls Try.prog 104 #[.int .i64 z] w fun e w' => e = .returned (.string (mkS n)) ∧ Below w.heap.size w w' := by
  rw [hz]; exact markText_any n w h0 hn

end Go.Proofs.Ytoacaennpddoeaa

/- The laws' marks on rows of things of the call's own, and that they are found. -/
namespace Go.Proofs.Ytoacaennpddoeaa
open Go.RowKit
/-- A mark as a bool. -/
def mb3 (q : Nat) : Bool := decide ((q : Int) % 3 = 0)
def mkT0 (q : Nat) : Th := ⟨(q : Int), ((q + 1 : Nat) : Int), mb3 (q + 2), mb3 (q + 3), mb3 (q + 4), mb3 (q + 5), mkS (q + 6), ((q + 7 : Nat) : Int)⟩
theorem mkT0_is (q : Nat) : (⟨((q : Int)), ((q : Int) + 1), (((q : Int) + 1 + 1) % 3 == 0), (((q : Int) + 1 + 1 + 1) % 3 == 0), (((q : Int) + 1 + 1 + 1 + 1) % 3 == 0), (((q : Int) + 1 + 1 + 1 + 1 + 1) % 3 == 0), (mkS (q + 6)), ((q : Int) + 1 + 1 + 1 + 1 + 1 + 1 + 1)⟩ : Th) = mkT0 q := by
  unfold mkT0 mb3
  have e : ∀ z : Int, (z == 0) = decide (z = 0) := fun z => by rw [Bool.eq_iff_iff]; simp
  simp only [e]
  congr 1
def mkT1 (k i : Nat) : Th := mkT0 (k + 8 * i)
def mkT (k n : Nat) : List Th := (List.range n).map (mkT1 k)
theorem mkT_len (k n : Nat) : (mkT k n).length = n := by unfold mkT; simp
theorem mkT_succ (k n : Nat) : mkT k (n + 1) = mkT k n ++ [mkT1 k n] := by unfold mkT; rw [List.range_succ, List.map_append]; rfl
theorem mkT_at (k n i : Nat) (h : i < n) : (mkT k n)[i]? = some (mkT1 k i) := by unfold mkT; simp [h]
theorem mkT_set (k i : Nat) (fs : List Th) (h : i < fs.length) : (mkT k i ++ fs.drop i).set i (mkT1 k i) = mkT k (i + 1) ++ fs.drop (i + 1) := by
  rw [List.drop_eq_getElem_cons h, List.set_append_right _ _ (by rw [mkT_len]; exact Nat.le_refl _), mkT_len, Nat.sub_self, List.set_cons_zero, mkT_succ]
  simp
theorem OwnN.t0 {w : World} {base g n c : Nat} {e : TypeId} {xs : List Th} (h : OwnN thY w base e (.slice (some ⟨g, 0, none⟩) n c) xs) {k : Nat} {x : Th} (hk : xs[k]? = some x) (z : Int) :
    OwnN thY (w.setCell ⟨g, k * 8, none⟩ (.int .i64 z)) base e (.slice (some ⟨g, 0, none⟩) n c) (xs.set k { x with id := z }) :=
  h.set1 hk { x with id := z } 0 (.int .i64 z) (by decide) rfl
theorem OwnN.t1 {w : World} {base g n c : Nat} {e : TypeId} {xs : List Th} (h : OwnN thY w base e (.slice (some ⟨g, 0, none⟩) n c) xs) {k : Nat} {x : Th} (hk : xs[k]? = some x) (z : Int) :
    OwnN thY (w.setCell ⟨g, k * 8 + 1, none⟩ (.int .i64 z)) base e (.slice (some ⟨g, 0, none⟩) n c) (xs.set k { x with kind := z }) :=
  h.set1 hk { x with kind := z } 1 (.int .i64 z) (by decide) rfl
theorem OwnN.t2 {w : World} {base g n c : Nat} {e : TypeId} {xs : List Th} (h : OwnN thY w base e (.slice (some ⟨g, 0, none⟩) n c) xs) {k : Nat} {x : Th} (hk : xs[k]? = some x) (z : Bool) :
    OwnN thY (w.setCell ⟨g, k * 8 + 2, none⟩ (.bool z)) base e (.slice (some ⟨g, 0, none⟩) n c) (xs.set k { x with hid := z }) :=
  h.set1 hk { x with hid := z } 2 (.bool z) (by decide) rfl
theorem OwnN.t3 {w : World} {base g n c : Nat} {e : TypeId} {xs : List Th} (h : OwnN thY w base e (.slice (some ⟨g, 0, none⟩) n c) xs) {k : Nat} {x : Th} (hk : xs[k]? = some x) (z : Bool) :
    OwnN thY (w.setCell ⟨g, k * 8 + 3, none⟩ (.bool z)) base e (.slice (some ⟨g, 0, none⟩) n c) (xs.set k { x with fix := z }) :=
  h.set1 hk { x with fix := z } 3 (.bool z) (by decide) rfl
theorem OwnN.t4 {w : World} {base g n c : Nat} {e : TypeId} {xs : List Th} (h : OwnN thY w base e (.slice (some ⟨g, 0, none⟩) n c) xs) {k : Nat} {x : Th} (hk : xs[k]? = some x) (z : Bool) :
    OwnN thY (w.setCell ⟨g, k * 8 + 4, none⟩ (.bool z)) base e (.slice (some ⟨g, 0, none⟩) n c) (xs.set k { x with sgn := z }) :=
  h.set1 hk { x with sgn := z } 4 (.bool z) (by decide) rfl
theorem OwnN.t5 {w : World} {base g n c : Nat} {e : TypeId} {xs : List Th} (h : OwnN thY w base e (.slice (some ⟨g, 0, none⟩) n c) xs) {k : Nat} {x : Th} (hk : xs[k]? = some x) (z : Bool) :
    OwnN thY (w.setCell ⟨g, k * 8 + 5, none⟩ (.bool z)) base e (.slice (some ⟨g, 0, none⟩) n c) (xs.set k { x with wrp := z }) :=
  h.set1 hk { x with wrp := z } 5 (.bool z) (by decide) rfl
theorem OwnN.t6 {w : World} {base g n c : Nat} {e : TypeId} {xs : List Th} (h : OwnN thY w base e (.slice (some ⟨g, 0, none⟩) n c) xs) {k : Nat} {x : Th} (hk : xs[k]? = some x) (z : ByteArray) :
    OwnN thY (w.setCell ⟨g, k * 8 + 6, none⟩ (.string z)) base e (.slice (some ⟨g, 0, none⟩) n c) (xs.set k { x with val := z }) :=
  h.set1 hk { x with val := z } 6 (.string z) (by decide) rfl
theorem OwnN.t7 {w : World} {base g n c : Nat} {e : TypeId} {xs : List Th} (h : OwnN thY w base e (.slice (some ⟨g, 0, none⟩) n c) xs) {k : Nat} {x : Th} (hk : xs[k]? = some x) (z : Int) :
    OwnN thY (w.setCell ⟨g, k * 8 + 7, none⟩ (.int .i64 z)) base e (.slice (some ⟨g, 0, none⟩) n c) (xs.set k { x with nxt := z }) :=
  h.set1 hk { x with nxt := z } 7 (.int .i64 z) (by decide) rfl
theorem marks6 {P : Program} {F : FuncId} {args : Array Value} {R : Ending → World → Prop} {w : World} {base g n c : Nat} {e : TypeId} {xs : List Th} (h : OwnN thY w base e (.slice (some ⟨g, 0, none⟩) n c) xs) {k : Nat} {x : Th} (hk : xs[k]? = some x) {z0 z1 : Int} {z2 z3 z4 z5 : Bool}
    (K : ∀ W, OwnN thY W base e (.slice (some ⟨g, 0, none⟩) n c) (xs.set k ⟨z0, z1, z2, z3, z4, z5, x.val, x.nxt⟩) → w.grownBy W (some g) → Calls P F args W R) : Calls P F args ((((((w.setCell ⟨g, k * 8, none⟩ (.int .i64 z0)).setCell ⟨g, k * 8 + 1, none⟩ (.int .i64 z1)).setCell ⟨g, k * 8 + 2, none⟩ (.bool z2)).setCell ⟨g, k * 8 + 3, none⟩ (.bool z3)).setCell ⟨g, k * 8 + 4, none⟩ (.bool z4)).setCell ⟨g, k * 8 + 5, none⟩ (.bool z5)) R := by
  have s0 := h.t0 hk z0
  have h0 := set_getN hk { x with id := z0 }
  have s1 := s0.t1 h0 z1
  rw [List.set_set] at s1
  have h1 := set_getN hk { x with id := z0, kind := z1 }
  have s2 := s1.t2 h1 z2
  rw [List.set_set] at s2
  have h2 := set_getN hk { x with id := z0, kind := z1, hid := z2 }
  have s3 := s2.t3 h2 z3
  rw [List.set_set] at s3
  have h3 := set_getN hk { x with id := z0, kind := z1, hid := z2, fix := z3 }
  have s4 := s3.t4 h3 z4
  rw [List.set_set] at s4
  have h4 := set_getN hk { x with id := z0, kind := z1, hid := z2, fix := z3, sgn := z4 }
  have s5 := s4.t5 h4 z5
  rw [List.set_set] at s5
  exact K _ s5 (gT (gT (gT (gT (gT (gS w g _ _) (gS _ g _ _)) (gS _ g _ _)) (gS _ g _ _)) (gS _ g _ _)) (gS _ g _ _))
set_option maxRecDepth 20000 in
set_option maxHeartbeats 2000000 in
theorem markThingS_any (v : Value) (base k : Nat) (fs : List Th) (w : World) (hl : fs.length ≤ 2000000) (hk1 : 1 ≤ k) (hk : k ≤ 20000000) (hbase : base ≤ w.heap.size) (ho : OwnN thY w base 25 v fs) :
    Calls Try.prog 63 #[v, .int .i64 k] w fun e w' => e = .returned (.int .i64 ((k + 8 * fs.length : Nat) : Int)) ∧ OwnN thY w' base 25 v (mkT k fs.length) ∧ w.grownBy w' v.ownBlock := by
  rcases ho.open with ⟨rfl, a, c, rfl⟩ | ⟨g, c, rfl, hg1, hg2⟩
  · have HO := hide ho
    clear ho
    go_enter Try.func63, Try.ntmps63
    go_wp2
    refine wp_loop_rounds 1 ?_
    rw [rounds_succ]
    go_wp2
    go_ret
    exact ⟨rfl, unhide HO, gR _ _⟩
  · obtain ⟨n, hnn⟩ : ∃ n, fs.length = n := ⟨_, rfl⟩
    rw [hnn] at hl ho ⊢
    replace hnn := hide hnn
    go_enter Try.func63, Try.ntmps63
    go_wp2
    go_loopw [1, 5] (fun tk ti wr => ∃ i q : Nat, i ≤ n ∧ ti = .int .i64 i ∧ tk = .int .i64 q ∧ Hid (q = k + 8 * i) ∧ OwnN thY wr base 25 (.slice (some ⟨g, 0, none⟩) n c) (mkT k i ++ fs.drop i) ∧ w.grownBy wr (some g)) (fun _ ti _ => n - (intOf ti).toNat)
    case atStart => exact ⟨0, k, Nat.zero_le _, rfl, rfl, rfl, ho, gR _ _⟩
    case round =>
      obtain ⟨i, q, hi, rfl, rfl, hq, hown, hb⟩ := hrel
      clear ho
      have hsz := hb.size
      have hbase' : base ≤ wr.heap.size := by omega
      by_cases hlt : i < n
      · have hi' : i < fs.length := by rw [unhide hnn]; exact hlt
        have HS := hide (mkT_set k i fs hi')
        have hq1 : 1 ≤ q := by have := unhide hq; omega
        have hq2 : q ≤ 900000000 := by have := unhide hq; omega
        have hlx : i < (mkT k i ++ fs.drop i).length := by rw [hown.len]; exact hlt
        obtain ⟨f0, hf0⟩ : ∃ f0, (mkT k i ++ fs.drop i)[i]? = some f0 := ⟨_, List.getElem?_eq_getElem hlx⟩
        have hfz := hown.frozen
        have hat := hown.at hf0
        obtain ⟨d0, d1, d2, d3, d4, d5, d6, d7⟩ := AtN.th (o := i * 8) hat
        obtain ⟨id, kind, hid, fix, sgn, wrp, val, nxt⟩ := f0
        replace hf0 := hide hf0
        have hlt' : (i : Int) < (n : Int) := by omega
        clear hat hlx
        go_wp2_with fail
        refine marks6 hown (unhide hf0) (fun W2 s5 g5 => ?_)
        have hf6 := hide (set_getN (unhide hf0) (⟨(q : Int), (q : Int) + 1, ((q : Int) + 1 + 1) % 3 == 0, ((q : Int) + 1 + 1 + 1) % 3 == 0, ((q : Int) + 1 + 1 + 1 + 1) % 3 == 0, ((q : Int) + 1 + 1 + 1 + 1 + 1) % 3 == 0, val, nxt⟩ : Th))
        have bs5 := gT hb g5
        clear g5 hb hfz hown d0 d1 d2 d3 d4 d5 d6 d7
        refine (markText_at _ (q + 6) (by omega) _ (by omega) (by omega)).mono ?_
        rintro e w3 ⟨rfl, hb3⟩
        have t0 := s5.below hb3
        have bt0 := gT bs5 (gB hb3 (some g))
        have hfz := t0.frozen
        obtain ⟨d0, d1, d2, d3, d4, d5, d6, d7⟩ := AtN.th (o := i * 8) (t0.at (unhide hf6))
        have t1 : OwnN thY (w3.setCell ⟨g, i * 8 + 6, none⟩ (.string (mkS (q + 6)))) base 25 (.slice (some ⟨g, 0, none⟩) n c) _ := t0.t6 (unhide hf6) (mkS (q + 6))
        have t2 : OwnN thY ((w3.setCell ⟨g, i * 8 + 6, none⟩ (.string (mkS (q + 6)))).setCell ⟨g, i * 8 + 7, none⟩ (.int .i64 ((q : Int) + 1 + 1 + 1 + 1 + 1 + 1 + 1))) base 25 (.slice (some ⟨g, 0, none⟩) n c) _ := t1.t7 (set_getN (unhide hf6) _) ((q : Int) + 1 + 1 + 1 + 1 + 1 + 1 + 1)
        simp only [List.set_set] at t2
        have hfin : (⟨((q : Int)), ((q : Int) + 1), (((q : Int) + 1 + 1) % 3 == 0), (((q : Int) + 1 + 1 + 1) % 3 == 0), (((q : Int) + 1 + 1 + 1 + 1) % 3 == 0), (((q : Int) + 1 + 1 + 1 + 1 + 1) % 3 == 0), (mkS (q + 6)), ((q : Int) + 1 + 1 + 1 + 1 + 1 + 1 + 1)⟩ : Th) = mkT1 k i := by unfold mkT1; rw [← unhide hq]; exact mkT0_is q
        rw [hfin, unhide HS] at t2
        have bt2 := gT (gT bt0 (gS w3 g (i * 8 + 6) (.string (mkS (q + 6))))) (gS _ g (i * 8 + 7) (.int .i64 ((q : Int) + 1 + 1 + 1 + 1 + 1 + 1 + 1)))
        clear hfin t1 s5 bs5 hb3
        go_wp2
        have hk3 : ((q : Int) + 1 + 1 + 1 + 1 + 1 + 1 + 1 + 1) = ((k + 8 * (i + 1) : Nat) : Int) := by have := unhide hq; omega
        go_roundw
        case rel => exact ⟨i + 1, k + 8 * (i + 1), by omega, by go_num, by rw [← hk3], rfl, t2, bt2⟩
        case measure => simp [intOf]; omega
      · have he : i = n := by omega
        have hfin : ((k + 8 * n : Nat) : Int) = (q : Int) := by have := unhide hq; omega
        subst he
        rw [List.drop_of_length_le (by rw [unhide hnn]; exact Nat.le_refl _), List.append_nil] at hown
        replace hfin := hide hfin
        go_wp2
        go_ret
        exact ⟨by rw [unhide hfin]; rfl, hown, hb⟩
set_option maxRecDepth 20000 in
set_option maxHeartbeats 2000000 in
theorem heldThingS_any (v : Value) (k n : Nat) (w : World) (hl : n ≤ 2000000) (hk1 : 1 ≤ k) (hk : k ≤ 20000000) (hr : RdN thY w v (mkT k n)) :
    Calls Try.prog 64 #[v, .int .i64 k] w fun e w' => e = .returned (.int .i64 ((k + 8 * n : Nat) : Int)) ∧ Below w.heap.size w w' := by
  obtain ⟨a, c, rfl, hc⟩ := hr.openT
  rw [mkT_len]
  clear hr
  go_enter Try.func64, Try.ntmps64
  go_wp2
  go_loopw [1, 5] (fun tk ti wr => ∃ i q : Nat, i ≤ n ∧ ti = .int .i64 i ∧ tk = .int .i64 q ∧ Hid (q = k + 8 * i) ∧ Below w.heap.size w wr) (fun _ ti _ => n - (intOf ti).toNat)
  case atStart => exact ⟨0, k, Nat.zero_le _, rfl, rfl, rfl, Below.refl _ _⟩
  case round =>
    obtain ⟨i, q, hi, rfl, rfl, hq, hb⟩ := hrel
    have hsz := hb.size
    by_cases hlt : i < n
    · obtain ⟨g, o, rfl, hg, hat⟩ := hc i _ (mkT_at k n i hlt)
      have hA := hat.below hb hg
      rw [show mkT1 k i = mkT0 q by unfold mkT1; rw [unhide hq], ← mkT0_is q] at hA
      obtain ⟨d0, d1, d2, d3, d4, d5, d6, d7⟩ := AtN.th hA
      dsimp only at d0 d1 d2 d3 d4 d5 d6 d7
      have hq1 : 1 ≤ q := by have := unhide hq; omega
      have hq2 : q ≤ 900000000 := by have := unhide hq; omega
      have hlt' : (i : Int) < (n : Int) := by omega
      have hi0 : (0 : Int) ≤ (i : Int) := by omega
      have hgr : g < wr.heap.size := by omega
      clear hc hat hA
      go_wp2
      go_region_held3 (fun W => W.cell? ⟨g, o + i * 8 + 6, none⟩ = some (.string (mkS (q + 6)))) (first | exact d6 | exact (hb1.cell (p := ⟨g, o + i * 8 + 6, none⟩) hgr).trans d6) (first | (go_at_call 104; refine (markText_at _ (q + 6) (by omega) _ (by omega) (by omega)).mono ?_; rintro e w1 ⟨rfl, hb1⟩))
      have f7 : w1.cell? ⟨g, o + i * 8 + 7, none⟩ = _ := (hb1.cell (p := ⟨g, o + i * 8 + 7, none⟩) hgr).trans d7
      have hb01 := hb.drew.trans (hb1.mono hsz)
      clear d0 d1 d2 d3 d4 d5 d6 d7 hb1 hb
      go_wp2
      have hk3 : ((q : Int) + 1 + 1 + 1 + 1 + 1 + 1 + 1 + 1) = ((k + 8 * (i + 1) : Nat) : Int) := by have := unhide hq; omega
      go_roundw
      case rel => exact ⟨i + 1, k + 8 * (i + 1), by omega, by go_num, by rw [← hk3], rfl, hb01⟩
      case measure => simp [intOf]; omega
    · have he : i = n := by omega
      have hfin : ((k + 8 * n : Nat) : Int) = (q : Int) := by have := unhide hq; omega
      replace hfin := hide hfin
      go_wp2
      go_ret
      exact ⟨by rw [unhide hfin]; rfl, hb⟩
end Go.Proofs.Ytoacaennpddoeaa

/- The laws' helpers on books. -/
namespace Go.Proofs.Ytoacaennpddoeaa
open Go.RowKit
def bkSz (b : Bk) : Nat := b.wd.size + (b.ths.length + thsSz b.ths) + b.ch.size
/-- How large the texts of a book that comes in may be. -/
def BkTx (b : Bk) : Prop := b.wd.size ≤ maxLen ∧ b.ch.size ≤ maxLen ∧ b.ths.length ≤ maxLen ∧ ∀ x ∈ b.ths, x.val.size ≤ maxLen
set_option maxRecDepth 20000 in
set_option maxHeartbeats 2000000 in
theorem szBook_any (b : Bk) (v : Value) (L : Int) (hL : 0 ≤ L ∧ L ≤ 1048576) (w : World) (hr : RdBk w v b) (hz : BkTx b) :
    Calls Try.prog 27 #[v, .int .i64 L] w fun e w' => (∃ z : Int, e = .returned (.int .i64 z) ∧ (z < 0 ∨ z = L - (bkSz b : Int) ∧ 0 ≤ z)) ∧ Below w.heap.size w w' := by
  obtain ⟨wd, tr, ths, la, ch, ct⟩ := b
  obtain ⟨a, n, c, rfl, hn, hu⟩ := hr.open
  obtain ⟨z1, z2, z3, z4⟩ := hz
  dsimp only at hn hu z1 z2 z3 z4
  have C := hide (fun (l : Int) (hl : 0 ≤ l ∧ l ≤ 1048576) W (h : RdN thY W (.slice a n c) ths) => szThingS_any ths (.slice a n c) l hl W h z3 z4)
  unfold maxLen at z1 z2
  unfold bkSz
  dsimp only
  subst hn
  by_cases c1 : L - (wd.size : Int) < 0
  · clear C hu z3 z4
    go_enter Try.func27, Try.ntmps27
    go_wp2
    go_ret
    exact ⟨⟨-1, rfl, .inl (by decide)⟩, (Below.refl _ w).alloc (Nat.le_refl _) _⟩
  · have hl : 0 ≤ L - (wd.size : Int) ∧ L - (wd.size : Int) ≤ 1048576 := by omega
    clear z3 z4
    replace hu := hide hu
    go_enter Try.func27, Try.ntmps27
    go_wp2_with fail
    obtain ⟨W, hW, hX, hB, hs1⟩ := one_cb w #[.string wd, .int .i64 tr, .slice a ths.length c, .int .i64 la, .string ch, .int .i64 ct] 50
    rw [hW]
    clear hW
    refine (unhide C _ hl _ ((unhide hu).below hB)).mono ?_
    rintro e w1 ⟨⟨z, rfl, hz⟩, hb1⟩
    have T1 := hB.trans (hb1.mono hB.size)
    have hX1 := hX.step hb1
    clear hb1 hB hX C hu
    have x4 := hX1.cell 4 (v := .string ch) rfl
    rcases hz with hz | ⟨hz, hz0⟩
    · go_wp2
      go_ret
      exact ⟨⟨-1, rfl, .inl (by decide)⟩, T1⟩
    · have hz' : ¬ z < 0 := by omega
      have hz9 : z ≤ 1048576 := by omega
      replace hz := hide hz
      by_cases c2 : z - (ch.size : Int) < 0
      · go_wp2
        go_ret
        exact ⟨⟨-1, rfl, .inl (by decide)⟩, T1⟩
      · go_wp2
        go_ret
        exact ⟨⟨_, rfl, .inr ⟨by have := unhide hz; omega, by omega⟩⟩, T1⟩
theorem bkc_one (wd : ByteArray) (tr : Int) (a : Option Addr) (n c : Nat) (la : Int) (ch : ByteArray) (ct : Int) : (#[.string wd, .int .i64 tr, .slice a n c, .int .i64 la, .string ch, .int .i64 ct] : Array Value).all (·.oneCell') = true := by simp [Value.oneCell']
set_option maxRecDepth 20000 in
set_option maxHeartbeats 2000000 in
theorem toBook_any (b : Bk) (v : Value) (w : World) (hr : RdBk w v b) (hn9 : b.ths.length ≤ 1048576) :
    Calls Try.prog 28 #[v] w fun e w' => (∃ a c, e = .returned (bkv b (.slice a b.ths.length c)) ∧ OwnN thY w' w.heap.size 25 (.slice a b.ths.length c) b.ths) ∧ Below w.heap.size w w' := by
  obtain ⟨wd, tr, ths, la, ch, ct⟩ := b
  obtain ⟨a, n, c, rfl, hn, hu⟩ := hr.open
  dsimp only at hn hu hn9
  have C := hide (fun W (h : RdN thY W (.slice a n c) ths) => toThingS_any ths (.slice a n c) W h hn9)
  subst hn
  replace hu := hide hu
  go_enter Try.func28, Try.ntmps28
  go_wp2_with fail
  obtain ⟨W, hW, hX, hY, hZ, hB, hs1⟩ := three_cb w #[.string wd, .int .i64 tr, .slice a ths.length c, .int .i64 la, .string ch, .int .i64 ct] #[.string ⟨#[]⟩, .int .i64 0, .slice none 0 0, .int .i64 0, .string ⟨#[]⟩, .int .i64 0] #[.string wd, .int .i64 tr, .slice none 0 0, .int .i64 0, .string ⟨#[]⟩, .int .i64 0] 50 36 36
  rw [hW]
  clear hW
  refine (unhide C _ ((unhide hu).below hB)).mono ?_
  rintro e w1 ⟨⟨a1, c1, rfl, ho⟩, hb1⟩
  have T1 := hB.trans (hb1.mono hB.size)
  have hX1 := hX.step hb1
  have hY1 := hY.step hb1
  have hZ1 := hZ.step hb1
  have ho1 := ho.low (base' := w.heap.size + 1 + 1 + 1) (by omega)
  clear hb1 hB hX C hu hY hZ ho
  have x3 : w1.cell? ⟨w.heap.size, 3, none⟩ = some (.int .i64 la) := hX1.cell 3 rfl
  have z1 := hZ1.cell 2 (v := .slice none 0 0) rfl
  have z2 := hZ1.frozen 2
  have hZ2 := hZ1.set 2 (.slice a1 ths.length c1)
  have hX2 := hX1.set_other (h := w.heap.size + 1 + 1) (k := 2) (by omega) (.slice a1 ths.length c1)
  have y3 := hX2.cell 3 (v := .int .i64 la) rfl
  have z3 := hZ2.frozen 3
  have q3 := hZ2.cell 3 (v := .int .i64 0) rfl
  have hZ3 := hZ2.set 3 (.int .i64 la)
  have hX3 := hX2.set_other (h := w.heap.size + 1 + 1) (k := 3) (by omega) (.int .i64 la)
  have y4 := hX3.cell 4 (v := .string ch) rfl
  have z4 := hZ3.frozen 4
  have q4 := hZ3.cell 4 (v := .string ⟨#[]⟩) rfl
  have hZ4 := hZ3.set 4 (.string ch)
  have hX4 := hX3.set_other (h := w.heap.size + 1 + 1) (k := 4) (by omega) (.string ch)
  have y5 := hX4.cell 5 (v := .int .i64 ct) rfl
  have z5 := hZ4.frozen 5
  have q5 := hZ4.cell 5 (v := .int .i64 0) rfl
  have hZ5 := hZ4.set 5 (.int .i64 ct)
  clear hX2 hX3 hX4 hr
  have hZ6 := hide (cb_eq hZ5 (show (#[.string wd, .int .i64 tr, .slice a1 ths.length c1, .int .i64 la, .string ch, .int .i64 ct] : Array Value) = _ from rfl))
  have hY6 := hide ((((hY1.set_other (h := w.heap.size + 1 + 1) (k := 2) (by omega) (.slice a1 ths.length c1)).set_other (h := w.heap.size + 1 + 1) (k := 3) (by omega) (.int .i64 la)).set_other (h := w.heap.size + 1 + 1) (k := 4) (by omega) (.string ch)).set_other (h := w.heap.size + 1 + 1) (k := 5) (by omega) (.int .i64 ct))
  have T2 := hide ((((T1.setCell (p := ⟨w.heap.size + 1 + 1, 2, none⟩) (by show _ ≤ w.heap.size + 1 + 1; omega) (.slice a1 ths.length c1)).setCell (p := ⟨w.heap.size + 1 + 1, 3, none⟩) (by show _ ≤ w.heap.size + 1 + 1; omega) (.int .i64 la)).setCell (p := ⟨w.heap.size + 1 + 1, 4, none⟩) (by show _ ≤ w.heap.size + 1 + 1; omega) (.string ch)).setCell (p := ⟨w.heap.size + 1 + 1, 5, none⟩) (by show _ ≤ w.heap.size + 1 + 1; omega) (.int .i64 ct))
  have ho2 := hide ((((ho1.other (a := ⟨w.heap.size + 1 + 1, 2, none⟩) (by show w.heap.size + 1 + 1 < _; omega) (.slice a1 ths.length c1)).other (a := ⟨w.heap.size + 1 + 1, 3, none⟩) (by show w.heap.size + 1 + 1 < _; omega) (.int .i64 la)).other (a := ⟨w.heap.size + 1 + 1, 4, none⟩) (by show w.heap.size + 1 + 1 < _; omega) (.string ch)).other (a := ⟨w.heap.size + 1 + 1, 5, none⟩) (by show w.heap.size + 1 + 1 < _; omega) (.int .i64 ct))
  clear hZ1 hZ2 hZ3 hZ4 hZ5 hY1 T1 ho1
  clear hX1 hs1
  go_upto_region 8 with fail
  refine wp_gen (fun W5 => CB W5 (w.heap.size + 1 + 1) 36 #[.string wd, .int .i64 tr, .slice a1 ths.length c1, .int .i64 la, .string ch, .int .i64 ct] ∧ CB W5 (w.heap.size + 1) 36 #[.string ⟨#[]⟩, .int .i64 0, .slice none 0 0, .int .i64 0, .string ⟨#[]⟩, .int .i64 0] ∧ Below w.heap.size w W5 ∧ OwnN thY W5 (w.heap.size + 1 + 1 + 1) 25 (.slice a1 ths.length c1) ths) ⟨unhide hZ6, unhide hY6, unhide T2, unhide ho2⟩ ?_
  rintro W5 ⟨hZ7, hY7, T3, ho3⟩
  clear hZ6 hY6 T2 ho2
  go_wp2_with (first
    | (refine wpList_load_row rfl 36 (.tmp 3) rfl (w.heap.size + 1 + 1) rfl 36 #[.string wd, .int .i64 tr, .slice a1 ths.length c1, .int .i64 la, .string ch, .int .i64 ct] (0, 0) _ hZ7 Try.underlying36 rfl rfl ?_)
    | (refine wpList_store_row rfl 36 (.tmp 2) (.tmp 23) rfl (w.heap.size + 1) #[.string wd, .int .i64 tr, .slice a1 ths.length c1, .int .i64 la, .string ch, .int .i64 ct] rfl rfl 36 _ hY7 rfl rfl (bkc_one _ _ _ _ _ _ _ _) ?_))
  have hY8 := setRow_heap _ (w.heap.size + 1) _ #[.string wd, .int .i64 tr, .slice a1 ths.length c1, .int .i64 la, .string ch, .int .i64 ct] 36 (0, 0) hY7
  have T4 := Go.below_setRow T3 (show w.heap.size ≤ w.heap.size + 1 by omega) #[.string wd, .int .i64 tr, .slice a1 ths.length c1, .int .i64 la, .string ch, .int .i64 ct]
  have ho4 := ho3.setRow (g := w.heap.size + 1) (by omega) #[.string wd, .int .i64 tr, .slice a1 ths.length c1, .int .i64 la, .string ch, .int .i64 ct]
  exact bodyPost_ret (results_cb (by exact Try.results28) _ _ (w.heap.size + 1) 36 _ _ rfl hY8 Try.underlying36 rfl) rfl ⟨⟨_, _, rfl, ho4.low (by omega)⟩, T4⟩
set_option maxRecDepth 20000 in
set_option maxHeartbeats 1000000 in
theorem eqBook_any (b : Bk) (v1 v2 : Value) (w : World) (hr1 : RdBk w v1 b) (hr2 : RdBk w v2 b) (hn9 : b.ths.length ≤ 2000000) :
    Calls Try.prog 24 #[v1, v2] w fun e w' => e = .returned (.bool true) ∧ Below w.heap.size w w' := by
  obtain ⟨wd, tr, ths, la, ch, ct⟩ := b
  obtain ⟨a1, n1, c1, rfl, hn1, hu1⟩ := hr1.open
  obtain ⟨a2, n2, c2, rfl, hn2, hu2⟩ := hr2.open
  dsimp only at hn1 hu1 hn2 hu2 hn9
  subst hn1 hn2
  have C := hide (fun W (h1 : RdN thY W (.slice a1 ths.length c1) ths) (h2 : RdN thY W (.slice a2 ths.length c2) ths) => eqThingS_any ths (.slice a1 ths.length c1) (.slice a2 ths.length c2) W h1 h2 hn9)
  replace hu1 := hide hu1
  replace hu2 := hide hu2
  clear hr1 hr2
  go_enter Try.func24, Try.ntmps24
  go_wp2_with fail
  obtain ⟨W, hW, hX, hY, hB, hs1⟩ := two_cb w #[.string wd, .int .i64 tr, .slice a1 ths.length c1, .int .i64 la, .string ch, .int .i64 ct] #[.string wd, .int .i64 tr, .slice a2 ths.length c2, .int .i64 la, .string ch, .int .i64 ct] 36 36
  rw [hW]
  clear hW
  refine (unhide C _ ((unhide hu1).below hB) ((unhide hu2).below hB)).mono ?_
  rintro e w1 ⟨rfl, hb1⟩
  have T1 := hB.trans (hb1.mono hB.size)
  have hX1 := hX.step hb1
  have hY1 := hY.step hb1
  clear hb1 hB hX hY C hu1 hu2
  have x3 := hX1.cell 3 (v := .int .i64 la) rfl
  have x4 := hX1.cell 4 (v := .string ch) rfl
  have x5 := hX1.cell 5 (v := .int .i64 ct) rfl
  have y3 := hY1.cell 3 (v := .int .i64 la) rfl
  have y4 := hY1.cell 4 (v := .string ch) rfl
  have y5 := hY1.cell 5 (v := .int .i64 ct) rfl
  clear hX1 hY1
  go_wp2
  go_ret
  exact ⟨rfl, T1⟩
set_option maxRecDepth 20000 in
set_option maxHeartbeats 1000000 in
theorem markBook_any (b : Bk) (u : Value) (base k M : Nat) (w : World) (hM : M = k + 8 * b.ths.length) (hl : b.ths.length ≤ 2000000) (hk1 : 1 ≤ k) (hk : k ≤ 20000000) (hbase : base ≤ w.heap.size) (ho : OwnN thY w base 25 u b.ths) :
    Calls Try.prog 25 #[bkv b u, .int .i64 k] w fun e w' => e = .returned (.int .i64 (M : Int)) ∧ OwnN thY w' base 25 u (mkT k b.ths.length) ∧ w.grownBy w' u.ownBlock := by
  obtain ⟨wd, tr, ths, la, ch, ct⟩ := b
  dsimp only at hM hl ho ⊢
  have C := hide (fun W (h1 : base ≤ W.heap.size) (h2 : OwnN thY W base 25 u ths) => markThingS_any u base k ths W hl hk1 hk h1 h2)
  rw [← hM] at C
  obtain ⟨a, c, rfl⟩ := ho.rd.shape
  have HO := hide ho
  clear ho hM
  unfold bkv
  dsimp only
  go_enter Try.func25, Try.ntmps25
  go_wp2_with fail
  refine ((unhide C) _ (by simp; omega) (by exact (unhide HO).alloc _)).mono ?_
  rintro e w1 ⟨rfl, ho1, hb1⟩
  clear C HO
  go_wp2
  go_ret
  exact ⟨rfl, ho1, gT (gB ((Below.refl w.heap.size w).alloc (Nat.le_refl _) _) _) hb1⟩
set_option maxRecDepth 20000 in
set_option maxHeartbeats 1000000 in
theorem heldBook_any (b : Bk) (u : Value) (k n M : Nat) (w : World) (hM : M = k + 8 * n) (hl : n ≤ 2000000) (hk1 : 1 ≤ k) (hk : k ≤ 20000000) (ho : RdN thY w u (mkT k n)) :
    Calls Try.prog 26 #[bkv b u, .int .i64 k] w fun e w' => e = .returned (.int .i64 (M : Int)) ∧ Below w.heap.size w w' := by
  obtain ⟨wd, tr, ths, la, ch, ct⟩ := b
  have C := hide (fun W (h2 : RdN thY W u (mkT k n)) => heldThingS_any u k n W hl hk1 hk h2)
  rw [← hM] at C
  obtain ⟨a, c, rfl⟩ := ho.shape
  have HO := hide ho
  have hM0 : ¬ (M : Int) < 0 := by omega
  clear ho hM
  unfold bkv
  dsimp only
  go_enter Try.func26, Try.ntmps26
  go_wp2_with fail
  refine ((unhide C) _ (by exact (unhide HO).alloc _)).mono ?_
  rintro e w1 ⟨rfl, hb1⟩
  clear C HO
  go_wp2
  go_ret
  exact ⟨rfl, ((Below.refl w.heap.size w).alloc (Nat.le_refl _) _).trans (hb1.mono (by simp))⟩
end Go.Proofs.Ytoacaennpddoeaa

