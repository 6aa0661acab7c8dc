/- Merged: Chk, LawBk, RcH, Bok9, LawRd, Rsz, Rmk, LawCo. -/
import Derived.Test.YtkbbcjnickgfjabGreatMgChainOk1
import Derived.Test.YtkbbcjnickgfjabGreatMgChainOk2
import Derived.Test.YtkbbcjnickgfjabGreatMgChainOk3
import Derived.Test.YtkbbcjnickgfjabGreatMgChainOk4
import Derived.Test.YtkbbcjnickgfjabGreatMgChainOk5
import Derived.Test.YtkbbcjnickgfjabGreatMgChainOk6
import Derived.Test.YtkbbcjnickgfjabGreatMgChainOk7
import Derived.Test.YtkbbcjnickgfjabGreatMgChainOk8
import Derived.Test.YtkbbcjnickgfjabGreatMgChainOk9
import Derived.Test.YtkbbcjnickgfjabGreatMgChainOk10
import Derived.Test.YtkbbcjnickgfjabGreatMgChainOk11
/- Books: whether records make a book's chain, both sides, over the loaded program. -/
namespace Go.Proofs.YtkbbcjnickgfjabGreat
open Go.RowKit
theorem bkSm_new : BkSm bkNew := ⟨Nat.zero_le _, by show (digB ⟨#[]⟩).size ≤ _; rw [show (digB ⟨#[]⟩).size = 32 from V8.text_size _]; decide, by show (⟨(List.replicate 32 (0 : UInt8)).toArray⟩ : ByteArray).size ≤ _; decide, fun x hx => by cases hx⟩
theorem chnB9_none {b : Bk} {l : List Rc} (h : entAll bkNew l = none) : chnB9 b l = false := by unfold chnB9; rw [h]
theorem chnB9_some {b x : Bk} {l : List Rc} (h : entAll bkNew l = some x) : chnB9 b l = decide (x.ch = b.ch ∧ x.ct = b.ct) := by unfold chnB9; rw [h]
set_option maxRecDepth 20000 in
set_option maxHeartbeats 4000000 in
theorem specChainOk_any (b : Bk) (l : List Rc) (v u : Value) (w : World) (hr : RdBk w v b) (hl : RdN rcY w u l) (hn : l.length ≤ 1048576) :
    Calls Tryz.prog 6 #[v, u] w fun e w' => e = .returned (.bool (chnB9 b l)) ∧ Below w.heap.size w w' := by
  have CN := fun W => specBookNew_any W
  have CA : Hid (∀ W : World, RdN rcY W u l → Calls Tryz.prog 14 #[.agg (bkc bkNew (.slice none 0 0)), u] W fun e w' => EntRes 48 W (entAll bkNew l) e w') := fun W h => specEnterAll_any bkNew l (bkv bkNew (.slice none 0 0)) u W ⟨_, rfl, (OwnT.nil W 0 48).rd⟩ h hn bkSm_new
  obtain ⟨a, n0, c, rfl, hn0, hu⟩ := hr.open
  subst hn0
  obtain ⟨al, cl, rfl⟩ := hl.shape
  simp only [bkv_c] at CN
  have E0 := hide (fun h => @chnB9_none b l h)
  have E1 := hide (fun x h => @chnB9_some b x l h)
  obtain ⟨r, hr9⟩ : ∃ r, r = chnB9 b l := ⟨_, rfl⟩
  rw [← hr9] at E0 E1 ⊢
  clear hr9
  generalize bkc bkNew (.slice none 0 0) = nb at CN CA
  obtain ⟨x, hx⟩ : ∃ z, z = entAll bkNew l := ⟨_, rfl⟩
  rw [← hx] at CA
  rw [← hx] at E0 E1
  clear hx
  obtain ⟨W, hW, hX, hB, hs0⟩ := one_cb w (bkc b (.slice a b.ths.length c)) 31
  have hW2 := hW
  simp only [bkc] at hW2
  have HL := hide (hl.below hB)
  replace hX := hide hX; replace hB := hide hB; replace CN := hide CN
  clear hW hr hl hu hn
  go_enter Tryz.func6, Tryz.ntmps6
  go_upto_region 1 with fail
  first | rw [hW2] | skip
  clear hW2
  go_upto_region 2 with (first
    | (go_at_call 15; refine (unhide CN _).mono ?_; rintro e w1 ⟨rfl, hb1⟩)
    | (go_at_call 14; refine (unhide CA _ ((unhide HL).below hb1)).mono ?_; rintro e w3 ⟨⟨a3, c3, rfl, ho3⟩, hb3⟩; have HG := hide (CB.new w3 #[.string ⟨#[]⟩, .int .i64 0, .slice none 0 0, .int .i64 0, .string ⟨#[]⟩, .int .i64 0] 31))
    | (refine wpList_store_row (P := Tryz.prog) rfl 31 (.tmp 5) (.tmp 11) rfl w3.heap.size (bkc (x.getD bkZ) (.slice a3 (x.getD bkZ).ths.length c3)) rfl rfl 31 _ (unhide HG) rfl rfl (bkc_all _ _ _ _) ?_)
    | fail)
  have hG4 := setRow_heap _ w3.heap.size _ (bkc (x.getD bkZ) (.slice a3 (x.getD bkZ).ths.length c3)) 31 (0, 0) (unhide HG)
  have hbV := Go.below_setRow ((Below.refl w3.heap.size w3).alloc (Nat.le_refl _) (.cells #[.string ⟨#[]⟩, .int .i64 0, .slice none 0 0, .int .i64 0, .string ⟨#[]⟩, .int .i64 0] 31)) (Nat.le_refl _) (bkc (x.getD bkZ) (.slice a3 (x.getD bkZ).ths.length c3))
  have hb23 := (hb1.trans (hb3.mono hb1.size)).trans (hbV.mono (Nat.le_trans hb1.size hb3.size))
  obtain ⟨g, hg⟩ : ∃ z, z = w3.heap.size := ⟨_, rfl⟩
  refine wp_gen (fun V => CB V w3.heap.size 31 (bkc (x.getD bkZ) (.slice a3 (x.getD bkZ).ths.length c3)) ∧ CB V w.heap.size 31 (bkc b (.slice a b.ths.length c)) ∧ Below w.heap.size w V) ⟨hG4, (unhide hX).step hb23, (unhide hB).trans (hb23.mono (unhide hB).size)⟩ ?_
  clear hG4 hbV hb23 ho3 hb3 hb1 HG hX hB CA CN HL hs0
  rw [← hg]
  clear hg
  rintro V0 ⟨hG, hX, hT⟩
  have q4 := hG.cell 4 (v := .string (x.getD bkZ).ch) rfl
  have q5 := hG.cell 5 (v := .int .i64 (x.getD bkZ).ct) rfl
  have x4 := hX.cell 4 (v := .string b.ch) rfl
  have x5 := hX.cell 5 (v := .int .i64 b.ct) rfl
  clear hG hX
  cases x with
  | none =>
    obtain rfl := unhide E0 rfl
    clear E0 E1
    go_wp2
    go_ret
    exact ⟨rfl, hT⟩
  | some o =>
    have E := unhide E1 o rfl
    clear E0 E1
    have q4' : V0.cell? ⟨g, 4, none⟩ = some (.string o.ch) := q4
    have q5' : V0.cell? ⟨g, 5, none⟩ = some (.int .i64 o.ct) := q5
    clear q4 q5
    by_cases h1 : o.ch = b.ch
    · have h1' : (o.ch.toList == b.ch.toList) = true := by rw [h1]; exact beq_self_eq_true _
      by_cases h2 : o.ct = b.ct
      · have h2' : (o.ct == b.ct) = true := by rw [h2]; exact beq_self_eq_true _
        obtain rfl : r = true := by rw [E]; exact decide_eq_true ⟨h1, h2⟩
        replace h1 := hide h1; replace h2 := hide h2
        clear E
        go_wp2
        go_ret
        exact ⟨rfl, hT⟩
      · have h2' : (o.ct == b.ct) = false := by simpa using h2
        obtain rfl : r = false := by rw [E]; exact decide_eq_false (fun h => h2 h.2)
        replace h1 := hide h1
        clear E
        go_wp2
        go_ret
        exact ⟨rfl, hT⟩
    · have h1' : (o.ch.toList == b.ch.toList) = false := neStr9 h1
      obtain rfl : r = false := by rw [E]; exact decide_eq_false (fun h => h1 h.1)
      replace h1 := hide h1
      clear E
      go_wp2
      go_ret
      exact ⟨rfl, hT⟩
set_option maxRecDepth 20000 in
set_option maxHeartbeats 4000000 in
theorem implChainOk_any (b : Bk) (l : List Rc) (v u : Value) (w : World) (hr : RdBk w v b) (hl : RdN rcY w u l) (hn : l.length ≤ 1048576) (ht : ∀ r ∈ l, r.tx.size ≤ 100000000) :
    Calls Tryz.prog 9 #[v, u] w fun e w' => e = .returned (.bool (chnB9 b l)) ∧ Below w.heap.size w w' := by
  have CN := fun W => implBookNew_any W
  have CA : Hid (∀ W : World, RdN rcY W u l → Calls Tryz.prog 18 #[.agg (bkc bkNew (.slice none 0 0)), u] W fun e w' => EntRes 48 W (entAll bkNew l) e w') := fun W h => implEnterAll_any bkNew l (bkv bkNew (.slice none 0 0)) u W ⟨_, rfl, (OwnT.nil W 0 48).rd⟩ h hn bkSm_new ht
  obtain ⟨a, n0, c, rfl, hn0, hu⟩ := hr.open
  subst hn0
  obtain ⟨al, cl, rfl⟩ := hl.shape
  simp only [bkv_c] at CN
  have E0 := hide (fun h => @chnB9_none b l h)
  have E1 := hide (fun x h => @chnB9_some b x l h)
  obtain ⟨r, hr9⟩ : ∃ r, r = chnB9 b l := ⟨_, rfl⟩
  rw [← hr9] at E0 E1 ⊢
  clear hr9
  generalize bkc bkNew (.slice none 0 0) = nb at CN CA
  obtain ⟨x, hx⟩ : ∃ z, z = entAll bkNew l := ⟨_, rfl⟩
  rw [← hx] at CA
  rw [← hx] at E0 E1
  clear hx
  obtain ⟨W, hW, hX, hB, hs0⟩ := one_cb w (bkc b (.slice a b.ths.length c)) 31
  have hW2 := hW
  simp only [bkc] at hW2
  have HL := hide (hl.below hB)
  replace hX := hide hX; replace hB := hide hB; replace CN := hide CN
  clear hW hr hl hu hn
  go_enter Tryz.func9, Tryz.ntmps9
  go_upto_region 1 with fail
  first | rw [hW2] | skip
  clear hW2
  go_upto_region 2 with (first
    | (go_at_call 19; refine (unhide CN _).mono ?_; rintro e w1 ⟨rfl, hb1⟩)
    | (go_at_call 18; refine (unhide CA _ ((unhide HL).below hb1)).mono ?_; rintro e w3 ⟨⟨a3, c3, rfl, ho3⟩, hb3⟩; have HG := hide (CB.new w3 #[.string ⟨#[]⟩, .int .i64 0, .slice none 0 0, .int .i64 0, .string ⟨#[]⟩, .int .i64 0] 31))
    | (refine wpList_store_row (P := Tryz.prog) rfl 31 (.tmp 5) (.tmp 11) rfl w3.heap.size (bkc (x.getD bkZ) (.slice a3 (x.getD bkZ).ths.length c3)) rfl rfl 31 _ (unhide HG) rfl rfl (bkc_all _ _ _ _) ?_)
    | fail)
  have hG4 := setRow_heap _ w3.heap.size _ (bkc (x.getD bkZ) (.slice a3 (x.getD bkZ).ths.length c3)) 31 (0, 0) (unhide HG)
  have hbV := Go.below_setRow ((Below.refl w3.heap.size w3).alloc (Nat.le_refl _) (.cells #[.string ⟨#[]⟩, .int .i64 0, .slice none 0 0, .int .i64 0, .string ⟨#[]⟩, .int .i64 0] 31)) (Nat.le_refl _) (bkc (x.getD bkZ) (.slice a3 (x.getD bkZ).ths.length c3))
  have hb23 := (hb1.trans (hb3.mono hb1.size)).trans (hbV.mono (Nat.le_trans hb1.size hb3.size))
  obtain ⟨g, hg⟩ : ∃ z, z = w3.heap.size := ⟨_, rfl⟩
  refine wp_gen (fun V => CB V w3.heap.size 31 (bkc (x.getD bkZ) (.slice a3 (x.getD bkZ).ths.length c3)) ∧ CB V w.heap.size 31 (bkc b (.slice a b.ths.length c)) ∧ Below w.heap.size w V) ⟨hG4, (unhide hX).step hb23, (unhide hB).trans (hb23.mono (unhide hB).size)⟩ ?_
  clear hG4 hbV hb23 ho3 hb3 hb1 HG hX hB CA CN HL hs0
  rw [← hg]
  clear hg
  rintro V0 ⟨hG, hX, hT⟩
  have q4 := hG.cell 4 (v := .string (x.getD bkZ).ch) rfl
  have q5 := hG.cell 5 (v := .int .i64 (x.getD bkZ).ct) rfl
  have x4 := hX.cell 4 (v := .string b.ch) rfl
  have x5 := hX.cell 5 (v := .int .i64 b.ct) rfl
  clear hG hX
  cases x with
  | none =>
    obtain rfl := unhide E0 rfl
    clear E0 E1
    go_wp2
    go_ret
    exact ⟨rfl, hT⟩
  | some o =>
    have E := unhide E1 o rfl
    clear E0 E1
    have q4' : V0.cell? ⟨g, 4, none⟩ = some (.string o.ch) := q4
    have q5' : V0.cell? ⟨g, 5, none⟩ = some (.int .i64 o.ct) := q5
    clear q4 q5
    by_cases h1 : o.ch = b.ch
    · have h1' : (o.ch.toList == b.ch.toList) = true := by rw [h1]; exact beq_self_eq_true _
      by_cases h2 : o.ct = b.ct
      · have h2' : (o.ct == b.ct) = true := by rw [h2]; exact beq_self_eq_true _
        obtain rfl : r = true := by rw [E]; exact decide_eq_true ⟨h1, h2⟩
        replace h1 := hide h1; replace h2 := hide h2
        clear E
        go_wp2
        go_ret
        exact ⟨rfl, hT⟩
      · have h2' : (o.ct == b.ct) = false := by simpa using h2
        obtain rfl : r = false := by rw [E]; exact decide_eq_false (fun h => h2 h.2)
        replace h1 := hide h1
        clear E
        go_wp2
        go_ret
        exact ⟨rfl, hT⟩
    · have h1' : (o.ch.toList == b.ch.toList) = false := neStr9 h1
      obtain rfl : r = false := by rw [E]; exact decide_eq_false (fun h => h1 h.1)
      replace h1 := hide h1
      clear E
      go_wp2
      go_ret
      exact ⟨rfl, hT⟩
end Go.Proofs.YtkbbcjnickgfjabGreat

/- Exact laws over books, over the loaded program, the project's functions as premises. -/
namespace Go.Proofs.YtkbbcjnickgfjabGreat
open Go.RowKit
end Go.Proofs.YtkbbcjnickgfjabGreat

/- The laws' helpers on records, over the loaded program. -/
namespace Go.Proofs.YtkbbcjnickgfjabGreat
open Go.RowKit
set_option maxRecDepth 20000 in
set_option maxHeartbeats 4000000 in
theorem szRec_any (r : Rc) (L : Int) (hL : 0 ≤ L ∧ L ≤ 1048576) (h1 : r.tx.size ≤ maxLen) (h2 : r.th.val.size ≤ maxLen) (w : World) :
    Calls Tryz.prog 13 #[.agg (rcC r), .int .i64 L] w fun e w' => (∃ z : Int, e = .returned (.int .i64 z) ∧ (z < 0 ∨ (z = L - (r.tx.size : Int) - (r.th.val.size : Int) ∧ (r.tx.size : Int) + (r.th.val.size : Int) ≤ L))) ∧ Below w.heap.size w w' := by
  have C := fun L2 (h : 0 ≤ L2 ∧ L2 ≤ 1048576) W => szThing_any r.th L2 h h2 W
  obtain ⟨kd, tx, nm, ⟨id, kind, hid, fix, sgn, wrp, val, nxt⟩⟩ := r
  simp only [rcC, thC] at h1 h2 C ⊢
  unfold maxLen at h1 h2
  replace C := hide C
  obtain ⟨W, hW, hC, hb, hlt⟩ := one_cb w #[.int .i64 kd, .string tx, .int .i64 nm, .int .i64 id, .int .i64 kind, .bool hid, .bool fix, .bool sgn, .bool wrp, .string val, .int .i64 nxt] 43
  obtain ⟨z, hz⟩ : ∃ z : Int, z = L - (tx.size : Int) := ⟨_, rfl⟩
  have u1 : IntKind.i64.wrap (L - (tx.size : Int)) = z := by rw [IntKind.wrap_i64]; omega
  have u1' : wrap64 (L - (tx.size : Int)) = z := (IntWalk.i64_left _).symm.trans u1
  have c1 := hC.cell 1 (v := .string tx) rfl
  by_cases hn : z < 0
  · replace hz := hide hz; replace h1 := hide h1; replace h2 := hide h2; replace hL := hide hL
    go_enter Tryz.func13, Tryz.ntmps13
    go_wp2
    go_ret
    exact ⟨⟨-1, rfl, .inl (by omega)⟩, hb⟩
  · have C2 := hide (unhide C z (by omega))
    clear C
    have HZ := hide (show z = L - (tx.size : Int) ∧ (tx.size : Int) ≤ L from ⟨hz, by omega⟩)
    replace hz := hide hz; replace h1 := hide h1; replace h2 := hide h2; replace hL := hide hL
    have c3 := hC.cell 3 (v := .int .i64 id) rfl
    have c4 := hC.cell 4 (v := .int .i64 kind) rfl
    have c5 := hC.cell 5 (v := .bool hid) rfl
    have c6 := hC.cell 6 (v := .bool fix) rfl
    have c7 := hC.cell 7 (v := .bool sgn) rfl
    have c8 := hC.cell 8 (v := .bool wrp) rfl
    have c9 := hC.cell 9 (v := .string val) rfl
    have c10 := hC.cell 10 (v := .int .i64 nxt) rfl
    go_enter Tryz.func13, Tryz.ntmps13
    go_upto_region 5 with (go_at_call 22; refine (unhide C2 _).mono ?_; rintro e w1 ⟨⟨z1, rfl, hz1⟩, hb1⟩)
    clear c1 c3 c4 c5 c6 c7 c8 c9 c10
    have T1 := hb.trans (hb1.mono hb.size)
    rcases hz1 with ⟨hn1, _⟩ | ⟨hz1, hz2⟩
    · go_wp2
      go_ret
      exact ⟨⟨_, rfl, .inl (by omega)⟩, T1⟩
    · have hn1 : ¬ z1 < 0 := by omega
      obtain ⟨e1, e2⟩ := unhide HZ
      have HE := hide (show z1 = L - (tx.size : Int) - (val.size : Int) ∧ (tx.size : Int) + (val.size : Int) ≤ L from ⟨by omega, by omega⟩)
      clear HZ e1 e2 hz1 hz2
      go_wp2
      go_ret
      exact ⟨⟨_, rfl, .inr (unhide HE)⟩, T1⟩
set_option maxRecDepth 20000 in
set_option maxHeartbeats 4000000 in
theorem toRec_any (r : Rc) (w : World) :
    Calls Tryz.prog 17 #[.agg (rcC r)] w fun e w' => e = .returned (.agg (rcC r)) ∧ Below w.heap.size w w' := by
  have C := fun W => toThing_any r.th W
  obtain ⟨kd, tx, nm, ⟨id, kind, hid, fix, sgn, wrp, val, nxt⟩⟩ := r
  simp only [rcC, thC] at C ⊢
  replace C := hide C
  go_enter Tryz.func17, Tryz.ntmps17
  go_upto_region 2 with fail
  obtain ⟨W, hW, hX, hY, hZ, hB, hs1⟩ := three_cb w #[.int .i64 kd, .string tx, .int .i64 nm, .int .i64 id, .int .i64 kind, .bool hid, .bool fix, .bool sgn, .bool wrp, .string val, .int .i64 nxt] #[.int .i64 0, .string ⟨#[]⟩, .int .i64 0, .int .i64 0, .int .i64 0, .bool false, .bool false, .bool false, .bool false, .string ⟨#[]⟩, .int .i64 0] #[.int .i64 0, .string ⟨#[]⟩, .int .i64 0, .int .i64 0, .int .i64 0, .bool false, .bool false, .bool false, .bool false, .string ⟨#[]⟩, .int .i64 0] 43 50 50
  first | rw [hW] | skip
  clear hW hs1
  have x0 := hX.cell 0 (v := .int .i64 kd) rfl
  have z0 := hZ.cell 0 (v := .int .i64 0) rfl
  have f0 := hZ.frozen 0
  have hZ1 := hZ.set 0 (.int .i64 kd)
  have hX1 := hX.set_other (h := w.heap.size + 1 + 1) (k := 0) (by omega) (.int .i64 kd)
  have hY1 := hY.set_other (h := w.heap.size + 1 + 1) (k := 0) (by omega) (.int .i64 kd)
  have T1 := hB.setCell (p := ⟨w.heap.size + 1 + 1, 0, none⟩) (by show _ ≤ w.heap.size + 1 + 1; omega) (.int .i64 kd)
  have x1 := hX1.cell 1 (v := .string tx) rfl
  have z1 := hZ1.cell 1 (v := .string ⟨#[]⟩) rfl
  have f1 := hZ1.frozen 1
  have hZ2 := hZ1.set 1 (.string tx)
  have hX2 := hX1.set_other (h := w.heap.size + 1 + 1) (k := 1) (by omega) (.string tx)
  have hY2 := hY1.set_other (h := w.heap.size + 1 + 1) (k := 1) (by omega) (.string tx)
  have T2 := T1.setCell (p := ⟨w.heap.size + 1 + 1, 1, none⟩) (by show _ ≤ w.heap.size + 1 + 1; omega) (.string tx)
  have x2 := hX2.cell 2 (v := .int .i64 nm) rfl
  have z2 := hZ2.cell 2 (v := .int .i64 0) rfl
  have f2 := hZ2.frozen 2
  have hZ3 := hZ2.set 2 (.int .i64 nm)
  have hX3 := hX2.set_other (h := w.heap.size + 1 + 1) (k := 2) (by omega) (.int .i64 nm)
  have hY3 := hide (hY2.set_other (h := w.heap.size + 1 + 1) (k := 2) (by omega) (.int .i64 nm))
  have T3 := hide (T2.setCell (p := ⟨w.heap.size + 1 + 1, 2, none⟩) (by show _ ≤ w.heap.size + 1 + 1; omega) (.int .i64 nm))
  have hZ4 := hide (cb_eq hZ3 (show (#[.int .i64 kd, .string tx, .int .i64 nm, .int .i64 0, .int .i64 0, .bool false, .bool false, .bool false, .bool false, .string ⟨#[]⟩, .int .i64 0] : Array Value) = _ from rfl))
  have hX4 := hide hX3
  clear hB hX hY hZ hX1 hX2 hX3 hY1 hY2 hZ1 hZ2 hZ3 T1 T2
  go_upto_region 5 with fail
  refine wp_gen (fun W5 => CB W5 (w.heap.size + 1 + 1) 50 #[.int .i64 kd, .string tx, .int .i64 nm, .int .i64 0, .int .i64 0, .bool false, .bool false, .bool false, .bool false, .string ⟨#[]⟩, .int .i64 0] ∧ CB W5 w.heap.size 43 #[.int .i64 kd, .string tx, .int .i64 nm, .int .i64 id, .int .i64 kind, .bool hid, .bool fix, .bool sgn, .bool wrp, .string val, .int .i64 nxt] ∧ CB W5 (w.heap.size + 1) 50 #[.int .i64 0, .string ⟨#[]⟩, .int .i64 0, .int .i64 0, .int .i64 0, .bool false, .bool false, .bool false, .bool false, .string ⟨#[]⟩, .int .i64 0] ∧ Below w.heap.size w W5) ⟨unhide hZ4, unhide hX4, unhide hY3, unhide T3⟩ ?_
  clear x0 x1 x2 z0 z1 z2 f0 f1 f2 hZ4 hX4 hY3 T3
  rintro W5 ⟨hZ, hX, hY, T⟩
  have c3 := hX.cell 3 (v := .int .i64 id) rfl
  have c4 := hX.cell 4 (v := .int .i64 kind) rfl
  have c5 := hX.cell 5 (v := .bool hid) rfl
  have c6 := hX.cell 6 (v := .bool fix) rfl
  have c7 := hX.cell 7 (v := .bool sgn) rfl
  have c8 := hX.cell 8 (v := .bool wrp) rfl
  have c9 := hX.cell 9 (v := .string val) rfl
  have c10 := hX.cell 10 (v := .int .i64 nxt) rfl
  have hZ0 := hide hZ; have hX0 := hide hX; have hY0 := hide hY; have T0 := hide T
  clear hZ hX hY T
  go_upto_region 6 with (first
    | (go_at_call 27; refine (unhide C _).mono ?_; rintro e w1 ⟨rfl, hb1⟩; have hZ1 := (unhide hZ0).step hb1; clear c3 c4 c5 c6 c7 c8 c9 c10)
    | (refine wpList_store_cb rfl 48 (.tmp 16) (.tmp 15) rfl (g := w.heap.size + 1 + 1) (o := 3) (T := 50) (cs := #[.int .i64 kd, .string tx, .int .i64 nm, .int .i64 0, .int .i64 0, .bool false, .bool false, .bool false, .bool false, .string ⟨#[]⟩, .int .i64 0]) [.int .i64 id, .int .i64 kind, .bool hid, .bool fix, .bool sgn, .bool wrp, .string val, .int .i64 nxt] rfl rfl hZ1 (by simp) (by simp [Value.oneCell']) (by kernel_rfl) ?_
       intro w2 hZ2 hg2 hsz2))
  replace hZ2 := hide (cb_eq hZ2 (show (#[.int .i64 kd, .string tx, .int .i64 nm, .int .i64 id, .int .i64 kind, .bool hid, .bool fix, .bool sgn, .bool wrp, .string val, .int .i64 nxt] : Array Value) = _ from rfl))
  have T1 := (unhide T0).trans (hb1.mono (unhide T0).size)
  have hY1 := (unhide hY0).step hb1
  have hY2 := hide (hY1.grown hg2 (by simp))
  have T2 := hide (show Below w.heap.size w w2 from T1.grown hg2 (by have := T1.size; omega) (fun k hk => by injection hk with hk; omega))
  clear hY1 T1 hg2 hsz2 hZ1 hb1 hY0 T0 hX0 hZ0 C
  go_wp2_with (first
    | (refine wpList_load_row rfl 50 (.tmp 3) rfl (w.heap.size + 1 + 1) rfl 50 #[.int .i64 kd, .string tx, .int .i64 nm, .int .i64 id, .int .i64 kind, .bool hid, .bool fix, .bool sgn, .bool wrp, .string val, .int .i64 nxt] (0, 0) _ (unhide hZ2) Tryz.underlying50 rfl rfl ?_)
    | (refine wpList_store_row rfl 50 (.tmp 2) (.tmp 17) rfl (w.heap.size + 1) #[.int .i64 kd, .string tx, .int .i64 nm, .int .i64 id, .int .i64 kind, .bool hid, .bool fix, .bool sgn, .bool wrp, .string val, .int .i64 nxt] rfl rfl 50 _ (unhide hY2) rfl rfl (by simp [Value.oneCell']) ?_))
  have hY8 := setRow_heap _ (w.heap.size + 1) _ #[.int .i64 kd, .string tx, .int .i64 nm, .int .i64 id, .int .i64 kind, .bool hid, .bool fix, .bool sgn, .bool wrp, .string val, .int .i64 nxt] 50 (0, 0) (unhide hY2)
  have T4 := Go.below_setRow (unhide T2) (show w.heap.size ≤ w.heap.size + 1 by omega) #[.int .i64 kd, .string tx, .int .i64 nm, .int .i64 id, .int .i64 kind, .bool hid, .bool fix, .bool sgn, .bool wrp, .string val, .int .i64 nxt]
  exact bodyPost_ret (results_cb (by exact Tryz.results17) _ _ (w.heap.size + 1) 50 _ _ rfl hY8 Tryz.underlying50 rfl) rfl ⟨rfl, T4⟩
end Go.Proofs.YtkbbcjnickgfjabGreat

/- Records that are read, by the given model, over the loaded program. -/
namespace Go.Proofs.YtkbbcjnickgfjabGreat
open Go.RowKit
end Go.Proofs.YtkbbcjnickgfjabGreat

/- The law of the records that are read, over the loaded program. -/
namespace Go.Proofs.YtkbbcjnickgfjabGreat
open Go.RowKit
set_option maxRecDepth 20000 in
set_option maxHeartbeats 2000000 in
theorem eqRec_any (r : Rc) (w : World) :
    Calls Tryz.prog 21 #[.agg (rcC r), .agg (rcC r)] w fun e w' => e = .returned (.bool true) ∧ Below w.heap.size w w' := by
  have C := fun W => eqThing_any r.th W
  obtain ⟨kd, tx, nm, ⟨id, kind, hid, fix, sgn, wrp, val, nxt⟩⟩ := r
  simp only [rcC, thC] at C ⊢
  replace C := hide C
  obtain ⟨W, hW, hA, hB, hb, hlt⟩ := two_cb w #[.int .i64 kd, .string tx, .int .i64 nm, .int .i64 id, .int .i64 kind, .bool hid, .bool fix, .bool sgn, .bool wrp, .string val, .int .i64 nxt] #[.int .i64 kd, .string tx, .int .i64 nm, .int .i64 id, .int .i64 kind, .bool hid, .bool fix, .bool sgn, .bool wrp, .string val, .int .i64 nxt] 50 50
  have a0 := hA.cell 0 rfl
  have b0 := hB.cell 0 rfl
  have a1 := hA.cell 1 rfl
  have b1 := hB.cell 1 rfl
  have a2 := hA.cell 2 rfl
  have b2 := hB.cell 2 rfl
  have a3 := hA.cell 3 rfl
  have b3 := hB.cell 3 rfl
  have a4 := hA.cell 4 rfl
  have b4 := hB.cell 4 rfl
  have a5 := hA.cell 5 rfl
  have b5 := hB.cell 5 rfl
  have a6 := hA.cell 6 rfl
  have b6 := hB.cell 6 rfl
  have a7 := hA.cell 7 rfl
  have b7 := hB.cell 7 rfl
  have a8 := hA.cell 8 rfl
  have b8 := hB.cell 8 rfl
  have a9 := hA.cell 9 rfl
  have b9 := hB.cell 9 rfl
  have a10 := hA.cell 10 rfl
  have b10 := hB.cell 10 rfl
  clear hA hB
  go_enter Tryz.func21, Tryz.ntmps21
  go_upto_region 1 with fail
  first | rw [hW] | skip
  clear hW
  go_wp2_with (go_at_call 32; refine (unhide C _).mono ?_; rintro e w1 ⟨rfl, hb1⟩)
  go_ret
  exact ⟨rfl, hb.trans (hb1.mono hb.size)⟩
end Go.Proofs.YtkbbcjnickgfjabGreat

/- The laws' helpers on rows of records: how much, a copy, whether they are the same, marks. -/
namespace Go.Proofs.YtkbbcjnickgfjabGreat
open Go.RowKit
theorem RdN.openR {w : World} {v : Value} {xs : List Rc} (h : RdN rcY w v xs) : ∃ a c, v = .slice a xs.length c ∧ ∀ j x, xs[j]? = some x → ∃ g o, a = some ⟨g, o, none⟩ ∧ g < w.heap.size ∧ AtN rcY w g (o + j * 11) x := h.open
theorem infoRec : (Tryz.prog.info? 50).map (fun i => (i.zero, i.size, i.bytes)) = some (some (.agg (rcC rcZ)), 11, 80) := by kernel_rfl
set_option maxRecDepth 20000 in
set_option maxHeartbeats 1000000 in
theorem szRecS_any (xs : List Rc) (v : Value) (L : Int) (hL : 0 ≤ L ∧ L ≤ 1048576) (w : World) (hr : RdN rcY w v xs) (hn : xs.length ≤ maxLen) (hz : ∀ x ∈ xs, x.tx.size ≤ maxLen ∧ x.th.val.size ≤ maxLen) :
    Calls Tryz.prog 5 #[v, .int .i64 L] w fun e w' => (∃ z : Int, e = .returned (.int .i64 z) ∧ (z < 0 ∨ (0 ≤ z ∧ xs.length ≤ 1048576 ∧ ∀ x ∈ xs, x.tx.size ≤ 1048576))) ∧ Below w.heap.size w w' := by
  obtain ⟨a, c, rfl, hc⟩ := hr.openR
  have hn' := hn
  unfold maxLen at hn'
  clear hr hn
  obtain ⟨n, hnn⟩ : ∃ n, xs.length = n := ⟨_, rfl⟩
  rw [hnn] at hn' ⊢
  replace hnn := hide hnn
  replace hz := hide hz
  by_cases c1 : L - (n : Int) < 0
  · go_enter Tryz.func5, Tryz.ntmps5
    go_wp2
    go_ret
    exact ⟨⟨-1, rfl, .inl (by decide)⟩, Below.refl _ _⟩
  · go_enter Tryz.func5, Tryz.ntmps5
    go_wp2
    go_loopw [1, 5] (fun tl ti wr => ∃ (k : Nat) (l : Int), k ≤ n ∧ ti = .int .i64 k ∧ tl = .int .i64 l ∧ Hid (0 ≤ l ∧ l ≤ L ∧ ∀ x ∈ xs.take k, x.tx.size ≤ 1048576) ∧ Below w.heap.size w wr) (fun _ ti _ => n - (intOf ti).toNat)
    case atStart => exact ⟨0, L - n, Nat.zero_le _, rfl, by go_num, ⟨by omega, by omega, fun x hx => by simp at hx⟩, Below.refl _ _⟩
    case round =>
      obtain ⟨k, l, hk, rfl, rfl, hsum, hb⟩ := hrel
      by_cases hlt : k < n
      · have hk' : k < xs.length := by rw [unhide hnn]; exact hlt
        obtain ⟨f, hf⟩ : ∃ f, xs[k]? = some f := ⟨xs[k], List.getElem?_eq_getElem hk'⟩
        obtain ⟨g, o, rfl, hg, hat⟩ := hc k f hf
        have hatw := hide (hat.below hb hg)
        have hzf := unhide hz f (List.mem_of_getElem? hf)
        have hl2 : 0 ≤ l ∧ l ≤ 1048576 := by have := unhide hsum; omega
        have C := hide (fun W => szRec_any f l hl2 hzf.1 hzf.2 W)
        have hss := hb.size
        have hlk : (k : Int) < (n : Int) := by omega
        have hi0 : (0 : Int) ≤ (k : Int) := by omega
        replace hf := hide hf
        clear hc hat hzf
        go_wp2_with (first
          | (refine wpList_load_n (P := Tryz.prog) (L := rcY) rfl 43 (.tmp 20) rfl g (o + k * 11) rfl f (unhide hatw) _ Tryz.underlying43 rfl ?_)
          | (go_at_call 13; refine ((unhide C) _).mono ?_; rintro e w1 ⟨⟨r, rfl, hr1⟩, hb1⟩)
          | fail)
        · go_ret
          exact ⟨⟨_, rfl, .inl (by decide)⟩, hb.trans (hb1.mono hss)⟩
        · go_roundw
          case rel =>
            refine ⟨k + 1, r, by omega, by go_num, rfl, ?_, hb.trans (hb1.mono hss)⟩
            have h4 := unhide hsum
            rcases hr1 with q | ⟨q, q2⟩
            · exact absurd q (by omega)
            · refine ⟨by omega, by omega, fun x hx => ?_⟩
              rw [List.take_add_one, unhide hf] at hx
              rcases List.mem_append.1 hx with hx | hx
              · exact h4.2.2 x hx
              · have e : x = f := by simpa using hx
                subst e; omega
          case measure => simp [intOf]; omega
      · have e1 : k = n := by omega
        have e2 : xs.take k = xs := List.take_of_length_le (by rw [unhide hnn]; omega)
        have h4 := unhide hsum
        rw [e2] at h4
        have hfin := hide (show l < 0 ∨ (0 ≤ l ∧ n ≤ 1048576 ∧ ∀ x ∈ xs, x.tx.size ≤ 1048576) from .inr ⟨h4.1, by omega, h4.2.2⟩)
        clear h4
        go_wp2
        go_ret
        exact ⟨⟨_, rfl, unhide hfin⟩, hb⟩
set_option maxRecDepth 20000 in
set_option maxHeartbeats 2000000 in
theorem toRecS_any (fs : List Rc) (v : Value) (w : World) (hr : RdN rcY w v fs) (hn : fs.length ≤ 1048576) :
    Calls Tryz.prog 8 #[v] w fun e w' => (∃ a c, e = .returned (.slice a fs.length c) ∧ OwnN rcY w' w.heap.size 50 (.slice a fs.length c) fs) ∧ Below w.heap.size w w' := by
  obtain ⟨i0, hi, hz0, hz1, hz2⟩ := info_parts infoRec
  obtain ⟨a, c, rfl, hc⟩ := hr.openR
  clear hr
  obtain ⟨n, hnn⟩ : ∃ n, fs.length = n := ⟨_, rfl⟩
  rw [hnn] at hn ⊢
  replace hnn := hide hnn
  go_enter Tryz.func8, Tryz.ntmps8
  go_wp2_with (at_make; refine wpList_make_full _ rfl _ _ 33 rfl w.heap.size 50 i0 (.agg (rcC rcZ)) 11 Tryz.underlying33 hi hz0 hz1 _ _ _ _ n rfl rfl rfl rfl (by rw [hz2]; omega) (by unfold maxLen; omega) (Nat.le_refl _) ?_; intro w1 hown1 hgrow1)
  have hr0 : OwnN rcY w1 w.heap.size 50 (.slice (some ⟨w.heap.size, 0, none⟩) n n) (fs.take 0 ++ List.replicate (n - 0) rcZ) := OwnN.made rcZ rfl hown1
  have hb0 : Below w.heap.size w w1 := (Below.refl w.heap.size w).grown hgrow1 (Nat.le_refl _) (fun k hk => by cases hk)
  clear hown1 hgrow1
  go_loopw [4] (fun ti wr => ∃ k : Nat, k ≤ n ∧ ti = .int .i64 k ∧ OwnN rcY wr w.heap.size 50 (.slice (some ⟨w.heap.size, 0, none⟩) n n) (fs.take k ++ List.replicate (n - k) rcZ) ∧ Below w.heap.size w wr) (fun ti _ => n - (intOf ti).toNat)
  case atStart => exact ⟨0, Nat.zero_le _, rfl, hr0, hb0⟩
  case round =>
    obtain ⟨k, hk, rfl, ho, hb⟩ := hrel
    by_cases hlt : k < n
    · have hk' : k < fs.length := by rw [unhide hnn]; exact hlt
      obtain ⟨f, hf⟩ : ∃ f, fs[k]? = some f := ⟨fs[k], List.getElem?_eq_getElem hk'⟩
      obtain ⟨g, o, rfl, hg, hat⟩ := hc k f hf
      have hatw := hat.below hb hg
      have hss := hb.size
      replace hf := hide hf
      have hlk : (k : Int) < (n : Int) := by omega
      clear hc hat hr0 hb0
      go_wp2_with (first
        | (refine wpList_load_n (L := rcY) rfl 43 (.tmp 18) rfl g (o + k * 11) rfl f hatw _ Tryz.underlying43 rfl ?_)
        | (go_at_call 17; refine (toRec_any f _).mono ?_; rintro e w2 ⟨rfl, hb1⟩; have ho1 := ho.below hb1)
        | (refine wpList_store_n (L := rcY) rfl 50 (.tmp 21) (.tmp 20) rfl (k := k) rfl f rfl ho1 hlt rfl ?_; intro w3 ho2 hg2 hs2)
        | fail)
      rw [take_fillN (unhide hf) (unhide hnn)] at ho2
      go_roundw
      case rel => exact ⟨k + 1, by omega, by go_num, ho2, (hb.trans (hb1.mono hss)).grown hg2 (by have := hb1.size; omega) (fun j hj => by cases hj; exact Nat.le_refl _)⟩
      case measure => simp [intOf]; omega
    · have e1 : k = n := by omega
      have e2 : fs.take k ++ List.replicate (n - k) rcZ = fs := by
        rw [e1, Nat.sub_self, List.take_of_length_le (by rw [unhide hnn]; exact Nat.le_refl _)]
        simp
      rw [e2] at ho
      go_wp2
      go_ret
      exact ⟨⟨_, _, rfl, ho⟩, hb⟩
set_option maxRecDepth 20000 in
set_option maxHeartbeats 4000000 in
theorem eqRecS_any (fs : List Rc) (v1 v2 : Value) (w : World) (hr1 : RdN rcY w v1 fs) (hr2 : RdN rcY w v2 fs) (hn : fs.length ≤ 2000000) :
    Calls Tryz.prog 11 #[v1, v2] w fun e w' => e = .returned (.bool true) ∧ Below w.heap.size w w' := by
  obtain ⟨a1, c1, rfl, hc1⟩ := hr1.openR
  obtain ⟨a2, c2, rfl, hc2⟩ := hr2.openR
  clear hr1 hr2
  obtain ⟨n, hnn⟩ : ∃ n, fs.length = n := ⟨_, rfl⟩
  rw [hnn] at hn ⊢
  replace hnn := hide hnn
  go_enter Tryz.func11, Tryz.ntmps11
  go_wp2
  go_loopw [5] (fun ti wr => ∃ k : Nat, k ≤ n ∧ ti = .int .i64 k ∧ Below w.heap.size w wr) (fun ti _ => n - (intOf ti).toNat)
  case atStart => exact ⟨0, Nat.zero_le _, rfl, Below.refl _ _⟩
  case round =>
    obtain ⟨k, hk, rfl, hb⟩ := hrel
    by_cases hlt : k < n
    · have hk' : k < fs.length := by rw [unhide hnn]; exact hlt
      obtain ⟨f, hf⟩ : ∃ f, fs[k]? = some f := ⟨fs[k], List.getElem?_eq_getElem hk'⟩
      obtain ⟨g1, o1, rfl, hg1, hat1⟩ := hc1 k f hf
      obtain ⟨g2, o2, rfl, hg2, hat2⟩ := hc2 k f hf
      have hA1 := hide (hat1.below hb hg1)
      have hA2 := hide (hat2.below hb hg2)
      have hss := hb.size
      have hgw1 : g1 < wr.heap.size := by omega
      have hgw2 : g2 < wr.heap.size := by omega
      have hi0 : (0 : Int) ≤ (k : Int) := by omega
      have hi1 : (k : Int) < (n : Int) := by omega
      replace hf := hide hf
      clear hc1 hc2 hat1 hat2
      have C := hide (fun W => eqRec_any f W)
      obtain ⟨kd, tx, nm, ⟨id, kind, hid, fix, sgn, wrp, val, nxt⟩⟩ := f
      obtain ⟨d0, d1, d2, d3, d4, d5, d6, d7, d8, d9, d10⟩ := AtN.rc (o := o1 + k * 11) (unhide hA1)
      obtain ⟨e0, e1, e2, e3, e4, e5, e6, e7, e8, e9, e10⟩ := AtN.rc (o := o2 + k * 11) (unhide hA2)
      go_wp2
      go_region_held3 (fun W => W.cell? ⟨g1, o1 + k * 11, none⟩ = some (.int .i64 kd) ∧ W.cell? ⟨g1, o1 + k * 11 + 1, none⟩ = some (.string tx) ∧ W.cell? ⟨g1, o1 + k * 11 + 2, none⟩ = some (.int .i64 nm) ∧ W.cell? ⟨g1, o1 + k * 11 + 3, none⟩ = some (.int .i64 id) ∧ W.cell? ⟨g1, o1 + k * 11 + 4, none⟩ = some (.int .i64 kind) ∧ W.cell? ⟨g1, o1 + k * 11 + 5, none⟩ = some (.bool hid) ∧ W.cell? ⟨g1, o1 + k * 11 + 6, none⟩ = some (.bool fix) ∧ W.cell? ⟨g1, o1 + k * 11 + 7, none⟩ = some (.bool sgn) ∧ W.cell? ⟨g1, o1 + k * 11 + 8, none⟩ = some (.bool wrp) ∧ W.cell? ⟨g1, o1 + k * 11 + 9, none⟩ = some (.string val) ∧ W.cell? ⟨g1, o1 + k * 11 + 10, none⟩ = some (.int .i64 nxt) ∧ W.cell? ⟨g2, o2 + k * 11, none⟩ = some (.int .i64 kd) ∧ W.cell? ⟨g2, o2 + k * 11 + 1, none⟩ = some (.string tx) ∧ W.cell? ⟨g2, o2 + k * 11 + 2, none⟩ = some (.int .i64 nm) ∧ W.cell? ⟨g2, o2 + k * 11 + 3, none⟩ = some (.int .i64 id) ∧ W.cell? ⟨g2, o2 + k * 11 + 4, none⟩ = some (.int .i64 kind) ∧ W.cell? ⟨g2, o2 + k * 11 + 5, none⟩ = some (.bool hid) ∧ W.cell? ⟨g2, o2 + k * 11 + 6, none⟩ = some (.bool fix) ∧ W.cell? ⟨g2, o2 + k * 11 + 7, none⟩ = some (.bool sgn) ∧ W.cell? ⟨g2, o2 + k * 11 + 8, none⟩ = some (.bool wrp) ∧ W.cell? ⟨g2, o2 + k * 11 + 9, none⟩ = some (.string val) ∧ W.cell? ⟨g2, o2 + k * 11 + 10, none⟩ = some (.int .i64 nxt)) (first | exact ⟨d0, d1, d2, d3, d4, d5, d6, d7, d8, d9, d10, e0, e1, e2, e3, e4, e5, e6, e7, e8, e9, e10⟩ | (obtain ⟨p0, p1, p2, p3, p4, p5, p6, p7, p8, p9, p10⟩ := AtN.rc (o := o1 + k * 11) (AtN.below (w := wr.drew) (unhide hA1) hb1 hgw1); obtain ⟨q0, q1, q2, q3, q4, q5, q6, q7, q8, q9, q10⟩ := AtN.rc (o := o2 + k * 11) (AtN.below (w := wr.drew) (unhide hA2) hb1 hgw2); exact ⟨p0, p1, p2, p3, p4, p5, p6, p7, p8, p9, p10, q0, q1, q2, q3, q4, q5, q6, q7, q8, q9, q10⟩)) (first | (go_at_call 21; refine ((unhide C) _).mono ?_; rintro e w1 ⟨rfl, hb1⟩))
      go_wp2
      go_roundw
      case rel => exact ⟨k + 1, by omega, by go_num, hb.drew.trans (hb1.mono hss)⟩
      case measure => simp [intOf]; omega
    · go_wp2
      go_ret
      exact ⟨rfl, hb⟩
end Go.Proofs.YtkbbcjnickgfjabGreat

/- The laws' marks on rows of records of the call's own, and that they are found. -/
namespace Go.Proofs.YtkbbcjnickgfjabGreat
open Go.RowKit
def mkR0 (q : Nat) : Rc := ⟨(q : Int), mkS (q + 1), ((q + 2 : Nat) : Int), ⟨((q + 3 : Nat) : Int), ((q + 4 : Nat) : Int), mb3 (q + 5), mb3 (q + 6), mb3 (q + 7), mb3 (q + 8), mkS (q + 9), ((q + 10 : Nat) : Int)⟩⟩
theorem mkR0_is (q : Nat) : (⟨(q : Int), mkS (q + 1), (q : Int) + 1 + 1, ⟨(q : Int) + 1 + 1 + 1, (q : Int) + 1 + 1 + 1 + 1, (((q : Int) + 1 + 1 + 1 + 1 + 1) % 3 == 0), (((q : Int) + 1 + 1 + 1 + 1 + 1 + 1) % 3 == 0), (((q : Int) + 1 + 1 + 1 + 1 + 1 + 1 + 1) % 3 == 0), (((q : Int) + 1 + 1 + 1 + 1 + 1 + 1 + 1 + 1) % 3 == 0), mkS (q + 9), (q : Int) + 1 + 1 + 1 + 1 + 1 + 1 + 1 + 1 + 1 + 1⟩⟩ : Rc) = mkR0 q := by
  unfold mkR0 mb3
  have e : ∀ z : Int, (z == 0) = decide (z = 0) := fun z => by rw [Bool.eq_iff_iff]; simp
  simp only [e]
  congr 1
def mkR1 (k i : Nat) : Rc := mkR0 (k + 11 * i)
def mkR (k n : Nat) : List Rc := (List.range n).map (mkR1 k)
theorem mkR_len (k n : Nat) : (mkR k n).length = n := by unfold mkR; simp
theorem mkR_succ (k n : Nat) : mkR k (n + 1) = mkR k n ++ [mkR1 k n] := by unfold mkR; rw [List.range_succ, List.map_append]; rfl
theorem mkR_at (k n i : Nat) (h : i < n) : (mkR k n)[i]? = some (mkR1 k i) := by unfold mkR; simp [h]
theorem mkR_set (k i : Nat) (fs : List Rc) (h : i < fs.length) : (mkR k i ++ fs.drop i).set i (mkR1 k i) = mkR k (i + 1) ++ fs.drop (i + 1) := by
  rw [List.drop_eq_getElem_cons h, List.set_append_right _ _ (by rw [mkR_len]; exact Nat.le_refl _), mkR_len, Nat.sub_self, List.set_cons_zero, mkR_succ]
  simp
theorem OwnN.r0 {w : World} {base g n c : Nat} {e : TypeId} {xs : List Rc} (h : OwnN rcY w base e (.slice (some ⟨g, 0, none⟩) n c) xs) {k : Nat} {x : Rc} (hk : xs[k]? = some x) (z : Int) :
    OwnN rcY (w.setCell ⟨g, k * 11, none⟩ (.int .i64 z)) base e (.slice (some ⟨g, 0, none⟩) n c) (xs.set k { x with kd := z }) :=
  h.set1 hk { x with kd := z } 0 (.int .i64 z) (by decide) rfl
theorem OwnN.r1 {w : World} {base g n c : Nat} {e : TypeId} {xs : List Rc} (h : OwnN rcY w base e (.slice (some ⟨g, 0, none⟩) n c) xs) {k : Nat} {x : Rc} (hk : xs[k]? = some x) (z : ByteArray) :
    OwnN rcY (w.setCell ⟨g, k * 11 + 1, none⟩ (.string z)) base e (.slice (some ⟨g, 0, none⟩) n c) (xs.set k { x with tx := z }) :=
  h.set1 hk { x with tx := z } 1 (.string z) (by decide) rfl
theorem OwnN.r2 {w : World} {base g n c : Nat} {e : TypeId} {xs : List Rc} (h : OwnN rcY w base e (.slice (some ⟨g, 0, none⟩) n c) xs) {k : Nat} {x : Rc} (hk : xs[k]? = some x) (z : Int) :
    OwnN rcY (w.setCell ⟨g, k * 11 + 2, none⟩ (.int .i64 z)) base e (.slice (some ⟨g, 0, none⟩) n c) (xs.set k { x with nm := z }) :=
  h.set1 hk { x with nm := z } 2 (.int .i64 z) (by decide) rfl
theorem OwnN.r3 {w : World} {base g n c : Nat} {e : TypeId} {xs : List Rc} (h : OwnN rcY w base e (.slice (some ⟨g, 0, none⟩) n c) xs) {k : Nat} {x : Rc} (hk : xs[k]? = some x) (z : Int) :
    OwnN rcY (w.setCell ⟨g, k * 11 + 3, none⟩ (.int .i64 z)) base e (.slice (some ⟨g, 0, none⟩) n c) (xs.set k { x with th := { x.th with id := z } }) :=
  h.set1 hk { x with th := { x.th with id := z } } 3 (.int .i64 z) (by decide) rfl
theorem OwnN.r4 {w : World} {base g n c : Nat} {e : TypeId} {xs : List Rc} (h : OwnN rcY w base e (.slice (some ⟨g, 0, none⟩) n c) xs) {k : Nat} {x : Rc} (hk : xs[k]? = some x) (z : Int) :
    OwnN rcY (w.setCell ⟨g, k * 11 + 4, none⟩ (.int .i64 z)) base e (.slice (some ⟨g, 0, none⟩) n c) (xs.set k { x with th := { x.th with kind := z } }) :=
  h.set1 hk { x with th := { x.th with kind := z } } 4 (.int .i64 z) (by decide) rfl
theorem OwnN.r5 {w : World} {base g n c : Nat} {e : TypeId} {xs : List Rc} (h : OwnN rcY w base e (.slice (some ⟨g, 0, none⟩) n c) xs) {k : Nat} {x : Rc} (hk : xs[k]? = some x) (z : Bool) :
    OwnN rcY (w.setCell ⟨g, k * 11 + 5, none⟩ (.bool z)) base e (.slice (some ⟨g, 0, none⟩) n c) (xs.set k { x with th := { x.th with hid := z } }) :=
  h.set1 hk { x with th := { x.th with hid := z } } 5 (.bool z) (by decide) rfl
theorem OwnN.r6 {w : World} {base g n c : Nat} {e : TypeId} {xs : List Rc} (h : OwnN rcY w base e (.slice (some ⟨g, 0, none⟩) n c) xs) {k : Nat} {x : Rc} (hk : xs[k]? = some x) (z : Bool) :
    OwnN rcY (w.setCell ⟨g, k * 11 + 6, none⟩ (.bool z)) base e (.slice (some ⟨g, 0, none⟩) n c) (xs.set k { x with th := { x.th with fix := z } }) :=
  h.set1 hk { x with th := { x.th with fix := z } } 6 (.bool z) (by decide) rfl
theorem OwnN.r7 {w : World} {base g n c : Nat} {e : TypeId} {xs : List Rc} (h : OwnN rcY w base e (.slice (some ⟨g, 0, none⟩) n c) xs) {k : Nat} {x : Rc} (hk : xs[k]? = some x) (z : Bool) :
    OwnN rcY (w.setCell ⟨g, k * 11 + 7, none⟩ (.bool z)) base e (.slice (some ⟨g, 0, none⟩) n c) (xs.set k { x with th := { x.th with sgn := z } }) :=
  h.set1 hk { x with th := { x.th with sgn := z } } 7 (.bool z) (by decide) rfl
theorem OwnN.r8 {w : World} {base g n c : Nat} {e : TypeId} {xs : List Rc} (h : OwnN rcY w base e (.slice (some ⟨g, 0, none⟩) n c) xs) {k : Nat} {x : Rc} (hk : xs[k]? = some x) (z : Bool) :
    OwnN rcY (w.setCell ⟨g, k * 11 + 8, none⟩ (.bool z)) base e (.slice (some ⟨g, 0, none⟩) n c) (xs.set k { x with th := { x.th with wrp := z } }) :=
  h.set1 hk { x with th := { x.th with wrp := z } } 8 (.bool z) (by decide) rfl
theorem OwnN.r9 {w : World} {base g n c : Nat} {e : TypeId} {xs : List Rc} (h : OwnN rcY w base e (.slice (some ⟨g, 0, none⟩) n c) xs) {k : Nat} {x : Rc} (hk : xs[k]? = some x) (z : ByteArray) :
    OwnN rcY (w.setCell ⟨g, k * 11 + 9, none⟩ (.string z)) base e (.slice (some ⟨g, 0, none⟩) n c) (xs.set k { x with th := { x.th with val := z } }) :=
  h.set1 hk { x with th := { x.th with val := z } } 9 (.string z) (by decide) rfl
theorem OwnN.r10 {w : World} {base g n c : Nat} {e : TypeId} {xs : List Rc} (h : OwnN rcY w base e (.slice (some ⟨g, 0, none⟩) n c) xs) {k : Nat} {x : Rc} (hk : xs[k]? = some x) (z : Int) :
    OwnN rcY (w.setCell ⟨g, k * 11 + 10, none⟩ (.int .i64 z)) base e (.slice (some ⟨g, 0, none⟩) n c) (xs.set k { x with th := { x.th with nxt := z } }) :=
  h.set1 hk { x with th := { x.th with nxt := z } } 10 (.int .i64 z) (by decide) rfl
end Go.Proofs.YtkbbcjnickgfjabGreat

/- The law of a book's chain, over the loaded program. -/
namespace Go.Proofs.YtkbbcjnickgfjabGreat
open Go.RowKit
set_option maxRecDepth 20000 in
set_option maxHeartbeats 6400000 in
theorem lawChainOk_any (b : Bk) (l : List Rc) (v u : Value) (w : World) (hr : RdBk w v b) (hz : BkTx b) (hl : RdN rcY w u l) (h1 : l.length ≤ maxLen) (h2 : ∀ r ∈ l, r.tx.size ≤ maxLen ∧ r.th.val.size ≤ maxLen) (CI : l.length ≤ 1048576 → (∀ r ∈ l, r.tx.size ≤ 1048576) → ∀ (v u : Value) (W : World), RdBk W v b → RdN rcY W u l → Calls Tryz.prog 9 #[v, u] W fun e w' => e = .returned (.bool (chnB9 b l)) ∧ Below W.heap.size W w') :
    Calls Tryz.prog 3 #[v, u] w fun e w' => e = .returned (.bool true) ∧ Below w.heap.size w w' := by
  obtain ⟨a, n, c, rfl, hn, hu⟩ := hr.open
  subst hn
  obtain ⟨al, cl, rfl⟩ := hl.shape
  have CZ : Hid (∀ W : World, RdN thY W (.slice a b.ths.length c) b.ths → Calls Tryz.prog 4 #[.agg #[.string b.wd, .int .i64 b.tr, .slice a b.ths.length c, .int .i64 b.la, .string b.ch, .int .i64 b.ct], .int .i64 1048576] W fun e w' => (∃ z : Int, e = .returned (.int .i64 z) ∧ (z < 0 ∨ z = 1048576 - (bkSz b : Int) ∧ 0 ≤ z)) ∧ Below W.heap.size W w') := fun W h => szBook_any b _ 1048576 (by omega) W ⟨_, rfl, h⟩ hz
  have CR : Hid (∀ (L : Int), 0 ≤ L ∧ L ≤ 1048576 → ∀ W : World, RdN rcY W (.slice al l.length cl) l → Calls Tryz.prog 5 #[.slice al l.length cl, .int .i64 L] W fun e w' => (∃ z : Int, e = .returned (.int .i64 z) ∧ (z < 0 ∨ (0 ≤ z ∧ l.length ≤ 1048576 ∧ ∀ x ∈ l, x.tx.size ≤ 1048576))) ∧ Below W.heap.size W w') := fun L hL W h => szRecS_any l _ L hL W h h1 h2
  have HU := hide hu
  have HL := hide hl
  have HI := hide CI
  clear hr hu hl CI h1 h2
  obtain ⟨W0, hW, k0, T0, hs1⟩ := one_cb w #[.string b.wd, .int .i64 b.tr, .slice a b.ths.length c, .int .i64 b.la, .string b.ch, .int .i64 b.ct] 24
  replace k0 := hide k0; replace T0 := hide T0
  go_enter Tryz.func3, Tryz.ntmps3
  go_upto_region 1 with fail
  first | rw [hW] | skip
  clear hW hs1
  go_upto_region 3 with (first
    | (refine wpList_load_row (P := Tryz.prog) rfl 24 (.tmp 2) rfl w.heap.size rfl 24 #[.string b.wd, .int .i64 b.tr, .slice a b.ths.length c, .int .i64 b.la, .string b.ch, .int .i64 b.ct] (0, 0) _ (unhide k0) Tryz.underlying24 rfl rfl ?_)
    | (go_at_call 4; refine (unhide CZ _ ((unhide HU).below (unhide T0))).mono ?_; rintro e w1 ⟨⟨z, rfl, hzz⟩, hb1⟩)
    | fail)
  have k11 := hide ((unhide k0).step hb1)
  have T12 := hide ((unhide T0).trans (hb1.mono (unhide T0).size))
  clear k0 T0 hb1
  clear CZ
  rcases hzz with hzz | ⟨hzz, hz0⟩
  · clear HI CR
    go_wp2
    go_ret
    exact ⟨rfl, unhide T12⟩
  have CR2 := hide (unhide CR z (by omega))
  have hz2 : ¬ z < 0 := by omega
  have hbs : bkSz b ≤ 1048576 := by omega
  replace hzz := hide hzz
  clear CR hz0
  go_upto_region 6 with (first
    | (go_at_call 5; refine (unhide CR2 _ ((unhide HL).below (unhide T12))).mono ?_; rintro e w2 ⟨⟨z2, rfl, hzr⟩, hb2⟩)
    | fail)
  have k13 := hide ((unhide k11).step hb2)
  have T14 := hide ((unhide T12).trans (hb2.mono (unhide T12).size))
  clear k11 T12 hb2
  clear CR2
  rcases hzr with hzr | ⟨hzr, hln, htx⟩
  · clear HI
    go_wp2
    go_ret
    exact ⟨rfl, unhide T14⟩
  have hz3 : ¬ z2 < 0 := by omega
  clear hzz hzr hz2 hz
  have hnb : b.ths.length ≤ 1048576 := by unfold bkSz at hbs; omega
  have CS : Hid (∀ a1 c1 a2 c2 (W : World), RdN thY W (.slice a1 b.ths.length c1) b.ths → RdN rcY W (.slice a2 l.length c2) l → Calls Tryz.prog 6 #[.agg #[.string b.wd, .int .i64 b.tr, .slice a1 b.ths.length c1, .int .i64 b.la, .string b.ch, .int .i64 b.ct], .slice a2 l.length c2] W fun e w' => e = .returned (.bool (chnB9 b l)) ∧ Below W.heap.size W w') := fun a1 c1 a2 c2 W h h' => specChainOk_any b l (bkv b (.slice a1 b.ths.length c1)) (.slice a2 l.length c2) W ⟨_, rfl, h⟩ h' hln
  have CI : Hid (∀ a1 c1 a2 c2 (W : World), RdN thY W (.slice a1 b.ths.length c1) b.ths → RdN rcY W (.slice a2 l.length c2) l → Calls Tryz.prog 9 #[.agg #[.string b.wd, .int .i64 b.tr, .slice a1 b.ths.length c1, .int .i64 b.la, .string b.ch, .int .i64 b.ct], .slice a2 l.length c2] W fun e w' => e = .returned (.bool (chnB9 b l)) ∧ Below W.heap.size W w') := fun a1 c1 a2 c2 W h h' => unhide HI hln htx (bkv b (.slice a1 b.ths.length c1)) (.slice a2 l.length c2) W ⟨_, rfl, h⟩ h'
  have CT : Hid (∀ a c (W : World), RdN thY W (.slice a b.ths.length c) b.ths → Calls Tryz.prog 7 #[.agg #[.string b.wd, .int .i64 b.tr, .slice a b.ths.length c, .int .i64 b.la, .string b.ch, .int .i64 b.ct]] W fun e w' => (∃ a c, e = .returned (.agg #[.string b.wd, .int .i64 b.tr, .slice a b.ths.length c, .int .i64 b.la, .string b.ch, .int .i64 b.ct]) ∧ OwnN thY w' W.heap.size 48 (.slice a b.ths.length c) b.ths) ∧ Below W.heap.size W w') := fun a c W h => toBook_any b _ W ⟨_, rfl, h⟩ hnb
  have CQ : Hid (∀ (W : World), RdN rcY W (.slice al l.length cl) l → Calls Tryz.prog 8 #[.slice al l.length cl] W fun e w' => (∃ a c, e = .returned (.slice a l.length c) ∧ OwnN rcY w' W.heap.size 50 (.slice a l.length c) l) ∧ Below W.heap.size W w') := fun W h => toRecS_any l _ W h hln
  have CEr : Hid (∀ a1 c1 a2 c2 (W : World), RdN rcY W (.slice a1 l.length c1) l → RdN rcY W (.slice a2 l.length c2) l → Calls Tryz.prog 11 #[.slice a1 l.length c1, .slice a2 l.length c2] W fun e w' => e = .returned (.bool true) ∧ Below W.heap.size W w') := fun a1 c1 a2 c2 W h1 h2 => eqRecS_any l _ _ W h1 h2 (by omega)
  have CEb : Hid (∀ a1 c1 a2 c2 (W : World), RdN thY W (.slice a1 b.ths.length c1) b.ths → RdN thY W (.slice a2 b.ths.length c2) b.ths → Calls Tryz.prog 10 #[.agg #[.string b.wd, .int .i64 b.tr, .slice a1 b.ths.length c1, .int .i64 b.la, .string b.ch, .int .i64 b.ct], .agg #[.string b.wd, .int .i64 b.tr, .slice a2 b.ths.length c2, .int .i64 b.la, .string b.ch, .int .i64 b.ct]] W fun e w' => e = .returned (.bool true) ∧ Below W.heap.size W w') := fun a1 c1 a2 c2 W h1 h2 => eqBook_any b _ _ W ⟨_, rfl, h1⟩ ⟨_, rfl, h2⟩ (by omega)
  clear HI htx hbs
  replace hln := hide hln; replace hnb := hide hnb
  generalize chnB9 b l = rb at *
  go_upto_region 9 with (first
    | (refine wpList_load_row (P := Tryz.prog) rfl 24 (.tmp 2) rfl w.heap.size rfl 24 #[.string b.wd, .int .i64 b.tr, .slice a b.ths.length c, .int .i64 b.la, .string b.ch, .int .i64 b.ct] (0, 0) _ (unhide k13) Tryz.underlying24 rfl rfl ?_)
    | (go_at_call 7; refine (unhide CT _ _ _ ((unhide HU).below (unhide T14))).mono ?_; rintro e w21 ⟨⟨a21, c21, rfl, q21⟩, hb21⟩)
    | (go_at_call 8; refine (unhide CQ _ ((unhide HL).below ((unhide T14).trans (hb21.mono (unhide T14).size)))).mono ?_; rintro e w22 ⟨⟨a22, c22, rfl, q22⟩, hb22⟩; have m22 := hb21.trans (hb22.mono hb21.size))
    | (go_at_call 6; refine (unhide CS _ _ _ _ _ (q21.below hb22).rd q22.rd).mono ?_; rintro e w23 ⟨rfl, hb23⟩; have m23 := m22.trans (hb23.mono m22.size); clear q21 q22 hb21 hb22 hb23 m22)
    | fail)
  have k15 := hide ((unhide k13).step m23)
  have T16 := hide ((unhide T14).trans (m23.mono (unhide T14).size))
  clear k13 T14 m23
  obtain ⟨bs17, hbs17⟩ : ∃ z, z = w23.heap.size := ⟨_, rfl⟩
  have wb_bs17 : w.heap.size ≤ bs17 := by rw [hbs17]; exact (unhide T16).size
  replace hbs17 := hide hbs17
  go_upto_region 10 with (first
    | (refine wpList_load_row (P := Tryz.prog) rfl 24 (.tmp 2) rfl w.heap.size rfl 24 #[.string b.wd, .int .i64 b.tr, .slice a b.ths.length c, .int .i64 b.la, .string b.ch, .int .i64 b.ct] (0, 0) _ (unhide k15) Tryz.underlying24 rfl rfl ?_)
    | (go_at_call 7; refine (unhide CT _ _ _ ((unhide HU).below (unhide T16))).mono ?_; rintro e w20 ⟨⟨a18, c19, rfl, o21⟩, hb22⟩; have HGm := hide (CB.new w20 #[.string ⟨#[]⟩, .int .i64 0, .slice none 0 0, .int .i64 0, .string ⟨#[]⟩, .int .i64 0] 31))
    | (refine wpList_store_row (P := Tryz.prog) rfl 31 (.tmp 7) (.tmp 26) rfl w20.heap.size #[.string b.wd, .int .i64 b.tr, .slice a18 b.ths.length c19, .int .i64 b.la, .string b.ch, .int .i64 b.ct] rfl rfl 31 _ (unhide HGm) rfl rfl (bkc_one _ _ _ _ _ _ _ _) ?_)
    | fail)
  have hGm := setRow_heap _ w20.heap.size _ #[.string b.wd, .int .i64 b.tr, .slice a18 b.ths.length c19, .int .i64 b.la, .string b.ch, .int .i64 b.ct] 31 (0, 0) (unhide HGm)
  have hbM := Go.below_setRow ((Below.refl w20.heap.size w20).alloc (Nat.le_refl _) (.cells #[.string ⟨#[]⟩, .int .i64 0, .slice none 0 0, .int .i64 0, .string ⟨#[]⟩, .int .i64 0] 31)) (Nat.le_refl _) #[.string b.wd, .int .i64 b.tr, .slice a18 b.ths.length c19, .int .i64 b.la, .string b.ch, .int .i64 b.ct]
  have hbN := hb22.trans (hbM.mono hb22.size)
  obtain ⟨g23, hgm⟩ : ∃ z, z = w20.heap.size := ⟨_, rfl⟩
  have l24 : bs17 ≤ g23 := by rw [hgm, unhide hbs17]; exact hb22.size
  refine wp_gen (fun V => CB V w20.heap.size 31 #[.string b.wd, .int .i64 b.tr, .slice a18 b.ths.length c19, .int .i64 b.la, .string b.ch, .int .i64 b.ct] ∧ CB V w.heap.size 24 #[.string b.wd, .int .i64 b.tr, .slice a b.ths.length c, .int .i64 b.la, .string b.ch, .int .i64 b.ct] ∧ OwnN thY V bs17 48 (.slice a18 b.ths.length c19) b.ths ∧ Below w.heap.size w V) ⟨hGm, (unhide k15).step hbN, (by rw [unhide hbs17]; exact o21.below hbM), (unhide T16).trans (hbN.mono (unhide T16).size)⟩ ?_
  clear k15 T16 hGm hbM hbN hb22 o21 HGm
  rw [← hgm]
  replace hgm := hide hgm
  rintro V27 ⟨k28, k29, o30, T31⟩
  replace k28 := hide k28
  replace k29 := hide k29
  replace o30 := hide o30
  replace T31 := hide T31
  clear hgm
  obtain ⟨bs32, hbs32⟩ : ∃ z, z = V27.heap.size := ⟨_, rfl⟩
  have wb_bs32 : w.heap.size ≤ bs32 := by rw [hbs32]; exact (unhide T31).size
  have sp_x0_bs32 : ∀ k, ((.slice a18 b.ths.length c19) : Value).ownBlock = some k → k < bs32 := fun k hk => by rw [hbs32]; exact ((unhide o30).lt k hk).2
  replace hbs32 := hide hbs32
  go_upto_region 11 with (first
    | (go_at_call 8; refine (unhide CQ _ ((unhide HL).below (unhide T31))).mono ?_; rintro e w35 ⟨⟨a33, c34, rfl, o36⟩, hb37⟩)
    | fail)
  have o38 := hide (show OwnN rcY w35 bs32 50 (.slice a33 l.length c34) l by rw [unhide hbs32]; exact o36)
  have sz_bs32 : bs32 ≤ w35.heap.size := by rw [unhide hbs32]; exact hb37.size
  clear o36
  have k39 := hide ((unhide k28).step hb37)
  have k40 := hide ((unhide k29).step hb37)
  have o41 := hide ((unhide o30).below hb37)
  have T42 := hide ((unhide T31).trans (hb37.mono (unhide T31).size))
  clear k28 k29 o30 T31 hb37
  go_upto_region 12 with (first
    | (refine wpList_load_row (P := Tryz.prog) rfl 31 (.tmp 7) rfl g23 rfl 31 #[.string b.wd, .int .i64 b.tr, .slice a18 b.ths.length c19, .int .i64 b.la, .string b.ch, .int .i64 b.ct] (0, 0) _ (unhide k39) Tryz.underlying31 rfl rfl ?_)
    | (go_at_call 9; refine (unhide CI _ _ _ _ _ (unhide o41).rd (unhide o38).rd).mono ?_; rintro e w31 ⟨rfl, hb31⟩)
    | fail)
  have k43 := hide ((unhide k39).step hb31)
  have k44 := hide ((unhide k40).step hb31)
  have o45 := hide ((unhide o38).below hb31)
  have o46 := hide ((unhide o41).below hb31)
  have T47 := hide ((unhide T42).trans (hb31.mono (unhide T42).size))
  clear k39 k40 o38 o41 T42 hb31
  go_upto_region 14 with fail
  refine wp_region_held_drew (S := fun V => Below w31.heap.size w31 V) (by kernel_rfl) (Below.refl _ w31).drew (fun hHeld => ?_)
  refine held_take (i := 0) 35 (v := .agg #[.string b.wd, .int .i64 b.tr, .slice a18 b.ths.length c19, .int .i64 b.la, .string b.ch, .int .i64 b.ct]) rfl rfl (by kernel_rfl) (by kernel_rfl) (by kernel_rfl) (fun _ _ _ h => h) (Or.inl ⟨by rfl, fun V hS => by have kx := (unhide k43).step hS; have x0 := kx.cell 0 (v := .string b.wd) rfl; have x1 := kx.cell 1 (v := .int .i64 b.tr) rfl; have x2 := kx.cell 2 (v := .slice a18 b.ths.length c19) rfl; have x3 := kx.cell 3 (v := .int .i64 b.la) rfl; have x4 := kx.cell 4 (v := .string b.ch) rfl; have x5 := kx.cell 5 (v := .int .i64 b.ct) rfl; go_simp⟩) hHeld ?_
  simp only [Act.put, List.setIfInBounds_toArray, List.set_cons_zero, List.set_cons_succ]
  refine held_take (i := 1) 36 (v := .agg #[.string b.wd, .int .i64 b.tr, .slice a b.ths.length c, .int .i64 b.la, .string b.ch, .int .i64 b.ct]) rfl rfl (by kernel_rfl) (by kernel_rfl) (by kernel_rfl) (fun _ _ _ h => h) (Or.inl ⟨by rfl, fun V hS => by have kx := (unhide k44).step hS; have x0 := kx.cell 0 (v := .string b.wd) rfl; have x1 := kx.cell 1 (v := .int .i64 b.tr) rfl; have x2 := kx.cell 2 (v := .slice a b.ths.length c) rfl; have x3 := kx.cell 3 (v := .int .i64 b.la) rfl; have x4 := kx.cell 4 (v := .string b.ch) rfl; have x5 := kx.cell 5 (v := .int .i64 b.ct) rfl; go_simp⟩) hHeld ?_
  simp only [Act.put, List.setIfInBounds_toArray, List.set_cons_zero, List.set_cons_succ]
  have m0 : Below w31.heap.size w31 w31.drew := (Below.refl _ w31).drew
  refine wpAnyH_ready (rs := [2]) (by kernel_rfl) (by simp) ?_
  refine AllReadyH.cons rfl (fun K hK => ?_) AllReadyH.nil
  go_simp
  refine (unhide CT _ _ _ ((unhide HU).below ((unhide T47).trans (m0.mono (unhide T47).size)))).mono ?_
  rintro e w48 ⟨⟨a49, c50, rfl, q51⟩, hb52⟩
  refine hK.out _ _ (hHeld.trans (hb52.mono hHeld.size)) (fun hHeld => ?_)
  have m53 := m0.trans (hb52.mono m0.size)
  have m54 := Below.refl w48.heap.size w48
  clear hK K
  refine wpAnyH_ready (rs := [3]) (by kernel_rfl) (by simp) ?_
  refine AllReadyH.cons rfl (fun K hK => ?_) AllReadyH.nil
  go_simp
  refine (unhide CEb _ _ _ _ _ ((unhide o46).below m53).rd ((q51).below m54).rd).mono ?_
  rintro e w55 ⟨rfl, hb59⟩
  refine hK.out _ _ (hHeld.trans (hb59.mono hHeld.size)) (fun hHeld => ?_)
  have m60 := m53.trans (hb59.mono m53.size)
  have m61 := m54.trans (hb59.mono m54.size)
  have m62 := Below.refl w55.heap.size w55
  clear hK K
  refine held_take (i := 4) 39 (v := .bool false) rfl rfl (by kernel_rfl) (by kernel_rfl) (by kernel_rfl) (fun _ _ _ h => h) (Or.inl ⟨by rfl, fun V hS => by go_simp⟩) hHeld ?_
  simp only [Act.put, List.setIfInBounds_toArray, List.set_cons_zero, List.set_cons_succ]
  refine wpAnyH_done (by kernel_rfl) ?_ _
  go_upto_region 16 with fail
  refine wp_gen (fun V => CB V g23 31 #[.string b.wd, .int .i64 b.tr, .slice a18 b.ths.length c19, .int .i64 b.la, .string b.ch, .int .i64 b.ct] ∧ CB V w.heap.size 24 #[.string b.wd, .int .i64 b.tr, .slice a b.ths.length c, .int .i64 b.la, .string b.ch, .int .i64 b.ct] ∧ OwnN rcY V bs32 50 (.slice a33 l.length c34) l ∧ OwnN thY V bs17 48 (.slice a18 b.ths.length c19) b.ths ∧ Below w.heap.size w V) ⟨(unhide k43).step hHeld, (unhide k44).step hHeld, (unhide o45).below hHeld, (unhide o46).below hHeld, (unhide T47).trans (hHeld.mono (unhide T47).size)⟩ ?_
  clear k43 k44 o45 o46 T47 hHeld m0 m60 m61 m62
  rintro V63 ⟨k64, k65, o66, o67, T68⟩
  replace k64 := hide k64
  replace k65 := hide k65
  replace o66 := hide o66
  replace o67 := hide o67
  replace T68 := hide T68
  go_upto_region 18 with (first
    | (go_at_call 8; refine (unhide CQ _ ((unhide HL).below (unhide T68))).mono ?_; rintro e w71 ⟨⟨a72, c73, rfl, q69⟩, hb70⟩)
    | (go_at_call 11; refine (unhide CEr _ _ _ _ _ ((unhide o66).below hb70).rd q69.rd).mono ?_; rintro e w33 ⟨rfl, hb33⟩; have hb34 := hb70.trans (hb33.mono hb70.size); clear hb33 hb70 q69)
    | fail)
  have k74 := hide ((unhide k64).step hb34)
  have k75 := hide ((unhide k65).step hb34)
  have o76 := hide ((unhide o66).below hb34)
  have o77 := hide ((unhide o67).below hb34)
  have T78 := hide ((unhide T68).trans (hb34.mono (unhide T68).size))
  clear k64 k65 o66 o67 T68 hb34
  clear CS CI CT CEb CQ CEr
  go_wp2
  go_ret
  exact ⟨rfl, unhide T78⟩
end Go.Proofs.YtkbbcjnickgfjabGreat

