/- Merged: BkE5, ThI2, BkI3, BkI4, BkI5, BkE6. -/
import Derived.Test.YtkbbcjnickgfjabGreatMgChainOk1
import Derived.Test.YtkbbcjnickgfjabGreatMgChainOk2
import Derived.Test.YtkbbcjnickgfjabGreatMgChainOk3
import Derived.Test.YtkbbcjnickgfjabGreatMgChainOk4
import Derived.Test.YtkbbcjnickgfjabGreatMgChainOk5
import Derived.Test.YtkbbcjnickgfjabGreatMgChainOk6
import Derived.Test.YtkbbcjnickgfjabGreatMgChainOk7
import Derived.Test.YtkbbcjnickgfjabGreatMgChainOk8
import Derived.Test.YtkbbcjnickgfjabGreatMgChainOk9
import Derived.Deep.DeepCutAuto
import Derived.Deep.QuietTactic
import Derived.BigQuiet
/- The project's books: a thing is put into one, over the loaded program. -/
namespace Go.Proofs.YtkbbcjnickgfjabGreat
open Go.RowKit
theorem CB.drew9 {w : World} {g : Nat} {T : TypeId} {cs : Array Value} (h : CB w g T cs) : CB w.drew g T cs := h
set_option maxRecDepth 20000 in
set_option maxHeartbeats 4000000 in
theorem bkPut_any (b : Bk) (x : Th) (g base : Nat) (w : World) (hA : BkAt w g base 31 48 b) (hbg : base ≤ g) (hl : b.ths.length ≤ 1000000) (hla : 0 ≤ b.la ∧ b.la ≤ 1000000) (hv : ∀ y ∈ b.ths, y.val.size ≤ 4000000) :
    Calls Tryz.prog 72 #[.pointer (some ⟨g, 0, none⟩), .agg (thC x)] w fun e w' =>
      ((∃ (k : Nat) (y : Th), b.ths[k]? = some y ∧ y.id = x.id ∧ (∀ z ∈ b.ths.take k, z.id ≠ x.id) ∧ e = .returned (.bool (becB y x)) ∧ BkAt w' g base 31 48 { b with ths := b.ths.set k x }) ∨
       ((∀ z ∈ b.ths, z.id ≠ x.id) ∧ ((e = .returned (.bool false) ∧ ¬ (x.id = b.la + 1 ∧ ¬ b.ths.length = 8)) ∨ (e = .returned (.bool true) ∧ (x.id = b.la + 1 ∧ ¬ b.ths.length = 8) ∧ BkAt w' g base 31 48 { b with ths := b.ths ++ [x], la := x.id })))) ∧ Below base w w' := by
  obtain ⟨i0, hi, hz0, hz1, hz2⟩ := info_parts infoThing
  obtain ⟨a, c, hX, ho⟩ := hA
  have CP := fun W (h : RdBk W (bkv b (.slice a b.ths.length c)) b) => placeOf_any b x.id (bkv b (.slice a b.ths.length c)) W h (by omega)
  have CM := fun (y : Th) (hy : y ∈ b.ths) W => mayBecome_any y x (hv y hy) W
  obtain ⟨wd, tr, ths, la, ch, ct⟩ := b
  dsimp only at hl hla hv CP CM hX ho ⊢
  simp only [bkv, bkc] at CP hX
  obtain ⟨x0, hx0⟩ : ∃ z, z = x := ⟨_, rfl⟩
  obtain ⟨id, kind, hid, fix, sgn, wrp, val, nxt⟩ := x
  rw [← hx0] at CM
  have hxe : thC x0 = #[.int .i64 id, .int .i64 kind, .bool hid, .bool fix, .bool sgn, .bool wrp, .string val, .int .i64 nxt] := by rw [hx0]; rfl
  simp only [hxe] at CM
  clear hxe
  dsimp only at CP ⊢
  simp only [thC]
  replace hx0 := hide hx0
  obtain ⟨bx, hbx⟩ : ∃ z, z = w.heap.size := ⟨_, rfl⟩
  obtain ⟨W, hW, hY, hB, hs1⟩ := one_cb w #[.int .i64 id, .int .i64 kind, .bool hid, .bool fix, .bool sgn, .bool wrp, .string val, .int .i64 nxt] 48
  have hgl := hX.lt
  have hrow := ho.lt
  have hXW := hX.step hB
  have hoW := ho.below hB
  have HBb := hide (show Below base w W from hB.mono (by omega))
  have hHS := hB.size
  rw [← hbx] at hY hs1 hgl hrow
  have hbasebx : base ≤ bx := by omega
  replace CP := hide CP; replace CM := hide CM; replace hv := hide hv
  clear hX ho hB
  go_enter Tryz.func72, Tryz.ntmps72
  go_upto_region 1 with fail
  first | rw [hW] | skip
  rw [← hbx]
  clear hW
  have hbx2 := hide hbx
  clear hbx
  refine wp_region_held_drew (S := fun V => CB V g 31 #[.string wd, .int .i64 tr, .slice a ths.length c, .int .i64 la, .string ch, .int .i64 ct] ∧ CB V bx 48 #[.int .i64 id, .int .i64 kind, .bool hid, .bool fix, .bool sgn, .bool wrp, .string val, .int .i64 nxt] ∧ Below W.heap.size W V) (by kernel_rfl) ⟨hXW, hY, (Below.refl _ W).drew⟩ (fun hHeld => ?_)
  refine held_take (i := 0) 7 (v := .pointer (some ⟨g, 0, none⟩)) rfl rfl (by kernel_rfl) (by kernel_rfl) (by kernel_rfl) (fun _ _ _ h => h) (Or.inl ⟨by rfl, fun V hS => by go_simp⟩) hHeld ?_
  simp only [Act.put, List.setIfInBounds_toArray, List.set_cons_zero, List.set_cons_succ]
  refine held_take (i := 1) 8 (v := .pointer (some ⟨g, 0, none⟩)) rfl rfl (by kernel_rfl) (by kernel_rfl) (by kernel_rfl) (fun _ _ _ h => h) (Or.inl ⟨by rfl, fun V hS => by go_simp⟩) hHeld ?_
  simp only [Act.put, List.setIfInBounds_toArray, List.set_cons_zero, List.set_cons_succ]
  refine held_take (i := 2) 9 (v := .agg #[.string wd, .int .i64 tr, .slice a ths.length c, .int .i64 la, .string ch, .int .i64 ct]) rfl rfl (by kernel_rfl) (by kernel_rfl) (by kernel_rfl) (fun _ _ _ h => h) (Or.inl ⟨by rfl, fun V hS => by obtain ⟨hS1, _, _⟩ := hS; have q0 := hS1.cell 0 (v := .string wd) rfl; have q1 := hS1.cell 1 (v := .int .i64 tr) rfl; have q2 := hS1.cell 2 (v := .slice a ths.length c) rfl; have q3 := hS1.cell 3 (v := .int .i64 la) rfl; have q4 := hS1.cell 4 (v := .string ch) rfl; have q5 := hS1.cell 5 (v := .int .i64 ct) rfl; go_simp⟩) hHeld ?_
  simp only [Act.put, List.setIfInBounds_toArray, List.set_cons_zero, List.set_cons_succ]
  refine held_take (i := 3) 10 (v := .pointer (some ⟨bx, 0, none⟩)) rfl rfl (by kernel_rfl) (by kernel_rfl) (by kernel_rfl) (fun _ _ _ h => h) (Or.inl ⟨by rfl, fun V hS => by go_simp⟩) hHeld ?_
  simp only [Act.put, List.setIfInBounds_toArray, List.set_cons_zero, List.set_cons_succ]
  refine held_take (i := 4) 11 (v := .int .i64 id) rfl rfl (by kernel_rfl) (by kernel_rfl) (by kernel_rfl) (fun _ _ _ h => h) (Or.inl ⟨by rfl, fun V hS => by have q := hS.2.1.cell 0 (v := .int .i64 id) rfl; go_simp⟩) hHeld ?_
  simp only [Act.put, List.setIfInBounds_toArray, List.set_cons_zero, List.set_cons_succ]
  refine wpAnyH_ready (rs := [5]) (by kernel_rfl) (by simp) ?_
  refine AllReadyH.cons rfl (fun K hK => ?_) AllReadyH.nil
  go_simp
  refine (unhide CP _ ⟨_, rfl, (hoW.below hHeld.2.2).rd⟩).mono ?_
  rintro e w1 ⟨⟨z, rfl, hp⟩, hb1⟩
  refine hK.out _ _ ⟨hHeld.1.step hb1, hHeld.2.1.step hb1, hHeld.2.2.trans (hb1.mono hHeld.2.2.size)⟩ (fun hHeld => ?_)
  clear hK K hb1
  refine held_take (i := 6) 5 (v := .int .i64 z) rfl rfl (by kernel_rfl) (by kernel_rfl) (by kernel_rfl) (fun _ _ _ h => h) (Or.inl ⟨by rfl, fun V hS => by go_simp⟩) hHeld ?_
  simp only [Act.put, List.setIfInBounds_toArray, List.set_cons_zero, List.set_cons_succ]
  refine wpAnyH_done (by kernel_rfl) ?_ _
  go_upto_region 2 with fail
  refine wp_gen (fun V => CB V g 31 #[.string wd, .int .i64 tr, .slice a ths.length c, .int .i64 la, .string ch, .int .i64 ct] ∧ CB V bx 48 #[.int .i64 id, .int .i64 kind, .bool hid, .bool fix, .bool sgn, .bool wrp, .string val, .int .i64 nxt] ∧ OwnN thY V base 48 (.slice a ths.length c) ths ∧ Below base w V ∧ w.heap.size ≤ V.heap.size) ⟨hHeld.1, hHeld.2.1, hoW.below hHeld.2.2, (unhide HBb).trans (hHeld.2.2.mono (by omega)), by have := hHeld.2.2.size; omega⟩ ?_
  clear hHeld hXW hY hoW HBb hHS hs1 CP
  rintro V ⟨hX, hY, ho, hb, hsV⟩
  rcases hp with ⟨rfl, hno⟩ | ⟨k, y, rfl, hx, he, hno⟩
  · have c3 := hX.cell 3 (v := .int .i64 la) rfl
    have c2 := hX.cell 2 (v := .slice a ths.length c) rfl
    have b0 := hY.cell 0 (v := .int .i64 id) rfl
    obtain ⟨l1, hl1⟩ : ∃ z, z = la + 1 := ⟨_, rfl⟩
    have u1 : IntKind.i64.wrap (la + 1) = l1 := by rw [IntKind.wrap_i64]; omega
    have HX := hide hX; have HY := hide hY; have HO := hide ho; have HB := hide hb
    replace hno := hide hno; replace hl1 := hide hl1
    have hxl := hX.lt
    have hyl := hY.lt
    clear hX hY ho hb CM
    by_cases h1 : id = l1
    · by_cases h8 : ths.length = 8
      · have h8' : (ths.length : Int) = 8 := by omega
        go_wp2
        go_quiet (fail)
        go_wp2
        go_ret
        exact ⟨.inr ⟨unhide hno, .inl ⟨rfl, fun h => h.2 h8⟩⟩, bDN (unhide HB) _⟩
      · subst h1
        have h8' : ¬ (ths.length : Int) = 8 := by omega
        go_wp2
        go_quiet (fail)
        go_upto_region 8 with fail
        refine wp_gen (fun V5 => CB V5 g 31 #[.string wd, .int .i64 tr, .slice a ths.length c, .int .i64 la, .string ch, .int .i64 ct] ∧ CB V5 bx 48 #[.int .i64 id, .int .i64 kind, .bool hid, .bool fix, .bool sgn, .bool wrp, .string val, .int .i64 nxt] ∧ OwnN thY V5 base 48 (.slice a ths.length c) ths ∧ Below base w V5 ∧ V5.heap.size = V.heap.size) ⟨unhide HX, unhide HY, unhide HO, bDN (unhide HB) _, rfl⟩ ?_
        clear HX HY HO HB c3 c2 b0 u1
        rintro V5 ⟨hX, hY, ho, hb, hs5⟩
        have hoff : (Value.slice a ths.length c).ownBlock ≠ some g := ho.off hX (by decide)
        have hoffx : (Value.slice a ths.length c).ownBlock ≠ some bx := fun e => by have := (hrow bx e).2; omega
        refine wp_region_held_drew (S := fun V => CB V bx 48 #[.int .i64 id, .int .i64 kind, .bool hid, .bool fix, .bool sgn, .bool wrp, .string val, .int .i64 nxt]) (by kernel_rfl) hY (fun hHeld => ?_)
        refine held_take (i := 0) 48 (v := .pointer (some ⟨g, 0, none⟩)) rfl rfl (by kernel_rfl) (by kernel_rfl) (by kernel_rfl) (fun _ _ _ h => h) (Or.inl ⟨by rfl, fun V hS => by go_simp⟩) hHeld ?_
        simp only [Act.put, List.setIfInBounds_toArray, List.set_cons_zero, List.set_cons_succ]
        refine held_take (i := 1) 49 (v := .pointer (some ⟨g, 0, none⟩)) rfl rfl (by kernel_rfl) (by kernel_rfl) (by kernel_rfl) (fun _ _ _ h => h) (Or.inl ⟨by rfl, fun V hS => by go_simp⟩) hHeld ?_
        simp only [Act.put, List.setIfInBounds_toArray, List.set_cons_zero, List.set_cons_succ]
        refine held_take (i := 2) 50 (v := .pointer (some ⟨g, 0, none⟩)) rfl rfl (by kernel_rfl) (by kernel_rfl) (by kernel_rfl) (fun _ _ _ h => h) (Or.inl ⟨by rfl, fun V hS => by go_simp⟩) hHeld ?_
        simp only [Act.put, List.setIfInBounds_toArray, List.set_cons_zero, List.set_cons_succ]
        refine held_take (i := 3) 51 (v := .pointer (some ⟨g, 0, none⟩)) rfl rfl (by kernel_rfl) (by kernel_rfl) (by kernel_rfl) (fun _ _ _ h => h) (Or.inl ⟨by rfl, fun V hS => by go_simp⟩) hHeld ?_
        simp only [Act.put, List.setIfInBounds_toArray, List.set_cons_zero, List.set_cons_succ]
        refine held_take (i := 4) 52 (v := .pointer (some ⟨g, 2, none⟩)) rfl rfl (by kernel_rfl) (by kernel_rfl) (by kernel_rfl) (fun _ _ _ h => h) (Or.inl ⟨by rfl, fun V hS => by go_simp⟩) hHeld ?_
        simp only [Act.put, List.setIfInBounds_toArray, List.set_cons_zero, List.set_cons_succ]
        refine held_take (i := 6) 54 (v := .agg #[.int .i64 id, .int .i64 kind, .bool hid, .bool fix, .bool sgn, .bool wrp, .string val, .int .i64 nxt]) rfl rfl (by kernel_rfl) (by kernel_rfl) (by kernel_rfl) (fun _ _ _ h => h) (Or.inl ⟨by rfl, fun V hS => by have q0 := hS.cell 0 (v := .int .i64 id) rfl; have q1 := hS.cell 1 (v := .int .i64 kind) rfl; have q2 := hS.cell 2 (v := .bool hid) rfl; have q3 := hS.cell 3 (v := .bool fix) rfl; have q4 := hS.cell 4 (v := .bool sgn) rfl; have q5 := hS.cell 5 (v := .bool wrp) rfl; have q6 := hS.cell 6 (v := .string val) rfl; have q7 := hS.cell 7 (v := .int .i64 nxt) rfl; go_simp⟩) hHeld ?_
        simp only [Act.put, List.setIfInBounds_toArray, List.set_cons_zero, List.set_cons_succ]
        refine held_take (i := 9) 57 (v := .pointer (some ⟨bx, 0, none⟩)) rfl rfl (by kernel_rfl) (by kernel_rfl) (by kernel_rfl) (fun _ _ _ h => h) (Or.inl ⟨by rfl, fun V hS => by go_simp⟩) hHeld ?_
        simp only [Act.put, List.setIfInBounds_toArray, List.set_cons_zero, List.set_cons_succ]
        refine held_take (i := 10) 58 (v := .int .i64 id) rfl rfl (by kernel_rfl) (by kernel_rfl) (by kernel_rfl) (fun _ _ _ h => h) (Or.inl ⟨by rfl, fun V hS => by have q := hS.cell 0 (v := .int .i64 id) rfl; go_simp⟩) hHeld ?_
        simp only [Act.put, List.setIfInBounds_toArray, List.set_cons_zero, List.set_cons_succ]
        refine wpAnyH_ready (rs := [5, 7]) (by kernel_rfl) (by simp) ?_
        refine AllReadyH.cons rfl (fun K hK => ?_) (AllReadyH.cons rfl (fun K hK => ?_) AllReadyH.nil)
        · have q := hX.drew9.cell 2 (v := .slice a ths.length c) rfl
          go_simp
          refine hK.out _ _ hHeld (fun hHeld => ?_)
          clear hK K q
          refine wpAnyH_ready (rs := [7]) (by kernel_rfl) (by simp) ?_
          refine AllReadyH.cons rfl (fun K hK => ?_) AllReadyH.nil
          go_simp
          refine hK.out _ _ (hHeld.alloc _) (fun hHeld => ?_)
          clear hK K
          have hbA := hide (hb.alloc (by have := hX.lt; omega) (.cells #[.int .i64 id, .int .i64 kind, .bool hid, .bool fix, .bool sgn, .bool wrp, .string val, .int .i64 nxt] 48)).drew
          have HXA := (hX.alloc (.cells #[.int .i64 id, .int .i64 kind, .bool hid, .bool fix, .bool sgn, .bool wrp, .string val, .int .i64 nxt] 48)).drew9
          refine wpAnyH_ready (rs := [8]) (by kernel_rfl) (by simp) ?_
          refine AllReadyH.cons rfl (fun K hK => ?_) AllReadyH.nil
          refine step_append_m (P := Tryz.prog) (L := thY) rfl (.tmp 53) (.tmp 55) 29 rfl base base 48 i0 (.agg (thC thZ)) 48 Tryz.underlying29 hi hz0 hz1 hz2 rfl _ _ (by rfl) (ho.alloc _).drew V5.heap.size _ (heap_alloc_new V5 _) ⟨id, kind, hid, fix, sgn, wrp, val, nxt⟩ rfl 1 (by simp [Act.eval]) ths.length rfl (by omega) (by decide) (Nat.le_refl _) (by simp; have := hX.lt; omega) (unhide hbA) ?_
          intro a8 c8 w8 ho8 hb8 hkp8 hs8
          have hX8 : CB w8 g 31 #[.string wd, .int .i64 tr, .slice a ths.length c, .int .i64 la, .string ch, .int .i64 ct] := (hkp8 _ HXA.lt hoff).trans HXA
          have hY8 : CB w8 bx 48 #[.int .i64 id, .int .i64 kind, .bool hid, .bool fix, .bool sgn, .bool wrp, .string val, .int .i64 nxt] := (hkp8 _ hHeld.lt hoffx).trans hHeld
          refine hK.out _ _ hY8 (fun hHeld => ?_)
          clear hK K hkp8 hs8 HXA hbA
          refine held_take (i := 11) 59 (v := .pointer (some ⟨g, 0, none⟩)) rfl rfl (by kernel_rfl) (by kernel_rfl) (by kernel_rfl) (fun _ _ _ h => h) (Or.inl ⟨by rfl, fun V hS => by go_simp⟩) hHeld ?_
          simp only [Act.put, List.setIfInBounds_toArray]
          refine held_take (i := 12) 60 (v := .pointer (some ⟨g, 2, none⟩)) rfl rfl (by kernel_rfl) (by kernel_rfl) (by kernel_rfl) (fun _ _ _ h => h) (Or.inl ⟨by rfl, fun V hS => by go_simp⟩) hHeld ?_
          simp only [Act.put]
          refine wpAnyH_ready (rs := [13]) (by kernel_rfl) (by simp) ?_
          refine AllReadyH.cons rfl (fun K hK => ?_) AllReadyH.nil
          have q := hX8.cell 2 (v := .slice a ths.length c) rfl
          have z := hX8.frozen 2
          go_simp
          have hX9 := hX8.set 2 (.slice a8 (ths.length + 1) c8)
          have ho9 := ho8.setO g 2 (.slice a8 (ths.length + 1) c8) (ho8.off hX8 (by decide))
          have hb9 := hide (hb8.setCell (p := ⟨g, 2, none⟩) hbg (.slice a8 (ths.length + 1) c8))
          refine hK.out _ _ (hHeld.set_other (by omega) _) (fun hHeld => ?_)
          clear hK K q z
          refine held_take (i := 14) 61 (v := .pointer (some ⟨g, 0, none⟩)) rfl rfl (by kernel_rfl) (by kernel_rfl) (by kernel_rfl) (fun _ _ _ h => h) (Or.inl ⟨by rfl, fun V hS => by go_simp⟩) hHeld ?_
          simp only [Act.put, List.setIfInBounds_toArray, List.set_cons_zero, List.set_cons_succ]
          refine held_take (i := 15) 62 (v := .pointer (some ⟨g, 3, none⟩)) rfl rfl (by kernel_rfl) (by kernel_rfl) (by kernel_rfl) (fun _ _ _ h => h) (Or.inl ⟨by rfl, fun V hS => by go_simp⟩) hHeld ?_
          simp only [Act.put, List.setIfInBounds_toArray, List.set_cons_zero, List.set_cons_succ]
          refine wpAnyH_ready (rs := [16]) (by kernel_rfl) (by simp) ?_
          refine AllReadyH.cons rfl (fun K hK => ?_) AllReadyH.nil
          have q := hX9.cell 3 (v := .int .i64 la) rfl
          have z := hX9.frozen 3
          go_simp
          have hX10 := hX9.set 3 (.int .i64 id)
          have ho10 := ho9.setO g 3 (.int .i64 id) (ho9.off hX9 (by decide))
          have hb10 := hide ((unhide hb9).setCell (p := ⟨g, 3, none⟩) hbg (.int .i64 id))
          refine hK.out _ _ (hHeld.set_other (by omega) _) (fun hHeld => ?_)
          clear hK K q z
          refine wpAnyH_done (by kernel_rfl) ?_ _
          clear hX8 hX9 ho8 ho9 hb8 hb9
          go_wp2
          go_ret
          refine ⟨.inr ⟨unhide hno, .inr ⟨rfl, ⟨unhide hl1, fun e => h8' (by omega)⟩, a8, c8, ?_, ?_⟩⟩, unhide hb10⟩
          · show CB _ g _ (bkc _ (.slice _ (ths ++ [_]).length c8))
            rw [List.length_append, List.length_singleton]
            exact cb_eq hX10 rfl
          · show OwnN thY _ base _ (.slice _ (ths ++ [_]).length c8) _
            rw [List.length_append, List.length_singleton]
            exact ho10
        · go_simp
          refine hK.out _ _ (hHeld.alloc _) (fun hHeld => ?_)
          clear hK K
          refine wpAnyH_ready (rs := [5]) (by kernel_rfl) (by simp) ?_
          refine AllReadyH.cons rfl (fun K hK => ?_) AllReadyH.nil
          have q := (hX.alloc (.cells #[.int .i64 id, .int .i64 kind, .bool hid, .bool fix, .bool sgn, .bool wrp, .string val, .int .i64 nxt] 48)).drew9.cell 2 (v := .slice a ths.length c) rfl
          go_simp
          refine hK.out _ _ hHeld (fun hHeld => ?_)
          clear hK K q
          have hbA := hide (hb.alloc (by have := hX.lt; omega) (.cells #[.int .i64 id, .int .i64 kind, .bool hid, .bool fix, .bool sgn, .bool wrp, .string val, .int .i64 nxt] 48)).drew
          have HXA := (hX.alloc (.cells #[.int .i64 id, .int .i64 kind, .bool hid, .bool fix, .bool sgn, .bool wrp, .string val, .int .i64 nxt] 48)).drew9
          refine wpAnyH_ready (rs := [8]) (by kernel_rfl) (by simp) ?_
          refine AllReadyH.cons rfl (fun K hK => ?_) AllReadyH.nil
          refine step_append_m (P := Tryz.prog) (L := thY) rfl (.tmp 53) (.tmp 55) 29 rfl base base 48 i0 (.agg (thC thZ)) 48 Tryz.underlying29 hi hz0 hz1 hz2 rfl _ _ (by rfl) (ho.alloc _).drew V5.heap.size _ (heap_alloc_new V5 _) ⟨id, kind, hid, fix, sgn, wrp, val, nxt⟩ rfl 1 (by simp [Act.eval]) ths.length rfl (by omega) (by decide) (Nat.le_refl _) (by simp; have := hX.lt; omega) (unhide hbA) ?_
          intro a8 c8 w8 ho8 hb8 hkp8 hs8
          have hX8 : CB w8 g 31 #[.string wd, .int .i64 tr, .slice a ths.length c, .int .i64 la, .string ch, .int .i64 ct] := (hkp8 _ HXA.lt hoff).trans HXA
          have hY8 : CB w8 bx 48 #[.int .i64 id, .int .i64 kind, .bool hid, .bool fix, .bool sgn, .bool wrp, .string val, .int .i64 nxt] := (hkp8 _ hHeld.lt hoffx).trans hHeld
          refine hK.out _ _ hY8 (fun hHeld => ?_)
          clear hK K hkp8 hs8 HXA hbA
          refine held_take (i := 11) 59 (v := .pointer (some ⟨g, 0, none⟩)) rfl rfl (by kernel_rfl) (by kernel_rfl) (by kernel_rfl) (fun _ _ _ h => h) (Or.inl ⟨by rfl, fun V hS => by go_simp⟩) hHeld ?_
          simp only [Act.put, List.setIfInBounds_toArray]
          refine held_take (i := 12) 60 (v := .pointer (some ⟨g, 2, none⟩)) rfl rfl (by kernel_rfl) (by kernel_rfl) (by kernel_rfl) (fun _ _ _ h => h) (Or.inl ⟨by rfl, fun V hS => by go_simp⟩) hHeld ?_
          simp only [Act.put]
          refine wpAnyH_ready (rs := [13]) (by kernel_rfl) (by simp) ?_
          refine AllReadyH.cons rfl (fun K hK => ?_) AllReadyH.nil
          have q := hX8.cell 2 (v := .slice a ths.length c) rfl
          have z := hX8.frozen 2
          go_simp
          have hX9 := hX8.set 2 (.slice a8 (ths.length + 1) c8)
          have ho9 := ho8.setO g 2 (.slice a8 (ths.length + 1) c8) (ho8.off hX8 (by decide))
          have hb9 := hide (hb8.setCell (p := ⟨g, 2, none⟩) hbg (.slice a8 (ths.length + 1) c8))
          refine hK.out _ _ (hHeld.set_other (by omega) _) (fun hHeld => ?_)
          clear hK K q z
          refine held_take (i := 14) 61 (v := .pointer (some ⟨g, 0, none⟩)) rfl rfl (by kernel_rfl) (by kernel_rfl) (by kernel_rfl) (fun _ _ _ h => h) (Or.inl ⟨by rfl, fun V hS => by go_simp⟩) hHeld ?_
          simp only [Act.put, List.setIfInBounds_toArray, List.set_cons_zero, List.set_cons_succ]
          refine held_take (i := 15) 62 (v := .pointer (some ⟨g, 3, none⟩)) rfl rfl (by kernel_rfl) (by kernel_rfl) (by kernel_rfl) (fun _ _ _ h => h) (Or.inl ⟨by rfl, fun V hS => by go_simp⟩) hHeld ?_
          simp only [Act.put, List.setIfInBounds_toArray, List.set_cons_zero, List.set_cons_succ]
          refine wpAnyH_ready (rs := [16]) (by kernel_rfl) (by simp) ?_
          refine AllReadyH.cons rfl (fun K hK => ?_) AllReadyH.nil
          have q := hX9.cell 3 (v := .int .i64 la) rfl
          have z := hX9.frozen 3
          go_simp
          have hX10 := hX9.set 3 (.int .i64 id)
          have ho10 := ho9.setO g 3 (.int .i64 id) (ho9.off hX9 (by decide))
          have hb10 := hide ((unhide hb9).setCell (p := ⟨g, 3, none⟩) hbg (.int .i64 id))
          refine hK.out _ _ (hHeld.set_other (by omega) _) (fun hHeld => ?_)
          clear hK K q z
          refine wpAnyH_done (by kernel_rfl) ?_ _
          clear hX8 hX9 ho8 ho9 hb8 hb9
          go_wp2
          go_ret
          refine ⟨.inr ⟨unhide hno, .inr ⟨rfl, ⟨unhide hl1, fun e => h8' (by omega)⟩, a8, c8, ?_, ?_⟩⟩, unhide hb10⟩
          · show CB _ g _ (bkc _ (.slice _ (ths ++ [_]).length c8))
            rw [List.length_append, List.length_singleton]
            exact cb_eq hX10 rfl
          · show OwnN thY _ base _ (.slice _ (ths ++ [_]).length c8) _
            rw [List.length_append, List.length_singleton]
            exact ho10
    · go_wp2
      go_quiet (fail)
      go_wp2
      go_ret
      exact ⟨.inr ⟨unhide hno, .inl ⟨rfl, fun h => h1 (h.1.trans (unhide hl1).symm)⟩⟩, bDN (unhide HB) _⟩
  · have hk := (List.getElem?_eq_some_iff.1 hx).1
    rcases ho.open with ⟨h0, _⟩ | ⟨gr, c', hv2, hbr, hgr⟩
    · rw [h0] at hk; exact absurd hk (by simp)
    simp only [Value.slice.injEq] at hv2
    obtain ⟨rfl, _, rfl⟩ := hv2
    have hne : gr ≠ g := fun e => (ho.off hX (by decide)) (by rw [← e]; rfl)
    have hk0 : (0 : Int) ≤ (k : Int) := by omega
    have hk1 : (k : Int) < (ths.length : Int) := by omega
    have hy1 := hY.lt
    have hgx := hX.lt
    have CM2 := hide (unhide CM y (List.mem_of_getElem? hx))
    have hat := hide (ho.at hx)
    have x2 := hX.cell 2 (v := .slice (some ⟨gr, 0, none⟩) ths.length c) rfl
    have FIN := hide (show ths[k]? = some y ∧ y.id = id ∧ (∀ z ∈ ths.take k, z.id ≠ id) from ⟨hx, he, hno⟩)
    have hZ0 := hide (CB.new V (thC thZ) 48)
    have hX1 := hide (setRow_heap _ V.heap.size _ (thC y) 48 (0, 0) (unhide hZ0))
    have hbW1 := hide (Go.below_setRow ((Below.refl V.heap.size V).alloc (Nat.le_refl _) (.cells (thC thZ) 48)) (Nat.le_refl _) (thC y))
    clear CM hx he hno
    obtain ⟨y0, hy0⟩ : ∃ z, z = y := ⟨_, rfl⟩
    rw [← hy0] at FIN CM2
    have hye : thC y0 = thC y := by rw [hy0]
    rw [hye] at CM2
    clear hye
    replace hy0 := hide hy0
    obtain ⟨yi, yk, yh, yf, ys, yw, yv, yn⟩ := y
    simp only [thC] at CM2
    go_upto_region 4 with (first
      | (refine wpList_load_n (P := Tryz.prog) (L := thY) rfl 48 (.tmp 20) rfl gr (k * 8) rfl ⟨yi, yk, yh, yf, ys, yw, yv, yn⟩ (unhide hat) _ Tryz.underlying48 rfl ?_)
      | (refine wpList_store_row (P := Tryz.prog) rfl 48 (.tmp 6) (.tmp 21) rfl V.heap.size (thC ⟨yi, yk, yh, yf, ys, yw, yv, yn⟩) rfl rfl 48 (thC thZ) (unhide hZ0) (th_size _) rfl (th_one _) ?_))
    obtain ⟨gw, hgw⟩ : ∃ z, z = V.heap.size := ⟨_, rfl⟩
    have hgrx : gr < bx := (hrow gr rfl).2
    have hlw : bx < gw := by omega
    refine wp_gen (fun V2 => CB V2 g 31 #[.string wd, .int .i64 tr, .slice (some ⟨gr, 0, none⟩) ths.length c, .int .i64 la, .string ch, .int .i64 ct] ∧ CB V2 bx 48 #[.int .i64 id, .int .i64 kind, .bool hid, .bool fix, .bool sgn, .bool wrp, .string val, .int .i64 nxt] ∧ CB V2 V.heap.size 48 (thC ⟨yi, yk, yh, yf, ys, yw, yv, yn⟩) ∧ OwnN thY V2 base 48 (.slice (some ⟨gr, 0, none⟩) ths.length c) ths ∧ Below base w V2) ⟨hX.step (unhide hbW1), hY.step (unhide hbW1), unhide hX1, ho.below (unhide hbW1), hb.trans ((unhide hbW1).mono (by omega))⟩ ?_
    clear hZ0 hX1 hbW1 hX hY ho hb hat x2 hrow
    rw [← hgw]
    clear hgw
    rintro V2 ⟨hX, hY, hZ, ho, hb⟩
    refine wp_region_held_drew (S := fun V => CB V g 31 #[.string wd, .int .i64 tr, .slice (some ⟨gr, 0, none⟩) ths.length c, .int .i64 la, .string ch, .int .i64 ct] ∧ CB V bx 48 #[.int .i64 id, .int .i64 kind, .bool hid, .bool fix, .bool sgn, .bool wrp, .string val, .int .i64 nxt] ∧ CB V gw 48 (thC ⟨yi, yk, yh, yf, ys, yw, yv, yn⟩)) (by kernel_rfl) ⟨hX, hY, hZ⟩ (fun hHeld => ?_)
    refine held_take (i := 0) 22 (v := .pointer (some ⟨g, 0, none⟩)) rfl rfl (by kernel_rfl) (by kernel_rfl) (by kernel_rfl) (fun _ _ _ h => h) (Or.inl ⟨by rfl, fun V hS => by go_simp⟩) hHeld ?_
    simp only [Act.put, List.setIfInBounds_toArray, List.set_cons_zero, List.set_cons_succ]
    refine held_take (i := 1) 23 (v := .pointer (some ⟨g, 0, none⟩)) rfl rfl (by kernel_rfl) (by kernel_rfl) (by kernel_rfl) (fun _ _ _ h => h) (Or.inl ⟨by rfl, fun V hS => by go_simp⟩) hHeld ?_
    simp only [Act.put, List.setIfInBounds_toArray, List.set_cons_zero, List.set_cons_succ]
    refine held_take (i := 2) 24 (v := .pointer (some ⟨g, 2, none⟩)) rfl rfl (by kernel_rfl) (by kernel_rfl) (by kernel_rfl) (fun _ _ _ h => h) (Or.inl ⟨by rfl, fun V hS => by go_simp⟩) hHeld ?_
    simp only [Act.put, List.setIfInBounds_toArray, List.set_cons_zero, List.set_cons_succ]
    refine held_take (i := 3) 25 (v := .slice (some ⟨gr, 0, none⟩) ths.length c) rfl rfl (by kernel_rfl) (by kernel_rfl) (by kernel_rfl) (fun _ _ _ h => h) (Or.inl ⟨by rfl, fun V hS => by have q := hS.1.cell 2 (v := .slice (some ⟨gr, 0, none⟩) ths.length c) rfl; go_simp⟩) hHeld ?_
    simp only [Act.put, List.setIfInBounds_toArray, List.set_cons_zero, List.set_cons_succ]
    refine held_take (i := 4) 26 (v := .int .i64 (k : Int)) rfl rfl (by kernel_rfl) (by kernel_rfl) (by kernel_rfl) (fun _ _ _ h => h) (Or.inl ⟨by rfl, fun V hS => by go_simp⟩) hHeld ?_
    simp only [Act.put, List.setIfInBounds_toArray, List.set_cons_zero, List.set_cons_succ]
    refine held_take (i := 5) 27 (v := .agg #[.int .i64 id, .int .i64 kind, .bool hid, .bool fix, .bool sgn, .bool wrp, .string val, .int .i64 nxt]) rfl rfl (by kernel_rfl) (by kernel_rfl) (by kernel_rfl) (fun _ _ _ h => h) (Or.inl ⟨by rfl, fun V hS => by obtain ⟨_, hS2, _⟩ := hS; have q0 := hS2.cell 0 (v := .int .i64 id) rfl; have q1 := hS2.cell 1 (v := .int .i64 kind) rfl; have q2 := hS2.cell 2 (v := .bool hid) rfl; have q3 := hS2.cell 3 (v := .bool fix) rfl; have q4 := hS2.cell 4 (v := .bool sgn) rfl; have q5 := hS2.cell 5 (v := .bool wrp) rfl; have q6 := hS2.cell 6 (v := .string val) rfl; have q7 := hS2.cell 7 (v := .int .i64 nxt) rfl; go_simp⟩) hHeld ?_
    simp only [Act.put, List.setIfInBounds_toArray, List.set_cons_zero, List.set_cons_succ]
    refine held_take (i := 6) 28 (v := .pointer (some ⟨gr, k * 8, none⟩)) rfl rfl (by kernel_rfl) (by kernel_rfl) (by kernel_rfl) (fun _ _ _ h => h) (Or.inl ⟨by rfl, fun V hS => by go_simp⟩) hHeld ?_
    simp only [Act.put, List.setIfInBounds_toArray, List.set_cons_zero, List.set_cons_succ]
    refine wpAnyH_ready (rs := [7]) (by kernel_rfl) (by simp) ?_
    refine AllReadyH.cons rfl (fun K hK => ?_) AllReadyH.nil
    refine step_store_n (P := Tryz.prog) (L := thY) rfl 48 (.tmp 28) (.tmp 27) rfl (k := k) rfl ⟨id, kind, hid, fix, sgn, wrp, val, nxt⟩ rfl ho.drew hk rfl ?_
    intro w4 ho4 hg4 hs4
    have hb4 := hide (show Below base w w4 from hb.drew.grown hg4 (by show base ≤ V2.heap.size; have := hX.lt; omega) (fun q hq => by injection hq with hq; omega))
    have HO4 := hide ho4
    refine hK.out _ _ ⟨hHeld.1.grown hg4 (by intro e; injection e with e; exact hne e), hHeld.2.1.grown hg4 (by intro e; injection e with e; omega), hHeld.2.2.grown hg4 (by intro e; injection e with e; omega)⟩ (fun hHeld => ?_)
    clear hK K hg4 hs4 ho4 ho hb hX hY hZ
    refine wpAnyH_done (by kernel_rfl) ?_ _
    obtain ⟨hX, hY, hZ⟩ := hHeld
    replace hX := hide hX; replace hY := hide hY; replace hZ := hide hZ
    go_wp2_with (first
      | (refine wpList_load_row (P := Tryz.prog) rfl 48 (.tmp 6) rfl gw rfl 48 (thC ⟨yi, yk, yh, yf, ys, yw, yv, yn⟩) (0, 0) _ (unhide hZ) Tryz.underlying48 rfl (th_size _) ?_)
      | (refine wpList_load_row (P := Tryz.prog) rfl 48 (.tmp 3) rfl bx rfl 48 #[.int .i64 id, .int .i64 kind, .bool hid, .bool fix, .bool sgn, .bool wrp, .string val, .int .i64 nxt] (0, 0) _ (unhide hY) Tryz.underlying48 rfl rfl ?_)
      | (go_at_call 96; refine (unhide CM2 _).mono ?_; rintro e w5 ⟨rfl, hb5⟩))
    go_ret
    obtain ⟨f1, f2, f3⟩ := unhide FIN
    have hX5 := (unhide hX).step hb5
    have ho5 := (unhide HO4).below hb5
    refine ⟨.inl ⟨k, ⟨yi, yk, yh, yf, ys, yw, yv, yn⟩, by rw [← unhide hy0]; exact f1, by rw [← unhide hy0]; exact f2, f3, by rw [unhide hy0, unhide hx0]; rfl, some ⟨gr, 0, none⟩, c, ?_, ?_⟩, (unhide hb4).trans (hb5.mono (by have := (unhide hX).lt; omega))⟩
    · show CB _ g _ (bkc _ (.slice _ (ths.set k _).length c))
      rw [List.length_set]
      exact hX5
    · show OwnN thY _ base _ (.slice _ (ths.set k _).length c) _
      rw [List.length_set]
      exact ho5
end Go.Proofs.YtkbbcjnickgfjabGreat

/- The project's things: their texts, over the loaded program. -/
namespace Go.Proofs.YtkbbcjnickgfjabGreat
open Go.RowKit
set_option maxRecDepth 20000 in
set_option maxHeartbeats 400000 in
theorem implShort9_any (s : ByteArray) (hs : s.size ≤ 400) (w : World) :
    Calls Tryz.prog 105 #[.string s] w fun e w' => e = .returned (.tuple #[.string (shB s), .bool true]) ∧ Below w.heap.size w w' := by
  have CV := hide (fun W => implVar_yes s.size W (by omega))
  have hz : (⟨(varB s.size).toArray⟩ : ByteArray).size ≤ 3 := by
    show (varB s.size).toArray.size ≤ 3
    rw [List.size_toArray]; exact varB_len9 (by omega)
  have h1 : ¬ (20000 : Int) < (s.size : Int) := by omega
  unfold shB
  generalize (⟨(varB s.size).toArray⟩ : ByteArray) = vt at *
  have h2 : ¬ 9223372036854775807 < vt.size + s.size := by omega
  have h3 : vt.size + s.size ≤ 9223372036854775807 := by omega
  go_enter Tryz.func105, Tryz.ntmps105
  go_wp2_with fail
  refine (unhide CV w).mono ?_
  rintro e w1 ⟨rfl, hb1⟩
  clear CV
  go_wp2
  refine bodyPost_ret (v := .tuple #[.string (vt ++ s), .bool true]) (by simp [results, Tryz.results105, go_sem]) rfl ⟨rfl, hb1⟩
set_option maxRecDepth 20000 in
set_option maxHeartbeats 4000000 in
theorem implThingText_any (x : Th) (w : World) :
    Calls Tryz.prog 92 #[.agg (thC x)] w fun e w' => e = .returned (.tuple #[.string (ttB x), .bool (thOk x)]) ∧ Below w.heap.size w w' := by
  have CO := hide (fun W => implThingOk_any x W)
  cases hok : thOk x with
  | false =>
    have E : ttB x = ⟨#[]⟩ := by unfold ttB; rw [if_neg (by rw [hok]; simp)]
    rw [E]
    rw [hok] at CO
    clear hok E
    obtain ⟨id, kind, hid, fix, sgn, wrp, val, nxt⟩ := x
    unfold thC at CO ⊢
    obtain ⟨W, hW, hC, hb, hlt⟩ := one_cb w #[.int .i64 id, .int .i64 kind, .bool hid, .bool fix, .bool sgn, .bool wrp, .string val, .int .i64 nxt] 48
    have c0 := hC.cell 0 rfl
    have c1 := hC.cell 1 rfl
    have c2 := hC.cell 2 rfl
    have c3 := hC.cell 3 rfl
    have c4 := hC.cell 4 rfl
    have c5 := hC.cell 5 rfl
    have c6 := hC.cell 6 rfl
    have c7 := hC.cell 7 rfl
    clear hC
    go_enter Tryz.func92, Tryz.ntmps92
    go_wp2_with fail
    refine (unhide CO W).mono ?_
    rintro e w1 ⟨rfl, hb1⟩
    have hT := hb.trans (hb1.mono hb.size)
    clear c0 c1 c2 c3 c4 c5 c6 c7
    go_wp2
    go_ret2
    exact ⟨rfl, hT⟩
  | true =>
    have E : ttB x = thT x := by unfold ttB; rw [if_pos hok]
    have hO := (thOk_iff x).1 hok
    rw [E, thT_is hO]
    rw [hok] at CO
    have hvz : x.val.size ≤ 100 := by
      obtain ⟨i1, i2, k1, k2, n1, n2, _, _, hv3, hv2⟩ := hO
      by_cases e : x.kind = 3
      · exact hv3 e
      · have := hv2 e; omega
    have hi0 : x.id = ((x.id.toNat : Nat) : Int) := by omega
    have hn0 : x.nxt = ((x.nxt.toNat : Nat) : Int) := by omega
    have V1 := hide (fun W => implVar_yes x.id.toNat W (by omega))
    have V2 := hide (fun W => implVar_yes x.nxt.toNat W (by omega))
    have CS := hide (fun W => implShort9_any x.val (by omega) W)
    have CF := hide (fun W => flags_any x W)
    have z1 : (⟨(varB x.id.toNat).toArray⟩ : ByteArray).size ≤ 3 := by
      show (varB x.id.toNat).toArray.size ≤ 3
      rw [List.size_toArray]; exact varB_len9 (by omega)
    have z2 : (⟨(varB x.nxt.toNat).toArray⟩ : ByteArray).size ≤ 3 := by
      show (varB x.nxt.toNat).toArray.size ≤ 3
      rw [List.size_toArray]; exact varB_len9 (by omega)
    have z3 : (shB x.val).size ≤ 200 := by
      have : (⟨(varB x.val.size).toArray⟩ : ByteArray).size ≤ 3 := by
        show (varB x.val.size).toArray.size ≤ 3
        rw [List.size_toArray]; exact varB_len9 (by omega)
      unfold shB
      rw [ByteArray.size_append]; omega
    have hfl := fl_lt x
    rw [← hi0] at V1
    rw [← hn0] at V2
    obtain ⟨F, hF⟩ : ∃ F : Int, F = ((fl x : Nat) : Int) := ⟨_, rfl⟩
    rw [← hF] at CF ⊢
    have hF0 : 0 ≤ F := by omega
    have hF1 : F ≤ 15 := by omega
    have y1 := hide (fun W => implByteY9_any x.kind W)
    have y2 := hide (fun W => implByteY9_any F W)
    have zk : (oneY x.kind).size ≤ 1 := by rw [oneY_size9]; omega
    have zg : (oneY F).size ≤ 1 := by rw [oneY_size9]; omega
    clear hok E hO hvz hi0 hn0 hfl hF
    obtain ⟨id, kind, hid, fix, sgn, wrp, val, nxt⟩ := x
    unfold thC at CO CF ⊢
    simp only at V1 V2 CS z1 z2 z3 zk y1 ⊢
    generalize (⟨(varB id.toNat).toArray⟩ : ByteArray) = t1 at *
    generalize (⟨(varB nxt.toNat).toArray⟩ : ByteArray) = t2 at *
    generalize shB val = t3 at *
    obtain ⟨R, hR⟩ : ∃ R, R = t1 ++ oneY kind ++ oneY F ++ t3 ++ t2 := ⟨_, rfl⟩
    rw [← hR]
    generalize oneY kind = yk at *
    generalize oneY F = yg at *
    have u0 : IntKind.i64.wrap F = F := by rw [IntKind.wrap_i64]; omega
    have s1 : ∀ W : World, (Op.stringOp .add t1 yk).run Tryz.prog W = .ok (.string (t1 ++ yk)) W := fun W => run_string_add_sum W _ _ (by omega)
    have s2 : ∀ W : World, (Op.stringOp .add (t1 ++ yk) yg).run Tryz.prog W = .ok (.string (t1 ++ yk ++ yg)) W := fun W => run_string_add_sum W _ _ (by rw [ByteArray.size_append]; omega)
    have s3 : ∀ W : World, (Op.stringOp .add (t1 ++ yk ++ yg) t3).run Tryz.prog W = .ok (.string (t1 ++ yk ++ yg ++ t3)) W := fun W => run_string_add_sum W _ _ (by rw [ByteArray.size_append, ByteArray.size_append]; omega)
    have s4 : ∀ W : World, (Op.stringOp .add (t1 ++ yk ++ yg ++ t3) t2).run Tryz.prog W = .ok (.string (t1 ++ yk ++ yg ++ t3 ++ t2)) W := fun W => run_string_add_sum W _ _ (by rw [ByteArray.size_append, ByteArray.size_append, ByteArray.size_append]; omega)
    replace zk := hide zk; replace zg := hide zg; replace hR := hide hR; replace hF0 := hide hF0; replace hF1 := hide hF1; replace z1 := hide z1; replace z2 := hide z2; replace z3 := hide z3
    obtain ⟨W, hW, hC, hb, hlt⟩ := one_cb w #[.int .i64 id, .int .i64 kind, .bool hid, .bool fix, .bool sgn, .bool wrp, .string val, .int .i64 nxt] 48
    have c0 := hC.cell 0 rfl
    have c1 := hC.cell 1 rfl
    have c2 := hC.cell 2 rfl
    have c3 := hC.cell 3 rfl
    have c4 := hC.cell 4 rfl
    have c5 := hC.cell 5 rfl
    have c6 := hC.cell 6 rfl
    have c7 := hC.cell 7 rfl
    go_enter Tryz.func92, Tryz.ntmps92
    go_wp2_with fail
    refine (unhide CO W).mono ?_
    rintro e w1 ⟨rfl, hb1⟩
    have hT1 := hb.trans (hb1.mono hb.size)
    have hC1 := hC.step hb1
    have d0 := hC1.cell 0 rfl
    clear c0 c1 c2 c3 c4 c5 c6 c7 hC hb1 hb CO
    go_wp2_with fail
    refine (unhide V1 w1).mono ?_
    rintro e w2 ⟨rfl, hb2⟩
    have hT2 := hT1.trans (hb2.mono hT1.size)
    have hC2 := hC1.step hb2
    clear d0 hC1 hT1 hb2 V1
    have d6 := hC2.cell 6 rfl
    go_wp2_with fail
    refine (unhide CS w2).mono ?_
    rintro e w3 ⟨rfl, hb3⟩
    have hT3 := hT2.trans (hb3.mono hT2.size)
    have hC3 := hC2.step hb3
    clear d6 hC2 hT2 hb3 CS
    have d7 := hC3.cell 7 rfl
    go_wp2_with fail
    refine (unhide V2 w3).mono ?_
    rintro e w4 ⟨rfl, hb4⟩
    have hT4 := hT3.trans (hb4.mono hT3.size)
    have hC4 := hC3.step hb4
    clear d7 hC3 hT3 hb4 V2
    have e0 := hC4.cell 0 rfl
    have e1 := hC4.cell 1 rfl
    have e2 := hC4.cell 2 rfl
    have e3 := hC4.cell 3 rfl
    have e4 := hC4.cell 4 rfl
    have e5 := hC4.cell 5 rfl
    have e6 := hC4.cell 6 rfl
    have e7 := hC4.cell 7 rfl
    have hg4 := hC4.lt
    clear hC4
    have KS := hide (fun (W' : World) (h : Below w4.heap.size w4 W') => (⟨(h.cell (p := ⟨w.heap.size, 0, none⟩) hg4).trans e0, (h.cell (p := ⟨w.heap.size, 1, none⟩) hg4).trans e1, (h.cell (p := ⟨w.heap.size, 2, none⟩) hg4).trans e2, (h.cell (p := ⟨w.heap.size, 3, none⟩) hg4).trans e3, (h.cell (p := ⟨w.heap.size, 4, none⟩) hg4).trans e4, (h.cell (p := ⟨w.heap.size, 5, none⟩) hg4).trans e5, (h.cell (p := ⟨w.heap.size, 6, none⟩) hg4).trans e6, (h.cell (p := ⟨w.heap.size, 7, none⟩) hg4).trans e7⟩ : W'.cell? ⟨w.heap.size, 0, none⟩ = some (.int .i64 id) ∧ W'.cell? ⟨w.heap.size, 1, none⟩ = some (.int .i64 kind) ∧ W'.cell? ⟨w.heap.size, 2, none⟩ = some (.bool hid) ∧ W'.cell? ⟨w.heap.size, 3, none⟩ = some (.bool fix) ∧ W'.cell? ⟨w.heap.size, 4, none⟩ = some (.bool sgn) ∧ W'.cell? ⟨w.heap.size, 5, none⟩ = some (.bool wrp) ∧ W'.cell? ⟨w.heap.size, 6, none⟩ = some (.string val) ∧ W'.cell? ⟨w.heap.size, 7, none⟩ = some (.int .i64 nxt)))
    have hB0 := Below.refl w4.heap.size w4
    go_wp2
    go_region_held3 (fun W' => W'.cell? ⟨w.heap.size, 0, none⟩ = some (.int .i64 id) ∧ W'.cell? ⟨w.heap.size, 1, none⟩ = some (.int .i64 kind) ∧ W'.cell? ⟨w.heap.size, 2, none⟩ = some (.bool hid) ∧ W'.cell? ⟨w.heap.size, 3, none⟩ = some (.bool fix) ∧ W'.cell? ⟨w.heap.size, 4, none⟩ = some (.bool sgn) ∧ W'.cell? ⟨w.heap.size, 5, none⟩ = some (.bool wrp) ∧ W'.cell? ⟨w.heap.size, 6, none⟩ = some (.string val) ∧ W'.cell? ⟨w.heap.size, 7, none⟩ = some (.int .i64 nxt)) (first | exact ⟨e0, e1, e2, e3, e4, e5, e6, e7⟩ | exact (unhide KS) _ hB3 | exact (unhide KS) _ hB2 | exact (unhide KS) _ hB1 | fail) (first
      | (go_at_call 106; have hB1' := hB1; refine ((unhide CF) _).mono ?_; rintro e w6 ⟨rfl, hb2⟩; have hB2 : Below w4.heap.size w4 w6 := (by first | exact hB1.trans (hb2.mono hB1.size) | exact (bDN hB1 _).drew.trans (hb2.mono (by exact (bDN hB1 _).drew.size)) | exact hB1.drew.trans (hb2.mono (by exact hB1.drew.size)) | exact (bDN hB1 _).trans (hb2.mono (by exact (bDN hB1 _).size))))
      | (go_at_call 69; have hB2' := hB2; refine ((unhide y2) _).mono ?_; rintro e w7 ⟨rfl, hb3⟩; have hB3 : Below w4.heap.size w4 w7 := (by first | exact hB2.trans (hb3.mono hB2.size) | exact (bDN hB2 _).drew.trans (hb3.mono (by exact (bDN hB2 _).drew.size)) | exact hB2.drew.trans (hb3.mono (by exact hB2.drew.size)) | exact (bDN hB2 _).trans (hb3.mono (by exact (bDN hB2 _).size))))
      | (go_at_call 69; refine ((unhide y1) _).mono ?_; rintro e w5 ⟨rfl, hb1⟩; have hB1 : Below w4.heap.size w4 w5 := (by first | exact hB0.trans (hb1.mono hB0.size) | exact (bDN hB0 _).drew.trans (hb1.mono (by exact (bDN hB0 _).drew.size)) | exact hB0.drew.trans (hb1.mono (by exact hB0.drew.size)) | exact (bDN hB0 _).trans (hb1.mono (by exact (bDN hB0 _).size))))
      | fail)
    all_goals
      have hF := hT4.trans (hB3.mono hT4.size)
      clear hb1 hb2 hb3 hB1 hB2 hB3 KS e0 e1 e2 e3 e4 e5 e6 e7
      go_wp2
      go_ret2
      exact ⟨by rw [unhide hR]; rfl, hF⟩
end Go.Proofs.YtkbbcjnickgfjabGreat

/- The project's records: their texts, over the loaded program. -/
namespace Go.Proofs.YtkbbcjnickgfjabGreat
open Go.RowKit
def vT (n : Int) : ByteArray := if 0 ≤ n ∧ n ≤ 1000000000 then ⟨(varB n.toNat).toArray⟩ else ⟨#[]⟩
def bodyS (r : Rc) : ByteArray := if r.kd = 1 then r.tx else if r.kd = 2 ∨ r.kd = 4 then vT r.nm else if r.kd = 3 then ttB r.th else ⟨#[]⟩
def bodyO (r : Rc) : Bool := if r.kd = 1 then decide (r.tx.size = 32) else if r.kd = 2 then decide (0 ≤ r.nm ∧ r.nm ≤ 3) else if r.kd = 3 then thOk r.th else if r.kd = 4 then decide (1 ≤ r.nm ∧ r.nm ≤ 1000) else false
def onlyT (r : Rc) : Rc := if r.kd = 1 then ⟨r.kd, r.tx, 0, thZ⟩ else if r.kd = 2 ∨ r.kd = 4 then ⟨r.kd, ⟨#[]⟩, r.nm, thZ⟩ else if r.kd = 3 then ⟨r.kd, ⟨#[]⟩, 0, r.th⟩ else ⟨r.kd, ⟨#[]⟩, 0, thZ⟩
theorem rc_at9 {w : World} {g : Nat} {T : TypeId} {kd : Int} {tx : ByteArray} {nm id kind : Int} {hid fix sgn wrp : Bool} {val : ByteArray} {nxt : Int} (h : CB w g T #[.int .i64 kd, .string tx, .int .i64 nm, .int .i64 id, .int .i64 kind, .bool hid, .bool fix, .bool sgn, .bool wrp, .string val, .int .i64 nxt]) : AtN thY w g 3 ⟨id, kind, hid, fix, sgn, wrp, val, nxt⟩ := fun i u hu => by
  have hi : i < 8 := (List.getElem?_eq_some_iff.1 hu).1
  have e : (#[.int .i64 kd, .string tx, .int .i64 nm, .int .i64 id, .int .i64 kind, .bool hid, .bool fix, .bool sgn, .bool wrp, .string val, .int .i64 nxt] : Array Value)[3 + i]? = some u := by
    have : i = 0 ∨ i = 1 ∨ i = 2 ∨ i = 3 ∨ i = 4 ∨ i = 5 ∨ i = 6 ∨ i = 7 := by omega
    rcases this with rfl | rfl | rfl | rfl | rfl | rfl | rfl | rfl <;> exact hu
  exact h.cell (3 + i) e
theorem rc_one9 (a : Int) (b : ByteArray) (c d e : Int) (f g h i : Bool) (j : ByteArray) (k : Int) : (#[.int .i64 a, .string b, .int .i64 c, .int .i64 d, .int .i64 e, .bool f, .bool g, .bool h, .bool i, .string j, .int .i64 k] : Array Value).all (·.oneCell') = true := by simp [Value.oneCell']
set_option maxRecDepth 20000 in
set_option maxHeartbeats 2000000 in
theorem onlyTold_any (r : Rc) (w : World) :
    Calls Tryz.prog 68 #[.agg (rcC r)] w fun e w' => e = .returned (.agg (rcC (onlyT r))) ∧ Below w.heap.size w w' := by
  obtain ⟨o, ho⟩ : ∃ o, o = onlyT r := ⟨_, rfl⟩
  rw [← ho]
  obtain ⟨kd, tx, nm, ⟨id, kind, hid, fix, sgn, wrp, val, nxt⟩⟩ := r
  unfold onlyT at ho
  dsimp only at ho
  simp only [rcC]
  replace ho := hide ho
  obtain ⟨W, hW, hX, hR, hB, hs1⟩ := two_cb w #[.int .i64 kd, .string tx, .int .i64 nm, .int .i64 id, .int .i64 kind, .bool hid, .bool fix, .bool sgn, .bool wrp, .string val, .int .i64 nxt] (rcC rcZ) 50 50
  have hW2 := hW
  unfold rcC rcZ thZ at hW2
  dsimp only at hW2
  clear hW
  replace ho := unhide ho
  replace hX := hide hX; replace hR := hide hR; replace hB := hide hB
  have x0 : W.cell? ⟨w.heap.size, 0, none⟩ = some (.int .i64 kd) := (unhide hX).cell 0 rfl
  go_enter Tryz.func68, Tryz.ntmps68
  go_upto_region 1 with fail
  first | rw [hW2] | skip
  clear hW2
  go_upto_region 2 with fail
  refine wp_gen (fun W1 => CB W1 w.heap.size 50 #[.int .i64 kd, .string tx, .int .i64 nm, .int .i64 id, .int .i64 kind, .bool hid, .bool fix, .bool sgn, .bool wrp, .string val, .int .i64 nxt] ∧ CB W1 (w.heap.size + 1) 50 (rcC rcZ) ∧ CB W1 W.heap.size 50 #[.int .i64 kd, .string ⟨#[]⟩, .int .i64 0, .int .i64 0, .int .i64 0, .bool false, .bool false, .bool false, .bool false, .string ⟨#[]⟩, .int .i64 0] ∧ Below w.heap.size w W1) ⟨(unhide hX).alloc _, (unhide hR).alloc _, CB.new W _ _, (unhide hB).alloc (unhide hB).size _⟩ ?_
  rintro W1 ⟨hX1, hR1, hT1, T1⟩
  obtain ⟨gT, hgT⟩ : ∃ g, g = W.heap.size := ⟨_, rfl⟩
  rw [← hgT] at hT1 hs1 ⊢
  clear x0 hX hR hB hgT
  have x0 := hX1.cell 0 (v := .int .i64 kd) rfl
  by_cases k1 : kd = 1
  · subst k1
    rw [if_pos rfl] at ho
    replace ho := hide ho
    have x1 := hX1.cell 1 (v := .string tx) rfl
    have t1 := hT1.cell 1 (v := .string ⟨#[]⟩) rfl
    have f1 := hT1.frozen 1
    have hT2 := hide (cb_eq (hT1.set 1 (.string tx)) (show (#[.int .i64 1, .string tx, .int .i64 0, .int .i64 0, .int .i64 0, .bool false, .bool false, .bool false, .bool false, .string ⟨#[]⟩, .int .i64 0] : Array Value) = _ from rfl))
    have hR2 := hide (hR1.set_other (h := gT) (k := 1) (by omega) (.string tx))
    have T2 := hide (T1.setCell (p := ⟨gT, 1, none⟩) (by show w.heap.size ≤ gT; omega) (.string tx))
    go_upto_region 10 with fail
    refine wp_gen (fun W2 => CB W2 gT 50 #[.int .i64 1, .string tx, .int .i64 0, .int .i64 0, .int .i64 0, .bool false, .bool false, .bool false, .bool false, .string ⟨#[]⟩, .int .i64 0] ∧ CB W2 (w.heap.size + 1) 50 (rcC rcZ) ∧ Below w.heap.size w W2) ⟨unhide hT2, unhide hR2, unhide T2⟩ ?_
    rintro W2 ⟨hT9, hR9, T9⟩
    clear hT1 hR1 T1 x0
    clear x1 t1 f1 hT2 hR2 T2 hX1
    go_wp2_with (first
      | (refine wpList_load_row (P := Tryz.prog) rfl 50 (.tmp 3) rfl gT rfl 50 #[.int .i64 1, .string tx, .int .i64 0, .int .i64 0, .int .i64 0, .bool false, .bool false, .bool false, .bool false, .string ⟨#[]⟩, .int .i64 0] (0, 0) _ hT9 Tryz.underlying50 rfl rfl ?_)
      | (refine wpList_store_row (P := Tryz.prog) rfl 50 (.tmp 2) (.tmp 25) rfl (w.heap.size + 1) #[.int .i64 1, .string tx, .int .i64 0, .int .i64 0, .int .i64 0, .bool false, .bool false, .bool false, .bool false, .string ⟨#[]⟩, .int .i64 0] rfl rfl 50 _ hR9 rfl rfl (rc_one9 _ _ _ _ _ _ _ _ _ _ _) ?_))
    have hR8 := setRow_heap _ (w.heap.size + 1) _ #[.int .i64 1, .string tx, .int .i64 0, .int .i64 0, .int .i64 0, .bool false, .bool false, .bool false, .bool false, .string ⟨#[]⟩, .int .i64 0] 50 (0, 0) hR9
    have T4 := Go.below_setRow T9 (show w.heap.size ≤ w.heap.size + 1 by omega) #[.int .i64 1, .string tx, .int .i64 0, .int .i64 0, .int .i64 0, .bool false, .bool false, .bool false, .bool false, .string ⟨#[]⟩, .int .i64 0]
    exact bodyPost_ret (results_cb (by exact Tryz.results68) _ _ (w.heap.size + 1) 50 #[.int .i64 1, .string tx, .int .i64 0, .int .i64 0, .int .i64 0, .bool false, .bool false, .bool false, .bool false, .string ⟨#[]⟩, .int .i64 0] _ rfl hR8 Tryz.underlying50 rfl) rfl ⟨by rw [unhide ho] <;> rfl, T4⟩
  · by_cases k2 : kd = 2
    · subst k2
      rw [if_neg (by decide), if_pos (by decide)] at ho
      replace ho := hide ho
      have x2 := hX1.cell 2 (v := .int .i64 nm) rfl
      have t2 := hT1.cell 2 (v := .int .i64 0) rfl
      have f2 := hT1.frozen 2
      have hT2 := hide (cb_eq (hT1.set 2 (.int .i64 nm)) (show (#[.int .i64 2, .string ⟨#[]⟩, .int .i64 nm, .int .i64 0, .int .i64 0, .bool false, .bool false, .bool false, .bool false, .string ⟨#[]⟩, .int .i64 0] : Array Value) = _ from rfl))
      have hR2 := hide (hR1.set_other (h := gT) (k := 2) (by omega) (.int .i64 nm))
      have T2 := hide (T1.setCell (p := ⟨gT, 2, none⟩) (by show w.heap.size ≤ gT; omega) (.int .i64 nm))
      go_upto_region 10 with fail
      refine wp_gen (fun W2 => CB W2 gT 50 #[.int .i64 2, .string ⟨#[]⟩, .int .i64 nm, .int .i64 0, .int .i64 0, .bool false, .bool false, .bool false, .bool false, .string ⟨#[]⟩, .int .i64 0] ∧ CB W2 (w.heap.size + 1) 50 (rcC rcZ) ∧ Below w.heap.size w W2) ⟨unhide hT2, unhide hR2, unhide T2⟩ ?_
      rintro W2 ⟨hT9, hR9, T9⟩
      clear hT1 hR1 T1 x0
      clear x2 t2 f2 hT2 hR2 T2 hX1
      go_wp2_with (first
        | (refine wpList_load_row (P := Tryz.prog) rfl 50 (.tmp 3) rfl gT rfl 50 #[.int .i64 2, .string ⟨#[]⟩, .int .i64 nm, .int .i64 0, .int .i64 0, .bool false, .bool false, .bool false, .bool false, .string ⟨#[]⟩, .int .i64 0] (0, 0) _ hT9 Tryz.underlying50 rfl rfl ?_)
        | (refine wpList_store_row (P := Tryz.prog) rfl 50 (.tmp 2) (.tmp 25) rfl (w.heap.size + 1) #[.int .i64 2, .string ⟨#[]⟩, .int .i64 nm, .int .i64 0, .int .i64 0, .bool false, .bool false, .bool false, .bool false, .string ⟨#[]⟩, .int .i64 0] rfl rfl 50 _ hR9 rfl rfl (rc_one9 _ _ _ _ _ _ _ _ _ _ _) ?_))
      have hR8 := setRow_heap _ (w.heap.size + 1) _ #[.int .i64 2, .string ⟨#[]⟩, .int .i64 nm, .int .i64 0, .int .i64 0, .bool false, .bool false, .bool false, .bool false, .string ⟨#[]⟩, .int .i64 0] 50 (0, 0) hR9
      have T4 := Go.below_setRow T9 (show w.heap.size ≤ w.heap.size + 1 by omega) #[.int .i64 2, .string ⟨#[]⟩, .int .i64 nm, .int .i64 0, .int .i64 0, .bool false, .bool false, .bool false, .bool false, .string ⟨#[]⟩, .int .i64 0]
      exact bodyPost_ret (results_cb (by exact Tryz.results68) _ _ (w.heap.size + 1) 50 #[.int .i64 2, .string ⟨#[]⟩, .int .i64 nm, .int .i64 0, .int .i64 0, .bool false, .bool false, .bool false, .bool false, .string ⟨#[]⟩, .int .i64 0] _ rfl hR8 Tryz.underlying50 rfl) rfl ⟨by rw [unhide ho] <;> rfl, T4⟩
    · by_cases k4 : kd = 4
      · subst k4
        rw [if_neg (by decide), if_pos (by decide)] at ho
        replace ho := hide ho
        have x2 := hX1.cell 2 (v := .int .i64 nm) rfl
        have t2 := hT1.cell 2 (v := .int .i64 0) rfl
        have f2 := hT1.frozen 2
        have hT2 := hide (cb_eq (hT1.set 2 (.int .i64 nm)) (show (#[.int .i64 4, .string ⟨#[]⟩, .int .i64 nm, .int .i64 0, .int .i64 0, .bool false, .bool false, .bool false, .bool false, .string ⟨#[]⟩, .int .i64 0] : Array Value) = _ from rfl))
        have hR2 := hide (hR1.set_other (h := gT) (k := 2) (by omega) (.int .i64 nm))
        have T2 := hide (T1.setCell (p := ⟨gT, 2, none⟩) (by show w.heap.size ≤ gT; omega) (.int .i64 nm))
        go_upto_region 10 with fail
        refine wp_gen (fun W2 => CB W2 gT 50 #[.int .i64 4, .string ⟨#[]⟩, .int .i64 nm, .int .i64 0, .int .i64 0, .bool false, .bool false, .bool false, .bool false, .string ⟨#[]⟩, .int .i64 0] ∧ CB W2 (w.heap.size + 1) 50 (rcC rcZ) ∧ Below w.heap.size w W2) ⟨unhide hT2, unhide hR2, unhide T2⟩ ?_
        rintro W2 ⟨hT9, hR9, T9⟩
        clear hT1 hR1 T1 x0
        clear x2 t2 f2 hT2 hR2 T2 hX1
        go_wp2_with (first
          | (refine wpList_load_row (P := Tryz.prog) rfl 50 (.tmp 3) rfl gT rfl 50 #[.int .i64 4, .string ⟨#[]⟩, .int .i64 nm, .int .i64 0, .int .i64 0, .bool false, .bool false, .bool false, .bool false, .string ⟨#[]⟩, .int .i64 0] (0, 0) _ hT9 Tryz.underlying50 rfl rfl ?_)
          | (refine wpList_store_row (P := Tryz.prog) rfl 50 (.tmp 2) (.tmp 25) rfl (w.heap.size + 1) #[.int .i64 4, .string ⟨#[]⟩, .int .i64 nm, .int .i64 0, .int .i64 0, .bool false, .bool false, .bool false, .bool false, .string ⟨#[]⟩, .int .i64 0] rfl rfl 50 _ hR9 rfl rfl (rc_one9 _ _ _ _ _ _ _ _ _ _ _) ?_))
        have hR8 := setRow_heap _ (w.heap.size + 1) _ #[.int .i64 4, .string ⟨#[]⟩, .int .i64 nm, .int .i64 0, .int .i64 0, .bool false, .bool false, .bool false, .bool false, .string ⟨#[]⟩, .int .i64 0] 50 (0, 0) hR9
        have T4 := Go.below_setRow T9 (show w.heap.size ≤ w.heap.size + 1 by omega) #[.int .i64 4, .string ⟨#[]⟩, .int .i64 nm, .int .i64 0, .int .i64 0, .bool false, .bool false, .bool false, .bool false, .string ⟨#[]⟩, .int .i64 0]
        exact bodyPost_ret (results_cb (by exact Tryz.results68) _ _ (w.heap.size + 1) 50 #[.int .i64 4, .string ⟨#[]⟩, .int .i64 nm, .int .i64 0, .int .i64 0, .bool false, .bool false, .bool false, .bool false, .string ⟨#[]⟩, .int .i64 0] _ rfl hR8 Tryz.underlying50 rfl) rfl ⟨by rw [unhide ho] <;> rfl, T4⟩
      · by_cases k3 : kd = 3
        · subst k3
          rw [if_neg (by decide), if_neg (by decide), if_pos rfl] at ho
          replace ho := hide ho
          have hX3 := hide (rc_at9 hX1)
          replace hT1 := hide hT1
          go_upto_region 10 with (first
            | (refine wpList_load_n (P := Tryz.prog) (L := thY) rfl 48 (.tmp 22) rfl w.heap.size 3 rfl ⟨id, kind, hid, fix, sgn, wrp, val, nxt⟩ (unhide hX3) _ Tryz.underlying48 rfl ?_)
            | (refine wpList_store_cb (P := Tryz.prog) rfl 48 (.tmp 24) (.tmp 23) rfl (thY.c ⟨id, kind, hid, fix, sgn, wrp, val, nxt⟩) rfl rfl (unhide hT1) (show 3 + 8 ≤ 11 by decide) (thY.one _) rfl ?_; intro w5 hT5 hg5 hs5))
          refine wp_gen (fun W2 => CB W2 gT 50 #[.int .i64 3, .string ⟨#[]⟩, .int .i64 0, .int .i64 id, .int .i64 kind, .bool hid, .bool fix, .bool sgn, .bool wrp, .string val, .int .i64 nxt] ∧ CB W2 (w.heap.size + 1) 50 (rcC rcZ) ∧ Below w.heap.size w W2) ⟨cb_eq hT5 (show (#[.int .i64 3, .string ⟨#[]⟩, .int .i64 0, .int .i64 id, .int .i64 kind, .bool hid, .bool fix, .bool sgn, .bool wrp, .string val, .int .i64 nxt] : Array Value) = _ from rfl), hR1.grown hg5 (by intro e; injection e with e; omega), T1.grown hg5 (by have := T1.size; omega) (fun k hk => by injection hk with hk; omega)⟩ ?_
          rintro W2 ⟨hT9, hR9, T9⟩
          clear hT1 hR1 T1 x0
          clear hX3 hX1 hT5 hg5 hs5
          go_wp2_with (first
            | (refine wpList_load_row (P := Tryz.prog) rfl 50 (.tmp 3) rfl gT rfl 50 #[.int .i64 3, .string ⟨#[]⟩, .int .i64 0, .int .i64 id, .int .i64 kind, .bool hid, .bool fix, .bool sgn, .bool wrp, .string val, .int .i64 nxt] (0, 0) _ hT9 Tryz.underlying50 rfl rfl ?_)
            | (refine wpList_store_row (P := Tryz.prog) rfl 50 (.tmp 2) (.tmp 25) rfl (w.heap.size + 1) #[.int .i64 3, .string ⟨#[]⟩, .int .i64 0, .int .i64 id, .int .i64 kind, .bool hid, .bool fix, .bool sgn, .bool wrp, .string val, .int .i64 nxt] rfl rfl 50 _ hR9 rfl rfl (rc_one9 _ _ _ _ _ _ _ _ _ _ _) ?_))
          have hR8 := setRow_heap _ (w.heap.size + 1) _ #[.int .i64 3, .string ⟨#[]⟩, .int .i64 0, .int .i64 id, .int .i64 kind, .bool hid, .bool fix, .bool sgn, .bool wrp, .string val, .int .i64 nxt] 50 (0, 0) hR9
          have T4 := Go.below_setRow T9 (show w.heap.size ≤ w.heap.size + 1 by omega) #[.int .i64 3, .string ⟨#[]⟩, .int .i64 0, .int .i64 id, .int .i64 kind, .bool hid, .bool fix, .bool sgn, .bool wrp, .string val, .int .i64 nxt]
          exact bodyPost_ret (results_cb (by exact Tryz.results68) _ _ (w.heap.size + 1) 50 #[.int .i64 3, .string ⟨#[]⟩, .int .i64 0, .int .i64 id, .int .i64 kind, .bool hid, .bool fix, .bool sgn, .bool wrp, .string val, .int .i64 nxt] _ rfl hR8 Tryz.underlying50 rfl) rfl ⟨by rw [unhide ho] <;> rfl, T4⟩
        · rw [if_neg k1, if_neg (by omega), if_neg k3] at ho
          skip
          replace ho := hide ho
          go_upto_region 10 with fail
          refine wp_gen (fun W2 => CB W2 gT 50 #[.int .i64 kd, .string ⟨#[]⟩, .int .i64 0, .int .i64 0, .int .i64 0, .bool false, .bool false, .bool false, .bool false, .string ⟨#[]⟩, .int .i64 0] ∧ CB W2 (w.heap.size + 1) 50 (rcC rcZ) ∧ Below w.heap.size w W2) ⟨hT1, hR1, T1⟩ ?_
          rintro W2 ⟨hT9, hR9, T9⟩
          clear hT1 hR1 T1 x0
          clear hX1
          go_wp2_with (first
            | (refine wpList_load_row (P := Tryz.prog) rfl 50 (.tmp 3) rfl gT rfl 50 #[.int .i64 kd, .string ⟨#[]⟩, .int .i64 0, .int .i64 0, .int .i64 0, .bool false, .bool false, .bool false, .bool false, .string ⟨#[]⟩, .int .i64 0] (0, 0) _ hT9 Tryz.underlying50 rfl rfl ?_)
            | (refine wpList_store_row (P := Tryz.prog) rfl 50 (.tmp 2) (.tmp 25) rfl (w.heap.size + 1) #[.int .i64 kd, .string ⟨#[]⟩, .int .i64 0, .int .i64 0, .int .i64 0, .bool false, .bool false, .bool false, .bool false, .string ⟨#[]⟩, .int .i64 0] rfl rfl 50 _ hR9 rfl rfl (rc_one9 _ _ _ _ _ _ _ _ _ _ _) ?_))
          have hR8 := setRow_heap _ (w.heap.size + 1) _ #[.int .i64 kd, .string ⟨#[]⟩, .int .i64 0, .int .i64 0, .int .i64 0, .bool false, .bool false, .bool false, .bool false, .string ⟨#[]⟩, .int .i64 0] 50 (0, 0) hR9
          have T4 := Go.below_setRow T9 (show w.heap.size ≤ w.heap.size + 1 by omega) #[.int .i64 kd, .string ⟨#[]⟩, .int .i64 0, .int .i64 0, .int .i64 0, .bool false, .bool false, .bool false, .bool false, .string ⟨#[]⟩, .int .i64 0]
          exact bodyPost_ret (results_cb (by exact Tryz.results68) _ _ (w.heap.size + 1) 50 #[.int .i64 kd, .string ⟨#[]⟩, .int .i64 0, .int .i64 0, .int .i64 0, .bool false, .bool false, .bool false, .bool false, .string ⟨#[]⟩, .int .i64 0] _ rfl hR8 Tryz.underlying50 rfl) rfl ⟨by rw [unhide ho] <;> rfl, T4⟩
end Go.Proofs.YtkbbcjnickgfjabGreat

/- The project's records: their bodies and their texts, over the loaded program. -/
namespace Go.Proofs.YtkbbcjnickgfjabGreat
open Go.RowKit
theorem rcT_le9 (r : Rc) : (rcT r).size ≤ 2000 := by
  unfold rcT
  split
  · rename_i h
    have h1 := (rcOk_iff r).1 h
    show (rcL r).toArray.size ≤ 2000
    rw [List.size_toArray]
    unfold rcL
    rw [List.length_cons]
    rcases h1 with ⟨h2, h3, _, _⟩ | ⟨h2, _, _, h5, h6⟩ | ⟨h2, h3, _, _⟩ | ⟨h2, _, _, h5, h6⟩
    · rw [if_pos h2]
      have : r.tx.data.toList.length = r.tx.size := rfl
      omega
    · rw [if_neg (by omega), if_neg (by omega)]
      have := (varB_len r.nm.toNat).2; omega
    · rw [if_neg (by omega), if_pos h2]
      have h9 := thT_le ((thOk_iff r.th).2 h3)
      have : (thL r.th).length = (thT r.th).size := by unfold thT; show _ = (thL r.th).toArray.size; rw [List.size_toArray]
      omega
    · rw [if_neg (by omega), if_neg (by omega)]
      have := (varB_len r.nm.toNat).2; omega
  · exact Nat.zero_le _
theorem implVar_any (n : Int) (w : World) : Calls Tryz.prog 91 #[.int .i64 n] w fun e w' => (∃ b, e = .returned (.tuple #[.string (vT n), .bool b])) ∧ Below w.heap.size w w' := by
  by_cases h : 0 ≤ n ∧ n ≤ 1000000000
  · obtain ⟨m, rfl⟩ : ∃ m : Nat, n = (m : Int) := ⟨n.toNat, by omega⟩
    refine (implVar_yes m w (by omega)).mono ?_
    rintro e w' ⟨rfl, hb⟩
    refine ⟨⟨true, ?_⟩, hb⟩
    unfold vT
    rw [if_pos h]; rfl
  · refine (implVar_no n w (by omega)).mono ?_
    rintro e w' ⟨rfl, rfl⟩
    refine ⟨⟨false, ?_⟩, Below.refl _ _⟩
    unfold vT
    rw [if_neg h]
theorem triesOk_any (n : Int) (w : World) : Calls Tryz.prog 70 #[.int .i64 n] w fun e w' => e = .returned (.bool (decide (0 ≤ n ∧ n ≤ 3))) ∧ w' = w := by
  by_cases h1 : 0 ≤ n
  · by_cases h2 : n ≤ 3
    · have H := hide (show decide (0 ≤ n ∧ n ≤ 3) = true from decide_eq_true ⟨h1, h2⟩)
      go_enter Tryz.func70, Tryz.ntmps70
      go_wp2
      go_ret
      exact ⟨retB (by simp; try omega), rfl⟩
    · have H := hide (show decide (0 ≤ n ∧ n ≤ 3) = false from decide_eq_false (fun h => h2 h.2))
      go_enter Tryz.func70, Tryz.ntmps70
      go_wp2
      go_ret
      exact ⟨retB (by simp; try omega), rfl⟩
  · have H := hide (show decide (0 ≤ n ∧ n ≤ 3) = false from decide_eq_false (fun h => h1 h.1))
    go_enter Tryz.func70, Tryz.ntmps70
    go_wp2
    go_ret
    exact ⟨retB (by simp; try omega), rfl⟩
set_option maxRecDepth 20000 in
set_option maxHeartbeats 2000000 in
theorem recBody_any (r : Rc) (htx : r.tx.size ≤ 100000000) (w : World) :
    Calls Tryz.prog 67 #[.agg (rcC r)] w fun e w' => e = .returned (.tuple #[.string (bodyS r), .bool (bodyO r)]) ∧ Below w.heap.size w w' := by
  obtain ⟨bs, hbs⟩ : ∃ z, z = bodyS r := ⟨_, rfl⟩
  obtain ⟨bo, hbo⟩ : ∃ z, z = bodyO r := ⟨_, rfl⟩
  rw [← hbs, ← hbo]
  have CV := hide (fun W => implVar_any r.nm W)
  have CT := (fun W => implThingText_any r.th W)
  obtain ⟨kd, tx, nm, ⟨id, kind, hid, fix, sgn, wrp, val, nxt⟩⟩ := r
  unfold bodyS at hbs
  unfold bodyO at hbo
  dsimp only at hbs hbo htx CV CT
  simp only [rcC]
  simp only [thC] at CT
  obtain ⟨tt, htt⟩ : ∃ z, z = ttB ⟨id, kind, hid, fix, sgn, wrp, val, nxt⟩ := ⟨_, rfl⟩
  obtain ⟨tk, hto⟩ : ∃ z, z = thOk ⟨id, kind, hid, fix, sgn, wrp, val, nxt⟩ := ⟨_, rfl⟩
  rw [← htt, ← hto] at CT
  rw [← htt] at hbs
  rw [← hto] at hbo
  clear htt hto
  obtain ⟨vt, hvt⟩ : ∃ z, z = vT nm := ⟨_, rfl⟩
  rw [← hvt] at CV hbs
  clear hvt
  replace CT := hide CT
  obtain ⟨W, hW, hX, hB, hs1⟩ := one_cb w #[.int .i64 kd, .string tx, .int .i64 nm, .int .i64 id, .int .i64 kind, .bool hid, .bool fix, .bool sgn, .bool wrp, .string val, .int .i64 nxt] 50
  have x2 := hX.cell 2 (v := .int .i64 nm) rfl
  replace hX := hide hX; replace hB := hide hB
  replace hbs := hide hbs; replace hbo := hide hbo
  go_enter Tryz.func67, Tryz.ntmps67
  go_upto_region 1 with fail
  first | rw [hW] | skip
  clear hW
  go_upto_region 2 with (go_at_call 91; refine (unhide CV _).mono ?_; rintro e w1 ⟨⟨vb, rfl⟩, hb1⟩)
  have hX1 := (unhide hX).step hb1
  have T1 := hide ((unhide hB).trans (hb1.mono (unhide hB).size))
  clear hb1 x2 hX hB CV
  have x0 := hX1.cell 0 (v := (.int .i64 kd)) rfl
  have x1 := hX1.cell 1 (v := (.string tx)) rfl
  have x2 := hX1.cell 2 (v := (.int .i64 nm)) rfl
  have x3 := hX1.cell 3 (v := (.int .i64 id)) rfl
  have x4 := hX1.cell 4 (v := (.int .i64 kind)) rfl
  have x5 := hX1.cell 5 (v := (.bool hid)) rfl
  have x6 := hX1.cell 6 (v := (.bool fix)) rfl
  have x7 := hX1.cell 7 (v := (.bool sgn)) rfl
  have x8 := hX1.cell 8 (v := (.bool wrp)) rfl
  have x9 := hX1.cell 9 (v := (.string val)) rfl
  have x10 := hX1.cell 10 (v := (.int .i64 nxt)) rfl
  clear hX1
  replace hbs := unhide hbs; replace hbo := unhide hbo
  by_cases k1 : kd = 1
  · subst k1
    rw [if_pos rfl] at hbs hbo
    subst hbs hbo
    have hsz : ((bs.size : Int) == 32) = decide (bs.size = 32) := by
      rw [Bool.eq_iff_iff]; simp; omega
    clear CT
    go_wp2
    go_quiet (fail)
    go_wp2
    go_ret2
    exact ⟨rfl, (unhide T1).trans (bDN (Below.refl _ _) nq)⟩
  · by_cases k2 : kd = 2
    · subst k2
      rw [if_neg (by decide), if_pos (by decide)] at hbs
      rw [if_neg (by decide), if_pos rfl] at hbo
      subst hbs
      have CI := (fun W => triesOk_any nm W)
      rw [← hbo] at CI
      replace CI := hide CI; replace hbo := hide hbo
      clear CT
      go_wp2_with (go_at_call 70; refine (unhide CI _).mono ?_; rintro e w2 ⟨rfl, hw2⟩; have hw2' := hw2.symm; subst hw2')
      go_ret2
      exact ⟨rfl, unhide T1⟩
    · by_cases k4 : kd = 4
      · subst k4
        rw [if_neg (by decide), if_pos (by decide)] at hbs
        rw [if_neg (by decide), if_neg (by decide), if_neg (by decide), if_pos rfl] at hbo
        subst hbs
        by_cases c1 : 1 ≤ nm ∧ nm ≤ 1000
        · rw [decide_eq_true c1] at hbo
          subst hbo
          have CI := hide (fun W => idOk_yes nm W c1.1 c1.2)
          clear CT
          go_wp2_with (go_at_call 93; refine (unhide CI _).mono ?_; rintro e w2 ⟨rfl, hw2⟩; have hw2' := hw2.symm; subst hw2')
          go_ret2
          exact ⟨rfl, unhide T1⟩
        · rw [decide_eq_false c1] at hbo
          subst hbo
          have CI := hide (fun W => idOk_no nm W (by omega))
          clear CT
          go_wp2_with (go_at_call 93; refine (unhide CI _).mono ?_; rintro e w2 ⟨rfl, hw2⟩; have hw2' := hw2.symm; subst hw2')
          go_ret2
          exact ⟨rfl, unhide T1⟩
      · by_cases k3 : kd = 3
        · subst k3
          rw [if_neg (by decide), if_neg (by decide), if_pos rfl] at hbs
          rw [if_neg (by decide), if_neg (by decide), if_pos rfl] at hbo
          subst hbs hbo
          go_wp2_with (go_at_call 92; refine (unhide CT _).mono ?_; rintro e w2 ⟨rfl, hb2⟩)
          go_ret2
          exact ⟨rfl, (unhide T1).trans (hb2.mono (unhide T1).size)⟩
        · rw [if_neg k1, if_neg (by omega), if_neg k3] at hbs
          rw [if_neg k1, if_neg k2, if_neg k3, if_neg k4] at hbo
          subst hbs hbo
          clear CT
          go_wp2
          go_ret2
          exact ⟨rfl, unhide T1⟩
theorem recOk_is (r : Rc) : rcOk r = (bodyO r && rcEq r (onlyT r)) := by
  rw [Bool.eq_iff_iff, rcOk_iff, Bool.and_eq_true, rcEq_iff]
  obtain ⟨kd, tx, nm, th⟩ := r
  unfold RcOk bodyO onlyT
  dsimp only
  have hE : ∀ s : ByteArray, s.size = 0 ↔ s = ⟨#[]⟩ := fun s => ⟨size_zero_is, fun h => by rw [h]; rfl⟩
  have hZ : ∀ x : Th, ThNo x ↔ x = thZ := fun x => ⟨thNo_is, fun h => by rw [h]; exact thNo_thZ⟩
  rw [hE, hZ]
  by_cases k1 : kd = 1
  · subst k1; simp
  · by_cases k2 : kd = 2
    · subst k2; simp; constructor
      · rintro ⟨a, b, c, d⟩; exact ⟨⟨c, d⟩, a, b⟩
      · rintro ⟨⟨c, d⟩, a, b⟩; exact ⟨a, b, c, d⟩
    · by_cases k4 : kd = 4
      · subst k4; simp; constructor
        · rintro ⟨a, b, c, d⟩; exact ⟨⟨c, d⟩, a, b⟩
        · rintro ⟨⟨c, d⟩, a, b⟩; exact ⟨a, b, c, d⟩
      · by_cases k3 : kd = 3
        · subst k3; simp [thOk_iff]
        · simp [k1, k2, k3, k4]
theorem recT_is {r : Rc} (h : rcOk r = true) : rcT r = oneY r.kd ++ bodyS r ∧ 1 ≤ r.kd ∧ r.kd ≤ 4 := by
  have h1 := (rcOk_iff r).1 h
  have e : ∀ (k : Nat) (l : List UInt8), (⟨(byteOf k :: l).toArray⟩ : ByteArray) = ⟨#[byteOf k]⟩ ++ ⟨l.toArray⟩ := fun k l => by
    apply ByteArray.ext
    apply Array.toList_inj.1
    rw [ByteArray.data_append]
    simp
  unfold rcT rcL bodyS
  rw [if_pos h]
  obtain ⟨kd, tx, nm, th⟩ := r
  unfold RcOk at h1
  dsimp only at h1 ⊢
  rcases h1 with ⟨rfl, h2, h3, _⟩ | ⟨rfl, _, _, h5, h6⟩ | ⟨rfl, h2, _, _⟩ | ⟨rfl, _, _, h5, h6⟩
  · refine ⟨?_, by decide, by decide⟩
    rw [if_pos rfl, if_pos rfl, e]
    rfl
  · refine ⟨?_, by decide, by decide⟩
    rw [if_neg (by decide), if_neg (by decide), if_neg (by decide), if_pos (by decide), e]
    unfold vT
    rw [if_pos ⟨h5, by omega⟩]
    rfl
  · refine ⟨?_, by decide, by decide⟩
    rw [if_neg (by decide), if_pos rfl, if_neg (by decide), if_neg (by decide), if_pos rfl, e]
    unfold ttB
    rw [if_pos ((thOk_iff th).2 h2)]
    rfl
  · refine ⟨?_, by decide, by decide⟩
    rw [if_neg (by decide), if_neg (by decide), if_neg (by decide), if_pos (by decide), e]
    unfold vT
    rw [if_pos ⟨by omega, by omega⟩]
    rfl
end Go.Proofs.YtkbbcjnickgfjabGreat

/- The project's records: their texts, over the loaded program. -/
namespace Go.Proofs.YtkbbcjnickgfjabGreat
open Go.RowKit
set_option maxRecDepth 20000 in
set_option maxHeartbeats 4000000 in
theorem implRecText_any (r : Rc) (htx : r.tx.size ≤ 100000000) (w : World) :
    Calls Tryz.prog 43 #[.agg (rcC r)] w fun e w' => e = .returned (.tuple #[.string (rcT r), .bool (rcOk r)]) ∧ Below w.heap.size w w' := by
  have CB := (fun W => recBody_any r htx W)
  have CO := (fun W => onlyTold_any r W)
  have NE := (fun W => neRc_run r (onlyT r) W)
  have CY := hide (fun W => implByteY9_any r.kd W)
  have RO := recOk_is r
  have RT := fun h => @recT_is r h
  have RN : rcOk r = false → rcT r = ⟨#[]⟩ := fun h => by unfold rcT; rw [h]; rfl
  obtain ⟨bo, hbo⟩ : ∃ z, z = bodyO r := ⟨_, rfl⟩
  obtain ⟨eo, heo⟩ : ∃ z, z = rcEq r (onlyT r) := ⟨_, rfl⟩
  obtain ⟨bs, hbs⟩ : ∃ z, z = bodyS r := ⟨_, rfl⟩
  have hbsz : bo = true → eo = true → bs.size ≤ 100000000 := by
    intro h1 h2
    have h := RT (by rw [RO, ← hbo, ← heo, h1, h2]; rfl)
    have h3 := rcT_le9 r
    rw [h.1, ByteArray.size_append] at h3
    rw [hbs]; omega
  rw [← hbo, ← hbs] at CB
  rw [← hbo, ← heo] at RO
  rw [← heo] at NE
  rw [← hbs] at RT
  clear hbo heo hbs
  obtain ⟨o, ho⟩ : ∃ z, z = onlyT r := ⟨_, rfl⟩
  rw [← ho] at CO NE
  clear ho
  obtain ⟨rt, hrt⟩ : ∃ z, z = rcT r := ⟨_, rfl⟩
  obtain ⟨ro, hro⟩ : ∃ z, z = rcOk r := ⟨_, rfl⟩
  rw [← hrt, ← hro] at RT RN
  rw [← hro] at RO
  rw [← hrt, ← hro]
  clear hrt hro
  obtain ⟨kd, tx, nm, ⟨id, kind, hid, fix, sgn, wrp, val, nxt⟩⟩ := r
  obtain ⟨okd, otx, onm, ⟨oid, okind, ohid, ofix, osgn, owrp, oval, onxt⟩⟩ := o
  simp only [rcC] at CB CO NE ⊢
  dsimp only at CY RT htx
  obtain ⟨yk, hyk⟩ : ∃ z, z = oneY kd := ⟨_, rfl⟩
  have hyz : yk.size = 1 := by rw [hyk]; exact oneY_size9 kd
  rw [← hyk] at CY RT
  clear hyk
  replace CB := hide CB; replace CO := hide CO; replace NE := hide NE; replace CY := hide CY; replace RO := hide RO; replace RT := hide RT; replace RN := hide RN; replace hbsz := hide hbsz; replace hyz := hide hyz
  obtain ⟨W, hW, hX, hB, hs1⟩ := one_cb w #[.int .i64 kd, .string tx, .int .i64 nm, .int .i64 id, .int .i64 kind, .bool hid, .bool fix, .bool sgn, .bool wrp, .string val, .int .i64 nxt] 50
  replace hX := hide hX; replace hB := hide hB
  go_enter Tryz.func43, Tryz.ntmps43
  go_upto_region 1 with fail
  first | rw [hW] | skip
  clear hW hs1
  go_upto_region 2 with (first
    | (refine wpList_load_row (P := Tryz.prog) rfl 50 (.tmp 1) rfl w.heap.size rfl 50 #[.int .i64 kd, .string tx, .int .i64 nm, .int .i64 id, .int .i64 kind, .bool hid, .bool fix, .bool sgn, .bool wrp, .string val, .int .i64 nxt] (0, 0) _ (unhide hX) Tryz.underlying50 rfl rfl ?_)
    | (go_at_call 67; refine (unhide CB _).mono ?_; rintro e w1 ⟨rfl, hb1⟩))
  have hX1 := (unhide hX).step hb1
  have T1 := hide ((unhide hB).trans (hb1.mono (unhide hB).size))
  have KF := hide (show ∀ W', Below w1.heap.size w1 W' → W'.cell? ⟨w.heap.size, 0, none⟩ = some (.int .i64 kd) ∧ W'.cell? ⟨w.heap.size, 1, none⟩ = some (.string tx) ∧ W'.cell? ⟨w.heap.size, 2, none⟩ = some (.int .i64 nm) ∧ W'.cell? ⟨w.heap.size, 3, none⟩ = some (.int .i64 id) ∧ W'.cell? ⟨w.heap.size, 4, none⟩ = some (.int .i64 kind) ∧ W'.cell? ⟨w.heap.size, 5, none⟩ = some (.bool hid) ∧ W'.cell? ⟨w.heap.size, 6, none⟩ = some (.bool fix) ∧ W'.cell? ⟨w.heap.size, 7, none⟩ = some (.bool sgn) ∧ W'.cell? ⟨w.heap.size, 8, none⟩ = some (.bool wrp) ∧ W'.cell? ⟨w.heap.size, 9, none⟩ = some (.string val) ∧ W'.cell? ⟨w.heap.size, 10, none⟩ = some (.int .i64 nxt) from fun W' h => ⟨(hX1.step h).cell 0 rfl, (hX1.step h).cell 1 rfl, (hX1.step h).cell 2 rfl, (hX1.step h).cell 3 rfl, (hX1.step h).cell 4 rfl, (hX1.step h).cell 5 rfl, (hX1.step h).cell 6 rfl, (hX1.step h).cell 7 rfl, (hX1.step h).cell 8 rfl, (hX1.step h).cell 9 rfl, (hX1.step h).cell 10 rfl⟩)
  clear hb1 hX1 hX hB CB
  cases bo with
  | false =>
    have E : ro = false := by rw [unhide RO]; rfl
    have E2 := unhide RN E
    subst E E2
    clear RO RT RN
    refine wp_region_held_drew (S := fun W => Below w1.heap.size w1 W) (by kernel_rfl) (Below.refl _ w1).drew (fun hHeld => ?_)
    refine held_take (i := 0) 11 (v := ?vb_0) rfl rfl (by kernel_rfl) (by kernel_rfl) (by kernel_rfl) (fun _ _ _ h => h) (Or.inl ⟨by rfl, ?hyb_0⟩) hHeld ?restb_0
    case hyb_0 => (intro W hS; go_simp; try with_reducible rfl)
    simp only [Act.put, List.setIfInBounds_toArray, List.set_cons_zero, List.set_cons_succ]
    refine held_take (i := 1) 12 (v := ?vb_1) rfl rfl (by kernel_rfl) (by kernel_rfl) (by kernel_rfl) (fun _ _ _ h => h) (Or.inl ⟨by rfl, ?hyb_1⟩) hHeld ?restb_1
    case hyb_1 => (intro W hS; go_simp; try with_reducible rfl)
    simp only [Act.put, List.setIfInBounds_toArray, List.set_cons_zero, List.set_cons_succ]
    refine held_take (i := 2) 13 (v := ?vb_2) rfl rfl (by kernel_rfl) (by kernel_rfl) (by kernel_rfl) (fun _ _ _ h => h) (Or.inl ⟨by rfl, ?hyb_2⟩) hHeld ?restb_2
    case hyb_2 => (intro W hS; go_simp; try with_reducible rfl)
    simp only [Act.put, List.setIfInBounds_toArray, List.set_cons_zero, List.set_cons_succ]
    refine held_take (i := 3) 14 (v := undef) rfl rfl (by kernel_rfl) (by kernel_rfl) (by kernel_rfl) (fun _ _ _ h => h) (Or.inr ⟨by kernel_rfl, rfl⟩) hHeld ?_
    simp only [Act.put, List.setIfInBounds_toArray, List.set_cons_zero, List.set_cons_succ]
    refine held_take (i := 4) 15 (v := undef) rfl rfl (by kernel_rfl) (by kernel_rfl) (by kernel_rfl) (fun _ _ _ h => h) (Or.inr ⟨by kernel_rfl, rfl⟩) hHeld ?_
    simp only [Act.put, List.setIfInBounds_toArray, List.set_cons_zero, List.set_cons_succ]
    refine held_take (i := 5) 16 (v := undef) rfl rfl (by kernel_rfl) (by kernel_rfl) (by kernel_rfl) (fun _ _ _ h => h) (Or.inr ⟨by kernel_rfl, rfl⟩) hHeld ?_
    simp only [Act.put, List.setIfInBounds_toArray, List.set_cons_zero, List.set_cons_succ]
    refine held_take (i := 6) 17 (v := undef) rfl rfl (by kernel_rfl) (by kernel_rfl) (by kernel_rfl) (fun _ _ _ h => h) (Or.inr ⟨by kernel_rfl, rfl⟩) hHeld ?_
    simp only [Act.put, List.setIfInBounds_toArray, List.set_cons_zero, List.set_cons_succ]
    refine held_take (i := 7) 18 (v := ?vb_7) rfl rfl (by kernel_rfl) (by kernel_rfl) (by kernel_rfl) (fun _ _ _ h => h) (Or.inl ⟨by rfl, ?hyb_7⟩) hHeld ?restb_7
    case hyb_7 => (intro W hS; go_simp; try with_reducible rfl)
    simp only [Act.put, List.setIfInBounds_toArray, List.set_cons_zero, List.set_cons_succ]
    refine wpAnyH_done (by kernel_rfl) ?_ _
    have T9 := (unhide T1).trans (hHeld.mono (unhide T1).size)
    clear hHeld KF NE CO
    go_wp2
    go_ret2
    exact ⟨rfl, T9⟩
  | true =>
    refine wp_region_held_drew (S := fun W => Below w1.heap.size w1 W) (by kernel_rfl) (Below.refl _ w1).drew (fun hHeld => ?_)
    refine held_take (i := 0) 11 (v := ?vc_0) rfl rfl (by kernel_rfl) (by kernel_rfl) (by kernel_rfl) (fun _ _ _ h => h) (Or.inl ⟨by rfl, ?hyc_0⟩) hHeld ?restc_0
    case hyc_0 => (intro W hS; go_simp; try with_reducible rfl)
    simp only [Act.put, List.setIfInBounds_toArray, List.set_cons_zero, List.set_cons_succ]
    refine held_take (i := 1) 12 (v := ?vc_1) rfl rfl (by kernel_rfl) (by kernel_rfl) (by kernel_rfl) (fun _ _ _ h => h) (Or.inl ⟨by rfl, ?hyc_1⟩) hHeld ?restc_1
    case hyc_1 => (intro W hS; go_simp; try with_reducible rfl)
    simp only [Act.put, List.setIfInBounds_toArray, List.set_cons_zero, List.set_cons_succ]
    refine held_take (i := 2) 13 (v := ?vc_2) rfl rfl (by kernel_rfl) (by kernel_rfl) (by kernel_rfl) (fun _ _ _ h => h) (Or.inl ⟨by rfl, ?hyc_2⟩) hHeld ?restc_2
    case hyc_2 => (intro W hS; go_simp; try with_reducible rfl)
    simp only [Act.put, List.setIfInBounds_toArray, List.set_cons_zero, List.set_cons_succ]
    refine held_take (i := 3) 14 (v := ?vc_3) rfl rfl (by kernel_rfl) (by kernel_rfl) (by kernel_rfl) (fun _ _ _ h => h) (Or.inl ⟨by rfl, ?hyc_3⟩) hHeld ?restc_3
    case hyc_3 => (intro W hS; obtain ⟨z0, z1, z2, z3, z4, z5, z6, z7, z8, z9, z10⟩ := unhide KF W hS; go_simp; try with_reducible rfl)
    simp only [Act.put, List.setIfInBounds_toArray, List.set_cons_zero, List.set_cons_succ]
    refine held_take (i := 4) 15 (v := ?vc_4) rfl rfl (by kernel_rfl) (by kernel_rfl) (by kernel_rfl) (fun _ _ _ h => h) (Or.inl ⟨by rfl, ?hyc_4⟩) hHeld ?restc_4
    case hyc_4 => (intro W hS; obtain ⟨z0, z1, z2, z3, z4, z5, z6, z7, z8, z9, z10⟩ := unhide KF W hS; go_simp; try with_reducible rfl)
    simp only [Act.put, List.setIfInBounds_toArray, List.set_cons_zero, List.set_cons_succ]
    refine wpAnyH_ready (rs := [5]) (by kernel_rfl) (by simp) ?_
    refine AllReadyH.cons rfl (fun K hK => ?_) AllReadyH.nil
    go_simp
    refine (unhide CO _).mono ?_
    rintro e w5 ⟨rfl, hb5⟩
    refine hK.out _ _ (hHeld.trans (hb5.mono hHeld.size)) (fun hHeld => ?_)
    clear hK K hb5
    refine held_take (i := 6) 17 (v := .bool (!eo)) rfl rfl (by kernel_rfl) (by kernel_rfl) (by kernel_rfl) (fun _ _ _ h => h) (Or.inl ⟨by rfl, fun W hS => exec_neq 50 (.tmp 14) (.tmp 16) 50 rfl rfl rfl (guardRc _ _ _ _ W) (unhide NE W)⟩) hHeld ?restc_6
    simp only [Act.put, List.setIfInBounds_toArray, List.set_cons_zero, List.set_cons_succ]
    refine held_take (i := 7) 18 (v := ?vc_7) rfl rfl (by kernel_rfl) (by kernel_rfl) (by kernel_rfl) (fun _ _ _ h => h) (Or.inl ⟨by rfl, ?hyc_7⟩) hHeld ?restc_7
    case hyc_7 => (intro W hS; go_simp; try with_reducible rfl)
    simp only [Act.put, List.setIfInBounds_toArray, List.set_cons_zero, List.set_cons_succ]
    refine wpAnyH_done (by kernel_rfl) ?_ _
    have T9 := (unhide T1).trans (hHeld.mono (unhide T1).size)
    cases eo with
    | false =>
      have E : ro = false := by rw [unhide RO]; rfl
      have E2 := unhide RN E
      subst E E2
      clear hHeld KF NE CO RO RT RN
      go_wp2
      go_ret2
      exact ⟨rfl, T9⟩
    | true =>
      have E : ro = true := by rw [unhide RO]; rfl
      have E2 := (unhide RT E).1
      subst E E2
      have hz := unhide hbsz rfl rfl
      have hy := unhide hyz
      have s1 : ¬ 9223372036854775807 < yk.size + bs.size := by omega
      have s2 : yk.size + bs.size ≤ 9223372036854775807 := by omega
      obtain ⟨z0, _⟩ := unhide KF _ hHeld
      replace hz := hide hz; replace hy := hide hy
      have T9 := hide T9
      clear hHeld KF NE CO RO RT RN
      go_wp2_with (go_at_call 69; refine (unhide CY _).mono ?_; rintro e w8 ⟨rfl, hb8⟩)
      go_ret2
      exact ⟨rfl, (unhide T9).trans (hb8.mono (unhide T9).size)⟩
end Go.Proofs.YtkbbcjnickgfjabGreat

/- The project's books: a record is taken by one, over the loaded program. -/
namespace Go.Proofs.YtkbbcjnickgfjabGreat
open Go.RowKit
/-- What a right record makes of a right book. -/
def TakQ (b : Bk) (r : Rc) (g base : Nat) (rb : Bool) (w' : World) : Prop :=
  (rb = true ∧ ∃ o, entB b r = some (bkOn b r o) ∧ o.ct = b.ct ∧ BkAt w' g base 31 48 o) ∨ (rb = false ∧ entB b r = none)
def TakR (b : Bk) (r : Rc) (g base : Nat) (e : Ending) (w' : World) : Prop := ∃ rb, e = .returned (.bool rb) ∧ TakQ b r g base rb w'
set_option maxRecDepth 20000 in
set_option maxHeartbeats 4000000 in
theorem bkTake_any (b : Bk) (r : Rc) (g base : Nat) (w : World) (hA : BkAt w g base 31 48 b) (hbg : base ≤ g) (h1 : bkOk b = true) (h2 : rcOk r = true) (h3 : ¬ b.ct = 10000) (hd : (digB (b.ch ++ rcT r)).size = 32) :
    Calls Tryz.prog 45 #[.pointer (some ⟨g, 0, none⟩), .agg (rcC r)] w fun e w' => TakR b r g base e w' ∧ Below base w w' := by
  have hh := bkOk_head h1
  have hro := (rcOk_iff r).1 h2
  have E1 := hide (fun h => @entB_e1 b r h1 h2 h3 hd h)
  have E2 := hide (fun h => @entB_e2 b r h1 h2 h3 hd h)
  have hths := ((thsOk_pw b.la b.ths).1 (bkOk_ths h1)).1
  have hval : ∀ y ∈ b.ths, y.val.size ≤ 4000000 := fun y hy => by
    have h := (thOk_iff y).1 (hths y hy).1
    obtain ⟨_, _, _, _, _, _, _, _, q1, q2⟩ := h
    by_cases e : y.kind = 3
    · have := q1 e; omega
    · have := q2 e; omega
  have htx : r.tx.size ≤ 4000000 := by rcases hro with h | h | h | h <;> omega
  have htv : r.kd = 3 → r.th.val.size ≤ 4000000 := fun e => by
    obtain ⟨_, _, _, _, _, _, _, _, q1, q2⟩ := rcOk_th h2 e
    by_cases e : r.th.kind = 3
    · have := q1 e; omega
    · have := q2 e; omega
  have hkd : r.kd = 1 ∨ r.kd = 2 ∨ r.kd = 3 ∨ r.kd = 4 := by rcases hro with h | h | h | h <;> omega
  have CK := hide (fun W => strClone20_any r.tx W htx)
  have CT := hide (fun (e : r.kd = 3) W => copied_any r.th (htv e) W)
  have CP : Hid (r.kd = 3 → ∀ W, BkAt W g base 31 48 b → Calls Tryz.prog 72 #[.pointer (some ⟨g, 0, none⟩), .agg (thC r.th)] W fun e w' => TakR b r g base e w' ∧ Below base W w') := by
    intro hk W h
    refine (bkPut_any b r.th g base W h hbg (by omega) ⟨by omega, by omega⟩ hval).mono ?_
    rintro e w' ⟨h, hb⟩
    refine ⟨?_, hb⟩
    rcases h with ⟨k, y, f1, f2, f3, rfl, hA'⟩ | ⟨hn, ⟨rfl, hno⟩ | ⟨rfl, hy, hA'⟩⟩
    · have e := entB_e3 h1 h2 h3 hd hk f1 f2 f3
      rw [← becB_is (hths y (List.mem_of_getElem? f1)).1 f2] at e
      cases hg : becB y r.th with
      | true =>
        rw [hg, if_pos rfl] at e
        exact ⟨true, rfl, .inl ⟨rfl, _, e, rfl, hA'⟩⟩
      | false =>
        rw [hg, if_neg (by simp)] at e
        exact ⟨false, rfl, .inr ⟨rfl, e⟩⟩
    · have e := entB_e3n h1 h2 h3 hd hk hn
      rw [if_neg hno] at e
      exact ⟨false, rfl, .inr ⟨rfl, e⟩⟩
    · have e := entB_e3n h1 h2 h3 hd hk hn
      rw [if_pos hy] at e
      exact ⟨true, rfl, .inl ⟨rfl, _, e, rfl, hA'⟩⟩
  have CD : Hid (r.kd = 4 → ∀ W, BkAt W g base 31 48 b → Calls Tryz.prog 73 #[.pointer (some ⟨g, 0, none⟩), .int .i64 r.nm] W fun e w' => TakR b r g base e w' ∧ Below base W w') := by
    intro hk W h
    refine (bkDrop_any b r.nm g base W h hbg (by omega)).mono ?_
    rintro e w' ⟨h, hb⟩
    refine ⟨?_, hb⟩
    rcases h with ⟨rfl, hno⟩ | ⟨rfl, k, x, f1, f2, f3, hA'⟩
    · exact ⟨false, rfl, .inr ⟨rfl, entB_e4n h1 h2 h3 hk hno⟩⟩
    · exact ⟨true, rfl, .inl ⟨rfl, _, entB_e4 h1 h2 h3 hd hk f1 f2 f3, rfl, hA'⟩⟩
  clear h1 h2 h3 hd hh hro hths hval htx htv
  obtain ⟨r0, hr0⟩ : ∃ z, z = r := ⟨_, rfl⟩
  rw [← hr0] at E1 E2 CP CD ⊢
  obtain ⟨kd, tx, nm, ⟨id, kind, hid, fix, sgn, wrp, val, nxt⟩⟩ := r
  dsimp only at CK CT CP CD hkd
  simp only [thC] at CT
  have e0 : r0.kd = kd := by rw [hr0]
  have e1 : r0.tx = tx := by rw [hr0]
  have e2 : r0.nm = nm := by rw [hr0]
  have e3 : r0.th = ⟨id, kind, hid, fix, sgn, wrp, val, nxt⟩ := by rw [hr0]
  rw [e0, e1, e2] at E1
  rw [e0, e2] at E2
  rw [e0, e3] at CP
  rw [e0, e2] at CD
  simp only [thC] at CP
  have hre : rcC r0 = #[.int .i64 kd, .string tx, .int .i64 nm, .int .i64 id, .int .i64 kind, .bool hid, .bool fix, .bool sgn, .bool wrp, .string val, .int .i64 nxt] := by rw [hr0]; rfl
  rw [hre]
  clear hre e0 e1 e2 e3 hr0
  obtain ⟨bx, hbx⟩ : ∃ z, z = w.heap.size := ⟨_, rfl⟩
  obtain ⟨W, hW, hY, hB, hs1⟩ := one_cb w #[.int .i64 kd, .string tx, .int .i64 nm, .int .i64 id, .int .i64 kind, .bool hid, .bool fix, .bool sgn, .bool wrp, .string val, .int .i64 nxt] 50
  have hgl : g < w.heap.size := by obtain ⟨a, c, hX, _⟩ := hA; exact hX.lt
  have hAW := hide (hA.step hB)
  have hbW := hide (show Below base w W from hB.mono (by omega))
  have c0 := hY.cell 0 (v := .int .i64 kd) rfl
  have hlW : base ≤ W.heap.size := by omega
  rw [← hbx] at hY c0 hs1
  have HY := hide hY
  clear hY hA hB
  go_enter Tryz.func45, Tryz.ntmps45
  go_upto_region 1 with fail
  first | rw [hW] | skip
  rw [← hbx]
  clear hW
  replace hbx := hide hbx
  rcases hkd with rfl | rfl | rfl | rfl
  · clear CT CP CD E2
    have y1 := (unhide HY).cell 1 (v := .string tx) rfl
    go_upto_region 6 with fail
    go_upto_region 7 with (go_at_call 41; refine (unhide CK _).mono ?_; rintro e w1 ⟨rfl, hb1⟩; obtain ⟨a, c, hX, ho⟩ := (unhide hAW).step hb1; have hY1 := (unhide HY).step hb1; have hb := (unhide hbW).trans (hb1.mono hlW); clear c0 y1; have q0 := hX.cell 0 (v := .string b.wd) rfl; have z0 := hX.frozen 0)
    have hX2 := hide (hX.set 0 (.string tx))
    have ho2 := hide (ho.setO g 0 (.string tx) (ho.off hX (by decide)))
    have hY2 := hide (hY1.set_other (h := g) (k := 0) (by have := unhide hbx; omega) (.string tx))
    have hb2 := hide (hb.setCell (p := ⟨g, 0, none⟩) hbg (.string tx))
    refine wp_gen (fun V => CB V g 31 #[.string tx, .int .i64 b.tr, .slice a b.ths.length c, .int .i64 b.la, .string b.ch, .int .i64 b.ct] ∧ CB V bx 50 #[.int .i64 1, .string tx, .int .i64 nm, .int .i64 id, .int .i64 kind, .bool hid, .bool fix, .bool sgn, .bool wrp, .string val, .int .i64 nxt] ∧ OwnN thY V base 48 (.slice a b.ths.length c) b.ths ∧ Below base w V) ⟨unhide hX2, unhide hY2, unhide ho2, unhide hb2⟩ ?_
    clear hX2 ho2 hY2 hb2 hX hY1 ho hb q0 z0 hb1
    rintro V ⟨hX, hY, ho, hb⟩
    have y2 := hY.cell 2 (v := .int .i64 nm) rfl
    have q1 := hX.cell 1 (v := .int .i64 b.tr) rfl
    have z1 := hX.frozen 1
    have hX2 := hide (hX.set 1 (.int .i64 nm))
    have ho2 := hide (ho.setO g 1 (.int .i64 nm) (ho.off hX (by decide)))
    have hb2 := hide (hb.setCell (p := ⟨g, 1, none⟩) hbg (.int .i64 nm))
    clear hX hY ho hb
    go_wp2
    go_ret
    exact ⟨⟨true, rfl, .inl ⟨rfl, _, unhide E1 (by trivial), rfl, a, c, cb_eq (unhide hX2) rfl, unhide ho2⟩⟩, unhide hb2⟩
  · clear CT CP CD E1 CK
    obtain ⟨a, c, hX, ho⟩ := unhide hAW
    have hb := unhide hbW
    have y2 := (unhide HY).cell 2 (v := .int .i64 nm) rfl
    have q1 := hX.cell 1 (v := .int .i64 b.tr) rfl
    have z1 := hX.frozen 1
    have hX2 := hide (hX.set 1 (.int .i64 nm))
    have ho2 := hide (ho.setO g 1 (.int .i64 nm) (ho.off hX (by decide)))
    have hb2 := hide (hb.setCell (p := ⟨g, 1, none⟩) hbg (.int .i64 nm))
    clear hX ho hb hAW hbW
    go_wp2
    go_ret
    exact ⟨⟨true, rfl, .inl ⟨rfl, _, unhide E2 (by trivial), rfl, a, c, cb_eq (unhide hX2) rfl, unhide ho2⟩⟩, unhide hb2⟩
  · clear CD E1 E2 CK
    have CT2 := hide (unhide CT (by trivial))
    clear CT
    have hX3 := hide (show AtN thY W bx 3 ⟨id, kind, hid, fix, sgn, wrp, val, nxt⟩ from rc_at9 (unhide HY))
    go_upto_region 8 with fail
    go_wp2_with (first
      | (refine wpList_load_n (P := Tryz.prog) (L := thY) rfl 48 (.tmp 27) rfl bx 3 rfl ⟨id, kind, hid, fix, sgn, wrp, val, nxt⟩ (unhide hX3) _ Tryz.underlying48 rfl ?_)
      | (go_at_call 42; refine (unhide CT2 _).mono ?_; rintro e w1 ⟨rfl, hb1⟩; have hA1 := hide ((unhide hAW).step hb1); have hbV := hide ((unhide hbW).trans (hb1.mono hlW)))
      | (go_at_call 72; refine (unhide CP (by trivial) _ (unhide hA1)).mono ?_; rintro e w2 ⟨⟨rb, rfl, hres⟩, hb2⟩))
    go_ret
    exact ⟨⟨rb, rfl, hres⟩, (unhide hbV).trans hb2⟩
  · clear CT CP E1 E2 CK
    have y2 := (unhide HY).cell 2 (v := .int .i64 nm) rfl
    go_upto_region 9 with fail
    go_wp2_with (go_at_call 73; refine (unhide CD (by trivial) _ (unhide hAW)).mono ?_; rintro e w2 ⟨⟨rb, rfl, hres⟩, hb2⟩)
    go_ret
    exact ⟨⟨rb, rfl, hres⟩, (unhide hbW).trans hb2⟩
end Go.Proofs.YtkbbcjnickgfjabGreat

