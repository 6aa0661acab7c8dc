/- Merged: LawEn. -/
import Derived.Test.YtkbbcjnickgfjabMgEnter1
import Derived.Test.YtkbbcjnickgfjabMgEnter2
import Derived.Test.YtkbbcjnickgfjabMgEnter3
import Derived.Test.YtkbbcjnickgfjabMgEnter4
import Derived.Test.YtkbbcjnickgfjabMgEnter5
import Derived.Test.YtkbbcjnickgfjabMgEnter6
import Derived.Test.YtkbbcjnickgfjabMgEnter7
import Derived.Test.YtkbbcjnickgfjabMgEnter8
import Derived.Test.YtkbbcjnickgfjabMgEnter9
import Derived.Test.YtkbbcjnickgfjabMgEnter10
import Derived.Test.YtkbbcjnickgfjabMgEnter11
/- The law of a record that is entered, over the loaded program. -/
namespace Go.Proofs.Ytkbbcjnickgfjab
open Go.RowKit
theorem OwnN.setRowN {α : Type} {L : Lay α} {w : World} {g base : Nat} {T e : TypeId} {cs0 cs : Array Value} {v : Value} {xs : List α} (h : OwnN L w base e v xs) (hG : CB w g T cs0) (hT : T ≠ e) : OwnN L (w.setRow g cs) base e v xs :=
  h.grown (grown_setRow w g cs) (fun k hk he => h.off hG hT (by rw [hk]; exact he.symm))
set_option maxRecDepth 20000 in
set_option maxHeartbeats 6400000 in
theorem lawEnter_any (b : Bk) (r : Rc) (v : Value) (w : World) (hr : RdBk w v b) (hz : BkTx b) (h1 : r.tx.size ≤ maxLen) (h2 : r.th.val.size ≤ maxLen) (CI : bkSz b ≤ 1048576 → r.tx.size ≤ 1048576 → ∀ (u : Value) (W : World), Below w.heap.size w W → RdBk W (bkv b u) b → Calls Try.prog 10 #[bkv b u, .agg (rcC r)] W fun e w' => EntRes 37 W (entB b r) e w') :
    Calls Try.prog 3 #[v, .agg (rcC r)] w fun e w' => e = .returned (.bool true) ∧ Below w.heap.size w w' := by
  obtain ⟨a, n, c, rfl, hn, hu⟩ := hr.open
  subst hn
  have CZ : Hid (∀ W : World, RdN thY W (.slice a b.ths.length c) b.ths → Calls Try.prog 5 #[.agg #[.string b.wd, .int .i64 b.tr, .slice a b.ths.length c, .int .i64 b.la, .string b.ch, .int .i64 b.ct], .int .i64 1048576] W fun e w' => (∃ z : Int, e = .returned (.int .i64 z) ∧ (z < 0 ∨ z = 1048576 - (bkSz b : Int) ∧ 0 ≤ z)) ∧ Below W.heap.size W w') := fun W h => szBook_any b _ 1048576 (by omega) W ⟨_, rfl, h⟩ hz
  have CR : Hid (∀ (L : Int), 0 ≤ L ∧ L ≤ 1048576 → ∀ W : World, Calls Try.prog 6 #[.agg #[.int .i64 r.kd, .string r.tx, .int .i64 r.nm, .int .i64 r.th.id, .int .i64 r.th.kind, .bool r.th.hid, .bool r.th.fix, .bool r.th.sgn, .bool r.th.wrp, .string r.th.val, .int .i64 r.th.nxt], .int .i64 L] W fun e w' => (∃ z : Int, e = .returned (.int .i64 z) ∧ (z < 0 ∨ (z = L - (r.tx.size : Int) - (r.th.val.size : Int) ∧ (r.tx.size : Int) + (r.th.val.size : Int) ≤ L))) ∧ Below W.heap.size W w') := fun L hL W => szRec_any r L hL h1 h2 W
  have CQ : Hid (∀ W : World, Calls Try.prog 9 #[.agg #[.int .i64 r.kd, .string r.tx, .int .i64 r.nm, .int .i64 r.th.id, .int .i64 r.th.kind, .bool r.th.hid, .bool r.th.fix, .bool r.th.sgn, .bool r.th.wrp, .string r.th.val, .int .i64 r.th.nxt]] W fun e w' => e = .returned (.agg #[.int .i64 r.kd, .string r.tx, .int .i64 r.nm, .int .i64 r.th.id, .int .i64 r.th.kind, .bool r.th.hid, .bool r.th.fix, .bool r.th.sgn, .bool r.th.wrp, .string r.th.val, .int .i64 r.th.nxt]) ∧ Below W.heap.size W w') := fun W => toRec_any r W
  have HU := hide hu
  have HI := hide CI
  clear hr hu CI h1 h2
  obtain ⟨W0, hW, k0, l0, T0, hs1⟩ := two_cb w #[.string b.wd, .int .i64 b.tr, .slice a b.ths.length c, .int .i64 b.la, .string b.ch, .int .i64 b.ct] #[.int .i64 r.kd, .string r.tx, .int .i64 r.nm, .int .i64 r.th.id, .int .i64 r.th.kind, .bool r.th.hid, .bool r.th.fix, .bool r.th.sgn, .bool r.th.wrp, .string r.th.val, .int .i64 r.th.nxt] 24 28
  replace k0 := hide k0; replace l0 := hide l0; replace T0 := hide T0
  rw [show rcC r = #[.int .i64 r.kd, .string r.tx, .int .i64 r.nm, .int .i64 r.th.id, .int .i64 r.th.kind, .bool r.th.hid, .bool r.th.fix, .bool r.th.sgn, .bool r.th.wrp, .string r.th.val, .int .i64 r.th.nxt] from rfl]
  go_enter Try.func3, Try.ntmps3
  go_upto_region 1 with fail
  first | rw [hW] | skip
  clear hW hs1
  go_upto_region 3 with (first
    | (refine wpList_load_row (P := Try.prog) rfl 24 (.tmp 2) rfl w.heap.size rfl 24 #[.string b.wd, .int .i64 b.tr, .slice a b.ths.length c, .int .i64 b.la, .string b.ch, .int .i64 b.ct] (0, 0) _ (unhide k0) Try.underlying24 rfl rfl ?_)
    | (go_at_call 5; refine (unhide CZ _ ((unhide HU).below (unhide T0))).mono ?_; rintro e w1 ⟨⟨z, rfl, hzz⟩, hb1⟩)
    | fail)
  have k11 := hide ((unhide k0).step hb1)
  have k12 := hide ((unhide l0).step hb1)
  have T13 := hide ((unhide T0).trans (hb1.mono (unhide T0).size))
  clear k0 l0 T0 hb1
  clear CZ
  rcases hzz with hzz | ⟨hzz, hz0⟩
  · clear HI CR CQ
    go_wp2
    go_ret
    exact ⟨rfl, unhide T13⟩
  have CR2 := hide (unhide CR z (by omega))
  have hz2 : ¬ z < 0 := by omega
  have hbs : bkSz b ≤ 1048576 := by omega
  replace hzz := hide hzz
  clear CR hz0
  go_upto_region 6 with (first
    | (refine wpList_load_row (P := Try.prog) rfl 28 (.tmp 3) rfl (w.heap.size + 1) rfl 28 #[.int .i64 r.kd, .string r.tx, .int .i64 r.nm, .int .i64 r.th.id, .int .i64 r.th.kind, .bool r.th.hid, .bool r.th.fix, .bool r.th.sgn, .bool r.th.wrp, .string r.th.val, .int .i64 r.th.nxt] (0, 0) _ (unhide k12) Try.underlying28 rfl rfl ?_)
    | (go_at_call 6; refine (unhide CR2 _).mono ?_; rintro e w2 ⟨⟨z2, rfl, hzr⟩, hb2⟩)
    | fail)
  have k14 := hide ((unhide k11).step hb2)
  have k15 := hide ((unhide k12).step hb2)
  have T16 := hide ((unhide T13).trans (hb2.mono (unhide T13).size))
  clear k11 k12 T13 hb2
  clear CR2
  rcases hzr with hzr | ⟨hzr, hzr0⟩
  · clear HI CQ
    go_wp2
    go_ret
    exact ⟨rfl, unhide T16⟩
  have hz3 : ¬ z2 < 0 := by have := unhide hzz; omega
  have htx : r.tx.size ≤ 1048576 := by have := unhide hzz; omega
  clear hzz hzr hzr0 hz2 hz
  have hnb : b.ths.length ≤ 1048576 := by unfold bkSz at hbs; omega
  have hw1 : b.wd.size ≤ 1048576 := by unfold bkSz at hbs; omega
  have hw2 : b.ch.size ≤ 1048576 := by unfold bkSz at hbs; omega
  have hno : ((entB b r).getD bkZ).ths.length ≤ 2000000 := by
    cases hE : entB b r with
    | none => exact Nat.zero_le _
    | some o => have h := (bkOk_head (entB_ok hE).1).2.2.2.2.1; show o.ths.length ≤ 2000000; omega
  have CS0 := fun (a c) (W : World) (h : RdN thY W (.slice a b.ths.length c) b.ths) => specEnter_any b r (bkv b (.slice a b.ths.length c)) W ⟨_, rfl, h⟩ hnb (by omega) (by omega)
  have CI0 := fun (a c) (W : World) (hb : Below w.heap.size w W) (h : RdN thY W (.slice a b.ths.length c) b.ths) => unhide HI hbs htx (.slice a b.ths.length c) W hb ⟨_, rfl, h⟩
  have CT : Hid (∀ a c (W : World), RdN thY W (.slice a b.ths.length c) b.ths → Calls Try.prog 8 #[.agg #[.string b.wd, .int .i64 b.tr, .slice a b.ths.length c, .int .i64 b.la, .string b.ch, .int .i64 b.ct]] W fun e w' => (∃ a c, e = .returned (.agg #[.string b.wd, .int .i64 b.tr, .slice a b.ths.length c, .int .i64 b.la, .string b.ch, .int .i64 b.ct]) ∧ OwnN thY w' W.heap.size 37 (.slice a b.ths.length c) b.ths) ∧ Below W.heap.size W w') := fun a c W h => toBook_any b _ W ⟨_, rfl, h⟩ hnb
  clear HI
  unfold EntRes at CS0 CI0
  generalize (entB b r).getD bkZ = o at *
  generalize (entB b r).isSome = rb at *
  have CS : Hid (∀ a c (W : World), RdN thY W (.slice a b.ths.length c) b.ths → Calls Try.prog 7 #[.agg #[.string b.wd, .int .i64 b.tr, .slice a b.ths.length c, .int .i64 b.la, .string b.ch, .int .i64 b.ct], .agg #[.int .i64 r.kd, .string r.tx, .int .i64 r.nm, .int .i64 r.th.id, .int .i64 r.th.kind, .bool r.th.hid, .bool r.th.fix, .bool r.th.sgn, .bool r.th.wrp, .string r.th.val, .int .i64 r.th.nxt]] W fun e w' => (∃ a c, e = .returned (.tuple #[.agg #[.string o.wd, .int .i64 o.tr, .slice a o.ths.length c, .int .i64 o.la, .string o.ch, .int .i64 o.ct], .bool rb]) ∧ OwnN thY w' W.heap.size 37 (.slice a o.ths.length c) o.ths) ∧ Below W.heap.size W w') := CS0
  have CI : Hid (∀ a c (W : World), Below w.heap.size w W → RdN thY W (.slice a b.ths.length c) b.ths → Calls Try.prog 10 #[.agg #[.string b.wd, .int .i64 b.tr, .slice a b.ths.length c, .int .i64 b.la, .string b.ch, .int .i64 b.ct], .agg #[.int .i64 r.kd, .string r.tx, .int .i64 r.nm, .int .i64 r.th.id, .int .i64 r.th.kind, .bool r.th.hid, .bool r.th.fix, .bool r.th.sgn, .bool r.th.wrp, .string r.th.val, .int .i64 r.th.nxt]] W fun e w' => (∃ a c, e = .returned (.tuple #[.agg #[.string o.wd, .int .i64 o.tr, .slice a o.ths.length c, .int .i64 o.la, .string o.ch, .int .i64 o.ct], .bool rb]) ∧ OwnN thY w' W.heap.size 37 (.slice a o.ths.length c) o.ths) ∧ Below W.heap.size W w') := CI0
  have CEo : Hid (∀ a1 c1 a2 c2 (W : World), RdN thY W (.slice a1 o.ths.length c1) o.ths → RdN thY W (.slice a2 o.ths.length c2) o.ths → Calls Try.prog 11 #[.agg #[.string o.wd, .int .i64 o.tr, .slice a1 o.ths.length c1, .int .i64 o.la, .string o.ch, .int .i64 o.ct], .agg #[.string o.wd, .int .i64 o.tr, .slice a2 o.ths.length c2, .int .i64 o.la, .string o.ch, .int .i64 o.ct]] W fun e w' => e = .returned (.bool true) ∧ Below W.heap.size W w') := fun a1 c1 a2 c2 W h1 h2 => eqBook_any o _ _ W ⟨_, rfl, h1⟩ ⟨_, rfl, h2⟩ (hno)
  have CMo : Hid (∀ a c base (W : World), base ≤ W.heap.size → OwnN thY W base 37 (.slice a o.ths.length c) o.ths → Calls Try.prog 12 #[.agg #[.string o.wd, .int .i64 o.tr, .slice a o.ths.length c, .int .i64 o.la, .string o.ch, .int .i64 o.ct], .int .i64 1] W fun e w' => e = .returned (.int .i64 ((1 + 8 * o.ths.length : Nat) : Int)) ∧ OwnN thY w' base 37 (.slice a o.ths.length c) (mkT 1 o.ths.length) ∧ W.grownBy w' (Value.slice a o.ths.length c).ownBlock) := fun a c base W hb h => markBook_any o _ base 1 _ W rfl (hno) (by decide) (by decide) hb h
  have CEb : Hid (∀ a1 c1 a2 c2 (W : World), RdN thY W (.slice a1 b.ths.length c1) b.ths → RdN thY W (.slice a2 b.ths.length c2) b.ths → Calls Try.prog 11 #[.agg #[.string b.wd, .int .i64 b.tr, .slice a1 b.ths.length c1, .int .i64 b.la, .string b.ch, .int .i64 b.ct], .agg #[.string b.wd, .int .i64 b.tr, .slice a2 b.ths.length c2, .int .i64 b.la, .string b.ch, .int .i64 b.ct]] W fun e w' => e = .returned (.bool true) ∧ Below W.heap.size W w') := fun a1 c1 a2 c2 W h1 h2 => eqBook_any b _ _ W ⟨_, rfl, h1⟩ ⟨_, rfl, h2⟩ (by omega)
  have CMb : Hid (∀ a c base (W : World), base ≤ W.heap.size → OwnN thY W base 37 (.slice a b.ths.length c) b.ths → Calls Try.prog 12 #[.agg #[.string b.wd, .int .i64 b.tr, .slice a b.ths.length c, .int .i64 b.la, .string b.ch, .int .i64 b.ct], .int .i64 1] W fun e w' => e = .returned (.int .i64 ((1 + 8 * b.ths.length : Nat) : Int)) ∧ OwnN thY w' base 37 (.slice a b.ths.length c) (mkT 1 b.ths.length) ∧ W.grownBy w' (Value.slice a b.ths.length c).ownBlock) := fun a c base W hb h => markBook_any b _ base 1 _ W rfl (by omega) (by decide) (by decide) hb h
  have CH : Hid (∀ a c (W : World), RdN thY W (.slice a o.ths.length c) (mkT 1 o.ths.length) → Calls Try.prog 13 #[.agg #[.string o.wd, .int .i64 o.tr, .slice a o.ths.length c, .int .i64 o.la, .string o.ch, .int .i64 o.ct], .int .i64 1] W fun e w' => e = .returned (.int .i64 ((1 + 8 * o.ths.length : Nat) : Int)) ∧ Below W.heap.size W w') := fun a c W h => heldBook_any o _ 1 _ _ W rfl hno (by decide) (by decide) h
  obtain ⟨Mo, hMo⟩ : ∃ M : Nat, M = 1 + 8 * o.ths.length := ⟨_, rfl⟩
  obtain ⟨Mb, hMb⟩ : ∃ M : Nat, M = 1 + 8 * b.ths.length := ⟨_, rfl⟩
  rw [← hMo] at CMo CH
  rw [← hMb] at CMb
  have hMo0 : ¬ (Mo : Int) < 0 := by omega
  have hMb0 : ¬ (Mb : Int) < 0 := by omega
  clear CS0 CI0 hno hnb hw1 hw2 htx hbs hMo hMb
  go_upto_region 8 with fail
  obtain ⟨bs17, hbs17⟩ : ∃ z, z = w2.heap.size := ⟨_, rfl⟩
  have wb_bs17 : w.heap.size ≤ bs17 := by rw [hbs17]; exact (unhide T16).size
  go_cut [6, 7] (fun t6 t7 wx => ∃ (a18 : Option Addr) (c19 : Nat) (g20 : Nat), t6 = .pointer (some ⟨g20, 0, none⟩) ∧ t7 = .bool rb ∧ CB wx g20 33 #[.string o.wd, .int .i64 o.tr, .slice a18 o.ths.length c19, .int .i64 o.la, .string o.ch, .int .i64 o.ct] ∧ OwnN thY wx bs17 37 (.slice a18 o.ths.length c19) o.ths ∧ CB wx w.heap.size 24 #[.string b.wd, .int .i64 b.tr, .slice a b.ths.length c, .int .i64 b.la, .string b.ch, .int .i64 b.ct] ∧ CB wx (w.heap.size + 1) 28 #[.int .i64 r.kd, .string r.tx, .int .i64 r.nm, .int .i64 r.th.id, .int .i64 r.th.kind, .bool r.th.hid, .bool r.th.fix, .bool r.th.sgn, .bool r.th.wrp, .string r.th.val, .int .i64 r.th.nxt] ∧ Below w.heap.size w wx ∧ bs17 ≤ g20 ∧ w2.heap.size ≤ wx.heap.size)
  case first =>
    refine wp_region_held_drew (S := fun V => Below w2.heap.size w2 V) (by kernel_rfl) (Below.refl _ w2).drew (fun hHeld => ?_)
    refine held_take (i := 0) 27 (v := .agg #[.string b.wd, .int .i64 b.tr, .slice a b.ths.length c, .int .i64 b.la, .string b.ch, .int .i64 b.ct]) rfl rfl (by kernel_rfl) (by kernel_rfl) (by kernel_rfl) (fun _ _ _ h => h) (Or.inl ⟨by rfl, fun V hS => by have kx := (unhide k14).step hS; have x0 := kx.cell 0 (v := .string b.wd) rfl; have x1 := kx.cell 1 (v := .int .i64 b.tr) rfl; have x2 := kx.cell 2 (v := .slice a b.ths.length c) rfl; have x3 := kx.cell 3 (v := .int .i64 b.la) rfl; have x4 := kx.cell 4 (v := .string b.ch) rfl; have x5 := kx.cell 5 (v := .int .i64 b.ct) rfl; go_simp⟩) hHeld ?_
    simp only [Act.put, List.setIfInBounds_toArray, List.set_cons_zero, List.set_cons_succ]
    refine held_take (i := 2) 29 (v := .agg #[.int .i64 r.kd, .string r.tx, .int .i64 r.nm, .int .i64 r.th.id, .int .i64 r.th.kind, .bool r.th.hid, .bool r.th.fix, .bool r.th.sgn, .bool r.th.wrp, .string r.th.val, .int .i64 r.th.nxt]) rfl rfl (by kernel_rfl) (by kernel_rfl) (by kernel_rfl) (fun _ _ _ h => h) (Or.inl ⟨by rfl, fun V hS => by have kx := (unhide k15).step hS; have x0 := kx.cell 0 (v := .int .i64 r.kd) rfl; have x1 := kx.cell 1 (v := .string r.tx) rfl; have x2 := kx.cell 2 (v := .int .i64 r.nm) rfl; have x3 := kx.cell 3 (v := .int .i64 r.th.id) rfl; have x4 := kx.cell 4 (v := .int .i64 r.th.kind) rfl; have x5 := kx.cell 5 (v := .bool r.th.hid) rfl; have x6 := kx.cell 6 (v := .bool r.th.fix) rfl; have x7 := kx.cell 7 (v := .bool r.th.sgn) rfl; have x8 := kx.cell 8 (v := .bool r.th.wrp) rfl; have x9 := kx.cell 9 (v := .string r.th.val) rfl; have x10 := kx.cell 10 (v := .int .i64 r.th.nxt) rfl; go_simp⟩) hHeld ?_
    simp only [Act.put, List.setIfInBounds_toArray, List.set_cons_zero, List.set_cons_succ]
    have u0 : w2.heap.size ≤ w2.drew.heap.size := Nat.le_refl _
    have m0 : Below w2.heap.size w2 w2.drew := (Below.refl _ w2).drew
    refine wpAnyH_ready (rs := [1, 8]) (by kernel_rfl) (by simp) ?_
    refine AllReadyH.cons rfl (fun K hK => ?_) (AllReadyH.cons rfl (fun K hK => ?_) AllReadyH.nil)
    · go_simp
      refine (unhide CT _ _ _ ((unhide HU).below ((unhide T16).trans (m0.mono (unhide T16).size)))).mono ?_
      rintro e w21 ⟨⟨a22, c23, rfl, q24⟩, hb25⟩
      refine hK.out _ _ (hHeld.trans (hb25.mono hHeld.size)) (fun hHeld => ?_)
      have m26 := m0.trans (hb25.mono m0.size)
      have m27 := Below.refl w21.heap.size w21
      clear hK K
      have u28 : w2.heap.size ≤ w21.heap.size := hHeld.size
      refine wpAnyH_ready (rs := [3, 8]) (by kernel_rfl) (by simp) ?_
      refine AllReadyH.cons rfl (fun K hK => ?_) (AllReadyH.cons rfl (fun K hK => ?_) AllReadyH.nil)
      · go_simp
        refine (unhide CQ _).mono ?_
        rintro e w29 ⟨rfl, hb33⟩
        refine hK.out _ _ (hHeld.trans (hb33.mono hHeld.size)) (fun hHeld => ?_)
        have m34 := m26.trans (hb33.mono m26.size)
        have m35 := m27.trans (hb33.mono m27.size)
        have m36 := Below.refl w29.heap.size w29
        clear hK K
        have u37 : w2.heap.size ≤ w29.heap.size := hHeld.size
        refine wpAnyH_ready (rs := [4, 8]) (by kernel_rfl) (by simp) ?_
        refine AllReadyH.cons rfl (fun K hK => ?_) (AllReadyH.cons rfl (fun K hK => ?_) AllReadyH.nil)
        · go_simp
          refine (unhide CS _ _ _ ((q24).below m35).rd).mono ?_
          rintro e w38 ⟨⟨a39, c40, rfl, q41⟩, hb42⟩
          refine hK.out _ _ (hHeld.trans (hb42.mono hHeld.size)) (fun hHeld => ?_)
          have m43 := m34.trans (hb42.mono m34.size)
          have m44 := m35.trans (hb42.mono m35.size)
          have m45 := m36.trans (hb42.mono m36.size)
          have m46 := Below.refl w38.heap.size w38
          clear hK K
          have u47 : w2.heap.size ≤ _ := u37
          have u48 : w2.heap.size ≤ w38.heap.size := hHeld.size
          refine held_take (i := 5) 26 (v := .tuple #[.agg #[.string o.wd, .int .i64 o.tr, .slice a39 o.ths.length c40, .int .i64 o.la, .string o.ch, .int .i64 o.ct], .bool rb]) rfl rfl (by kernel_rfl) (by kernel_rfl) (by kernel_rfl) (fun _ _ _ h => h) (Or.inl ⟨by rfl, fun V hS => by go_simp⟩) hHeld ?_
          simp only [Act.put, List.setIfInBounds_toArray, List.set_cons_zero, List.set_cons_succ]
          refine held_take (i := 6) 32 (v := .agg #[.string o.wd, .int .i64 o.tr, .slice a39 o.ths.length c40, .int .i64 o.la, .string o.ch, .int .i64 o.ct]) rfl rfl (by kernel_rfl) (by kernel_rfl) (by kernel_rfl) (fun _ _ _ h => h) (Or.inl ⟨by rfl, fun V hS => by go_simp⟩) hHeld ?_
          simp only [Act.put, List.setIfInBounds_toArray, List.set_cons_zero, List.set_cons_succ]
          refine held_take (i := 7) 33 (v := .bool rb) rfl rfl (by kernel_rfl) (by kernel_rfl) (by kernel_rfl) (fun _ _ _ h => h) (Or.inl ⟨by rfl, fun V hS => by go_simp⟩) hHeld ?_
          simp only [Act.put, List.setIfInBounds_toArray, List.set_cons_zero, List.set_cons_succ]
          refine wpAnyH_ready (rs := [8]) (by kernel_rfl) (by simp) ?_
          refine AllReadyH.cons rfl (fun K hK => ?_) AllReadyH.nil
          go_simp
          have q49 := CB.new w38 #[.string ⟨#[]⟩, .int .i64 0, .slice none 0 0, .int .i64 0, .string ⟨#[]⟩, .int .i64 0] 33
          refine hK.out _ _ (hHeld.alloc hHeld.size _) (fun hHeld => ?_)
          have m50 := m43.alloc m43.size (.cells #[.string ⟨#[]⟩, .int .i64 0, .slice none 0 0, .int .i64 0, .string ⟨#[]⟩, .int .i64 0] 33)
          have m51 := m44.alloc m44.size (.cells #[.string ⟨#[]⟩, .int .i64 0, .slice none 0 0, .int .i64 0, .string ⟨#[]⟩, .int .i64 0] 33)
          have m52 := m45.alloc m45.size (.cells #[.string ⟨#[]⟩, .int .i64 0, .slice none 0 0, .int .i64 0, .string ⟨#[]⟩, .int .i64 0] 33)
          have m53 := m46.alloc m46.size (.cells #[.string ⟨#[]⟩, .int .i64 0, .slice none 0 0, .int .i64 0, .string ⟨#[]⟩, .int .i64 0] 33)
          have m54 := Below.refl (w38.alloc (.cells #[.string ⟨#[]⟩, .int .i64 0, .slice none 0 0, .int .i64 0, .string ⟨#[]⟩, .int .i64 0] 33)).heap.size (w38.alloc (.cells #[.string ⟨#[]⟩, .int .i64 0, .slice none 0 0, .int .i64 0, .string ⟨#[]⟩, .int .i64 0] 33))
          clear hK K
          have u55 : w2.heap.size ≤ (w38.alloc (.cells #[.string ⟨#[]⟩, .int .i64 0, .slice none 0 0, .int .i64 0, .string ⟨#[]⟩, .int .i64 0] 33)).heap.size := hHeld.size
          refine wpAnyH_ready (rs := [9]) (by kernel_rfl) (by simp) ?_
          refine AllReadyH.cons rfl (fun K hK => ?_) AllReadyH.nil
          have hGG := q49.step m54
          refine step_store_all (P := Try.prog) rfl 33 (.tmp 6) (.tmp 32) rfl #[.string o.wd, .int .i64 o.tr, .slice a39 o.ths.length c40, .int .i64 o.la, .string o.ch, .int .i64 o.ct] rfl rfl hGG rfl (by simp [Value.oneCell']) (by kernel_rfl) ?_
          have hS9 := setRow_heap _ _ _ #[.string o.wd, .int .i64 o.tr, .slice a39 o.ths.length c40, .int .i64 o.la, .string o.ch, .int .i64 o.ct] 33 (0, 0) hGG
          have hB9 : Below w2.heap.size w2 _ := Go.below_setRow hHeld (show w2.heap.size ≤ _ from u48) #[.string o.wd, .int .i64 o.tr, .slice a39 o.ths.length c40, .int .i64 o.la, .string o.ch, .int .i64 o.ct]
          have hR9 := (q41.below m53).setRowN (g := _) (cs := #[.string o.wd, .int .i64 o.tr, .slice a39 o.ths.length c40, .int .i64 o.la, .string o.ch, .int .i64 o.ct]) (T := 33) hGG (by decide)
          refine hK.out _ _ hB9 (fun hHeld => ?_)
          clear hK K
          refine held_take (i := 10) 7 (v := .bool rb) rfl rfl (by kernel_rfl) (by kernel_rfl) (by kernel_rfl) (fun _ _ _ h => h) (Or.inl ⟨by rfl, fun V hS => by go_simp⟩) hHeld ?_
          simp only [Act.put, List.setIfInBounds_toArray]
          refine wpAnyH_done (by kernel_rfl) ?_ _
          go_wp2_with fail
          go_meet
          case rel =>
            exact ⟨a39, c40, _, rfl, rfl, hS9, hR9.low (base' := bs17) (by rw [hbs17]; exact u47), (unhide k14).step hHeld, (unhide k15).step hHeld, (unhide T16).trans (hHeld.mono (unhide T16).size), (by rw [hbs17]; exact u48), hHeld.size⟩
        · go_simp
          have q56 := CB.new w29 #[.string ⟨#[]⟩, .int .i64 0, .slice none 0 0, .int .i64 0, .string ⟨#[]⟩, .int .i64 0] 33
          refine hK.out _ _ (hHeld.alloc hHeld.size _) (fun hHeld => ?_)
          have m57 := m34.alloc m34.size (.cells #[.string ⟨#[]⟩, .int .i64 0, .slice none 0 0, .int .i64 0, .string ⟨#[]⟩, .int .i64 0] 33)
          have m58 := m35.alloc m35.size (.cells #[.string ⟨#[]⟩, .int .i64 0, .slice none 0 0, .int .i64 0, .string ⟨#[]⟩, .int .i64 0] 33)
          have m59 := m36.alloc m36.size (.cells #[.string ⟨#[]⟩, .int .i64 0, .slice none 0 0, .int .i64 0, .string ⟨#[]⟩, .int .i64 0] 33)
          have m60 := Below.refl (w29.alloc (.cells #[.string ⟨#[]⟩, .int .i64 0, .slice none 0 0, .int .i64 0, .string ⟨#[]⟩, .int .i64 0] 33)).heap.size (w29.alloc (.cells #[.string ⟨#[]⟩, .int .i64 0, .slice none 0 0, .int .i64 0, .string ⟨#[]⟩, .int .i64 0] 33))
          clear hK K
          have u61 : w2.heap.size ≤ (w29.alloc (.cells #[.string ⟨#[]⟩, .int .i64 0, .slice none 0 0, .int .i64 0, .string ⟨#[]⟩, .int .i64 0] 33)).heap.size := hHeld.size
          refine wpAnyH_ready (rs := [4]) (by kernel_rfl) (by simp) ?_
          refine AllReadyH.cons rfl (fun K hK => ?_) AllReadyH.nil
          go_simp
          refine (unhide CS _ _ _ ((q24).below m58).rd).mono ?_
          rintro e w62 ⟨⟨a63, c64, rfl, q65⟩, hb66⟩
          refine hK.out _ _ (hHeld.trans (hb66.mono hHeld.size)) (fun hHeld => ?_)
          have m67 := m57.trans (hb66.mono m57.size)
          have m68 := m58.trans (hb66.mono m58.size)
          have m69 := m59.trans (hb66.mono m59.size)
          have m70 := m60.trans (hb66.mono m60.size)
          have m71 := Below.refl w62.heap.size w62
          clear hK K
          have u72 : w2.heap.size ≤ _ := u61
          have u73 : w2.heap.size ≤ w62.heap.size := hHeld.size
          refine held_take (i := 5) 26 (v := .tuple #[.agg #[.string o.wd, .int .i64 o.tr, .slice a63 o.ths.length c64, .int .i64 o.la, .string o.ch, .int .i64 o.ct], .bool rb]) rfl rfl (by kernel_rfl) (by kernel_rfl) (by kernel_rfl) (fun _ _ _ h => h) (Or.inl ⟨by rfl, fun V hS => by go_simp⟩) hHeld ?_
          simp only [Act.put, List.setIfInBounds_toArray, List.set_cons_zero, List.set_cons_succ]
          refine held_take (i := 6) 32 (v := .agg #[.string o.wd, .int .i64 o.tr, .slice a63 o.ths.length c64, .int .i64 o.la, .string o.ch, .int .i64 o.ct]) rfl rfl (by kernel_rfl) (by kernel_rfl) (by kernel_rfl) (fun _ _ _ h => h) (Or.inl ⟨by rfl, fun V hS => by go_simp⟩) hHeld ?_
          simp only [Act.put, List.setIfInBounds_toArray, List.set_cons_zero, List.set_cons_succ]
          refine held_take (i := 7) 33 (v := .bool rb) rfl rfl (by kernel_rfl) (by kernel_rfl) (by kernel_rfl) (fun _ _ _ h => h) (Or.inl ⟨by rfl, fun V hS => by go_simp⟩) hHeld ?_
          simp only [Act.put, List.setIfInBounds_toArray, List.set_cons_zero, List.set_cons_succ]
          refine wpAnyH_ready (rs := [9]) (by kernel_rfl) (by simp) ?_
          refine AllReadyH.cons rfl (fun K hK => ?_) AllReadyH.nil
          have hGG := q56.step m70
          refine step_store_all (P := Try.prog) rfl 33 (.tmp 6) (.tmp 32) rfl #[.string o.wd, .int .i64 o.tr, .slice a63 o.ths.length c64, .int .i64 o.la, .string o.ch, .int .i64 o.ct] rfl rfl hGG rfl (by simp [Value.oneCell']) (by kernel_rfl) ?_
          have hS9 := setRow_heap _ _ _ #[.string o.wd, .int .i64 o.tr, .slice a63 o.ths.length c64, .int .i64 o.la, .string o.ch, .int .i64 o.ct] 33 (0, 0) hGG
          have hB9 : Below w2.heap.size w2 _ := Go.below_setRow hHeld (show w2.heap.size ≤ _ from u37) #[.string o.wd, .int .i64 o.tr, .slice a63 o.ths.length c64, .int .i64 o.la, .string o.ch, .int .i64 o.ct]
          have hR9 := (q65.below m71).setRowN (g := _) (cs := #[.string o.wd, .int .i64 o.tr, .slice a63 o.ths.length c64, .int .i64 o.la, .string o.ch, .int .i64 o.ct]) (T := 33) hGG (by decide)
          refine hK.out _ _ hB9 (fun hHeld => ?_)
          clear hK K
          refine held_take (i := 10) 7 (v := .bool rb) rfl rfl (by kernel_rfl) (by kernel_rfl) (by kernel_rfl) (fun _ _ _ h => h) (Or.inl ⟨by rfl, fun V hS => by go_simp⟩) hHeld ?_
          simp only [Act.put, List.setIfInBounds_toArray]
          refine wpAnyH_done (by kernel_rfl) ?_ _
          go_wp2_with fail
          go_meet
          case rel =>
            exact ⟨a63, c64, _, rfl, rfl, hS9, hR9.low (base' := bs17) (by rw [hbs17]; exact u72), (unhide k14).step hHeld, (unhide k15).step hHeld, (unhide T16).trans (hHeld.mono (unhide T16).size), (by rw [hbs17]; exact u37), hHeld.size⟩
      · go_simp
        have q74 := CB.new w21 #[.string ⟨#[]⟩, .int .i64 0, .slice none 0 0, .int .i64 0, .string ⟨#[]⟩, .int .i64 0] 33
        refine hK.out _ _ (hHeld.alloc hHeld.size _) (fun hHeld => ?_)
        have m75 := m26.alloc m26.size (.cells #[.string ⟨#[]⟩, .int .i64 0, .slice none 0 0, .int .i64 0, .string ⟨#[]⟩, .int .i64 0] 33)
        have m76 := m27.alloc m27.size (.cells #[.string ⟨#[]⟩, .int .i64 0, .slice none 0 0, .int .i64 0, .string ⟨#[]⟩, .int .i64 0] 33)
        have m77 := Below.refl (w21.alloc (.cells #[.string ⟨#[]⟩, .int .i64 0, .slice none 0 0, .int .i64 0, .string ⟨#[]⟩, .int .i64 0] 33)).heap.size (w21.alloc (.cells #[.string ⟨#[]⟩, .int .i64 0, .slice none 0 0, .int .i64 0, .string ⟨#[]⟩, .int .i64 0] 33))
        clear hK K
        have u78 : w2.heap.size ≤ (w21.alloc (.cells #[.string ⟨#[]⟩, .int .i64 0, .slice none 0 0, .int .i64 0, .string ⟨#[]⟩, .int .i64 0] 33)).heap.size := hHeld.size
        refine wpAnyH_ready (rs := [3]) (by kernel_rfl) (by simp) ?_
        refine AllReadyH.cons rfl (fun K hK => ?_) AllReadyH.nil
        go_simp
        refine (unhide CQ _).mono ?_
        rintro e w79 ⟨rfl, hb83⟩
        refine hK.out _ _ (hHeld.trans (hb83.mono hHeld.size)) (fun hHeld => ?_)
        have m84 := m75.trans (hb83.mono m75.size)
        have m85 := m76.trans (hb83.mono m76.size)
        have m86 := m77.trans (hb83.mono m77.size)
        have m87 := Below.refl w79.heap.size w79
        clear hK K
        have u88 : w2.heap.size ≤ w79.heap.size := hHeld.size
        refine wpAnyH_ready (rs := [4]) (by kernel_rfl) (by simp) ?_
        refine AllReadyH.cons rfl (fun K hK => ?_) AllReadyH.nil
        go_simp
        refine (unhide CS _ _ _ ((q24).below m85).rd).mono ?_
        rintro e w89 ⟨⟨a90, c91, rfl, q92⟩, hb93⟩
        refine hK.out _ _ (hHeld.trans (hb93.mono hHeld.size)) (fun hHeld => ?_)
        have m94 := m84.trans (hb93.mono m84.size)
        have m95 := m85.trans (hb93.mono m85.size)
        have m96 := m86.trans (hb93.mono m86.size)
        have m97 := m87.trans (hb93.mono m87.size)
        have m98 := Below.refl w89.heap.size w89
        clear hK K
        have u99 : w2.heap.size ≤ _ := u88
        have u100 : w2.heap.size ≤ w89.heap.size := hHeld.size
        refine held_take (i := 5) 26 (v := .tuple #[.agg #[.string o.wd, .int .i64 o.tr, .slice a90 o.ths.length c91, .int .i64 o.la, .string o.ch, .int .i64 o.ct], .bool rb]) rfl rfl (by kernel_rfl) (by kernel_rfl) (by kernel_rfl) (fun _ _ _ h => h) (Or.inl ⟨by rfl, fun V hS => by go_simp⟩) hHeld ?_
        simp only [Act.put, List.setIfInBounds_toArray, List.set_cons_zero, List.set_cons_succ]
        refine held_take (i := 6) 32 (v := .agg #[.string o.wd, .int .i64 o.tr, .slice a90 o.ths.length c91, .int .i64 o.la, .string o.ch, .int .i64 o.ct]) rfl rfl (by kernel_rfl) (by kernel_rfl) (by kernel_rfl) (fun _ _ _ h => h) (Or.inl ⟨by rfl, fun V hS => by go_simp⟩) hHeld ?_
        simp only [Act.put, List.setIfInBounds_toArray, List.set_cons_zero, List.set_cons_succ]
        refine held_take (i := 7) 33 (v := .bool rb) rfl rfl (by kernel_rfl) (by kernel_rfl) (by kernel_rfl) (fun _ _ _ h => h) (Or.inl ⟨by rfl, fun V hS => by go_simp⟩) hHeld ?_
        simp only [Act.put, List.setIfInBounds_toArray, List.set_cons_zero, List.set_cons_succ]
        refine wpAnyH_ready (rs := [9]) (by kernel_rfl) (by simp) ?_
        refine AllReadyH.cons rfl (fun K hK => ?_) AllReadyH.nil
        have hGG := q74.step m96
        refine step_store_all (P := Try.prog) rfl 33 (.tmp 6) (.tmp 32) rfl #[.string o.wd, .int .i64 o.tr, .slice a90 o.ths.length c91, .int .i64 o.la, .string o.ch, .int .i64 o.ct] rfl rfl hGG rfl (by simp [Value.oneCell']) (by kernel_rfl) ?_
        have hS9 := setRow_heap _ _ _ #[.string o.wd, .int .i64 o.tr, .slice a90 o.ths.length c91, .int .i64 o.la, .string o.ch, .int .i64 o.ct] 33 (0, 0) hGG
        have hB9 : Below w2.heap.size w2 _ := Go.below_setRow hHeld (show w2.heap.size ≤ _ from u28) #[.string o.wd, .int .i64 o.tr, .slice a90 o.ths.length c91, .int .i64 o.la, .string o.ch, .int .i64 o.ct]
        have hR9 := (q92.below m98).setRowN (g := _) (cs := #[.string o.wd, .int .i64 o.tr, .slice a90 o.ths.length c91, .int .i64 o.la, .string o.ch, .int .i64 o.ct]) (T := 33) hGG (by decide)
        refine hK.out _ _ hB9 (fun hHeld => ?_)
        clear hK K
        refine held_take (i := 10) 7 (v := .bool rb) rfl rfl (by kernel_rfl) (by kernel_rfl) (by kernel_rfl) (fun _ _ _ h => h) (Or.inl ⟨by rfl, fun V hS => by go_simp⟩) hHeld ?_
        simp only [Act.put, List.setIfInBounds_toArray]
        refine wpAnyH_done (by kernel_rfl) ?_ _
        go_wp2_with fail
        go_meet
        case rel =>
          exact ⟨a90, c91, _, rfl, rfl, hS9, hR9.low (base' := bs17) (by rw [hbs17]; exact u99), (unhide k14).step hHeld, (unhide k15).step hHeld, (unhide T16).trans (hHeld.mono (unhide T16).size), (by rw [hbs17]; exact u28), hHeld.size⟩
    · go_simp
      have q101 := CB.new w2.drew #[.string ⟨#[]⟩, .int .i64 0, .slice none 0 0, .int .i64 0, .string ⟨#[]⟩, .int .i64 0] 33
      refine hK.out _ _ (hHeld.alloc hHeld.size _) (fun hHeld => ?_)
      have m102 := m0.alloc m0.size (.cells #[.string ⟨#[]⟩, .int .i64 0, .slice none 0 0, .int .i64 0, .string ⟨#[]⟩, .int .i64 0] 33)
      have m103 := Below.refl (w2.drew.alloc (.cells #[.string ⟨#[]⟩, .int .i64 0, .slice none 0 0, .int .i64 0, .string ⟨#[]⟩, .int .i64 0] 33)).heap.size (w2.drew.alloc (.cells #[.string ⟨#[]⟩, .int .i64 0, .slice none 0 0, .int .i64 0, .string ⟨#[]⟩, .int .i64 0] 33))
      clear hK K
      have u104 : w2.heap.size ≤ (w2.drew.alloc (.cells #[.string ⟨#[]⟩, .int .i64 0, .slice none 0 0, .int .i64 0, .string ⟨#[]⟩, .int .i64 0] 33)).heap.size := hHeld.size
      refine wpAnyH_ready (rs := [1]) (by kernel_rfl) (by simp) ?_
      refine AllReadyH.cons rfl (fun K hK => ?_) AllReadyH.nil
      go_simp
      refine (unhide CT _ _ _ ((unhide HU).below ((unhide T16).trans (m102.mono (unhide T16).size)))).mono ?_
      rintro e w105 ⟨⟨a106, c107, rfl, q108⟩, hb109⟩
      refine hK.out _ _ (hHeld.trans (hb109.mono hHeld.size)) (fun hHeld => ?_)
      have m110 := m102.trans (hb109.mono m102.size)
      have m111 := m103.trans (hb109.mono m103.size)
      have m112 := Below.refl w105.heap.size w105
      clear hK K
      have u113 : w2.heap.size ≤ w105.heap.size := hHeld.size
      refine wpAnyH_ready (rs := [3]) (by kernel_rfl) (by simp) ?_
      refine AllReadyH.cons rfl (fun K hK => ?_) AllReadyH.nil
      go_simp
      refine (unhide CQ _).mono ?_
      rintro e w114 ⟨rfl, hb118⟩
      refine hK.out _ _ (hHeld.trans (hb118.mono hHeld.size)) (fun hHeld => ?_)
      have m119 := m110.trans (hb118.mono m110.size)
      have m120 := m111.trans (hb118.mono m111.size)
      have m121 := m112.trans (hb118.mono m112.size)
      have m122 := Below.refl w114.heap.size w114
      clear hK K
      have u123 : w2.heap.size ≤ w114.heap.size := hHeld.size
      refine wpAnyH_ready (rs := [4]) (by kernel_rfl) (by simp) ?_
      refine AllReadyH.cons rfl (fun K hK => ?_) AllReadyH.nil
      go_simp
      refine (unhide CS _ _ _ ((q108).below m121).rd).mono ?_
      rintro e w124 ⟨⟨a125, c126, rfl, q127⟩, hb128⟩
      refine hK.out _ _ (hHeld.trans (hb128.mono hHeld.size)) (fun hHeld => ?_)
      have m129 := m119.trans (hb128.mono m119.size)
      have m130 := m120.trans (hb128.mono m120.size)
      have m131 := m121.trans (hb128.mono m121.size)
      have m132 := m122.trans (hb128.mono m122.size)
      have m133 := Below.refl w124.heap.size w124
      clear hK K
      have u134 : w2.heap.size ≤ _ := u123
      have u135 : w2.heap.size ≤ w124.heap.size := hHeld.size
      refine held_take (i := 5) 26 (v := .tuple #[.agg #[.string o.wd, .int .i64 o.tr, .slice a125 o.ths.length c126, .int .i64 o.la, .string o.ch, .int .i64 o.ct], .bool rb]) rfl rfl (by kernel_rfl) (by kernel_rfl) (by kernel_rfl) (fun _ _ _ h => h) (Or.inl ⟨by rfl, fun V hS => by go_simp⟩) hHeld ?_
      simp only [Act.put, List.setIfInBounds_toArray, List.set_cons_zero, List.set_cons_succ]
      refine held_take (i := 6) 32 (v := .agg #[.string o.wd, .int .i64 o.tr, .slice a125 o.ths.length c126, .int .i64 o.la, .string o.ch, .int .i64 o.ct]) rfl rfl (by kernel_rfl) (by kernel_rfl) (by kernel_rfl) (fun _ _ _ h => h) (Or.inl ⟨by rfl, fun V hS => by go_simp⟩) hHeld ?_
      simp only [Act.put, List.setIfInBounds_toArray, List.set_cons_zero, List.set_cons_succ]
      refine held_take (i := 7) 33 (v := .bool rb) rfl rfl (by kernel_rfl) (by kernel_rfl) (by kernel_rfl) (fun _ _ _ h => h) (Or.inl ⟨by rfl, fun V hS => by go_simp⟩) hHeld ?_
      simp only [Act.put, List.setIfInBounds_toArray, List.set_cons_zero, List.set_cons_succ]
      refine wpAnyH_ready (rs := [9]) (by kernel_rfl) (by simp) ?_
      refine AllReadyH.cons rfl (fun K hK => ?_) AllReadyH.nil
      have hGG := q101.step m130
      refine step_store_all (P := Try.prog) rfl 33 (.tmp 6) (.tmp 32) rfl #[.string o.wd, .int .i64 o.tr, .slice a125 o.ths.length c126, .int .i64 o.la, .string o.ch, .int .i64 o.ct] rfl rfl hGG rfl (by simp [Value.oneCell']) (by kernel_rfl) ?_
      have hS9 := setRow_heap _ _ _ #[.string o.wd, .int .i64 o.tr, .slice a125 o.ths.length c126, .int .i64 o.la, .string o.ch, .int .i64 o.ct] 33 (0, 0) hGG
      have hB9 : Below w2.heap.size w2 _ := Go.below_setRow hHeld (show w2.heap.size ≤ _ from u0) #[.string o.wd, .int .i64 o.tr, .slice a125 o.ths.length c126, .int .i64 o.la, .string o.ch, .int .i64 o.ct]
      have hR9 := (q127.below m133).setRowN (g := _) (cs := #[.string o.wd, .int .i64 o.tr, .slice a125 o.ths.length c126, .int .i64 o.la, .string o.ch, .int .i64 o.ct]) (T := 33) hGG (by decide)
      refine hK.out _ _ hB9 (fun hHeld => ?_)
      clear hK K
      refine held_take (i := 10) 7 (v := .bool rb) rfl rfl (by kernel_rfl) (by kernel_rfl) (by kernel_rfl) (fun _ _ _ h => h) (Or.inl ⟨by rfl, fun V hS => by go_simp⟩) hHeld ?_
      simp only [Act.put, List.setIfInBounds_toArray]
      refine wpAnyH_done (by kernel_rfl) ?_ _
      go_wp2_with fail
      go_meet
      case rel =>
        exact ⟨a125, c126, _, rfl, rfl, hS9, hR9.low (base' := bs17) (by rw [hbs17]; exact u134), (unhide k14).step hHeld, (unhide k15).step hHeld, (unhide T16).trans (hHeld.mono (unhide T16).size), (by rw [hbs17]; exact u0), hHeld.size⟩
  case rest =>
  obtain ⟨a18, c19, g20, rfl, rfl, k139, o140, k136, k137, T138, l141, z142⟩ := hcut
  replace k139 := hide k139
  replace k136 := hide k136
  replace k137 := hide k137
  replace o140 := hide o140
  replace T138 := hide T138
  replace hbs17 := hide hbs17
  clear k14 k15 T16
  obtain ⟨bs143, hbs143⟩ : ∃ z, z = wc.heap.size := ⟨_, rfl⟩
  have wb_bs143 : w.heap.size ≤ bs143 := by rw [hbs143]; exact (unhide T138).size
  have sp_w0_bs143 : ∀ k, ((.slice a18 o.ths.length c19) : Value).ownBlock = some k → k < bs143 := fun k hk => by rw [hbs143]; exact ((unhide o140).lt k hk).2
  replace hbs143 := hide hbs143
  go_upto_region 10 with (first
    | (refine wpList_load_row (P := Try.prog) rfl 24 (.tmp 2) rfl w.heap.size rfl 24 #[.string b.wd, .int .i64 b.tr, .slice a b.ths.length c, .int .i64 b.la, .string b.ch, .int .i64 b.ct] (0, 0) _ (unhide k136) Try.underlying24 rfl rfl ?_)
    | (go_at_call 8; refine (unhide CT _ _ _ ((unhide HU).below (unhide T138))).mono ?_; rintro e w146 ⟨⟨a144, c145, rfl, o147⟩, hb148⟩; have HGm := hide (CB.new w146 #[.string ⟨#[]⟩, .int .i64 0, .slice none 0 0, .int .i64 0, .string ⟨#[]⟩, .int .i64 0] 33))
    | (refine wpList_store_row (P := Try.prog) rfl 33 (.tmp 8) (.tmp 35) rfl w146.heap.size #[.string b.wd, .int .i64 b.tr, .slice a144 b.ths.length c145, .int .i64 b.la, .string b.ch, .int .i64 b.ct] rfl rfl 33 _ (unhide HGm) rfl rfl (bkc_one _ _ _ _ _ _ _ _) ?_)
    | fail)
  have hGm := setRow_heap _ w146.heap.size _ #[.string b.wd, .int .i64 b.tr, .slice a144 b.ths.length c145, .int .i64 b.la, .string b.ch, .int .i64 b.ct] 33 (0, 0) (unhide HGm)
  have hbM := Go.below_setRow ((Below.refl w146.heap.size w146).alloc (Nat.le_refl _) (.cells #[.string ⟨#[]⟩, .int .i64 0, .slice none 0 0, .int .i64 0, .string ⟨#[]⟩, .int .i64 0] 33)) (Nat.le_refl _) #[.string b.wd, .int .i64 b.tr, .slice a144 b.ths.length c145, .int .i64 b.la, .string b.ch, .int .i64 b.ct]
  have hbN := hb148.trans (hbM.mono hb148.size)
  obtain ⟨g149, hgm⟩ : ∃ z, z = w146.heap.size := ⟨_, rfl⟩
  have l150 : bs143 ≤ g149 := by rw [hgm, unhide hbs143]; exact hb148.size
  refine wp_gen (fun V => CB V w146.heap.size 33 #[.string b.wd, .int .i64 b.tr, .slice a144 b.ths.length c145, .int .i64 b.la, .string b.ch, .int .i64 b.ct] ∧ CB V g20 33 #[.string o.wd, .int .i64 o.tr, .slice a18 o.ths.length c19, .int .i64 o.la, .string o.ch, .int .i64 o.ct] ∧ CB V w.heap.size 24 #[.string b.wd, .int .i64 b.tr, .slice a b.ths.length c, .int .i64 b.la, .string b.ch, .int .i64 b.ct] ∧ CB V (w.heap.size + 1) 28 #[.int .i64 r.kd, .string r.tx, .int .i64 r.nm, .int .i64 r.th.id, .int .i64 r.th.kind, .bool r.th.hid, .bool r.th.fix, .bool r.th.sgn, .bool r.th.wrp, .string r.th.val, .int .i64 r.th.nxt] ∧ OwnN thY V bs143 37 (.slice a144 b.ths.length c145) b.ths ∧ OwnN thY V bs17 37 (.slice a18 o.ths.length c19) o.ths ∧ Below w.heap.size w V) ⟨hGm, (unhide k139).step hbN, (unhide k136).step hbN, (unhide k137).step hbN, (by rw [unhide hbs143]; exact o147.below hbM), (unhide o140).below hbN, (unhide T138).trans (hbN.mono (unhide T138).size)⟩ ?_
  clear k139 k136 k137 o140 T138 hGm hbM hbN hb148 o147 HGm
  rw [← hgm]
  replace hgm := hide hgm
  rintro V153 ⟨k154, k155, k156, k157, o158, o159, T160⟩
  replace k154 := hide k154
  replace k155 := hide k155
  replace k156 := hide k156
  replace k157 := hide k157
  replace o158 := hide o158
  replace o159 := hide o159
  replace T160 := hide T160
  clear hgm
  obtain ⟨bs161, hbs161⟩ : ∃ z, z = V153.heap.size := ⟨_, rfl⟩
  have wb_bs161 : w.heap.size ≤ bs161 := by rw [hbs161]; exact (unhide T160).size
  have sp_x0_bs161 : ∀ k, ((.slice a144 b.ths.length c145) : Value).ownBlock = some k → k < bs161 := fun k hk => by rw [hbs161]; exact ((unhide o158).lt k hk).2
  have sp_w0_bs161 : ∀ k, ((.slice a18 o.ths.length c19) : Value).ownBlock = some k → k < bs161 := fun k hk => by rw [hbs161]; exact ((unhide o159).lt k hk).2
  simp only [Act.put]
  go_cut [9, 10] (fun t9 t10 wx => ∃ (a162 : Option Addr) (c163 : Nat) (g164 : Nat), t9 = .pointer (some ⟨g164, 0, none⟩) ∧ t10 = .bool rb ∧ CB wx g164 33 #[.string o.wd, .int .i64 o.tr, .slice a162 o.ths.length c163, .int .i64 o.la, .string o.ch, .int .i64 o.ct] ∧ OwnN thY wx bs161 37 (.slice a162 o.ths.length c163) o.ths ∧ CB wx g149 33 #[.string b.wd, .int .i64 b.tr, .slice a144 b.ths.length c145, .int .i64 b.la, .string b.ch, .int .i64 b.ct] ∧ CB wx g20 33 #[.string o.wd, .int .i64 o.tr, .slice a18 o.ths.length c19, .int .i64 o.la, .string o.ch, .int .i64 o.ct] ∧ CB wx w.heap.size 24 #[.string b.wd, .int .i64 b.tr, .slice a b.ths.length c, .int .i64 b.la, .string b.ch, .int .i64 b.ct] ∧ CB wx (w.heap.size + 1) 28 #[.int .i64 r.kd, .string r.tx, .int .i64 r.nm, .int .i64 r.th.id, .int .i64 r.th.kind, .bool r.th.hid, .bool r.th.fix, .bool r.th.sgn, .bool r.th.wrp, .string r.th.val, .int .i64 r.th.nxt] ∧ OwnN thY wx bs143 37 (.slice a144 b.ths.length c145) b.ths ∧ OwnN thY wx bs17 37 (.slice a18 o.ths.length c19) o.ths ∧ Below w.heap.size w wx ∧ bs161 ≤ g164 ∧ V153.heap.size ≤ wx.heap.size)
  case first =>
    refine wp_region_held_drew (S := fun V => Below V153.heap.size V153 V) (by kernel_rfl) (Below.refl _ V153).drew (fun hHeld => ?_)
    refine held_take (i := 0) 37 (v := .agg #[.string b.wd, .int .i64 b.tr, .slice a144 b.ths.length c145, .int .i64 b.la, .string b.ch, .int .i64 b.ct]) rfl rfl (by kernel_rfl) (by kernel_rfl) (by kernel_rfl) (fun _ _ _ h => h) (Or.inl ⟨by rfl, fun V hS => by have kx := (unhide k154).step hS; have x0 := kx.cell 0 (v := .string b.wd) rfl; have x1 := kx.cell 1 (v := .int .i64 b.tr) rfl; have x2 := kx.cell 2 (v := .slice a144 b.ths.length c145) rfl; have x3 := kx.cell 3 (v := .int .i64 b.la) rfl; have x4 := kx.cell 4 (v := .string b.ch) rfl; have x5 := kx.cell 5 (v := .int .i64 b.ct) rfl; go_simp⟩) hHeld ?_
    simp only [Act.put, List.setIfInBounds_toArray, List.set_cons_zero, List.set_cons_succ]
    refine held_take (i := 1) 38 (v := .agg #[.int .i64 r.kd, .string r.tx, .int .i64 r.nm, .int .i64 r.th.id, .int .i64 r.th.kind, .bool r.th.hid, .bool r.th.fix, .bool r.th.sgn, .bool r.th.wrp, .string r.th.val, .int .i64 r.th.nxt]) rfl rfl (by kernel_rfl) (by kernel_rfl) (by kernel_rfl) (fun _ _ _ h => h) (Or.inl ⟨by rfl, fun V hS => by have kx := (unhide k157).step hS; have x0 := kx.cell 0 (v := .int .i64 r.kd) rfl; have x1 := kx.cell 1 (v := .string r.tx) rfl; have x2 := kx.cell 2 (v := .int .i64 r.nm) rfl; have x3 := kx.cell 3 (v := .int .i64 r.th.id) rfl; have x4 := kx.cell 4 (v := .int .i64 r.th.kind) rfl; have x5 := kx.cell 5 (v := .bool r.th.hid) rfl; have x6 := kx.cell 6 (v := .bool r.th.fix) rfl; have x7 := kx.cell 7 (v := .bool r.th.sgn) rfl; have x8 := kx.cell 8 (v := .bool r.th.wrp) rfl; have x9 := kx.cell 9 (v := .string r.th.val) rfl; have x10 := kx.cell 10 (v := .int .i64 r.th.nxt) rfl; go_simp⟩) hHeld ?_
    simp only [Act.put, List.setIfInBounds_toArray, List.set_cons_zero, List.set_cons_succ]
    have u0 : V153.heap.size ≤ V153.drew.heap.size := Nat.le_refl _
    have m0 : Below V153.heap.size V153 V153.drew := (Below.refl _ V153).drew
    refine wpAnyH_ready (rs := [2, 7]) (by kernel_rfl) (by simp) ?_
    refine AllReadyH.cons rfl (fun K hK => ?_) (AllReadyH.cons rfl (fun K hK => ?_) AllReadyH.nil)
    · go_simp
      refine (unhide CQ _).mono ?_
      rintro e w165 ⟨rfl, hb169⟩
      refine hK.out _ _ (hHeld.trans (hb169.mono hHeld.size)) (fun hHeld => ?_)
      have m170 := m0.trans (hb169.mono m0.size)
      have m171 := Below.refl w165.heap.size w165
      clear hK K
      have u172 : V153.heap.size ≤ w165.heap.size := hHeld.size
      refine wpAnyH_ready (rs := [3, 7]) (by kernel_rfl) (by simp) ?_
      refine AllReadyH.cons rfl (fun K hK => ?_) (AllReadyH.cons rfl (fun K hK => ?_) AllReadyH.nil)
      · go_simp
        refine (unhide CI _ _ _ ((unhide T160).trans (m170.mono (unhide T160).size)) ((unhide o158).below m170).rd).mono ?_
        rintro e w173 ⟨⟨a174, c175, rfl, q176⟩, hb177⟩
        refine hK.out _ _ (hHeld.trans (hb177.mono hHeld.size)) (fun hHeld => ?_)
        have m178 := m170.trans (hb177.mono m170.size)
        have m179 := m171.trans (hb177.mono m171.size)
        have m180 := Below.refl w173.heap.size w173
        clear hK K
        have u181 : V153.heap.size ≤ _ := u172
        have u182 : V153.heap.size ≤ w173.heap.size := hHeld.size
        refine held_take (i := 4) 36 (v := .tuple #[.agg #[.string o.wd, .int .i64 o.tr, .slice a174 o.ths.length c175, .int .i64 o.la, .string o.ch, .int .i64 o.ct], .bool rb]) rfl rfl (by kernel_rfl) (by kernel_rfl) (by kernel_rfl) (fun _ _ _ h => h) (Or.inl ⟨by rfl, fun V hS => by go_simp⟩) hHeld ?_
        simp only [Act.put, List.setIfInBounds_toArray, List.set_cons_zero, List.set_cons_succ]
        refine held_take (i := 5) 41 (v := .agg #[.string o.wd, .int .i64 o.tr, .slice a174 o.ths.length c175, .int .i64 o.la, .string o.ch, .int .i64 o.ct]) rfl rfl (by kernel_rfl) (by kernel_rfl) (by kernel_rfl) (fun _ _ _ h => h) (Or.inl ⟨by rfl, fun V hS => by go_simp⟩) hHeld ?_
        simp only [Act.put, List.setIfInBounds_toArray, List.set_cons_zero, List.set_cons_succ]
        refine held_take (i := 6) 42 (v := .bool rb) rfl rfl (by kernel_rfl) (by kernel_rfl) (by kernel_rfl) (fun _ _ _ h => h) (Or.inl ⟨by rfl, fun V hS => by go_simp⟩) hHeld ?_
        simp only [Act.put, List.setIfInBounds_toArray, List.set_cons_zero, List.set_cons_succ]
        refine wpAnyH_ready (rs := [7]) (by kernel_rfl) (by simp) ?_
        refine AllReadyH.cons rfl (fun K hK => ?_) AllReadyH.nil
        go_simp
        have q183 := CB.new w173 #[.string ⟨#[]⟩, .int .i64 0, .slice none 0 0, .int .i64 0, .string ⟨#[]⟩, .int .i64 0] 33
        refine hK.out _ _ (hHeld.alloc hHeld.size _) (fun hHeld => ?_)
        have m184 := m178.alloc m178.size (.cells #[.string ⟨#[]⟩, .int .i64 0, .slice none 0 0, .int .i64 0, .string ⟨#[]⟩, .int .i64 0] 33)
        have m185 := m179.alloc m179.size (.cells #[.string ⟨#[]⟩, .int .i64 0, .slice none 0 0, .int .i64 0, .string ⟨#[]⟩, .int .i64 0] 33)
        have m186 := m180.alloc m180.size (.cells #[.string ⟨#[]⟩, .int .i64 0, .slice none 0 0, .int .i64 0, .string ⟨#[]⟩, .int .i64 0] 33)
        have m187 := Below.refl (w173.alloc (.cells #[.string ⟨#[]⟩, .int .i64 0, .slice none 0 0, .int .i64 0, .string ⟨#[]⟩, .int .i64 0] 33)).heap.size (w173.alloc (.cells #[.string ⟨#[]⟩, .int .i64 0, .slice none 0 0, .int .i64 0, .string ⟨#[]⟩, .int .i64 0] 33))
        clear hK K
        have u188 : V153.heap.size ≤ (w173.alloc (.cells #[.string ⟨#[]⟩, .int .i64 0, .slice none 0 0, .int .i64 0, .string ⟨#[]⟩, .int .i64 0] 33)).heap.size := hHeld.size
        refine wpAnyH_ready (rs := [8]) (by kernel_rfl) (by simp) ?_
        refine AllReadyH.cons rfl (fun K hK => ?_) AllReadyH.nil
        have hGG := q183.step m187
        refine step_store_all (P := Try.prog) rfl 33 (.tmp 9) (.tmp 41) rfl #[.string o.wd, .int .i64 o.tr, .slice a174 o.ths.length c175, .int .i64 o.la, .string o.ch, .int .i64 o.ct] rfl rfl hGG rfl (by simp [Value.oneCell']) (by kernel_rfl) ?_
        have hS9 := setRow_heap _ _ _ #[.string o.wd, .int .i64 o.tr, .slice a174 o.ths.length c175, .int .i64 o.la, .string o.ch, .int .i64 o.ct] 33 (0, 0) hGG
        have hB9 : Below V153.heap.size V153 _ := Go.below_setRow hHeld (show V153.heap.size ≤ _ from u182) #[.string o.wd, .int .i64 o.tr, .slice a174 o.ths.length c175, .int .i64 o.la, .string o.ch, .int .i64 o.ct]
        have hR9 := (q176.below m186).setRowN (g := _) (cs := #[.string o.wd, .int .i64 o.tr, .slice a174 o.ths.length c175, .int .i64 o.la, .string o.ch, .int .i64 o.ct]) (T := 33) hGG (by decide)
        refine hK.out _ _ hB9 (fun hHeld => ?_)
        clear hK K
        refine held_take (i := 9) 10 (v := .bool rb) rfl rfl (by kernel_rfl) (by kernel_rfl) (by kernel_rfl) (fun _ _ _ h => h) (Or.inl ⟨by rfl, fun V hS => by go_simp⟩) hHeld ?_
        simp only [Act.put, List.setIfInBounds_toArray]
        refine wpAnyH_done (by kernel_rfl) ?_ _
        go_wp2_with fail
        go_meet
        case rel =>
          exact ⟨a174, c175, _, rfl, rfl, hS9, hR9.low (base' := bs161) (by rw [hbs161]; exact u181), (unhide k154).step hHeld, (unhide k155).step hHeld, (unhide k156).step hHeld, (unhide k157).step hHeld, (unhide o158).below hHeld, (unhide o159).below hHeld, (unhide T160).trans (hHeld.mono (unhide T160).size), (by rw [hbs161]; exact u182), hHeld.size⟩
      · go_simp
        have q189 := CB.new w165 #[.string ⟨#[]⟩, .int .i64 0, .slice none 0 0, .int .i64 0, .string ⟨#[]⟩, .int .i64 0] 33
        refine hK.out _ _ (hHeld.alloc hHeld.size _) (fun hHeld => ?_)
        have m190 := m170.alloc m170.size (.cells #[.string ⟨#[]⟩, .int .i64 0, .slice none 0 0, .int .i64 0, .string ⟨#[]⟩, .int .i64 0] 33)
        have m191 := m171.alloc m171.size (.cells #[.string ⟨#[]⟩, .int .i64 0, .slice none 0 0, .int .i64 0, .string ⟨#[]⟩, .int .i64 0] 33)
        have m192 := Below.refl (w165.alloc (.cells #[.string ⟨#[]⟩, .int .i64 0, .slice none 0 0, .int .i64 0, .string ⟨#[]⟩, .int .i64 0] 33)).heap.size (w165.alloc (.cells #[.string ⟨#[]⟩, .int .i64 0, .slice none 0 0, .int .i64 0, .string ⟨#[]⟩, .int .i64 0] 33))
        clear hK K
        have u193 : V153.heap.size ≤ (w165.alloc (.cells #[.string ⟨#[]⟩, .int .i64 0, .slice none 0 0, .int .i64 0, .string ⟨#[]⟩, .int .i64 0] 33)).heap.size := hHeld.size
        refine wpAnyH_ready (rs := [3]) (by kernel_rfl) (by simp) ?_
        refine AllReadyH.cons rfl (fun K hK => ?_) AllReadyH.nil
        go_simp
        refine (unhide CI _ _ _ ((unhide T160).trans (m190.mono (unhide T160).size)) ((unhide o158).below m190).rd).mono ?_
        rintro e w194 ⟨⟨a195, c196, rfl, q197⟩, hb198⟩
        refine hK.out _ _ (hHeld.trans (hb198.mono hHeld.size)) (fun hHeld => ?_)
        have m199 := m190.trans (hb198.mono m190.size)
        have m200 := m191.trans (hb198.mono m191.size)
        have m201 := m192.trans (hb198.mono m192.size)
        have m202 := Below.refl w194.heap.size w194
        clear hK K
        have u203 : V153.heap.size ≤ _ := u193
        have u204 : V153.heap.size ≤ w194.heap.size := hHeld.size
        refine held_take (i := 4) 36 (v := .tuple #[.agg #[.string o.wd, .int .i64 o.tr, .slice a195 o.ths.length c196, .int .i64 o.la, .string o.ch, .int .i64 o.ct], .bool rb]) rfl rfl (by kernel_rfl) (by kernel_rfl) (by kernel_rfl) (fun _ _ _ h => h) (Or.inl ⟨by rfl, fun V hS => by go_simp⟩) hHeld ?_
        simp only [Act.put, List.setIfInBounds_toArray, List.set_cons_zero, List.set_cons_succ]
        refine held_take (i := 5) 41 (v := .agg #[.string o.wd, .int .i64 o.tr, .slice a195 o.ths.length c196, .int .i64 o.la, .string o.ch, .int .i64 o.ct]) rfl rfl (by kernel_rfl) (by kernel_rfl) (by kernel_rfl) (fun _ _ _ h => h) (Or.inl ⟨by rfl, fun V hS => by go_simp⟩) hHeld ?_
        simp only [Act.put, List.setIfInBounds_toArray, List.set_cons_zero, List.set_cons_succ]
        refine held_take (i := 6) 42 (v := .bool rb) rfl rfl (by kernel_rfl) (by kernel_rfl) (by kernel_rfl) (fun _ _ _ h => h) (Or.inl ⟨by rfl, fun V hS => by go_simp⟩) hHeld ?_
        simp only [Act.put, List.setIfInBounds_toArray, List.set_cons_zero, List.set_cons_succ]
        refine wpAnyH_ready (rs := [8]) (by kernel_rfl) (by simp) ?_
        refine AllReadyH.cons rfl (fun K hK => ?_) AllReadyH.nil
        have hGG := q189.step m201
        refine step_store_all (P := Try.prog) rfl 33 (.tmp 9) (.tmp 41) rfl #[.string o.wd, .int .i64 o.tr, .slice a195 o.ths.length c196, .int .i64 o.la, .string o.ch, .int .i64 o.ct] rfl rfl hGG rfl (by simp [Value.oneCell']) (by kernel_rfl) ?_
        have hS9 := setRow_heap _ _ _ #[.string o.wd, .int .i64 o.tr, .slice a195 o.ths.length c196, .int .i64 o.la, .string o.ch, .int .i64 o.ct] 33 (0, 0) hGG
        have hB9 : Below V153.heap.size V153 _ := Go.below_setRow hHeld (show V153.heap.size ≤ _ from u172) #[.string o.wd, .int .i64 o.tr, .slice a195 o.ths.length c196, .int .i64 o.la, .string o.ch, .int .i64 o.ct]
        have hR9 := (q197.below m202).setRowN (g := _) (cs := #[.string o.wd, .int .i64 o.tr, .slice a195 o.ths.length c196, .int .i64 o.la, .string o.ch, .int .i64 o.ct]) (T := 33) hGG (by decide)
        refine hK.out _ _ hB9 (fun hHeld => ?_)
        clear hK K
        refine held_take (i := 9) 10 (v := .bool rb) rfl rfl (by kernel_rfl) (by kernel_rfl) (by kernel_rfl) (fun _ _ _ h => h) (Or.inl ⟨by rfl, fun V hS => by go_simp⟩) hHeld ?_
        simp only [Act.put, List.setIfInBounds_toArray]
        refine wpAnyH_done (by kernel_rfl) ?_ _
        go_wp2_with fail
        go_meet
        case rel =>
          exact ⟨a195, c196, _, rfl, rfl, hS9, hR9.low (base' := bs161) (by rw [hbs161]; exact u203), (unhide k154).step hHeld, (unhide k155).step hHeld, (unhide k156).step hHeld, (unhide k157).step hHeld, (unhide o158).below hHeld, (unhide o159).below hHeld, (unhide T160).trans (hHeld.mono (unhide T160).size), (by rw [hbs161]; exact u172), hHeld.size⟩
    · go_simp
      have q205 := CB.new V153.drew #[.string ⟨#[]⟩, .int .i64 0, .slice none 0 0, .int .i64 0, .string ⟨#[]⟩, .int .i64 0] 33
      refine hK.out _ _ (hHeld.alloc hHeld.size _) (fun hHeld => ?_)
      have m206 := m0.alloc m0.size (.cells #[.string ⟨#[]⟩, .int .i64 0, .slice none 0 0, .int .i64 0, .string ⟨#[]⟩, .int .i64 0] 33)
      have m207 := Below.refl (V153.drew.alloc (.cells #[.string ⟨#[]⟩, .int .i64 0, .slice none 0 0, .int .i64 0, .string ⟨#[]⟩, .int .i64 0] 33)).heap.size (V153.drew.alloc (.cells #[.string ⟨#[]⟩, .int .i64 0, .slice none 0 0, .int .i64 0, .string ⟨#[]⟩, .int .i64 0] 33))
      clear hK K
      have u208 : V153.heap.size ≤ (V153.drew.alloc (.cells #[.string ⟨#[]⟩, .int .i64 0, .slice none 0 0, .int .i64 0, .string ⟨#[]⟩, .int .i64 0] 33)).heap.size := hHeld.size
      refine wpAnyH_ready (rs := [2]) (by kernel_rfl) (by simp) ?_
      refine AllReadyH.cons rfl (fun K hK => ?_) AllReadyH.nil
      go_simp
      refine (unhide CQ _).mono ?_
      rintro e w209 ⟨rfl, hb213⟩
      refine hK.out _ _ (hHeld.trans (hb213.mono hHeld.size)) (fun hHeld => ?_)
      have m214 := m206.trans (hb213.mono m206.size)
      have m215 := m207.trans (hb213.mono m207.size)
      have m216 := Below.refl w209.heap.size w209
      clear hK K
      have u217 : V153.heap.size ≤ w209.heap.size := hHeld.size
      refine wpAnyH_ready (rs := [3]) (by kernel_rfl) (by simp) ?_
      refine AllReadyH.cons rfl (fun K hK => ?_) AllReadyH.nil
      go_simp
      refine (unhide CI _ _ _ ((unhide T160).trans (m214.mono (unhide T160).size)) ((unhide o158).below m214).rd).mono ?_
      rintro e w218 ⟨⟨a219, c220, rfl, q221⟩, hb222⟩
      refine hK.out _ _ (hHeld.trans (hb222.mono hHeld.size)) (fun hHeld => ?_)
      have m223 := m214.trans (hb222.mono m214.size)
      have m224 := m215.trans (hb222.mono m215.size)
      have m225 := m216.trans (hb222.mono m216.size)
      have m226 := Below.refl w218.heap.size w218
      clear hK K
      have u227 : V153.heap.size ≤ _ := u217
      have u228 : V153.heap.size ≤ w218.heap.size := hHeld.size
      refine held_take (i := 4) 36 (v := .tuple #[.agg #[.string o.wd, .int .i64 o.tr, .slice a219 o.ths.length c220, .int .i64 o.la, .string o.ch, .int .i64 o.ct], .bool rb]) rfl rfl (by kernel_rfl) (by kernel_rfl) (by kernel_rfl) (fun _ _ _ h => h) (Or.inl ⟨by rfl, fun V hS => by go_simp⟩) hHeld ?_
      simp only [Act.put, List.setIfInBounds_toArray, List.set_cons_zero, List.set_cons_succ]
      refine held_take (i := 5) 41 (v := .agg #[.string o.wd, .int .i64 o.tr, .slice a219 o.ths.length c220, .int .i64 o.la, .string o.ch, .int .i64 o.ct]) rfl rfl (by kernel_rfl) (by kernel_rfl) (by kernel_rfl) (fun _ _ _ h => h) (Or.inl ⟨by rfl, fun V hS => by go_simp⟩) hHeld ?_
      simp only [Act.put, List.setIfInBounds_toArray, List.set_cons_zero, List.set_cons_succ]
      refine held_take (i := 6) 42 (v := .bool rb) rfl rfl (by kernel_rfl) (by kernel_rfl) (by kernel_rfl) (fun _ _ _ h => h) (Or.inl ⟨by rfl, fun V hS => by go_simp⟩) hHeld ?_
      simp only [Act.put, List.setIfInBounds_toArray, List.set_cons_zero, List.set_cons_succ]
      refine wpAnyH_ready (rs := [8]) (by kernel_rfl) (by simp) ?_
      refine AllReadyH.cons rfl (fun K hK => ?_) AllReadyH.nil
      have hGG := q205.step m224
      refine step_store_all (P := Try.prog) rfl 33 (.tmp 9) (.tmp 41) rfl #[.string o.wd, .int .i64 o.tr, .slice a219 o.ths.length c220, .int .i64 o.la, .string o.ch, .int .i64 o.ct] rfl rfl hGG rfl (by simp [Value.oneCell']) (by kernel_rfl) ?_
      have hS9 := setRow_heap _ _ _ #[.string o.wd, .int .i64 o.tr, .slice a219 o.ths.length c220, .int .i64 o.la, .string o.ch, .int .i64 o.ct] 33 (0, 0) hGG
      have hB9 : Below V153.heap.size V153 _ := Go.below_setRow hHeld (show V153.heap.size ≤ _ from u0) #[.string o.wd, .int .i64 o.tr, .slice a219 o.ths.length c220, .int .i64 o.la, .string o.ch, .int .i64 o.ct]
      have hR9 := (q221.below m226).setRowN (g := _) (cs := #[.string o.wd, .int .i64 o.tr, .slice a219 o.ths.length c220, .int .i64 o.la, .string o.ch, .int .i64 o.ct]) (T := 33) hGG (by decide)
      refine hK.out _ _ hB9 (fun hHeld => ?_)
      clear hK K
      refine held_take (i := 9) 10 (v := .bool rb) rfl rfl (by kernel_rfl) (by kernel_rfl) (by kernel_rfl) (fun _ _ _ h => h) (Or.inl ⟨by rfl, fun V hS => by go_simp⟩) hHeld ?_
      simp only [Act.put, List.setIfInBounds_toArray]
      refine wpAnyH_done (by kernel_rfl) ?_ _
      go_wp2_with fail
      go_meet
      case rel =>
        exact ⟨a219, c220, _, rfl, rfl, hS9, hR9.low (base' := bs161) (by rw [hbs161]; exact u227), (unhide k154).step hHeld, (unhide k155).step hHeld, (unhide k156).step hHeld, (unhide k157).step hHeld, (unhide o158).below hHeld, (unhide o159).below hHeld, (unhide T160).trans (hHeld.mono (unhide T160).size), (by rw [hbs161]; exact u0), hHeld.size⟩
  case rest =>
  obtain ⟨a162, c163, g164, rfl, rfl, k236, o237, k229, k230, k231, k232, o233, o234, T235, l238, z239⟩ := hcut
  replace k236 := hide k236
  replace k229 := hide k229
  replace k230 := hide k230
  replace k231 := hide k231
  replace k232 := hide k232
  replace o237 := hide o237
  replace o233 := hide o233
  replace o234 := hide o234
  replace T235 := hide T235
  replace hbs161 := hide hbs161
  clear k154 k155 k156 k157 o158 o159 T160
  go_upto_region 13 with (first
    | (refine wpList_load_row (P := Try.prog) rfl 33 (.tmp 9) rfl g164 rfl 33 #[.string o.wd, .int .i64 o.tr, .slice a162 o.ths.length c163, .int .i64 o.la, .string o.ch, .int .i64 o.ct] (0, 0) _ (unhide k236) Try.underlying33 rfl rfl ?_)
    | (refine wpList_load_row (P := Try.prog) rfl 33 (.tmp 6) rfl g20 rfl 33 #[.string o.wd, .int .i64 o.tr, .slice a18 o.ths.length c19, .int .i64 o.la, .string o.ch, .int .i64 o.ct] (0, 0) _ (unhide k230) Try.underlying33 rfl rfl ?_)
    | (go_at_call 11; refine (unhide CEo _ _ _ _ _ (unhide o237).rd (unhide o234).rd).mono ?_; rintro e w3 ⟨rfl, hb3⟩)
    | fail)
  have k240 := hide ((unhide k236).step hb3)
  have k241 := hide ((unhide k229).step hb3)
  have k242 := hide ((unhide k230).step hb3)
  have k243 := hide ((unhide k231).step hb3)
  have k244 := hide ((unhide k232).step hb3)
  have o245 := hide ((unhide o237).below hb3)
  have o246 := hide ((unhide o233).below hb3)
  have o247 := hide ((unhide o234).below hb3)
  have T248 := hide ((unhide T235).trans (hb3.mono (unhide T235).size))
  clear k236 k229 k230 k231 k232 o237 o233 o234 T235 hb3
  refine wp_region_held_drew (S := fun V => Below w3.heap.size w3 V) (by kernel_rfl) (Below.refl _ w3).drew (fun hHeld => ?_)
  refine held_take (i := 0) 52 (v := .agg #[.string b.wd, .int .i64 b.tr, .slice a144 b.ths.length c145, .int .i64 b.la, .string b.ch, .int .i64 b.ct]) rfl rfl (by kernel_rfl) (by kernel_rfl) (by kernel_rfl) (fun _ _ _ h => h) (Or.inl ⟨by rfl, fun V hS => by have kx := (unhide k241).step hS; have x0 := kx.cell 0 (v := .string b.wd) rfl; have x1 := kx.cell 1 (v := .int .i64 b.tr) rfl; have x2 := kx.cell 2 (v := .slice a144 b.ths.length c145) rfl; have x3 := kx.cell 3 (v := .int .i64 b.la) rfl; have x4 := kx.cell 4 (v := .string b.ch) rfl; have x5 := kx.cell 5 (v := .int .i64 b.ct) rfl; go_simp⟩) hHeld ?_
  simp only [Act.put, List.setIfInBounds_toArray, List.set_cons_zero, List.set_cons_succ]
  refine held_take (i := 1) 53 (v := .agg #[.string b.wd, .int .i64 b.tr, .slice a b.ths.length c, .int .i64 b.la, .string b.ch, .int .i64 b.ct]) rfl rfl (by kernel_rfl) (by kernel_rfl) (by kernel_rfl) (fun _ _ _ h => h) (Or.inl ⟨by rfl, fun V hS => by have kx := (unhide k243).step hS; have x0 := kx.cell 0 (v := .string b.wd) rfl; have x1 := kx.cell 1 (v := .int .i64 b.tr) rfl; have x2 := kx.cell 2 (v := .slice a b.ths.length c) rfl; have x3 := kx.cell 3 (v := .int .i64 b.la) rfl; have x4 := kx.cell 4 (v := .string b.ch) rfl; have x5 := kx.cell 5 (v := .int .i64 b.ct) rfl; go_simp⟩) hHeld ?_
  simp only [Act.put, List.setIfInBounds_toArray, List.set_cons_zero, List.set_cons_succ]
  have m0 : Below w3.heap.size w3 w3.drew := (Below.refl _ w3).drew
  refine wpAnyH_ready (rs := [2]) (by kernel_rfl) (by simp) ?_
  refine AllReadyH.cons rfl (fun K hK => ?_) AllReadyH.nil
  go_simp
  refine (unhide CT _ _ _ ((unhide HU).below ((unhide T248).trans (m0.mono (unhide T248).size)))).mono ?_
  rintro e w249 ⟨⟨a250, c251, rfl, q252⟩, hb253⟩
  refine hK.out _ _ (hHeld.trans (hb253.mono hHeld.size)) (fun hHeld => ?_)
  have m254 := m0.trans (hb253.mono m0.size)
  have m255 := Below.refl w249.heap.size w249
  clear hK K
  refine wpAnyH_ready (rs := [3]) (by kernel_rfl) (by simp) ?_
  refine AllReadyH.cons rfl (fun K hK => ?_) AllReadyH.nil
  go_simp
  refine (unhide CEb _ _ _ _ _ ((unhide o246).below m254).rd ((q252).below m255).rd).mono ?_
  rintro e w256 ⟨rfl, hb260⟩
  refine hK.out _ _ (hHeld.trans (hb260.mono hHeld.size)) (fun hHeld => ?_)
  have m261 := m254.trans (hb260.mono m254.size)
  have m262 := m255.trans (hb260.mono m255.size)
  have m263 := Below.refl w256.heap.size w256
  clear hK K
  refine held_take (i := 4) 56 (v := .bool false) rfl rfl (by kernel_rfl) (by kernel_rfl) (by kernel_rfl) (fun _ _ _ h => h) (Or.inl ⟨by rfl, fun V hS => by go_simp⟩) hHeld ?_
  simp only [Act.put, List.setIfInBounds_toArray, List.set_cons_zero, List.set_cons_succ]
  refine wpAnyH_done (by kernel_rfl) ?_ _
  go_upto_region 16 with fail
  refine wp_gen (fun V => CB V g164 33 #[.string o.wd, .int .i64 o.tr, .slice a162 o.ths.length c163, .int .i64 o.la, .string o.ch, .int .i64 o.ct] ∧ CB V g149 33 #[.string b.wd, .int .i64 b.tr, .slice a144 b.ths.length c145, .int .i64 b.la, .string b.ch, .int .i64 b.ct] ∧ CB V g20 33 #[.string o.wd, .int .i64 o.tr, .slice a18 o.ths.length c19, .int .i64 o.la, .string o.ch, .int .i64 o.ct] ∧ CB V w.heap.size 24 #[.string b.wd, .int .i64 b.tr, .slice a b.ths.length c, .int .i64 b.la, .string b.ch, .int .i64 b.ct] ∧ CB V (w.heap.size + 1) 28 #[.int .i64 r.kd, .string r.tx, .int .i64 r.nm, .int .i64 r.th.id, .int .i64 r.th.kind, .bool r.th.hid, .bool r.th.fix, .bool r.th.sgn, .bool r.th.wrp, .string r.th.val, .int .i64 r.th.nxt] ∧ OwnN thY V bs161 37 (.slice a162 o.ths.length c163) o.ths ∧ OwnN thY V bs143 37 (.slice a144 b.ths.length c145) b.ths ∧ OwnN thY V bs17 37 (.slice a18 o.ths.length c19) o.ths ∧ Below w.heap.size w V) ⟨(unhide k240).step hHeld, (unhide k241).step hHeld, (unhide k242).step hHeld, (unhide k243).step hHeld, (unhide k244).step hHeld, (unhide o245).below hHeld, (unhide o246).below hHeld, (unhide o247).below hHeld, (unhide T248).trans (hHeld.mono (unhide T248).size)⟩ ?_
  clear k240 k241 k242 k243 k244 o245 o246 o247 T248 hHeld m0 m261 m262 m263
  rintro V264 ⟨k265, k266, k267, k268, k269, o270, o271, o272, T273⟩
  replace k265 := hide k265
  replace k266 := hide k266
  replace k267 := hide k267
  replace k268 := hide k268
  replace k269 := hide k269
  replace o270 := hide o270
  replace o271 := hide o271
  replace o272 := hide o272
  replace T273 := hide T273
  go_upto_region 17 with (first
    | (refine wpList_load_row (P := Try.prog) rfl 33 (.tmp 8) rfl g149 rfl 33 #[.string b.wd, .int .i64 b.tr, .slice a144 b.ths.length c145, .int .i64 b.la, .string b.ch, .int .i64 b.ct] (0, 0) _ (unhide k266) Try.underlying33 rfl rfl ?_)
    | (go_at_call 12; refine (unhide CMb _ _ bs143 _ (by have p1 := (unhide k266).lt; omega) (unhide o271)).mono ?_; rintro e w4 ⟨rfl, hnew, hg4⟩)
    | fail)
  have hoff := fun k (hk : ((.slice a144 b.ths.length c145) : Value).ownBlock = some k) => (unhide o271).lt k hk
  have k274 := hide ((unhide k265).grown hg4 ((unhide o271).off (unhide k265) (by decide)))
  have k275 := hide ((unhide k266).grown hg4 ((unhide o271).off (unhide k266) (by decide)))
  have k276 := hide ((unhide k267).grown hg4 ((unhide o271).off (unhide k267) (by decide)))
  have k277 := hide ((unhide k268).grown hg4 ((unhide o271).off (unhide k268) (by decide)))
  have k278 := hide ((unhide k269).grown hg4 ((unhide o271).off (unhide k269) (by decide)))
  have o279 := hide ((unhide o270).grown hg4 (fun k hk e => by have p1 := sp_x0_bs161 k e; have p2 := ((unhide o270).lt k hk).1; omega))
  have o280 := hide hnew
  have o281 := hide ((unhide o272).grown hg4 (fun k hk e => by have p1 := sp_w0_bs143 k hk; have p2 := (hoff k e).1; omega))
  have T282 := hide ((unhide T273).grown hg4 (unhide T273).size (fun k hk => by have p1 := (hoff k hk).1; omega))
  clear k265 k266 k267 k268 k269 o270 o271 o272 T273 hg4 hnew hoff
  have x283 := (unhide k274).cell 0 (v := .string o.wd) rfl
  have x284 := (unhide k274).cell 1 (v := .int .i64 o.tr) rfl
  have x285 := (unhide k274).cell 2 (v := .slice a162 o.ths.length c163) rfl
  have x286 := (unhide k274).cell 3 (v := .int .i64 o.la) rfl
  have x287 := (unhide k274).cell 4 (v := .string o.ch) rfl
  have x288 := (unhide k274).cell 5 (v := .int .i64 o.ct) rfl
  have x289 := (unhide k276).cell 0 (v := .string o.wd) rfl
  have x290 := (unhide k276).cell 1 (v := .int .i64 o.tr) rfl
  have x291 := (unhide k276).cell 2 (v := .slice a18 o.ths.length c19) rfl
  have x292 := (unhide k276).cell 3 (v := .int .i64 o.la) rfl
  have x293 := (unhide k276).cell 4 (v := .string o.ch) rfl
  have x294 := (unhide k276).cell 5 (v := .int .i64 o.ct) rfl
  go_wp2_with fail
  refine (unhide CEo _ _ _ _ _ (unhide o279).rd (unhide o281).rd).mono ?_
  rintro e w5 ⟨rfl, hb5⟩
  clear x283 x284 x285 x286 x287 x288 x289 x290 x291 x292 x293 x294
  have k295 := hide ((unhide k274).step hb5)
  have k296 := hide ((unhide k275).step hb5)
  have k297 := hide ((unhide k276).step hb5)
  have k298 := hide ((unhide k277).step hb5)
  have k299 := hide ((unhide k278).step hb5)
  have o300 := hide ((unhide o279).below hb5)
  have o301 := hide ((unhide o280).below hb5)
  have o302 := hide ((unhide o281).below hb5)
  have T303 := hide ((unhide T282).trans (hb5.mono (unhide T282).size))
  clear k274 k275 k276 k277 k278 o279 o280 o281 T282 hb5
  go_upto_region 20 with fail
  go_upto_region 21 with (first
    | (refine wpList_load_row (P := Try.prog) rfl 33 (.tmp 9) rfl g164 rfl 33 #[.string o.wd, .int .i64 o.tr, .slice a162 o.ths.length c163, .int .i64 o.la, .string o.ch, .int .i64 o.ct] (0, 0) _ (unhide k295) Try.underlying33 rfl rfl ?_)
    | (go_at_call 12; refine (unhide CMo _ _ bs161 _ (by have p1 := (unhide k295).lt; omega) (unhide o300)).mono ?_; rintro e w6 ⟨rfl, hnew, hg6⟩)
    | fail)
  have hoff := fun k (hk : ((.slice a162 o.ths.length c163) : Value).ownBlock = some k) => (unhide o300).lt k hk
  have k304 := hide ((unhide k295).grown hg6 ((unhide o300).off (unhide k295) (by decide)))
  have k305 := hide ((unhide k296).grown hg6 ((unhide o300).off (unhide k296) (by decide)))
  have k306 := hide ((unhide k297).grown hg6 ((unhide o300).off (unhide k297) (by decide)))
  have k307 := hide ((unhide k298).grown hg6 ((unhide o300).off (unhide k298) (by decide)))
  have k308 := hide ((unhide k299).grown hg6 ((unhide o300).off (unhide k299) (by decide)))
  have o309 := hide hnew
  have o310 := hide ((unhide o301).grown hg6 (fun k hk e => by have p1 := sp_x0_bs161 k hk; have p2 := (hoff k e).1; omega))
  have o311 := hide ((unhide o302).grown hg6 (fun k hk e => by have p1 := sp_w0_bs161 k hk; have p2 := (hoff k e).1; omega))
  have T312 := hide ((unhide T303).grown hg6 (unhide T303).size (fun k hk => by have p1 := (hoff k hk).1; omega))
  clear k295 k296 k297 k298 k299 o300 o301 o302 T303 hg6 hnew hoff
  go_upto_region 27 with (first
    | (refine wpList_load_row (P := Try.prog) rfl 33 (.tmp 9) rfl g164 rfl 33 #[.string o.wd, .int .i64 o.tr, .slice a162 o.ths.length c163, .int .i64 o.la, .string o.ch, .int .i64 o.ct] (0, 0) _ (unhide k304) Try.underlying33 rfl rfl ?_)
    | (go_at_call 13; refine (unhide CH _ _ _ (unhide o309).rd).mono ?_; rintro e w7 ⟨rfl, hb7⟩)
    | fail)
  have k313 := hide ((unhide k304).step hb7)
  have k314 := hide ((unhide k305).step hb7)
  have k315 := hide ((unhide k306).step hb7)
  have k316 := hide ((unhide k307).step hb7)
  have k317 := hide ((unhide k308).step hb7)
  have o318 := hide ((unhide o309).below hb7)
  have o319 := hide ((unhide o310).below hb7)
  have o320 := hide ((unhide o311).below hb7)
  have T321 := hide ((unhide T312).trans (hb7.mono (unhide T312).size))
  clear k304 k305 k306 k307 k308 o309 o310 o311 T312 hb7
  obtain ⟨bs322, hbs322⟩ : ∃ z, z = w7.heap.size := ⟨_, rfl⟩
  have wb_bs322 : w.heap.size ≤ bs322 := by rw [hbs322]; exact (unhide T321).size
  have sp_g0_bs322 : ∀ k, ((.slice a162 o.ths.length c163) : Value).ownBlock = some k → k < bs322 := fun k hk => by rw [hbs322]; exact ((unhide o318).lt k hk).2
  have sp_x0_bs322 : ∀ k, ((.slice a144 b.ths.length c145) : Value).ownBlock = some k → k < bs322 := fun k hk => by rw [hbs322]; exact ((unhide o319).lt k hk).2
  have sp_w0_bs322 : ∀ k, ((.slice a18 o.ths.length c19) : Value).ownBlock = some k → k < bs322 := fun k hk => by rw [hbs322]; exact ((unhide o320).lt k hk).2
  go_cut [14, 15] (fun t14 t15 wx => ∃ (a323 : Option Addr) (c324 : Nat) (g325 : Nat), t14 = .pointer (some ⟨g325, 0, none⟩) ∧ t15 = .bool rb ∧ CB wx g325 33 #[.string o.wd, .int .i64 o.tr, .slice a323 o.ths.length c324, .int .i64 o.la, .string o.ch, .int .i64 o.ct] ∧ OwnN thY wx bs322 37 (.slice a323 o.ths.length c324) o.ths ∧ CB wx g164 33 #[.string o.wd, .int .i64 o.tr, .slice a162 o.ths.length c163, .int .i64 o.la, .string o.ch, .int .i64 o.ct] ∧ CB wx g149 33 #[.string b.wd, .int .i64 b.tr, .slice a144 b.ths.length c145, .int .i64 b.la, .string b.ch, .int .i64 b.ct] ∧ CB wx g20 33 #[.string o.wd, .int .i64 o.tr, .slice a18 o.ths.length c19, .int .i64 o.la, .string o.ch, .int .i64 o.ct] ∧ CB wx w.heap.size 24 #[.string b.wd, .int .i64 b.tr, .slice a b.ths.length c, .int .i64 b.la, .string b.ch, .int .i64 b.ct] ∧ CB wx (w.heap.size + 1) 28 #[.int .i64 r.kd, .string r.tx, .int .i64 r.nm, .int .i64 r.th.id, .int .i64 r.th.kind, .bool r.th.hid, .bool r.th.fix, .bool r.th.sgn, .bool r.th.wrp, .string r.th.val, .int .i64 r.th.nxt] ∧ OwnN thY wx bs161 37 (.slice a162 o.ths.length c163) (mkT 1 o.ths.length) ∧ OwnN thY wx bs143 37 (.slice a144 b.ths.length c145) (mkT 1 b.ths.length) ∧ OwnN thY wx bs17 37 (.slice a18 o.ths.length c19) o.ths ∧ Below w.heap.size w wx ∧ bs322 ≤ g325 ∧ w7.heap.size ≤ wx.heap.size)
  case first =>
    refine wp_region_held_drew (S := fun V => Below w7.heap.size w7 V) (by kernel_rfl) (Below.refl _ w7).drew (fun hHeld => ?_)
    refine held_take (i := 0) 85 (v := .agg #[.string b.wd, .int .i64 b.tr, .slice a b.ths.length c, .int .i64 b.la, .string b.ch, .int .i64 b.ct]) rfl rfl (by kernel_rfl) (by kernel_rfl) (by kernel_rfl) (fun _ _ _ h => h) (Or.inl ⟨by rfl, fun V hS => by have kx := (unhide k316).step hS; have x0 := kx.cell 0 (v := .string b.wd) rfl; have x1 := kx.cell 1 (v := .int .i64 b.tr) rfl; have x2 := kx.cell 2 (v := .slice a b.ths.length c) rfl; have x3 := kx.cell 3 (v := .int .i64 b.la) rfl; have x4 := kx.cell 4 (v := .string b.ch) rfl; have x5 := kx.cell 5 (v := .int .i64 b.ct) rfl; go_simp⟩) hHeld ?_
    simp only [Act.put, List.setIfInBounds_toArray, List.set_cons_zero, List.set_cons_succ]
    refine held_take (i := 2) 87 (v := .agg #[.int .i64 r.kd, .string r.tx, .int .i64 r.nm, .int .i64 r.th.id, .int .i64 r.th.kind, .bool r.th.hid, .bool r.th.fix, .bool r.th.sgn, .bool r.th.wrp, .string r.th.val, .int .i64 r.th.nxt]) rfl rfl (by kernel_rfl) (by kernel_rfl) (by kernel_rfl) (fun _ _ _ h => h) (Or.inl ⟨by rfl, fun V hS => by have kx := (unhide k317).step hS; have x0 := kx.cell 0 (v := .int .i64 r.kd) rfl; have x1 := kx.cell 1 (v := .string r.tx) rfl; have x2 := kx.cell 2 (v := .int .i64 r.nm) rfl; have x3 := kx.cell 3 (v := .int .i64 r.th.id) rfl; have x4 := kx.cell 4 (v := .int .i64 r.th.kind) rfl; have x5 := kx.cell 5 (v := .bool r.th.hid) rfl; have x6 := kx.cell 6 (v := .bool r.th.fix) rfl; have x7 := kx.cell 7 (v := .bool r.th.sgn) rfl; have x8 := kx.cell 8 (v := .bool r.th.wrp) rfl; have x9 := kx.cell 9 (v := .string r.th.val) rfl; have x10 := kx.cell 10 (v := .int .i64 r.th.nxt) rfl; go_simp⟩) hHeld ?_
    simp only [Act.put, List.setIfInBounds_toArray, List.set_cons_zero, List.set_cons_succ]
    have u0 : w7.heap.size ≤ w7.drew.heap.size := Nat.le_refl _
    have m0 : Below w7.heap.size w7 w7.drew := (Below.refl _ w7).drew
    refine wpAnyH_ready (rs := [1, 8]) (by kernel_rfl) (by simp) ?_
    refine AllReadyH.cons rfl (fun K hK => ?_) (AllReadyH.cons rfl (fun K hK => ?_) AllReadyH.nil)
    · go_simp
      refine (unhide CT _ _ _ ((unhide HU).below ((unhide T321).trans (m0.mono (unhide T321).size)))).mono ?_
      rintro e w326 ⟨⟨a327, c328, rfl, q329⟩, hb330⟩
      refine hK.out _ _ (hHeld.trans (hb330.mono hHeld.size)) (fun hHeld => ?_)
      have m331 := m0.trans (hb330.mono m0.size)
      have m332 := Below.refl w326.heap.size w326
      clear hK K
      have u333 : w7.heap.size ≤ w326.heap.size := hHeld.size
      refine wpAnyH_ready (rs := [3, 8]) (by kernel_rfl) (by simp) ?_
      refine AllReadyH.cons rfl (fun K hK => ?_) (AllReadyH.cons rfl (fun K hK => ?_) AllReadyH.nil)
      · go_simp
        refine (unhide CQ _).mono ?_
        rintro e w334 ⟨rfl, hb338⟩
        refine hK.out _ _ (hHeld.trans (hb338.mono hHeld.size)) (fun hHeld => ?_)
        have m339 := m331.trans (hb338.mono m331.size)
        have m340 := m332.trans (hb338.mono m332.size)
        have m341 := Below.refl w334.heap.size w334
        clear hK K
        have u342 : w7.heap.size ≤ w334.heap.size := hHeld.size
        refine wpAnyH_ready (rs := [4, 8]) (by kernel_rfl) (by simp) ?_
        refine AllReadyH.cons rfl (fun K hK => ?_) (AllReadyH.cons rfl (fun K hK => ?_) AllReadyH.nil)
        · go_simp
          refine (unhide CI _ _ _ ((unhide T321).trans (m339.mono (unhide T321).size)) ((q329).below m340).rd).mono ?_
          rintro e w343 ⟨⟨a344, c345, rfl, q346⟩, hb347⟩
          refine hK.out _ _ (hHeld.trans (hb347.mono hHeld.size)) (fun hHeld => ?_)
          have m348 := m339.trans (hb347.mono m339.size)
          have m349 := m340.trans (hb347.mono m340.size)
          have m350 := m341.trans (hb347.mono m341.size)
          have m351 := Below.refl w343.heap.size w343
          clear hK K
          have u352 : w7.heap.size ≤ _ := u342
          have u353 : w7.heap.size ≤ w343.heap.size := hHeld.size
          refine held_take (i := 5) 84 (v := .tuple #[.agg #[.string o.wd, .int .i64 o.tr, .slice a344 o.ths.length c345, .int .i64 o.la, .string o.ch, .int .i64 o.ct], .bool rb]) rfl rfl (by kernel_rfl) (by kernel_rfl) (by kernel_rfl) (fun _ _ _ h => h) (Or.inl ⟨by rfl, fun V hS => by go_simp⟩) hHeld ?_
          simp only [Act.put, List.setIfInBounds_toArray, List.set_cons_zero, List.set_cons_succ]
          refine held_take (i := 6) 90 (v := .agg #[.string o.wd, .int .i64 o.tr, .slice a344 o.ths.length c345, .int .i64 o.la, .string o.ch, .int .i64 o.ct]) rfl rfl (by kernel_rfl) (by kernel_rfl) (by kernel_rfl) (fun _ _ _ h => h) (Or.inl ⟨by rfl, fun V hS => by go_simp⟩) hHeld ?_
          simp only [Act.put, List.setIfInBounds_toArray, List.set_cons_zero, List.set_cons_succ]
          refine held_take (i := 7) 91 (v := .bool rb) rfl rfl (by kernel_rfl) (by kernel_rfl) (by kernel_rfl) (fun _ _ _ h => h) (Or.inl ⟨by rfl, fun V hS => by go_simp⟩) hHeld ?_
          simp only [Act.put, List.setIfInBounds_toArray, List.set_cons_zero, List.set_cons_succ]
          refine wpAnyH_ready (rs := [8]) (by kernel_rfl) (by simp) ?_
          refine AllReadyH.cons rfl (fun K hK => ?_) AllReadyH.nil
          go_simp
          have q354 := CB.new w343 #[.string ⟨#[]⟩, .int .i64 0, .slice none 0 0, .int .i64 0, .string ⟨#[]⟩, .int .i64 0] 33
          refine hK.out _ _ (hHeld.alloc hHeld.size _) (fun hHeld => ?_)
          have m355 := m348.alloc m348.size (.cells #[.string ⟨#[]⟩, .int .i64 0, .slice none 0 0, .int .i64 0, .string ⟨#[]⟩, .int .i64 0] 33)
          have m356 := m349.alloc m349.size (.cells #[.string ⟨#[]⟩, .int .i64 0, .slice none 0 0, .int .i64 0, .string ⟨#[]⟩, .int .i64 0] 33)
          have m357 := m350.alloc m350.size (.cells #[.string ⟨#[]⟩, .int .i64 0, .slice none 0 0, .int .i64 0, .string ⟨#[]⟩, .int .i64 0] 33)
          have m358 := m351.alloc m351.size (.cells #[.string ⟨#[]⟩, .int .i64 0, .slice none 0 0, .int .i64 0, .string ⟨#[]⟩, .int .i64 0] 33)
          have m359 := Below.refl (w343.alloc (.cells #[.string ⟨#[]⟩, .int .i64 0, .slice none 0 0, .int .i64 0, .string ⟨#[]⟩, .int .i64 0] 33)).heap.size (w343.alloc (.cells #[.string ⟨#[]⟩, .int .i64 0, .slice none 0 0, .int .i64 0, .string ⟨#[]⟩, .int .i64 0] 33))
          clear hK K
          have u360 : w7.heap.size ≤ (w343.alloc (.cells #[.string ⟨#[]⟩, .int .i64 0, .slice none 0 0, .int .i64 0, .string ⟨#[]⟩, .int .i64 0] 33)).heap.size := hHeld.size
          refine wpAnyH_ready (rs := [9]) (by kernel_rfl) (by simp) ?_
          refine AllReadyH.cons rfl (fun K hK => ?_) AllReadyH.nil
          have hGG := q354.step m359
          refine step_store_all (P := Try.prog) rfl 33 (.tmp 14) (.tmp 90) rfl #[.string o.wd, .int .i64 o.tr, .slice a344 o.ths.length c345, .int .i64 o.la, .string o.ch, .int .i64 o.ct] rfl rfl hGG rfl (by simp [Value.oneCell']) (by kernel_rfl) ?_
          have hS9 := setRow_heap _ _ _ #[.string o.wd, .int .i64 o.tr, .slice a344 o.ths.length c345, .int .i64 o.la, .string o.ch, .int .i64 o.ct] 33 (0, 0) hGG
          have hB9 : Below w7.heap.size w7 _ := Go.below_setRow hHeld (show w7.heap.size ≤ _ from u353) #[.string o.wd, .int .i64 o.tr, .slice a344 o.ths.length c345, .int .i64 o.la, .string o.ch, .int .i64 o.ct]
          have hR9 := (q346.below m358).setRowN (g := _) (cs := #[.string o.wd, .int .i64 o.tr, .slice a344 o.ths.length c345, .int .i64 o.la, .string o.ch, .int .i64 o.ct]) (T := 33) hGG (by decide)
          refine hK.out _ _ hB9 (fun hHeld => ?_)
          clear hK K
          refine held_take (i := 10) 15 (v := .bool rb) rfl rfl (by kernel_rfl) (by kernel_rfl) (by kernel_rfl) (fun _ _ _ h => h) (Or.inl ⟨by rfl, fun V hS => by go_simp⟩) hHeld ?_
          simp only [Act.put, List.setIfInBounds_toArray]
          refine wpAnyH_done (by kernel_rfl) ?_ _
          go_wp2_with fail
          go_meet
          case rel =>
            exact ⟨a344, c345, _, rfl, rfl, hS9, hR9.low (base' := bs322) (by rw [hbs322]; exact u352), (unhide k313).step hHeld, (unhide k314).step hHeld, (unhide k315).step hHeld, (unhide k316).step hHeld, (unhide k317).step hHeld, (unhide o318).below hHeld, (unhide o319).below hHeld, (unhide o320).below hHeld, (unhide T321).trans (hHeld.mono (unhide T321).size), (by rw [hbs322]; exact u353), hHeld.size⟩
        · go_simp
          have q361 := CB.new w334 #[.string ⟨#[]⟩, .int .i64 0, .slice none 0 0, .int .i64 0, .string ⟨#[]⟩, .int .i64 0] 33
          refine hK.out _ _ (hHeld.alloc hHeld.size _) (fun hHeld => ?_)
          have m362 := m339.alloc m339.size (.cells #[.string ⟨#[]⟩, .int .i64 0, .slice none 0 0, .int .i64 0, .string ⟨#[]⟩, .int .i64 0] 33)
          have m363 := m340.alloc m340.size (.cells #[.string ⟨#[]⟩, .int .i64 0, .slice none 0 0, .int .i64 0, .string ⟨#[]⟩, .int .i64 0] 33)
          have m364 := m341.alloc m341.size (.cells #[.string ⟨#[]⟩, .int .i64 0, .slice none 0 0, .int .i64 0, .string ⟨#[]⟩, .int .i64 0] 33)
          have m365 := Below.refl (w334.alloc (.cells #[.string ⟨#[]⟩, .int .i64 0, .slice none 0 0, .int .i64 0, .string ⟨#[]⟩, .int .i64 0] 33)).heap.size (w334.alloc (.cells #[.string ⟨#[]⟩, .int .i64 0, .slice none 0 0, .int .i64 0, .string ⟨#[]⟩, .int .i64 0] 33))
          clear hK K
          have u366 : w7.heap.size ≤ (w334.alloc (.cells #[.string ⟨#[]⟩, .int .i64 0, .slice none 0 0, .int .i64 0, .string ⟨#[]⟩, .int .i64 0] 33)).heap.size := hHeld.size
          refine wpAnyH_ready (rs := [4]) (by kernel_rfl) (by simp) ?_
          refine AllReadyH.cons rfl (fun K hK => ?_) AllReadyH.nil
          go_simp
          refine (unhide CI _ _ _ ((unhide T321).trans (m362.mono (unhide T321).size)) ((q329).below m363).rd).mono ?_
          rintro e w367 ⟨⟨a368, c369, rfl, q370⟩, hb371⟩
          refine hK.out _ _ (hHeld.trans (hb371.mono hHeld.size)) (fun hHeld => ?_)
          have m372 := m362.trans (hb371.mono m362.size)
          have m373 := m363.trans (hb371.mono m363.size)
          have m374 := m364.trans (hb371.mono m364.size)
          have m375 := m365.trans (hb371.mono m365.size)
          have m376 := Below.refl w367.heap.size w367
          clear hK K
          have u377 : w7.heap.size ≤ _ := u366
          have u378 : w7.heap.size ≤ w367.heap.size := hHeld.size
          refine held_take (i := 5) 84 (v := .tuple #[.agg #[.string o.wd, .int .i64 o.tr, .slice a368 o.ths.length c369, .int .i64 o.la, .string o.ch, .int .i64 o.ct], .bool rb]) rfl rfl (by kernel_rfl) (by kernel_rfl) (by kernel_rfl) (fun _ _ _ h => h) (Or.inl ⟨by rfl, fun V hS => by go_simp⟩) hHeld ?_
          simp only [Act.put, List.setIfInBounds_toArray, List.set_cons_zero, List.set_cons_succ]
          refine held_take (i := 6) 90 (v := .agg #[.string o.wd, .int .i64 o.tr, .slice a368 o.ths.length c369, .int .i64 o.la, .string o.ch, .int .i64 o.ct]) rfl rfl (by kernel_rfl) (by kernel_rfl) (by kernel_rfl) (fun _ _ _ h => h) (Or.inl ⟨by rfl, fun V hS => by go_simp⟩) hHeld ?_
          simp only [Act.put, List.setIfInBounds_toArray, List.set_cons_zero, List.set_cons_succ]
          refine held_take (i := 7) 91 (v := .bool rb) rfl rfl (by kernel_rfl) (by kernel_rfl) (by kernel_rfl) (fun _ _ _ h => h) (Or.inl ⟨by rfl, fun V hS => by go_simp⟩) hHeld ?_
          simp only [Act.put, List.setIfInBounds_toArray, List.set_cons_zero, List.set_cons_succ]
          refine wpAnyH_ready (rs := [9]) (by kernel_rfl) (by simp) ?_
          refine AllReadyH.cons rfl (fun K hK => ?_) AllReadyH.nil
          have hGG := q361.step m375
          refine step_store_all (P := Try.prog) rfl 33 (.tmp 14) (.tmp 90) rfl #[.string o.wd, .int .i64 o.tr, .slice a368 o.ths.length c369, .int .i64 o.la, .string o.ch, .int .i64 o.ct] rfl rfl hGG rfl (by simp [Value.oneCell']) (by kernel_rfl) ?_
          have hS9 := setRow_heap _ _ _ #[.string o.wd, .int .i64 o.tr, .slice a368 o.ths.length c369, .int .i64 o.la, .string o.ch, .int .i64 o.ct] 33 (0, 0) hGG
          have hB9 : Below w7.heap.size w7 _ := Go.below_setRow hHeld (show w7.heap.size ≤ _ from u342) #[.string o.wd, .int .i64 o.tr, .slice a368 o.ths.length c369, .int .i64 o.la, .string o.ch, .int .i64 o.ct]
          have hR9 := (q370.below m376).setRowN (g := _) (cs := #[.string o.wd, .int .i64 o.tr, .slice a368 o.ths.length c369, .int .i64 o.la, .string o.ch, .int .i64 o.ct]) (T := 33) hGG (by decide)
          refine hK.out _ _ hB9 (fun hHeld => ?_)
          clear hK K
          refine held_take (i := 10) 15 (v := .bool rb) rfl rfl (by kernel_rfl) (by kernel_rfl) (by kernel_rfl) (fun _ _ _ h => h) (Or.inl ⟨by rfl, fun V hS => by go_simp⟩) hHeld ?_
          simp only [Act.put, List.setIfInBounds_toArray]
          refine wpAnyH_done (by kernel_rfl) ?_ _
          go_wp2_with fail
          go_meet
          case rel =>
            exact ⟨a368, c369, _, rfl, rfl, hS9, hR9.low (base' := bs322) (by rw [hbs322]; exact u377), (unhide k313).step hHeld, (unhide k314).step hHeld, (unhide k315).step hHeld, (unhide k316).step hHeld, (unhide k317).step hHeld, (unhide o318).below hHeld, (unhide o319).below hHeld, (unhide o320).below hHeld, (unhide T321).trans (hHeld.mono (unhide T321).size), (by rw [hbs322]; exact u342), hHeld.size⟩
      · go_simp
        have q379 := CB.new w326 #[.string ⟨#[]⟩, .int .i64 0, .slice none 0 0, .int .i64 0, .string ⟨#[]⟩, .int .i64 0] 33
        refine hK.out _ _ (hHeld.alloc hHeld.size _) (fun hHeld => ?_)
        have m380 := m331.alloc m331.size (.cells #[.string ⟨#[]⟩, .int .i64 0, .slice none 0 0, .int .i64 0, .string ⟨#[]⟩, .int .i64 0] 33)
        have m381 := m332.alloc m332.size (.cells #[.string ⟨#[]⟩, .int .i64 0, .slice none 0 0, .int .i64 0, .string ⟨#[]⟩, .int .i64 0] 33)
        have m382 := Below.refl (w326.alloc (.cells #[.string ⟨#[]⟩, .int .i64 0, .slice none 0 0, .int .i64 0, .string ⟨#[]⟩, .int .i64 0] 33)).heap.size (w326.alloc (.cells #[.string ⟨#[]⟩, .int .i64 0, .slice none 0 0, .int .i64 0, .string ⟨#[]⟩, .int .i64 0] 33))
        clear hK K
        have u383 : w7.heap.size ≤ (w326.alloc (.cells #[.string ⟨#[]⟩, .int .i64 0, .slice none 0 0, .int .i64 0, .string ⟨#[]⟩, .int .i64 0] 33)).heap.size := hHeld.size
        refine wpAnyH_ready (rs := [3]) (by kernel_rfl) (by simp) ?_
        refine AllReadyH.cons rfl (fun K hK => ?_) AllReadyH.nil
        go_simp
        refine (unhide CQ _).mono ?_
        rintro e w384 ⟨rfl, hb388⟩
        refine hK.out _ _ (hHeld.trans (hb388.mono hHeld.size)) (fun hHeld => ?_)
        have m389 := m380.trans (hb388.mono m380.size)
        have m390 := m381.trans (hb388.mono m381.size)
        have m391 := m382.trans (hb388.mono m382.size)
        have m392 := Below.refl w384.heap.size w384
        clear hK K
        have u393 : w7.heap.size ≤ w384.heap.size := hHeld.size
        refine wpAnyH_ready (rs := [4]) (by kernel_rfl) (by simp) ?_
        refine AllReadyH.cons rfl (fun K hK => ?_) AllReadyH.nil
        go_simp
        refine (unhide CI _ _ _ ((unhide T321).trans (m389.mono (unhide T321).size)) ((q329).below m390).rd).mono ?_
        rintro e w394 ⟨⟨a395, c396, rfl, q397⟩, hb398⟩
        refine hK.out _ _ (hHeld.trans (hb398.mono hHeld.size)) (fun hHeld => ?_)
        have m399 := m389.trans (hb398.mono m389.size)
        have m400 := m390.trans (hb398.mono m390.size)
        have m401 := m391.trans (hb398.mono m391.size)
        have m402 := m392.trans (hb398.mono m392.size)
        have m403 := Below.refl w394.heap.size w394
        clear hK K
        have u404 : w7.heap.size ≤ _ := u393
        have u405 : w7.heap.size ≤ w394.heap.size := hHeld.size
        refine held_take (i := 5) 84 (v := .tuple #[.agg #[.string o.wd, .int .i64 o.tr, .slice a395 o.ths.length c396, .int .i64 o.la, .string o.ch, .int .i64 o.ct], .bool rb]) rfl rfl (by kernel_rfl) (by kernel_rfl) (by kernel_rfl) (fun _ _ _ h => h) (Or.inl ⟨by rfl, fun V hS => by go_simp⟩) hHeld ?_
        simp only [Act.put, List.setIfInBounds_toArray, List.set_cons_zero, List.set_cons_succ]
        refine held_take (i := 6) 90 (v := .agg #[.string o.wd, .int .i64 o.tr, .slice a395 o.ths.length c396, .int .i64 o.la, .string o.ch, .int .i64 o.ct]) rfl rfl (by kernel_rfl) (by kernel_rfl) (by kernel_rfl) (fun _ _ _ h => h) (Or.inl ⟨by rfl, fun V hS => by go_simp⟩) hHeld ?_
        simp only [Act.put, List.setIfInBounds_toArray, List.set_cons_zero, List.set_cons_succ]
        refine held_take (i := 7) 91 (v := .bool rb) rfl rfl (by kernel_rfl) (by kernel_rfl) (by kernel_rfl) (fun _ _ _ h => h) (Or.inl ⟨by rfl, fun V hS => by go_simp⟩) hHeld ?_
        simp only [Act.put, List.setIfInBounds_toArray, List.set_cons_zero, List.set_cons_succ]
        refine wpAnyH_ready (rs := [9]) (by kernel_rfl) (by simp) ?_
        refine AllReadyH.cons rfl (fun K hK => ?_) AllReadyH.nil
        have hGG := q379.step m401
        refine step_store_all (P := Try.prog) rfl 33 (.tmp 14) (.tmp 90) rfl #[.string o.wd, .int .i64 o.tr, .slice a395 o.ths.length c396, .int .i64 o.la, .string o.ch, .int .i64 o.ct] rfl rfl hGG rfl (by simp [Value.oneCell']) (by kernel_rfl) ?_
        have hS9 := setRow_heap _ _ _ #[.string o.wd, .int .i64 o.tr, .slice a395 o.ths.length c396, .int .i64 o.la, .string o.ch, .int .i64 o.ct] 33 (0, 0) hGG
        have hB9 : Below w7.heap.size w7 _ := Go.below_setRow hHeld (show w7.heap.size ≤ _ from u333) #[.string o.wd, .int .i64 o.tr, .slice a395 o.ths.length c396, .int .i64 o.la, .string o.ch, .int .i64 o.ct]
        have hR9 := (q397.below m403).setRowN (g := _) (cs := #[.string o.wd, .int .i64 o.tr, .slice a395 o.ths.length c396, .int .i64 o.la, .string o.ch, .int .i64 o.ct]) (T := 33) hGG (by decide)
        refine hK.out _ _ hB9 (fun hHeld => ?_)
        clear hK K
        refine held_take (i := 10) 15 (v := .bool rb) rfl rfl (by kernel_rfl) (by kernel_rfl) (by kernel_rfl) (fun _ _ _ h => h) (Or.inl ⟨by rfl, fun V hS => by go_simp⟩) hHeld ?_
        simp only [Act.put, List.setIfInBounds_toArray]
        refine wpAnyH_done (by kernel_rfl) ?_ _
        go_wp2_with fail
        go_meet
        case rel =>
          exact ⟨a395, c396, _, rfl, rfl, hS9, hR9.low (base' := bs322) (by rw [hbs322]; exact u404), (unhide k313).step hHeld, (unhide k314).step hHeld, (unhide k315).step hHeld, (unhide k316).step hHeld, (unhide k317).step hHeld, (unhide o318).below hHeld, (unhide o319).below hHeld, (unhide o320).below hHeld, (unhide T321).trans (hHeld.mono (unhide T321).size), (by rw [hbs322]; exact u333), hHeld.size⟩
    · go_simp
      have q406 := CB.new w7.drew #[.string ⟨#[]⟩, .int .i64 0, .slice none 0 0, .int .i64 0, .string ⟨#[]⟩, .int .i64 0] 33
      refine hK.out _ _ (hHeld.alloc hHeld.size _) (fun hHeld => ?_)
      have m407 := m0.alloc m0.size (.cells #[.string ⟨#[]⟩, .int .i64 0, .slice none 0 0, .int .i64 0, .string ⟨#[]⟩, .int .i64 0] 33)
      have m408 := Below.refl (w7.drew.alloc (.cells #[.string ⟨#[]⟩, .int .i64 0, .slice none 0 0, .int .i64 0, .string ⟨#[]⟩, .int .i64 0] 33)).heap.size (w7.drew.alloc (.cells #[.string ⟨#[]⟩, .int .i64 0, .slice none 0 0, .int .i64 0, .string ⟨#[]⟩, .int .i64 0] 33))
      clear hK K
      have u409 : w7.heap.size ≤ (w7.drew.alloc (.cells #[.string ⟨#[]⟩, .int .i64 0, .slice none 0 0, .int .i64 0, .string ⟨#[]⟩, .int .i64 0] 33)).heap.size := hHeld.size
      refine wpAnyH_ready (rs := [1]) (by kernel_rfl) (by simp) ?_
      refine AllReadyH.cons rfl (fun K hK => ?_) AllReadyH.nil
      go_simp
      refine (unhide CT _ _ _ ((unhide HU).below ((unhide T321).trans (m407.mono (unhide T321).size)))).mono ?_
      rintro e w410 ⟨⟨a411, c412, rfl, q413⟩, hb414⟩
      refine hK.out _ _ (hHeld.trans (hb414.mono hHeld.size)) (fun hHeld => ?_)
      have m415 := m407.trans (hb414.mono m407.size)
      have m416 := m408.trans (hb414.mono m408.size)
      have m417 := Below.refl w410.heap.size w410
      clear hK K
      have u418 : w7.heap.size ≤ w410.heap.size := hHeld.size
      refine wpAnyH_ready (rs := [3]) (by kernel_rfl) (by simp) ?_
      refine AllReadyH.cons rfl (fun K hK => ?_) AllReadyH.nil
      go_simp
      refine (unhide CQ _).mono ?_
      rintro e w419 ⟨rfl, hb423⟩
      refine hK.out _ _ (hHeld.trans (hb423.mono hHeld.size)) (fun hHeld => ?_)
      have m424 := m415.trans (hb423.mono m415.size)
      have m425 := m416.trans (hb423.mono m416.size)
      have m426 := m417.trans (hb423.mono m417.size)
      have m427 := Below.refl w419.heap.size w419
      clear hK K
      have u428 : w7.heap.size ≤ w419.heap.size := hHeld.size
      refine wpAnyH_ready (rs := [4]) (by kernel_rfl) (by simp) ?_
      refine AllReadyH.cons rfl (fun K hK => ?_) AllReadyH.nil
      go_simp
      refine (unhide CI _ _ _ ((unhide T321).trans (m424.mono (unhide T321).size)) ((q413).below m426).rd).mono ?_
      rintro e w429 ⟨⟨a430, c431, rfl, q432⟩, hb433⟩
      refine hK.out _ _ (hHeld.trans (hb433.mono hHeld.size)) (fun hHeld => ?_)
      have m434 := m424.trans (hb433.mono m424.size)
      have m435 := m425.trans (hb433.mono m425.size)
      have m436 := m426.trans (hb433.mono m426.size)
      have m437 := m427.trans (hb433.mono m427.size)
      have m438 := Below.refl w429.heap.size w429
      clear hK K
      have u439 : w7.heap.size ≤ _ := u428
      have u440 : w7.heap.size ≤ w429.heap.size := hHeld.size
      refine held_take (i := 5) 84 (v := .tuple #[.agg #[.string o.wd, .int .i64 o.tr, .slice a430 o.ths.length c431, .int .i64 o.la, .string o.ch, .int .i64 o.ct], .bool rb]) rfl rfl (by kernel_rfl) (by kernel_rfl) (by kernel_rfl) (fun _ _ _ h => h) (Or.inl ⟨by rfl, fun V hS => by go_simp⟩) hHeld ?_
      simp only [Act.put, List.setIfInBounds_toArray, List.set_cons_zero, List.set_cons_succ]
      refine held_take (i := 6) 90 (v := .agg #[.string o.wd, .int .i64 o.tr, .slice a430 o.ths.length c431, .int .i64 o.la, .string o.ch, .int .i64 o.ct]) rfl rfl (by kernel_rfl) (by kernel_rfl) (by kernel_rfl) (fun _ _ _ h => h) (Or.inl ⟨by rfl, fun V hS => by go_simp⟩) hHeld ?_
      simp only [Act.put, List.setIfInBounds_toArray, List.set_cons_zero, List.set_cons_succ]
      refine held_take (i := 7) 91 (v := .bool rb) rfl rfl (by kernel_rfl) (by kernel_rfl) (by kernel_rfl) (fun _ _ _ h => h) (Or.inl ⟨by rfl, fun V hS => by go_simp⟩) hHeld ?_
      simp only [Act.put, List.setIfInBounds_toArray, List.set_cons_zero, List.set_cons_succ]
      refine wpAnyH_ready (rs := [9]) (by kernel_rfl) (by simp) ?_
      refine AllReadyH.cons rfl (fun K hK => ?_) AllReadyH.nil
      have hGG := q406.step m435
      refine step_store_all (P := Try.prog) rfl 33 (.tmp 14) (.tmp 90) rfl #[.string o.wd, .int .i64 o.tr, .slice a430 o.ths.length c431, .int .i64 o.la, .string o.ch, .int .i64 o.ct] rfl rfl hGG rfl (by simp [Value.oneCell']) (by kernel_rfl) ?_
      have hS9 := setRow_heap _ _ _ #[.string o.wd, .int .i64 o.tr, .slice a430 o.ths.length c431, .int .i64 o.la, .string o.ch, .int .i64 o.ct] 33 (0, 0) hGG
      have hB9 : Below w7.heap.size w7 _ := Go.below_setRow hHeld (show w7.heap.size ≤ _ from u0) #[.string o.wd, .int .i64 o.tr, .slice a430 o.ths.length c431, .int .i64 o.la, .string o.ch, .int .i64 o.ct]
      have hR9 := (q432.below m438).setRowN (g := _) (cs := #[.string o.wd, .int .i64 o.tr, .slice a430 o.ths.length c431, .int .i64 o.la, .string o.ch, .int .i64 o.ct]) (T := 33) hGG (by decide)
      refine hK.out _ _ hB9 (fun hHeld => ?_)
      clear hK K
      refine held_take (i := 10) 15 (v := .bool rb) rfl rfl (by kernel_rfl) (by kernel_rfl) (by kernel_rfl) (fun _ _ _ h => h) (Or.inl ⟨by rfl, fun V hS => by go_simp⟩) hHeld ?_
      simp only [Act.put, List.setIfInBounds_toArray]
      refine wpAnyH_done (by kernel_rfl) ?_ _
      go_wp2_with fail
      go_meet
      case rel =>
        exact ⟨a430, c431, _, rfl, rfl, hS9, hR9.low (base' := bs322) (by rw [hbs322]; exact u439), (unhide k313).step hHeld, (unhide k314).step hHeld, (unhide k315).step hHeld, (unhide k316).step hHeld, (unhide k317).step hHeld, (unhide o318).below hHeld, (unhide o319).below hHeld, (unhide o320).below hHeld, (unhide T321).trans (hHeld.mono (unhide T321).size), (by rw [hbs322]; exact u0), hHeld.size⟩
  case rest =>
  obtain ⟨a323, c324, g325, rfl, rfl, k450, o451, k441, k442, k443, k444, k445, o446, o447, o448, T449, l452, z453⟩ := hcut
  replace k450 := hide k450
  replace k441 := hide k441
  replace k442 := hide k442
  replace k443 := hide k443
  replace k444 := hide k444
  replace k445 := hide k445
  replace o451 := hide o451
  replace o446 := hide o446
  replace o447 := hide o447
  replace o448 := hide o448
  replace T449 := hide T449
  replace hbs322 := hide hbs322
  clear k313 k314 k315 k316 k317 o318 o319 o320 T321
  go_upto_region 31 with (first
    | (refine wpList_load_row (P := Try.prog) rfl 33 (.tmp 14) rfl g325 rfl 33 #[.string o.wd, .int .i64 o.tr, .slice a323 o.ths.length c324, .int .i64 o.la, .string o.ch, .int .i64 o.ct] (0, 0) _ (unhide k450) Try.underlying33 rfl rfl ?_)
    | (refine wpList_load_row (P := Try.prog) rfl 33 (.tmp 6) rfl g20 rfl 33 #[.string o.wd, .int .i64 o.tr, .slice a18 o.ths.length c19, .int .i64 o.la, .string o.ch, .int .i64 o.ct] (0, 0) _ (unhide k443) Try.underlying33 rfl rfl ?_)
    | (go_at_call 11; refine (unhide CEo _ _ _ _ _ (unhide o451).rd (unhide o448).rd).mono ?_; rintro e w8 ⟨rfl, hb8⟩)
    | fail)
  have k454 := hide ((unhide k450).step hb8)
  have k455 := hide ((unhide k441).step hb8)
  have k456 := hide ((unhide k442).step hb8)
  have k457 := hide ((unhide k443).step hb8)
  have k458 := hide ((unhide k444).step hb8)
  have k459 := hide ((unhide k445).step hb8)
  have o460 := hide ((unhide o451).below hb8)
  have o461 := hide ((unhide o446).below hb8)
  have o462 := hide ((unhide o447).below hb8)
  have o463 := hide ((unhide o448).below hb8)
  have T464 := hide ((unhide T449).trans (hb8.mono (unhide T449).size))
  clear k450 k441 k442 k443 k444 k445 o451 o446 o447 o448 T449 hb8
  go_upto_region 36 with (first
    | (refine wpList_load_row (P := Try.prog) rfl 33 (.tmp 9) rfl g164 rfl 33 #[.string o.wd, .int .i64 o.tr, .slice a162 o.ths.length c163, .int .i64 o.la, .string o.ch, .int .i64 o.ct] (0, 0) _ (unhide k455) Try.underlying33 rfl rfl ?_)
    | (go_at_call 13; refine (unhide CH _ _ _ (unhide o461).rd).mono ?_; rintro e w9 ⟨rfl, hb9⟩)
    | fail)
  have k465 := hide ((unhide k454).step hb9)
  have k466 := hide ((unhide k455).step hb9)
  have k467 := hide ((unhide k456).step hb9)
  have k468 := hide ((unhide k457).step hb9)
  have k469 := hide ((unhide k458).step hb9)
  have k470 := hide ((unhide k459).step hb9)
  have o471 := hide ((unhide o460).below hb9)
  have o472 := hide ((unhide o461).below hb9)
  have o473 := hide ((unhide o462).below hb9)
  have o474 := hide ((unhide o463).below hb9)
  have T475 := hide ((unhide T464).trans (hb9.mono (unhide T464).size))
  clear k454 k455 k456 k457 k458 k459 o460 o461 o462 o463 T464 hb9
  clear CS CI CT CEo CEb CMo CMb CH CQ
  go_wp2
  go_ret
  exact ⟨rfl, unhide T475⟩
end Go.Proofs.Ytkbbcjnickgfjab

