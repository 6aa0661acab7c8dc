/- What spec.l03Acts comes to: some acts of short texts. -/
import Derived.Test.YtkaaabpodhgbpaaDrawL
import Derived.Test.YtkaaabpodhgbpaaActsS
import Derived.Test.YtkaaabpodhgbpaaMarkFH
namespace Go.Proofs.Ytkaaabpodhgbpaa
open Go.RowKit

/-- 'out = append(out, a)' on a row of acts of the call's own. -/
theorem wpList_append_act {P : Program} {w : World} {ops : Array Oper} {rest : List Oper} {o : Oper} {a : Act} {Q : Exit → Act → World → Prop} (hgd : o.guard = none) (s x : Operand) (t : TypeId)
    (ho : o.op = .call { callee := .builtin .append, args := #[s, x], argTypes := #[t, t] })
    (base : Nat) (e : TypeId) (i : TypeInfo) (z : Value) (nb : Nat) (ht : P.underlying t = some (.slice e)) (hi : P.info? e = some i) (hz : i.zero = some z) (hsize : i.size = 4) (hby : i.bytes = nb) (hzs : z.cells.size = 4)
    (v : Value) (fs : List Ac) (hs : a.eval s = v) (hown : OwnA w base e v fs)
    (cs : Array Value) (f : Ac) (hcs : cs.toList = acc f) (c : Nat) (hx : a.eval x = .slice (some ⟨w.heap.size, 0, none⟩) 1 c)
    (hlen : fs.length ≤ 2000000) (hnb : nb ≤ 1000) (hbase : base ≤ w.heap.size)
    (h : ∀ a' c' w', OwnA w' base e (.slice a' (fs ++ [f]).length c') (fs ++ [f]) → w.grownBy w' v.ownBlock → wpList P ops Q rest (a.put o.dst (.slice a' (fs ++ [f]).length c')) w') :
    wpList P ops Q (o :: rest) a (w.alloc (.cells cs e)) := by
  refine wpList_plain hgd fun K hK => ?_
  have hblk := heap_alloc_new w (.cells cs e)
  have hcell : ∀ j u, (acc f)[j]? = some u → (w.alloc (.cells cs e)).cell? ((⟨w.heap.size, 0, none⟩ : Addr).add j) = some u := by
    intro j u hu
    have hadd : (⟨w.heap.size, 0, none⟩ : Addr).add j = ⟨w.heap.size, j, none⟩ := by unfold Addr.add; split <;> simp_all
    rw [hadd, cell_of_row _ w.heap.size j cs e (0, 0) hblk]
    rw [← hcs] at hu
    simpa using hu
  have hmul : (fs.length + 1) * nb ≤ 140737488355328 := Nat.le_trans (Nat.mul_le_mul (show fs.length + 1 ≤ 2000001 by omega) hnb) (by decide)
  refine wp_append_own (w.alloc (.cells cs e)) s x t ho base e i z 4 nb ht hi hz hsize hby hzs (by decide) v fs.length (fs.flatMap acc) hs (hown.alloc _)
    ⟨w.heap.size, 0, none⟩ 1 c (acc f) hx rfl hcell (by intro u hu; simp only [acc, List.mem_cons, List.mem_nil_iff, or_false] at hu; rcases hu with rfl | rfl | rfl | rfl <;> rfl) (by unfold maxLen; omega) hmul (by simp; omega) ?_
  intro v' w' h2 h3 _
  have h2' : OwnA w' base e v' (fs ++ [f]) := by unfold OwnA; rw [List.length_append, List.flatMap_append]; simpa using h2
  obtain ⟨a', c', rfl⟩ := h2'.rda.shape
  exact hK _ _ (h a' c' w' h2' (gT (gB ((Below.refl w.heap.size w).alloc (Nat.le_refl _) _) _) h3))

theorem madeA_nil (w : World) (base : Nat) (e : TypeId) (hb : base ≤ w.heap.size) : OwnA (w.alloc (.cells #[] e)) base e (.slice (some ⟨w.heap.size, 0, none⟩) 0 0) [] :=
  World.ownsRow_made w #[] 0 hb (by decide) (by simp)
def Short (a : Ac) : Prop := a.nm.size ≤ 9 ∧ a.tx.size ≤ 9 ∧ a.to.size ≤ 9
/-- The disk that is read, apart from the cursor and from the variable's own box. -/
structure Apart (wr : World) (vd : Value) (fs : List Fl) (g b : Nat) : Prop where
  rd : RdF wr vd fs
  ne : ∀ k, vd.ownBlock = some k → k ≠ g ∧ k ≠ b
theorem Apart.grown {wr w' : World} {vd : Value} {fs : List Fl} {g b k : Nat} (h : Apart wr vd fs g b) (hg : wr.grownBy w' (some k)) (hk : k = g ∨ k = b) : Apart w' vd fs g b :=
  ⟨h.rd.grown hg (fun j hj e => by have := h.ne j hj; simp only [Option.some.injEq] at e; rcases hk with rfl | rfl <;> omega), h.ne⟩
theorem Apart.step {wr w' : World} {vd : Value} {fs : List Fl} {g b : Nat} (h : Apart wr vd fs g b) (hb : Below wr.heap.size wr w') : Apart w' vd fs g b := ⟨h.rd.below hb, h.ne⟩
theorem Apart.of {wr : World} {vd : Value} {fs : List Fl} {g b base : Nat} {e : TypeId} (h : OwnF wr base e vd fs) (hg : g < base) (hb : b < base) : Apart wr vd fs g b :=
  ⟨h.rd, fun k hk => by have := (h.lt k hk).1; omega⟩

set_option maxRecDepth 20000 in
set_option maxHeartbeats 4000000 in
theorem l03Acts_any {w : World} {base g n c : Nat} {o : Option Addr} (h : Cur w base g o n c) (hn : n ≤ 1048576) (fs0 : List Fl) (v0 : Value) (h0 : RdF w v0 fs0) (hne : ∀ k, v0.ownBlock = some k → k ≠ g) (hlt0 : ∀ k, v0.ownBlock = some k → k < w.heap.size) (hB0 : Bd fs0) (hn0 : fs0.length ≤ 2000000) :
    Calls Try.prog 31 #[.pointer (some ⟨g, 0, none⟩), .agg #[v0]] w fun e w' => ∃ (as' : List Ac) (a1 : Option Addr) (c1 : Nat), (as'.length ≤ 9 ∧ ∀ a ∈ as', Short a) ∧ e = .returned (.slice a1 as'.length c1) ∧ OwnA w' w.heap.size 45 (.slice a1 as'.length c1) as' ∧ w.grownBy w' (some g) ∧ Cur w' base g o n c := by
  obtain ⟨i0, hi, hz0, hz1, hz2⟩ := info_parts infoAct
  have hg := h.lt
  have H := hide h
  have HR0 := hide h0
  obtain ⟨ad, cd, rfl⟩ := h0.shape
  have HNE := hide hne
  have HLT := hide hlt0
  have HB0 := hide hB0
  clear h h0 hne hlt0 hB0
  go_enter Try.func31, Try.ntmps31
  go_wp2_with fail
  obtain ⟨W0, e0, xD0, ow0, hb0, z0⟩ : ∃ W, (w.alloc (.cells #[.slice ad fs0.length cd] 26)).alloc (.cells #[] 45) = W ∧ Box W w.heap.size 26 (.slice ad fs0.length cd) ∧ OwnA W (w.heap.size + 1) 45 (.slice (some ⟨w.heap.size + 1, 0, none⟩) ([] : List Ac).length 0) [] ∧ Below w.heap.size w W ∧ w.heap.size + 1 < W.heap.size := by
    refine ⟨_, rfl, (Box.new w _ _).alloc _, ?_, ((Below.refl _ w).alloc (Nat.le_refl _) _).alloc (by simp) _, by simp⟩
    have h := madeA_nil (w.alloc (.cells #[.slice ad fs0.length cd] 26)) (w.heap.size + 1) 45 (by simp)
    simpa using h
  rw [e0]
  clear e0
  go_loopw [5, 6] (fun v ti wr => ∃ (k : Nat) (as' : List Ac) (a1 : Option Addr) (c1 : Nat) (fs : List Fl) (a' : Option Addr) (c' : Nat), k ≤ 9 ∧ ti = .int .i64 (k : Int) ∧ v = .slice a1 as'.length c1 ∧ as'.length ≤ k ∧ Hid (∀ a ∈ as', Short a) ∧ OwnA wr (w.heap.size + 1) 45 (.slice a1 as'.length c1) as' ∧ Box wr w.heap.size 26 (.slice a' fs.length c') ∧ Hid (Apart wr (.slice a' fs.length c') fs g w.heap.size) ∧ Hid (Bd fs) ∧ fs.length ≤ 2000000 ∧ w.grownBy wr (some g) ∧ w.heap.size + 1 < wr.heap.size ∧ Hid (Cur wr base g o n c))
    (fun _ ti _ => 9 - (intOf ti).toNat)
  case atStart => exact ⟨0, [], _, _, fs0, ad, cd, Nat.zero_le _, rfl, rfl, Nat.le_refl _, hide (fun _ h => by cases h), ow0, xD0, hide ⟨(unhide HR0).below hb0, fun k hk => ⟨(unhide HNE) k hk, by have := (unhide HLT) k hk; omega⟩⟩, HB0, hn0, gB hb0 _, z0, (unhide H).below hb0 hg⟩
  case round =>
    obtain ⟨k, as', a1, c1, fs, a', c', hk, rfl, rfl, hak, hsh, hown, xD, hap, hbd, hfl, hgr, hsz, HC⟩ := hrel
    replace hown := hide hown
    replace xD := hide xD
    replace hgr := hide hgr
    clear xD0 ow0 hb0
    go_wp2_with fail
    go_at_call 22
    refine (l01Below_any (unhide HC) hn 9 (by decide) (by decide)).mono ?_
    rintro e w2 ⟨x, hx, rfl, ho2, hc2⟩
    have g2 := gO ho2
    have ow2 := hide ((unhide hown).grown g2 (fun k hk => by have := ((unhide hown).lt k hk).1; simp; omega))
    have xD2 := hide ((unhide xD).grown g2 (by simp; omega))
    have ap2 := hide ((unhide hap).grown g2 (.inl rfl))
    have G2 := hide (gT (unhide hgr) g2)
    have s2 : wr.heap.size ≤ w2.heap.size := g2.size
    replace hc2 := hide hc2
    clear ho2 g2
    by_cases hkx : (k : Int) < (x : Int)
    · go_wp2_with fail
      go_at_call 48
      refine (l03Act_any (unhide hc2) hn).mono ?_
      rintro e w3 ⟨a, ha9, rfl, g3, hc3⟩
      have ow3 := (unhide ow2).grown g3 (fun k hk => by have := ((unhide ow2).lt k hk).1; simp; omega)
      have xD3 := (unhide xD2).grown g3 (by simp; omega)
      have ap3 := (unhide ap2).grown g3 (.inl rfl)
      have G3 := gT (unhide G2) g3
      have s3 : w2.heap.size ≤ w3.heap.size := g3.size
      obtain ⟨W4, e4, xA4, hb4, z4⟩ : ∃ W, w3.alloc (.cells #[.int .i64 a.kd, .string a.nm, .string a.tx, .string a.to] 45) = W ∧ AcB W w3.heap.size 45 a ∧ Below w3.heap.size w3 W ∧ w3.heap.size < W.heap.size := ⟨_, rfl, heap_alloc_new w3 _, (Below.refl _ w3).alloc (Nat.le_refl _) _, by simp⟩
      have ow4 := hide (ow3.below hb4)
      have xD4 := xD3.step hb4
      have ap4 := ap3.step hb4
      have G4 := hide (gT G3 (gB hb4 _))
      have hc4 := hide (hc3.below hb4 (by omega))
      have C := specDoAct_any fs a (.slice a' fs.length c') W4 ap4.rd (unhide hbd) hfl (by omega) (by omega) (by omega)
      unfold DkEnd acv at C
      have cD3 := xD3.cell
      have lD3 := xD3.lt
      unfold acv
      replace e4 := hide e4
      replace g3 := hide g3
      replace hc3 := hide hc3
      replace hb4 := hide hb4
      replace ow3 := hide ow3
      replace xA4 := hide xA4
      clear ap3 G3
      go_wp2_with fail
      rw [unhide e4]
      clear cD3 lD3 xD3
      have ap4 := hide ap4
      obtain ⟨r, hr⟩ : ∃ r, actL fs a = r := ⟨_, rfl⟩
      rw [hr] at C
      have HRR := hide hr
      clear hr
      cases r with
      | some o' =>
        simp only [Option.getD_some, Option.isSome_some] at C
        have C := hide C
        have HO := hide (actL_small (unhide HRR))
        go_at_call 38
        refine (unhide C).mono ?_
        rintro e w5 ⟨⟨a5, c5, rfl, ho5⟩, hb5⟩
        have hbz := bTr (Below.refl W4.heap.size W4) hb5
        have ow5 := (unhide ow4).below hb5
        have xA5 := (unhide xA4).step hb5
        have xD5 := xD4.step hb5
        have ap5 := (unhide ap4).step hb5
        have G5 := gT (unhide G4) (gB hb5 _)
        have hc5 := (unhide hc4).below hb5 (by omega)
        have s5 := hb5.size
        obtain ⟨W6, e6, xN6, hb6, z6⟩ : ∃ W, w5.alloc (.cells #[.slice a5 o'.length c5] 26) = W ∧ Box W w5.heap.size 26 (.slice a5 o'.length c5) ∧ Below w5.heap.size w5 W ∧ w5.heap.size < W.heap.size := ⟨_, rfl, Box.new w5 _ _, (Below.refl _ w5).alloc (Nat.le_refl _) _, by simp⟩
        have ow6 := hide (ow5.below hb6)
        have xA6 := hide (xA5.step hb6)
        have xD6 := hide (xD5.step hb6)
        have ap6 := hide (ap5.step hb6)
        have G6 := hide (gT G5 (gB hb6 _))
        have hc6 := hide (hc5.below hb6 (by omega))
        have on6 := hide ((show OwnF w5 W4.heap.size 36 (.slice a5 o'.length c5) o' from ho5).below hb6)
        replace xN6 := hide xN6
        replace hb5 := hide hb5
        replace hb6 := hide hb6
        replace hbz := hide hbz
        replace ho5 := hide ho5
        replace ow5 := hide ow5
        clear xA5 xD5 ap5 G5 hc5
        obtain ⟨q0, q1, q2, q3⟩ := (unhide xA6).at
        have lA := (unhide xA6).lt
        have oap := unhide ow6
        have lNN := (unhide xN6).lt
        have lDD := (unhide xD6).lt
        have sap : w.heap.size + 1 ≤ W6.heap.size := by omega
        have own4 : ∀ k, (Value.slice a1 as'.length c1).ownBlock = some k → w.heap.size + 1 ≤ k ∧ k < W4.heap.size := fun k hk => (unhide ow4).lt k hk
        have OW4 := hide own4
        clear own4
        go_wp2_with (at_builtin; refine wpList_append_act rfl (.tmp 30) (.tmp 32) 38 rfl (w.heap.size + 1) 45 i0 (acv acz) 56 Try.underlying38 hi hz0 hz1 hz2 rfl (.slice a1 as'.length c1) as' rfl oap _ a rfl 1 rfl (by omega) (by decide) sap ?_; intro a8 c8 w8 ow8 hg8; (have xN8 := (unhide xN6).grown hg8 (fun e => by have := (unhide OW4) _ e; omega)); (have xD8 := (unhide xD6).grown hg8 (fun e => by have := (unhide OW4) _ e; omega)); have cN8 := xN8.cell; have lN8 := xN8.lt; have cD8 := xD8.cell; have zD8 := xD8.frozen; have lD8 := xD8.lt)
        have xD9 := hide (xD8.set (.slice a5 o'.length c5))
        have ow9 := hide (ow8.other (a := ⟨w.heap.size, 0, none⟩) (by show w.heap.size < _; omega) (.slice a5 o'.length c5))
        have on9 := (((unhide on6).grown hg8 (fun k hk e => by have h1 := (unhide OW4) _ e; have h2 := ((unhide on6).lt k hk).1; omega)).other (a := ⟨w.heap.size, 0, none⟩) (by show w.heap.size < _; omega) (.slice a5 o'.length c5))
        have ap9 := hide (Apart.of (g := g) (b := w.heap.size) on9 (by omega) (by omega))
        have b8 : Below w.heap.size W6 w8 := gBelow hg8 (by omega) (fun k hk => by have := (unhide OW4) k hk; omega)
        have b9 := b8.setCell (p := ⟨w.heap.size, 0, none⟩) (Nat.le_refl _) (.slice a5 o'.length c5)
        have G9 := hide (gTB (unhide G6) b9)
        have hc9 := hide ((unhide hc6).below b9 hg)
        have s9 : w.heap.size + 1 < (w8.setCell ⟨w.heap.size, 0, none⟩ (.slice a5 o'.length c5)).heap.size := by have := b8.size; simp; omega
        replace hg8 := hide hg8
        replace ow8 := hide ow8
        replace b8 := hide b8
        replace b9 := hide b9
        replace on9 := hide on9
        clear q0 q1 q2 q3 oap
        go_wp2
        go_roundw
        case rel => exact ⟨k + 1, as' ++ [a], a8, c8, o', a5, c5, by omega, by go_num, by first | rfl | simp, by simp; omega, hide (fun y hy => by rcases List.mem_append.1 hy with h | h; exact unhide hsh y h; simp only [List.mem_singleton] at h; rw [h]; exact ha9), unhide ow9, unhide xD9, ap9, hide (unhide HO).1, (unhide HO).2, unhide G9, s9, hc9⟩
        case measure => simp [intOf]; omega
      | none =>
        simp only [Option.getD_none, List.length_nil, Option.isSome_none] at C
        have C := hide C
        go_at_call 38
        refine (unhide C).mono ?_
        rintro e w5 ⟨⟨a5, c5, rfl, ho5⟩, hb5⟩
        have hbz := bTr (Below.refl W4.heap.size W4) hb5
        have ow5 := (unhide ow4).below hb5
        have xA5 := (unhide xA4).step hb5
        have xD5 := xD4.step hb5
        have ap5 := (unhide ap4).step hb5
        have G5 := gT (unhide G4) (gB hb5 _)
        have hc5 := (unhide hc4).below hb5 (by omega)
        have s5 := hb5.size
        obtain ⟨W6, e6, xN6, hb6, z6⟩ : ∃ W, w5.alloc (.cells #[.slice a5 0 c5] 26) = W ∧ Box W w5.heap.size 26 (.slice a5 0 c5) ∧ Below w5.heap.size w5 W ∧ w5.heap.size < W.heap.size := ⟨_, rfl, Box.new w5 _ _, (Below.refl _ w5).alloc (Nat.le_refl _) _, by simp⟩
        have ow6 := hide (ow5.below hb6)
        have xA6 := hide (xA5.step hb6)
        have xD6 := hide (xD5.step hb6)
        have ap6 := hide (ap5.step hb6)
        have G6 := hide (gT G5 (gB hb6 _))
        have hc6 := hide (hc5.below hb6 (by omega))
        have on6 := hide ((show OwnF w5 W4.heap.size 36 (.slice a5 0 c5) [] from ho5).below hb6)
        replace xN6 := hide xN6
        replace hb5 := hide hb5
        replace hb6 := hide hb6
        replace hbz := hide hbz
        replace ho5 := hide ho5
        replace ow5 := hide ow5
        clear xA5 xD5 ap5 G5 hc5
        go_wp2_with fail
        go_at_call 49
        refine (l01Once_any (unhide hc6) hn 20 (by decide) (by decide)).mono ?_
        rintro e w7 ⟨b, rfl, ho7, hc7⟩
        have g7 := gO ho7
        have ow7 := hide ((unhide ow6).grown g7 (fun k hk => by have := ((unhide ow6).lt k hk).1; simp; omega))
        have xA7 := hide ((unhide xA6).grown g7 (by simp; omega))
        have xD7 := hide ((unhide xD6).grown g7 (by simp; omega))
        have xN7 := hide ((unhide xN6).grown g7 (by simp; omega))
        have ap7 := hide ((unhide ap6).grown g7 (.inl rfl))
        have on7 := hide ((unhide on6).grown g7 (fun k hk => by have := ((unhide on6).lt k hk).1; simp; omega))
        have G7 := hide (gT (unhide G6) g7)
        have s7 : W6.heap.size ≤ w7.heap.size := g7.size
        replace hc7 := hide hc7
        replace g7 := hide g7
        clear ho7
        cases b with
        | true =>
          obtain ⟨q0, q1, q2, q3⟩ := (unhide xA7).at
          have lA := (unhide xA7).lt
          have oap := unhide ow7
          have lNN := (unhide xN7).lt
          have lDD := (unhide xD7).lt
          have sap : w.heap.size + 1 ≤ w7.heap.size := by omega
          have own4 : ∀ k, (Value.slice a1 as'.length c1).ownBlock = some k → w.heap.size + 1 ≤ k ∧ k < W4.heap.size := fun k hk => (unhide ow4).lt k hk
          have OW4 := hide own4
          clear own4
          go_wp2_with (at_builtin; refine wpList_append_act rfl (.tmp 30) (.tmp 32) 38 rfl (w.heap.size + 1) 45 i0 (acv acz) 56 Try.underlying38 hi hz0 hz1 hz2 rfl (.slice a1 as'.length c1) as' rfl oap _ a rfl 1 rfl (by omega) (by decide) sap ?_; intro a8 c8 w8 ow8 hg8; (have xN8 := (unhide xN7).grown hg8 (fun e => by have := (unhide OW4) _ e; omega)); (have xD8 := (unhide xD7).grown hg8 (fun e => by have := (unhide OW4) _ e; omega)); have cN8 := xN8.cell; have lN8 := xN8.lt; have cD8 := xD8.cell; have zD8 := xD8.frozen; have lD8 := xD8.lt)
          have xD9 := hide (xD8.set (.slice a5 0 c5))
          have ow9 := hide (ow8.other (a := ⟨w.heap.size, 0, none⟩) (by show w.heap.size < _; omega) (.slice a5 0 c5))
          have on9 := (((unhide on7).grown hg8 (fun k hk e => by have h1 := (unhide OW4) _ e; have h2 := ((unhide on7).lt k hk).1; omega)).other (a := ⟨w.heap.size, 0, none⟩) (by show w.heap.size < _; omega) (.slice a5 0 c5))
          have ap9 := hide (Apart.of (g := g) (b := w.heap.size) on9 (by omega) (by omega))
          have b8 : Below w.heap.size w7 w8 := gBelow hg8 (by omega) (fun k hk => by have := (unhide OW4) k hk; omega)
          have b9 := b8.setCell (p := ⟨w.heap.size, 0, none⟩) (Nat.le_refl _) (.slice a5 0 c5)
          have G9 := hide (gTB (unhide G7) b9)
          have hc9 := hide ((unhide hc7).below b9 hg)
          have s9 : w.heap.size + 1 < (w8.setCell ⟨w.heap.size, 0, none⟩ (.slice a5 0 c5)).heap.size := by have := b8.size; simp; omega
          replace hg8 := hide hg8
          replace ow8 := hide ow8
          replace b8 := hide b8
          replace b9 := hide b9
          replace on9 := hide on9
          clear q0 q1 q2 q3 oap
          go_wp2
          go_roundw
          case rel => exact ⟨k + 1, as' ++ [a], a8, c8, [], a5, c5, by omega, by go_num, by first | rfl | simp, by simp; omega, hide (fun y hy => by rcases List.mem_append.1 hy with h | h; exact unhide hsh y h; simp only [List.mem_singleton] at h; rw [h]; exact ha9), unhide ow9, unhide xD9, ap9, hide (fun _ h => by cases h), by simp, unhide G9, s9, hc9⟩
          case measure => simp [intOf]; omega
        | false =>
          have s8 : w.heap.size + 1 < w7.heap.size := by omega
          go_wp2
          go_roundw
          case rel => exact ⟨k + 1, as', a1, c1, fs, a', c', by omega, by go_num, rfl, by omega, hsh, unhide ow7, unhide xD7, ap7, hbd, hfl, unhide G7, s8, hc7⟩
          case measure => simp [intOf]; omega
    · go_wp2
      go_ret
      exact ⟨as', a1, c1, ⟨by omega, unhide hsh⟩, rfl, (unhide ow2).low (by omega), unhide G2, unhide hc2⟩
end Go.Proofs.Ytkaaabpodhgbpaa
