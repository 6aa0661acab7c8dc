/- Acts one behind the other: what spec.DoActs comes to. -/
import Derived.Test.YtkaaabpodhgbpaaActTX
import Derived.Test.YtkaaabpodhgbpaaActsI
namespace Go.Proofs.Ytkaaabpodhgbpaa
open Go.RowKit

theorem addP (g o j : Nat) : (⟨g, o, none⟩ : Addr).add j = ⟨g, o + j, none⟩ := by unfold Addr.add; split <;> simp_all

theorem flc_cell {W : World} {g o : Nat} {fs : List Fl} (h : ∀ j f, fs[j]? = some f → FlAt W g (o + j * 3) f) (j : Nat) (u : Value) (hj : (fs.flatMap flc)[j]? = some u) : W.cell? ⟨g, o + j, none⟩ = some u := by
  have hlt : j < fs.length * 3 := by rw [← flc_len]; exact (List.getElem?_eq_some_iff.1 hj).1
  obtain ⟨q, r, rfl, hr⟩ : ∃ q r, j = q * 3 + r ∧ r < 3 := ⟨j / 3, j % 3, by omega, by omega⟩
  have hq : q < fs.length := by omega
  have hf := List.getElem?_eq_getElem hq
  obtain ⟨e0, e1, e2⟩ := flc_get fs q _ hf
  obtain ⟨d0, d1, d2⟩ := h q _ hf
  have hr3 : r = 0 ∨ r = 1 ∨ r = 2 := by omega
  rcases hr3 with rfl | rfl | rfl
  · rw [Nat.add_zero] at hj; rw [e0] at hj; simp only [Option.some.injEq] at hj; subst hj; exact d0
  · rw [e1] at hj; simp only [Option.some.injEq] at hj; subst hj; exact d1
  · rw [e2] at hj; simp only [Option.some.injEq] at hj; subst hj; exact d2
theorem flc_one (fs : List Fl) : ∀ u ∈ fs.flatMap flc, u.oneCell' = true := by
  intro u hu
  obtain ⟨f, _, hf⟩ := List.mem_flatMap.1 hu
  simp only [flc, List.mem_cons, List.not_mem_nil, or_false] at hf
  rcases hf with rfl | rfl | rfl <;> rfl

/-- 'append(out, row...)' on a row of the call's own that is empty. -/
theorem wpList_append_row {P : Program} {W : World} {ops : Array Oper} {rest : List Oper} {o : Oper} {a : Act} {Q : Exit → Act → World → Prop} (hgd : o.guard = none) (s x : Operand) (t : TypeId)
    (ho : o.op = .call { callee := .builtin .append, args := #[s, x], argTypes := #[t, t] })
    (base B : Nat) (e : TypeId) (i : TypeInfo) (z : Value) (ht : P.underlying t = some (.slice e)) (hi : P.info? e = some i) (hz : i.zero = some z) (hsize : i.size = 3) (hby : i.bytes = 40) (hzs : z.cells.size = 3)
    (v : Value) (hs : a.eval s = v) (hown : OwnF W base e v []) (fs : List Fl) (ad : Addr) (c : Nat) (hx : a.eval x = .slice (some ad) fs.length c) (hu : RdF W (.slice (some ad) fs.length c) fs)
    (hlen : fs.length ≤ 2000000) (hB : B ≤ base) (hbase : base ≤ W.heap.size) {w00 : World} (hbel : Below B w00 W)
    (h : ∀ a' c' w', OwnF w' base e (.slice a' fs.length c') fs → Below B w00 w' → wpList P ops Q rest (a.put o.dst (.slice a' fs.length c')) w') :
    wpList P ops Q (o :: rest) a W := by
  refine wpList_plain hgd fun K hK => ?_
  have hcell : ∀ j u, (fs.flatMap flc)[j]? = some u → W.cell? (ad.add j) = some u := by
    intro j u hj
    rcases hu with ⟨a', c', h1, h2⟩ | ⟨g, o', c', h1, _, _, h3⟩
    · subst h2
      simp at hj
    · simp only [Value.slice.injEq, Option.some.injEq] at h1
      rw [h1.1, addP]
      exact flc_cell h3 j u hj
  refine wp_append_own W s x t ho base e i z 3 40 ht hi hz hsize hby hzs (by decide) v 0 [] hs hown ad fs.length c (fs.flatMap flc) hx (flc_len fs) hcell (flc_one fs) (by unfold maxLen; omega) (by omega) hbase ?_
  intro v' w' h2 h3 _
  rw [Nat.zero_add, List.nil_append] at h2
  have h2' : OwnF w' base e v' fs := h2
  obtain ⟨a', c', rfl⟩ := h2'.shaped
  refine hK _ _ (h a' c' w' h2' ?_)
  refine hbel.grown h3 (by omega) ?_
  intro k hk
  have := (World.ownsRow.lt hown k hk).1
  omega
theorem RdF.nil_of {w : World} {n c : Nat} {fs : List Fl} (h : RdF w (.slice none n c) fs) : fs = [] := by
  rcases h with ⟨_, _, _, h⟩ | ⟨g, o, c', h, _⟩
  · exact h
  · simp at h
theorem madeF_nil (w : World) (base : Nat) (e : TypeId) (hb : base ≤ w.heap.size) : OwnF (w.alloc (.cells #[] e)) base e (.slice (some ⟨w.heap.size, 0, none⟩) 0 0) [] :=
  World.ownsRow_made w #[] 0 hb (by decide) (by simp)

theorem okL_bd {fs : List Fl} (h : okL fs = true) : Bd fs := by
  intro f hf
  have := (okL_iff.1 h).2.1 f hf
  simp only [fileB, nameB, Bool.and_eq_true, decide_eq_true_eq] at this
  omega
theorem actL_small {fs o : List Fl} {a : Ac} (h : actL fs a = some o) : Bd o ∧ o.length ≤ 2000000 := by
  unfold actL at h
  cases hok : okL fs with
  | false => rw [hok] at h; simp at h
  | true =>
    rw [hok] at h
    simp only [if_true] at h
    have ho := actR_ok hok h
    exact ⟨okL_bd ho, by have := (okL_iff.1 ho).1; omega⟩

set_option maxRecDepth 20000 in
set_option maxHeartbeats 4000000 in
theorem specDoActs_any (fs : List Fl) (as' : List Ac) (v va : Value) (w : World) (hr : RdF w v fs) (ha : RdA w va as') (hB : Bd fs) (hn : fs.length ≤ 2000000) (hA : AcsBd as') (hna : as'.length ≤ 2000000) :
    Calls Try.prog 16 #[.agg #[v], va] w fun e w' => DnEnd 36 (runL fs as') w e w' := by
  obtain ⟨i0, hi, hz0, hz1, hz2⟩ := info_parts infoFile
  obtain ⟨a0, c0, rfl⟩ := hr.shape
  obtain ⟨a1, c1, rfl, hac⟩ := ha.open
  have HR := hide hr
  have HB := hide hB
  have HA := hide hac
  clear hr hB ha hac
  go_enter Try.func16, Try.ntmps16
  cases a0 with
  | none =>
    have hfs := (unhide HR).nil_of
    subst hfs
    simp only [List.length_nil] at HR ⊢
    have hst : ∀ (ad : Addr) (W : World), Sem.run Try.prog (storeCells ad []) W = .ok () W := fun _ _ => rfl
    obtain ⟨n, hnn⟩ : ∃ n, as'.length = n := ⟨_, rfl⟩
    have hn2 : n ≤ 2000000 := by rw [← hnn]; exact hna
    rw [hnn]
    replace hnn := hide hnn
    go_wp2_with (fail)
    obtain ⟨W4, e4, xR, ho4, xO, hb4, z4⟩ : ∃ W4, (((w.alloc (.cells #[.slice none 0 c0] 26)).alloc (.cells #[.slice none 0 0] 26)).alloc (.cells #[] 36)).alloc (.cells #[.slice (some ⟨w.heap.size + 1 + 1, 0, none⟩) 0 0] 26) = W4 ∧ Box W4 (w.heap.size + 1) 26 (.slice none 0 0) ∧ OwnF W4 (w.heap.size + 1 + 1) 36 (.slice (some ⟨w.heap.size + 1 + 1, 0, none⟩) ([] : List Fl).length 0) [] ∧ Box W4 (w.heap.size + 1 + 1 + 1) 26 (.slice (some ⟨w.heap.size + 1 + 1, 0, none⟩) ([] : List Fl).length 0) ∧ Below w.heap.size w W4 ∧ W4.heap.size = w.heap.size + 4 := by
      refine ⟨_, rfl, ?_, ?_, ?_, ((((Below.refl _ w).alloc (Nat.le_refl _) _).alloc (by simp) _).alloc (by simp; omega) _).alloc (by simp; omega) _, by simp⟩
      · have h := Box.new (w.alloc (.cells #[.slice none 0 c0] 26)) 26 (.slice none 0 0)
        rw [World.size_alloc] at h
        exact (h.alloc _).alloc _
      · have h := madeF_nil ((w.alloc (.cells #[.slice none 0 c0] 26)).alloc (.cells #[.slice none 0 0] 26)) (w.heap.size + 1 + 1) 36 (by simp)
        have h2 := h.alloc (.cells #[.slice (some ⟨w.heap.size + 1 + 1, 0, none⟩) 0 0] 26)
        simpa using h2
      · have h := Box.new (((w.alloc (.cells #[.slice none 0 c0] 26)).alloc (.cells #[.slice none 0 0] 26)).alloc (.cells #[] 36)) 26 (.slice (some ⟨w.heap.size + 1 + 1, 0, none⟩) 0 0)
        simpa using h
    rw [e4]
    clear e4
    go_loopw [7] (fun ti wr => ∃ (k : Nat) (cur : List Fl) (a' : Option Addr) (c' : Nat), k ≤ n ∧ ti = .int .i64 k ∧ Box wr (w.heap.size + 1 + 1 + 1) 26 (.slice a' cur.length c') ∧ OwnF wr (w.heap.size + 1 + 1) 36 (.slice a' cur.length c') cur ∧ Hid (RunAt [] as' k cur) ∧ Hid (Bd cur) ∧ cur.length ≤ 2000000 ∧ Box wr (w.heap.size + 1) 26 (.slice none 0 0) ∧ Below w.heap.size w wr ∧ W4.heap.size ≤ wr.heap.size) (fun ti _ => n - (intOf ti).toNat)
    case atStart => exact ⟨0, [], _, _, Nat.zero_le _, rfl, xO, ho4, RunAt.start _ _, HB, hn, xR, hb4, Nat.le_refl _⟩
    case round =>
      obtain ⟨k, cur, a', c', hk, rfl, xOr, hor, hrun, hbd, hcl, xRr, hbr, hszr⟩ := hrel
      have lO := xOr.lt
      have lR := xRr.lt
      have cO := xOr.cell
      have zO := xOr.frozen
      have cR := xRr.cell
      have zR := xRr.frozen
      by_cases hlt : k < n
      · obtain ⟨a, hak⟩ : ∃ a, as'[k]? = some a := ⟨as'[k]'(by rw [unhide hnn]; exact hlt), List.getElem?_eq_getElem _⟩
        obtain ⟨g, o, rfl, hg, hat⟩ := (unhide HA) k a hak
        obtain ⟨d1, d2, d3, d4⟩ := hat.below hbr hg
        have hgr : g < wr.heap.size := by have := hbr.size; omega
        obtain ⟨z1, z2, z3⟩ := hA a (List.mem_of_getElem? hak)
        have hi0 : (0 : Int) ≤ (k : Int) := by omega
        have hi1 : (k : Int) < (n : Int) := by omega
        have C : ∀ W, RdF W (.slice a' cur.length c') cur → Calls Try.prog 38 #[.agg #[.slice a' cur.length c'], acv a] W fun e w' => DkEnd 36 ((actL cur a).getD []) (actL cur a).isSome W e w' := fun W h => specDoAct_any cur a _ W h (unhide hbd) hcl (by omega) (by omega) (by omega)
        unfold DkEnd acv at C
        have HLT := hide hlt
        have hor0 := hide hor
        have hbr0 := hide hbr
        obtain ⟨r, hr⟩ : ∃ r, actL cur a = r := ⟨_, rfl⟩
        rw [hr] at C
        have HRR := hide hr
        clear hr hor hbr
        cases r with
        | none =>
          simp only [Option.getD_none, List.length_nil, Option.isSome_none] at C
          have C := hide C
          have HRUN := hide ((unhide hrun).stop hak (unhide HRR))
          clear hak
          have KS : Hid (∀ W, Below wr.heap.size wr W → W.cell? ⟨(w.heap.size + 1 + 1 + 1), 0, none⟩ = some (.slice a' cur.length c') ∧ W.cell? ⟨g, o + k * 4, none⟩ = some (.int .i64 a.kd) ∧ W.cell? ⟨g, o + k * 4 + 1, none⟩ = some (.string a.nm) ∧ W.cell? ⟨g, o + k * 4 + 2, none⟩ = some (.string a.tx) ∧ W.cell? ⟨g, o + k * 4 + 3, none⟩ = some (.string a.to)) := fun W hB => ⟨(hB.cell (p := ⟨(w.heap.size + 1 + 1 + 1), 0, none⟩) lO).trans cO, (hB.cell (p := ⟨g, o + k * 4, none⟩) hgr).trans d1, (hB.cell (p := ⟨g, o + k * 4 + 1, none⟩) hgr).trans d2, (hB.cell (p := ⟨g, o + k * 4 + 2, none⟩) hgr).trans d3, (hB.cell (p := ⟨g, o + k * 4 + 3, none⟩) hgr).trans d4⟩
          go_wp2_with (fail)
          go_region_held3 (fun W => W.cell? ⟨(w.heap.size + 1 + 1 + 1), 0, none⟩ = some (.slice a' cur.length c') ∧ W.cell? ⟨g, o + k * 4, none⟩ = some (.int .i64 a.kd) ∧ W.cell? ⟨g, o + k * 4 + 1, none⟩ = some (.string a.nm) ∧ W.cell? ⟨g, o + k * 4 + 2, none⟩ = some (.string a.tx) ∧ W.cell? ⟨g, o + k * 4 + 3, none⟩ = some (.string a.to)) (first | exact (unhide KS) _ ((Below.refl _ wr).drew) | exact (unhide KS) _ (((Below.refl _ wr).drew).alloc (Nat.le_refl _) _) | exact (unhide KS) _ B5 | exact (unhide KS) _ (B5.alloc B5.size _) | exact (unhide KS) _ (B5.setCell (p := ⟨wr.heap.size, 0, none⟩) (Nat.le_refl _) _)) (first
            | (go_at_call 38; refine ((unhide C) _ (by first | exact (unhide hor0).rd.drew | exact ((unhide hor0).rd.drew).alloc _)).mono ?_; rintro e w5 ⟨⟨a5, c5, rfl, ho5⟩, hb5⟩; (have B5 : Below wr.heap.size wr w5 := by first | exact ((Below.refl _ wr).drew).trans hb5 | exact (((Below.refl _ wr).drew).alloc (Nat.le_refl _) _).trans (hb5.mono (by simp))); (first | (have X : Box w5 wr.heap.size 26 (.slice none 0 0) := ((Box.new wr.drew 26 (.slice none 0 0)).step hb5); have cX := X.cell; have zX := X.frozen; have lX := X.lt) | skip)))
          all_goals
            first
            | (have bz := Box.new w5 26 (.slice a5 0 c5); have oz := (ho5.alloc (.cells #[(.slice a5 0 c5)] 26)).low (base' := wr.heap.size) (Nat.le_refl _); have hz := B5.alloc B5.size (.cells #[(.slice a5 0 c5)] 26); generalize w5.alloc (.cells #[(.slice a5 0 c5)] 26) = w6 at bz oz hz ⊢; show Exit.then _ _ Exit.normal _ w6)
            | (have bz : Box (w5.setCell ⟨wr.heap.size, 0, none⟩ (.slice a5 0 c5)) wr.heap.size 26 (.slice a5 0 c5) := ((Box.new wr.drew 26 (.slice none 0 0)).step hb5).set (.slice a5 0 c5); have oz := (ho5.other (a := ⟨wr.heap.size, 0, none⟩) (by exact (Box.new wr.drew 26 (.slice none 0 0)).lt) (.slice a5 0 c5)).low (base' := wr.heap.size) (by simp); have hz := B5.setCell (p := ⟨wr.heap.size, 0, none⟩) (Nat.le_refl _) (.slice a5 0 c5); generalize w5.setCell ⟨wr.heap.size, 0, none⟩ (.slice a5 0 c5) = w6 at bz oz hz ⊢; show Exit.then _ _ Exit.normal _ w6)
            clear KS ho5 B5
            replace hb5 := hide hb5
            have xO6 := xOr.step hz
            have xR6 := xRr.step hz
            have cO6 := xO6.cell
            have cR6 := xR6.cell
            have zR6 := xR6.frozen
            have lO6 := xO6.lt
            have lR6 := xR6.lt
            have hbf := hide ((bTr (unhide hbr0) hz).setCell (p := ⟨w.heap.size + 1, 0, none⟩) (by show w.heap.size ≤ w.heap.size + 1; omega) (.slice a' cur.length c'))
            have hof := hide ((((unhide hor0).below hz).other (a := ⟨w.heap.size + 1, 0, none⟩) (by show w.heap.size + 1 < _; omega) (.slice a' cur.length c')).low (base' := w.heap.size) (by omega))
            replace hz := hide hz
            replace oz := hide oz
            clear cO zO cR zR d1 d2 d3 d4
            go_wp2
            refine bodyPost_ret (v := .tuple #[.agg #[.slice a' cur.length c'], .int .i64 (k : Int)]) (by simp [results, Try.results16, go_sem, cR6]) rfl ?_
            rw [unhide HRUN]
            exact ⟨⟨a', c', rfl, unhide hof⟩, unhide hbf⟩
        | some o' =>
          simp only [Option.getD_some, Option.isSome_some] at C
          have C := hide C
          have HN := hide ((unhide hrun).next hak (unhide HRR))
          have HO := hide (actL_small (unhide HRR))
          clear hak
          have KS : Hid (∀ W, Below wr.heap.size wr W → W.cell? ⟨(w.heap.size + 1 + 1 + 1), 0, none⟩ = some (.slice a' cur.length c') ∧ W.cell? ⟨g, o + k * 4, none⟩ = some (.int .i64 a.kd) ∧ W.cell? ⟨g, o + k * 4 + 1, none⟩ = some (.string a.nm) ∧ W.cell? ⟨g, o + k * 4 + 2, none⟩ = some (.string a.tx) ∧ W.cell? ⟨g, o + k * 4 + 3, none⟩ = some (.string a.to)) := fun W hB => ⟨(hB.cell (p := ⟨(w.heap.size + 1 + 1 + 1), 0, none⟩) lO).trans cO, (hB.cell (p := ⟨g, o + k * 4, none⟩) hgr).trans d1, (hB.cell (p := ⟨g, o + k * 4 + 1, none⟩) hgr).trans d2, (hB.cell (p := ⟨g, o + k * 4 + 2, none⟩) hgr).trans d3, (hB.cell (p := ⟨g, o + k * 4 + 3, none⟩) hgr).trans d4⟩
          go_wp2_with (fail)
          go_region_held3 (fun W => W.cell? ⟨(w.heap.size + 1 + 1 + 1), 0, none⟩ = some (.slice a' cur.length c') ∧ W.cell? ⟨g, o + k * 4, none⟩ = some (.int .i64 a.kd) ∧ W.cell? ⟨g, o + k * 4 + 1, none⟩ = some (.string a.nm) ∧ W.cell? ⟨g, o + k * 4 + 2, none⟩ = some (.string a.tx) ∧ W.cell? ⟨g, o + k * 4 + 3, none⟩ = some (.string a.to)) (first | exact (unhide KS) _ ((Below.refl _ wr).drew) | exact (unhide KS) _ (((Below.refl _ wr).drew).alloc (Nat.le_refl _) _) | exact (unhide KS) _ B5 | exact (unhide KS) _ (B5.alloc B5.size _) | exact (unhide KS) _ (B5.setCell (p := ⟨wr.heap.size, 0, none⟩) (Nat.le_refl _) _)) (first
            | (go_at_call 38; refine ((unhide C) _ (by first | exact (unhide hor0).rd.drew | exact ((unhide hor0).rd.drew).alloc _)).mono ?_; rintro e w5 ⟨⟨a5, c5, rfl, ho5⟩, hb5⟩; (have B5 : Below wr.heap.size wr w5 := by first | exact ((Below.refl _ wr).drew).trans hb5 | exact (((Below.refl _ wr).drew).alloc (Nat.le_refl _) _).trans (hb5.mono (by simp))); (first | (have X : Box w5 wr.heap.size 26 (.slice none 0 0) := ((Box.new wr.drew 26 (.slice none 0 0)).step hb5); have cX := X.cell; have zX := X.frozen; have lX := X.lt) | skip)))
          all_goals
            first
            | (have bz := Box.new w5 26 (.slice a5 o'.length c5); have oz := (ho5.alloc (.cells #[(.slice a5 o'.length c5)] 26)).low (base' := wr.heap.size) (Nat.le_refl _); have hz := B5.alloc B5.size (.cells #[(.slice a5 o'.length c5)] 26); generalize w5.alloc (.cells #[(.slice a5 o'.length c5)] 26) = w6 at bz oz hz ⊢; show Exit.then _ _ Exit.normal _ w6)
            | (have bz : Box (w5.setCell ⟨wr.heap.size, 0, none⟩ (.slice a5 o'.length c5)) wr.heap.size 26 (.slice a5 o'.length c5) := ((Box.new wr.drew 26 (.slice none 0 0)).step hb5).set (.slice a5 o'.length c5); have oz := (ho5.other (a := ⟨wr.heap.size, 0, none⟩) (by exact (Box.new wr.drew 26 (.slice none 0 0)).lt) (.slice a5 o'.length c5)).low (base' := wr.heap.size) (by simp); have hz := B5.setCell (p := ⟨wr.heap.size, 0, none⟩) (Nat.le_refl _) (.slice a5 o'.length c5); generalize w5.setCell ⟨wr.heap.size, 0, none⟩ (.slice a5 o'.length c5) = w6 at bz oz hz ⊢; show Exit.then _ _ Exit.normal _ w6)
            clear KS ho5 B5
            replace hb5 := hide hb5
            have xO6 := xOr.step hz
            have xR6 := xRr.step hz
            have cO6 := xO6.cell
            have zO6 := xO6.frozen
            have lO6 := xO6.lt
            have cz6 := bz.cell
            have lz6 := bz.lt
            have s6 := hz.size
            have hb7 := hide ((bTr (unhide hbr0) hz).setCell (p := ⟨(w.heap.size + 1 + 1 + 1), 0, none⟩) (by show w.heap.size ≤ (w.heap.size + 1 + 1 + 1); omega) (.slice a5 o'.length c5))
            have ho7 := hide ((oz.other (a := ⟨(w.heap.size + 1 + 1 + 1), 0, none⟩) (by show (w.heap.size + 1 + 1 + 1) < _; omega) (.slice a5 o'.length c5)).low (base' := w.heap.size + 1 + 1) (by omega))
            have xO7 := hide (xO6.set (.slice a5 o'.length c5))
            have xR7 := hide (xR6.other (a := ⟨(w.heap.size + 1 + 1 + 1), 0, none⟩) (by show (w.heap.size + 1 + 1 + 1) ≠ w.heap.size + 1; omega) (.slice a5 o'.length c5))
            have s7 : wr.heap.size ≤ (w6.setCell ⟨(w.heap.size + 1 + 1 + 1), 0, none⟩ (.slice a5 o'.length c5)).heap.size := by simp; omega
            replace hz := hide hz
            replace oz := hide oz
            clear cO zO cR zR d1 d2 d3 d4
            go_wp2
            go_roundw
            case rel => exact ⟨k + 1, o', a5, c5, by have := unhide HLT; omega, by go_num, unhide xO7, unhide ho7, HN, (unhide HO).1, (unhide HO).2, unhide xR7, unhide hb7, by omega⟩
            case measure => have := unhide HLT; simp [intOf]; omega
      · have hkn : as'.length ≤ k := by rw [unhide hnn]; omega
        have hk2 : n = k := by omega
        have HRUN := hide ((unhide hrun).done hkn)
        have hbf := hide (hbr.setCell (p := ⟨w.heap.size + 1, 0, none⟩) (by show w.heap.size ≤ w.heap.size + 1; omega) (.slice a' cur.length c'))
        have hof := hide ((hor.other (a := ⟨w.heap.size + 1, 0, none⟩) (by show w.heap.size + 1 < _; omega) (.slice a' cur.length c')).low (base' := w.heap.size) (by omega))
        clear hor hbr hkn
        have HK2 := hide hk2
        clear hk2
        go_wp2
        refine bodyPost_ret (v := .tuple #[.agg #[.slice a' cur.length c'], .int .i64 (n : Int)]) (by simp [results, Try.results16, go_sem, cR]) rfl ?_
        rw [unhide HRUN]
        exact ⟨⟨a', c', by rw [unhide HK2], unhide hof⟩, unhide hbf⟩
  | some ad =>
    obtain ⟨n, hnn⟩ : ∃ n, as'.length = n := ⟨_, rfl⟩
    have hn2 : n ≤ 2000000 := by rw [← hnn]; exact hna
    rw [hnn]
    replace hnn := hide hnn
    go_wp2_with (at_builtin; refine wpList_append_row rfl (.tmp 10) (.tmp 12) 24 rfl (w.heap.size + 1 + 1) (w.heap.size + 1 + 1) 36 i0 (flv flz) Try.underlying24 hi hz0 hz1 hz2 rfl (.slice (some ⟨w.heap.size + 1 + 1, 0, none⟩) 0 0) rfl (by have h := madeF_nil ((w.alloc (.cells #[.slice (some ad) fs.length c0] 26)).alloc (.cells #[.slice none 0 0] 26)) (w.heap.size + 1 + 1) 36 (by simp); simpa using h) fs ad c0 rfl (by exact (((unhide HR).alloc _).alloc _).alloc _) hn (by omega) (by first | (simp; done) | (simp; omega)) (Below.refl (w.heap.size + 1 + 1) _) ?_; intro a2 c2 w2 ho2 hb2)
    obtain ⟨xR2, hbw2, z2⟩ : Box w2 (w.heap.size + 1) 26 (.slice none 0 0) ∧ Below w.heap.size w w2 ∧ w.heap.size + 3 ≤ w2.heap.size := by
      have h := Box.new (w.alloc (.cells #[.slice (some ad) fs.length c0] 26)) 26 (.slice none 0 0)
      rw [World.size_alloc] at h
      refine ⟨(h.alloc _).below hb2 (by omega), ((((Below.refl _ w).alloc (Nat.le_refl _) _).alloc (by simp) _).alloc (by simp; omega) _).trans (hb2.mono (by omega)), ?_⟩
      have := hb2.size
      simp at this
      omega
    clear hb2
    obtain ⟨W4, e4, xO, hb24, z4⟩ : ∃ W4, w2.alloc (.cells #[.slice a2 fs.length c2] 26) = W4 ∧ Box W4 w2.heap.size 26 (.slice a2 fs.length c2) ∧ Below w2.heap.size w2 W4 ∧ W4.heap.size = w2.heap.size + 1 :=
      ⟨_, rfl, Box.new w2 _ _, (Below.refl _ w2).alloc (Nat.le_refl _) _, by simp⟩
    rw [e4]
    clear e4
    have xR := xR2.step hb24
    have ho4 := ho2.below hb24
    have hb4 := bTr hbw2 hb24
    clear xR2 ho2 hbw2 hb24
    go_loopw [7] (fun ti wr => ∃ (k : Nat) (cur : List Fl) (a' : Option Addr) (c' : Nat), k ≤ n ∧ ti = .int .i64 k ∧ Box wr w2.heap.size 26 (.slice a' cur.length c') ∧ OwnF wr (w.heap.size + 1 + 1) 36 (.slice a' cur.length c') cur ∧ Hid (RunAt fs as' k cur) ∧ Hid (Bd cur) ∧ cur.length ≤ 2000000 ∧ Box wr (w.heap.size + 1) 26 (.slice none 0 0) ∧ Below w.heap.size w wr ∧ W4.heap.size ≤ wr.heap.size) (fun ti _ => n - (intOf ti).toNat)
    case atStart => exact ⟨0, fs, _, _, Nat.zero_le _, rfl, xO, ho4, RunAt.start _ _, HB, hn, xR, hb4, Nat.le_refl _⟩
    case round =>
      obtain ⟨k, cur, a', c', hk, rfl, xOr, hor, hrun, hbd, hcl, xRr, hbr, hszr⟩ := hrel
      have lO := xOr.lt
      have lR := xRr.lt
      have cO := xOr.cell
      have zO := xOr.frozen
      have cR := xRr.cell
      have zR := xRr.frozen
      by_cases hlt : k < n
      · obtain ⟨a, hak⟩ : ∃ a, as'[k]? = some a := ⟨as'[k]'(by rw [unhide hnn]; exact hlt), List.getElem?_eq_getElem _⟩
        obtain ⟨g, o, rfl, hg, hat⟩ := (unhide HA) k a hak
        obtain ⟨d1, d2, d3, d4⟩ := hat.below hbr hg
        have hgr : g < wr.heap.size := by have := hbr.size; omega
        obtain ⟨z1, z2, z3⟩ := hA a (List.mem_of_getElem? hak)
        have hi0 : (0 : Int) ≤ (k : Int) := by omega
        have hi1 : (k : Int) < (n : Int) := by omega
        have C : ∀ W, RdF W (.slice a' cur.length c') cur → Calls Try.prog 38 #[.agg #[.slice a' cur.length c'], acv a] W fun e w' => DkEnd 36 ((actL cur a).getD []) (actL cur a).isSome W e w' := fun W h => specDoAct_any cur a _ W h (unhide hbd) hcl (by omega) (by omega) (by omega)
        unfold DkEnd acv at C
        have HLT := hide hlt
        have hor0 := hide hor
        have hbr0 := hide hbr
        obtain ⟨r, hr⟩ : ∃ r, actL cur a = r := ⟨_, rfl⟩
        rw [hr] at C
        have HRR := hide hr
        clear hr hor hbr
        cases r with
        | none =>
          simp only [Option.getD_none, List.length_nil, Option.isSome_none] at C
          have C := hide C
          have HRUN := hide ((unhide hrun).stop hak (unhide HRR))
          clear hak
          have KS : Hid (∀ W, Below wr.heap.size wr W → W.cell? ⟨w2.heap.size, 0, none⟩ = some (.slice a' cur.length c') ∧ W.cell? ⟨g, o + k * 4, none⟩ = some (.int .i64 a.kd) ∧ W.cell? ⟨g, o + k * 4 + 1, none⟩ = some (.string a.nm) ∧ W.cell? ⟨g, o + k * 4 + 2, none⟩ = some (.string a.tx) ∧ W.cell? ⟨g, o + k * 4 + 3, none⟩ = some (.string a.to)) := fun W hB => ⟨(hB.cell (p := ⟨w2.heap.size, 0, none⟩) lO).trans cO, (hB.cell (p := ⟨g, o + k * 4, none⟩) hgr).trans d1, (hB.cell (p := ⟨g, o + k * 4 + 1, none⟩) hgr).trans d2, (hB.cell (p := ⟨g, o + k * 4 + 2, none⟩) hgr).trans d3, (hB.cell (p := ⟨g, o + k * 4 + 3, none⟩) hgr).trans d4⟩
          go_wp2_with (fail)
          go_region_held3 (fun W => W.cell? ⟨w2.heap.size, 0, none⟩ = some (.slice a' cur.length c') ∧ W.cell? ⟨g, o + k * 4, none⟩ = some (.int .i64 a.kd) ∧ W.cell? ⟨g, o + k * 4 + 1, none⟩ = some (.string a.nm) ∧ W.cell? ⟨g, o + k * 4 + 2, none⟩ = some (.string a.tx) ∧ W.cell? ⟨g, o + k * 4 + 3, none⟩ = some (.string a.to)) (first | exact (unhide KS) _ ((Below.refl _ wr).drew) | exact (unhide KS) _ (((Below.refl _ wr).drew).alloc (Nat.le_refl _) _) | exact (unhide KS) _ B5 | exact (unhide KS) _ (B5.alloc B5.size _) | exact (unhide KS) _ (B5.setCell (p := ⟨wr.heap.size, 0, none⟩) (Nat.le_refl _) _)) (first
            | (go_at_call 38; refine ((unhide C) _ (by first | exact (unhide hor0).rd.drew | exact ((unhide hor0).rd.drew).alloc _)).mono ?_; rintro e w5 ⟨⟨a5, c5, rfl, ho5⟩, hb5⟩; (have B5 : Below wr.heap.size wr w5 := by first | exact ((Below.refl _ wr).drew).trans hb5 | exact (((Below.refl _ wr).drew).alloc (Nat.le_refl _) _).trans (hb5.mono (by simp))); (first | (have X : Box w5 wr.heap.size 26 (.slice none 0 0) := ((Box.new wr.drew 26 (.slice none 0 0)).step hb5); have cX := X.cell; have zX := X.frozen; have lX := X.lt) | skip)))
          all_goals
            first
            | (have bz := Box.new w5 26 (.slice a5 0 c5); have oz := (ho5.alloc (.cells #[(.slice a5 0 c5)] 26)).low (base' := wr.heap.size) (Nat.le_refl _); have hz := B5.alloc B5.size (.cells #[(.slice a5 0 c5)] 26); generalize w5.alloc (.cells #[(.slice a5 0 c5)] 26) = w6 at bz oz hz ⊢; show Exit.then _ _ Exit.normal _ w6)
            | (have bz : Box (w5.setCell ⟨wr.heap.size, 0, none⟩ (.slice a5 0 c5)) wr.heap.size 26 (.slice a5 0 c5) := ((Box.new wr.drew 26 (.slice none 0 0)).step hb5).set (.slice a5 0 c5); have oz := (ho5.other (a := ⟨wr.heap.size, 0, none⟩) (by exact (Box.new wr.drew 26 (.slice none 0 0)).lt) (.slice a5 0 c5)).low (base' := wr.heap.size) (by simp); have hz := B5.setCell (p := ⟨wr.heap.size, 0, none⟩) (Nat.le_refl _) (.slice a5 0 c5); generalize w5.setCell ⟨wr.heap.size, 0, none⟩ (.slice a5 0 c5) = w6 at bz oz hz ⊢; show Exit.then _ _ Exit.normal _ w6)
            clear KS ho5 B5
            replace hb5 := hide hb5
            have xO6 := xOr.step hz
            have xR6 := xRr.step hz
            have cO6 := xO6.cell
            have cR6 := xR6.cell
            have zR6 := xR6.frozen
            have lO6 := xO6.lt
            have lR6 := xR6.lt
            have hbf := hide ((bTr (unhide hbr0) hz).setCell (p := ⟨w.heap.size + 1, 0, none⟩) (by show w.heap.size ≤ w.heap.size + 1; omega) (.slice a' cur.length c'))
            have hof := hide ((((unhide hor0).below hz).other (a := ⟨w.heap.size + 1, 0, none⟩) (by show w.heap.size + 1 < _; omega) (.slice a' cur.length c')).low (base' := w.heap.size) (by omega))
            replace hz := hide hz
            replace oz := hide oz
            clear cO zO cR zR d1 d2 d3 d4
            go_wp2
            refine bodyPost_ret (v := .tuple #[.agg #[.slice a' cur.length c'], .int .i64 (k : Int)]) (by simp [results, Try.results16, go_sem, cR6]) rfl ?_
            rw [unhide HRUN]
            exact ⟨⟨a', c', rfl, unhide hof⟩, unhide hbf⟩
        | some o' =>
          simp only [Option.getD_some, Option.isSome_some] at C
          have C := hide C
          have HN := hide ((unhide hrun).next hak (unhide HRR))
          have HO := hide (actL_small (unhide HRR))
          clear hak
          have KS : Hid (∀ W, Below wr.heap.size wr W → W.cell? ⟨w2.heap.size, 0, none⟩ = some (.slice a' cur.length c') ∧ W.cell? ⟨g, o + k * 4, none⟩ = some (.int .i64 a.kd) ∧ W.cell? ⟨g, o + k * 4 + 1, none⟩ = some (.string a.nm) ∧ W.cell? ⟨g, o + k * 4 + 2, none⟩ = some (.string a.tx) ∧ W.cell? ⟨g, o + k * 4 + 3, none⟩ = some (.string a.to)) := fun W hB => ⟨(hB.cell (p := ⟨w2.heap.size, 0, none⟩) lO).trans cO, (hB.cell (p := ⟨g, o + k * 4, none⟩) hgr).trans d1, (hB.cell (p := ⟨g, o + k * 4 + 1, none⟩) hgr).trans d2, (hB.cell (p := ⟨g, o + k * 4 + 2, none⟩) hgr).trans d3, (hB.cell (p := ⟨g, o + k * 4 + 3, none⟩) hgr).trans d4⟩
          go_wp2_with (fail)
          go_region_held3 (fun W => W.cell? ⟨w2.heap.size, 0, none⟩ = some (.slice a' cur.length c') ∧ W.cell? ⟨g, o + k * 4, none⟩ = some (.int .i64 a.kd) ∧ W.cell? ⟨g, o + k * 4 + 1, none⟩ = some (.string a.nm) ∧ W.cell? ⟨g, o + k * 4 + 2, none⟩ = some (.string a.tx) ∧ W.cell? ⟨g, o + k * 4 + 3, none⟩ = some (.string a.to)) (first | exact (unhide KS) _ ((Below.refl _ wr).drew) | exact (unhide KS) _ (((Below.refl _ wr).drew).alloc (Nat.le_refl _) _) | exact (unhide KS) _ B5 | exact (unhide KS) _ (B5.alloc B5.size _) | exact (unhide KS) _ (B5.setCell (p := ⟨wr.heap.size, 0, none⟩) (Nat.le_refl _) _)) (first
            | (go_at_call 38; refine ((unhide C) _ (by first | exact (unhide hor0).rd.drew | exact ((unhide hor0).rd.drew).alloc _)).mono ?_; rintro e w5 ⟨⟨a5, c5, rfl, ho5⟩, hb5⟩; (have B5 : Below wr.heap.size wr w5 := by first | exact ((Below.refl _ wr).drew).trans hb5 | exact (((Below.refl _ wr).drew).alloc (Nat.le_refl _) _).trans (hb5.mono (by simp))); (first | (have X : Box w5 wr.heap.size 26 (.slice none 0 0) := ((Box.new wr.drew 26 (.slice none 0 0)).step hb5); have cX := X.cell; have zX := X.frozen; have lX := X.lt) | skip)))
          all_goals
            first
            | (have bz := Box.new w5 26 (.slice a5 o'.length c5); have oz := (ho5.alloc (.cells #[(.slice a5 o'.length c5)] 26)).low (base' := wr.heap.size) (Nat.le_refl _); have hz := B5.alloc B5.size (.cells #[(.slice a5 o'.length c5)] 26); generalize w5.alloc (.cells #[(.slice a5 o'.length c5)] 26) = w6 at bz oz hz ⊢; show Exit.then _ _ Exit.normal _ w6)
            | (have bz : Box (w5.setCell ⟨wr.heap.size, 0, none⟩ (.slice a5 o'.length c5)) wr.heap.size 26 (.slice a5 o'.length c5) := ((Box.new wr.drew 26 (.slice none 0 0)).step hb5).set (.slice a5 o'.length c5); have oz := (ho5.other (a := ⟨wr.heap.size, 0, none⟩) (by exact (Box.new wr.drew 26 (.slice none 0 0)).lt) (.slice a5 o'.length c5)).low (base' := wr.heap.size) (by simp); have hz := B5.setCell (p := ⟨wr.heap.size, 0, none⟩) (Nat.le_refl _) (.slice a5 o'.length c5); generalize w5.setCell ⟨wr.heap.size, 0, none⟩ (.slice a5 o'.length c5) = w6 at bz oz hz ⊢; show Exit.then _ _ Exit.normal _ w6)
            clear KS ho5 B5
            replace hb5 := hide hb5
            have xO6 := xOr.step hz
            have xR6 := xRr.step hz
            have cO6 := xO6.cell
            have zO6 := xO6.frozen
            have lO6 := xO6.lt
            have cz6 := bz.cell
            have lz6 := bz.lt
            have s6 := hz.size
            have hb7 := hide ((bTr (unhide hbr0) hz).setCell (p := ⟨w2.heap.size, 0, none⟩) (by show w.heap.size ≤ w2.heap.size; omega) (.slice a5 o'.length c5))
            have ho7 := hide ((oz.other (a := ⟨w2.heap.size, 0, none⟩) (by show w2.heap.size < _; omega) (.slice a5 o'.length c5)).low (base' := w.heap.size + 1 + 1) (by omega))
            have xO7 := hide (xO6.set (.slice a5 o'.length c5))
            have xR7 := hide (xR6.other (a := ⟨w2.heap.size, 0, none⟩) (by show w2.heap.size ≠ w.heap.size + 1; omega) (.slice a5 o'.length c5))
            have s7 : wr.heap.size ≤ (w6.setCell ⟨w2.heap.size, 0, none⟩ (.slice a5 o'.length c5)).heap.size := by simp; omega
            replace hz := hide hz
            replace oz := hide oz
            clear cO zO cR zR d1 d2 d3 d4
            go_wp2
            go_roundw
            case rel => exact ⟨k + 1, o', a5, c5, by have := unhide HLT; omega, by go_num, unhide xO7, unhide ho7, HN, (unhide HO).1, (unhide HO).2, unhide xR7, unhide hb7, by omega⟩
            case measure => have := unhide HLT; simp [intOf]; omega
      · have hkn : as'.length ≤ k := by rw [unhide hnn]; omega
        have hk2 : n = k := by omega
        have HRUN := hide ((unhide hrun).done hkn)
        have hbf := hide (hbr.setCell (p := ⟨w.heap.size + 1, 0, none⟩) (by show w.heap.size ≤ w.heap.size + 1; omega) (.slice a' cur.length c'))
        have hof := hide ((hor.other (a := ⟨w.heap.size + 1, 0, none⟩) (by show w.heap.size + 1 < _; omega) (.slice a' cur.length c')).low (base' := w.heap.size) (by omega))
        clear hor hbr hkn
        have HK2 := hide hk2
        clear hk2
        go_wp2
        refine bodyPost_ret (v := .tuple #[.agg #[.slice a' cur.length c'], .int .i64 (n : Int)]) (by simp [results, Try.results16, go_sem, cR]) rfl ?_
        rw [unhide HRUN]
        exact ⟨⟨a', c', by rw [unhide HK2], unhide hof⟩, unhide hbf⟩
end Go.Proofs.Ytkaaabpodhgbpaa
