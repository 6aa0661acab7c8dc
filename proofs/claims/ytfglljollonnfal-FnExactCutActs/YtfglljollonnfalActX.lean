/- spec.DoAct: what it comes to, all of it. -/
import Derived.Test.YtfglljollonnfalActW
namespace Go.Proofs.Ytfglljollonnfal
open Go.RowKit

set_option maxRecDepth 20000 in
set_option maxHeartbeats 8000000 in
theorem specDoAct_other (fs : List Fl) (kd : Int) (nm tx to : ByteArray) (v : Value) (w : World) (hr : RdF w v fs) (hB : Bd fs) (hn : fs.length ≤ 1000000) (hok : okL fs = true) (hz : nm.size ≤ 4000000) (hnm : nameB nm = true) (h1 : ¬ kd = 1) (h2 : ¬ kd = 2) (h3 : ¬ kd = 3) (h4 : ¬ kd = 4) (htx : emB tx = true) (hto : emB to = true) :
    Calls Try.prog 10 #[.agg #[v], acv ⟨kd, nm, tx, to⟩] w fun e w' => DkEnd 63 [] false w e w' := by
  obtain ⟨a0, c0, rfl⟩ := hr.shape
  have HR := hide hr
  have C : Hid (∀ W v, RdF W v fs → Calls Try.prog 33 #[.agg #[v]] W fun e w' => e = .returned (.bool true) ∧ Below W.heap.size W w') := fun W v h => by rw [← hok]; exact specDiskOk_any fs v W h hB (by omega)
  unfold acv
  have HN := hide hnm
  have HOK := hide hok
  have HB := hide hB
  have hqtx := emB_yes htx
  have hqto := emB_yes hto
  clear hr hok hB hnm htx hto
  go_enter Try.func10, Try.ntmps10
  go_wp2_with (fail)
  obtain ⟨W, hW, xD, xA, xR, hsz, hbW⟩ := three_act w ⟨kd, nm, tx, to⟩ 31 35 (.slice a0 fs.length c0)
  rw [hW]
  clear hW
  refine ((unhide C) W _ (by exact (unhide HR).below hbW)).mono ?_
  rintro e w1 ⟨rfl, hb1⟩
  have xD1 := xD.below hb1 (by omega)
  have xR1 := hide (xR.below hb1 (by omega))
  have xA1 := xA.below hb1 (by omega)
  obtain ⟨k1, k2, k3, k4⟩ := xA1.at
  have hla := xA1.lt
  have cd := xD1.cell
  have hld := xD1.lt
  have hbw1 := hide (bTr hbW hb1)
  have HR1 := hide ((unhide HR).below (bTr hbW hb1))
  replace xA1 := hide xA1
  replace xD1 := hide xD1
  clear hb1 xD xA xR hbW
  go_wp2_with (go_at_call 34; refine (l03Name_at nm _ (unhide HN) _ hz).mono ?_; rintro e w2 ⟨rfl, hw2⟩; subst hw2)
  refine (l03At_any fs nm _ w2 (unhide HR1) (by omega)).mono ?_
  rintro e w3 ⟨hat, hb3⟩
  have HR3 := hide ((unhide HR1).below hb3)
  have xA3 := (unhide xA1).below hb3 hla
  obtain ⟨m1, m2, m3, m4⟩ := xA3.at
  have hla3 := xA3.lt
  have xD3 := (unhide xD1).below hb3 hld
  have cd3 := xD3.cell
  have hld3 := xD3.lt
  have xR3 := hide ((unhide xR1).below hb3 (unhide xR1).lt)
  have hbw3 := hide (bTr (unhide hbw1) hb3)
  clear hb3 k1 k2 k3 k4 cd
  rcases hat with ⟨k, f, rfl, hat⟩ | ⟨rfl, hat⟩
  · obtain ⟨a1, c1, he, hc⟩ := (unhide HR3).open
    obtain ⟨g, o, hea, hg, hat3⟩ := hc k f hat.1
    have he2 : a0 = a1 := by injection he
    subst he2
    subst hea
    obtain ⟨d1, d2, d3⟩ := hat3
    have hkl : k < fs.length := (List.getElem?_eq_some_iff.1 hat.1).1
    have hki : (k : Int) < (fs.length : Int) := by omega
    have hk0 : (0 : Int) ≤ (k : Int) := by omega
    clear he hc hat
    have xRr := unhide xR3
    have cR := xRr.cell
    have zR := xRr.frozen
    have lR := xRr.lt
    have xRe := hide ((xRr.set (.slice none 0 0)).alloc (.cells #[.string f.nm, .string f.tx, .int .i64 f.kp] 63) |>.alloc (.cells #[.slice none 0 0] 31))
    have hbe := hide (bTrA (bTrA ((unhide hbw3).setCell (p := ⟨w.heap.size + 1 + 1, 0, none⟩) (by show w.heap.size ≤ w.heap.size + 1 + 1; omega) (.slice none 0 0)) (.cells #[.string f.nm, .string f.tx, .int .i64 f.kp] 63)) (.cells #[.slice none 0 0] 31))
    clear xRr
    go_wp2_with (fail)
    replace xRe := unhide xRe
    replace hbe := unhide hbe
    generalize ((w3.setCell ⟨w.heap.size + 1 + 1, 0, none⟩ (.slice none 0 0)).alloc (.cells #[.string f.nm, .string f.tx, .int .i64 f.kp] 63)).alloc (.cells #[.slice none 0 0] 31) = We at *
    have cRe := xRe.cell
    refine bodyPost_ret (v := .tuple #[.agg #[.slice none 0 0], .bool false]) (by simp [results, Try.results10, go_sem, cRe]) rfl ?_
    exact ⟨⟨none, 0, rfl, OwnF.nil _ _ _⟩, hbe⟩
  · clear hat
    have xRr := unhide xR3
    have cR := xRr.cell
    have zR := xRr.frozen
    have lR := xRr.lt
    have xRe := hide ((xRr.set (.slice none 0 0)).alloc (.cells #[.string nm, .string ⟨#[]⟩, .int .i64 0] 63) |>.alloc (.cells #[.slice none 0 0] 31))
    have hbe := hide (bTrA (bTrA ((unhide hbw3).setCell (p := ⟨w.heap.size + 1 + 1, 0, none⟩) (by show w.heap.size ≤ w.heap.size + 1 + 1; omega) (.slice none 0 0)) (.cells #[.string nm, .string ⟨#[]⟩, .int .i64 0] 63)) (.cells #[.slice none 0 0] 31))
    clear xRr
    go_wp2_with (fail)
    replace xRe := unhide xRe
    replace hbe := unhide hbe
    generalize ((w3.setCell ⟨w.heap.size + 1 + 1, 0, none⟩ (.slice none 0 0)).alloc (.cells #[.string nm, .string ⟨#[]⟩, .int .i64 0] 63)).alloc (.cells #[.slice none 0 0] 31) = We at *
    have cRe := xRe.cell
    refine bodyPost_ret (v := .tuple #[.agg #[.slice none 0 0], .bool false]) (by simp [results, Try.results10, go_sem, cRe]) rfl ?_
    exact ⟨⟨none, 0, rfl, OwnF.nil _ _ _⟩, hbe⟩
theorem actR_name {fs : List Fl} {a : Ac} (hok : okL fs = true) (h : nameB a.nm = false) : actR fs a = none := by
  have hf : findL fs a.nm = none := by
    cases e : findL fs a.nm with
    | none => rfl
    | some f =>
      obtain ⟨h1, h2⟩ := findL_mem e
      have := fileB_name ((okL_iff.1 hok).2.1 f h1)
      rw [h2, h] at this
      cases this
  have e1 : addR fs a.nm a.tx = none := by unfold addR; rw [h]; rfl
  have e2 : keepR fs a.nm = none := by unfold keepR; rw [hf]; rfl
  have e3 : moveR fs a.nm a.to = none := by unfold moveR; rw [hf]; rfl
  have e4 : dropR fs a.nm = none := by unfold dropR; rw [hf]; rfl
  unfold actR gateR
  rw [e1, e2, e3, e4]
  simp only [ite_self]
theorem specDoAct_any (fs : List Fl) (a : Ac) (v : Value) (w : World) (hr : RdF w v fs) (hB : Bd fs) (hn2 : fs.length ≤ 2000000) (hz : a.nm.size ≤ 4000000) (hzx : a.tx.size ≤ 3000000) (hzt : a.to.size ≤ 4000000) :
    Calls Try.prog 10 #[.agg #[v], acv a] w fun e w' => DkEnd 63 ((actL fs a).getD []) (actL fs a).isSome w e w' := by
  cases hok : okL fs with
  | false =>
    rw [show actL fs a = none from by unfold actL; rw [hok]; rfl]
    exact specDoAct_not fs a v w hr hB hn2 hok
  | true =>
    have hn : fs.length ≤ 1000000 := by have := (okL_iff.1 hok).1; omega
    rw [show actL fs a = actR fs a from by unfold actL; rw [hok]; rfl]
    cases hnm : nameB a.nm with
    | false =>
      rw [actR_name hok hnm]
      exact specDoAct_name fs a v w hr hB hn2 hok hz hnm
    | true =>
      obtain ⟨kd, nm, tx, to⟩ := a
      by_cases h1 : kd = 1
      · subst h1
        rw [show actR fs ⟨1, nm, tx, to⟩ = gateR (emB to) (addR fs nm tx) from by unfold actR; rw [if_pos rfl]]
        cases hto : emB to with
        | false => exact specDoAct_to fs ⟨1, nm, tx, to⟩ v w hr hB hn2 hok hz hnm (by dsimp only; decide) hto
        | true => exact specDoAct_add fs nm tx to v w hr hB hn hok hz hzx hnm hto
      by_cases h3 : kd = 3
      · subst h3
        rw [show actR fs ⟨3, nm, tx, to⟩ = gateR (emB tx) (moveR fs nm to) from by unfold actR; rw [if_neg (by dsimp only; decide), if_neg (by dsimp only; decide), if_pos rfl]]
        cases htx : emB tx with
        | false => exact specDoAct_tx fs ⟨3, nm, tx, to⟩ v w hr hB hn2 hok hz hnm (.inl rfl) (by dsimp only; decide) htx
        | true => exact specDoAct_move fs nm tx to v w hr hB hn hok hz hnm hzt htx
      cases hto : emB to with
      | false =>
        rw [show actR fs ⟨kd, nm, tx, to⟩ = none from by
          unfold actR gateR
          rw [if_neg (show ¬ (Ac.mk kd nm tx to).kd = 1 from h1), if_neg (show ¬ (Ac.mk kd nm tx to).kd = 3 from h3)]
          simp only [hto, Bool.and_false, Bool.false_eq_true, if_false, ite_self]]
        exact specDoAct_to fs ⟨kd, nm, tx, to⟩ v w hr hB hn2 hok hz hnm h3 hto
      | true =>
        cases htx : emB tx with
        | false =>
          rw [show actR fs ⟨kd, nm, tx, to⟩ = none from by
            unfold actR gateR
            rw [if_neg (show ¬ (Ac.mk kd nm tx to).kd = 1 from h1), if_neg (show ¬ (Ac.mk kd nm tx to).kd = 3 from h3)]
            simp only [htx, Bool.false_and, Bool.false_eq_true, if_false, ite_self]]
          exact specDoAct_tx fs ⟨kd, nm, tx, to⟩ v w hr hB hn2 hok hz hnm (.inr hto) h1 htx
        | true =>
          by_cases h2 : kd = 2
          · subst h2
            rw [show actR fs ⟨2, nm, tx, to⟩ = keepR fs nm from by unfold actR gateR; rw [if_neg (by dsimp only; decide), if_pos rfl]; simp only [htx, hto, Bool.and_self, if_true]]
            exact specDoAct_keep fs nm tx to v w hr hB hn hok hz hnm htx hto
          by_cases h4 : kd = 4
          · subst h4
            rw [show actR fs ⟨4, nm, tx, to⟩ = dropR fs nm from by unfold actR gateR; rw [if_neg (by dsimp only; decide), if_neg (by dsimp only; decide), if_neg (by dsimp only; decide), if_pos rfl]; simp only [htx, hto, Bool.and_self, if_true]]
            exact specDoAct_drop fs nm tx to v w hr hB hn hok hz hnm htx hto
          rw [show actR fs ⟨kd, nm, tx, to⟩ = none from by
            unfold actR
            rw [if_neg (show ¬ (Ac.mk kd nm tx to).kd = 1 from h1), if_neg (show ¬ (Ac.mk kd nm tx to).kd = 2 from h2), if_neg (show ¬ (Ac.mk kd nm tx to).kd = 3 from h3), if_neg (show ¬ (Ac.mk kd nm tx to).kd = 4 from h4)]]
          exact specDoAct_other fs kd nm tx to v w hr hB hn hok hz hnm h1 h2 h3 h4 htx hto
end Go.Proofs.Ytfglljollonnfal
