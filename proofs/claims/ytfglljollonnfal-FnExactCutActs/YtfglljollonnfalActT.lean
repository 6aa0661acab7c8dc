/- spec.DoAct: the four kinds. -/
import Derived.Test.YtfglljollonnfalActS
import Derived.Test.YtfglljollonnfalWithout
namespace Go.Proofs.Ytfglljollonnfal
open Go.RowKit

theorem bd_put {fs : List Fl} {f : Fl} (h : Bd fs) (h1 : f.nm.size ≤ 4000000) (h2 : f.tx.size ≤ 4000000) : Bd (putL fs f) := by
  intro x hx
  rcases putL_mem hx with rfl | h3
  · exact ⟨h1, h2⟩
  · exact h x h3
theorem two_out (w : World) (f : Fl) (T D : TypeId) : ∃ U, (w.alloc (.cells #[.string f.nm, .string f.tx, .int .i64 f.kp] T)).alloc (.cells #[.slice none 0 0] D) = U ∧ Box U (w.heap.size + 1) D (.slice none 0 0) ∧ Below w.heap.size w U ∧ U.heap.size = w.heap.size + 1 + 1 := by
  refine ⟨_, rfl, ?_, bTrA (bTrA (Below.refl w.heap.size w) _) _, by simp⟩
  simpa using Box.new (w.alloc (.cells #[.string f.nm, .string f.tx, .int .i64 f.kp] T)) D (.slice none 0 0)
set_option maxRecDepth 20000 in
set_option maxHeartbeats 8000000 in
theorem specDoAct_add (fs : List Fl) (nm tx to : ByteArray) (v : Value) (w : World) (hr : RdF w v fs) (hB : Bd fs) (hn : fs.length ≤ 1000000) (hok : okL fs = true) (hz : nm.size ≤ 4000000) (hzt : tx.size ≤ 3000000) (hnm : nameB nm = true) (hto : emB to = true) :
    Calls Try.prog 10 #[.agg #[v], acv ⟨1, nm, tx, to⟩] w fun e w' => DkEnd 63 ((addR fs nm tx).getD []) (addR fs nm tx).isSome w e w' := by
  obtain ⟨a0, c0, rfl⟩ := hr.shape
  have HR := hide hr
  have C : Hid (∀ W v, RdF W v fs → Calls Try.prog 33 #[.agg #[v]] W fun e w' => e = .returned (.bool true) ∧ Below W.heap.size W w') := fun W v h => by rw [← hok]; exact specDiskOk_any fs v W h hB (by omega)
  unfold acv
  have HN := hide hnm
  have HOK := hide hok
  have HB := hide hB
  have hq := emB_yes hto
  clear hr hok hB hnm hto
  go_enter Try.func10, Try.ntmps10
  go_wp2_with (fail)
  obtain ⟨W, hW, xD, xA, xR, hsz, hbW⟩ := three_act w ⟨1, nm, tx, to⟩ 31 35 (.slice a0 fs.length c0)
  rw [hW]
  clear hW
  refine ((unhide C) W _ (by exact (unhide HR).below hbW)).mono ?_
  rintro e w1 ⟨rfl, hb1⟩
  have xD1 := xD.below hb1 (by omega)
  have xR1 := hide (xR.below hb1 (by omega))
  have xA1 := xA.below hb1 (by omega)
  obtain ⟨k1, k2, k3, k4⟩ := xA1.at
  have hla := xA1.lt
  have cd := xD1.cell
  have hld := xD1.lt
  have hbw1 := hide (bTr hbW hb1)
  have HR1 := hide ((unhide HR).below (bTr hbW hb1))
  replace xA1 := hide xA1
  replace xD1 := hide xD1
  clear hb1 xD xA xR hbW
  go_wp2_with (go_at_call 34; refine (l03Name_at nm _ (unhide HN) _ hz).mono ?_; rintro e w2 ⟨rfl, hw2⟩; subst hw2)
  refine (l03At_any fs nm _ w2 (unhide HR1) (by omega)).mono ?_
  rintro e w3 ⟨hat, hb3⟩
  have HR3 := hide ((unhide HR1).below hb3)
  have xA3 := (unhide xA1).below hb3 hla
  obtain ⟨m1, m2, m3, m4⟩ := xA3.at
  have hla3 := xA3.lt
  have xD3 := (unhide xD1).below hb3 hld
  have cd3 := xD3.cell
  have hld3 := xD3.lt
  have xR3 := hide ((unhide xR1).below hb3 (unhide xR1).lt)
  have hbw3 := hide (bTr (unhide hbw1) hb3)
  clear hb3 k1 k2 k3 k4 cd
  rcases hat with ⟨k, f, rfl, hat⟩ | ⟨rfl, hat⟩
  · obtain ⟨a1, c1, he, hc⟩ := (unhide HR3).open
    obtain ⟨g, o, hea, hg, hat3⟩ := hc k f hat.1
    have he2 : a0 = a1 := by injection he
    subst he2
    subst hea
    obtain ⟨d1, d2, d3⟩ := hat3
    have hkl : k < fs.length := (List.getElem?_eq_some_iff.1 hat.1).1
    have hki : (k : Int) < (fs.length : Int) := by omega
    have hk0 : (0 : Int) ≤ (k : Int) := by omega
    have hfm := findL_mem (findL_some hat)
    have hfB := (unhide HB) f hfm.1
    have hcc : f.tx.size + tx.size ≤ 9223372036854775807 := by omega
    have HBP := hide (bd_put (f := addF f tx) (unhide HB) hfB.1 (by show (f.tx ++ tx).size ≤ 4000000; rw [ByteArray.size_append]; have := (fileB_kept ((okL_iff.1 (unhide HOK)).2.1 f hfm.1)).2.2; omega))
    have HLP := hide (show (putL fs (addF f tx)).length ≤ 2000000 from Nat.le_trans (putL_len' _ _) (by omega))
    have HAT := hide (findL_some hat)
    replace hfm := hide hfm
    clear he hc hat
    go_wp2_with (fail)
    obtain ⟨U, hU, hxo, hbU, hUs⟩ := two_out w3 (addF f tx) 63 31
    dsimp only [addF] at hU
    rw [hU]
    clear hU
    refine (l03Put_any fs (addF f tx) _ U (by exact (unhide HR3).below hbU) hn).mono ?_
    rintro e w4 ⟨⟨a4, c4, rfl, ho4⟩, hb4⟩
    have hxo4 := hxo.below hb4 (by omega)
    have co4 := hxo4.cell
    have zo4 := hxo4.frozen
    have lo4 := hxo4.lt
    have xR4 := hide ((unhide xR3).below (bTr hbU hb4) (unhide xR3).lt)
    have hs34 : U.heap.size ≤ w4.heap.size := hb4.size
    have hlr := (unhide xR3).lt
    have hbw4 := hide (bTr (unhide hbw3) (bTr hbU hb4))
    have ho4s := hide (ho4.other (a := ⟨w3.heap.size + 1, 0, none⟩) (by show w3.heap.size + 1 < U.heap.size; omega) (.slice a4 (putL fs (addF f tx)).length c4))
    obtain ⟨ok2, hok2⟩ : ∃ b, okL (putL fs (addF f tx)) = b := ⟨_, rfl⟩
    have C2 : Hid (∀ W v, RdF W v (putL fs (addF f tx)) → Calls Try.prog 33 #[.agg #[v]] W fun e w' => e = .returned (.bool ok2) ∧ Below W.heap.size W w') := fun W v h => by rw [← hok2]; exact specDiskOk_any _ v W h (unhide HBP) (unhide HLP)
    have HO2 := hide hok2
    clear hok2 ho4 hb4
    go_wp2_with (fail)
    have xO5 := hxo4.set (.slice a4 (putL fs (addF f tx)).length c4)
    have xR5 : Box (w4.setCell ⟨w3.heap.size + 1, 0, none⟩ (.slice a4 (putL fs (addF f tx)).length c4)) (w.heap.size + 1 + 1) 31 (.slice none 0 0) := ((gS w4 (w3.heap.size + 1) 0 _).block _ (by omega) (by simp; omega)).trans (unhide xR4)
    have hb5 := (unhide hbw4).setCell (p := ⟨w3.heap.size + 1, 0, none⟩) (by show w.heap.size ≤ w3.heap.size + 1; omega) (.slice a4 (putL fs (addF f tx)).length c4)
    have ho5 := unhide ho4s
    have hs5 : (w4.setCell ⟨w3.heap.size + 1, 0, none⟩ (.slice a4 (putL fs (addF f tx)).length c4)).heap.size = w4.heap.size := by simp
    clear ho4s hxo4 co4 zo4 xR4 hbw4
    generalize w4.setCell ⟨w3.heap.size + 1, 0, none⟩ (.slice a4 (putL fs (addF f tx)).length c4) = W5 at *
    obtain ⟨n5, hn5⟩ : ∃ n, (putL fs (addF f tx)).length = n := ⟨_, rfl⟩
    rw [hn5] at ho5 xO5 ⊢
    refine ((unhide C2) W5 _ ho5.rd).mono ?_
    rintro e w6 ⟨rfl, hb6⟩
    have xO6 := xO5.below hb6 (by omega)
    have xR6 := xR5.below hb6 (by omega)
    have ho6 := ho5.below hb6
    have cO6 := xO6.cell
    have lO6 := xO6.lt
    have cR6 := xR6.cell
    have zR6 := xR6.frozen
    have lR6 := xR6.lt
    have hbf : ∀ u, Hid (Below w.heap.size w (w6.setCell ⟨w.heap.size + 1 + 1, 0, none⟩ u)) := fun u => hide ((bTr hb5 hb6).setCell (p := ⟨w.heap.size + 1 + 1, 0, none⟩) (by show w.heap.size ≤ w.heap.size + 1 + 1; omega) u)
    have hof := hide ((ho6.other (a := ⟨w.heap.size + 1 + 1, 0, none⟩) (by show w.heap.size + 1 + 1 < U.heap.size; omega) (.slice a4 n5 c4)).low (base' := w.heap.size) (by omega))
    have hn5h := hide hn5
    replace hbf := hide hbf
    clear hb6 hb5 ho6 ho5 xO5 xR5 xO6 xR6 hn5
    cases ok2 with
    | false =>
      go_wp2
      refine bodyPost_ret (v := .tuple #[.agg #[.slice none 0 0], .bool false]) (by simp [results, Try.results10, go_sem, cR6]) rfl ?_
      rw [show addR fs nm tx = none from by unfold addR; rw [if_pos (unhide HN), unhide HAT]; exact okO_no (unhide HO2)]
      exact ⟨⟨none, 0, rfl, OwnF.nil _ _ _⟩, unhide ((unhide hbf) _)⟩
    | true =>
      go_wp2
      refine bodyPost_ret (v := .tuple #[.agg #[.slice a4 n5 c4], .bool true]) (by simp [results, Try.results10, go_sem, cR6]) rfl ?_
      rw [show addR fs nm tx = some (putL fs (addF f tx)) from by unfold addR; rw [if_pos (unhide HN), unhide HAT]; exact okO_yes (unhide HO2)]
      refine ⟨⟨a4, c4, ?_, ?_⟩, unhide ((unhide hbf) _)⟩
      · show _ = Ending.returned (.tuple #[.agg #[.slice a4 (putL fs (addF f tx)).length c4], .bool true])
        rw [unhide hn5h]
      · show OwnF _ _ _ (.slice a4 (putL fs (addF f tx)).length c4) (putL fs (addF f tx))
        rw [unhide hn5h]
        exact unhide hof
  · have hpf := hide (findL_none hat)
    have hen : (⟨#[]⟩ : ByteArray) ++ tx = tx := by apply ba_ext; simp
    have hcc : (⟨#[]⟩ : ByteArray).size + tx.size ≤ 9223372036854775807 := by show 0 + tx.size ≤ _; omega
    have HBP := hide (bd_put (f := newF nm tx) (unhide HB) hz (by show tx.size ≤ 4000000; omega))
    have HLP := hide (show (putL fs (newF nm tx)).length ≤ 2000000 from Nat.le_trans (putL_len' _ _) (by omega))
    have hnt : addF (newF nm noB) tx = newF nm tx := by unfold addF newF noB; rw [hen]
    have HNT := hide hnt
    clear hat hnt
    go_wp2_with (fail)
    obtain ⟨U, hU, hxo, hbU, hUs⟩ := two_out w3 (newF nm tx) 63 31
    dsimp only [newF] at hU
    rw [hU]
    clear hU
    refine (l03Put_any fs (newF nm tx) _ U (by exact (unhide HR3).below hbU) hn).mono ?_
    rintro e w4 ⟨⟨a4, c4, rfl, ho4⟩, hb4⟩
    have hxo4 := hxo.below hb4 (by omega)
    have co4 := hxo4.cell
    have zo4 := hxo4.frozen
    have lo4 := hxo4.lt
    have xR4 := hide ((unhide xR3).below (bTr hbU hb4) (unhide xR3).lt)
    have hs34 : U.heap.size ≤ w4.heap.size := hb4.size
    have hlr := (unhide xR3).lt
    have hbw4 := hide (bTr (unhide hbw3) (bTr hbU hb4))
    have ho4s := hide (ho4.other (a := ⟨w3.heap.size + 1, 0, none⟩) (by show w3.heap.size + 1 < U.heap.size; omega) (.slice a4 (putL fs (newF nm tx)).length c4))
    obtain ⟨ok2, hok2⟩ : ∃ b, okL (putL fs (newF nm tx)) = b := ⟨_, rfl⟩
    have C2 : Hid (∀ W v, RdF W v (putL fs (newF nm tx)) → Calls Try.prog 33 #[.agg #[v]] W fun e w' => e = .returned (.bool ok2) ∧ Below W.heap.size W w') := fun W v h => by rw [← hok2]; exact specDiskOk_any _ v W h (unhide HBP) (unhide HLP)
    have HO2 := hide hok2
    clear hok2 ho4 hb4
    go_wp2_with (fail)
    have xO5 := hxo4.set (.slice a4 (putL fs (newF nm tx)).length c4)
    have xR5 : Box (w4.setCell ⟨w3.heap.size + 1, 0, none⟩ (.slice a4 (putL fs (newF nm tx)).length c4)) (w.heap.size + 1 + 1) 31 (.slice none 0 0) := ((gS w4 (w3.heap.size + 1) 0 _).block _ (by omega) (by simp; omega)).trans (unhide xR4)
    have hb5 := (unhide hbw4).setCell (p := ⟨w3.heap.size + 1, 0, none⟩) (by show w.heap.size ≤ w3.heap.size + 1; omega) (.slice a4 (putL fs (newF nm tx)).length c4)
    have ho5 := unhide ho4s
    have hs5 : (w4.setCell ⟨w3.heap.size + 1, 0, none⟩ (.slice a4 (putL fs (newF nm tx)).length c4)).heap.size = w4.heap.size := by simp
    clear ho4s hxo4 co4 zo4 xR4 hbw4
    generalize w4.setCell ⟨w3.heap.size + 1, 0, none⟩ (.slice a4 (putL fs (newF nm tx)).length c4) = W5 at *
    obtain ⟨n5, hn5⟩ : ∃ n, (putL fs (newF nm tx)).length = n := ⟨_, rfl⟩
    rw [hn5] at ho5 xO5 ⊢
    refine ((unhide C2) W5 _ ho5.rd).mono ?_
    rintro e w6 ⟨rfl, hb6⟩
    have xO6 := xO5.below hb6 (by omega)
    have xR6 := xR5.below hb6 (by omega)
    have ho6 := ho5.below hb6
    have cO6 := xO6.cell
    have lO6 := xO6.lt
    have cR6 := xR6.cell
    have zR6 := xR6.frozen
    have lR6 := xR6.lt
    have hbf : ∀ u, Hid (Below w.heap.size w (w6.setCell ⟨w.heap.size + 1 + 1, 0, none⟩ u)) := fun u => hide ((bTr hb5 hb6).setCell (p := ⟨w.heap.size + 1 + 1, 0, none⟩) (by show w.heap.size ≤ w.heap.size + 1 + 1; omega) u)
    have hof := hide ((ho6.other (a := ⟨w.heap.size + 1 + 1, 0, none⟩) (by show w.heap.size + 1 + 1 < U.heap.size; omega) (.slice a4 n5 c4)).low (base' := w.heap.size) (by omega))
    have hn5h := hide hn5
    replace hbf := hide hbf
    clear hb6 hb5 ho6 ho5 xO5 xR5 xO6 xR6 hn5
    cases ok2 with
    | false =>
      go_wp2
      refine bodyPost_ret (v := .tuple #[.agg #[.slice none 0 0], .bool false]) (by simp [results, Try.results10, go_sem, cR6]) rfl ?_
      rw [show addR fs nm tx = none from by unfold addR; rw [if_pos (unhide HN), unhide hpf, Option.getD_none, unhide HNT]; exact okO_no (unhide HO2)]
      exact ⟨⟨none, 0, rfl, OwnF.nil _ _ _⟩, unhide ((unhide hbf) _)⟩
    | true =>
      go_wp2
      refine bodyPost_ret (v := .tuple #[.agg #[.slice a4 n5 c4], .bool true]) (by simp [results, Try.results10, go_sem, cR6]) rfl ?_
      rw [show addR fs nm tx = some (putL fs (newF nm tx)) from by unfold addR; rw [if_pos (unhide HN), unhide hpf, Option.getD_none, unhide HNT]; exact okO_yes (unhide HO2)]
      refine ⟨⟨a4, c4, ?_, ?_⟩, unhide ((unhide hbf) _)⟩
      · show _ = Ending.returned (.tuple #[.agg #[.slice a4 (putL fs (newF nm tx)).length c4], .bool true])
        rw [unhide hn5h]
      · show OwnF _ _ _ (.slice a4 (putL fs (newF nm tx)).length c4) (putL fs (newF nm tx))
        rw [unhide hn5h]
        exact unhide hof
end Go.Proofs.Ytfglljollonnfal
