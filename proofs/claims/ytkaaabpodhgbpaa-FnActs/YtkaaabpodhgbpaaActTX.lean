/- spec.DoAct: the four kinds. spec.DoAct: what is not there; kept; dropped. spec.DoAct: dropped. spec.DoAct: moved. spec.DoAct: what it comes to, all of it. -/
import Derived.Test.YtkaaabpodhgbpaaActS
import Derived.Test.YtkaaabpodhgbpaaWithout
namespace Go.Proofs.Ytkaaabpodhgbpaa
open Go.RowKit

theorem bd_put {fs : List Fl} {f : Fl} (h : Bd fs) (h1 : f.nm.size ≤ 4000000) (h2 : f.tx.size ≤ 4000000) : Bd (putL fs f) := by
  intro x hx
  rcases putL_mem hx with rfl | h3
  · exact ⟨h1, h2⟩
  · exact h x h3
theorem two_out (w : World) (f : Fl) (T D : TypeId) : ∃ U, (w.alloc (.cells #[.string f.nm, .string f.tx, .int .i64 f.kp] T)).alloc (.cells #[.slice none 0 0] D) = U ∧ Box U (w.heap.size + 1) D (.slice none 0 0) ∧ Below w.heap.size w U ∧ U.heap.size = w.heap.size + 1 + 1 := by
  refine ⟨_, rfl, ?_, bTrA (bTrA (Below.refl w.heap.size w) _) _, by simp⟩
  simpa using Box.new (w.alloc (.cells #[.string f.nm, .string f.tx, .int .i64 f.kp] T)) D (.slice none 0 0)
set_option maxRecDepth 20000 in
set_option maxHeartbeats 8000000 in
theorem specDoAct_add (fs : List Fl) (nm tx to : ByteArray) (v : Value) (w : World) (hr : RdF w v fs) (hB : Bd fs) (hn : fs.length ≤ 1000000) (hok : okL fs = true) (hz : nm.size ≤ 4000000) (hzt : tx.size ≤ 3000000) (hnm : nameB nm = true) (hto : emB to = true) :
    Calls Try.prog 38 #[.agg #[v], acv ⟨1, nm, tx, to⟩] w fun e w' => DkEnd 36 ((addR fs nm tx).getD []) (addR fs nm tx).isSome w e w' := by
  obtain ⟨a0, c0, rfl⟩ := hr.shape
  have HR := hide hr
  have C : Hid (∀ W v, RdF W v fs → Calls Try.prog 56 #[.agg #[v]] W fun e w' => e = .returned (.bool true) ∧ Below W.heap.size W w') := fun W v h => by rw [← hok]; exact specDiskOk_any fs v W h hB (by omega)
  unfold acv
  have HN := hide hnm
  have HOK := hide hok
  have HB := hide hB
  have hq := emB_yes hto
  clear hr hok hB hnm hto
  go_enter Try.func38, Try.ntmps38
  go_wp2_with (fail)
  obtain ⟨W, hW, xD, xA, xR, hsz, hbW⟩ := three_act w ⟨1, nm, tx, to⟩ 26 45 (.slice a0 fs.length c0)
  rw [hW]
  clear hW
  refine ((unhide C) W _ (by exact (unhide HR).below hbW)).mono ?_
  rintro e w1 ⟨rfl, hb1⟩
  have xD1 := xD.below hb1 (by omega)
  have xR1 := hide (xR.below hb1 (by omega))
  have xA1 := xA.below hb1 (by omega)
  obtain ⟨k1, k2, k3, k4⟩ := xA1.at
  have hla := xA1.lt
  have cd := xD1.cell
  have hld := xD1.lt
  have hbw1 := hide (bTr hbW hb1)
  have HR1 := hide ((unhide HR).below (bTr hbW hb1))
  replace xA1 := hide xA1
  replace xD1 := hide xD1
  clear hb1 xD xA xR hbW
  go_wp2_with (go_at_call 57; refine (l03Name_at nm _ (unhide HN) _ hz).mono ?_; rintro e w2 ⟨rfl, hw2⟩; subst hw2)
  refine (l03At_any fs nm _ w2 (unhide HR1) (by omega)).mono ?_
  rintro e w3 ⟨hat, hb3⟩
  have HR3 := hide ((unhide HR1).below hb3)
  have xA3 := (unhide xA1).below hb3 hla
  obtain ⟨m1, m2, m3, m4⟩ := xA3.at
  have hla3 := xA3.lt
  have xD3 := (unhide xD1).below hb3 hld
  have cd3 := xD3.cell
  have hld3 := xD3.lt
  have xR3 := hide ((unhide xR1).below hb3 (unhide xR1).lt)
  have hbw3 := hide (bTr (unhide hbw1) hb3)
  clear hb3 k1 k2 k3 k4 cd
  rcases hat with ⟨k, f, rfl, hat⟩ | ⟨rfl, hat⟩
  · obtain ⟨a1, c1, he, hc⟩ := (unhide HR3).open
    obtain ⟨g, o, hea, hg, hat3⟩ := hc k f hat.1
    have he2 : a0 = a1 := by injection he
    subst he2
    subst hea
    obtain ⟨d1, d2, d3⟩ := hat3
    have hkl : k < fs.length := (List.getElem?_eq_some_iff.1 hat.1).1
    have hki : (k : Int) < (fs.length : Int) := by omega
    have hk0 : (0 : Int) ≤ (k : Int) := by omega
    have hfm := findL_mem (findL_some hat)
    have hfB := (unhide HB) f hfm.1
    have hcc : f.tx.size + tx.size ≤ 9223372036854775807 := by omega
    have HBP := hide (bd_put (f := addF f tx) (unhide HB) hfB.1 (by show (f.tx ++ tx).size ≤ 4000000; rw [ByteArray.size_append]; have := (fileB_kept ((okL_iff.1 (unhide HOK)).2.1 f hfm.1)).2.2; omega))
    have HLP := hide (show (putL fs (addF f tx)).length ≤ 2000000 from Nat.le_trans (putL_len' _ _) (by omega))
    have HAT := hide (findL_some hat)
    replace hfm := hide hfm
    clear he hc hat
    go_wp2_with (fail)
    obtain ⟨U, hU, hxo, hbU, hUs⟩ := two_out w3 (addF f tx) 36 26
    dsimp only [addF] at hU
    rw [hU]
    clear hU
    refine (l03Put_any fs (addF f tx) _ U (by exact (unhide HR3).below hbU) hn).mono ?_
    rintro e w4 ⟨⟨a4, c4, rfl, ho4⟩, hb4⟩
    have hxo4 := hxo.below hb4 (by omega)
    have co4 := hxo4.cell
    have zo4 := hxo4.frozen
    have lo4 := hxo4.lt
    have xR4 := hide ((unhide xR3).below (bTr hbU hb4) (unhide xR3).lt)
    have hs34 : U.heap.size ≤ w4.heap.size := hb4.size
    have hlr := (unhide xR3).lt
    have hbw4 := hide (bTr (unhide hbw3) (bTr hbU hb4))
    have ho4s := hide (ho4.other (a := ⟨w3.heap.size + 1, 0, none⟩) (by show w3.heap.size + 1 < U.heap.size; omega) (.slice a4 (putL fs (addF f tx)).length c4))
    obtain ⟨ok2, hok2⟩ : ∃ b, okL (putL fs (addF f tx)) = b := ⟨_, rfl⟩
    have C2 : Hid (∀ W v, RdF W v (putL fs (addF f tx)) → Calls Try.prog 56 #[.agg #[v]] W fun e w' => e = .returned (.bool ok2) ∧ Below W.heap.size W w') := fun W v h => by rw [← hok2]; exact specDiskOk_any _ v W h (unhide HBP) (unhide HLP)
    have HO2 := hide hok2
    clear hok2 ho4 hb4
    go_wp2_with (fail)
    have xO5 := hxo4.set (.slice a4 (putL fs (addF f tx)).length c4)
    have xR5 : Box (w4.setCell ⟨w3.heap.size + 1, 0, none⟩ (.slice a4 (putL fs (addF f tx)).length c4)) (w.heap.size + 1 + 1) 26 (.slice none 0 0) := ((gS w4 (w3.heap.size + 1) 0 _).block _ (by omega) (by simp; omega)).trans (unhide xR4)
    have hb5 := (unhide hbw4).setCell (p := ⟨w3.heap.size + 1, 0, none⟩) (by show w.heap.size ≤ w3.heap.size + 1; omega) (.slice a4 (putL fs (addF f tx)).length c4)
    have ho5 := unhide ho4s
    have hs5 : (w4.setCell ⟨w3.heap.size + 1, 0, none⟩ (.slice a4 (putL fs (addF f tx)).length c4)).heap.size = w4.heap.size := by simp
    clear ho4s hxo4 co4 zo4 xR4 hbw4
    generalize w4.setCell ⟨w3.heap.size + 1, 0, none⟩ (.slice a4 (putL fs (addF f tx)).length c4) = W5 at *
    obtain ⟨n5, hn5⟩ : ∃ n, (putL fs (addF f tx)).length = n := ⟨_, rfl⟩
    rw [hn5] at ho5 xO5 ⊢
    refine ((unhide C2) W5 _ ho5.rd).mono ?_
    rintro e w6 ⟨rfl, hb6⟩
    have xO6 := xO5.below hb6 (by omega)
    have xR6 := xR5.below hb6 (by omega)
    have ho6 := ho5.below hb6
    have cO6 := xO6.cell
    have lO6 := xO6.lt
    have cR6 := xR6.cell
    have zR6 := xR6.frozen
    have lR6 := xR6.lt
    have hbf : ∀ u, Hid (Below w.heap.size w (w6.setCell ⟨w.heap.size + 1 + 1, 0, none⟩ u)) := fun u => hide ((bTr hb5 hb6).setCell (p := ⟨w.heap.size + 1 + 1, 0, none⟩) (by show w.heap.size ≤ w.heap.size + 1 + 1; omega) u)
    have hof := hide ((ho6.other (a := ⟨w.heap.size + 1 + 1, 0, none⟩) (by show w.heap.size + 1 + 1 < U.heap.size; omega) (.slice a4 n5 c4)).low (base' := w.heap.size) (by omega))
    have hn5h := hide hn5
    replace hbf := hide hbf
    clear hb6 hb5 ho6 ho5 xO5 xR5 xO6 xR6 hn5
    cases ok2 with
    | false =>
      go_wp2
      refine bodyPost_ret (v := .tuple #[.agg #[.slice none 0 0], .bool false]) (by simp [results, Try.results38, go_sem, cR6]) rfl ?_
      rw [show addR fs nm tx = none from by unfold addR; rw [if_pos (unhide HN), unhide HAT]; exact okO_no (unhide HO2)]
      exact ⟨⟨none, 0, rfl, OwnF.nil _ _ _⟩, unhide ((unhide hbf) _)⟩
    | true =>
      go_wp2
      refine bodyPost_ret (v := .tuple #[.agg #[.slice a4 n5 c4], .bool true]) (by simp [results, Try.results38, go_sem, cR6]) rfl ?_
      rw [show addR fs nm tx = some (putL fs (addF f tx)) from by unfold addR; rw [if_pos (unhide HN), unhide HAT]; exact okO_yes (unhide HO2)]
      refine ⟨⟨a4, c4, ?_, ?_⟩, unhide ((unhide hbf) _)⟩
      · show _ = Ending.returned (.tuple #[.agg #[.slice a4 (putL fs (addF f tx)).length c4], .bool true])
        rw [unhide hn5h]
      · show OwnF _ _ _ (.slice a4 (putL fs (addF f tx)).length c4) (putL fs (addF f tx))
        rw [unhide hn5h]
        exact unhide hof
  · have hpf := hide (findL_none hat)
    have hen : (⟨#[]⟩ : ByteArray) ++ tx = tx := by apply ba_ext; simp
    have hcc : (⟨#[]⟩ : ByteArray).size + tx.size ≤ 9223372036854775807 := by show 0 + tx.size ≤ _; omega
    have HBP := hide (bd_put (f := newF nm tx) (unhide HB) hz (by show tx.size ≤ 4000000; omega))
    have HLP := hide (show (putL fs (newF nm tx)).length ≤ 2000000 from Nat.le_trans (putL_len' _ _) (by omega))
    have hnt : addF (newF nm noB) tx = newF nm tx := by unfold addF newF noB; rw [hen]
    have HNT := hide hnt
    clear hat hnt
    go_wp2_with (fail)
    obtain ⟨U, hU, hxo, hbU, hUs⟩ := two_out w3 (newF nm tx) 36 26
    dsimp only [newF] at hU
    rw [hU]
    clear hU
    refine (l03Put_any fs (newF nm tx) _ U (by exact (unhide HR3).below hbU) hn).mono ?_
    rintro e w4 ⟨⟨a4, c4, rfl, ho4⟩, hb4⟩
    have hxo4 := hxo.below hb4 (by omega)
    have co4 := hxo4.cell
    have zo4 := hxo4.frozen
    have lo4 := hxo4.lt
    have xR4 := hide ((unhide xR3).below (bTr hbU hb4) (unhide xR3).lt)
    have hs34 : U.heap.size ≤ w4.heap.size := hb4.size
    have hlr := (unhide xR3).lt
    have hbw4 := hide (bTr (unhide hbw3) (bTr hbU hb4))
    have ho4s := hide (ho4.other (a := ⟨w3.heap.size + 1, 0, none⟩) (by show w3.heap.size + 1 < U.heap.size; omega) (.slice a4 (putL fs (newF nm tx)).length c4))
    obtain ⟨ok2, hok2⟩ : ∃ b, okL (putL fs (newF nm tx)) = b := ⟨_, rfl⟩
    have C2 : Hid (∀ W v, RdF W v (putL fs (newF nm tx)) → Calls Try.prog 56 #[.agg #[v]] W fun e w' => e = .returned (.bool ok2) ∧ Below W.heap.size W w') := fun W v h => by rw [← hok2]; exact specDiskOk_any _ v W h (unhide HBP) (unhide HLP)
    have HO2 := hide hok2
    clear hok2 ho4 hb4
    go_wp2_with (fail)
    have xO5 := hxo4.set (.slice a4 (putL fs (newF nm tx)).length c4)
    have xR5 : Box (w4.setCell ⟨w3.heap.size + 1, 0, none⟩ (.slice a4 (putL fs (newF nm tx)).length c4)) (w.heap.size + 1 + 1) 26 (.slice none 0 0) := ((gS w4 (w3.heap.size + 1) 0 _).block _ (by omega) (by simp; omega)).trans (unhide xR4)
    have hb5 := (unhide hbw4).setCell (p := ⟨w3.heap.size + 1, 0, none⟩) (by show w.heap.size ≤ w3.heap.size + 1; omega) (.slice a4 (putL fs (newF nm tx)).length c4)
    have ho5 := unhide ho4s
    have hs5 : (w4.setCell ⟨w3.heap.size + 1, 0, none⟩ (.slice a4 (putL fs (newF nm tx)).length c4)).heap.size = w4.heap.size := by simp
    clear ho4s hxo4 co4 zo4 xR4 hbw4
    generalize w4.setCell ⟨w3.heap.size + 1, 0, none⟩ (.slice a4 (putL fs (newF nm tx)).length c4) = W5 at *
    obtain ⟨n5, hn5⟩ : ∃ n, (putL fs (newF nm tx)).length = n := ⟨_, rfl⟩
    rw [hn5] at ho5 xO5 ⊢
    refine ((unhide C2) W5 _ ho5.rd).mono ?_
    rintro e w6 ⟨rfl, hb6⟩
    have xO6 := xO5.below hb6 (by omega)
    have xR6 := xR5.below hb6 (by omega)
    have ho6 := ho5.below hb6
    have cO6 := xO6.cell
    have lO6 := xO6.lt
    have cR6 := xR6.cell
    have zR6 := xR6.frozen
    have lR6 := xR6.lt
    have hbf : ∀ u, Hid (Below w.heap.size w (w6.setCell ⟨w.heap.size + 1 + 1, 0, none⟩ u)) := fun u => hide ((bTr hb5 hb6).setCell (p := ⟨w.heap.size + 1 + 1, 0, none⟩) (by show w.heap.size ≤ w.heap.size + 1 + 1; omega) u)
    have hof := hide ((ho6.other (a := ⟨w.heap.size + 1 + 1, 0, none⟩) (by show w.heap.size + 1 + 1 < U.heap.size; omega) (.slice a4 n5 c4)).low (base' := w.heap.size) (by omega))
    have hn5h := hide hn5
    replace hbf := hide hbf
    clear hb6 hb5 ho6 ho5 xO5 xR5 xO6 xR6 hn5
    cases ok2 with
    | false =>
      go_wp2
      refine bodyPost_ret (v := .tuple #[.agg #[.slice none 0 0], .bool false]) (by simp [results, Try.results38, go_sem, cR6]) rfl ?_
      rw [show addR fs nm tx = none from by unfold addR; rw [if_pos (unhide HN), unhide hpf, Option.getD_none, unhide HNT]; exact okO_no (unhide HO2)]
      exact ⟨⟨none, 0, rfl, OwnF.nil _ _ _⟩, unhide ((unhide hbf) _)⟩
    | true =>
      go_wp2
      refine bodyPost_ret (v := .tuple #[.agg #[.slice a4 n5 c4], .bool true]) (by simp [results, Try.results38, go_sem, cR6]) rfl ?_
      rw [show addR fs nm tx = some (putL fs (newF nm tx)) from by unfold addR; rw [if_pos (unhide HN), unhide hpf, Option.getD_none, unhide HNT]; exact okO_yes (unhide HO2)]
      refine ⟨⟨a4, c4, ?_, ?_⟩, unhide ((unhide hbf) _)⟩
      · show _ = Ending.returned (.tuple #[.agg #[.slice a4 (putL fs (newF nm tx)).length c4], .bool true])
        rw [unhide hn5h]
      · show OwnF _ _ _ (.slice a4 (putL fs (newF nm tx)).length c4) (putL fs (newF nm tx))
        rw [unhide hn5h]
        exact unhide hof
end Go.Proofs.Ytkaaabpodhgbpaa

namespace Go.Proofs.Ytkaaabpodhgbpaa
open Go.RowKit

set_option maxRecDepth 20000 in
set_option maxHeartbeats 8000000 in
theorem specDoAct_keep (fs : List Fl) (nm tx to : ByteArray) (v : Value) (w : World) (hr : RdF w v fs) (hB : Bd fs) (hn : fs.length ≤ 1000000) (hok : okL fs = true) (hz : nm.size ≤ 4000000) (hnm : nameB nm = true) (htx : emB tx = true) (hto : emB to = true) :
    Calls Try.prog 38 #[.agg #[v], acv ⟨2, nm, tx, to⟩] w fun e w' => DkEnd 36 ((keepR fs nm).getD []) (keepR fs nm).isSome w e w' := by
  obtain ⟨a0, c0, rfl⟩ := hr.shape
  have HR := hide hr
  have C : Hid (∀ W v, RdF W v fs → Calls Try.prog 56 #[.agg #[v]] W fun e w' => e = .returned (.bool true) ∧ Below W.heap.size W w') := fun W v h => by rw [← hok]; exact specDiskOk_any fs v W h hB (by omega)
  unfold acv
  have HN := hide hnm
  have HOK := hide hok
  have HB := hide hB
  have hqtx := emB_yes htx
  have hqto := emB_yes hto
  clear hr hok hB hnm htx hto
  go_enter Try.func38, Try.ntmps38
  go_wp2_with (fail)
  obtain ⟨W, hW, xD, xA, xR, hsz, hbW⟩ := three_act w ⟨2, nm, tx, to⟩ 26 45 (.slice a0 fs.length c0)
  rw [hW]
  clear hW
  refine ((unhide C) W _ (by exact (unhide HR).below hbW)).mono ?_
  rintro e w1 ⟨rfl, hb1⟩
  have xD1 := xD.below hb1 (by omega)
  have xR1 := hide (xR.below hb1 (by omega))
  have xA1 := xA.below hb1 (by omega)
  obtain ⟨k1, k2, k3, k4⟩ := xA1.at
  have hla := xA1.lt
  have cd := xD1.cell
  have hld := xD1.lt
  have hbw1 := hide (bTr hbW hb1)
  have HR1 := hide ((unhide HR).below (bTr hbW hb1))
  replace xA1 := hide xA1
  replace xD1 := hide xD1
  clear hb1 xD xA xR hbW
  go_wp2_with (go_at_call 57; refine (l03Name_at nm _ (unhide HN) _ hz).mono ?_; rintro e w2 ⟨rfl, hw2⟩; subst hw2)
  refine (l03At_any fs nm _ w2 (unhide HR1) (by omega)).mono ?_
  rintro e w3 ⟨hat, hb3⟩
  have HR3 := hide ((unhide HR1).below hb3)
  have xA3 := (unhide xA1).below hb3 hla
  obtain ⟨m1, m2, m3, m4⟩ := xA3.at
  have hla3 := xA3.lt
  have xD3 := (unhide xD1).below hb3 hld
  have cd3 := xD3.cell
  have hld3 := xD3.lt
  have xR3 := hide ((unhide xR1).below hb3 (unhide xR1).lt)
  have hbw3 := hide (bTr (unhide hbw1) hb3)
  clear hb3 k1 k2 k3 k4 cd
  rcases hat with ⟨k, f, rfl, hat⟩ | ⟨rfl, hat⟩
  · obtain ⟨a1, c1, he, hc⟩ := (unhide HR3).open
    obtain ⟨g, o, hea, hg, hat3⟩ := hc k f hat.1
    have he2 : a0 = a1 := by injection he
    subst he2
    subst hea
    obtain ⟨d1, d2, d3⟩ := hat3
    have hkl : k < fs.length := (List.getElem?_eq_some_iff.1 hat.1).1
    have hki : (k : Int) < (fs.length : Int) := by omega
    have hk0 : (0 : Int) ≤ (k : Int) := by omega
    have hfm := findL_mem (findL_some hat)
    have hfB := (unhide HB) f hfm.1
    have HBP := hide (bd_put (f := keptF f) (unhide HB) hfB.1 hfB.2)
    have HLP := hide (show (putL fs (keptF f)).length ≤ 2000000 from Nat.le_trans (putL_len' _ _) (by omega))
    have HRES := hide (show keepR fs nm = some (putL fs (keptF f)) from by unfold keepR; rw [findL_some hat]; rfl)
    have HOO := hide (keepR_ok (unhide HOK) (unhide HRES))
    replace hfm := hide hfm
    clear he hc hat
    go_wp2_with (fail)
    obtain ⟨U, hU, hxo, hbU, hUs⟩ := two_out w3 (keptF f) 36 26
    dsimp only [keptF] at hU
    rw [hU]
    clear hU
    refine (l03Put_any fs (keptF f) _ U (by exact (unhide HR3).below hbU) hn).mono ?_
    rintro e w4 ⟨⟨a4, c4, rfl, ho4⟩, hb4⟩
    have hxo4 := hxo.below hb4 (by omega)
    have co4 := hxo4.cell
    have zo4 := hxo4.frozen
    have lo4 := hxo4.lt
    have xR4 := hide ((unhide xR3).below (bTr hbU hb4) (unhide xR3).lt)
    have hs34 : U.heap.size ≤ w4.heap.size := hb4.size
    have hlr := (unhide xR3).lt
    have hbw4 := hide (bTr (unhide hbw3) (bTr hbU hb4))
    have ho4s := hide (ho4.other (a := ⟨w3.heap.size + 1, 0, none⟩) (by show w3.heap.size + 1 < U.heap.size; omega) (.slice a4 (putL fs (keptF f)).length c4))
    have hok2 := unhide HOO
    have C2 : Hid (∀ W v, RdF W v (putL fs (keptF f)) → Calls Try.prog 56 #[.agg #[v]] W fun e w' => e = .returned (.bool true) ∧ Below W.heap.size W w') := fun W v h => by rw [← hok2]; exact specDiskOk_any _ v W h (unhide HBP) (unhide HLP)
    have HO2 := hide hok2
    clear hok2 ho4 hb4
    go_wp2_with (fail)
    have xO5 := hxo4.set (.slice a4 (putL fs (keptF f)).length c4)
    have xR5 : Box (w4.setCell ⟨w3.heap.size + 1, 0, none⟩ (.slice a4 (putL fs (keptF f)).length c4)) (w.heap.size + 1 + 1) 26 (.slice none 0 0) := ((gS w4 (w3.heap.size + 1) 0 _).block _ (by omega) (by simp; omega)).trans (unhide xR4)
    have hb5 := (unhide hbw4).setCell (p := ⟨w3.heap.size + 1, 0, none⟩) (by show w.heap.size ≤ w3.heap.size + 1; omega) (.slice a4 (putL fs (keptF f)).length c4)
    have ho5 := unhide ho4s
    have hs5 : (w4.setCell ⟨w3.heap.size + 1, 0, none⟩ (.slice a4 (putL fs (keptF f)).length c4)).heap.size = w4.heap.size := by simp
    clear ho4s hxo4 co4 zo4 xR4 hbw4
    generalize w4.setCell ⟨w3.heap.size + 1, 0, none⟩ (.slice a4 (putL fs (keptF f)).length c4) = W5 at *
    obtain ⟨n5, hn5⟩ : ∃ n, (putL fs (keptF f)).length = n := ⟨_, rfl⟩
    rw [hn5] at ho5 xO5 ⊢
    refine ((unhide C2) W5 _ ho5.rd).mono ?_
    rintro e w6 ⟨rfl, hb6⟩
    have xO6 := xO5.below hb6 (by omega)
    have xR6 := xR5.below hb6 (by omega)
    have ho6 := ho5.below hb6
    have cO6 := xO6.cell
    have lO6 := xO6.lt
    have cR6 := xR6.cell
    have zR6 := xR6.frozen
    have lR6 := xR6.lt
    have hbf : ∀ u, Hid (Below w.heap.size w (w6.setCell ⟨w.heap.size + 1 + 1, 0, none⟩ u)) := fun u => hide ((bTr hb5 hb6).setCell (p := ⟨w.heap.size + 1 + 1, 0, none⟩) (by show w.heap.size ≤ w.heap.size + 1 + 1; omega) u)
    have hof := hide ((ho6.other (a := ⟨w.heap.size + 1 + 1, 0, none⟩) (by show w.heap.size + 1 + 1 < U.heap.size; omega) (.slice a4 n5 c4)).low (base' := w.heap.size) (by omega))
    have hn5h := hide hn5
    replace hbf := hide hbf
    clear hb6 hb5 ho6 ho5 xO5 xR5 xO6 xR6 hn5
    go_wp2
    refine bodyPost_ret (v := .tuple #[.agg #[.slice a4 n5 c4], .bool true]) (by simp [results, Try.results38, go_sem, cR6]) rfl ?_
    rw [unhide HRES]
    refine ⟨⟨a4, c4, ?_, ?_⟩, unhide ((unhide hbf) _)⟩
    · show _ = Ending.returned (.tuple #[.agg #[.slice a4 (putL fs (keptF f)).length c4], .bool true])
      rw [unhide hn5h]
    · show OwnF _ _ _ (.slice a4 (putL fs (keptF f)).length c4) (putL fs (keptF f))
      rw [unhide hn5h]
      exact unhide hof
  · have hpf := hide (findL_none hat)
    clear hat
    have xRr := unhide xR3
    have cR := xRr.cell
    have zR := xRr.frozen
    have lR := xRr.lt
    have xRe := hide ((xRr.set (.slice none 0 0)).alloc (.cells #[.string nm, .string ⟨#[]⟩, .int .i64 0] 36) |>.alloc (.cells #[.slice none 0 0] 26))
    have hbe := hide (bTrA (bTrA ((unhide hbw3).setCell (p := ⟨w.heap.size + 1 + 1, 0, none⟩) (by show w.heap.size ≤ w.heap.size + 1 + 1; omega) (.slice none 0 0)) (.cells #[.string nm, .string ⟨#[]⟩, .int .i64 0] 36)) (.cells #[.slice none 0 0] 26))
    clear xRr
    go_wp2_with (fail)
    replace xRe := unhide xRe
    replace hbe := unhide hbe
    generalize ((w3.setCell ⟨w.heap.size + 1 + 1, 0, none⟩ (.slice none 0 0)).alloc (.cells #[.string nm, .string ⟨#[]⟩, .int .i64 0] 36)).alloc (.cells #[.slice none 0 0] 26) = We at *
    have cRe := xRe.cell
    refine bodyPost_ret (v := .tuple #[.agg #[.slice none 0 0], .bool false]) (by simp [results, Try.results38, go_sem, cRe]) rfl ?_
    rw [show keepR fs nm = none from by unfold keepR; rw [unhide hpf]; rfl]
    exact ⟨⟨none, 0, rfl, OwnF.nil _ _ _⟩, hbe⟩
end Go.Proofs.Ytkaaabpodhgbpaa

namespace Go.Proofs.Ytkaaabpodhgbpaa
open Go.RowKit

theorem bd_without {fs : List Fl} (s : ByteArray) (h : Bd fs) : Bd (withoutL fs s) := fun x hx => h x (List.mem_filter.1 hx).1
set_option maxRecDepth 20000 in
set_option maxHeartbeats 8000000 in
theorem specDoAct_drop (fs : List Fl) (nm tx to : ByteArray) (v : Value) (w : World) (hr : RdF w v fs) (hB : Bd fs) (hn : fs.length ≤ 1000000) (hok : okL fs = true) (hz : nm.size ≤ 4000000) (hnm : nameB nm = true) (htx : emB tx = true) (hto : emB to = true) :
    Calls Try.prog 38 #[.agg #[v], acv ⟨4, nm, tx, to⟩] w fun e w' => DkEnd 36 ((dropR fs nm).getD []) (dropR fs nm).isSome w e w' := by
  obtain ⟨a0, c0, rfl⟩ := hr.shape
  have HR := hide hr
  have C : Hid (∀ W v, RdF W v fs → Calls Try.prog 56 #[.agg #[v]] W fun e w' => e = .returned (.bool true) ∧ Below W.heap.size W w') := fun W v h => by rw [← hok]; exact specDiskOk_any fs v W h hB (by omega)
  unfold acv
  have HN := hide hnm
  have HOK := hide hok
  have HB := hide hB
  have hqtx := emB_yes htx
  have hqto := emB_yes hto
  clear hr hok hB hnm htx hto
  go_enter Try.func38, Try.ntmps38
  go_wp2_with (fail)
  obtain ⟨W, hW, xD, xA, xR, hsz, hbW⟩ := three_act w ⟨4, nm, tx, to⟩ 26 45 (.slice a0 fs.length c0)
  rw [hW]
  clear hW
  refine ((unhide C) W _ (by exact (unhide HR).below hbW)).mono ?_
  rintro e w1 ⟨rfl, hb1⟩
  have xD1 := xD.below hb1 (by omega)
  have xR1 := hide (xR.below hb1 (by omega))
  have xA1 := xA.below hb1 (by omega)
  obtain ⟨k1, k2, k3, k4⟩ := xA1.at
  have hla := xA1.lt
  have cd := xD1.cell
  have hld := xD1.lt
  have hbw1 := hide (bTr hbW hb1)
  have HR1 := hide ((unhide HR).below (bTr hbW hb1))
  replace xA1 := hide xA1
  replace xD1 := hide xD1
  clear hb1 xD xA xR hbW
  go_wp2_with (go_at_call 57; refine (l03Name_at nm _ (unhide HN) _ hz).mono ?_; rintro e w2 ⟨rfl, hw2⟩; subst hw2)
  refine (l03At_any fs nm _ w2 (unhide HR1) (by omega)).mono ?_
  rintro e w3 ⟨hat, hb3⟩
  have HR3 := hide ((unhide HR1).below hb3)
  have xA3 := (unhide xA1).below hb3 hla
  obtain ⟨m1, m2, m3, m4⟩ := xA3.at
  have hla3 := xA3.lt
  have xD3 := (unhide xD1).below hb3 hld
  have cd3 := xD3.cell
  have hld3 := xD3.lt
  have xR3 := hide ((unhide xR1).below hb3 (unhide xR1).lt)
  have hbw3 := hide (bTr (unhide hbw1) hb3)
  clear hb3 k1 k2 k3 k4 cd
  rcases hat with ⟨k, f, rfl, hat⟩ | ⟨rfl, hat⟩
  · obtain ⟨a1, c1, he, hc⟩ := (unhide HR3).open
    obtain ⟨g, o, hea, hg, hat3⟩ := hc k f hat.1
    have he2 : a0 = a1 := by injection he
    subst he2
    subst hea
    obtain ⟨d1, d2, d3⟩ := hat3
    have hkl : k < fs.length := (List.getElem?_eq_some_iff.1 hat.1).1
    have hki : (k : Int) < (fs.length : Int) := by omega
    have hk0 : (0 : Int) ≤ (k : Int) := by omega
    have hfm := findL_mem (findL_some hat)
    have HBP := hide (bd_without nm (unhide HB))
    have HLP := hide (show (withoutL fs nm).length ≤ 2000000 from Nat.le_trans (List.length_filter_le _ _) (by omega))
    have HRES := hide (show dropR fs nm = some (withoutL fs nm) from by unfold dropR; rw [findL_some hat]; rfl)
    have HOO := hide (dropR_ok (unhide HOK) (unhide HRES))
    replace hfm := hide hfm
    clear he hc hat
    go_wp2_with (fail)
    obtain ⟨U, hU, hxo, hbU, hUs⟩ := two_out w3 f 36 26
    rw [hU]
    clear hU
    refine (l03Without_any fs nm _ U (by exact (unhide HR3).below hbU) hn).mono ?_
    rintro e w4 ⟨⟨a4, c4, rfl, ho4⟩, hb4⟩
    have hxo4 := hxo.below hb4 (by omega)
    have co4 := hxo4.cell
    have zo4 := hxo4.frozen
    have lo4 := hxo4.lt
    have xR4 := hide ((unhide xR3).below (bTr hbU hb4) (unhide xR3).lt)
    have hs34 : U.heap.size ≤ w4.heap.size := hb4.size
    have hlr := (unhide xR3).lt
    have hbw4 := hide (bTr (unhide hbw3) (bTr hbU hb4))
    have ho4s := hide (ho4.other (a := ⟨w3.heap.size + 1, 0, none⟩) (by show w3.heap.size + 1 < U.heap.size; omega) (.slice a4 (withoutL fs nm).length c4))
    have hok2 := unhide HOO
    have C2 : Hid (∀ W v, RdF W v (withoutL fs nm) → Calls Try.prog 56 #[.agg #[v]] W fun e w' => e = .returned (.bool true) ∧ Below W.heap.size W w') := fun W v h => by rw [← hok2]; exact specDiskOk_any _ v W h (unhide HBP) (unhide HLP)
    have HO2 := hide hok2
    clear hok2 ho4 hb4
    go_wp2_with (fail)
    have xO5 := hxo4.set (.slice a4 (withoutL fs nm).length c4)
    have xR5 : Box (w4.setCell ⟨w3.heap.size + 1, 0, none⟩ (.slice a4 (withoutL fs nm).length c4)) (w.heap.size + 1 + 1) 26 (.slice none 0 0) := ((gS w4 (w3.heap.size + 1) 0 _).block _ (by omega) (by simp; omega)).trans (unhide xR4)
    have hb5 := (unhide hbw4).setCell (p := ⟨w3.heap.size + 1, 0, none⟩) (by show w.heap.size ≤ w3.heap.size + 1; omega) (.slice a4 (withoutL fs nm).length c4)
    have ho5 := unhide ho4s
    have hs5 : (w4.setCell ⟨w3.heap.size + 1, 0, none⟩ (.slice a4 (withoutL fs nm).length c4)).heap.size = w4.heap.size := by simp
    clear ho4s hxo4 co4 zo4 xR4 hbw4
    generalize w4.setCell ⟨w3.heap.size + 1, 0, none⟩ (.slice a4 (withoutL fs nm).length c4) = W5 at *
    obtain ⟨n5, hn5⟩ : ∃ n, (withoutL fs nm).length = n := ⟨_, rfl⟩
    rw [hn5] at ho5 xO5 ⊢
    refine ((unhide C2) W5 _ ho5.rd).mono ?_
    rintro e w6 ⟨rfl, hb6⟩
    have xO6 := xO5.below hb6 (by omega)
    have xR6 := xR5.below hb6 (by omega)
    have ho6 := ho5.below hb6
    have cO6 := xO6.cell
    have lO6 := xO6.lt
    have cR6 := xR6.cell
    have zR6 := xR6.frozen
    have lR6 := xR6.lt
    have hbf : ∀ u, Hid (Below w.heap.size w (w6.setCell ⟨w.heap.size + 1 + 1, 0, none⟩ u)) := fun u => hide ((bTr hb5 hb6).setCell (p := ⟨w.heap.size + 1 + 1, 0, none⟩) (by show w.heap.size ≤ w.heap.size + 1 + 1; omega) u)
    have hof := hide ((ho6.other (a := ⟨w.heap.size + 1 + 1, 0, none⟩) (by show w.heap.size + 1 + 1 < U.heap.size; omega) (.slice a4 n5 c4)).low (base' := w.heap.size) (by omega))
    have hn5h := hide hn5
    replace hbf := hide hbf
    clear hb6 hb5 ho6 ho5 xO5 xR5 xO6 xR6 hn5
    go_wp2
    refine bodyPost_ret (v := .tuple #[.agg #[.slice a4 n5 c4], .bool true]) (by simp [results, Try.results38, go_sem, cR6]) rfl ?_
    rw [unhide HRES]
    refine ⟨⟨a4, c4, ?_, ?_⟩, unhide ((unhide hbf) _)⟩
    · show _ = Ending.returned (.tuple #[.agg #[.slice a4 (withoutL fs nm).length c4], .bool true])
      rw [unhide hn5h]
    · show OwnF _ _ _ (.slice a4 (withoutL fs nm).length c4) (withoutL fs nm)
      rw [unhide hn5h]
      exact unhide hof
  · have hpf := hide (findL_none hat)
    clear hat
    have xRr := unhide xR3
    have cR := xRr.cell
    have zR := xRr.frozen
    have lR := xRr.lt
    have xRe := hide ((xRr.set (.slice none 0 0)).alloc (.cells #[.string nm, .string ⟨#[]⟩, .int .i64 0] 36) |>.alloc (.cells #[.slice none 0 0] 26))
    have hbe := hide (bTrA (bTrA ((unhide hbw3).setCell (p := ⟨w.heap.size + 1 + 1, 0, none⟩) (by show w.heap.size ≤ w.heap.size + 1 + 1; omega) (.slice none 0 0)) (.cells #[.string nm, .string ⟨#[]⟩, .int .i64 0] 36)) (.cells #[.slice none 0 0] 26))
    clear xRr
    go_wp2_with (fail)
    replace xRe := unhide xRe
    replace hbe := unhide hbe
    generalize ((w3.setCell ⟨w.heap.size + 1 + 1, 0, none⟩ (.slice none 0 0)).alloc (.cells #[.string nm, .string ⟨#[]⟩, .int .i64 0] 36)).alloc (.cells #[.slice none 0 0] 26) = We at *
    have cRe := xRe.cell
    refine bodyPost_ret (v := .tuple #[.agg #[.slice none 0 0], .bool false]) (by simp [results, Try.results38, go_sem, cRe]) rfl ?_
    rw [show dropR fs nm = none from by unfold dropR; rw [unhide hpf]; rfl]
    exact ⟨⟨none, 0, rfl, OwnF.nil _ _ _⟩, hbe⟩
end Go.Proofs.Ytkaaabpodhgbpaa

namespace Go.Proofs.Ytkaaabpodhgbpaa
open Go.RowKit

theorem two_outF (w : World) (f : Fl) (T D : TypeId) : ∃ U, (w.alloc (.cells #[.string f.nm, .string f.tx, .int .i64 f.kp] T)).alloc (.cells #[.slice none 0 0] D) = U ∧ Box U (w.heap.size + 1) D (.slice none 0 0) ∧ FlB U w.heap.size T f ∧ Below w.heap.size w U ∧ U.heap.size = w.heap.size + 1 + 1 := by
  refine ⟨_, rfl, ?_, ?_, bTrA (bTrA (Below.refl w.heap.size w) _) _, by simp⟩
  · simpa using Box.new (w.alloc (.cells #[.string f.nm, .string f.tx, .int .i64 f.kp] T)) D (.slice none 0 0)
  · exact (FlB.new w T f).below (bTrA (Below.refl _ _) _) (FlB.new w T f).lt
set_option maxRecDepth 20000 in
set_option maxHeartbeats 8000000 in
theorem specDoAct_move (fs : List Fl) (nm tx to : ByteArray) (v : Value) (w : World) (hr : RdF w v fs) (hB : Bd fs) (hn : fs.length ≤ 1000000) (hok : okL fs = true) (hz : nm.size ≤ 4000000) (hnm : nameB nm = true) (hzo : to.size ≤ 4000000) (htx : emB tx = true) :
    Calls Try.prog 38 #[.agg #[v], acv ⟨3, nm, tx, to⟩] w fun e w' => DkEnd 36 ((moveR fs nm to).getD []) (moveR fs nm to).isSome w e w' := by
  obtain ⟨a0, c0, rfl⟩ := hr.shape
  have HR := hide hr
  have C : Hid (∀ W v, RdF W v fs → Calls Try.prog 56 #[.agg #[v]] W fun e w' => e = .returned (.bool true) ∧ Below W.heap.size W w') := fun W v h => by rw [← hok]; exact specDiskOk_any fs v W h hB (by omega)
  unfold acv
  have HN := hide hnm
  have HOK := hide hok
  have HB := hide hB
  have hqtx := emB_yes htx
  clear hr hok hB hnm htx
  go_enter Try.func38, Try.ntmps38
  go_wp2_with (fail)
  obtain ⟨W, hW, xD, xA, xR, hsz, hbW⟩ := three_act w ⟨3, nm, tx, to⟩ 26 45 (.slice a0 fs.length c0)
  rw [hW]
  clear hW
  refine ((unhide C) W _ (by exact (unhide HR).below hbW)).mono ?_
  rintro e w1 ⟨rfl, hb1⟩
  have xD1 := xD.below hb1 (by omega)
  have xR1 := hide (xR.below hb1 (by omega))
  have xA1 := xA.below hb1 (by omega)
  obtain ⟨k1, k2, k3, k4⟩ := xA1.at
  have hla := xA1.lt
  have cd := xD1.cell
  have hld := xD1.lt
  have hbw1 := hide (bTr hbW hb1)
  have HR1 := hide ((unhide HR).below (bTr hbW hb1))
  replace xA1 := hide xA1
  replace xD1 := hide xD1
  clear hb1 xD xA xR hbW
  go_wp2_with (go_at_call 57; refine (l03Name_at nm _ (unhide HN) _ hz).mono ?_; rintro e w2 ⟨rfl, hw2⟩; subst hw2)
  refine (l03At_any fs nm _ w2 (unhide HR1) (by omega)).mono ?_
  rintro e w3 ⟨hat, hb3⟩
  have HR3 := hide ((unhide HR1).below hb3)
  have xA3 := (unhide xA1).below hb3 hla
  obtain ⟨m1, m2, m3, m4⟩ := xA3.at
  have hla3 := xA3.lt
  have xD3 := (unhide xD1).below hb3 hld
  have cd3 := xD3.cell
  have hld3 := xD3.lt
  have xR3 := hide ((unhide xR1).below hb3 (unhide xR1).lt)
  have hbw3 := hide (bTr (unhide hbw1) hb3)
  clear hb3 k1 k2 k3 k4 cd
  rcases hat with ⟨k, f, rfl, hat⟩ | ⟨rfl, hat⟩
  · obtain ⟨a1, c1, he, hc⟩ := (unhide HR3).open
    obtain ⟨g, o, hea, hg, hat3⟩ := hc k f hat.1
    have he2 : a0 = a1 := by injection he
    subst he2
    subst hea
    obtain ⟨d1, d2, d3⟩ := hat3
    have hkl : k < fs.length := (List.getElem?_eq_some_iff.1 hat.1).1
    have hki : (k : Int) < (fs.length : Int) := by omega
    have hk0 : (0 : Int) ≤ (k : Int) := by omega
    have hfm := findL_mem (findL_some hat)
    have hfk := fileB_kept ((okL_iff.1 (unhide HOK)).2.1 f hfm.1)
    have hfB := (unhide HB) f hfm.1
    have HAT := hide (findL_some hat)
    clear he hc hat
    replace hfm := hide hfm
    cases hw : wholeB f with
    | false =>
      have hlt : f.kp < (f.tx.size : Int) := by
        unfold wholeB at hw
        rw [beq_eq_false_iff_ne] at hw
        omega
      have HC := hide (show canB f nm to = false from by unfold canB; rw [hw]; rfl)
      clear hw
      have xRr := unhide xR3
      have cR := xRr.cell
      have zR := xRr.frozen
      have lR := xRr.lt
      have xRe := hide ((xRr.set (.slice none 0 0)).alloc (.cells #[.string f.nm, .string f.tx, .int .i64 f.kp] 36) |>.alloc (.cells #[.slice none 0 0] 26))
      have hbe := hide (bTrA (bTrA ((unhide hbw3).setCell (p := ⟨w.heap.size + 1 + 1, 0, none⟩) (by show w.heap.size ≤ w.heap.size + 1 + 1; omega) (.slice none 0 0)) (.cells #[.string f.nm, .string f.tx, .int .i64 f.kp] 36)) (.cells #[.slice none 0 0] 26))
      clear xRr
      go_wp2
      replace xRe := unhide xRe
      replace hbe := unhide hbe
      generalize ((w3.setCell ⟨w.heap.size + 1 + 1, 0, none⟩ (.slice none 0 0)).alloc (.cells #[.string f.nm, .string f.tx, .int .i64 f.kp] 36)).alloc (.cells #[.slice none 0 0] 26) = We at *
      have cRe := xRe.cell
      refine bodyPost_ret (v := .tuple #[.agg #[.slice none 0 0], .bool false]) (by simp [results, Try.results38, go_sem, cRe]) rfl ?_
      rw [show moveR fs nm to = none from by unfold moveR; rw [unhide HAT, Option.bind_some, if_neg (by rw [unhide HC]; decide)]]
      exact ⟨⟨none, 0, rfl, OwnF.nil _ _ _⟩, hbe⟩
    | true =>
      have hnl : ¬ f.kp < (f.tx.size : Int) := by
        unfold wholeB at hw
        rw [beq_iff_eq] at hw
        omega
      by_cases hne : to = nm
      · have HC := hide (show canB f nm to = false from by unfold canB; rw [hw, sameN_iff.2 hne]; rfl)
        have hsame : (to.toList == nm.toList) = true := sameN_iff.2 hne
        clear hw
        replace hne := hide hne
        have xRr := unhide xR3
        have cR := xRr.cell
        have zR := xRr.frozen
        have lR := xRr.lt
        have xRe := hide ((xRr.set (.slice none 0 0)).alloc (.cells #[.string f.nm, .string f.tx, .int .i64 f.kp] 36) |>.alloc (.cells #[.slice none 0 0] 26))
        have hbe := hide (bTrA (bTrA ((unhide hbw3).setCell (p := ⟨w.heap.size + 1 + 1, 0, none⟩) (by show w.heap.size ≤ w.heap.size + 1 + 1; omega) (.slice none 0 0)) (.cells #[.string f.nm, .string f.tx, .int .i64 f.kp] 36)) (.cells #[.slice none 0 0] 26))
        clear xRr
        go_wp2
        replace xRe := unhide xRe
        replace hbe := unhide hbe
        generalize ((w3.setCell ⟨w.heap.size + 1 + 1, 0, none⟩ (.slice none 0 0)).alloc (.cells #[.string f.nm, .string f.tx, .int .i64 f.kp] 36)).alloc (.cells #[.slice none 0 0] 26) = We at *
        have cRe := xRe.cell
        refine bodyPost_ret (v := .tuple #[.agg #[.slice none 0 0], .bool false]) (by simp [results, Try.results38, go_sem, cRe]) rfl ?_
        rw [show moveR fs nm to = none from by unfold moveR; rw [unhide HAT, Option.bind_some, if_neg (by rw [unhide HC]; decide)]]
        exact ⟨⟨none, 0, rfl, OwnF.nil _ _ _⟩, hbe⟩
      have hsame : (to.toList == nm.toList) = false := sameN_no.2 hne
      cases hnt : nameB to with
      | false =>
        have HC := hide (show canB f nm to = false from by unfold canB; rw [hw, sameN_no.2 hne, hnt]; rfl)
        have HNT := hide hnt
        clear hw hnt
        have xRr := unhide xR3
        have cR := xRr.cell
        have zR := xRr.frozen
        have lR := xRr.lt
        have xRe := hide ((xRr.set (.slice none 0 0)).alloc (.cells #[.string f.nm, .string f.tx, .int .i64 f.kp] 36) |>.alloc (.cells #[.slice none 0 0] 26))
        have hbe := hide (bTrA (bTrA ((unhide hbw3).setCell (p := ⟨w.heap.size + 1 + 1, 0, none⟩) (by show w.heap.size ≤ w.heap.size + 1 + 1; omega) (.slice none 0 0)) (.cells #[.string f.nm, .string f.tx, .int .i64 f.kp] 36)) (.cells #[.slice none 0 0] 26))
        clear xRr
        go_wp2_with (go_at_call 57; refine (l03Name_at to _ (unhide HNT) _ hzo).mono ?_; rintro e w9 ⟨rfl, hw9⟩; subst hw9)
        replace xRe := unhide xRe
        replace hbe := unhide hbe
        generalize ((w3.setCell ⟨w.heap.size + 1 + 1, 0, none⟩ (.slice none 0 0)).alloc (.cells #[.string f.nm, .string f.tx, .int .i64 f.kp] 36)).alloc (.cells #[.slice none 0 0] 26) = We at *
        have cRe := xRe.cell
        refine bodyPost_ret (v := .tuple #[.agg #[.slice none 0 0], .bool false]) (by simp [results, Try.results38, go_sem, cRe]) rfl ?_
        rw [show moveR fs nm to = none from by unfold moveR; rw [unhide HAT, Option.bind_some, if_neg (by rw [unhide HC]; decide)]]
        exact ⟨⟨none, 0, rfl, OwnF.nil _ _ _⟩, hbe⟩
      | true =>
        have HC := hide (show canB f nm to = true from by unfold canB; rw [hw, sameN_no.2 hne, hnt]; rfl)
        have HNT := hide hnt
        have HRES := hide (show moveR fs nm to = some (putL (withoutL fs nm) (movF f to)) from by unfold moveR; rw [unhide HAT, Option.bind_some, if_pos (unhide HC)])
        have HOO := hide (moveR_ok (unhide HOK) (unhide HRES))
        have hwl : (withoutL fs nm).length ≤ 1000000 := Nat.le_trans (List.length_filter_le _ _) hn
        have HBP := hide (bd_put (f := movF f to) (bd_without nm (unhide HB)) hzo hfB.2)
        have HLP := hide (show (putL (withoutL fs nm) (movF f to)).length ≤ 2000000 from Nat.le_trans (putL_len' _ _) (by omega))
        clear hw hnt
        go_wp2_with (go_at_call 57; refine (l03Name_at to _ (unhide HNT) _ hzo).mono ?_; rintro e w9 ⟨rfl, hw9⟩; subst hw9)
        obtain ⟨U, hU, hxo, hfU, hbU, hUs⟩ := two_outF w3 (movF f to) 36 26
        dsimp only [movF] at hU
        rw [hU]
        clear hU
        have HRU := hide ((unhide HR3).below hbU)
        obtain ⟨f1, f2, f3⟩ := hfU.at
        dsimp only [movF, Nat.zero_add] at f1 f2 f3
        have hfl := hfU.lt
        obtain ⟨n1, n2, n3, n4⟩ := (xA3.below hbU hla3).at
        have hlaU := (xA3.below hbU hla3).lt
        have cdU := (xD3.below hbU hld3).cell
        have hldU := (xD3.below hbU hld3).lt
        have hxoc := hxo.cell
        have hxoz := hxo.frozen
        have hxol := hxo.lt
        replace hxo := hide hxo
        replace hfU := hide hfU
        replace xA3 := hide xA3
        replace xD3 := hide xD3
        go_region_law (first
          | (refine step_call rfl (F := 59) (l03Without_any fs nm _ _ (by exact (unhide HRU).drew) hn) (by go_simp) ?_; rintro e w7 ⟨⟨a7, c7, rfl, ho7⟩, hb7⟩; refine ⟨_, rfl, ?_⟩; (have g1 := (hb7.cell (p := ⟨w3.heap.size, 0, none⟩) hfl).trans f1); (have g2 := (hb7.cell (p := ⟨w3.heap.size, 1, none⟩) hfl).trans f2); (have g3 := (hb7.cell (p := ⟨w3.heap.size, 2, none⟩) hfl).trans f3); (have hl7 : w3.heap.size < w7.heap.size := Nat.lt_of_lt_of_le hfl hb7.size))
          | (refine step_call rfl (F := 24) (l03Put_any (withoutL fs nm) (movF f to) _ _ ho7.rd hwl) (by go_simp; exact ⟨rfl, rfl, rfl⟩) ?_; rintro e w4 ⟨⟨a4, c4, rfl, ho4⟩, hb4⟩; refine ⟨_, rfl, ?_⟩; (have hq7 : Box w7 (w3.heap.size + 1) 26 (.slice none 0 0) := Box.below (w := U.drew) (unhide hxo) hb7 hxol); (have hq4 := hq7.below hb4 hq7.lt); have cq4 := hq4.cell; have zq4 := hq4.frozen; have lq4 := hq4.lt))
        all_goals
          have hb4' : Below U.heap.size U w4 := ((Below.refl U.heap.size U).drew.trans hb7).trans (hb4.mono hb7.size)
          have ho4' := ho4.low (base' := U.heap.size) hb7.size
          replace hb4 := hb4'
          replace ho4 := ho4'
          replace hxo := unhide hxo
          clear hb4' ho4' hb7 ho7 g1 g2 g3 hq7 hq4 cq4 zq4 lq4
          have hxo4 := hxo.below hb4 (by omega)
          have co4 := hxo4.cell
          have zo4 := hxo4.frozen
          have lo4 := hxo4.lt
          have xR4 := hide ((unhide xR3).below (bTr hbU hb4) (unhide xR3).lt)
          have hs34 : U.heap.size ≤ w4.heap.size := hb4.size
          have hlr := (unhide xR3).lt
          have hbw4 := hide (bTr (unhide hbw3) (bTr hbU hb4))
          have ho4s := hide (ho4.other (a := ⟨w3.heap.size + 1, 0, none⟩) (by show w3.heap.size + 1 < U.heap.size; omega) (.slice a4 (putL (withoutL fs nm) (movF f to)).length c4))
          have hok2 := unhide HOO
          have C2 : Hid (∀ W v, RdF W v (putL (withoutL fs nm) (movF f to)) → Calls Try.prog 56 #[.agg #[v]] W fun e w' => e = .returned (.bool true) ∧ Below W.heap.size W w') := fun W v h => by rw [← hok2]; exact specDiskOk_any _ v W h (unhide HBP) (unhide HLP)
          have HO2 := hide hok2
          clear hok2 ho4 hb4
          go_wp2_with (fail)
          have xO5 := hxo4.set (.slice a4 (putL (withoutL fs nm) (movF f to)).length c4)
          have xR5 : Box (w4.setCell ⟨w3.heap.size + 1, 0, none⟩ (.slice a4 (putL (withoutL fs nm) (movF f to)).length c4)) (w.heap.size + 1 + 1) 26 (.slice none 0 0) := ((gS w4 (w3.heap.size + 1) 0 _).block _ (by omega) (by simp; omega)).trans (unhide xR4)
          have hb5 := (unhide hbw4).setCell (p := ⟨w3.heap.size + 1, 0, none⟩) (by show w.heap.size ≤ w3.heap.size + 1; omega) (.slice a4 (putL (withoutL fs nm) (movF f to)).length c4)
          have ho5 := unhide ho4s
          have hs5 : (w4.setCell ⟨w3.heap.size + 1, 0, none⟩ (.slice a4 (putL (withoutL fs nm) (movF f to)).length c4)).heap.size = w4.heap.size := by simp
          clear ho4s hxo4 co4 zo4 xR4 hbw4
          generalize w4.setCell ⟨w3.heap.size + 1, 0, none⟩ (.slice a4 (putL (withoutL fs nm) (movF f to)).length c4) = W5 at *
          obtain ⟨n5, hn5⟩ : ∃ n, (putL (withoutL fs nm) (movF f to)).length = n := ⟨_, rfl⟩
          rw [hn5] at ho5 xO5 ⊢
          refine ((unhide C2) W5 _ ho5.rd).mono ?_
          rintro e w6 ⟨rfl, hb6⟩
          have xO6 := xO5.below hb6 (by omega)
          have xR6 := xR5.below hb6 (by omega)
          have ho6 := ho5.below hb6
          have cO6 := xO6.cell
          have lO6 := xO6.lt
          have cR6 := xR6.cell
          have zR6 := xR6.frozen
          have lR6 := xR6.lt
          have hbf : ∀ u, Hid (Below w.heap.size w (w6.setCell ⟨w.heap.size + 1 + 1, 0, none⟩ u)) := fun u => hide ((bTr hb5 hb6).setCell (p := ⟨w.heap.size + 1 + 1, 0, none⟩) (by show w.heap.size ≤ w.heap.size + 1 + 1; omega) u)
          have hof := hide ((ho6.other (a := ⟨w.heap.size + 1 + 1, 0, none⟩) (by show w.heap.size + 1 + 1 < U.heap.size; omega) (.slice a4 n5 c4)).low (base' := w.heap.size) (by omega))
          have hn5h := hide hn5
          replace hbf := hide hbf
          clear hb6 hb5 ho6 ho5 xO5 xR5 xO6 xR6 hn5
          go_wp2
          refine bodyPost_ret (v := .tuple #[.agg #[.slice a4 n5 c4], .bool true]) (by simp [results, Try.results38, go_sem, cR6]) rfl ?_
          rw [unhide HRES]
          refine ⟨⟨a4, c4, ?_, ?_⟩, unhide ((unhide hbf) _)⟩
          · show _ = Ending.returned (.tuple #[.agg #[.slice a4 (putL (withoutL fs nm) (movF f to)).length c4], .bool true])
            rw [unhide hn5h]
          · show OwnF _ _ _ (.slice a4 (putL (withoutL fs nm) (movF f to)).length c4) (putL (withoutL fs nm) (movF f to))
            rw [unhide hn5h]
            exact unhide hof
  · have hpf := hide (findL_none hat)
    clear hat
    have xRr := unhide xR3
    have cR := xRr.cell
    have zR := xRr.frozen
    have lR := xRr.lt
    have xRe := hide ((xRr.set (.slice none 0 0)).alloc (.cells #[.string nm, .string ⟨#[]⟩, .int .i64 0] 36) |>.alloc (.cells #[.slice none 0 0] 26))
    have hbe := hide (bTrA (bTrA ((unhide hbw3).setCell (p := ⟨w.heap.size + 1 + 1, 0, none⟩) (by show w.heap.size ≤ w.heap.size + 1 + 1; omega) (.slice none 0 0)) (.cells #[.string nm, .string ⟨#[]⟩, .int .i64 0] 36)) (.cells #[.slice none 0 0] 26))
    clear xRr
    go_wp2_with (fail)
    replace xRe := unhide xRe
    replace hbe := unhide hbe
    generalize ((w3.setCell ⟨w.heap.size + 1 + 1, 0, none⟩ (.slice none 0 0)).alloc (.cells #[.string nm, .string ⟨#[]⟩, .int .i64 0] 36)).alloc (.cells #[.slice none 0 0] 26) = We at *
    have cRe := xRe.cell
    refine bodyPost_ret (v := .tuple #[.agg #[.slice none 0 0], .bool false]) (by simp [results, Try.results38, go_sem, cRe]) rfl ?_
    rw [show moveR fs nm to = none from by unfold moveR; rw [unhide hpf]; rfl]
    exact ⟨⟨none, 0, rfl, OwnF.nil _ _ _⟩, hbe⟩
end Go.Proofs.Ytkaaabpodhgbpaa

namespace Go.Proofs.Ytkaaabpodhgbpaa
open Go.RowKit

set_option maxRecDepth 20000 in
set_option maxHeartbeats 8000000 in
theorem specDoAct_other (fs : List Fl) (kd : Int) (nm tx to : ByteArray) (v : Value) (w : World) (hr : RdF w v fs) (hB : Bd fs) (hn : fs.length ≤ 1000000) (hok : okL fs = true) (hz : nm.size ≤ 4000000) (hnm : nameB nm = true) (h1 : ¬ kd = 1) (h2 : ¬ kd = 2) (h3 : ¬ kd = 3) (h4 : ¬ kd = 4) (htx : emB tx = true) (hto : emB to = true) :
    Calls Try.prog 38 #[.agg #[v], acv ⟨kd, nm, tx, to⟩] w fun e w' => DkEnd 36 [] false w e w' := by
  obtain ⟨a0, c0, rfl⟩ := hr.shape
  have HR := hide hr
  have C : Hid (∀ W v, RdF W v fs → Calls Try.prog 56 #[.agg #[v]] W fun e w' => e = .returned (.bool true) ∧ Below W.heap.size W w') := fun W v h => by rw [← hok]; exact specDiskOk_any fs v W h hB (by omega)
  unfold acv
  have HN := hide hnm
  have HOK := hide hok
  have HB := hide hB
  have hqtx := emB_yes htx
  have hqto := emB_yes hto
  clear hr hok hB hnm htx hto
  go_enter Try.func38, Try.ntmps38
  go_wp2_with (fail)
  obtain ⟨W, hW, xD, xA, xR, hsz, hbW⟩ := three_act w ⟨kd, nm, tx, to⟩ 26 45 (.slice a0 fs.length c0)
  rw [hW]
  clear hW
  refine ((unhide C) W _ (by exact (unhide HR).below hbW)).mono ?_
  rintro e w1 ⟨rfl, hb1⟩
  have xD1 := xD.below hb1 (by omega)
  have xR1 := hide (xR.below hb1 (by omega))
  have xA1 := xA.below hb1 (by omega)
  obtain ⟨k1, k2, k3, k4⟩ := xA1.at
  have hla := xA1.lt
  have cd := xD1.cell
  have hld := xD1.lt
  have hbw1 := hide (bTr hbW hb1)
  have HR1 := hide ((unhide HR).below (bTr hbW hb1))
  replace xA1 := hide xA1
  replace xD1 := hide xD1
  clear hb1 xD xA xR hbW
  go_wp2_with (go_at_call 57; refine (l03Name_at nm _ (unhide HN) _ hz).mono ?_; rintro e w2 ⟨rfl, hw2⟩; subst hw2)
  refine (l03At_any fs nm _ w2 (unhide HR1) (by omega)).mono ?_
  rintro e w3 ⟨hat, hb3⟩
  have HR3 := hide ((unhide HR1).below hb3)
  have xA3 := (unhide xA1).below hb3 hla
  obtain ⟨m1, m2, m3, m4⟩ := xA3.at
  have hla3 := xA3.lt
  have xD3 := (unhide xD1).below hb3 hld
  have cd3 := xD3.cell
  have hld3 := xD3.lt
  have xR3 := hide ((unhide xR1).below hb3 (unhide xR1).lt)
  have hbw3 := hide (bTr (unhide hbw1) hb3)
  clear hb3 k1 k2 k3 k4 cd
  rcases hat with ⟨k, f, rfl, hat⟩ | ⟨rfl, hat⟩
  · obtain ⟨a1, c1, he, hc⟩ := (unhide HR3).open
    obtain ⟨g, o, hea, hg, hat3⟩ := hc k f hat.1
    have he2 : a0 = a1 := by injection he
    subst he2
    subst hea
    obtain ⟨d1, d2, d3⟩ := hat3
    have hkl : k < fs.length := (List.getElem?_eq_some_iff.1 hat.1).1
    have hki : (k : Int) < (fs.length : Int) := by omega
    have hk0 : (0 : Int) ≤ (k : Int) := by omega
    clear he hc hat
    have xRr := unhide xR3
    have cR := xRr.cell
    have zR := xRr.frozen
    have lR := xRr.lt
    have xRe := hide ((xRr.set (.slice none 0 0)).alloc (.cells #[.string f.nm, .string f.tx, .int .i64 f.kp] 36) |>.alloc (.cells #[.slice none 0 0] 26))
    have hbe := hide (bTrA (bTrA ((unhide hbw3).setCell (p := ⟨w.heap.size + 1 + 1, 0, none⟩) (by show w.heap.size ≤ w.heap.size + 1 + 1; omega) (.slice none 0 0)) (.cells #[.string f.nm, .string f.tx, .int .i64 f.kp] 36)) (.cells #[.slice none 0 0] 26))
    clear xRr
    go_wp2_with (fail)
    replace xRe := unhide xRe
    replace hbe := unhide hbe
    generalize ((w3.setCell ⟨w.heap.size + 1 + 1, 0, none⟩ (.slice none 0 0)).alloc (.cells #[.string f.nm, .string f.tx, .int .i64 f.kp] 36)).alloc (.cells #[.slice none 0 0] 26) = We at *
    have cRe := xRe.cell
    refine bodyPost_ret (v := .tuple #[.agg #[.slice none 0 0], .bool false]) (by simp [results, Try.results38, go_sem, cRe]) rfl ?_
    exact ⟨⟨none, 0, rfl, OwnF.nil _ _ _⟩, hbe⟩
  · clear hat
    have xRr := unhide xR3
    have cR := xRr.cell
    have zR := xRr.frozen
    have lR := xRr.lt
    have xRe := hide ((xRr.set (.slice none 0 0)).alloc (.cells #[.string nm, .string ⟨#[]⟩, .int .i64 0] 36) |>.alloc (.cells #[.slice none 0 0] 26))
    have hbe := hide (bTrA (bTrA ((unhide hbw3).setCell (p := ⟨w.heap.size + 1 + 1, 0, none⟩) (by show w.heap.size ≤ w.heap.size + 1 + 1; omega) (.slice none 0 0)) (.cells #[.string nm, .string ⟨#[]⟩, .int .i64 0] 36)) (.cells #[.slice none 0 0] 26))
    clear xRr
    go_wp2_with (fail)
    replace xRe := unhide xRe
    replace hbe := unhide hbe
    generalize ((w3.setCell ⟨w.heap.size + 1 + 1, 0, none⟩ (.slice none 0 0)).alloc (.cells #[.string nm, .string ⟨#[]⟩, .int .i64 0] 36)).alloc (.cells #[.slice none 0 0] 26) = We at *
    have cRe := xRe.cell
    refine bodyPost_ret (v := .tuple #[.agg #[.slice none 0 0], .bool false]) (by simp [results, Try.results38, go_sem, cRe]) rfl ?_
    exact ⟨⟨none, 0, rfl, OwnF.nil _ _ _⟩, hbe⟩
theorem actR_name {fs : List Fl} {a : Ac} (hok : okL fs = true) (h : nameB a.nm = false) : actR fs a = none := by
  have hf : findL fs a.nm = none := by
    cases e : findL fs a.nm with
    | none => rfl
    | some f =>
      obtain ⟨h1, h2⟩ := findL_mem e
      have := fileB_name ((okL_iff.1 hok).2.1 f h1)
      rw [h2, h] at this
      cases this
  have e1 : addR fs a.nm a.tx = none := by unfold addR; rw [h]; rfl
  have e2 : keepR fs a.nm = none := by unfold keepR; rw [hf]; rfl
  have e3 : moveR fs a.nm a.to = none := by unfold moveR; rw [hf]; rfl
  have e4 : dropR fs a.nm = none := by unfold dropR; rw [hf]; rfl
  unfold actR gateR
  rw [e1, e2, e3, e4]
  simp only [ite_self]
theorem specDoAct_any (fs : List Fl) (a : Ac) (v : Value) (w : World) (hr : RdF w v fs) (hB : Bd fs) (hn2 : fs.length ≤ 2000000) (hz : a.nm.size ≤ 4000000) (hzx : a.tx.size ≤ 3000000) (hzt : a.to.size ≤ 4000000) :
    Calls Try.prog 38 #[.agg #[v], acv a] w fun e w' => DkEnd 36 ((actL fs a).getD []) (actL fs a).isSome w e w' := by
  cases hok : okL fs with
  | false =>
    rw [show actL fs a = none from by unfold actL; rw [hok]; rfl]
    exact specDoAct_not fs a v w hr hB hn2 hok
  | true =>
    have hn : fs.length ≤ 1000000 := by have := (okL_iff.1 hok).1; omega
    rw [show actL fs a = actR fs a from by unfold actL; rw [hok]; rfl]
    cases hnm : nameB a.nm with
    | false =>
      rw [actR_name hok hnm]
      exact specDoAct_name fs a v w hr hB hn2 hok hz hnm
    | true =>
      obtain ⟨kd, nm, tx, to⟩ := a
      by_cases h1 : kd = 1
      · subst h1
        rw [show actR fs ⟨1, nm, tx, to⟩ = gateR (emB to) (addR fs nm tx) from by unfold actR; rw [if_pos rfl]]
        cases hto : emB to with
        | false => exact specDoAct_to fs ⟨1, nm, tx, to⟩ v w hr hB hn2 hok hz hnm (by dsimp only; decide) hto
        | true => exact specDoAct_add fs nm tx to v w hr hB hn hok hz hzx hnm hto
      by_cases h3 : kd = 3
      · subst h3
        rw [show actR fs ⟨3, nm, tx, to⟩ = gateR (emB tx) (moveR fs nm to) from by unfold actR; rw [if_neg (by dsimp only; decide), if_neg (by dsimp only; decide), if_pos rfl]]
        cases htx : emB tx with
        | false => exact specDoAct_tx fs ⟨3, nm, tx, to⟩ v w hr hB hn2 hok hz hnm (.inl rfl) (by dsimp only; decide) htx
        | true => exact specDoAct_move fs nm tx to v w hr hB hn hok hz hnm hzt htx
      cases hto : emB to with
      | false =>
        rw [show actR fs ⟨kd, nm, tx, to⟩ = none from by
          unfold actR gateR
          rw [if_neg (show ¬ (Ac.mk kd nm tx to).kd = 1 from h1), if_neg (show ¬ (Ac.mk kd nm tx to).kd = 3 from h3)]
          simp only [hto, Bool.and_false, Bool.false_eq_true, if_false, ite_self]]
        exact specDoAct_to fs ⟨kd, nm, tx, to⟩ v w hr hB hn2 hok hz hnm h3 hto
      | true =>
        cases htx : emB tx with
        | false =>
          rw [show actR fs ⟨kd, nm, tx, to⟩ = none from by
            unfold actR gateR
            rw [if_neg (show ¬ (Ac.mk kd nm tx to).kd = 1 from h1), if_neg (show ¬ (Ac.mk kd nm tx to).kd = 3 from h3)]
            simp only [htx, Bool.false_and, Bool.false_eq_true, if_false, ite_self]]
          exact specDoAct_tx fs ⟨kd, nm, tx, to⟩ v w hr hB hn2 hok hz hnm (.inr hto) h1 htx
        | true =>
          by_cases h2 : kd = 2
          · subst h2
            rw [show actR fs ⟨2, nm, tx, to⟩ = keepR fs nm from by unfold actR gateR; rw [if_neg (by dsimp only; decide), if_pos rfl]; simp only [htx, hto, Bool.and_self, if_true]]
            exact specDoAct_keep fs nm tx to v w hr hB hn hok hz hnm htx hto
          by_cases h4 : kd = 4
          · subst h4
            rw [show actR fs ⟨4, nm, tx, to⟩ = dropR fs nm from by unfold actR gateR; rw [if_neg (by dsimp only; decide), if_neg (by dsimp only; decide), if_neg (by dsimp only; decide), if_pos rfl]; simp only [htx, hto, Bool.and_self, if_true]]
            exact specDoAct_drop fs nm tx to v w hr hB hn hok hz hnm htx hto
          rw [show actR fs ⟨kd, nm, tx, to⟩ = none from by
            unfold actR
            rw [if_neg (show ¬ (Ac.mk kd nm tx to).kd = 1 from h1), if_neg (show ¬ (Ac.mk kd nm tx to).kd = 2 from h2), if_neg (show ¬ (Ac.mk kd nm tx to).kd = 3 from h3), if_neg (show ¬ (Ac.mk kd nm tx to).kd = 4 from h4)]]
          exact specDoAct_other fs kd nm tx to v w hr hB hn hok hz hnm h1 h2 h3 h4 htx hto
end Go.Proofs.Ytkaaabpodhgbpaa
