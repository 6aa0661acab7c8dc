/- spec.DoAct: what is not there; kept; dropped. -/
import Derived.Test.YtfglljollonnfalActT
namespace Go.Proofs.Ytfglljollonnfal
open Go.RowKit

set_option maxRecDepth 20000 in
set_option maxHeartbeats 8000000 in
theorem specDoAct_keep (fs : List Fl) (nm tx to : ByteArray) (v : Value) (w : World) (hr : RdF w v fs) (hB : Bd fs) (hn : fs.length ≤ 1000000) (hok : okL fs = true) (hz : nm.size ≤ 4000000) (hnm : nameB nm = true) (htx : emB tx = true) (hto : emB to = true) :
    Calls Try.prog 10 #[.agg #[v], acv ⟨2, nm, tx, to⟩] w fun e w' => DkEnd 63 ((keepR fs nm).getD []) (keepR fs nm).isSome w e w' := by
  obtain ⟨a0, c0, rfl⟩ := hr.shape
  have HR := hide hr
  have C : Hid (∀ W v, RdF W v fs → Calls Try.prog 33 #[.agg #[v]] W fun e w' => e = .returned (.bool true) ∧ Below W.heap.size W w') := fun W v h => by rw [← hok]; exact specDiskOk_any fs v W h hB (by omega)
  unfold acv
  have HN := hide hnm
  have HOK := hide hok
  have HB := hide hB
  have hqtx := emB_yes htx
  have hqto := emB_yes hto
  clear hr hok hB hnm htx hto
  go_enter Try.func10, Try.ntmps10
  go_wp2_with (fail)
  obtain ⟨W, hW, xD, xA, xR, hsz, hbW⟩ := three_act w ⟨2, nm, tx, to⟩ 31 35 (.slice a0 fs.length c0)
  rw [hW]
  clear hW
  refine ((unhide C) W _ (by exact (unhide HR).below hbW)).mono ?_
  rintro e w1 ⟨rfl, hb1⟩
  have xD1 := xD.below hb1 (by omega)
  have xR1 := hide (xR.below hb1 (by omega))
  have xA1 := xA.below hb1 (by omega)
  obtain ⟨k1, k2, k3, k4⟩ := xA1.at
  have hla := xA1.lt
  have cd := xD1.cell
  have hld := xD1.lt
  have hbw1 := hide (bTr hbW hb1)
  have HR1 := hide ((unhide HR).below (bTr hbW hb1))
  replace xA1 := hide xA1
  replace xD1 := hide xD1
  clear hb1 xD xA xR hbW
  go_wp2_with (go_at_call 34; refine (l03Name_at nm _ (unhide HN) _ hz).mono ?_; rintro e w2 ⟨rfl, hw2⟩; subst hw2)
  refine (l03At_any fs nm _ w2 (unhide HR1) (by omega)).mono ?_
  rintro e w3 ⟨hat, hb3⟩
  have HR3 := hide ((unhide HR1).below hb3)
  have xA3 := (unhide xA1).below hb3 hla
  obtain ⟨m1, m2, m3, m4⟩ := xA3.at
  have hla3 := xA3.lt
  have xD3 := (unhide xD1).below hb3 hld
  have cd3 := xD3.cell
  have hld3 := xD3.lt
  have xR3 := hide ((unhide xR1).below hb3 (unhide xR1).lt)
  have hbw3 := hide (bTr (unhide hbw1) hb3)
  clear hb3 k1 k2 k3 k4 cd
  rcases hat with ⟨k, f, rfl, hat⟩ | ⟨rfl, hat⟩
  · obtain ⟨a1, c1, he, hc⟩ := (unhide HR3).open
    obtain ⟨g, o, hea, hg, hat3⟩ := hc k f hat.1
    have he2 : a0 = a1 := by injection he
    subst he2
    subst hea
    obtain ⟨d1, d2, d3⟩ := hat3
    have hkl : k < fs.length := (List.getElem?_eq_some_iff.1 hat.1).1
    have hki : (k : Int) < (fs.length : Int) := by omega
    have hk0 : (0 : Int) ≤ (k : Int) := by omega
    have hfm := findL_mem (findL_some hat)
    have hfB := (unhide HB) f hfm.1
    have HBP := hide (bd_put (f := keptF f) (unhide HB) hfB.1 hfB.2)
    have HLP := hide (show (putL fs (keptF f)).length ≤ 2000000 from Nat.le_trans (putL_len' _ _) (by omega))
    have HRES := hide (show keepR fs nm = some (putL fs (keptF f)) from by unfold keepR; rw [findL_some hat]; rfl)
    have HOO := hide (keepR_ok (unhide HOK) (unhide HRES))
    replace hfm := hide hfm
    clear he hc hat
    go_wp2_with (fail)
    obtain ⟨U, hU, hxo, hbU, hUs⟩ := two_out w3 (keptF f) 63 31
    dsimp only [keptF] at hU
    rw [hU]
    clear hU
    refine (l03Put_any fs (keptF f) _ U (by exact (unhide HR3).below hbU) hn).mono ?_
    rintro e w4 ⟨⟨a4, c4, rfl, ho4⟩, hb4⟩
    have hxo4 := hxo.below hb4 (by omega)
    have co4 := hxo4.cell
    have zo4 := hxo4.frozen
    have lo4 := hxo4.lt
    have xR4 := hide ((unhide xR3).below (bTr hbU hb4) (unhide xR3).lt)
    have hs34 : U.heap.size ≤ w4.heap.size := hb4.size
    have hlr := (unhide xR3).lt
    have hbw4 := hide (bTr (unhide hbw3) (bTr hbU hb4))
    have ho4s := hide (ho4.other (a := ⟨w3.heap.size + 1, 0, none⟩) (by show w3.heap.size + 1 < U.heap.size; omega) (.slice a4 (putL fs (keptF f)).length c4))
    have hok2 := unhide HOO
    have C2 : Hid (∀ W v, RdF W v (putL fs (keptF f)) → Calls Try.prog 33 #[.agg #[v]] W fun e w' => e = .returned (.bool true) ∧ Below W.heap.size W w') := fun W v h => by rw [← hok2]; exact specDiskOk_any _ v W h (unhide HBP) (unhide HLP)
    have HO2 := hide hok2
    clear hok2 ho4 hb4
    go_wp2_with (fail)
    have xO5 := hxo4.set (.slice a4 (putL fs (keptF f)).length c4)
    have xR5 : Box (w4.setCell ⟨w3.heap.size + 1, 0, none⟩ (.slice a4 (putL fs (keptF f)).length c4)) (w.heap.size + 1 + 1) 31 (.slice none 0 0) := ((gS w4 (w3.heap.size + 1) 0 _).block _ (by omega) (by simp; omega)).trans (unhide xR4)
    have hb5 := (unhide hbw4).setCell (p := ⟨w3.heap.size + 1, 0, none⟩) (by show w.heap.size ≤ w3.heap.size + 1; omega) (.slice a4 (putL fs (keptF f)).length c4)
    have ho5 := unhide ho4s
    have hs5 : (w4.setCell ⟨w3.heap.size + 1, 0, none⟩ (.slice a4 (putL fs (keptF f)).length c4)).heap.size = w4.heap.size := by simp
    clear ho4s hxo4 co4 zo4 xR4 hbw4
    generalize w4.setCell ⟨w3.heap.size + 1, 0, none⟩ (.slice a4 (putL fs (keptF f)).length c4) = W5 at *
    obtain ⟨n5, hn5⟩ : ∃ n, (putL fs (keptF f)).length = n := ⟨_, rfl⟩
    rw [hn5] at ho5 xO5 ⊢
    refine ((unhide C2) W5 _ ho5.rd).mono ?_
    rintro e w6 ⟨rfl, hb6⟩
    have xO6 := xO5.below hb6 (by omega)
    have xR6 := xR5.below hb6 (by omega)
    have ho6 := ho5.below hb6
    have cO6 := xO6.cell
    have lO6 := xO6.lt
    have cR6 := xR6.cell
    have zR6 := xR6.frozen
    have lR6 := xR6.lt
    have hbf : ∀ u, Hid (Below w.heap.size w (w6.setCell ⟨w.heap.size + 1 + 1, 0, none⟩ u)) := fun u => hide ((bTr hb5 hb6).setCell (p := ⟨w.heap.size + 1 + 1, 0, none⟩) (by show w.heap.size ≤ w.heap.size + 1 + 1; omega) u)
    have hof := hide ((ho6.other (a := ⟨w.heap.size + 1 + 1, 0, none⟩) (by show w.heap.size + 1 + 1 < U.heap.size; omega) (.slice a4 n5 c4)).low (base' := w.heap.size) (by omega))
    have hn5h := hide hn5
    replace hbf := hide hbf
    clear hb6 hb5 ho6 ho5 xO5 xR5 xO6 xR6 hn5
    go_wp2
    refine bodyPost_ret (v := .tuple #[.agg #[.slice a4 n5 c4], .bool true]) (by simp [results, Try.results10, go_sem, cR6]) rfl ?_
    rw [unhide HRES]
    refine ⟨⟨a4, c4, ?_, ?_⟩, unhide ((unhide hbf) _)⟩
    · show _ = Ending.returned (.tuple #[.agg #[.slice a4 (putL fs (keptF f)).length c4], .bool true])
      rw [unhide hn5h]
    · show OwnF _ _ _ (.slice a4 (putL fs (keptF f)).length c4) (putL fs (keptF f))
      rw [unhide hn5h]
      exact unhide hof
  · have hpf := hide (findL_none hat)
    clear hat
    have xRr := unhide xR3
    have cR := xRr.cell
    have zR := xRr.frozen
    have lR := xRr.lt
    have xRe := hide ((xRr.set (.slice none 0 0)).alloc (.cells #[.string nm, .string ⟨#[]⟩, .int .i64 0] 63) |>.alloc (.cells #[.slice none 0 0] 31))
    have hbe := hide (bTrA (bTrA ((unhide hbw3).setCell (p := ⟨w.heap.size + 1 + 1, 0, none⟩) (by show w.heap.size ≤ w.heap.size + 1 + 1; omega) (.slice none 0 0)) (.cells #[.string nm, .string ⟨#[]⟩, .int .i64 0] 63)) (.cells #[.slice none 0 0] 31))
    clear xRr
    go_wp2_with (fail)
    replace xRe := unhide xRe
    replace hbe := unhide hbe
    generalize ((w3.setCell ⟨w.heap.size + 1 + 1, 0, none⟩ (.slice none 0 0)).alloc (.cells #[.string nm, .string ⟨#[]⟩, .int .i64 0] 63)).alloc (.cells #[.slice none 0 0] 31) = We at *
    have cRe := xRe.cell
    refine bodyPost_ret (v := .tuple #[.agg #[.slice none 0 0], .bool false]) (by simp [results, Try.results10, go_sem, cRe]) rfl ?_
    rw [show keepR fs nm = none from by unfold keepR; rw [unhide hpf]; rfl]
    exact ⟨⟨none, 0, rfl, OwnF.nil _ _ _⟩, hbe⟩
end Go.Proofs.Ytfglljollonnfal
