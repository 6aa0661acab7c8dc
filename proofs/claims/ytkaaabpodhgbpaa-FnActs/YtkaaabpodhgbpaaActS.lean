/- spec.DoAct: what it comes to. -/
import Derived.Test.YtkaaabpodhgbpaaActI
namespace Go.Proofs.Ytkaaabpodhgbpaa
open Go.RowKit

set_option maxRecDepth 20000 in
set_option maxHeartbeats 4000000 in
theorem specDoAct_not (fs : List Fl) (a : Ac) (v : Value) (w : World) (hr : RdF w v fs) (hB : Bd fs) (hn : fs.length ≤ 2000000) (hok : okL fs = false) :
    Calls Try.prog 38 #[.agg #[v], acv a] w fun e w' => DkEnd 36 [] false w e w' := by
  obtain ⟨a0, c0, rfl⟩ := hr.shape
  have HR := hide hr
  have C : Hid (∀ W v, RdF W v fs → Calls Try.prog 56 #[.agg #[v]] W fun e w' => e = .returned (.bool false) ∧ Below W.heap.size W w') := fun W v h => by rw [← hok]; exact specDiskOk_any fs v W h hB hn
  unfold acv
  clear hr hok hB
  go_enter Try.func38, Try.ntmps38
  go_wp2_with (fail)
  obtain ⟨W, hW, xD, xA, xR, hsz, hbW⟩ := three_act w a 26 45 (.slice a0 fs.length c0)
  rw [hW]
  clear hW
  refine ((unhide C) W _ (by exact (unhide HR).below hbW)).mono ?_
  rintro e w1 ⟨rfl, hb1⟩
  have xR1 := xR.below hb1 (by omega)
  have xA1 := xA.below hb1 (by omega)
  obtain ⟨k1, k2, k3, k4⟩ := xA1.at
  have hla := xA1.lt
  have cr := xR1.cell
  have cz := xR1.frozen
  have hl1 := xR1.lt
  have hbf := hide ((bTr hbW hb1).setCell (p := ⟨w.heap.size + 1 + 1, 0, none⟩) (by show w.heap.size ≤ w.heap.size + 1 + 1; omega) (.slice none 0 0))
  clear hb1 xD xA xR xR1 xA1 hbW
  go_wp2
  refine bodyPost_ret (v := .tuple #[.agg #[.slice none 0 0], .bool false]) (by simp [results, Try.results38, go_sem, cr]) rfl ?_
  exact ⟨⟨none, 0, rfl, OwnF.nil _ _ _⟩, unhide hbf⟩
set_option maxRecDepth 20000 in
set_option maxHeartbeats 4000000 in
theorem specDoAct_name (fs : List Fl) (a : Ac) (v : Value) (w : World) (hr : RdF w v fs) (hB : Bd fs) (hn : fs.length ≤ 2000000) (hok : okL fs = true) (hz : a.nm.size ≤ 4000000) (hnm : nameB a.nm = false) :
    Calls Try.prog 38 #[.agg #[v], acv a] w fun e w' => DkEnd 36 [] false w e w' := by
  obtain ⟨a0, c0, rfl⟩ := hr.shape
  have HR := hide hr
  have C : Hid (∀ W v, RdF W v fs → Calls Try.prog 56 #[.agg #[v]] W fun e w' => e = .returned (.bool true) ∧ Below W.heap.size W w') := fun W v h => by rw [← hok]; exact specDiskOk_any fs v W h hB hn
  unfold acv
  have HN := hide hnm
  clear hr hok hB hnm
  go_enter Try.func38, Try.ntmps38
  go_wp2_with (fail)
  obtain ⟨W, hW, xD, xA, xR, hsz, hbW⟩ := three_act w a 26 45 (.slice a0 fs.length c0)
  rw [hW]
  clear hW
  refine ((unhide C) W _ (by exact (unhide HR).below hbW)).mono ?_
  rintro e w1 ⟨rfl, hb1⟩
  have xR1 := xR.below hb1 (by omega)
  have xA1 := xA.below hb1 (by omega)
  obtain ⟨k1, k2, k3, k4⟩ := xA1.at
  have hla := xA1.lt
  have cr := xR1.cell
  have cz := xR1.frozen
  have hl1 := xR1.lt
  have hbf := hide ((bTr hbW hb1).setCell (p := ⟨w.heap.size + 1 + 1, 0, none⟩) (by show w.heap.size ≤ w.heap.size + 1 + 1; omega) (.slice none 0 0))
  clear hb1 xD xA xR xR1 xA1 hbW
  go_wp2_with (go_at_call 57; refine (l03Name_at a.nm _ (unhide HN) _ hz).mono ?_; rintro e w2 ⟨rfl, hw2⟩; subst hw2)
  refine bodyPost_ret (v := .tuple #[.agg #[.slice none 0 0], .bool false]) (by simp [results, Try.results38, go_sem, cr]) rfl ?_
  exact ⟨⟨none, 0, rfl, OwnF.nil _ _ _⟩, unhide hbf⟩
set_option maxRecDepth 20000 in
set_option maxHeartbeats 4000000 in
theorem specDoAct_to (fs : List Fl) (a : Ac) (v : Value) (w : World) (hr : RdF w v fs) (hB : Bd fs) (hn : fs.length ≤ 2000000) (hok : okL fs = true) (hz : a.nm.size ≤ 4000000) (hnm : nameB a.nm = true) (hk : ¬ a.kd = 3) (hto : emB a.to = false) :
    Calls Try.prog 38 #[.agg #[v], acv a] w fun e w' => DkEnd 36 [] false w e w' := by
  obtain ⟨a0, c0, rfl⟩ := hr.shape
  have HR := hide hr
  have C : Hid (∀ W v, RdF W v fs → Calls Try.prog 56 #[.agg #[v]] W fun e w' => e = .returned (.bool true) ∧ Below W.heap.size W w') := fun W v h => by rw [← hok]; exact specDiskOk_any fs v W h hB hn
  unfold acv
  have HN := hide hnm
  have hq := emB_no hto
  have hq2 := emB_nob hto
  clear hr hok hB hnm hto
  go_enter Try.func38, Try.ntmps38
  go_wp2_with (fail)
  obtain ⟨W, hW, xD, xA, xR, hsz, hbW⟩ := three_act w a 26 45 (.slice a0 fs.length c0)
  rw [hW]
  clear hW
  refine ((unhide C) W _ (by exact (unhide HR).below hbW)).mono ?_
  rintro e w1 ⟨rfl, hb1⟩
  have xR1 := xR.below hb1 (by omega)
  have xA1 := xA.below hb1 (by omega)
  obtain ⟨k1, k2, k3, k4⟩ := xA1.at
  have hla := xA1.lt
  have cr := xR1.cell
  have cz := xR1.frozen
  have hl1 := xR1.lt
  have hbf := hide ((bTr hbW hb1).setCell (p := ⟨w.heap.size + 1 + 1, 0, none⟩) (by show w.heap.size ≤ w.heap.size + 1 + 1; omega) (.slice none 0 0))
  clear hb1 xD xA xR xR1 xA1 hbW
  go_wp2_with (go_at_call 57; refine (l03Name_at a.nm _ (unhide HN) _ hz).mono ?_; rintro e w2 ⟨rfl, hw2⟩; subst hw2)
  refine bodyPost_ret (v := .tuple #[.agg #[.slice none 0 0], .bool false]) (by simp [results, Try.results38, go_sem, cr]) rfl ?_
  exact ⟨⟨none, 0, rfl, OwnF.nil _ _ _⟩, unhide hbf⟩
set_option maxRecDepth 20000 in
set_option maxHeartbeats 4000000 in
theorem specDoAct_tx (fs : List Fl) (a : Ac) (v : Value) (w : World) (hr : RdF w v fs) (hB : Bd fs) (hn : fs.length ≤ 2000000) (hok : okL fs = true) (hz : a.nm.size ≤ 4000000) (hnm : nameB a.nm = true) (hkt : a.kd = 3 ∨ emB a.to = true) (hk : ¬ a.kd = 1) (htx : emB a.tx = false) :
    Calls Try.prog 38 #[.agg #[v], acv a] w fun e w' => DkEnd 36 [] false w e w' := by
  obtain ⟨a0, c0, rfl⟩ := hr.shape
  have HR := hide hr
  have C : Hid (∀ W v, RdF W v fs → Calls Try.prog 56 #[.agg #[v]] W fun e w' => e = .returned (.bool true) ∧ Below W.heap.size W w') := fun W v h => by rw [← hok]; exact specDiskOk_any fs v W h hB hn
  unfold acv
  have HN := hide hnm
  have hq := emB_no htx
  have hq2 := emB_nob htx
  clear hr hok hB hnm htx
  go_enter Try.func38, Try.ntmps38
  go_wp2_with (fail)
  obtain ⟨W, hW, xD, xA, xR, hsz, hbW⟩ := three_act w a 26 45 (.slice a0 fs.length c0)
  rw [hW]
  clear hW
  refine ((unhide C) W _ (by exact (unhide HR).below hbW)).mono ?_
  rintro e w1 ⟨rfl, hb1⟩
  have xR1 := xR.below hb1 (by omega)
  have xA1 := xA.below hb1 (by omega)
  obtain ⟨k1, k2, k3, k4⟩ := xA1.at
  have hla := xA1.lt
  have cr := xR1.cell
  have cz := xR1.frozen
  have hl1 := xR1.lt
  have hbf := hide ((bTr hbW hb1).setCell (p := ⟨w.heap.size + 1 + 1, 0, none⟩) (by show w.heap.size ≤ w.heap.size + 1 + 1; omega) (.slice none 0 0))
  clear hb1 xD xA xR xR1 xA1 hbW
  obtain hkt | hkt := hkt
  · go_wp2_with (go_at_call 57; refine (l03Name_at a.nm _ (unhide HN) _ hz).mono ?_; rintro e w2 ⟨rfl, hw2⟩; subst hw2)
    refine bodyPost_ret (v := .tuple #[.agg #[.slice none 0 0], .bool false]) (by simp [results, Try.results38, go_sem, cr]) rfl ?_
    exact ⟨⟨none, 0, rfl, OwnF.nil _ _ _⟩, unhide hbf⟩
  have hq3 := emB_yes hkt
  clear hkt
  by_cases hk3 : a.kd = 3
  · go_wp2_with (go_at_call 57; refine (l03Name_at a.nm _ (unhide HN) _ hz).mono ?_; rintro e w2 ⟨rfl, hw2⟩; subst hw2)
    refine bodyPost_ret (v := .tuple #[.agg #[.slice none 0 0], .bool false]) (by simp [results, Try.results38, go_sem, cr]) rfl ?_
    exact ⟨⟨none, 0, rfl, OwnF.nil _ _ _⟩, unhide hbf⟩
  go_wp2_with (go_at_call 57; refine (l03Name_at a.nm _ (unhide HN) _ hz).mono ?_; rintro e w2 ⟨rfl, hw2⟩; subst hw2)
  refine bodyPost_ret (v := .tuple #[.agg #[.slice none 0 0], .bool false]) (by simp [results, Try.results38, go_sem, cr]) rfl ?_
  exact ⟨⟨none, 0, rfl, OwnF.nil _ _ _⟩, unhide hbf⟩
end Go.Proofs.Ytkaaabpodhgbpaa
