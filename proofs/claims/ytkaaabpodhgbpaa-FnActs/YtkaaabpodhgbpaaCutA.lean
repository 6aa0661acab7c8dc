/- Acts of which the power leaves so many: what impl.CutActs and spec.CutActs come to. -/
import Derived.Test.YtkaaabpodhgbpaaActsS
import Derived.Test.YtkaaabpodhgbpaaLoseS
namespace Go.Proofs.Ytkaaabpodhgbpaa
open Go.RowKit

def cutR (fs : List Fl) (as' : List Ac) (z : Int) (is : List Int) : List Fl × Bool :=
  if 0 ≤ z ∧ z ≤ (as'.length : Int) then
    if (runL fs (as'.take z.toNat)).2 < z.toNat then ([], false)
    else (loseRes (runL fs (as'.take z.toNat)).1 is, okL (runL fs (as'.take z.toNat)).1)
  else ([], false)
theorem cutR_out {fs : List Fl} {as' : List Ac} {z : Int} {is : List Int} (h : z < 0 ∨ (as'.length : Int) < z) : cutR fs as' z is = ([], false) := by
  unfold cutR; rw [if_neg (by omega)]
theorem cutR_short {fs : List Fl} {as' : List Ac} {m : Nat} {is : List Int} (h : m ≤ as'.length) (hs : (runL fs (as'.take m)).2 < m) : cutR fs as' (m : Int) is = ([], false) := by
  unfold cutR
  rw [if_pos (by omega), Int.toNat_natCast, if_pos hs]
theorem cutR_in {fs : List Fl} {as' : List Ac} {m : Nat} {is : List Int} (h : m ≤ as'.length) (hs : ¬ (runL fs (as'.take m)).2 < m) : cutR fs as' (m : Int) is = (loseRes (runL fs (as'.take m)).1 is, okL (runL fs (as'.take m)).1) := by
  unfold cutR
  rw [if_pos (by omega), Int.toNat_natCast, if_neg hs]

theorem run_small {fs : List Fl} (as' : List Ac) (hB : Bd fs) (hn : fs.length ≤ 2000000) : Bd (runL fs as').1 ∧ (runL fs as').1.length ≤ 2000000 := by
  cases hok : okL fs with
  | false => rw [runL_no hok]; exact ⟨hB, hn⟩
  | true =>
    have ho := runL_ok as' fs hok
    exact ⟨okL_bd ho, by have := (okL_iff.1 ho).1; omega⟩
theorem AcsBd.take {as' : List Ac} (h : AcsBd as') (m : Nat) : AcsBd (as'.take m) := fun a ha => h a (List.mem_of_mem_take ha)

set_option maxRecDepth 20000 in
set_option maxHeartbeats 4000000 in
theorem implCut_out (fs : List Fl) (as' : List Ac) (z : Int) (is : List Int) (v va vl : Value) (w : World) (hr : RdF w v fs) (ha : RdA w va as') (hl : RdV w vl (is.map iv)) (hz : z < 0 ∨ (as'.length : Int) < z) :
    Calls Try.prog 19 #[.agg #[v], va, .int .i64 z, vl] w fun e w' => DkEnd 36 [] false w e w' := by
  obtain ⟨a0, c0, rfl⟩ := hr.shape
  obtain ⟨a1, c1, rfl⟩ := ha.shape
  obtain ⟨a2, c2, rfl⟩ := hl.shape
  clear hr ha hl
  by_cases h0 : z < 0
  · clear hz
    go_enter Try.func19, Try.ntmps19
    go_wp2
    refine bodyPost_ret (v := .tuple #[.agg #[.slice none 0 0], .bool false]) (by simp [results, Try.results19, go_sem]) rfl ?_
    exact ⟨⟨none, 0, rfl, OwnF.nil _ _ _⟩, ((Below.refl w.heap.size w).alloc (Nat.le_refl _) _).alloc (by simp) _⟩
  · have h1 : (as'.length : Int) < z := by omega
    clear hz
    go_enter Try.func19, Try.ntmps19
    go_wp2
    refine bodyPost_ret (v := .tuple #[.agg #[.slice none 0 0], .bool false]) (by simp [results, Try.results19, go_sem]) rfl ?_
    exact ⟨⟨none, 0, rfl, OwnF.nil _ _ _⟩, ((Below.refl w.heap.size w).alloc (Nat.le_refl _) _).alloc (by simp) _⟩

set_option maxRecDepth 20000 in
set_option maxHeartbeats 4000000 in
theorem implCut_at (fs : List Fl) (as' : List Ac) (m : Nat) (is : List Int) (v vl : Value) (ad : Addr) (c1 : Nat) (w : World) (hr : RdF w v fs) (ha : RdA w (.slice (some ad) as'.length c1) as') (hcap : as'.length ≤ c1) (hl : RdV w vl (is.map iv)) (hB : Bd fs) (hn : fs.length ≤ 2000000) (hA : AcsBd as') (hna : as'.length ≤ 2000000) (hni : is.length ≤ 2000000) (hm : m ≤ as'.length) :
    Calls Try.prog 19 #[.agg #[v], .slice (some ad) as'.length c1, .int .i64 (m : Int), vl] w fun e w' => DkEnd 36 (cutR fs as' (m : Int) is).1 (cutR fs as' (m : Int) is).2 w e w' := by
  have C : Hid (∀ W v va, RdF W v fs → RdA W va (as'.take m) → Calls Try.prog 15 #[.agg #[v], va] W fun e w' => DnEnd 36 (runL fs (as'.take m)) W e w') := fun W v va h1 h2 => implDoActs_any fs (as'.take m) v va W h1 h2 hB hn (hA.take m) (by rw [List.length_take]; omega)
  obtain ⟨hB2, hn2⟩ := run_small (as'.take m) hB hn
  have CL : Hid (∀ W v vl, RdF W v (runL fs (as'.take m)).1 → RdV W vl (is.map iv) → Calls Try.prog 9 #[.agg #[v], vl] W fun e w' => DkEnd 36 (loseRes (runL fs (as'.take m)).1 is) (okL (runL fs (as'.take m)).1) W e w') := fun W v vl h1 h2 => implLose_any _ is v vl W h1 h2 hB2 hn2 hni
  obtain ⟨a0, c0, rfl⟩ := hr.shape
  obtain ⟨a2, c2, rfl⟩ := hl.shape
  rw [List.length_map] at hl ⊢
  have HT : ∀ W, Below w.heap.size w W → RdA W (.slice (some ad) m c1) (as'.take m) := fun W hb => (ha.below hb).take (some ad) as'.length c1 m c1 rfl hm
  have HTH := hide HT
  have HR := hide hr
  have HV := hide hl
  have hmi : ¬ (m : Int) < 0 := by omega
  have hmj : ¬ (as'.length : Int) < (m : Int) := by omega
  have hm0 : (0 : Int) ≤ (m : Int) := by omega
  have hm1 : (m : Int) ≤ (c1 : Int) := by omega
  clear hr ha hl HT
  go_enter Try.func19, Try.ntmps19
  obtain ⟨rs, hrs⟩ : ∃ rs, (runL fs (as'.take m)).1 = rs := ⟨_, rfl⟩
  obtain ⟨dn, hdn⟩ : ∃ dn, (runL fs (as'.take m)).2 = dn := ⟨_, rfl⟩
  have hdm : dn ≤ m := by rw [← hdn]; have := runL_le (as'.take m) fs; rw [List.length_take] at this; omega
  have HC : Hid (cutR fs as' (m : Int) is = if dn < m then ([], false) else (loseRes rs is, okL rs)) := by
    rw [← hrs, ← hdn]
    by_cases h : (runL fs (as'.take m)).2 < m
    · rw [if_pos h]; exact cutR_short hm h
    · rw [if_neg h]; exact cutR_in hm h
  unfold DnEnd at C
  unfold DkEnd at CL
  rw [hrs, hdn] at C
  rw [hrs] at CL
  clear hrs hdn hB2 hn2
  go_wp2_with (fail)
  obtain ⟨W0, e0, xD, xR, hsz, hbW⟩ := two_alloc w 26 (.slice a0 fs.length c0) (.slice none 0 0)
  rw [e0]
  have hW2 : w.heap.size + 1 < W0.heap.size := by omega
  clear e0 hsz
  have cD := xD.cell
  have lD := xD.lt
  have HRW := hide ((unhide HR).below hbW)
  have HTW := hide ((unhide HTH) W0 hbW)
  have KS : Hid (∀ W, Below W0.heap.size W0 W → W.cell? ⟨w.heap.size, 0, none⟩ = some (.slice a0 fs.length c0)) := fun W hB => (hB.cell (p := ⟨w.heap.size, 0, none⟩) lD).trans cD
  go_region_held3 (fun W => W.cell? ⟨w.heap.size, 0, none⟩ = some (.slice a0 fs.length c0)) (first | exact (unhide KS) _ ((Below.refl _ W0).drew) | exact (unhide KS) _ (((Below.refl _ W0).drew).alloc (Nat.le_refl _) _) | exact (unhide KS) _ B5 | exact (unhide KS) _ (B5.alloc B5.size _) | exact (unhide KS) _ (B5.setCell (p := ⟨W0.heap.size, 0, none⟩) (Nat.le_refl _) _)) (first
    | (go_at_call 15; refine ((unhide C) _ _ _ (by first | exact (unhide HRW).drew | exact ((unhide HRW).drew).alloc _) (by first | exact (unhide HTW).drew | exact ((unhide HTW).drew).alloc _)).mono ?_; rintro e w5 ⟨⟨a5, c5, rfl, ho5⟩, hb5⟩; (have B5 : Below W0.heap.size W0 w5 := by first | exact ((Below.refl _ W0).drew).trans hb5 | exact (((Below.refl _ W0).drew).alloc (Nat.le_refl _) _).trans (hb5.mono (by simp))); (first | (have X : Box w5 W0.heap.size 26 (.slice none 0 0) := ((Box.new W0.drew 26 (.slice none 0 0)).step hb5); have cX := X.cell; have zX := X.frozen; have lX := X.lt) | skip)))
  all_goals
    first
    | (have bz := Box.new w5 26 (.slice a5 rs.length c5); have oz := (ho5.alloc (.cells #[(.slice a5 rs.length c5)] 26)).low (base' := W0.heap.size) (Nat.le_refl _); have hz := B5.alloc B5.size (.cells #[(.slice a5 rs.length c5)] 26); generalize w5.alloc (.cells #[(.slice a5 rs.length c5)] 26) = w6 at bz oz hz ⊢; show Exit.then _ _ Exit.normal _ w6)
    | (have bz : Box (w5.setCell ⟨W0.heap.size, 0, none⟩ (.slice a5 rs.length c5)) W0.heap.size 26 (.slice a5 rs.length c5) := ((Box.new W0.drew 26 (.slice none 0 0)).step hb5).set (.slice a5 rs.length c5); have oz := (ho5.other (a := ⟨W0.heap.size, 0, none⟩) (by exact (Box.new W0.drew 26 (.slice none 0 0)).lt) (.slice a5 rs.length c5)).low (base' := W0.heap.size) (by simp); have hz := B5.setCell (p := ⟨W0.heap.size, 0, none⟩) (Nat.le_refl _) (.slice a5 rs.length c5); generalize w5.setCell ⟨W0.heap.size, 0, none⟩ (.slice a5 rs.length c5) = w6 at bz oz hz ⊢; show Exit.then _ _ Exit.normal _ w6)
    clear KS ho5 B5
    replace hb5 := hide hb5
    have xR6 := xR.below hz (by omega)
    have cR6 := xR6.cell
    have zR6 := xR6.frozen
    have lR6 := xR6.lt
    have cB6 := bz.cell
    have lB6 := bz.lt
    have hbw6 := hide (hbW.trans (hz.mono (by omega)))
    have s6 := hz.size
    have HO := hide oz
    clear oz cD
    replace hz := hide hz
    by_cases hlt : dn < m
    · rw [if_pos hlt] at HC
      have hlt2 : (dn : Int) < (m : Int) := by omega
      have hbf := hide ((unhide hbw6).setCell (p := ⟨w.heap.size + 1, 0, none⟩) (by show w.heap.size ≤ w.heap.size + 1; omega) (.slice none 0 0))
      go_wp2
      refine bodyPost_ret (v := .tuple #[.agg #[.slice none 0 0], .bool false]) (by simp [results, Try.results19, go_sem, cR6]) rfl ?_
      rw [unhide HC]
      exact ⟨⟨none, 0, rfl, OwnF.nil _ _ _⟩, unhide hbf⟩
    · rw [if_neg hlt] at HC
      have hlt2 : ¬ (dn : Int) < (m : Int) := by omega
      have HV6 := hide ((unhide HV).below (unhide hbw6))
      go_wp2_with (fail)
      refine ((unhide CL) _ _ _ (unhide HO).rd (unhide HV6)).mono ?_
      rintro e w7 ⟨⟨a7, c7, rfl, ho7⟩, hb7⟩
      have xR7 := xR6.step hb7
      have cR7 := xR7.cell
      have zR7 := xR7.frozen
      have lR7 := xR7.lt
      have hbf := hide ((bTr (unhide hbw6) hb7).setCell (p := ⟨w.heap.size + 1, 0, none⟩) (by show w.heap.size ≤ w.heap.size + 1; omega) (.slice a7 (loseRes rs is).length c7))
      have hof := hide ((ho7.other (a := ⟨w.heap.size + 1, 0, none⟩) (by show w.heap.size + 1 < _; omega) (.slice a7 (loseRes rs is).length c7)).low (base' := w.heap.size) (by have := (unhide hbw6).size; omega))
      replace hb7 := hide hb7
      replace ho7 := hide ho7
      go_wp2
      refine bodyPost_ret (v := .tuple #[.agg #[.slice a7 (loseRes rs is).length c7], .bool (okL rs)]) (by simp [results, Try.results19, go_sem, cR7]) rfl ?_
      rw [unhide HC]
      exact ⟨⟨a7, c7, rfl, unhide hof⟩, unhide hbf⟩

set_option maxRecDepth 20000 in
set_option maxHeartbeats 4000000 in
theorem implCut_nil (fs : List Fl) (is : List Int) (v vl : Value) (c1 : Nat) (w : World) (hr : RdF w v fs) (hl : RdV w vl (is.map iv)) (hB : Bd fs) (hn : fs.length ≤ 2000000) (hni : is.length ≤ 2000000) :
    Calls Try.prog 19 #[.agg #[v], .slice none 0 c1, .int .i64 0, vl] w fun e w' => DkEnd 36 (cutR fs [] 0 is).1 (cutR fs [] 0 is).2 w e w' := by
  have C : Hid (∀ W v va, RdF W v fs → RdA W va [] → Calls Try.prog 15 #[.agg #[v], va] W fun e w' => DnEnd 36 (runL fs []) W e w') := fun W v va h1 h2 => implDoActs_any fs [] v va W h1 h2 hB hn (fun _ h => by cases h) (by simp)
  obtain ⟨hB2, hn2⟩ := run_small [] hB hn
  have CL : Hid (∀ W v vl, RdF W v (runL fs []).1 → RdV W vl (is.map iv) → Calls Try.prog 9 #[.agg #[v], vl] W fun e w' => DkEnd 36 (loseRes (runL fs []).1 is) (okL (runL fs []).1) W e w') := fun W v vl h1 h2 => implLose_any _ is v vl W h1 h2 hB2 hn2 hni
  obtain ⟨a0, c0, rfl⟩ := hr.shape
  obtain ⟨a2, c2, rfl⟩ := hl.shape
  rw [List.length_map] at hl ⊢
  have HT : ∀ W c', Below w.heap.size w W → RdA W (.slice none 0 c') [] := fun W c' _ => .inl ⟨_, _, rfl, rfl⟩
  have HTH := hide HT
  have HR := hide hr
  have HV := hide hl
  clear hr hl HT
  go_enter Try.func19, Try.ntmps19
  obtain ⟨rs, hrs⟩ : ∃ rs, (runL fs []).1 = rs := ⟨_, rfl⟩
  obtain ⟨dn, hdn⟩ : ∃ dn, (runL fs []).2 = dn := ⟨_, rfl⟩
  have HC : Hid (cutR fs [] 0 is = (loseRes rs is, okL rs)) := by
    rw [← hrs]
    have h := cutR_in (fs := fs) (as' := []) (m := 0) (is := is) (Nat.zero_le _) (by simp [runL])
    exact hide (by simpa using h)
  unfold DnEnd at C
  unfold DkEnd at CL
  rw [hrs, hdn] at C
  rw [hrs] at CL
  clear hrs hdn hB2 hn2
  go_wp2_with (fail)
  obtain ⟨W0, e0, xD, xR, hsz, hbW⟩ := two_alloc w 26 (.slice a0 fs.length c0) (.slice none 0 0)
  rw [e0]
  have hW2 : w.heap.size + 1 < W0.heap.size := by omega
  clear e0 hsz
  have cD := xD.cell
  have lD := xD.lt
  have HRW := hide ((unhide HR).below hbW)
  have HTW := hide (fun c' => (unhide HTH) W0 c' hbW)
  have KS : Hid (∀ W, Below W0.heap.size W0 W → W.cell? ⟨w.heap.size, 0, none⟩ = some (.slice a0 fs.length c0)) := fun W hB => (hB.cell (p := ⟨w.heap.size, 0, none⟩) lD).trans cD
  go_region_held3 (fun W => W.cell? ⟨w.heap.size, 0, none⟩ = some (.slice a0 fs.length c0)) (first | exact (unhide KS) _ ((Below.refl _ W0).drew) | exact (unhide KS) _ (((Below.refl _ W0).drew).alloc (Nat.le_refl _) _) | exact (unhide KS) _ B5 | exact (unhide KS) _ (B5.alloc B5.size _) | exact (unhide KS) _ (B5.setCell (p := ⟨W0.heap.size, 0, none⟩) (Nat.le_refl _) _)) (first
    | (go_at_call 15; refine ((unhide C) _ _ _ (by first | exact (unhide HRW).drew | exact ((unhide HRW).drew).alloc _) (by first | exact ((unhide HTW) _).drew | exact (((unhide HTW) _).drew).alloc _)).mono ?_; rintro e w5 ⟨⟨a5, c5, rfl, ho5⟩, hb5⟩; (have B5 : Below W0.heap.size W0 w5 := by first | exact ((Below.refl _ W0).drew).trans hb5 | exact (((Below.refl _ W0).drew).alloc (Nat.le_refl _) _).trans (hb5.mono (by simp))); (first | (have X : Box w5 W0.heap.size 26 (.slice none 0 0) := ((Box.new W0.drew 26 (.slice none 0 0)).step hb5); have cX := X.cell; have zX := X.frozen; have lX := X.lt) | skip)))
  all_goals
    first
    | (have bz := Box.new w5 26 (.slice a5 rs.length c5); have oz := (ho5.alloc (.cells #[(.slice a5 rs.length c5)] 26)).low (base' := W0.heap.size) (Nat.le_refl _); have hz := B5.alloc B5.size (.cells #[(.slice a5 rs.length c5)] 26); generalize w5.alloc (.cells #[(.slice a5 rs.length c5)] 26) = w6 at bz oz hz ⊢; show Exit.then _ _ Exit.normal _ w6)
    | (have bz : Box (w5.setCell ⟨W0.heap.size, 0, none⟩ (.slice a5 rs.length c5)) W0.heap.size 26 (.slice a5 rs.length c5) := ((Box.new W0.drew 26 (.slice none 0 0)).step hb5).set (.slice a5 rs.length c5); have oz := (ho5.other (a := ⟨W0.heap.size, 0, none⟩) (by exact (Box.new W0.drew 26 (.slice none 0 0)).lt) (.slice a5 rs.length c5)).low (base' := W0.heap.size) (by simp); have hz := B5.setCell (p := ⟨W0.heap.size, 0, none⟩) (Nat.le_refl _) (.slice a5 rs.length c5); generalize w5.setCell ⟨W0.heap.size, 0, none⟩ (.slice a5 rs.length c5) = w6 at bz oz hz ⊢; show Exit.then _ _ Exit.normal _ w6)
    clear KS ho5 B5
    replace hb5 := hide hb5
    have xR6 := xR.below hz (by omega)
    have cR6 := xR6.cell
    have zR6 := xR6.frozen
    have lR6 := xR6.lt
    have cB6 := bz.cell
    have lB6 := bz.lt
    have hbw6 := hide (hbW.trans (hz.mono (by omega)))
    have s6 := hz.size
    have HO := hide oz
    clear oz cD
    replace hz := hide hz
    have hdn0 : ¬ (dn : Int) < 0 := by omega
    have HV6 := hide ((unhide HV).below (unhide hbw6))
    go_wp2_with (fail)
    refine ((unhide CL) _ _ _ (unhide HO).rd (unhide HV6)).mono ?_
    rintro e w7 ⟨⟨a7, c7, rfl, ho7⟩, hb7⟩
    have xR7 := xR6.step hb7
    have cR7 := xR7.cell
    have zR7 := xR7.frozen
    have lR7 := xR7.lt
    have hbf := hide ((bTr (unhide hbw6) hb7).setCell (p := ⟨w.heap.size + 1, 0, none⟩) (by show w.heap.size ≤ w.heap.size + 1; omega) (.slice a7 (loseRes rs is).length c7))
    have hof := hide ((ho7.other (a := ⟨w.heap.size + 1, 0, none⟩) (by show w.heap.size + 1 < _; omega) (.slice a7 (loseRes rs is).length c7)).low (base' := w.heap.size) (by have := (unhide hbw6).size; omega))
    replace hb7 := hide hb7
    replace ho7 := hide ho7
    go_wp2
    refine bodyPost_ret (v := .tuple #[.agg #[.slice a7 (loseRes rs is).length c7], .bool (okL rs)]) (by simp [results, Try.results19, go_sem, cR7]) rfl ?_
    rw [unhide HC]
    exact ⟨⟨a7, c7, rfl, unhide hof⟩, unhide hbf⟩

set_option maxRecDepth 20000 in
set_option maxHeartbeats 4000000 in
theorem specCut_out (fs : List Fl) (as' : List Ac) (z : Int) (is : List Int) (v va vl : Value) (w : World) (hr : RdF w v fs) (ha : RdA w va as') (hl : RdV w vl (is.map iv)) (hz : z < 0 ∨ (as'.length : Int) < z) :
    Calls Try.prog 20 #[.agg #[v], va, .int .i64 z, vl] w fun e w' => DkEnd 36 [] false w e w' := by
  obtain ⟨a0, c0, rfl⟩ := hr.shape
  obtain ⟨a1, c1, rfl⟩ := ha.shape
  obtain ⟨a2, c2, rfl⟩ := hl.shape
  clear hr ha hl
  have HI : inB z 0 (as'.length : Int) = false := by unfold inB; rw [decide_eq_false_iff_not]; omega
  have CI := hide (fun W => l01In_at z 0 (as'.length : Int) false HI W)
  clear hz HI
  go_enter Try.func20, Try.ntmps20
  go_wp2_with (go_at_call 40; refine ((unhide CI) _).mono ?_; rintro e w1 ⟨rfl, rfl⟩)
  refine bodyPost_ret (v := .tuple #[.agg #[.slice none 0 0], .bool false]) (by simp [results, Try.results20, go_sem]) rfl ?_
  exact ⟨⟨none, 0, rfl, OwnF.nil _ _ _⟩, ((Below.refl w.heap.size w).alloc (Nat.le_refl _) _).alloc (by simp) _⟩

set_option maxRecDepth 20000 in
set_option maxHeartbeats 4000000 in
theorem specCut_at (fs : List Fl) (as' : List Ac) (m : Nat) (is : List Int) (v vl : Value) (ad : Addr) (c1 : Nat) (w : World) (hr : RdF w v fs) (ha : RdA w (.slice (some ad) as'.length c1) as') (hcap : as'.length ≤ c1) (hl : RdV w vl (is.map iv)) (hB : Bd fs) (hn : fs.length ≤ 2000000) (hA : AcsBd as') (hna : as'.length ≤ 2000000) (hni : is.length ≤ 2000000) (hm : m ≤ as'.length) :
    Calls Try.prog 20 #[.agg #[v], .slice (some ad) as'.length c1, .int .i64 (m : Int), vl] w fun e w' => DkEnd 36 (cutR fs as' (m : Int) is).1 (cutR fs as' (m : Int) is).2 w e w' := by
  have C : Hid (∀ W v va, RdF W v fs → RdA W va (as'.take m) → Calls Try.prog 16 #[.agg #[v], va] W fun e w' => DnEnd 36 (runL fs (as'.take m)) W e w') := fun W v va h1 h2 => specDoActs_any fs (as'.take m) v va W h1 h2 hB hn (hA.take m) (by rw [List.length_take]; omega)
  obtain ⟨hB2, hn2⟩ := run_small (as'.take m) hB hn
  have CL : Hid (∀ W v vl, RdF W v (runL fs (as'.take m)).1 → RdV W vl (is.map iv) → Calls Try.prog 41 #[.agg #[v], vl] W fun e w' => DkEnd 36 (loseRes (runL fs (as'.take m)).1 is) (okL (runL fs (as'.take m)).1) W e w') := fun W v vl h1 h2 => specLose_any _ is v vl W h1 h2 hB2 hn2 hni
  obtain ⟨a0, c0, rfl⟩ := hr.shape
  obtain ⟨a2, c2, rfl⟩ := hl.shape
  rw [List.length_map] at hl ⊢
  have HT : ∀ W, Below w.heap.size w W → RdA W (.slice (some ad) m c1) (as'.take m) := fun W hb => (ha.below hb).take (some ad) as'.length c1 m c1 rfl hm
  have HTH := hide HT
  have HR := hide hr
  have HV := hide hl
  have HI : inB (m : Int) 0 (as'.length : Int) = true := by unfold inB; rw [decide_eq_true_iff]; omega
  have CI := hide (fun W => l01In_at (m : Int) 0 (as'.length : Int) true HI W)
  clear HI
  have hm0 : (0 : Int) ≤ (m : Int) := by omega
  have hm1 : (m : Int) ≤ (c1 : Int) := by omega
  clear hr ha hl HT
  go_enter Try.func20, Try.ntmps20
  obtain ⟨rs, hrs⟩ : ∃ rs, (runL fs (as'.take m)).1 = rs := ⟨_, rfl⟩
  obtain ⟨dn, hdn⟩ : ∃ dn, (runL fs (as'.take m)).2 = dn := ⟨_, rfl⟩
  have hdm : dn ≤ m := by rw [← hdn]; have := runL_le (as'.take m) fs; rw [List.length_take] at this; omega
  have HC : Hid (cutR fs as' (m : Int) is = if dn < m then ([], false) else (loseRes rs is, okL rs)) := by
    rw [← hrs, ← hdn]
    by_cases h : (runL fs (as'.take m)).2 < m
    · rw [if_pos h]; exact cutR_short hm h
    · rw [if_neg h]; exact cutR_in hm h
  unfold DnEnd at C
  unfold DkEnd at CL
  rw [hrs, hdn] at C
  rw [hrs] at CL
  clear hrs hdn hB2 hn2
  go_wp2_with (go_at_call 40; refine ((unhide CI) _).mono ?_; rintro e w1 ⟨rfl, rfl⟩)
  obtain ⟨W0, e0, xD, xR, hsz, hbW⟩ := two_alloc w 26 (.slice a0 fs.length c0) (.slice none 0 0)
  rw [e0]
  have hW2 : w.heap.size + 1 < W0.heap.size := by omega
  clear e0 hsz
  have cD := xD.cell
  have lD := xD.lt
  have HRW := hide ((unhide HR).below hbW)
  have HTW := hide ((unhide HTH) W0 hbW)
  have KS : Hid (∀ W, Below W0.heap.size W0 W → W.cell? ⟨w.heap.size, 0, none⟩ = some (.slice a0 fs.length c0)) := fun W hB => (hB.cell (p := ⟨w.heap.size, 0, none⟩) lD).trans cD
  go_region_held3 (fun W => W.cell? ⟨w.heap.size, 0, none⟩ = some (.slice a0 fs.length c0)) (first | exact (unhide KS) _ ((Below.refl _ W0).drew) | exact (unhide KS) _ (((Below.refl _ W0).drew).alloc (Nat.le_refl _) _) | exact (unhide KS) _ B5 | exact (unhide KS) _ (B5.alloc B5.size _) | exact (unhide KS) _ (B5.setCell (p := ⟨W0.heap.size, 0, none⟩) (Nat.le_refl _) _)) (first
    | (go_at_call 16; refine ((unhide C) _ _ _ (by first | exact (unhide HRW).drew | exact ((unhide HRW).drew).alloc _) (by first | exact (unhide HTW).drew | exact ((unhide HTW).drew).alloc _)).mono ?_; rintro e w5 ⟨⟨a5, c5, rfl, ho5⟩, hb5⟩; (have B5 : Below W0.heap.size W0 w5 := by first | exact ((Below.refl _ W0).drew).trans hb5 | exact (((Below.refl _ W0).drew).alloc (Nat.le_refl _) _).trans (hb5.mono (by simp))); (first | (have X : Box w5 W0.heap.size 26 (.slice none 0 0) := ((Box.new W0.drew 26 (.slice none 0 0)).step hb5); have cX := X.cell; have zX := X.frozen; have lX := X.lt) | skip)))
  all_goals
    first
    | (have bz := Box.new w5 26 (.slice a5 rs.length c5); have oz := (ho5.alloc (.cells #[(.slice a5 rs.length c5)] 26)).low (base' := W0.heap.size) (Nat.le_refl _); have hz := B5.alloc B5.size (.cells #[(.slice a5 rs.length c5)] 26); generalize w5.alloc (.cells #[(.slice a5 rs.length c5)] 26) = w6 at bz oz hz ⊢; show Exit.then _ _ Exit.normal _ w6)
    | (have bz : Box (w5.setCell ⟨W0.heap.size, 0, none⟩ (.slice a5 rs.length c5)) W0.heap.size 26 (.slice a5 rs.length c5) := ((Box.new W0.drew 26 (.slice none 0 0)).step hb5).set (.slice a5 rs.length c5); have oz := (ho5.other (a := ⟨W0.heap.size, 0, none⟩) (by exact (Box.new W0.drew 26 (.slice none 0 0)).lt) (.slice a5 rs.length c5)).low (base' := W0.heap.size) (by simp); have hz := B5.setCell (p := ⟨W0.heap.size, 0, none⟩) (Nat.le_refl _) (.slice a5 rs.length c5); generalize w5.setCell ⟨W0.heap.size, 0, none⟩ (.slice a5 rs.length c5) = w6 at bz oz hz ⊢; show Exit.then _ _ Exit.normal _ w6)
    clear KS ho5 B5
    replace hb5 := hide hb5
    have xR6 := xR.below hz (by omega)
    have cR6 := xR6.cell
    have zR6 := xR6.frozen
    have lR6 := xR6.lt
    have cB6 := bz.cell
    have lB6 := bz.lt
    have hbw6 := hide (hbW.trans (hz.mono (by omega)))
    have s6 := hz.size
    have HO := hide oz
    clear oz cD
    replace hz := hide hz
    by_cases hlt : dn < m
    · rw [if_pos hlt] at HC
      have hlt2 : (dn : Int) < (m : Int) := by omega
      have hbf := hide ((unhide hbw6).setCell (p := ⟨w.heap.size + 1, 0, none⟩) (by show w.heap.size ≤ w.heap.size + 1; omega) (.slice none 0 0))
      go_wp2
      refine bodyPost_ret (v := .tuple #[.agg #[.slice none 0 0], .bool false]) (by simp [results, Try.results20, go_sem, cR6]) rfl ?_
      rw [unhide HC]
      exact ⟨⟨none, 0, rfl, OwnF.nil _ _ _⟩, unhide hbf⟩
    · rw [if_neg hlt] at HC
      have hlt2 : ¬ (dn : Int) < (m : Int) := by omega
      have HV6 := hide ((unhide HV).below (unhide hbw6))
      go_wp2_with (fail)
      refine ((unhide CL) _ _ _ (unhide HO).rd (unhide HV6)).mono ?_
      rintro e w7 ⟨⟨a7, c7, rfl, ho7⟩, hb7⟩
      have xR7 := xR6.step hb7
      have cR7 := xR7.cell
      have zR7 := xR7.frozen
      have lR7 := xR7.lt
      have hbf := hide ((bTr (unhide hbw6) hb7).setCell (p := ⟨w.heap.size + 1, 0, none⟩) (by show w.heap.size ≤ w.heap.size + 1; omega) (.slice a7 (loseRes rs is).length c7))
      have hof := hide ((ho7.other (a := ⟨w.heap.size + 1, 0, none⟩) (by show w.heap.size + 1 < _; omega) (.slice a7 (loseRes rs is).length c7)).low (base' := w.heap.size) (by have := (unhide hbw6).size; omega))
      replace hb7 := hide hb7
      replace ho7 := hide ho7
      go_wp2
      refine bodyPost_ret (v := .tuple #[.agg #[.slice a7 (loseRes rs is).length c7], .bool (okL rs)]) (by simp [results, Try.results20, go_sem, cR7]) rfl ?_
      rw [unhide HC]
      exact ⟨⟨a7, c7, rfl, unhide hof⟩, unhide hbf⟩

set_option maxRecDepth 20000 in
set_option maxHeartbeats 4000000 in
theorem specCut_nil (fs : List Fl) (is : List Int) (v vl : Value) (c1 : Nat) (w : World) (hr : RdF w v fs) (hl : RdV w vl (is.map iv)) (hB : Bd fs) (hn : fs.length ≤ 2000000) (hni : is.length ≤ 2000000) :
    Calls Try.prog 20 #[.agg #[v], .slice none 0 c1, .int .i64 0, vl] w fun e w' => DkEnd 36 (cutR fs [] 0 is).1 (cutR fs [] 0 is).2 w e w' := by
  have C : Hid (∀ W v va, RdF W v fs → RdA W va [] → Calls Try.prog 16 #[.agg #[v], va] W fun e w' => DnEnd 36 (runL fs []) W e w') := fun W v va h1 h2 => specDoActs_any fs [] v va W h1 h2 hB hn (fun _ h => by cases h) (by simp)
  obtain ⟨hB2, hn2⟩ := run_small [] hB hn
  have CL : Hid (∀ W v vl, RdF W v (runL fs []).1 → RdV W vl (is.map iv) → Calls Try.prog 41 #[.agg #[v], vl] W fun e w' => DkEnd 36 (loseRes (runL fs []).1 is) (okL (runL fs []).1) W e w') := fun W v vl h1 h2 => specLose_any _ is v vl W h1 h2 hB2 hn2 hni
  obtain ⟨a0, c0, rfl⟩ := hr.shape
  obtain ⟨a2, c2, rfl⟩ := hl.shape
  rw [List.length_map] at hl ⊢
  have HT : ∀ W c', Below w.heap.size w W → RdA W (.slice none 0 c') [] := fun W c' _ => .inl ⟨_, _, rfl, rfl⟩
  have HTH := hide HT
  have HR := hide hr
  have HV := hide hl
  have CI := hide (fun W => l01In_at 0 0 0 true (by decide) W)
  clear hr hl HT
  go_enter Try.func20, Try.ntmps20
  obtain ⟨rs, hrs⟩ : ∃ rs, (runL fs []).1 = rs := ⟨_, rfl⟩
  obtain ⟨dn, hdn⟩ : ∃ dn, (runL fs []).2 = dn := ⟨_, rfl⟩
  have HC : Hid (cutR fs [] 0 is = (loseRes rs is, okL rs)) := by
    rw [← hrs]
    have h := cutR_in (fs := fs) (as' := []) (m := 0) (is := is) (Nat.zero_le _) (by simp [runL])
    exact hide (by simpa using h)
  unfold DnEnd at C
  unfold DkEnd at CL
  rw [hrs, hdn] at C
  rw [hrs] at CL
  clear hrs hdn hB2 hn2
  go_wp2_with (go_at_call 40; refine ((unhide CI) _).mono ?_; rintro e w1 ⟨rfl, rfl⟩)
  obtain ⟨W0, e0, xD, xR, hsz, hbW⟩ := two_alloc w 26 (.slice a0 fs.length c0) (.slice none 0 0)
  rw [e0]
  have hW2 : w.heap.size + 1 < W0.heap.size := by omega
  clear e0 hsz
  have cD := xD.cell
  have lD := xD.lt
  have HRW := hide ((unhide HR).below hbW)
  have HTW := hide (fun c' => (unhide HTH) W0 c' hbW)
  have KS : Hid (∀ W, Below W0.heap.size W0 W → W.cell? ⟨w.heap.size, 0, none⟩ = some (.slice a0 fs.length c0)) := fun W hB => (hB.cell (p := ⟨w.heap.size, 0, none⟩) lD).trans cD
  go_region_held3 (fun W => W.cell? ⟨w.heap.size, 0, none⟩ = some (.slice a0 fs.length c0)) (first | exact (unhide KS) _ ((Below.refl _ W0).drew) | exact (unhide KS) _ (((Below.refl _ W0).drew).alloc (Nat.le_refl _) _) | exact (unhide KS) _ B5 | exact (unhide KS) _ (B5.alloc B5.size _) | exact (unhide KS) _ (B5.setCell (p := ⟨W0.heap.size, 0, none⟩) (Nat.le_refl _) _)) (first
    | (go_at_call 16; refine ((unhide C) _ _ _ (by first | exact (unhide HRW).drew | exact ((unhide HRW).drew).alloc _) (by first | exact ((unhide HTW) _).drew | exact (((unhide HTW) _).drew).alloc _)).mono ?_; rintro e w5 ⟨⟨a5, c5, rfl, ho5⟩, hb5⟩; (have B5 : Below W0.heap.size W0 w5 := by first | exact ((Below.refl _ W0).drew).trans hb5 | exact (((Below.refl _ W0).drew).alloc (Nat.le_refl _) _).trans (hb5.mono (by simp))); (first | (have X : Box w5 W0.heap.size 26 (.slice none 0 0) := ((Box.new W0.drew 26 (.slice none 0 0)).step hb5); have cX := X.cell; have zX := X.frozen; have lX := X.lt) | skip)))
  all_goals
    first
    | (have bz := Box.new w5 26 (.slice a5 rs.length c5); have oz := (ho5.alloc (.cells #[(.slice a5 rs.length c5)] 26)).low (base' := W0.heap.size) (Nat.le_refl _); have hz := B5.alloc B5.size (.cells #[(.slice a5 rs.length c5)] 26); generalize w5.alloc (.cells #[(.slice a5 rs.length c5)] 26) = w6 at bz oz hz ⊢; show Exit.then _ _ Exit.normal _ w6)
    | (have bz : Box (w5.setCell ⟨W0.heap.size, 0, none⟩ (.slice a5 rs.length c5)) W0.heap.size 26 (.slice a5 rs.length c5) := ((Box.new W0.drew 26 (.slice none 0 0)).step hb5).set (.slice a5 rs.length c5); have oz := (ho5.other (a := ⟨W0.heap.size, 0, none⟩) (by exact (Box.new W0.drew 26 (.slice none 0 0)).lt) (.slice a5 rs.length c5)).low (base' := W0.heap.size) (by simp); have hz := B5.setCell (p := ⟨W0.heap.size, 0, none⟩) (Nat.le_refl _) (.slice a5 rs.length c5); generalize w5.setCell ⟨W0.heap.size, 0, none⟩ (.slice a5 rs.length c5) = w6 at bz oz hz ⊢; show Exit.then _ _ Exit.normal _ w6)
    clear KS ho5 B5
    replace hb5 := hide hb5
    have xR6 := xR.below hz (by omega)
    have cR6 := xR6.cell
    have zR6 := xR6.frozen
    have lR6 := xR6.lt
    have cB6 := bz.cell
    have lB6 := bz.lt
    have hbw6 := hide (hbW.trans (hz.mono (by omega)))
    have s6 := hz.size
    have HO := hide oz
    clear oz cD
    replace hz := hide hz
    have hdn0 : ¬ (dn : Int) < 0 := by omega
    have HV6 := hide ((unhide HV).below (unhide hbw6))
    go_wp2_with (fail)
    refine ((unhide CL) _ _ _ (unhide HO).rd (unhide HV6)).mono ?_
    rintro e w7 ⟨⟨a7, c7, rfl, ho7⟩, hb7⟩
    have xR7 := xR6.step hb7
    have cR7 := xR7.cell
    have zR7 := xR7.frozen
    have lR7 := xR7.lt
    have hbf := hide ((bTr (unhide hbw6) hb7).setCell (p := ⟨w.heap.size + 1, 0, none⟩) (by show w.heap.size ≤ w.heap.size + 1; omega) (.slice a7 (loseRes rs is).length c7))
    have hof := hide ((ho7.other (a := ⟨w.heap.size + 1, 0, none⟩) (by show w.heap.size + 1 < _; omega) (.slice a7 (loseRes rs is).length c7)).low (base' := w.heap.size) (by have := (unhide hbw6).size; omega))
    replace hb7 := hide hb7
    replace ho7 := hide ho7
    go_wp2
    refine bodyPost_ret (v := .tuple #[.agg #[.slice a7 (loseRes rs is).length c7], .bool (okL rs)]) (by simp [results, Try.results20, go_sem, cR7]) rfl ?_
    rw [unhide HC]
    exact ⟨⟨a7, c7, rfl, unhide hof⟩, unhide hbf⟩
/-- A slice's length is no more than its room. -/
def Capped (v : Value) : Prop := ∀ a n c, v = .slice a n c → n ≤ c
theorem OwnA.capped {w : World} {base : Nat} {e : TypeId} {v : Value} {fs : List Ac} (h : OwnA w base e v fs) : Capped v := by
  intro a n c hv
  subst hv
  rcases h.2 with ⟨h1, _⟩ | ⟨g, cap, cur, h1, _, _, h3, _⟩
  · simp only [Value.slice.injEq] at h1; omega
  · simp only [Value.slice.injEq] at h1; omega
theorem OwnA.rdac {w : World} {base : Nat} {e : TypeId} {v : Value} {fs : List Ac} (h : OwnA w base e v fs) : RdA w v fs ∧ Capped v := ⟨h.rda, h.capped⟩

theorem implCut_any (fs : List Fl) (as' : List Ac) (z : Int) (is : List Int) (v va vl : Value) (w : World) (hr : RdF w v fs) (ha : RdA w va as' ∧ Capped va) (hl : RdV w vl (is.map iv)) (hB : Bd fs) (hn : fs.length ≤ 2000000) (hA : AcsBd as') (hna : as'.length ≤ 2000000) (hni : is.length ≤ 2000000) :
    Calls Try.prog 19 #[.agg #[v], va, .int .i64 z, vl] w fun e w' => DkEnd 36 (cutR fs as' z is).1 (cutR fs as' z is).2 w e w' := by
  by_cases hz : z < 0 ∨ (as'.length : Int) < z
  · rw [cutR_out hz]
    exact implCut_out fs as' z is v va vl w hr ha.1 hl hz
  · obtain ⟨m, rfl⟩ : ∃ m : Nat, z = (m : Int) := ⟨z.toNat, by omega⟩
    have hm : m ≤ as'.length := by omega
    obtain ⟨ha1, hcap⟩ := ha
    obtain ⟨a1, c1, rfl⟩ := ha1.shape
    cases a1 with
    | none =>
      have h0 : as' = [] := by
        rcases ha1 with ⟨_, _, _, h⟩ | ⟨g, o, c', h, _⟩
        · exact h
        · simp at h
      subst h0
      have hm0 : m = 0 := by simpa using hm
      subst hm0
      exact implCut_nil fs is v vl c1 w hr hl hB hn hni
    | some ad => exact implCut_at fs as' m is v vl ad c1 w hr ha1 (hcap _ _ _ rfl) hl hB hn hA hna hni hm
theorem specCut_any (fs : List Fl) (as' : List Ac) (z : Int) (is : List Int) (v va vl : Value) (w : World) (hr : RdF w v fs) (ha : RdA w va as' ∧ Capped va) (hl : RdV w vl (is.map iv)) (hB : Bd fs) (hn : fs.length ≤ 2000000) (hA : AcsBd as') (hna : as'.length ≤ 2000000) (hni : is.length ≤ 2000000) :
    Calls Try.prog 20 #[.agg #[v], va, .int .i64 z, vl] w fun e w' => DkEnd 36 (cutR fs as' z is).1 (cutR fs as' z is).2 w e w' := by
  by_cases hz : z < 0 ∨ (as'.length : Int) < z
  · rw [cutR_out hz]
    exact specCut_out fs as' z is v va vl w hr ha.1 hl hz
  · obtain ⟨m, rfl⟩ : ∃ m : Nat, z = (m : Int) := ⟨z.toNat, by omega⟩
    have hm : m ≤ as'.length := by omega
    obtain ⟨ha1, hcap⟩ := ha
    obtain ⟨a1, c1, rfl⟩ := ha1.shape
    cases a1 with
    | none =>
      have h0 : as' = [] := by
        rcases ha1 with ⟨_, _, _, h⟩ | ⟨g, o, c', h, _⟩
        · exact h
        · simp at h
      subst h0
      have hm0 : m = 0 := by simpa using hm
      subst hm0
      exact specCut_nil fs is v vl c1 w hr hl hB hn hni
    | some ad => exact specCut_at fs as' m is v vl ad c1 w hr ha1 (hcap _ _ _ rfl) hl hB hn hA hna hni hm
end Go.Proofs.Ytkaaabpodhgbpaa
