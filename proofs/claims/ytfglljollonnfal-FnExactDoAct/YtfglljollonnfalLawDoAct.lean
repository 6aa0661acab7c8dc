/- The law of DoAct, walked: at every disk and every act the two answers are the same, nothing is written into an argument, and what is answered owns its memory. -/
import Derived.Test.YtfglljollonnfalActA
import Derived.Test.YtfglljollonnfalMarkF
import Derived.Test.YtfglljollonnfalLawDiskOk
namespace Go.Proofs.Ytfglljollonnfal
open Go.RowKit

theorem actRes_len (fs : List Fl) (a : Ac) : ((actL fs a).getD []).length ≤ 30 := by
  cases h : actL fs a with
  | none => simp
  | some o =>
    unfold actL at h
    cases hok : okL fs with
    | false => rw [hok] at h; simp at h
    | true =>
      rw [hok] at h
      simp only [if_true] at h
      exact (okL_iff.1 (actR_ok hok h)).1

set_option maxRecDepth 20000 in
set_option maxHeartbeats 4000000 in
theorem lawDoAct_any (fs : List Fl) (ac : Ac) (v : Value) (w : World) (hr : RdF w v fs) (hn : fs.length ≤ maxLen) (hz : ∀ f ∈ fs, f.nm.size ≤ maxLen ∧ f.tx.size ≤ maxLen) (h1 : ac.nm.size ≤ maxLen) (h2 : ac.tx.size ≤ maxLen) (h3 : ac.to.size ≤ maxLen) :
    Calls Try.prog 3 #[.agg #[v], acv ac] w fun e w' => e = .returned (.bool true) ∧ Below w.heap.size w w' := by
  have C0 : Hid (∀ W, RdF W v fs → Calls Try.prog 8 #[.agg #[v], .int .i64 1048576] W fun e w' => (∃ r : Int, e = .returned (.int .i64 r) ∧ SzEnd fs r) ∧ Below W.heap.size W w') := fun W h => szDisk_any fs v W h hn hz
  have C1 : Hid (∀ W (l : Nat), l ≤ 1048576 → Calls Try.prog 9 #[acv ac, .int .i64 l] W fun e w' => (∃ r : Int, e = .returned (.int .i64 r) ∧ (r = -1 ∨ ∃ m : Nat, r = m ∧ m + acSz ac = l)) ∧ Below W.heap.size W w') := fun W l h => szAct_any ac l W h1 h2 h3 h
  obtain ⟨a, c, rfl⟩ := hr.shape
  replace hr := hide hr
  clear hn hz h1 h2 h3
  unfold acv at C1 ⊢
  go_enter Try.func3, Try.ntmps3
  go_wp2_with fail
  obtain ⟨W0, e0, bA0, bB0, HB0, s0⟩ := two_act w ac 24 26 (.slice a fs.length c)
  rw [e0]
  clear e0
  refine ((unhide C0) _ ((unhide hr).below HB0)).mono ?_
  rintro e w1 ⟨⟨r, rfl, hr1⟩, hb1⟩
  have HB_1 := hide (bTr HB0 hb1)
  have bA_1 := hide (bA0.step hb1)
  have bB_1 := hide (bB0.step hb1)
  have s_1 := sz0 hb1
  clear HB0 bA0 bB0
  replace hb1 := hide hb1
  by_cases hneg : r < 0
  · go_wp2
    go_ret
    exact ⟨rfl, unhide HB_1⟩
  · obtain ⟨m, rfl, hsum⟩ : ∃ m : Nat, r = m ∧ m + fs.length + flsSz fs = 1048576 := hr1.resolve_left (by omega)
    have hm1 : m ≤ 1048576 := by omega
    obtain ⟨hBd, hlen⟩ := bd_of hsum
    have hBd := hide hBd
    clear hsum hr1
    have c_bA := (unhide bA_1).cell
    obtain ⟨c0_bB, c1_bB, c2_bB, c3_bB⟩ := (unhide bB_1).at
    go_wp2_with fail
    clear c_bA c0_bB c1_bB c2_bB c3_bB
    refine ((unhide C1) _ m hm1).mono ?_
    rintro e w2 ⟨⟨r2, rfl, hr2⟩, hb2⟩
    have HB_2 := hide (bTr (unhide HB_1) hb2)
    have bA_2 := hide ((unhide bA_1).step hb2)
    have bB_2 := hide ((unhide bB_1).step hb2)
    have s_2 := sz0 hb2
    clear HB_1 bA_1 bB_1
    replace hb2 := hide hb2
    by_cases hneg2 : r2 < 0
    · go_wp2
      go_ret
      exact ⟨rfl, unhide HB_2⟩
    obtain ⟨m2, _, hsum2⟩ : ∃ m2 : Nat, r2 = m2 ∧ m2 + acSz ac = m := hr2.resolve_left (by omega)
    have hac : ac.nm.size ≤ 1048576 ∧ ac.tx.size ≤ 1048576 ∧ ac.to.size ≤ 1048576 := by unfold acSz at hsum2; omega
    have hac := hide hac
    clear hsum2 hr2
    have CT : Hid (∀ W, RdF W (.slice a fs.length c) fs → Calls Try.prog 11 #[.agg #[.slice a fs.length c]] W fun e w' => (∃ a c, e = .returned (.agg #[.slice a fs.length c]) ∧ OwnF w' W.heap.size 63 (.slice a fs.length c) fs) ∧ Below W.heap.size W w') := fun W h => toDisk_any fs _ W h hlen
    have CA : Hid (∀ W, Calls Try.prog 12 #[acv ac] W fun e w' => e = .returned (acv ac) ∧ Below W.heap.size W w') := fun W => toAct_any ac W
    have CEF : Hid (∀ W v1 v2, RdF W v1 fs → RdF W v2 fs → Calls Try.prog 14 #[.agg #[v1], .agg #[v2]] W fun e w' => e = .returned (.bool true) ∧ Below W.heap.size W w') := fun W v1 v2 h1 h2 => eqDisk_any fs v1 v2 W h1 h2 (by omega)
    have CS : Hid (∀ W v1, RdF W v1 fs → Calls Try.prog 10 #[.agg #[v1], acv ac] W fun e w' => DkEnd 63 ((actL fs ac).getD []) (actL fs ac).isSome W e w') := fun W v1 h1 => specDoAct_any fs ac v1 W h1 (unhide hBd) (by omega) (by have := unhide hac; omega) (by have := unhide hac; omega) (by have := unhide hac; omega)
    have CM : Hid (∀ W v1, RdF W v1 fs → Calls Try.prog 13 #[.agg #[v1], acv ac] W fun e w' => DkEnd 63 ((actL fs ac).getD []) (actL fs ac).isSome W e w') := fun W v1 h1 => implDoAct_any fs ac v1 W h1 (unhide hBd) (by omega) (by have := unhide hac; omega) (by have := unhide hac; omega)
    have hrsl := actRes_len fs ac
    unfold DkEnd at CS CM
    generalize (actL fs ac).getD [] = rs at CS CM hrsl
    generalize (actL fs ac).isSome = okb at CS CM
    have CE : Hid (∀ W v1 v2, RdF W v1 rs → RdF W v2 rs → Calls Try.prog 14 #[.agg #[v1], .agg #[v2]] W fun e w' => e = .returned (.bool true) ∧ Below W.heap.size W w') := fun W v1 v2 h1 h2 => eqDisk_any rs v1 v2 W h1 h2 (by omega)
    unfold acv at CA CS CM
    obtain ⟨M1, hM1⟩ : ∃ M : Nat, M = 1 + 3 * fs.length := ⟨_, rfl⟩
    have HM1 := hide hM1
    clear hM1
    obtain ⟨M3, hM3⟩ : ∃ M : Nat, M = 1 + 3 * rs.length := ⟨_, rfl⟩
    have HM3 := hide hM3
    clear hM3
    have c_bA := (unhide bA_2).cell
    have l_bA := (unhide bA_2).lt
    obtain ⟨c0_bB, c1_bB, c2_bB, c3_bB⟩ := (unhide bB_2).at
    have l_bB := (unhide bB_2).lt
    go_wp2_with fail
    have KS : Hid (∀ W, Below w2.heap.size w2 W → W.cell? ⟨w.heap.size, 0, none⟩ = some (.slice a fs.length c) ∧ W.cell? ⟨w.heap.size + 1, 0, none⟩ = some (.int .i64 ac.kd) ∧ W.cell? ⟨w.heap.size + 1, 1, none⟩ = some (.string ac.nm) ∧ W.cell? ⟨w.heap.size + 1, 2, none⟩ = some (.string ac.tx) ∧ W.cell? ⟨w.heap.size + 1, 3, none⟩ = some (.string ac.to)) := fun W hB => ⟨(hB.cell (p := ⟨w.heap.size, 0, none⟩) l_bA).trans c_bA, (hB.cell (p := ⟨w.heap.size + 1, 0, none⟩) l_bB).trans c0_bB, (hB.cell (p := ⟨w.heap.size + 1, 1, none⟩) l_bB).trans c1_bB, (hB.cell (p := ⟨w.heap.size + 1, 2, none⟩) l_bB).trans c2_bB, (hB.cell (p := ⟨w.heap.size + 1, 3, none⟩) l_bB).trans c3_bB⟩
    clear c_bA l_bA c0_bB c1_bB c2_bB c3_bB l_bB
    have HBn := hide (unhide HB_2)
    rename_i K hK
    suffices cont : ∀ (g : Nat) (wq : World) (vx : Value) (a_oW : Option Addr) (q_oW : Nat), w2.heap.size ≤ g → OwnF wq w2.heap.size 63 (.slice a_oW rs.length q_oW) rs → Box wq g 31 (.slice a_oW rs.length q_oW) → Below w2.heap.size w2 wq → K { tmps := #[.agg #[.slice a fs.length c], .agg #[.int .i64 ac.kd, .string ac.nm, .string ac.tx, .string ac.to], .pointer (some ⟨w.heap.size, 0, none⟩), .pointer (some ⟨w.heap.size + 1, 0, none⟩), .bool false, .int .i64 (m2 : Int), .pointer (some ⟨g, 0, none⟩), .bool okb, undef, undef, undef, undef, undef, undef, undef, undef, .agg #[.slice a fs.length c], .int .i64 1048576, .int .i64 (m : Int), .int .i64 (m : Int), .bool (decide ((m : Int) < 0)), .agg #[.int .i64 ac.kd, .string ac.nm, .string ac.tx, .string ac.to], .int .i64 (m : Int), .int .i64 (m2 : Int), .int .i64 (m2 : Int), .bool (decide ((m2 : Int) < 0)), .tuple #[.agg #[.slice a_oW rs.length q_oW], .bool okb], .agg #[.slice a fs.length c], vx, .agg #[.int .i64 ac.kd, .string ac.nm, .string ac.tx, .string ac.to], .agg #[.int .i64 ac.kd, .string ac.nm, .string ac.tx, .string ac.to], .tuple #[.agg #[.slice a_oW rs.length q_oW], .bool okb], .agg #[.slice a_oW rs.length q_oW], .bool okb, undef, undef, undef, undef, undef, undef, undef, undef, undef, undef, undef, undef, undef, undef, undef, undef, undef, undef, undef, undef, undef, undef, undef, undef, undef, undef, undef, undef, undef, undef, undef, undef, undef, undef, undef, undef, undef, undef, undef, undef, undef, undef, undef, undef, undef, undef, undef, undef, undef, undef, undef, undef, undef, undef, undef, undef, undef, undef, undef, undef, undef, undef, undef, undef, undef, undef, undef, undef, undef, undef, undef, undef, undef, undef, undef], defers := [] } wq by
      go_region_held3 (fun W => W.cell? ⟨w.heap.size, 0, none⟩ = some (.slice a fs.length c) ∧ W.cell? ⟨w.heap.size + 1, 0, none⟩ = some (.int .i64 ac.kd) ∧ W.cell? ⟨w.heap.size + 1, 1, none⟩ = some (.string ac.nm) ∧ W.cell? ⟨w.heap.size + 1, 2, none⟩ = some (.string ac.tx) ∧ W.cell? ⟨w.heap.size + 1, 3, none⟩ = some (.string ac.to)) (first | exact (unhide KS) _ ((Below.refl _ w2).drew) | exact (unhide KS) _ (((Below.refl _ w2).drew).alloc (Nat.le_refl _) _) | exact (unhide KS) _ B3 | exact (unhide KS) _ (B3.alloc B3.size _) | exact (unhide KS) _ B4 | exact (unhide KS) _ (B4.alloc B4.size _) | exact (unhide KS) _ B5 | exact (unhide KS) _ (B5.alloc B5.size _) | exact (unhide KS) _ (B5.setCell (p := ⟨w2.heap.size, 0, none⟩) (by show w2.heap.size ≤ w2.heap.size; first | exact Nat.le_refl _ | exact B3.size | exact B4.size | exact B5.size) _) | exact (unhide KS) _ (B5.setCell (p := ⟨w3.heap.size, 0, none⟩) (by show w2.heap.size ≤ w3.heap.size; first | exact Nat.le_refl _ | exact B3.size | exact B4.size | exact B5.size) _) | exact (unhide KS) _ (B5.setCell (p := ⟨w4.heap.size, 0, none⟩) (by show w2.heap.size ≤ w4.heap.size; first | exact Nat.le_refl _ | exact B3.size | exact B4.size | exact B5.size) _) | exact (unhide KS) _ (B5.setCell (p := ⟨w5.heap.size, 0, none⟩) (by show w2.heap.size ≤ w5.heap.size; first | exact Nat.le_refl _ | exact B3.size | exact B4.size | exact B5.size) _)) (first
        | (go_at_call 11; refine ((unhide CT) _ (by first | exact ((unhide hr).below (unhide HB_2)).drew | exact (((unhide hr).below (unhide HB_2)).drew).alloc _)).mono ?_; rintro e w3 ⟨⟨a_x, q_x, rfl, o3⟩, hb3⟩; (have B3 : Below w2.heap.size w2 w3 := by first | exact ((Below.refl _ w2).drew).trans (hb3.mono (Nat.le_refl _)) | exact (((Below.refl _ w2).drew).alloc (Nat.le_refl _) _).trans (hb3.mono (Nat.le_trans (Nat.le_refl _) (by simp)))))
        | (go_at_call 12; refine ((unhide CA) _).mono ?_; rintro e w4 ⟨rfl, hb4⟩; (have B4 : Below w2.heap.size w2 w4 := by first | exact B3.trans (hb4.mono B3.size) | exact (B3.alloc B3.size _).trans (hb4.mono (Nat.le_trans B3.size (by simp)))))
        | (go_at_call 10; refine ((unhide CS) _ _ (by first | exact o3.rd.below hb4 | exact (o3.rd.below hb4).alloc _ | exact (o3.rd.alloc _).below hb4)).mono ?_; rintro e w5 ⟨⟨a_oW, q_oW, rfl, o5⟩, hb5⟩; (have B5 : Below w2.heap.size w2 w5 := by first | exact B4.trans (hb5.mono B4.size) | exact (B4.alloc B4.size _).trans (hb5.mono (Nat.le_trans B4.size (by simp)))); (first | (have X : Box w5 w2.heap.size 31 (.slice none 0 0) := ((((Box.new w2.drew 31 (.slice none 0 0)).step hb3).step hb4).step hb5); have cX := X.cell; have zX := X.frozen; have lX := X.lt) | (have X : Box w5 w3.heap.size 31 (.slice none 0 0) := (((Box.new w3 31 (.slice none 0 0)).step hb4).step hb5); have cX := X.cell; have zX := X.frozen; have lX := X.lt) | (have X : Box w5 w4.heap.size 31 (.slice none 0 0) := ((Box.new w4 31 (.slice none 0 0)).step hb5); have cX := X.cell; have zX := X.frozen; have lX := X.lt) | skip)))
      all_goals
        have sB3 : w2.heap.size ≤ w3.heap.size := B3.size
        have sB4 : w2.heap.size ≤ w4.heap.size := B4.size
        have sB5 : w2.heap.size ≤ w5.heap.size := B5.size
        have sC3 := hb3.size
        try simp only [World.size_alloc] at sC3
        have sC4 := hb4.size
        try simp only [World.size_alloc] at sC4
        have sC5 := hb5.size
        try simp only [World.size_alloc] at sC5
        have td : w2.drew.heap.size = w2.heap.size := rfl
        first
        | exact cont w5.heap.size _ _ _ _ (by omega) ((o5.alloc _).low (by omega)) (Box.new w5 _ _) (B5.alloc B5.size _)
        | exact cont w4.heap.size _ _ _ _ (by omega) ((o5.other (a := ⟨w4.heap.size, 0, none⟩) (by exact (Box.new w4 31 (.slice none 0 0)).lt) _).low (by first | omega | (simp; omega) | (simp; done))) (((Box.new w4 31 (.slice none 0 0)).step hb5).set _) (B5.setCell (p := ⟨w4.heap.size, 0, none⟩) (by show w2.heap.size ≤ w4.heap.size; omega) _)
        | exact cont w3.heap.size _ _ _ _ (by omega) ((o5.other (a := ⟨w3.heap.size, 0, none⟩) (by exact Nat.lt_of_lt_of_le (Box.new w3 31 (.slice none 0 0)).lt hb4.size) _).low (by first | omega | (simp; omega) | (simp; done))) ((((Box.new w3 31 (.slice none 0 0)).step hb4).step hb5).set _) (B5.setCell (p := ⟨w3.heap.size, 0, none⟩) (by show w2.heap.size ≤ w3.heap.size; omega) _)
        | exact cont w2.heap.size _ _ _ _ (by omega) ((o5.other (a := ⟨w2.heap.size, 0, none⟩) (by exact Nat.lt_of_lt_of_le (Box.new w2.drew 31 (.slice none 0 0)).lt (Nat.le_trans hb3.size hb4.size)) _).low (by first | omega | (simp; omega) | (simp; done))) (((((Box.new w2.drew 31 (.slice none 0 0)).step hb3).step hb4).step hb5).set _) (B5.setCell (p := ⟨w2.heap.size, 0, none⟩) (by show w2.heap.size ≤ w2.heap.size; omega) _)
    dsimp only
    intro g2 w3 vx a_oW q_oW hg oo bb hbq
    refine hK _ _ ?_
    clear hK K KS HBn
    have bA_3 := hide ((unhide bA_2).step hbq)
    have bB_3 := hide ((unhide bB_2).step hbq)
    have HB_3 := hide (bTr (unhide HB_2) hbq)
    have s_3 := sz0 hbq
    clear bA_2 bB_2 HB_2
    replace hbq := hide hbq
    have oW_3 := hide oo
    clear oo
    have L_oW : Hid (Lies _ _ _) := fun k hk => (unhide oW_3).lt k hk
    have lg2 := bb.lt
    have bW_3 := hide bb
    clear bb
    have c_bA := (unhide bA_3).cell
    have l_bA := (unhide bA_3).lt
    have c_bW := (unhide bW_3).cell
    have l_bW := (unhide bW_3).lt
    obtain ⟨c0_bB, c1_bB, c2_bB, c3_bB⟩ := (unhide bB_3).at
    have l_bB := (unhide bB_3).lt
    go_wp2_with fail
    clear c_bA l_bA c_bW l_bW c0_bB c1_bB c2_bB c3_bB l_bB
    refine ((unhide CT) _ ((unhide hr).below (unhide HB_3))).mono ?_
    rintro e w4 ⟨⟨a_oX, q_oX, rfl, o4⟩, hb4⟩
    have bA_4 := hide ((unhide bA_3).step hb4)
    have bW_4 := hide ((unhide bW_3).step hb4)
    have bB_4 := hide ((unhide bB_3).step hb4)
    have oW_4 := hide ((unhide oW_3).below hb4)
    have HB_4 := hide (bTr (unhide HB_3) hb4)
    have s_4 := sz0 hb4
    clear bA_3 bW_3 bB_3 oW_3 HB_3
    replace hb4 := hide hb4
    have oX_4 := hide o4
    clear o4
    have L_oX : Hid (Lies _ _ _) := fun k hk => (unhide oX_4).lt k hk
    have c_bA := (unhide bA_4).cell
    have l_bA := (unhide bA_4).lt
    have c_bW := (unhide bW_4).cell
    have l_bW := (unhide bW_4).lt
    obtain ⟨c0_bB, c1_bB, c2_bB, c3_bB⟩ := (unhide bB_4).at
    have l_bB := (unhide bB_4).lt
    go_wp2_with fail
    clear c_bA l_bA c_bW l_bW c0_bB c1_bB c2_bB c3_bB l_bB
    obtain ⟨w5, e5, b5, hb5, z5⟩ := one_box w4 31 (.slice a_oX fs.length q_oX)
    rw [e5]
    clear e5
    have y5 : w4.heap.size < w5.heap.size := by omega
    clear z5
    have bA_5 := hide ((unhide bA_4).step hb5)
    have bW_5 := hide ((unhide bW_4).step hb5)
    have bB_5 := hide ((unhide bB_4).step hb5)
    have oW_5 := hide ((unhide oW_4).below hb5)
    have oX_5 := hide ((unhide oX_4).below hb5)
    have HB_5 := hide (bTr (unhide HB_4) hb5)
    have s_5 := sz0 hb5
    clear bA_4 bW_4 bB_4 oW_4 oX_4 HB_4
    replace hb5 := hide hb5
    have bX_5 := hide b5
    clear b5
    have c_bA := (unhide bA_5).cell
    have l_bA := (unhide bA_5).lt
    have c_bW := (unhide bW_5).cell
    have l_bW := (unhide bW_5).lt
    have c_bX := (unhide bX_5).cell
    have l_bX := (unhide bX_5).lt
    obtain ⟨c0_bB, c1_bB, c2_bB, c3_bB⟩ := (unhide bB_5).at
    have l_bB := (unhide bB_5).lt
    have KS : Hid (∀ W, Below w5.heap.size w5 W → W.cell? ⟨w4.heap.size, 0, none⟩ = some (.slice a_oX fs.length q_oX) ∧ W.cell? ⟨w.heap.size + 1, 0, none⟩ = some (.int .i64 ac.kd) ∧ W.cell? ⟨w.heap.size + 1, 1, none⟩ = some (.string ac.nm) ∧ W.cell? ⟨w.heap.size + 1, 2, none⟩ = some (.string ac.tx) ∧ W.cell? ⟨w.heap.size + 1, 3, none⟩ = some (.string ac.to)) := fun W hB => ⟨(hB.cell (p := ⟨w4.heap.size, 0, none⟩) l_bX).trans c_bX, (hB.cell (p := ⟨w.heap.size + 1, 0, none⟩) l_bB).trans c0_bB, (hB.cell (p := ⟨w.heap.size + 1, 1, none⟩) l_bB).trans c1_bB, (hB.cell (p := ⟨w.heap.size + 1, 2, none⟩) l_bB).trans c2_bB, (hB.cell (p := ⟨w.heap.size + 1, 3, none⟩) l_bB).trans c3_bB⟩
    clear c_bA l_bA c_bW l_bW c_bX l_bX c0_bB c1_bB c2_bB c3_bB l_bB
    rename_i K hK
    suffices cont : ∀ (g : Nat) (wq : World) (a_oG : Option Addr) (q_oG : Nat), w5.heap.size ≤ g → (Value.slice a_oG rs.length q_oG).ownBlock ≠ some g → OwnF wq w5.heap.size 63 (.slice a_oG rs.length q_oG) rs → Box wq g 31 (.slice a_oG rs.length q_oG) → Below w5.heap.size w5 wq → K { tmps := #[.agg #[.slice a fs.length c], .agg #[.int .i64 ac.kd, .string ac.nm, .string ac.tx, .string ac.to], .pointer (some ⟨w.heap.size, 0, none⟩), .pointer (some ⟨w.heap.size + 1, 0, none⟩), .bool false, .int .i64 (m2 : Int), .pointer (some ⟨g2, 0, none⟩), .bool okb, .pointer (some ⟨w4.heap.size, 0, none⟩), .pointer (some ⟨g, 0, none⟩), .bool okb, undef, undef, undef, undef, undef, .agg #[.slice a fs.length c], .int .i64 1048576, .int .i64 (m : Int), .int .i64 (m : Int), .bool (decide ((m : Int) < 0)), .agg #[.int .i64 ac.kd, .string ac.nm, .string ac.tx, .string ac.to], .int .i64 (m : Int), .int .i64 (m2 : Int), .int .i64 (m2 : Int), .bool (decide ((m2 : Int) < 0)), .tuple #[.agg #[.slice a_oW rs.length q_oW], .bool okb], .agg #[.slice a fs.length c], vx, .agg #[.int .i64 ac.kd, .string ac.nm, .string ac.tx, .string ac.to], .agg #[.int .i64 ac.kd, .string ac.nm, .string ac.tx, .string ac.to], .tuple #[.agg #[.slice a_oW rs.length q_oW], .bool okb], .agg #[.slice a_oW rs.length q_oW], .bool okb, .agg #[.slice a fs.length c], .agg #[.slice a_oX fs.length q_oX], .tuple #[.agg #[.slice a_oG rs.length q_oG], .bool okb], .agg #[.slice a_oX fs.length q_oX], .agg #[.int .i64 ac.kd, .string ac.nm, .string ac.tx, .string ac.to], .agg #[.int .i64 ac.kd, .string ac.nm, .string ac.tx, .string ac.to], .tuple #[.agg #[.slice a_oG rs.length q_oG], .bool okb], .agg #[.slice a_oG rs.length q_oG], .bool okb, undef, undef, undef, undef, undef, undef, undef, undef, undef, undef, undef, undef, undef, undef, undef, undef, undef, undef, undef, undef, undef, undef, undef, undef, undef, undef, undef, undef, undef, undef, undef, undef, undef, undef, undef, undef, undef, undef, undef, undef, undef, undef, undef, undef, undef, undef, undef, undef, undef, undef, undef, undef, undef, undef, undef, undef, undef, undef, undef, undef, undef, undef, undef, undef, undef, undef], defers := [] } wq by
      go_region_held3 (fun W => W.cell? ⟨w4.heap.size, 0, none⟩ = some (.slice a_oX fs.length q_oX) ∧ W.cell? ⟨w.heap.size + 1, 0, none⟩ = some (.int .i64 ac.kd) ∧ W.cell? ⟨w.heap.size + 1, 1, none⟩ = some (.string ac.nm) ∧ W.cell? ⟨w.heap.size + 1, 2, none⟩ = some (.string ac.tx) ∧ W.cell? ⟨w.heap.size + 1, 3, none⟩ = some (.string ac.to)) (first | exact (unhide KS) _ ((Below.refl _ w5).drew) | exact (unhide KS) _ (((Below.refl _ w5).drew).alloc (Nat.le_refl _) _) | exact (unhide KS) _ B6 | exact (unhide KS) _ (B6.alloc B6.size _) | exact (unhide KS) _ B7 | exact (unhide KS) _ (B7.alloc B7.size _) | exact (unhide KS) _ (B7.setCell (p := ⟨w5.heap.size, 0, none⟩) (by show w5.heap.size ≤ w5.heap.size; first | exact Nat.le_refl _ | exact B6.size | exact B7.size) _) | exact (unhide KS) _ (B7.setCell (p := ⟨w6.heap.size, 0, none⟩) (by show w5.heap.size ≤ w6.heap.size; first | exact Nat.le_refl _ | exact B6.size | exact B7.size) _) | exact (unhide KS) _ (B7.setCell (p := ⟨w7.heap.size, 0, none⟩) (by show w5.heap.size ≤ w7.heap.size; first | exact Nat.le_refl _ | exact B6.size | exact B7.size) _)) (first
        | (go_at_call 12; refine ((unhide CA) _).mono ?_; rintro e w6 ⟨rfl, hb6⟩; (have B6 : Below w5.heap.size w5 w6 := by first | exact ((Below.refl _ w5).drew).trans (hb6.mono (Nat.le_refl _)) | exact (((Below.refl _ w5).drew).alloc (Nat.le_refl _) _).trans (hb6.mono (Nat.le_trans (Nat.le_refl _) (by simp)))))
        | (go_at_call 13; refine ((unhide CM) _ _ (by first | exact ((unhide oX_5).rd.drew).below hb6 | exact ((((unhide oX_5).rd.drew).below hb6)).alloc _ | exact ((((unhide oX_5).rd.drew)).alloc _).below hb6)).mono ?_; rintro e w7 ⟨⟨a_oG, q_oG, rfl, o7⟩, hb7⟩; (have B7 : Below w5.heap.size w5 w7 := by first | exact B6.trans (hb7.mono B6.size) | exact (B6.alloc B6.size _).trans (hb7.mono (Nat.le_trans B6.size (by simp)))); (first | (have X : Box w7 w5.heap.size 31 (.slice none 0 0) := (((Box.new w5.drew 31 (.slice none 0 0)).step hb6).step hb7); have cX := X.cell; have zX := X.frozen; have lX := X.lt) | (have X : Box w7 w6.heap.size 31 (.slice none 0 0) := ((Box.new w6 31 (.slice none 0 0)).step hb7); have cX := X.cell; have zX := X.frozen; have lX := X.lt) | skip)))
      all_goals
        have sB6 : w5.heap.size ≤ w6.heap.size := B6.size
        have sB7 : w5.heap.size ≤ w7.heap.size := B7.size
        first
        | exact cont w7.heap.size _ _ _ (by omega) (fun h => by have := (o7.lt _ h).2; omega) ((o7.alloc _).low (by omega)) (Box.new w7 _ _) (B7.alloc B7.size _)
        | exact cont w6.heap.size _ _ _ (by omega) (fun h => absurd (o7.lt _ h).1 (Nat.not_le.2 (by exact (Box.new w6 31 (.slice none 0 0)).lt))) ((o7.other (a := ⟨w6.heap.size, 0, none⟩) (by exact (Box.new w6 31 (.slice none 0 0)).lt) _).low (by first | omega | (simp; omega) | (simp; done))) (((Box.new w6 31 (.slice none 0 0)).step hb7).set _) (B7.setCell (p := ⟨w6.heap.size, 0, none⟩) (by show w5.heap.size ≤ w6.heap.size; omega) _)
        | exact cont w5.heap.size _ _ _ (by omega) (fun h => absurd (o7.lt _ h).1 (Nat.not_le.2 (by exact Nat.lt_of_lt_of_le (Box.new w5.drew 31 (.slice none 0 0)).lt hb6.size))) ((o7.other (a := ⟨w5.heap.size, 0, none⟩) (by exact Nat.lt_of_lt_of_le (Box.new w5.drew 31 (.slice none 0 0)).lt hb6.size) _).low (by first | omega | (simp; omega) | (simp; done))) ((((Box.new w5.drew 31 (.slice none 0 0)).step hb6).step hb7).set _) (B7.setCell (p := ⟨w5.heap.size, 0, none⟩) (by show w5.heap.size ≤ w5.heap.size; omega) _)
    dsimp only
    intro g5 w6 a_oG q_oG hg2 neG oo bb hbq
    have NG := hide neG
    clear neG
    refine hK _ _ ?_
    clear hK K KS
    have bA_6 := hide ((unhide bA_5).step hbq)
    have bW_6 := hide ((unhide bW_5).step hbq)
    have bX_6 := hide ((unhide bX_5).step hbq)
    have bB_6 := hide ((unhide bB_5).step hbq)
    have oW_6 := hide ((unhide oW_5).below hbq)
    have oX_6 := hide ((unhide oX_5).below hbq)
    have HB_6 := hide (bTr (unhide HB_5) hbq)
    have s_6 := sz0 hbq
    clear bA_5 bW_5 bX_5 bB_5 oW_5 oX_5 HB_5
    replace hbq := hide hbq
    have oG_6 := hide oo
    clear oo
    have L_oG : Hid (Lies _ _ _) := fun k hk => (unhide oG_6).lt k hk
    have lg5 := bb.lt
    have bG_6 := hide bb
    clear bb
    have c_bA := (unhide bA_6).cell
    have l_bA := (unhide bA_6).lt
    have c_bW := (unhide bW_6).cell
    have l_bW := (unhide bW_6).lt
    have c_bX := (unhide bX_6).cell
    have l_bX := (unhide bX_6).lt
    have c_bG := (unhide bG_6).cell
    have l_bG := (unhide bG_6).lt
    obtain ⟨c0_bB, c1_bB, c2_bB, c3_bB⟩ := (unhide bB_6).at
    have l_bB := (unhide bB_6).lt
    go_wp2_with fail
    clear c_bA l_bA c_bW l_bW c_bX l_bX c_bG l_bG c0_bB c1_bB c2_bB c3_bB l_bB
    refine ((unhide CE) _ _ _ (unhide oG_6).rd (unhide oW_6).rd).mono ?_
    rintro e w7 ⟨rfl, hb7⟩
    have bA_7 := hide ((unhide bA_6).step hb7)
    have bW_7 := hide ((unhide bW_6).step hb7)
    have bX_7 := hide ((unhide bX_6).step hb7)
    have bG_7 := hide ((unhide bG_6).step hb7)
    have bB_7 := hide ((unhide bB_6).step hb7)
    have oW_7 := hide ((unhide oW_6).below hb7)
    have oX_7 := hide ((unhide oX_6).below hb7)
    have oG_7 := hide ((unhide oG_6).below hb7)
    have HB_7 := hide (bTr (unhide HB_6) hb7)
    have s_7 := sz0 hb7
    clear bA_6 bW_6 bX_6 bG_6 bB_6 oW_6 oX_6 oG_6 HB_6
    replace hb7 := hide hb7
    have c_bA := (unhide bA_7).cell
    have l_bA := (unhide bA_7).lt
    have c_bW := (unhide bW_7).cell
    have l_bW := (unhide bW_7).lt
    have c_bX := (unhide bX_7).cell
    have l_bX := (unhide bX_7).lt
    have c_bG := (unhide bG_7).cell
    have l_bG := (unhide bG_7).lt
    obtain ⟨c0_bB, c1_bB, c2_bB, c3_bB⟩ := (unhide bB_7).at
    have l_bB := (unhide bB_7).lt
    go_wp2_with fail
    go_region_held3 (fun W => W.cell? ⟨w4.heap.size, 0, none⟩ = some (.slice a_oX fs.length q_oX) ∧ W.cell? ⟨w.heap.size, 0, none⟩ = some (.slice a fs.length c)) (first | exact ⟨c_bX, c_bA⟩ | exact ⟨(hb8.cell (p := ⟨w4.heap.size, 0, none⟩) l_bX).trans c_bX, (hb8.cell (p := ⟨w.heap.size, 0, none⟩) l_bA).trans c_bA⟩ | (have hb67 := hb8.trans (hb9.mono hb8.size); exact ⟨(hb67.cell (p := ⟨w4.heap.size, 0, none⟩) l_bX).trans c_bX, (hb67.cell (p := ⟨w.heap.size, 0, none⟩) l_bA).trans c_bA⟩)) (first
      | (go_at_call 11; refine ((unhide CT) _ (by exact ((unhide hr).below (unhide HB_7)).drew)).mono ?_; rintro e w8 ⟨⟨a_t, q_t, rfl, o8⟩, hb8⟩)
      | (go_at_call 14; refine ((unhide CEF) _ _ _ (by exact ((unhide oX_7).rd.drew).below hb8) (by exact o8.rd)).mono ?_; rintro e w9 ⟨rfl, hb9⟩))
    clear c_bA l_bA c_bW l_bW c_bX l_bX c_bG l_bG c0_bB c1_bB c2_bB c3_bB l_bB
    have hbd7 : Below w7.heap.size w7 w9 := (Below.refl _ w7).drew.trans (hb8.trans (hb9.mono hb8.size))
    clear hb8 hb9 o8
    have bA_9 := hide ((unhide bA_7).step hbd7)
    have bW_9 := hide ((unhide bW_7).step hbd7)
    have bX_9 := hide ((unhide bX_7).step hbd7)
    have bG_9 := hide ((unhide bG_7).step hbd7)
    have bB_9 := hide ((unhide bB_7).step hbd7)
    have oW_9 := hide ((unhide oW_7).below hbd7)
    have oX_9 := hide ((unhide oX_7).below hbd7)
    have oG_9 := hide ((unhide oG_7).below hbd7)
    have HB_9 := hide (bTr (unhide HB_7) hbd7)
    have s_9 := sz0 hbd7
    clear bA_7 bW_7 bX_7 bG_7 bB_7 oW_7 oX_7 oG_7 HB_7
    replace hbd7 := hide hbd7
    have c_bA := (unhide bA_9).cell
    have l_bA := (unhide bA_9).lt
    have c_bW := (unhide bW_9).cell
    have l_bW := (unhide bW_9).lt
    have c_bX := (unhide bX_9).cell
    have l_bX := (unhide bX_9).lt
    have c_bG := (unhide bG_9).cell
    have l_bG := (unhide bG_9).lt
    obtain ⟨c0_bB, c1_bB, c2_bB, c3_bB⟩ := (unhide bB_9).at
    have l_bB := (unhide bB_9).lt
    go_wp2_with fail
    clear c_bA l_bA c_bW l_bW c_bX l_bX c_bG l_bG c0_bB c1_bB c2_bB c3_bB l_bB
    refine (markDisk_any _ _ 1 M1 fs _ (unhide HM1) (by omega) (Nat.le_refl _) (by decide) (by first | omega | (simp; omega)) (unhide oX_9)).mono ?_
    rintro e w10 ⟨rfl, om10, hg10⟩
    have bA_10 := hide ((unhide bA_9).grown hg10 ((unhide L_oX).box (by omega)))
    have bW_10 := hide ((unhide bW_9).grown hg10 ((unhide L_oX).box (by omega)))
    have bX_10 := hide ((unhide bX_9).grown hg10 ((unhide L_oX).box (by omega)))
    have bG_10 := hide ((unhide bG_9).grown hg10 ((unhide L_oX).box (by omega)))
    have bB_10 := hide ((unhide bB_9).grown hg10 ((unhide L_oX).box (by omega)))
    have oW_10 := hide ((unhide oW_9).grown hg10 ((unhide L_oW).apart (unhide L_oX) (by omega)))
    have oG_10 := hide ((unhide oG_9).grown hg10 ((unhide L_oG).apart (unhide L_oX) (by omega)))
    have HB_10 := hide (bTrG (unhide HB_9) hg10 ((unhide L_oX).from (by omega)))
    have s_10 := hg10.size
    clear bA_9 bW_9 bX_9 bG_9 bB_9 oW_9 oG_9 HB_9
    replace hg10 := hide hg10
    have oX_10 := hide om10
    clear om10 oX_9
    have c_bA := (unhide bA_10).cell
    have l_bA := (unhide bA_10).lt
    have c_bW := (unhide bW_10).cell
    have l_bW := (unhide bW_10).lt
    have c_bX := (unhide bX_10).cell
    have l_bX := (unhide bX_10).lt
    have c_bG := (unhide bG_10).cell
    have l_bG := (unhide bG_10).lt
    obtain ⟨c0_bB, c1_bB, c2_bB, c3_bB⟩ := (unhide bB_10).at
    have l_bB := (unhide bB_10).lt
    go_wp2_with fail
    clear c_bA l_bA c_bW l_bW c_bX l_bX c_bG l_bG c0_bB c1_bB c2_bB c3_bB l_bB
    refine ((unhide CE) _ _ _ (unhide oG_10).rd (unhide oW_10).rd).mono ?_
    rintro e w11 ⟨rfl, hb11⟩
    have bA_11 := hide ((unhide bA_10).step hb11)
    have bW_11 := hide ((unhide bW_10).step hb11)
    have bX_11 := hide ((unhide bX_10).step hb11)
    have bG_11 := hide ((unhide bG_10).step hb11)
    have bB_11 := hide ((unhide bB_10).step hb11)
    have oW_11 := hide ((unhide oW_10).below hb11)
    have oX_11 := hide ((unhide oX_10).below hb11)
    have oG_11 := hide ((unhide oG_10).below hb11)
    have HB_11 := hide (bTr (unhide HB_10) hb11)
    have s_11 := sz0 hb11
    clear bA_10 bW_10 bX_10 bG_10 bB_10 oW_10 oX_10 oG_10 HB_10
    replace hb11 := hide hb11
    have c_bA := (unhide bA_11).cell
    have l_bA := (unhide bA_11).lt
    have c_bW := (unhide bW_11).cell
    have l_bW := (unhide bW_11).lt
    have c_bX := (unhide bX_11).cell
    have l_bX := (unhide bX_11).lt
    have c_bG := (unhide bG_11).cell
    have l_bG := (unhide bG_11).lt
    obtain ⟨c0_bB, c1_bB, c2_bB, c3_bB⟩ := (unhide bB_11).at
    have l_bB := (unhide bB_11).lt
    go_wp2_with fail
    clear c_bA l_bA c_bW l_bW c_bX l_bX c_bG l_bG c0_bB c1_bB c2_bB c3_bB l_bB
    refine (markDisk_any _ _ 1 M3 rs _ (unhide HM3) (by omega) (Nat.le_refl _) (by decide) (by first | omega | (simp; omega)) (unhide oG_11)).mono ?_
    rintro e w12 ⟨rfl, om12, hg12⟩
    have bA_12 := hide ((unhide bA_11).grown hg12 ((unhide L_oG).box (by omega)))
    have bW_12 := hide ((unhide bW_11).grown hg12 ((unhide L_oG).box (by omega)))
    have bX_12 := hide ((unhide bX_11).grown hg12 ((unhide L_oG).box (by omega)))
    have bG_12 := hide ((unhide bG_11).grown hg12 (unhide NG))
    have bB_12 := hide ((unhide bB_11).grown hg12 ((unhide L_oG).box (by omega)))
    have oW_12 := hide ((unhide oW_11).grown hg12 ((unhide L_oW).apart (unhide L_oG) (by omega)))
    have oX_12 := hide ((unhide oX_11).grown hg12 ((unhide L_oX).apart (unhide L_oG) (by omega)))
    have HB_12 := hide (bTrG (unhide HB_11) hg12 ((unhide L_oG).from (by omega)))
    have s_12 := hg12.size
    clear bA_11 bW_11 bX_11 bG_11 bB_11 oW_11 oX_11 HB_11
    replace hg12 := hide hg12
    have oG_12 := hide om12
    clear om12 oG_11
    have c_bA := (unhide bA_12).cell
    have l_bA := (unhide bA_12).lt
    have c_bW := (unhide bW_12).cell
    have l_bW := (unhide bW_12).lt
    have c_bX := (unhide bX_12).cell
    have l_bX := (unhide bX_12).lt
    have c_bG := (unhide bG_12).cell
    have l_bG := (unhide bG_12).lt
    obtain ⟨c0_bB, c1_bB, c2_bB, c3_bB⟩ := (unhide bB_12).at
    have l_bB := (unhide bB_12).lt
    go_wp2_with fail
    clear c_bA l_bA c_bW l_bW c_bX l_bX c_bG l_bG c0_bB c1_bB c2_bB c3_bB l_bB
    refine (heldDisk_any _ _ 1 rs.length M3 _ (unhide HM3) (by omega) (Nat.le_refl _) (by decide) (unhide oG_12)).mono ?_
    rintro e w13 ⟨rfl, hb13⟩
    have bA_13 := hide ((unhide bA_12).step hb13)
    have bW_13 := hide ((unhide bW_12).step hb13)
    have bX_13 := hide ((unhide bX_12).step hb13)
    have bG_13 := hide ((unhide bG_12).step hb13)
    have bB_13 := hide ((unhide bB_12).step hb13)
    have oW_13 := hide ((unhide oW_12).below hb13)
    have oX_13 := hide ((unhide oX_12).below hb13)
    have oG_13 := hide ((unhide oG_12).below hb13)
    have HB_13 := hide (bTr (unhide HB_12) hb13)
    have s_13 := sz0 hb13
    clear bA_12 bW_12 bX_12 bG_12 bB_12 oW_12 oX_12 oG_12 HB_12
    replace hb13 := hide hb13
    have c_bA := (unhide bA_13).cell
    have l_bA := (unhide bA_13).lt
    have c_bW := (unhide bW_13).cell
    have l_bW := (unhide bW_13).lt
    have c_bX := (unhide bX_13).cell
    have l_bX := (unhide bX_13).lt
    have c_bG := (unhide bG_13).cell
    have l_bG := (unhide bG_13).lt
    obtain ⟨c0_bB, c1_bB, c2_bB, c3_bB⟩ := (unhide bB_13).at
    have l_bB := (unhide bB_13).lt
    go_wp2_with fail
    have KS : Hid (∀ W, Below w13.heap.size w13 W → W.cell? ⟨w.heap.size, 0, none⟩ = some (.slice a fs.length c) ∧ W.cell? ⟨w.heap.size + 1, 0, none⟩ = some (.int .i64 ac.kd) ∧ W.cell? ⟨w.heap.size + 1, 1, none⟩ = some (.string ac.nm) ∧ W.cell? ⟨w.heap.size + 1, 2, none⟩ = some (.string ac.tx) ∧ W.cell? ⟨w.heap.size + 1, 3, none⟩ = some (.string ac.to)) := fun W hB => ⟨(hB.cell (p := ⟨w.heap.size, 0, none⟩) l_bA).trans c_bA, (hB.cell (p := ⟨w.heap.size + 1, 0, none⟩) l_bB).trans c0_bB, (hB.cell (p := ⟨w.heap.size + 1, 1, none⟩) l_bB).trans c1_bB, (hB.cell (p := ⟨w.heap.size + 1, 2, none⟩) l_bB).trans c2_bB, (hB.cell (p := ⟨w.heap.size + 1, 3, none⟩) l_bB).trans c3_bB⟩
    clear c_bA l_bA c_bW l_bW c_bX l_bX c_bG l_bG c0_bB c1_bB c2_bB c3_bB l_bB
    have HBn := hide (unhide HB_13)
    go_region_held3 (fun W => W.cell? ⟨w.heap.size, 0, none⟩ = some (.slice a fs.length c) ∧ W.cell? ⟨w.heap.size + 1, 0, none⟩ = some (.int .i64 ac.kd) ∧ W.cell? ⟨w.heap.size + 1, 1, none⟩ = some (.string ac.nm) ∧ W.cell? ⟨w.heap.size + 1, 2, none⟩ = some (.string ac.tx) ∧ W.cell? ⟨w.heap.size + 1, 3, none⟩ = some (.string ac.to)) (first | exact (unhide KS) _ ((Below.refl _ w13).drew) | exact (unhide KS) _ (((Below.refl _ w13).drew).alloc (Nat.le_refl _) _) | exact (unhide KS) _ B14 | exact (unhide KS) _ (B14.alloc B14.size _) | exact (unhide KS) _ B15 | exact (unhide KS) _ (B15.alloc B15.size _) | exact (unhide KS) _ B16 | exact (unhide KS) _ (B16.alloc B16.size _) | exact (unhide KS) _ (B16.setCell (p := ⟨w13.heap.size, 0, none⟩) (by show w13.heap.size ≤ w13.heap.size; first | exact Nat.le_refl _ | exact B14.size | exact B15.size | exact B16.size) _) | exact (unhide KS) _ (B16.setCell (p := ⟨w14.heap.size, 0, none⟩) (by show w13.heap.size ≤ w14.heap.size; first | exact Nat.le_refl _ | exact B14.size | exact B15.size | exact B16.size) _) | exact (unhide KS) _ (B16.setCell (p := ⟨w15.heap.size, 0, none⟩) (by show w13.heap.size ≤ w15.heap.size; first | exact Nat.le_refl _ | exact B14.size | exact B15.size | exact B16.size) _) | exact (unhide KS) _ (B16.setCell (p := ⟨w16.heap.size, 0, none⟩) (by show w13.heap.size ≤ w16.heap.size; first | exact Nat.le_refl _ | exact B14.size | exact B15.size | exact B16.size) _)) (first
      | (go_at_call 11; refine ((unhide CT) _ (by first | exact ((unhide hr).below (unhide HB_13)).drew | exact (((unhide hr).below (unhide HB_13)).drew).alloc _)).mono ?_; rintro e w14 ⟨⟨a_x, q_x, rfl, o14⟩, hb14⟩; (have B14 : Below w13.heap.size w13 w14 := by first | exact ((Below.refl _ w13).drew).trans (hb14.mono (Nat.le_refl _)) | exact (((Below.refl _ w13).drew).alloc (Nat.le_refl _) _).trans (hb14.mono (Nat.le_trans (Nat.le_refl _) (by simp)))))
      | (go_at_call 12; refine ((unhide CA) _).mono ?_; rintro e w15 ⟨rfl, hb15⟩; (have B15 : Below w13.heap.size w13 w15 := by first | exact B14.trans (hb15.mono B14.size) | exact (B14.alloc B14.size _).trans (hb15.mono (Nat.le_trans B14.size (by simp)))))
      | (go_at_call 13; refine ((unhide CM) _ _ (by first | exact o14.rd.below hb15 | exact (o14.rd.below hb15).alloc _ | exact (o14.rd.alloc _).below hb15)).mono ?_; rintro e w16 ⟨⟨a_oH, q_oH, rfl, o16⟩, hb16⟩; (have B16 : Below w13.heap.size w13 w16 := by first | exact B15.trans (hb16.mono B15.size) | exact (B15.alloc B15.size _).trans (hb16.mono (Nat.le_trans B15.size (by simp)))); (first | (have X : Box w16 w13.heap.size 31 (.slice none 0 0) := ((((Box.new w13.drew 31 (.slice none 0 0)).step hb14).step hb15).step hb16); have cX := X.cell; have zX := X.frozen; have lX := X.lt) | (have X : Box w16 w14.heap.size 31 (.slice none 0 0) := (((Box.new w14 31 (.slice none 0 0)).step hb15).step hb16); have cX := X.cell; have zX := X.frozen; have lX := X.lt) | (have X : Box w16 w15.heap.size 31 (.slice none 0 0) := ((Box.new w15 31 (.slice none 0 0)).step hb16); have cX := X.cell; have zX := X.frozen; have lX := X.lt) | skip)))
    all_goals
      have sB14 : w13.heap.size ≤ w14.heap.size := B14.size
      have sB15 : w13.heap.size ≤ w15.heap.size := B15.size
      have sB16 : w13.heap.size ≤ w16.heap.size := B16.size
      first
      | (have bz := Box.new w16 31 (.slice a_oH rs.length q_oH); have oz := (o16.alloc (.cells #[(.slice a_oH rs.length q_oH)] 31)).low (base' := w13.heap.size) (by omega); have hz := B16.alloc B16.size (.cells #[(.slice a_oH rs.length q_oH)] 31); generalize w16.alloc (.cells #[(.slice a_oH rs.length q_oH)] 31) = w17 at bz oz hz ⊢; show Exit.then _ _ Exit.normal _ w17)
      | (have bz : Box (w16.setCell ⟨w15.heap.size, 0, none⟩ (.slice a_oH rs.length q_oH)) w15.heap.size 31 (.slice a_oH rs.length q_oH) := ((Box.new w15 31 (.slice none 0 0)).step hb16).set (.slice a_oH rs.length q_oH); have oz := (o16.other (a := ⟨w15.heap.size, 0, none⟩) (by exact (Box.new w15 31 (.slice none 0 0)).lt) (.slice a_oH rs.length q_oH)).low (base' := w13.heap.size) (by first | omega | (simp; omega) | (simp; done)); have hz := B16.setCell (p := ⟨w15.heap.size, 0, none⟩) (by show w13.heap.size ≤ w15.heap.size; omega) (.slice a_oH rs.length q_oH); generalize w16.setCell ⟨w15.heap.size, 0, none⟩ (.slice a_oH rs.length q_oH) = w17 at bz oz hz ⊢; show Exit.then _ _ Exit.normal _ w17)
      | (have bz : Box (w16.setCell ⟨w14.heap.size, 0, none⟩ (.slice a_oH rs.length q_oH)) w14.heap.size 31 (.slice a_oH rs.length q_oH) := (((Box.new w14 31 (.slice none 0 0)).step hb15).step hb16).set (.slice a_oH rs.length q_oH); have oz := (o16.other (a := ⟨w14.heap.size, 0, none⟩) (by exact Nat.lt_of_lt_of_le (Box.new w14 31 (.slice none 0 0)).lt hb15.size) (.slice a_oH rs.length q_oH)).low (base' := w13.heap.size) (by first | omega | (simp; omega) | (simp; done)); have hz := B16.setCell (p := ⟨w14.heap.size, 0, none⟩) (by show w13.heap.size ≤ w14.heap.size; omega) (.slice a_oH rs.length q_oH); generalize w16.setCell ⟨w14.heap.size, 0, none⟩ (.slice a_oH rs.length q_oH) = w17 at bz oz hz ⊢; show Exit.then _ _ Exit.normal _ w17)
      | (have bz : Box (w16.setCell ⟨w13.heap.size, 0, none⟩ (.slice a_oH rs.length q_oH)) w13.heap.size 31 (.slice a_oH rs.length q_oH) := ((((Box.new w13.drew 31 (.slice none 0 0)).step hb14).step hb15).step hb16).set (.slice a_oH rs.length q_oH); have oz := (o16.other (a := ⟨w13.heap.size, 0, none⟩) (by exact Nat.lt_of_lt_of_le (Box.new w13.drew 31 (.slice none 0 0)).lt (Nat.le_trans hb14.size hb15.size)) (.slice a_oH rs.length q_oH)).low (base' := w13.heap.size) (by first | omega | (simp; omega) | (simp; done)); have hz := B16.setCell (p := ⟨w13.heap.size, 0, none⟩) (by show w13.heap.size ≤ w13.heap.size; omega) (.slice a_oH rs.length q_oH); generalize w16.setCell ⟨w13.heap.size, 0, none⟩ (.slice a_oH rs.length q_oH) = w17 at bz oz hz ⊢; show Exit.then _ _ Exit.normal _ w17)
      clear KS HBn
      have bA_17 := hide ((unhide bA_13).step hz)
      have bW_17 := hide ((unhide bW_13).step hz)
      have bX_17 := hide ((unhide bX_13).step hz)
      have bG_17 := hide ((unhide bG_13).step hz)
      have bB_17 := hide ((unhide bB_13).step hz)
      have oW_17 := hide ((unhide oW_13).below hz)
      have oX_17 := hide ((unhide oX_13).below hz)
      have oG_17 := hide ((unhide oG_13).below hz)
      have HB_17 := hide (bTr (unhide HB_13) hz)
      have s_17 := sz0 hz
      clear bA_13 bW_13 bX_13 bG_13 bB_13 oW_13 oX_13 oG_13 HB_13
      replace hz := hide hz
      have oH_17 := hide oz
      clear oz
      have bH_17 := hide bz
      clear bz
      have c_bA := (unhide bA_17).cell
      have l_bA := (unhide bA_17).lt
      have c_bW := (unhide bW_17).cell
      have l_bW := (unhide bW_17).lt
      have c_bX := (unhide bX_17).cell
      have l_bX := (unhide bX_17).lt
      have c_bG := (unhide bG_17).cell
      have l_bG := (unhide bG_17).lt
      have c_bH := (unhide bH_17).cell
      have l_bH := (unhide bH_17).lt
      obtain ⟨c0_bB, c1_bB, c2_bB, c3_bB⟩ := (unhide bB_17).at
      have l_bB := (unhide bB_17).lt
      go_wp2_with fail
      clear c_bA l_bA c_bW l_bW c_bX l_bX c_bG l_bG c_bH l_bH c0_bB c1_bB c2_bB c3_bB l_bB
      refine ((unhide CE) _ _ _ (unhide oH_17).rd (unhide oW_17).rd).mono ?_
      rintro e w18 ⟨rfl, hb18⟩
      have bA_18 := hide ((unhide bA_17).step hb18)
      have bW_18 := hide ((unhide bW_17).step hb18)
      have bX_18 := hide ((unhide bX_17).step hb18)
      have bG_18 := hide ((unhide bG_17).step hb18)
      have bH_18 := hide ((unhide bH_17).step hb18)
      have bB_18 := hide ((unhide bB_17).step hb18)
      have oW_18 := hide ((unhide oW_17).below hb18)
      have oX_18 := hide ((unhide oX_17).below hb18)
      have oG_18 := hide ((unhide oG_17).below hb18)
      have oH_18 := hide ((unhide oH_17).below hb18)
      have HB_18 := hide (bTr (unhide HB_17) hb18)
      have s_18 := sz0 hb18
      clear bA_17 bW_17 bX_17 bG_17 bH_17 bB_17 oW_17 oX_17 oG_17 oH_17 HB_17
      replace hb18 := hide hb18
      have c_bA := (unhide bA_18).cell
      have l_bA := (unhide bA_18).lt
      have c_bW := (unhide bW_18).cell
      have l_bW := (unhide bW_18).lt
      have c_bX := (unhide bX_18).cell
      have l_bX := (unhide bX_18).lt
      have c_bG := (unhide bG_18).cell
      have l_bG := (unhide bG_18).lt
      have c_bH := (unhide bH_18).cell
      have l_bH := (unhide bH_18).lt
      obtain ⟨c0_bB, c1_bB, c2_bB, c3_bB⟩ := (unhide bB_18).at
      have l_bB := (unhide bB_18).lt
      go_wp2_with fail
      clear c_bA l_bA c_bW l_bW c_bX l_bX c_bG l_bG c_bH l_bH c0_bB c1_bB c2_bB c3_bB l_bB
      refine (heldDisk_any _ _ 1 rs.length M3 _ (unhide HM3) (by omega) (Nat.le_refl _) (by decide) (unhide oG_18)).mono ?_
      rintro e w19 ⟨rfl, hb19⟩
      have bA_19 := hide ((unhide bA_18).step hb19)
      have bW_19 := hide ((unhide bW_18).step hb19)
      have bX_19 := hide ((unhide bX_18).step hb19)
      have bG_19 := hide ((unhide bG_18).step hb19)
      have bH_19 := hide ((unhide bH_18).step hb19)
      have bB_19 := hide ((unhide bB_18).step hb19)
      have oW_19 := hide ((unhide oW_18).below hb19)
      have oX_19 := hide ((unhide oX_18).below hb19)
      have oG_19 := hide ((unhide oG_18).below hb19)
      have oH_19 := hide ((unhide oH_18).below hb19)
      have HB_19 := hide (bTr (unhide HB_18) hb19)
      have s_19 := sz0 hb19
      clear bA_18 bW_18 bX_18 bG_18 bH_18 bB_18 oW_18 oX_18 oG_18 oH_18 HB_18
      replace hb19 := hide hb19
      go_wp2
      go_ret
      exact ⟨rfl, unhide HB_19⟩
end Go.Proofs.Ytfglljollonnfal
