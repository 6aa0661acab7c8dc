/- The law of DoActs, walked: at every disk and every list of acts the two answers are the same, nothing is written into an argument, and what is answered owns its memory. -/
import Derived.Test.YtfglljollonnfalActsS
import Derived.Test.YtfglljollonnfalActH
import Derived.Test.YtfglljollonnfalLawDiskOk
namespace Go.Proofs.Ytfglljollonnfal
open Go.RowKit

theorem runRes_len {fs : List Fl} (as' : List Ac) (h : fs.length ≤ 1048576) : (runL fs as').1.length ≤ 1048576 := by
  cases hok : okL fs with
  | false => rw [runL_no hok]; exact h
  | true => have := (okL_iff.1 (runL_ok as' fs hok)).1; omega
theorem acsBd_of {as' : List Ac} {m l : Nat} (h : m + as'.length + acsSz as' = l) (hl : l ≤ 1048576) : AcsBd as' ∧ as'.length ≤ 1048576 := by
  refine ⟨fun a ha => ?_, by omega⟩
  have := acsSz_mem ha
  unfold acSz at this
  omega

set_option maxRecDepth 20000 in
set_option maxHeartbeats 4000000 in
theorem lawDoActs_any (fs : List Fl) (as' : List Ac) (v va : Value) (w : World) (hr : RdF w v fs) (ha : RdA w va as') (hn : fs.length ≤ maxLen) (hz : ∀ f ∈ fs, f.nm.size ≤ maxLen ∧ f.tx.size ≤ maxLen) (hna : as'.length ≤ maxLen) (hza : ∀ f ∈ as', f.nm.size ≤ maxLen ∧ f.tx.size ≤ maxLen ∧ f.to.size ≤ maxLen) :
    Calls Try.prog 4 #[.agg #[v], va] w fun e w' => e = .returned (.bool true) ∧ Below w.heap.size w w' := by
  have C0 : Hid (∀ W, RdF W v fs → Calls Try.prog 8 #[.agg #[v], .int .i64 1048576] W fun e w' => (∃ r : Int, e = .returned (.int .i64 r) ∧ SzEnd fs r) ∧ Below W.heap.size W w') := fun W h => szDisk_any fs v W h hn hz
  have C1 : Hid (∀ W (l : Nat), l ≤ 1048576 → RdA W va as' → Calls Try.prog 17 #[va, .int .i64 l] W fun e w' => (∃ r : Int, e = .returned (.int .i64 r) ∧ (r = -1 ∨ ∃ m : Nat, r = m ∧ m + as'.length + acsSz as' = l)) ∧ Below W.heap.size W w') := fun W l h h2 => szActS_any as' va l W h2 h hna hza
  obtain ⟨a, c, rfl⟩ := hr.shape
  obtain ⟨aa, ca, rfl⟩ := ha.shape
  replace hr := hide hr
  replace ha := hide ha
  clear hn hz hna hza
  go_enter Try.func4, Try.ntmps4
  go_wp2_with fail
  refine ((unhide C0) _ ((unhide hr).alloc _)).mono ?_
  rintro e w1 ⟨⟨r, rfl, hr1⟩, hb1⟩
  have HB_1 := hide (bTr (bTrA (Below.refl w.heap.size w) _) hb1)
  have bA_1 := hide ((Box.new w _ _).step hb1)
  have s_1 := sz1 hb1
  replace hb1 := hide hb1
  by_cases hneg : r < 0
  · go_wp2
    go_ret
    exact ⟨rfl, unhide HB_1⟩
  · obtain ⟨m, rfl, hsum⟩ : ∃ m : Nat, r = m ∧ m + fs.length + flsSz fs = 1048576 := hr1.resolve_left (by omega)
    have hm1 : m ≤ 1048576 := by omega
    obtain ⟨hBd, hlen⟩ := bd_of hsum
    have hBd := hide hBd
    clear hsum hr1
    have c_bA := (unhide bA_1).cell
    go_wp2_with fail
    clear c_bA
    refine ((unhide C1) _ m hm1 ((unhide ha).below (unhide HB_1))).mono ?_
    rintro e w2 ⟨⟨r2, rfl, hr2⟩, hb2⟩
    have HB_2 := hide (bTr (unhide HB_1) hb2)
    have bA_2 := hide ((unhide bA_1).step hb2)
    have s_2 := sz0 hb2
    clear HB_1 bA_1
    replace hb2 := hide hb2
    by_cases hneg2 : r2 < 0
    · go_wp2
      go_ret
      exact ⟨rfl, unhide HB_2⟩
    obtain ⟨m2, _, hsum2⟩ : ∃ m2 : Nat, r2 = m2 ∧ m2 + as'.length + acsSz as' = m := hr2.resolve_left (by omega)
    obtain ⟨hAB, hal⟩ := acsBd_of hsum2 hm1
    have hAB := hide hAB
    clear hsum2 hr2
    have CT : Hid (∀ W, RdF W (.slice a fs.length c) fs → Calls Try.prog 11 #[.agg #[.slice a fs.length c]] W fun e w' => (∃ a c, e = .returned (.agg #[.slice a fs.length c]) ∧ OwnF w' W.heap.size 63 (.slice a fs.length c) fs) ∧ Below W.heap.size W w') := fun W h => toDisk_any fs _ W h hlen
    have CA : Hid (∀ W, RdA W (.slice aa as'.length ca) as' → Calls Try.prog 19 #[.slice aa as'.length ca] W fun e w' => (∃ a c, e = .returned (.slice a as'.length c) ∧ OwnA w' W.heap.size 35 (.slice a as'.length c) as') ∧ Below W.heap.size W w') := fun W h => toActS_any as' _ W h hal
    have CEF : Hid (∀ W v1 v2, RdF W v1 fs → RdF W v2 fs → Calls Try.prog 14 #[.agg #[v1], .agg #[v2]] W fun e w' => e = .returned (.bool true) ∧ Below W.heap.size W w') := fun W v1 v2 h1 h2 => eqDisk_any fs v1 v2 W h1 h2 (by omega)
    have CEA : Hid (∀ W v1 v2, RdA W v1 as' → RdA W v2 as' → Calls Try.prog 21 #[v1, v2] W fun e w' => e = .returned (.bool true) ∧ Below W.heap.size W w') := fun W v1 v2 h1 h2 => eqActS_any as' v1 v2 W h1 h2 (by omega)
    have CS : Hid (∀ W v1 v2, RdF W v1 fs → RdA W v2 as' → Calls Try.prog 18 #[.agg #[v1], v2] W fun e w' => DnEnd 63 (runL fs as') W e w') := fun W v1 v2 h1 h2 => specDoActs_any fs as' v1 v2 W h1 h2 (unhide hBd) (by omega) (unhide hAB) (by omega)
    have CM : Hid (∀ W v1 v2, RdF W v1 fs → RdA W v2 as' → Calls Try.prog 20 #[.agg #[v1], v2] W fun e w' => DnEnd 63 (runL fs as') W e w') := fun W v1 v2 h1 h2 => implDoActs_any fs as' v1 v2 W h1 h2 (unhide hBd) (by omega) (unhide hAB) (by omega)
    have hrsl := runRes_len as' hlen
    unfold DnEnd at CS CM
    generalize (runL fs as').1 = rs at CS CM hrsl
    generalize (runL fs as').2 = okb at CS CM
    have CE : Hid (∀ W v1 v2, RdF W v1 rs → RdF W v2 rs → Calls Try.prog 14 #[.agg #[v1], .agg #[v2]] W fun e w' => e = .returned (.bool true) ∧ Below W.heap.size W w') := fun W v1 v2 h1 h2 => eqDisk_any rs v1 v2 W h1 h2 (by omega)
    obtain ⟨M1, hM1⟩ : ∃ M : Nat, M = 1 + 3 * fs.length := ⟨_, rfl⟩
    have HM1 := hide hM1
    clear hM1
    obtain ⟨M2, hM2⟩ : ∃ M : Nat, M = M1 + 4 * as'.length := ⟨_, rfl⟩
    have HM2 := hide hM2
    clear hM2
    obtain ⟨M3, hM3⟩ : ∃ M : Nat, M = 1 + 3 * rs.length := ⟨_, rfl⟩
    have HM3 := hide hM3
    clear hM3
    have c_bA := (unhide bA_2).cell
    have l_bA := (unhide bA_2).lt
    go_wp2_with fail
    clear c_bA l_bA
    refine ((unhide CT) _ ((unhide hr).below (unhide HB_2))).mono ?_
    rintro e w3 ⟨⟨a_x, q_x, rfl, o3⟩, hb3⟩
    have bA_3 := hide ((unhide bA_2).step hb3)
    have HB_3 := hide (bTr (unhide HB_2) hb3)
    have s_3 := sz0 hb3
    clear bA_2 HB_2
    replace hb3 := hide hb3
    have x_3 := hide o3
    clear o3
    have L_x : Hid (Lies _ _ _) := fun k hk => (unhide x_3).lt k hk
    have c_bA := (unhide bA_3).cell
    have l_bA := (unhide bA_3).lt
    go_wp2_with fail
    clear c_bA l_bA
    refine ((unhide CA) _ ((unhide ha).below (unhide HB_3))).mono ?_
    rintro e w4 ⟨⟨a_xa, q_xa, rfl, o4⟩, hb4⟩
    have bA_4 := hide ((unhide bA_3).step hb4)
    have x_4 := hide ((unhide x_3).below hb4)
    have HB_4 := hide (bTr (unhide HB_3) hb4)
    have s_4 := sz0 hb4
    clear bA_3 x_3 HB_3
    replace hb4 := hide hb4
    have xa_4 := hide o4
    clear o4
    have L_xa : Hid (Lies _ _ _) := fun k hk => (unhide xa_4).lt k hk
    have c_bA := (unhide bA_4).cell
    have l_bA := (unhide bA_4).lt
    go_wp2_with fail
    clear c_bA l_bA
    refine ((unhide CS) _ _ _ (unhide x_4).rd (unhide xa_4).rda).mono ?_
    rintro e w5 ⟨⟨a_oW, q_oW, rfl, o5⟩, hb5⟩
    have bA_5 := hide ((unhide bA_4).step hb5)
    have x_5 := hide ((unhide x_4).below hb5)
    have xa_5 := hide ((unhide xa_4).below hb5)
    have HB_5 := hide (bTr (unhide HB_4) hb5)
    have s_5 := sz0 hb5
    clear bA_4 x_4 xa_4 HB_4
    replace hb5 := hide hb5
    have oW_5 := hide o5
    clear o5
    have L_oW : Hid (Lies _ _ _) := fun k hk => (unhide oW_5).lt k hk
    clear x_5 L_x
    clear xa_5 L_xa
    have c_bA := (unhide bA_5).cell
    have l_bA := (unhide bA_5).lt
    go_wp2_with fail
    clear c_bA l_bA
    refine ((unhide CT) _ ((unhide hr).below (bTrA (unhide HB_5) _))).mono ?_
    rintro e w6 ⟨⟨a_oX, q_oX, rfl, o6⟩, hb6⟩
    have bA_6 := hide (((unhide bA_5).alloc _).step hb6)
    have bW_6 := hide ((Box.new w5 _ _).step hb6)
    have oW_6 := hide (((unhide oW_5).alloc _).below hb6)
    have HB_6 := hide (bTr (bTrA (unhide HB_5) _) hb6)
    have s_6 := sz1 hb6
    clear bA_5 oW_5 HB_5
    replace hb6 := hide hb6
    have oX_6 := hide o6
    clear o6
    have L_oX : Hid (Lies _ (w5.heap.size + 1) w6.heap.size) := fun k hk => by have := (unhide oX_6).lt k hk; simpa using this
    have c_bA := (unhide bA_6).cell
    have l_bA := (unhide bA_6).lt
    have c_bW := (unhide bW_6).cell
    have l_bW := (unhide bW_6).lt
    go_wp2_with fail
    clear c_bA l_bA c_bW l_bW
    refine ((unhide CA) _ ((unhide ha).below (bTrA (unhide HB_6) _))).mono ?_
    rintro e w7 ⟨⟨a_oL, q_oL, rfl, o7⟩, hb7⟩
    have bA_7 := hide (((unhide bA_6).alloc _).step hb7)
    have bW_7 := hide (((unhide bW_6).alloc _).step hb7)
    have bX_7 := hide ((Box.new w6 _ _).step hb7)
    have oW_7 := hide (((unhide oW_6).alloc _).below hb7)
    have oX_7 := hide (((unhide oX_6).alloc _).below hb7)
    have HB_7 := hide (bTr (bTrA (unhide HB_6) _) hb7)
    have s_7 := sz1 hb7
    clear bA_6 bW_6 oW_6 oX_6 HB_6
    replace hb7 := hide hb7
    have oL_7 := hide o7
    clear o7
    have L_oL : Hid (Lies _ (w6.heap.size + 1) w7.heap.size) := fun k hk => by have := (unhide oL_7).lt k hk; simpa using this
    have c_bA := (unhide bA_7).cell
    have l_bA := (unhide bA_7).lt
    have c_bW := (unhide bW_7).cell
    have l_bW := (unhide bW_7).lt
    have c_bX := (unhide bX_7).cell
    have l_bX := (unhide bX_7).lt
    go_wp2_with fail
    clear c_bA l_bA c_bW l_bW c_bX l_bX
    refine ((unhide CM) _ _ _ (unhide oX_7).rd (unhide oL_7).rda).mono ?_
    rintro e w8 ⟨⟨a_oG, q_oG, rfl, o8⟩, hb8⟩
    have bA_8 := hide ((unhide bA_7).step hb8)
    have bW_8 := hide ((unhide bW_7).step hb8)
    have bX_8 := hide ((unhide bX_7).step hb8)
    have oW_8 := hide ((unhide oW_7).below hb8)
    have oX_8 := hide ((unhide oX_7).below hb8)
    have oL_8 := hide ((unhide oL_7).below hb8)
    have HB_8 := hide (bTr (unhide HB_7) hb8)
    have s_8 := sz0 hb8
    clear bA_7 bW_7 bX_7 oW_7 oX_7 oL_7 HB_7
    replace hb8 := hide hb8
    have oG_8 := hide o8
    clear o8
    have L_oG : Hid (Lies _ _ _) := fun k hk => (unhide oG_8).lt k hk
    have c_bA := (unhide bA_8).cell
    have l_bA := (unhide bA_8).lt
    have c_bW := (unhide bW_8).cell
    have l_bW := (unhide bW_8).lt
    have c_bX := (unhide bX_8).cell
    have l_bX := (unhide bX_8).lt
    go_wp2_with fail
    clear c_bA l_bA c_bW l_bW c_bX l_bX
    refine ((unhide CE) _ _ _ ((unhide oG_8).alloc _).rd ((unhide oW_8).alloc _).rd).mono ?_
    rintro e w9 ⟨rfl, hb9⟩
    have bA_9 := hide (((unhide bA_8).alloc _).step hb9)
    have bW_9 := hide (((unhide bW_8).alloc _).step hb9)
    have bX_9 := hide (((unhide bX_8).alloc _).step hb9)
    have bG_9 := hide ((Box.new w8 _ _).step hb9)
    have oW_9 := hide (((unhide oW_8).alloc _).below hb9)
    have oX_9 := hide (((unhide oX_8).alloc _).below hb9)
    have oL_9 := hide (((unhide oL_8).alloc _).below hb9)
    have oG_9 := hide (((unhide oG_8).alloc _).below hb9)
    have HB_9 := hide (bTr (bTrA (unhide HB_8) _) hb9)
    have s_9 := sz1 hb9
    clear bA_8 bW_8 bX_8 oW_8 oX_8 oL_8 oG_8 HB_8
    replace hb9 := hide hb9
    have c_bA := (unhide bA_9).cell
    have l_bA := (unhide bA_9).lt
    have c_bW := (unhide bW_9).cell
    have l_bW := (unhide bW_9).lt
    have c_bX := (unhide bX_9).cell
    have l_bX := (unhide bX_9).lt
    have c_bG := (unhide bG_9).cell
    have l_bG := (unhide bG_9).lt
    go_wp2_with fail
    go_region_held3 (fun W => W.cell? ⟨w6.heap.size, 0, none⟩ = some (.slice a_oX fs.length q_oX) ∧ W.cell? ⟨w.heap.size, 0, none⟩ = some (.slice a fs.length c)) (first | exact ⟨c_bX, c_bA⟩ | exact ⟨(hb10.cell (p := ⟨w6.heap.size, 0, none⟩) l_bX).trans c_bX, (hb10.cell (p := ⟨w.heap.size, 0, none⟩) l_bA).trans c_bA⟩ | (have hb67 := hb10.trans (hb11.mono hb10.size); exact ⟨(hb67.cell (p := ⟨w6.heap.size, 0, none⟩) l_bX).trans c_bX, (hb67.cell (p := ⟨w.heap.size, 0, none⟩) l_bA).trans c_bA⟩)) (first
      | (go_at_call 11; refine ((unhide CT) _ (by exact ((unhide hr).below (unhide HB_9)).drew)).mono ?_; rintro e w10 ⟨⟨a_t, q_t, rfl, o10⟩, hb10⟩)
      | (go_at_call 14; refine ((unhide CEF) _ _ _ (by exact ((unhide oX_9).rd.drew).below hb10) (by exact o10.rd)).mono ?_; rintro e w11 ⟨rfl, hb11⟩))
    clear c_bA l_bA c_bW l_bW c_bX l_bX c_bG l_bG
    have hbd9 : Below w9.heap.size w9 w11 := (Below.refl _ w9).drew.trans (hb10.trans (hb11.mono hb10.size))
    clear hb10 hb11 o10
    have bA_11 := hide ((unhide bA_9).step hbd9)
    have bW_11 := hide ((unhide bW_9).step hbd9)
    have bX_11 := hide ((unhide bX_9).step hbd9)
    have bG_11 := hide ((unhide bG_9).step hbd9)
    have oW_11 := hide ((unhide oW_9).below hbd9)
    have oX_11 := hide ((unhide oX_9).below hbd9)
    have oL_11 := hide ((unhide oL_9).below hbd9)
    have oG_11 := hide ((unhide oG_9).below hbd9)
    have HB_11 := hide (bTr (unhide HB_9) hbd9)
    have s_11 := sz0 hbd9
    clear bA_9 bW_9 bX_9 bG_9 oW_9 oX_9 oL_9 oG_9 HB_9
    replace hbd9 := hide hbd9
    have c_bA := (unhide bA_11).cell
    have l_bA := (unhide bA_11).lt
    have c_bW := (unhide bW_11).cell
    have l_bW := (unhide bW_11).lt
    have c_bX := (unhide bX_11).cell
    have l_bX := (unhide bX_11).lt
    have c_bG := (unhide bG_11).cell
    have l_bG := (unhide bG_11).lt
    go_wp2_with fail
    clear c_bA l_bA c_bW l_bW c_bX l_bX c_bG l_bG
    refine ((unhide CA) _ ((unhide ha).below (unhide HB_11))).mono ?_
    rintro e w12 ⟨⟨a_t2, q_t2, rfl, o12⟩, hb12⟩
    have bA_12 := hide ((unhide bA_11).step hb12)
    have bW_12 := hide ((unhide bW_11).step hb12)
    have bX_12 := hide ((unhide bX_11).step hb12)
    have bG_12 := hide ((unhide bG_11).step hb12)
    have oW_12 := hide ((unhide oW_11).below hb12)
    have oX_12 := hide ((unhide oX_11).below hb12)
    have oL_12 := hide ((unhide oL_11).below hb12)
    have oG_12 := hide ((unhide oG_11).below hb12)
    have HB_12 := hide (bTr (unhide HB_11) hb12)
    have s_12 := sz0 hb12
    clear bA_11 bW_11 bX_11 bG_11 oW_11 oX_11 oL_11 oG_11 HB_11
    replace hb12 := hide hb12
    have t2_12 := hide o12
    clear o12
    have L_t2 : Hid (Lies _ _ _) := fun k hk => (unhide t2_12).lt k hk
    have c_bA := (unhide bA_12).cell
    have l_bA := (unhide bA_12).lt
    have c_bW := (unhide bW_12).cell
    have l_bW := (unhide bW_12).lt
    have c_bX := (unhide bX_12).cell
    have l_bX := (unhide bX_12).lt
    have c_bG := (unhide bG_12).cell
    have l_bG := (unhide bG_12).lt
    go_wp2_with fail
    clear c_bA l_bA c_bW l_bW c_bX l_bX c_bG l_bG
    refine ((unhide CEA) _ _ _ (unhide oL_12).rda (unhide t2_12).rda).mono ?_
    rintro e w13 ⟨rfl, hb13⟩
    have bA_13 := hide ((unhide bA_12).step hb13)
    have bW_13 := hide ((unhide bW_12).step hb13)
    have bX_13 := hide ((unhide bX_12).step hb13)
    have bG_13 := hide ((unhide bG_12).step hb13)
    have oW_13 := hide ((unhide oW_12).below hb13)
    have oX_13 := hide ((unhide oX_12).below hb13)
    have oL_13 := hide ((unhide oL_12).below hb13)
    have oG_13 := hide ((unhide oG_12).below hb13)
    have t2_13 := hide ((unhide t2_12).below hb13)
    have HB_13 := hide (bTr (unhide HB_12) hb13)
    have s_13 := sz0 hb13
    clear bA_12 bW_12 bX_12 bG_12 oW_12 oX_12 oL_12 oG_12 t2_12 HB_12
    replace hb13 := hide hb13
    clear t2_13 L_t2
    have c_bA := (unhide bA_13).cell
    have l_bA := (unhide bA_13).lt
    have c_bW := (unhide bW_13).cell
    have l_bW := (unhide bW_13).lt
    have c_bX := (unhide bX_13).cell
    have l_bX := (unhide bX_13).lt
    have c_bG := (unhide bG_13).cell
    have l_bG := (unhide bG_13).lt
    go_wp2_with fail
    clear c_bA l_bA c_bW l_bW c_bX l_bX c_bG l_bG
    refine (markDisk_any _ _ 1 M1 fs _ (unhide HM1) (by omega) (Nat.le_refl _) (by decide) (by first | omega | (simp; omega)) (unhide oX_13)).mono ?_
    rintro e w14 ⟨rfl, om14, hg14⟩
    have bA_14 := hide ((unhide bA_13).grown hg14 ((unhide L_oX).box (by omega)))
    have bW_14 := hide ((unhide bW_13).grown hg14 ((unhide L_oX).box (by omega)))
    have bX_14 := hide ((unhide bX_13).grown hg14 ((unhide L_oX).box (by omega)))
    have bG_14 := hide ((unhide bG_13).grown hg14 ((unhide L_oX).box (by omega)))
    have oW_14 := hide ((unhide oW_13).grown hg14 ((unhide L_oW).apart (unhide L_oX) (by omega)))
    have oL_14 := hide ((unhide oL_13).grown hg14 ((unhide L_oL).apart (unhide L_oX) (by omega)))
    have oG_14 := hide ((unhide oG_13).grown hg14 ((unhide L_oG).apart (unhide L_oX) (by omega)))
    have HB_14 := hide (bTrG (unhide HB_13) hg14 ((unhide L_oX).from (by omega)))
    have s_14 := hg14.size
    clear bA_13 bW_13 bX_13 bG_13 oW_13 oL_13 oG_13 HB_13
    replace hg14 := hide hg14
    have oX_14 := hide om14
    clear om14 oX_13
    have c_bA := (unhide bA_14).cell
    have l_bA := (unhide bA_14).lt
    have c_bW := (unhide bW_14).cell
    have l_bW := (unhide bW_14).lt
    have c_bX := (unhide bX_14).cell
    have l_bX := (unhide bX_14).lt
    have c_bG := (unhide bG_14).cell
    have l_bG := (unhide bG_14).lt
    go_wp2_with fail
    clear c_bA l_bA c_bW l_bW c_bX l_bX c_bG l_bG
    refine (markActS_any _ _ M1 M2 _ _ (unhide HM2) (by omega) (by have := unhide HM1; omega) (by have := unhide HM1; omega) (by first | omega | (simp; omega)) (unhide oL_14)).mono ?_
    rintro e w15 ⟨rfl, hg15⟩
    have bA_15 := hide ((unhide bA_14).grown hg15 ((unhide L_oL).box (by omega)))
    have bW_15 := hide ((unhide bW_14).grown hg15 ((unhide L_oL).box (by omega)))
    have bX_15 := hide ((unhide bX_14).grown hg15 ((unhide L_oL).box (by omega)))
    have bG_15 := hide ((unhide bG_14).grown hg15 ((unhide L_oL).box (by omega)))
    have oW_15 := hide ((unhide oW_14).grown hg15 ((unhide L_oW).apart (unhide L_oL) (by omega)))
    have oX_15 := hide ((unhide oX_14).grown hg15 ((unhide L_oX).apart (unhide L_oL) (by omega)))
    have oG_15 := hide ((unhide oG_14).grown hg15 ((unhide L_oG).apart (unhide L_oL) (by omega)))
    have HB_15 := hide (bTrG (unhide HB_14) hg15 ((unhide L_oL).from (by omega)))
    have s_15 := hg15.size
    clear bA_14 bW_14 bX_14 bG_14 oW_14 oX_14 oG_14 HB_14
    replace hg15 := hide hg15
    clear oL_14
    have c_bA := (unhide bA_15).cell
    have l_bA := (unhide bA_15).lt
    have c_bW := (unhide bW_15).cell
    have l_bW := (unhide bW_15).lt
    have c_bX := (unhide bX_15).cell
    have l_bX := (unhide bX_15).lt
    have c_bG := (unhide bG_15).cell
    have l_bG := (unhide bG_15).lt
    go_wp2_with fail
    clear c_bA l_bA c_bW l_bW c_bX l_bX c_bG l_bG
    refine ((unhide CE) _ _ _ (unhide oG_15).rd (unhide oW_15).rd).mono ?_
    rintro e w16 ⟨rfl, hb16⟩
    have bA_16 := hide ((unhide bA_15).step hb16)
    have bW_16 := hide ((unhide bW_15).step hb16)
    have bX_16 := hide ((unhide bX_15).step hb16)
    have bG_16 := hide ((unhide bG_15).step hb16)
    have oW_16 := hide ((unhide oW_15).below hb16)
    have oX_16 := hide ((unhide oX_15).below hb16)
    have oG_16 := hide ((unhide oG_15).below hb16)
    have HB_16 := hide (bTr (unhide HB_15) hb16)
    have s_16 := sz0 hb16
    clear bA_15 bW_15 bX_15 bG_15 oW_15 oX_15 oG_15 HB_15
    replace hb16 := hide hb16
    have c_bA := (unhide bA_16).cell
    have l_bA := (unhide bA_16).lt
    have c_bW := (unhide bW_16).cell
    have l_bW := (unhide bW_16).lt
    have c_bX := (unhide bX_16).cell
    have l_bX := (unhide bX_16).lt
    have c_bG := (unhide bG_16).cell
    have l_bG := (unhide bG_16).lt
    go_wp2_with fail
    clear c_bA l_bA c_bW l_bW c_bX l_bX c_bG l_bG
    refine (markDisk_any _ _ 1 M3 rs _ (unhide HM3) (by omega) (Nat.le_refl _) (by decide) (by first | omega | (simp; omega)) (unhide oG_16)).mono ?_
    rintro e w17 ⟨rfl, om17, hg17⟩
    have bA_17 := hide ((unhide bA_16).grown hg17 ((unhide L_oG).box (by omega)))
    have bW_17 := hide ((unhide bW_16).grown hg17 ((unhide L_oG).box (by omega)))
    have bX_17 := hide ((unhide bX_16).grown hg17 ((unhide L_oG).box (by omega)))
    have bG_17 := hide ((unhide bG_16).grown hg17 ((unhide L_oG).box (by omega)))
    have oW_17 := hide ((unhide oW_16).grown hg17 ((unhide L_oW).apart (unhide L_oG) (by omega)))
    have oX_17 := hide ((unhide oX_16).grown hg17 ((unhide L_oX).apart (unhide L_oG) (by omega)))
    have HB_17 := hide (bTrG (unhide HB_16) hg17 ((unhide L_oG).from (by omega)))
    have s_17 := hg17.size
    clear bA_16 bW_16 bX_16 bG_16 oW_16 oX_16 HB_16
    replace hg17 := hide hg17
    have oG_17 := hide om17
    clear om17 oG_16
    have c_bA := (unhide bA_17).cell
    have l_bA := (unhide bA_17).lt
    have c_bW := (unhide bW_17).cell
    have l_bW := (unhide bW_17).lt
    have c_bX := (unhide bX_17).cell
    have l_bX := (unhide bX_17).lt
    have c_bG := (unhide bG_17).cell
    have l_bG := (unhide bG_17).lt
    go_wp2_with fail
    clear c_bA l_bA c_bW l_bW c_bX l_bX c_bG l_bG
    refine (heldDisk_any _ _ 1 rs.length M3 _ (unhide HM3) (by omega) (Nat.le_refl _) (by decide) (unhide oG_17)).mono ?_
    rintro e w18 ⟨rfl, hb18⟩
    have bA_18 := hide ((unhide bA_17).step hb18)
    have bW_18 := hide ((unhide bW_17).step hb18)
    have bX_18 := hide ((unhide bX_17).step hb18)
    have bG_18 := hide ((unhide bG_17).step hb18)
    have oW_18 := hide ((unhide oW_17).below hb18)
    have oX_18 := hide ((unhide oX_17).below hb18)
    have oG_18 := hide ((unhide oG_17).below hb18)
    have HB_18 := hide (bTr (unhide HB_17) hb18)
    have s_18 := sz0 hb18
    clear bA_17 bW_17 bX_17 bG_17 oW_17 oX_17 oG_17 HB_17
    replace hb18 := hide hb18
    have c_bA := (unhide bA_18).cell
    have l_bA := (unhide bA_18).lt
    have c_bW := (unhide bW_18).cell
    have l_bW := (unhide bW_18).lt
    have c_bX := (unhide bX_18).cell
    have l_bX := (unhide bX_18).lt
    have c_bG := (unhide bG_18).cell
    have l_bG := (unhide bG_18).lt
    go_wp2_with fail
    clear c_bA l_bA c_bW l_bW c_bX l_bX c_bG l_bG
    refine ((unhide CT) _ ((unhide hr).below (unhide HB_18))).mono ?_
    rintro e w19 ⟨⟨a_y, q_y, rfl, o19⟩, hb19⟩
    have bA_19 := hide ((unhide bA_18).step hb19)
    have bW_19 := hide ((unhide bW_18).step hb19)
    have bX_19 := hide ((unhide bX_18).step hb19)
    have bG_19 := hide ((unhide bG_18).step hb19)
    have oW_19 := hide ((unhide oW_18).below hb19)
    have oX_19 := hide ((unhide oX_18).below hb19)
    have oG_19 := hide ((unhide oG_18).below hb19)
    have HB_19 := hide (bTr (unhide HB_18) hb19)
    have s_19 := sz0 hb19
    clear bA_18 bW_18 bX_18 bG_18 oW_18 oX_18 oG_18 HB_18
    replace hb19 := hide hb19
    have y_19 := hide o19
    clear o19
    have L_y : Hid (Lies _ _ _) := fun k hk => (unhide y_19).lt k hk
    have c_bA := (unhide bA_19).cell
    have l_bA := (unhide bA_19).lt
    have c_bW := (unhide bW_19).cell
    have l_bW := (unhide bW_19).lt
    have c_bX := (unhide bX_19).cell
    have l_bX := (unhide bX_19).lt
    have c_bG := (unhide bG_19).cell
    have l_bG := (unhide bG_19).lt
    go_wp2_with fail
    clear c_bA l_bA c_bW l_bW c_bX l_bX c_bG l_bG
    refine ((unhide CA) _ ((unhide ha).below (unhide HB_19))).mono ?_
    rintro e w20 ⟨⟨a_ya, q_ya, rfl, o20⟩, hb20⟩
    have bA_20 := hide ((unhide bA_19).step hb20)
    have bW_20 := hide ((unhide bW_19).step hb20)
    have bX_20 := hide ((unhide bX_19).step hb20)
    have bG_20 := hide ((unhide bG_19).step hb20)
    have oW_20 := hide ((unhide oW_19).below hb20)
    have oX_20 := hide ((unhide oX_19).below hb20)
    have oG_20 := hide ((unhide oG_19).below hb20)
    have y_20 := hide ((unhide y_19).below hb20)
    have HB_20 := hide (bTr (unhide HB_19) hb20)
    have s_20 := sz0 hb20
    clear bA_19 bW_19 bX_19 bG_19 oW_19 oX_19 oG_19 y_19 HB_19
    replace hb20 := hide hb20
    have ya_20 := hide o20
    clear o20
    have L_ya : Hid (Lies _ _ _) := fun k hk => (unhide ya_20).lt k hk
    have c_bA := (unhide bA_20).cell
    have l_bA := (unhide bA_20).lt
    have c_bW := (unhide bW_20).cell
    have l_bW := (unhide bW_20).lt
    have c_bX := (unhide bX_20).cell
    have l_bX := (unhide bX_20).lt
    have c_bG := (unhide bG_20).cell
    have l_bG := (unhide bG_20).lt
    go_wp2_with fail
    clear c_bA l_bA c_bW l_bW c_bX l_bX c_bG l_bG
    refine ((unhide CM) _ _ _ (unhide y_20).rd (unhide ya_20).rda).mono ?_
    rintro e w21 ⟨⟨a_oH, q_oH, rfl, o21⟩, hb21⟩
    have bA_21 := hide ((unhide bA_20).step hb21)
    have bW_21 := hide ((unhide bW_20).step hb21)
    have bX_21 := hide ((unhide bX_20).step hb21)
    have bG_21 := hide ((unhide bG_20).step hb21)
    have oW_21 := hide ((unhide oW_20).below hb21)
    have oX_21 := hide ((unhide oX_20).below hb21)
    have oG_21 := hide ((unhide oG_20).below hb21)
    have y_21 := hide ((unhide y_20).below hb21)
    have ya_21 := hide ((unhide ya_20).below hb21)
    have HB_21 := hide (bTr (unhide HB_20) hb21)
    have s_21 := sz0 hb21
    clear bA_20 bW_20 bX_20 bG_20 oW_20 oX_20 oG_20 y_20 ya_20 HB_20
    replace hb21 := hide hb21
    have oH_21 := hide o21
    clear o21
    have L_oH : Hid (Lies _ _ _) := fun k hk => (unhide oH_21).lt k hk
    clear y_21 L_y
    clear ya_21 L_ya
    have c_bA := (unhide bA_21).cell
    have l_bA := (unhide bA_21).lt
    have c_bW := (unhide bW_21).cell
    have l_bW := (unhide bW_21).lt
    have c_bX := (unhide bX_21).cell
    have l_bX := (unhide bX_21).lt
    have c_bG := (unhide bG_21).cell
    have l_bG := (unhide bG_21).lt
    go_wp2_with fail
    clear c_bA l_bA c_bW l_bW c_bX l_bX c_bG l_bG
    refine ((unhide CE) _ _ _ ((unhide oH_21).alloc _).rd ((unhide oW_21).alloc _).rd).mono ?_
    rintro e w22 ⟨rfl, hb22⟩
    have bA_22 := hide (((unhide bA_21).alloc _).step hb22)
    have bW_22 := hide (((unhide bW_21).alloc _).step hb22)
    have bX_22 := hide (((unhide bX_21).alloc _).step hb22)
    have bG_22 := hide (((unhide bG_21).alloc _).step hb22)
    have bH_22 := hide ((Box.new w21 _ _).step hb22)
    have oW_22 := hide (((unhide oW_21).alloc _).below hb22)
    have oX_22 := hide (((unhide oX_21).alloc _).below hb22)
    have oG_22 := hide (((unhide oG_21).alloc _).below hb22)
    have oH_22 := hide (((unhide oH_21).alloc _).below hb22)
    have HB_22 := hide (bTr (bTrA (unhide HB_21) _) hb22)
    have s_22 := sz1 hb22
    clear bA_21 bW_21 bX_21 bG_21 oW_21 oX_21 oG_21 oH_21 HB_21
    replace hb22 := hide hb22
    have c_bA := (unhide bA_22).cell
    have l_bA := (unhide bA_22).lt
    have c_bW := (unhide bW_22).cell
    have l_bW := (unhide bW_22).lt
    have c_bX := (unhide bX_22).cell
    have l_bX := (unhide bX_22).lt
    have c_bG := (unhide bG_22).cell
    have l_bG := (unhide bG_22).lt
    have c_bH := (unhide bH_22).cell
    have l_bH := (unhide bH_22).lt
    go_wp2_with fail
    clear c_bA l_bA c_bW l_bW c_bX l_bX c_bG l_bG c_bH l_bH
    refine (heldDisk_any _ _ 1 rs.length M3 _ (unhide HM3) (by omega) (Nat.le_refl _) (by decide) (unhide oG_22)).mono ?_
    rintro e w23 ⟨rfl, hb23⟩
    have bA_23 := hide ((unhide bA_22).step hb23)
    have bW_23 := hide ((unhide bW_22).step hb23)
    have bX_23 := hide ((unhide bX_22).step hb23)
    have bG_23 := hide ((unhide bG_22).step hb23)
    have bH_23 := hide ((unhide bH_22).step hb23)
    have oW_23 := hide ((unhide oW_22).below hb23)
    have oX_23 := hide ((unhide oX_22).below hb23)
    have oG_23 := hide ((unhide oG_22).below hb23)
    have oH_23 := hide ((unhide oH_22).below hb23)
    have HB_23 := hide (bTr (unhide HB_22) hb23)
    have s_23 := sz0 hb23
    clear bA_22 bW_22 bX_22 bG_22 bH_22 oW_22 oX_22 oG_22 oH_22 HB_22
    replace hb23 := hide hb23
    go_wp2
    go_ret
    exact ⟨rfl, unhide HB_23⟩
end Go.Proofs.Ytfglljollonnfal
