/- The law of CutActs, walked: at every disk, every list of acts, every number and every list of numbers the two answers are the same, nothing is written into an argument, and what is answered owns its memory. -/
import Derived.Test.YtfglljollonnfalCutA
import Derived.Test.YtfglljollonnfalLawDoActs
import Derived.Test.YtfglljollonnfalInts
import Derived.Test.YtfglljollonnfalActH
import Derived.Test.YtfglljollonnfalLawDiskOk
namespace Go.Proofs.Ytfglljollonnfal
open Go.RowKit

theorem cutRes_len {fs : List Fl} (as' : List Ac) (z : Int) (is : List Int) (h : fs.length ≤ 1048576) : (cutR fs as' z is).1.length ≤ 1048576 := by
  unfold cutR
  split
  · split
    · simp
    · have h1 := runRes_len (as'.take z.toNat) h
      unfold loseRes
      split
      · rw [loseL_len]; exact h1
      · simp
  · simp

set_option maxRecDepth 20000 in
set_option maxHeartbeats 4000000 in
theorem lawCutActs_any (fs : List Fl) (as' : List Ac) (z : Int) (is : List Int) (v va vl : Value) (w : World) (hr : RdF w v fs) (ha : RdA w va as') (hl : RdV w vl (is.map iv)) (hni : is.length ≤ maxLen) (hn : fs.length ≤ maxLen) (hz : ∀ f ∈ fs, f.nm.size ≤ maxLen ∧ f.tx.size ≤ maxLen) (hna : as'.length ≤ maxLen) (hza : ∀ f ∈ as', f.nm.size ≤ maxLen ∧ f.tx.size ≤ maxLen ∧ f.to.size ≤ maxLen) :
    Calls Try.prog 6 #[.agg #[v], va, .int .i64 z, vl] w fun e w' => e = .returned (.bool true) ∧ Below w.heap.size w w' := by
  have C0 : Hid (∀ W, RdF W v fs → Calls Try.prog 8 #[.agg #[v], .int .i64 1048576] W fun e w' => (∃ r : Int, e = .returned (.int .i64 r) ∧ SzEnd fs r) ∧ Below W.heap.size W w') := fun W h => szDisk_any fs v W h hn hz
  have C1 : Hid (∀ W (l : Nat), l ≤ 1048576 → RdA W va as' → Calls Try.prog 17 #[va, .int .i64 l] W fun e w' => (∃ r : Int, e = .returned (.int .i64 r) ∧ (r = -1 ∨ ∃ m : Nat, r = m ∧ m + as'.length + acsSz as' = l)) ∧ Below W.heap.size W w') := fun W l h h2 => szActS_any as' va l W h2 h hna hza
  obtain ⟨a, c, rfl⟩ := hr.shape
  obtain ⟨aa, ca, rfl⟩ := ha.shape
  obtain ⟨al, cl, rfl⟩ := hl.shape
  rw [List.length_map] at *
  replace hl := hide hl
  replace hr := hide hr
  replace ha := hide ha
  unfold maxLen at hni
  clear hn hz hna hza
  by_cases hbig : (1048576 : Int) < (is.length : Int)
  · go_enter Try.func6, Try.ntmps6
    go_wp2
    go_ret
    exact ⟨rfl, (Below.refl w.heap.size w).alloc (Nat.le_refl _) _⟩
  go_enter Try.func6, Try.ntmps6
  go_wp2_with fail
  refine ((unhide C0) _ ((unhide hr).alloc _)).mono ?_
  rintro e w1 ⟨⟨r, rfl, hr1⟩, hb1⟩
  have HB_1 := hide (bTr (bTrA (Below.refl w.heap.size w) _) hb1)
  have bA_1 := hide ((Box.new w _ _).step hb1)
  have s_1 := sz1 hb1
  replace hb1 := hide hb1
  by_cases hneg : r < 0
  · go_wp2
    go_ret
    exact ⟨rfl, unhide HB_1⟩
  · obtain ⟨m, rfl, hsum⟩ : ∃ m : Nat, r = m ∧ m + fs.length + flsSz fs = 1048576 := hr1.resolve_left (by omega)
    have hm1 : m ≤ 1048576 := by omega
    obtain ⟨hBd, hlen⟩ := bd_of hsum
    have hBd := hide hBd
    clear hsum hr1
    have c_bA := (unhide bA_1).cell
    go_wp2_with fail
    clear c_bA
    refine ((unhide C1) _ m hm1 ((unhide ha).below (unhide HB_1))).mono ?_
    rintro e w2 ⟨⟨r2, rfl, hr2⟩, hb2⟩
    have HB_2 := hide (bTr (unhide HB_1) hb2)
    have bA_2 := hide ((unhide bA_1).step hb2)
    have s_2 := sz0 hb2
    clear HB_1 bA_1
    replace hb2 := hide hb2
    by_cases hneg2 : r2 < 0
    · go_wp2
      go_ret
      exact ⟨rfl, unhide HB_2⟩
    obtain ⟨m2, _, hsum2⟩ : ∃ m2 : Nat, r2 = m2 ∧ m2 + as'.length + acsSz as' = m := hr2.resolve_left (by omega)
    obtain ⟨hAB, hal⟩ := acsBd_of hsum2 hm1
    have hAB := hide hAB
    clear hsum2 hr2
    have CT : Hid (∀ W, RdF W (.slice a fs.length c) fs → Calls Try.prog 11 #[.agg #[.slice a fs.length c]] W fun e w' => (∃ a c, e = .returned (.agg #[.slice a fs.length c]) ∧ OwnF w' W.heap.size 63 (.slice a fs.length c) fs) ∧ Below W.heap.size W w') := fun W h => toDisk_any fs _ W h hlen
    have CA : Hid (∀ W, RdA W (.slice aa as'.length ca) as' → Calls Try.prog 19 #[.slice aa as'.length ca] W fun e w' => (∃ a c, e = .returned (.slice a as'.length c) ∧ OwnA w' W.heap.size 35 (.slice a as'.length c) as') ∧ Below W.heap.size W w') := fun W h => toActS_any as' _ W h hal
    have CEF : Hid (∀ W v1 v2, RdF W v1 fs → RdF W v2 fs → Calls Try.prog 14 #[.agg #[v1], .agg #[v2]] W fun e w' => e = .returned (.bool true) ∧ Below W.heap.size W w') := fun W v1 v2 h1 h2 => eqDisk_any fs v1 v2 W h1 h2 (by omega)
    have CEA : Hid (∀ W v1 v2, RdA W v1 as' → RdA W v2 as' → Calls Try.prog 21 #[v1, v2] W fun e w' => e = .returned (.bool true) ∧ Below W.heap.size W w') := fun W v1 v2 h1 h2 => eqActS_any as' v1 v2 W h1 h2 (by omega)
    have CI : Hid (∀ W, RdV W (.slice al is.length cl) (is.map iv) → Calls Try.prog 24 #[.slice al is.length cl] W fun e w' => (∃ a c, e = .returned (.slice a is.length c) ∧ OwnV w' W.heap.size 3 (.slice a is.length c) (is.map iv)) ∧ Below W.heap.size W w') := fun W h => toIntS_any is _ W h (by omega)
    have CEI : Hid (∀ W v1 v2, RdV W v1 (is.map iv) → RdV W v2 (is.map iv) → Calls Try.prog 26 #[v1, v2] W fun e w' => e = .returned (.bool true) ∧ Below W.heap.size W w') := fun W v1 v2 h1 h2 => eqIntS_any is v1 v2 W h1 h2 (by omega)
    have CS : Hid (∀ W v1 v2 v3, RdF W v1 fs → RdA W v2 as' ∧ Capped v2 → RdV W v3 (is.map iv) → Calls Try.prog 28 #[.agg #[v1], v2, .int .i64 z, v3] W fun e w' => DkEnd 63 (cutR fs as' z is).1 (cutR fs as' z is).2 W e w') := fun W v1 v2 v3 h1 h2 h3 => specCut_any fs as' z is v1 v2 v3 W h1 h2 h3 (unhide hBd) (by omega) (unhide hAB) (by omega) (by omega)
    have CM : Hid (∀ W v1 v2 v3, RdF W v1 fs → RdA W v2 as' ∧ Capped v2 → RdV W v3 (is.map iv) → Calls Try.prog 29 #[.agg #[v1], v2, .int .i64 z, v3] W fun e w' => DkEnd 63 (cutR fs as' z is).1 (cutR fs as' z is).2 W e w') := fun W v1 v2 v3 h1 h2 h3 => implCut_any fs as' z is v1 v2 v3 W h1 h2 h3 (unhide hBd) (by omega) (unhide hAB) (by omega) (by omega)
    have hrsl := cutRes_len as' z is hlen
    unfold DkEnd at CS CM
    generalize (cutR fs as' z is).1 = rs at CS CM hrsl
    generalize (cutR fs as' z is).2 = okb at CS CM
    have CE : Hid (∀ W v1 v2, RdF W v1 rs → RdF W v2 rs → Calls Try.prog 14 #[.agg #[v1], .agg #[v2]] W fun e w' => e = .returned (.bool true) ∧ Below W.heap.size W w') := fun W v1 v2 h1 h2 => eqDisk_any rs v1 v2 W h1 h2 (by omega)
    obtain ⟨M1, hM1⟩ : ∃ M : Nat, M = 1 + 3 * fs.length := ⟨_, rfl⟩
    have HM1 := hide hM1
    clear hM1
    obtain ⟨M2, hM2⟩ : ∃ M : Nat, M = M1 + 4 * as'.length := ⟨_, rfl⟩
    have HM2 := hide hM2
    clear hM2
    obtain ⟨M4, hM4⟩ : ∃ M : Nat, M = M2 + (is.map iv).length := ⟨_, rfl⟩
    have HM4 := hide hM4
    clear hM4
    obtain ⟨M3, hM3⟩ : ∃ M : Nat, M = 1 + 3 * rs.length := ⟨_, rfl⟩
    have HM3 := hide hM3
    clear hM3
    have c_bA := (unhide bA_2).cell
    have l_bA := (unhide bA_2).lt
    go_wp2_with fail
    clear c_bA l_bA
    refine ((unhide CT) _ ((unhide hr).below (unhide HB_2))).mono ?_
    rintro e w3 ⟨⟨a_x, q_x, rfl, o3⟩, hb3⟩
    have bA_3 := hide ((unhide bA_2).step hb3)
    have HB_3 := hide (bTr (unhide HB_2) hb3)
    have s_3 := sz0 hb3
    clear bA_2 HB_2
    replace hb3 := hide hb3
    have x_3 := hide o3
    clear o3
    have L_x : Hid (Lies _ _ _) := fun k hk => (unhide x_3).lt k hk
    have c_bA := (unhide bA_3).cell
    have l_bA := (unhide bA_3).lt
    go_wp2_with fail
    clear c_bA l_bA
    refine ((unhide CA) _ ((unhide ha).below (unhide HB_3))).mono ?_
    rintro e w4 ⟨⟨a_xa, q_xa, rfl, o4⟩, hb4⟩
    have bA_4 := hide ((unhide bA_3).step hb4)
    have x_4 := hide ((unhide x_3).below hb4)
    have HB_4 := hide (bTr (unhide HB_3) hb4)
    have s_4 := sz0 hb4
    clear bA_3 x_3 HB_3
    replace hb4 := hide hb4
    have xa_4 := hide o4
    clear o4
    have L_xa : Hid (Lies _ _ _) := fun k hk => (unhide xa_4).lt k hk
    have c_bA := (unhide bA_4).cell
    have l_bA := (unhide bA_4).lt
    go_wp2_with fail
    clear c_bA l_bA
    refine ((unhide CI) _ ((unhide hl).below (unhide HB_4))).mono ?_
    rintro e w5 ⟨⟨a_xi, q_xi, rfl, o5⟩, hb5⟩
    have bA_5 := hide ((unhide bA_4).step hb5)
    have x_5 := hide ((unhide x_4).below hb5)
    have xa_5 := hide ((unhide xa_4).below hb5)
    have HB_5 := hide (bTr (unhide HB_4) hb5)
    have s_5 := sz0 hb5
    clear bA_4 x_4 xa_4 HB_4
    replace hb5 := hide hb5
    have xi_5 := hide o5
    clear o5
    have L_xi : Hid (Lies _ _ _) := fun k hk => (unhide xi_5).lt k hk
    have c_bA := (unhide bA_5).cell
    have l_bA := (unhide bA_5).lt
    go_wp2_with fail
    clear c_bA l_bA
    refine ((unhide CS) _ _ _ _ (unhide x_5).rd (unhide xa_5).rdac (unhide xi_5).rdv).mono ?_
    rintro e w6 ⟨⟨a_oW, q_oW, rfl, o6⟩, hb6⟩
    have bA_6 := hide ((unhide bA_5).step hb6)
    have x_6 := hide ((unhide x_5).below hb6)
    have xa_6 := hide ((unhide xa_5).below hb6)
    have xi_6 := hide ((unhide xi_5).below hb6)
    have HB_6 := hide (bTr (unhide HB_5) hb6)
    have s_6 := sz0 hb6
    clear bA_5 x_5 xa_5 xi_5 HB_5
    replace hb6 := hide hb6
    have oW_6 := hide o6
    clear o6
    have L_oW : Hid (Lies _ _ _) := fun k hk => (unhide oW_6).lt k hk
    clear x_6 L_x
    clear xa_6 L_xa
    clear xi_6 L_xi
    have c_bA := (unhide bA_6).cell
    have l_bA := (unhide bA_6).lt
    go_wp2_with fail
    clear c_bA l_bA
    refine ((unhide CT) _ ((unhide hr).below (bTrA (unhide HB_6) _))).mono ?_
    rintro e w7 ⟨⟨a_oX, q_oX, rfl, o7⟩, hb7⟩
    have bA_7 := hide (((unhide bA_6).alloc _).step hb7)
    have bW_7 := hide ((Box.new w6 _ _).step hb7)
    have oW_7 := hide (((unhide oW_6).alloc _).below hb7)
    have HB_7 := hide (bTr (bTrA (unhide HB_6) _) hb7)
    have s_7 := sz1 hb7
    clear bA_6 oW_6 HB_6
    replace hb7 := hide hb7
    have oX_7 := hide o7
    clear o7
    have L_oX : Hid (Lies _ (w6.heap.size + 1) w7.heap.size) := fun k hk => by have := (unhide oX_7).lt k hk; simpa using this
    have c_bA := (unhide bA_7).cell
    have l_bA := (unhide bA_7).lt
    have c_bW := (unhide bW_7).cell
    have l_bW := (unhide bW_7).lt
    go_wp2_with fail
    clear c_bA l_bA c_bW l_bW
    refine ((unhide CA) _ ((unhide ha).below (bTrA (unhide HB_7) _))).mono ?_
    rintro e w8 ⟨⟨a_oL, q_oL, rfl, o8⟩, hb8⟩
    have bA_8 := hide (((unhide bA_7).alloc _).step hb8)
    have bW_8 := hide (((unhide bW_7).alloc _).step hb8)
    have bX_8 := hide ((Box.new w7 _ _).step hb8)
    have oW_8 := hide (((unhide oW_7).alloc _).below hb8)
    have oX_8 := hide (((unhide oX_7).alloc _).below hb8)
    have HB_8 := hide (bTr (bTrA (unhide HB_7) _) hb8)
    have s_8 := sz1 hb8
    clear bA_7 bW_7 oW_7 oX_7 HB_7
    replace hb8 := hide hb8
    have oL_8 := hide o8
    clear o8
    have L_oL : Hid (Lies _ (w7.heap.size + 1) w8.heap.size) := fun k hk => by have := (unhide oL_8).lt k hk; simpa using this
    have c_bA := (unhide bA_8).cell
    have l_bA := (unhide bA_8).lt
    have c_bW := (unhide bW_8).cell
    have l_bW := (unhide bW_8).lt
    have c_bX := (unhide bX_8).cell
    have l_bX := (unhide bX_8).lt
    go_wp2_with fail
    clear c_bA l_bA c_bW l_bW c_bX l_bX
    refine ((unhide CI) _ ((unhide hl).below (unhide HB_8))).mono ?_
    rintro e w9 ⟨⟨a_oI, q_oI, rfl, o9⟩, hb9⟩
    have bA_9 := hide ((unhide bA_8).step hb9)
    have bW_9 := hide ((unhide bW_8).step hb9)
    have bX_9 := hide ((unhide bX_8).step hb9)
    have oW_9 := hide ((unhide oW_8).below hb9)
    have oX_9 := hide ((unhide oX_8).below hb9)
    have oL_9 := hide ((unhide oL_8).below hb9)
    have HB_9 := hide (bTr (unhide HB_8) hb9)
    have s_9 := sz0 hb9
    clear bA_8 bW_8 bX_8 oW_8 oX_8 oL_8 HB_8
    replace hb9 := hide hb9
    have oI_9 := hide o9
    clear o9
    have L_oI : Hid (Lies _ _ _) := fun k hk => (unhide oI_9).lt k hk
    have c_bA := (unhide bA_9).cell
    have l_bA := (unhide bA_9).lt
    have c_bW := (unhide bW_9).cell
    have l_bW := (unhide bW_9).lt
    have c_bX := (unhide bX_9).cell
    have l_bX := (unhide bX_9).lt
    go_wp2_with fail
    clear c_bA l_bA c_bW l_bW c_bX l_bX
    refine ((unhide CM) _ _ _ _ (unhide oX_9).rd (unhide oL_9).rdac (unhide oI_9).rdv).mono ?_
    rintro e w10 ⟨⟨a_oG, q_oG, rfl, o10⟩, hb10⟩
    have bA_10 := hide ((unhide bA_9).step hb10)
    have bW_10 := hide ((unhide bW_9).step hb10)
    have bX_10 := hide ((unhide bX_9).step hb10)
    have oW_10 := hide ((unhide oW_9).below hb10)
    have oX_10 := hide ((unhide oX_9).below hb10)
    have oL_10 := hide ((unhide oL_9).below hb10)
    have oI_10 := hide ((unhide oI_9).below hb10)
    have HB_10 := hide (bTr (unhide HB_9) hb10)
    have s_10 := sz0 hb10
    clear bA_9 bW_9 bX_9 oW_9 oX_9 oL_9 oI_9 HB_9
    replace hb10 := hide hb10
    have oG_10 := hide o10
    clear o10
    have L_oG : Hid (Lies _ _ _) := fun k hk => (unhide oG_10).lt k hk
    have c_bA := (unhide bA_10).cell
    have l_bA := (unhide bA_10).lt
    have c_bW := (unhide bW_10).cell
    have l_bW := (unhide bW_10).lt
    have c_bX := (unhide bX_10).cell
    have l_bX := (unhide bX_10).lt
    go_wp2_with fail
    clear c_bA l_bA c_bW l_bW c_bX l_bX
    refine ((unhide CE) _ _ _ ((unhide oG_10).alloc _).rd ((unhide oW_10).alloc _).rd).mono ?_
    rintro e w11 ⟨rfl, hb11⟩
    have bA_11 := hide (((unhide bA_10).alloc _).step hb11)
    have bW_11 := hide (((unhide bW_10).alloc _).step hb11)
    have bX_11 := hide (((unhide bX_10).alloc _).step hb11)
    have bG_11 := hide ((Box.new w10 _ _).step hb11)
    have oW_11 := hide (((unhide oW_10).alloc _).below hb11)
    have oX_11 := hide (((unhide oX_10).alloc _).below hb11)
    have oL_11 := hide (((unhide oL_10).alloc _).below hb11)
    have oI_11 := hide (((unhide oI_10).alloc _).below hb11)
    have oG_11 := hide (((unhide oG_10).alloc _).below hb11)
    have HB_11 := hide (bTr (bTrA (unhide HB_10) _) hb11)
    have s_11 := sz1 hb11
    clear bA_10 bW_10 bX_10 oW_10 oX_10 oL_10 oI_10 oG_10 HB_10
    replace hb11 := hide hb11
    have c_bA := (unhide bA_11).cell
    have l_bA := (unhide bA_11).lt
    have c_bW := (unhide bW_11).cell
    have l_bW := (unhide bW_11).lt
    have c_bX := (unhide bX_11).cell
    have l_bX := (unhide bX_11).lt
    have c_bG := (unhide bG_11).cell
    have l_bG := (unhide bG_11).lt
    go_wp2_with fail
    go_region_held3 (fun W => W.cell? ⟨w7.heap.size, 0, none⟩ = some (.slice a_oX fs.length q_oX) ∧ W.cell? ⟨w.heap.size, 0, none⟩ = some (.slice a fs.length c)) (first | exact ⟨c_bX, c_bA⟩ | exact ⟨(hb12.cell (p := ⟨w7.heap.size, 0, none⟩) l_bX).trans c_bX, (hb12.cell (p := ⟨w.heap.size, 0, none⟩) l_bA).trans c_bA⟩ | (have hb67 := hb12.trans (hb13.mono hb12.size); exact ⟨(hb67.cell (p := ⟨w7.heap.size, 0, none⟩) l_bX).trans c_bX, (hb67.cell (p := ⟨w.heap.size, 0, none⟩) l_bA).trans c_bA⟩)) (first
      | (go_at_call 11; refine ((unhide CT) _ (by exact ((unhide hr).below (unhide HB_11)).drew)).mono ?_; rintro e w12 ⟨⟨a_t, q_t, rfl, o12⟩, hb12⟩)
      | (go_at_call 14; refine ((unhide CEF) _ _ _ (by exact ((unhide oX_11).rd.drew).below hb12) (by exact o12.rd)).mono ?_; rintro e w13 ⟨rfl, hb13⟩))
    clear c_bA l_bA c_bW l_bW c_bX l_bX c_bG l_bG
    have hbd11 : Below w11.heap.size w11 w13 := (Below.refl _ w11).drew.trans (hb12.trans (hb13.mono hb12.size))
    clear hb12 hb13 o12
    have bA_13 := hide ((unhide bA_11).step hbd11)
    have bW_13 := hide ((unhide bW_11).step hbd11)
    have bX_13 := hide ((unhide bX_11).step hbd11)
    have bG_13 := hide ((unhide bG_11).step hbd11)
    have oW_13 := hide ((unhide oW_11).below hbd11)
    have oX_13 := hide ((unhide oX_11).below hbd11)
    have oL_13 := hide ((unhide oL_11).below hbd11)
    have oI_13 := hide ((unhide oI_11).below hbd11)
    have oG_13 := hide ((unhide oG_11).below hbd11)
    have HB_13 := hide (bTr (unhide HB_11) hbd11)
    have s_13 := sz0 hbd11
    clear bA_11 bW_11 bX_11 bG_11 oW_11 oX_11 oL_11 oI_11 oG_11 HB_11
    replace hbd11 := hide hbd11
    have c_bA := (unhide bA_13).cell
    have l_bA := (unhide bA_13).lt
    have c_bW := (unhide bW_13).cell
    have l_bW := (unhide bW_13).lt
    have c_bX := (unhide bX_13).cell
    have l_bX := (unhide bX_13).lt
    have c_bG := (unhide bG_13).cell
    have l_bG := (unhide bG_13).lt
    go_wp2_with fail
    clear c_bA l_bA c_bW l_bW c_bX l_bX c_bG l_bG
    refine ((unhide CA) _ ((unhide ha).below (unhide HB_13))).mono ?_
    rintro e w14 ⟨⟨a_t2, q_t2, rfl, o14⟩, hb14⟩
    have bA_14 := hide ((unhide bA_13).step hb14)
    have bW_14 := hide ((unhide bW_13).step hb14)
    have bX_14 := hide ((unhide bX_13).step hb14)
    have bG_14 := hide ((unhide bG_13).step hb14)
    have oW_14 := hide ((unhide oW_13).below hb14)
    have oX_14 := hide ((unhide oX_13).below hb14)
    have oL_14 := hide ((unhide oL_13).below hb14)
    have oI_14 := hide ((unhide oI_13).below hb14)
    have oG_14 := hide ((unhide oG_13).below hb14)
    have HB_14 := hide (bTr (unhide HB_13) hb14)
    have s_14 := sz0 hb14
    clear bA_13 bW_13 bX_13 bG_13 oW_13 oX_13 oL_13 oI_13 oG_13 HB_13
    replace hb14 := hide hb14
    have t2_14 := hide o14
    clear o14
    have L_t2 : Hid (Lies _ _ _) := fun k hk => (unhide t2_14).lt k hk
    have c_bA := (unhide bA_14).cell
    have l_bA := (unhide bA_14).lt
    have c_bW := (unhide bW_14).cell
    have l_bW := (unhide bW_14).lt
    have c_bX := (unhide bX_14).cell
    have l_bX := (unhide bX_14).lt
    have c_bG := (unhide bG_14).cell
    have l_bG := (unhide bG_14).lt
    go_wp2_with fail
    clear c_bA l_bA c_bW l_bW c_bX l_bX c_bG l_bG
    refine ((unhide CEA) _ _ _ (unhide oL_14).rda (unhide t2_14).rda).mono ?_
    rintro e w15 ⟨rfl, hb15⟩
    have bA_15 := hide ((unhide bA_14).step hb15)
    have bW_15 := hide ((unhide bW_14).step hb15)
    have bX_15 := hide ((unhide bX_14).step hb15)
    have bG_15 := hide ((unhide bG_14).step hb15)
    have oW_15 := hide ((unhide oW_14).below hb15)
    have oX_15 := hide ((unhide oX_14).below hb15)
    have oL_15 := hide ((unhide oL_14).below hb15)
    have oI_15 := hide ((unhide oI_14).below hb15)
    have oG_15 := hide ((unhide oG_14).below hb15)
    have t2_15 := hide ((unhide t2_14).below hb15)
    have HB_15 := hide (bTr (unhide HB_14) hb15)
    have s_15 := sz0 hb15
    clear bA_14 bW_14 bX_14 bG_14 oW_14 oX_14 oL_14 oI_14 oG_14 t2_14 HB_14
    replace hb15 := hide hb15
    clear t2_15 L_t2
    have c_bA := (unhide bA_15).cell
    have l_bA := (unhide bA_15).lt
    have c_bW := (unhide bW_15).cell
    have l_bW := (unhide bW_15).lt
    have c_bX := (unhide bX_15).cell
    have l_bX := (unhide bX_15).lt
    have c_bG := (unhide bG_15).cell
    have l_bG := (unhide bG_15).lt
    go_wp2_with fail
    clear c_bA l_bA c_bW l_bW c_bX l_bX c_bG l_bG
    refine ((unhide CI) _ ((unhide hl).below (unhide HB_15))).mono ?_
    rintro e w16 ⟨⟨a_t3, q_t3, rfl, o16⟩, hb16⟩
    have bA_16 := hide ((unhide bA_15).step hb16)
    have bW_16 := hide ((unhide bW_15).step hb16)
    have bX_16 := hide ((unhide bX_15).step hb16)
    have bG_16 := hide ((unhide bG_15).step hb16)
    have oW_16 := hide ((unhide oW_15).below hb16)
    have oX_16 := hide ((unhide oX_15).below hb16)
    have oL_16 := hide ((unhide oL_15).below hb16)
    have oI_16 := hide ((unhide oI_15).below hb16)
    have oG_16 := hide ((unhide oG_15).below hb16)
    have HB_16 := hide (bTr (unhide HB_15) hb16)
    have s_16 := sz0 hb16
    clear bA_15 bW_15 bX_15 bG_15 oW_15 oX_15 oL_15 oI_15 oG_15 HB_15
    replace hb16 := hide hb16
    have t3_16 := hide o16
    clear o16
    have L_t3 : Hid (Lies _ _ _) := fun k hk => (unhide t3_16).lt k hk
    have c_bA := (unhide bA_16).cell
    have l_bA := (unhide bA_16).lt
    have c_bW := (unhide bW_16).cell
    have l_bW := (unhide bW_16).lt
    have c_bX := (unhide bX_16).cell
    have l_bX := (unhide bX_16).lt
    have c_bG := (unhide bG_16).cell
    have l_bG := (unhide bG_16).lt
    go_wp2_with fail
    clear c_bA l_bA c_bW l_bW c_bX l_bX c_bG l_bG
    refine ((unhide CEI) _ _ _ (unhide oI_16).rdv (unhide t3_16).rdv).mono ?_
    rintro e w17 ⟨rfl, hb17⟩
    have bA_17 := hide ((unhide bA_16).step hb17)
    have bW_17 := hide ((unhide bW_16).step hb17)
    have bX_17 := hide ((unhide bX_16).step hb17)
    have bG_17 := hide ((unhide bG_16).step hb17)
    have oW_17 := hide ((unhide oW_16).below hb17)
    have oX_17 := hide ((unhide oX_16).below hb17)
    have oL_17 := hide ((unhide oL_16).below hb17)
    have oI_17 := hide ((unhide oI_16).below hb17)
    have oG_17 := hide ((unhide oG_16).below hb17)
    have t3_17 := hide ((unhide t3_16).below hb17)
    have HB_17 := hide (bTr (unhide HB_16) hb17)
    have s_17 := sz0 hb17
    clear bA_16 bW_16 bX_16 bG_16 oW_16 oX_16 oL_16 oI_16 oG_16 t3_16 HB_16
    replace hb17 := hide hb17
    clear t3_17 L_t3
    have c_bA := (unhide bA_17).cell
    have l_bA := (unhide bA_17).lt
    have c_bW := (unhide bW_17).cell
    have l_bW := (unhide bW_17).lt
    have c_bX := (unhide bX_17).cell
    have l_bX := (unhide bX_17).lt
    have c_bG := (unhide bG_17).cell
    have l_bG := (unhide bG_17).lt
    go_wp2_with fail
    clear c_bA l_bA c_bW l_bW c_bX l_bX c_bG l_bG
    refine (markDisk_any _ _ 1 M1 fs _ (unhide HM1) (by omega) (Nat.le_refl _) (by decide) (by first | omega | (simp; omega)) (unhide oX_17)).mono ?_
    rintro e w18 ⟨rfl, om18, hg18⟩
    have bA_18 := hide ((unhide bA_17).grown hg18 ((unhide L_oX).box (by omega)))
    have bW_18 := hide ((unhide bW_17).grown hg18 ((unhide L_oX).box (by omega)))
    have bX_18 := hide ((unhide bX_17).grown hg18 ((unhide L_oX).box (by omega)))
    have bG_18 := hide ((unhide bG_17).grown hg18 ((unhide L_oX).box (by omega)))
    have oW_18 := hide ((unhide oW_17).grown hg18 ((unhide L_oW).apart (unhide L_oX) (by omega)))
    have oL_18 := hide ((unhide oL_17).grown hg18 ((unhide L_oL).apart (unhide L_oX) (by omega)))
    have oI_18 := hide ((unhide oI_17).grown hg18 ((unhide L_oI).apart (unhide L_oX) (by omega)))
    have oG_18 := hide ((unhide oG_17).grown hg18 ((unhide L_oG).apart (unhide L_oX) (by omega)))
    have HB_18 := hide (bTrG (unhide HB_17) hg18 ((unhide L_oX).from (by omega)))
    have s_18 := hg18.size
    clear bA_17 bW_17 bX_17 bG_17 oW_17 oL_17 oI_17 oG_17 HB_17
    replace hg18 := hide hg18
    have oX_18 := hide om18
    clear om18 oX_17
    have c_bA := (unhide bA_18).cell
    have l_bA := (unhide bA_18).lt
    have c_bW := (unhide bW_18).cell
    have l_bW := (unhide bW_18).lt
    have c_bX := (unhide bX_18).cell
    have l_bX := (unhide bX_18).lt
    have c_bG := (unhide bG_18).cell
    have l_bG := (unhide bG_18).lt
    go_wp2_with fail
    clear c_bA l_bA c_bW l_bW c_bX l_bX c_bG l_bG
    refine (markActS_any _ _ M1 M2 _ _ (unhide HM2) (by omega) (by have := unhide HM1; omega) (by have := unhide HM1; omega) (by first | omega | (simp; omega)) (unhide oL_18)).mono ?_
    rintro e w19 ⟨rfl, hg19⟩
    have bA_19 := hide ((unhide bA_18).grown hg19 ((unhide L_oL).box (by omega)))
    have bW_19 := hide ((unhide bW_18).grown hg19 ((unhide L_oL).box (by omega)))
    have bX_19 := hide ((unhide bX_18).grown hg19 ((unhide L_oL).box (by omega)))
    have bG_19 := hide ((unhide bG_18).grown hg19 ((unhide L_oL).box (by omega)))
    have oW_19 := hide ((unhide oW_18).grown hg19 ((unhide L_oW).apart (unhide L_oL) (by omega)))
    have oX_19 := hide ((unhide oX_18).grown hg19 ((unhide L_oX).apart (unhide L_oL) (by omega)))
    have oI_19 := hide ((unhide oI_18).grown hg19 ((unhide L_oI).apart (unhide L_oL) (by omega)))
    have oG_19 := hide ((unhide oG_18).grown hg19 ((unhide L_oG).apart (unhide L_oL) (by omega)))
    have HB_19 := hide (bTrG (unhide HB_18) hg19 ((unhide L_oL).from (by omega)))
    have s_19 := hg19.size
    clear bA_18 bW_18 bX_18 bG_18 oW_18 oX_18 oI_18 oG_18 HB_18
    replace hg19 := hide hg19
    clear oL_18
    have c_bA := (unhide bA_19).cell
    have l_bA := (unhide bA_19).lt
    have c_bW := (unhide bW_19).cell
    have l_bW := (unhide bW_19).lt
    have c_bX := (unhide bX_19).cell
    have l_bX := (unhide bX_19).lt
    have c_bG := (unhide bG_19).cell
    have l_bG := (unhide bG_19).lt
    go_wp2_with fail
    clear c_bA l_bA c_bW l_bW c_bX l_bX c_bG l_bG
    refine (markIntS_any _ _ M2 M4 _ _ (unhide HM4) (by rw [List.length_map]; omega) (by have := unhide HM1; have := unhide HM2; omega) (unhide oI_19)).mono ?_
    rintro e w20 ⟨rfl, hg20⟩
    have bA_20 := hide ((unhide bA_19).grown hg20 ((unhide L_oI).box (by omega)))
    have bW_20 := hide ((unhide bW_19).grown hg20 ((unhide L_oI).box (by omega)))
    have bX_20 := hide ((unhide bX_19).grown hg20 ((unhide L_oI).box (by omega)))
    have bG_20 := hide ((unhide bG_19).grown hg20 ((unhide L_oI).box (by omega)))
    have oW_20 := hide ((unhide oW_19).grown hg20 ((unhide L_oW).apart (unhide L_oI) (by omega)))
    have oX_20 := hide ((unhide oX_19).grown hg20 ((unhide L_oX).apart (unhide L_oI) (by omega)))
    have oG_20 := hide ((unhide oG_19).grown hg20 ((unhide L_oG).apart (unhide L_oI) (by omega)))
    have HB_20 := hide (bTrG (unhide HB_19) hg20 ((unhide L_oI).from (by omega)))
    have s_20 := hg20.size
    clear bA_19 bW_19 bX_19 bG_19 oW_19 oX_19 oG_19 HB_19
    replace hg20 := hide hg20
    clear oI_19
    have c_bA := (unhide bA_20).cell
    have l_bA := (unhide bA_20).lt
    have c_bW := (unhide bW_20).cell
    have l_bW := (unhide bW_20).lt
    have c_bX := (unhide bX_20).cell
    have l_bX := (unhide bX_20).lt
    have c_bG := (unhide bG_20).cell
    have l_bG := (unhide bG_20).lt
    go_wp2_with fail
    clear c_bA l_bA c_bW l_bW c_bX l_bX c_bG l_bG
    refine ((unhide CE) _ _ _ (unhide oG_20).rd (unhide oW_20).rd).mono ?_
    rintro e w21 ⟨rfl, hb21⟩
    have bA_21 := hide ((unhide bA_20).step hb21)
    have bW_21 := hide ((unhide bW_20).step hb21)
    have bX_21 := hide ((unhide bX_20).step hb21)
    have bG_21 := hide ((unhide bG_20).step hb21)
    have oW_21 := hide ((unhide oW_20).below hb21)
    have oX_21 := hide ((unhide oX_20).below hb21)
    have oG_21 := hide ((unhide oG_20).below hb21)
    have HB_21 := hide (bTr (unhide HB_20) hb21)
    have s_21 := sz0 hb21
    clear bA_20 bW_20 bX_20 bG_20 oW_20 oX_20 oG_20 HB_20
    replace hb21 := hide hb21
    have c_bA := (unhide bA_21).cell
    have l_bA := (unhide bA_21).lt
    have c_bW := (unhide bW_21).cell
    have l_bW := (unhide bW_21).lt
    have c_bX := (unhide bX_21).cell
    have l_bX := (unhide bX_21).lt
    have c_bG := (unhide bG_21).cell
    have l_bG := (unhide bG_21).lt
    go_wp2_with fail
    clear c_bA l_bA c_bW l_bW c_bX l_bX c_bG l_bG
    refine (markDisk_any _ _ 1 M3 rs _ (unhide HM3) (by omega) (Nat.le_refl _) (by decide) (by first | omega | (simp; omega)) (unhide oG_21)).mono ?_
    rintro e w22 ⟨rfl, om22, hg22⟩
    have bA_22 := hide ((unhide bA_21).grown hg22 ((unhide L_oG).box (by omega)))
    have bW_22 := hide ((unhide bW_21).grown hg22 ((unhide L_oG).box (by omega)))
    have bX_22 := hide ((unhide bX_21).grown hg22 ((unhide L_oG).box (by omega)))
    have bG_22 := hide ((unhide bG_21).grown hg22 ((unhide L_oG).box (by omega)))
    have oW_22 := hide ((unhide oW_21).grown hg22 ((unhide L_oW).apart (unhide L_oG) (by omega)))
    have oX_22 := hide ((unhide oX_21).grown hg22 ((unhide L_oX).apart (unhide L_oG) (by omega)))
    have HB_22 := hide (bTrG (unhide HB_21) hg22 ((unhide L_oG).from (by omega)))
    have s_22 := hg22.size
    clear bA_21 bW_21 bX_21 bG_21 oW_21 oX_21 HB_21
    replace hg22 := hide hg22
    have oG_22 := hide om22
    clear om22 oG_21
    have c_bA := (unhide bA_22).cell
    have l_bA := (unhide bA_22).lt
    have c_bW := (unhide bW_22).cell
    have l_bW := (unhide bW_22).lt
    have c_bX := (unhide bX_22).cell
    have l_bX := (unhide bX_22).lt
    have c_bG := (unhide bG_22).cell
    have l_bG := (unhide bG_22).lt
    go_wp2_with fail
    clear c_bA l_bA c_bW l_bW c_bX l_bX c_bG l_bG
    refine (heldDisk_any _ _ 1 rs.length M3 _ (unhide HM3) (by omega) (Nat.le_refl _) (by decide) (unhide oG_22)).mono ?_
    rintro e w23 ⟨rfl, hb23⟩
    have bA_23 := hide ((unhide bA_22).step hb23)
    have bW_23 := hide ((unhide bW_22).step hb23)
    have bX_23 := hide ((unhide bX_22).step hb23)
    have bG_23 := hide ((unhide bG_22).step hb23)
    have oW_23 := hide ((unhide oW_22).below hb23)
    have oX_23 := hide ((unhide oX_22).below hb23)
    have oG_23 := hide ((unhide oG_22).below hb23)
    have HB_23 := hide (bTr (unhide HB_22) hb23)
    have s_23 := sz0 hb23
    clear bA_22 bW_22 bX_22 bG_22 oW_22 oX_22 oG_22 HB_22
    replace hb23 := hide hb23
    have c_bA := (unhide bA_23).cell
    have l_bA := (unhide bA_23).lt
    have c_bW := (unhide bW_23).cell
    have l_bW := (unhide bW_23).lt
    have c_bX := (unhide bX_23).cell
    have l_bX := (unhide bX_23).lt
    have c_bG := (unhide bG_23).cell
    have l_bG := (unhide bG_23).lt
    go_wp2_with fail
    clear c_bA l_bA c_bW l_bW c_bX l_bX c_bG l_bG
    refine ((unhide CT) _ ((unhide hr).below (unhide HB_23))).mono ?_
    rintro e w24 ⟨⟨a_y, q_y, rfl, o24⟩, hb24⟩
    have bA_24 := hide ((unhide bA_23).step hb24)
    have bW_24 := hide ((unhide bW_23).step hb24)
    have bX_24 := hide ((unhide bX_23).step hb24)
    have bG_24 := hide ((unhide bG_23).step hb24)
    have oW_24 := hide ((unhide oW_23).below hb24)
    have oX_24 := hide ((unhide oX_23).below hb24)
    have oG_24 := hide ((unhide oG_23).below hb24)
    have HB_24 := hide (bTr (unhide HB_23) hb24)
    have s_24 := sz0 hb24
    clear bA_23 bW_23 bX_23 bG_23 oW_23 oX_23 oG_23 HB_23
    replace hb24 := hide hb24
    have y_24 := hide o24
    clear o24
    have L_y : Hid (Lies _ _ _) := fun k hk => (unhide y_24).lt k hk
    have c_bA := (unhide bA_24).cell
    have l_bA := (unhide bA_24).lt
    have c_bW := (unhide bW_24).cell
    have l_bW := (unhide bW_24).lt
    have c_bX := (unhide bX_24).cell
    have l_bX := (unhide bX_24).lt
    have c_bG := (unhide bG_24).cell
    have l_bG := (unhide bG_24).lt
    go_wp2_with fail
    clear c_bA l_bA c_bW l_bW c_bX l_bX c_bG l_bG
    refine ((unhide CA) _ ((unhide ha).below (unhide HB_24))).mono ?_
    rintro e w25 ⟨⟨a_ya, q_ya, rfl, o25⟩, hb25⟩
    have bA_25 := hide ((unhide bA_24).step hb25)
    have bW_25 := hide ((unhide bW_24).step hb25)
    have bX_25 := hide ((unhide bX_24).step hb25)
    have bG_25 := hide ((unhide bG_24).step hb25)
    have oW_25 := hide ((unhide oW_24).below hb25)
    have oX_25 := hide ((unhide oX_24).below hb25)
    have oG_25 := hide ((unhide oG_24).below hb25)
    have y_25 := hide ((unhide y_24).below hb25)
    have HB_25 := hide (bTr (unhide HB_24) hb25)
    have s_25 := sz0 hb25
    clear bA_24 bW_24 bX_24 bG_24 oW_24 oX_24 oG_24 y_24 HB_24
    replace hb25 := hide hb25
    have ya_25 := hide o25
    clear o25
    have L_ya : Hid (Lies _ _ _) := fun k hk => (unhide ya_25).lt k hk
    have c_bA := (unhide bA_25).cell
    have l_bA := (unhide bA_25).lt
    have c_bW := (unhide bW_25).cell
    have l_bW := (unhide bW_25).lt
    have c_bX := (unhide bX_25).cell
    have l_bX := (unhide bX_25).lt
    have c_bG := (unhide bG_25).cell
    have l_bG := (unhide bG_25).lt
    go_wp2_with fail
    clear c_bA l_bA c_bW l_bW c_bX l_bX c_bG l_bG
    refine ((unhide CI) _ ((unhide hl).below (unhide HB_25))).mono ?_
    rintro e w26 ⟨⟨a_yi, q_yi, rfl, o26⟩, hb26⟩
    have bA_26 := hide ((unhide bA_25).step hb26)
    have bW_26 := hide ((unhide bW_25).step hb26)
    have bX_26 := hide ((unhide bX_25).step hb26)
    have bG_26 := hide ((unhide bG_25).step hb26)
    have oW_26 := hide ((unhide oW_25).below hb26)
    have oX_26 := hide ((unhide oX_25).below hb26)
    have oG_26 := hide ((unhide oG_25).below hb26)
    have y_26 := hide ((unhide y_25).below hb26)
    have ya_26 := hide ((unhide ya_25).below hb26)
    have HB_26 := hide (bTr (unhide HB_25) hb26)
    have s_26 := sz0 hb26
    clear bA_25 bW_25 bX_25 bG_25 oW_25 oX_25 oG_25 y_25 ya_25 HB_25
    replace hb26 := hide hb26
    have yi_26 := hide o26
    clear o26
    have L_yi : Hid (Lies _ _ _) := fun k hk => (unhide yi_26).lt k hk
    have c_bA := (unhide bA_26).cell
    have l_bA := (unhide bA_26).lt
    have c_bW := (unhide bW_26).cell
    have l_bW := (unhide bW_26).lt
    have c_bX := (unhide bX_26).cell
    have l_bX := (unhide bX_26).lt
    have c_bG := (unhide bG_26).cell
    have l_bG := (unhide bG_26).lt
    go_wp2_with fail
    clear c_bA l_bA c_bW l_bW c_bX l_bX c_bG l_bG
    refine ((unhide CM) _ _ _ _ (unhide y_26).rd (unhide ya_26).rdac (unhide yi_26).rdv).mono ?_
    rintro e w27 ⟨⟨a_oH, q_oH, rfl, o27⟩, hb27⟩
    have bA_27 := hide ((unhide bA_26).step hb27)
    have bW_27 := hide ((unhide bW_26).step hb27)
    have bX_27 := hide ((unhide bX_26).step hb27)
    have bG_27 := hide ((unhide bG_26).step hb27)
    have oW_27 := hide ((unhide oW_26).below hb27)
    have oX_27 := hide ((unhide oX_26).below hb27)
    have oG_27 := hide ((unhide oG_26).below hb27)
    have y_27 := hide ((unhide y_26).below hb27)
    have ya_27 := hide ((unhide ya_26).below hb27)
    have yi_27 := hide ((unhide yi_26).below hb27)
    have HB_27 := hide (bTr (unhide HB_26) hb27)
    have s_27 := sz0 hb27
    clear bA_26 bW_26 bX_26 bG_26 oW_26 oX_26 oG_26 y_26 ya_26 yi_26 HB_26
    replace hb27 := hide hb27
    have oH_27 := hide o27
    clear o27
    have L_oH : Hid (Lies _ _ _) := fun k hk => (unhide oH_27).lt k hk
    clear y_27 L_y
    clear ya_27 L_ya
    clear yi_27 L_yi
    have c_bA := (unhide bA_27).cell
    have l_bA := (unhide bA_27).lt
    have c_bW := (unhide bW_27).cell
    have l_bW := (unhide bW_27).lt
    have c_bX := (unhide bX_27).cell
    have l_bX := (unhide bX_27).lt
    have c_bG := (unhide bG_27).cell
    have l_bG := (unhide bG_27).lt
    go_wp2_with fail
    clear c_bA l_bA c_bW l_bW c_bX l_bX c_bG l_bG
    refine ((unhide CE) _ _ _ ((unhide oH_27).alloc _).rd ((unhide oW_27).alloc _).rd).mono ?_
    rintro e w28 ⟨rfl, hb28⟩
    have bA_28 := hide (((unhide bA_27).alloc _).step hb28)
    have bW_28 := hide (((unhide bW_27).alloc _).step hb28)
    have bX_28 := hide (((unhide bX_27).alloc _).step hb28)
    have bG_28 := hide (((unhide bG_27).alloc _).step hb28)
    have bH_28 := hide ((Box.new w27 _ _).step hb28)
    have oW_28 := hide (((unhide oW_27).alloc _).below hb28)
    have oX_28 := hide (((unhide oX_27).alloc _).below hb28)
    have oG_28 := hide (((unhide oG_27).alloc _).below hb28)
    have oH_28 := hide (((unhide oH_27).alloc _).below hb28)
    have HB_28 := hide (bTr (bTrA (unhide HB_27) _) hb28)
    have s_28 := sz1 hb28
    clear bA_27 bW_27 bX_27 bG_27 oW_27 oX_27 oG_27 oH_27 HB_27
    replace hb28 := hide hb28
    have c_bA := (unhide bA_28).cell
    have l_bA := (unhide bA_28).lt
    have c_bW := (unhide bW_28).cell
    have l_bW := (unhide bW_28).lt
    have c_bX := (unhide bX_28).cell
    have l_bX := (unhide bX_28).lt
    have c_bG := (unhide bG_28).cell
    have l_bG := (unhide bG_28).lt
    have c_bH := (unhide bH_28).cell
    have l_bH := (unhide bH_28).lt
    go_wp2_with fail
    clear c_bA l_bA c_bW l_bW c_bX l_bX c_bG l_bG c_bH l_bH
    refine (heldDisk_any _ _ 1 rs.length M3 _ (unhide HM3) (by omega) (Nat.le_refl _) (by decide) (unhide oG_28)).mono ?_
    rintro e w29 ⟨rfl, hb29⟩
    have bA_29 := hide ((unhide bA_28).step hb29)
    have bW_29 := hide ((unhide bW_28).step hb29)
    have bX_29 := hide ((unhide bX_28).step hb29)
    have bG_29 := hide ((unhide bG_28).step hb29)
    have bH_29 := hide ((unhide bH_28).step hb29)
    have oW_29 := hide ((unhide oW_28).below hb29)
    have oX_29 := hide ((unhide oX_28).below hb29)
    have oG_29 := hide ((unhide oG_28).below hb29)
    have oH_29 := hide ((unhide oH_28).below hb29)
    have HB_29 := hide (bTr (unhide HB_28) hb29)
    have s_29 := sz0 hb29
    clear bA_28 bW_28 bX_28 bG_28 bH_28 oW_28 oX_28 oG_28 oH_28 HB_28
    replace hb29 := hide hb29
    go_wp2
    go_ret
    exact ⟨rfl, unhide HB_29⟩
end Go.Proofs.Ytfglljollonnfal
