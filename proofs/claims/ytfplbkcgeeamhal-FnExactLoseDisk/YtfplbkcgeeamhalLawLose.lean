/- The law of LoseDisk, walked: at every disk and every list the two answers are the same, nothing is written into an argument, and what is answered owns its memory. -/
import Derived.Test.YtfplbkcgeeamhalLoseS
import Derived.Test.YtfplbkcgeeamhalMarkF
import Derived.Test.YtfplbkcgeeamhalInts
import Derived.Test.YtfplbkcgeeamhalLawDiskOk
namespace Go.Proofs.Ytfplbkcgeeamhal
open Go.RowKit

theorem loseRes_len (fs : List Fl) (is : List Int) : (loseRes fs is).length ≤ fs.length := by
  unfold loseRes
  split
  · rw [loseL_len]; exact Nat.le_refl _
  · simp

set_option maxRecDepth 20000 in
set_option maxHeartbeats 4000000 in
theorem lawLose_any (fs : List Fl) (is : List Int) (v vl : Value) (w : World) (hr : RdF w v fs) (hl : RdV w vl (is.map iv)) (hn : fs.length ≤ maxLen) (hz : ∀ f ∈ fs, f.nm.size ≤ maxLen ∧ f.tx.size ≤ maxLen) (hni : is.length ≤ maxLen) :
    Calls Try.prog 5 #[.agg #[v], vl] w fun e w' => e = .returned (.bool true) ∧ Below w.heap.size w w' := by
  have C0 : Hid (∀ W, RdF W v fs → Calls Try.prog 8 #[.agg #[v], .int .i64 1048576] W fun e w' => (∃ r : Int, e = .returned (.int .i64 r) ∧ SzEnd fs r) ∧ Below W.heap.size W w') := fun W h => szDisk_any fs v W h hn hz
  obtain ⟨a, c, rfl⟩ := hr.shape
  obtain ⟨al, cl, rfl⟩ := hl.shape
  rw [List.length_map] at *
  replace hr := hide hr
  replace hl := hide hl
  unfold maxLen at hni
  clear hn hz
  by_cases hbig : (1048576 : Int) < (is.length : Int)
  · go_enter Try.func5, Try.ntmps5
    go_wp2
    go_ret
    exact ⟨rfl, (Below.refl w.heap.size w).alloc (Nat.le_refl _) _⟩
  go_enter Try.func5, Try.ntmps5
  go_wp2_with fail
  refine ((unhide C0) _ ((unhide hr).alloc _)).mono ?_
  rintro e w1 ⟨⟨r, rfl, hr1⟩, hb1⟩
  have HB_1 := hide (bTr (bTrA (Below.refl w.heap.size w) _) hb1)
  have bA_1 := hide ((Box.new w _ _).step hb1)
  have s_1 := sz1 hb1
  replace hb1 := hide hb1
  by_cases hneg : r < 0
  · go_wp2
    go_ret
    exact ⟨rfl, unhide HB_1⟩
  · obtain ⟨m, _, hsum⟩ : ∃ m : Nat, r = m ∧ m + fs.length + flsSz fs = 1048576 := hr1.resolve_left (by omega)
    obtain ⟨hBd, hlen⟩ := bd_of hsum
    have hBd := hide hBd
    clear hsum hr1
    have CT : Hid (∀ W, RdF W (.slice a fs.length c) fs → Calls Try.prog 11 #[.agg #[.slice a fs.length c]] W fun e w' => (∃ a c, e = .returned (.agg #[.slice a fs.length c]) ∧ OwnF w' W.heap.size 63 (.slice a fs.length c) fs) ∧ Below W.heap.size W w') := fun W h => toDisk_any fs _ W h hlen
    have CI : Hid (∀ W, RdV W (.slice al is.length cl) (is.map iv) → Calls Try.prog 24 #[.slice al is.length cl] W fun e w' => (∃ a c, e = .returned (.slice a is.length c) ∧ OwnV w' W.heap.size 3 (.slice a is.length c) (is.map iv)) ∧ Below W.heap.size W w') := fun W h => toIntS_any is _ W h (by omega)
    have CEF : Hid (∀ W v1 v2, RdF W v1 fs → RdF W v2 fs → Calls Try.prog 14 #[.agg #[v1], .agg #[v2]] W fun e w' => e = .returned (.bool true) ∧ Below W.heap.size W w') := fun W v1 v2 h1 h2 => eqDisk_any fs v1 v2 W h1 h2 (by omega)
    have CEI : Hid (∀ W v1 v2, RdV W v1 (is.map iv) → RdV W v2 (is.map iv) → Calls Try.prog 26 #[v1, v2] W fun e w' => e = .returned (.bool true) ∧ Below W.heap.size W w') := fun W v1 v2 h1 h2 => eqIntS_any is v1 v2 W h1 h2 (by omega)
    have CS : Hid (∀ W v1 v2, RdF W v1 fs → RdV W v2 (is.map iv) → Calls Try.prog 23 #[.agg #[v1], v2] W fun e w' => DkEnd 63 (loseRes fs is) (okL fs) W e w') := fun W v1 v2 h1 h2 => specLose_any fs is v1 v2 W h1 h2 (unhide hBd) (by omega) (by omega)
    have CM : Hid (∀ W v1 v2, RdF W v1 fs → RdV W v2 (is.map iv) → Calls Try.prog 25 #[.agg #[v1], v2] W fun e w' => DkEnd 63 (loseRes fs is) (okL fs) W e w') := fun W v1 v2 h1 h2 => implLose_any fs is v1 v2 W h1 h2 (unhide hBd) (by omega) (by omega)
    have hrsl := loseRes_len fs is
    unfold DkEnd at CS CM
    generalize loseRes fs is = rs at CS CM hrsl
    generalize okL fs = okb at CS CM
    have CE : Hid (∀ W v1 v2, RdF W v1 rs → RdF W v2 rs → Calls Try.prog 14 #[.agg #[v1], .agg #[v2]] W fun e w' => e = .returned (.bool true) ∧ Below W.heap.size W w') := fun W v1 v2 h1 h2 => eqDisk_any rs v1 v2 W h1 h2 (by omega)
    obtain ⟨M1, hM1⟩ : ∃ M : Nat, M = 1 + 3 * fs.length := ⟨_, rfl⟩
    have HM1 := hide hM1
    clear hM1
    obtain ⟨M2, hM2⟩ : ∃ M : Nat, M = M1 + (is.map iv).length := ⟨_, rfl⟩
    have HM2 := hide hM2
    clear hM2
    obtain ⟨M3, hM3⟩ : ∃ M : Nat, M = 1 + 3 * rs.length := ⟨_, rfl⟩
    have HM3 := hide hM3
    clear hM3
    have c_bA := (unhide bA_1).cell
    have l_bA := (unhide bA_1).lt
    go_wp2_with fail
    clear c_bA l_bA
    refine ((unhide CT) _ ((unhide hr).below (unhide HB_1))).mono ?_
    rintro e w2 ⟨⟨a_x, q_x, rfl, o2⟩, hb2⟩
    have bA_2 := hide ((unhide bA_1).step hb2)
    have HB_2 := hide (bTr (unhide HB_1) hb2)
    have s_2 := sz0 hb2
    clear bA_1
    clear HB_1
    replace hb2 := hide hb2
    have x_2 := hide o2
    clear o2
    have L_x : Hid (Lies _ _ _) := fun k hk => (unhide x_2).lt k hk
    have c_bA := (unhide bA_2).cell
    have l_bA := (unhide bA_2).lt
    go_wp2_with fail
    clear c_bA l_bA
    refine ((unhide CI) _ ((unhide hl).below (unhide HB_2))).mono ?_
    rintro e w3 ⟨⟨a_xi, q_xi, rfl, o3⟩, hb3⟩
    have bA_3 := hide ((unhide bA_2).step hb3)
    have x_3 := hide ((unhide x_2).below hb3)
    have HB_3 := hide (bTr (unhide HB_2) hb3)
    have s_3 := sz0 hb3
    clear bA_2
    clear x_2
    clear HB_2
    replace hb3 := hide hb3
    have xi_3 := hide o3
    clear o3
    have L_xi : Hid (Lies _ _ _) := fun k hk => (unhide xi_3).lt k hk
    have c_bA := (unhide bA_3).cell
    have l_bA := (unhide bA_3).lt
    go_wp2_with fail
    clear c_bA l_bA
    refine ((unhide CS) _ _ _ (unhide x_3).rd (unhide xi_3).rdv).mono ?_
    rintro e w4 ⟨⟨a_oW, q_oW, rfl, o4⟩, hb4⟩
    have bA_4 := hide ((unhide bA_3).step hb4)
    have x_4 := hide ((unhide x_3).below hb4)
    have xi_4 := hide ((unhide xi_3).below hb4)
    have HB_4 := hide (bTr (unhide HB_3) hb4)
    have s_4 := sz0 hb4
    clear bA_3
    clear x_3
    clear xi_3
    clear HB_3
    replace hb4 := hide hb4
    have oW_4 := hide o4
    clear o4
    have L_oW : Hid (Lies _ _ _) := fun k hk => (unhide oW_4).lt k hk
    clear x_4 L_x
    clear xi_4 L_xi
    have c_bA := (unhide bA_4).cell
    have l_bA := (unhide bA_4).lt
    go_wp2_with fail
    clear c_bA l_bA
    refine ((unhide CT) _ ((unhide hr).below (bTrA (unhide HB_4) _))).mono ?_
    rintro e w5 ⟨⟨a_oX, q_oX, rfl, o5⟩, hb5⟩
    have bA_5 := hide (((unhide bA_4).alloc _).step hb5)
    have bW_5 := hide ((Box.new w4 _ _).step hb5)
    have oW_5 := hide (((unhide oW_4).alloc _).below hb5)
    have HB_5 := hide (bTr (bTrA (unhide HB_4) _) hb5)
    have s_5 := sz1 hb5
    clear bA_4
    clear oW_4
    clear HB_4
    replace hb5 := hide hb5
    have oX_5 := hide o5
    clear o5
    have L_oX : Hid (Lies _ (w4.heap.size + 1) w5.heap.size) := fun k hk => by have := (unhide oX_5).lt k hk; simpa using this
    have c_bA := (unhide bA_5).cell
    have l_bA := (unhide bA_5).lt
    have c_bW := (unhide bW_5).cell
    have l_bW := (unhide bW_5).lt
    go_wp2_with fail
    clear c_bA l_bA c_bW l_bW
    refine ((unhide CI) _ ((unhide hl).below (bTrA (unhide HB_5) _))).mono ?_
    rintro e w6 ⟨⟨a_oI, q_oI, rfl, o6⟩, hb6⟩
    have bA_6 := hide (((unhide bA_5).alloc _).step hb6)
    have bW_6 := hide (((unhide bW_5).alloc _).step hb6)
    have bX_6 := hide ((Box.new w5 _ _).step hb6)
    have oW_6 := hide (((unhide oW_5).alloc _).below hb6)
    have oX_6 := hide (((unhide oX_5).alloc _).below hb6)
    have HB_6 := hide (bTr (bTrA (unhide HB_5) _) hb6)
    have s_6 := sz1 hb6
    clear bA_5
    clear bW_5
    clear oW_5
    clear oX_5
    clear HB_5
    replace hb6 := hide hb6
    have oI_6 := hide o6
    clear o6
    have L_oI : Hid (Lies _ (w5.heap.size + 1) w6.heap.size) := fun k hk => by have := (unhide oI_6).lt k hk; simpa using this
    have c_bA := (unhide bA_6).cell
    have l_bA := (unhide bA_6).lt
    have c_bW := (unhide bW_6).cell
    have l_bW := (unhide bW_6).lt
    have c_bX := (unhide bX_6).cell
    have l_bX := (unhide bX_6).lt
    go_wp2_with fail
    clear c_bA l_bA c_bW l_bW c_bX l_bX
    refine ((unhide CM) _ _ _ (unhide oX_6).rd (unhide oI_6).rdv).mono ?_
    rintro e w7 ⟨⟨a_oG, q_oG, rfl, o7⟩, hb7⟩
    have bA_7 := hide ((unhide bA_6).step hb7)
    have bW_7 := hide ((unhide bW_6).step hb7)
    have bX_7 := hide ((unhide bX_6).step hb7)
    have oW_7 := hide ((unhide oW_6).below hb7)
    have oX_7 := hide ((unhide oX_6).below hb7)
    have oI_7 := hide ((unhide oI_6).below hb7)
    have HB_7 := hide (bTr (unhide HB_6) hb7)
    have s_7 := sz0 hb7
    clear bA_6
    clear bW_6
    clear bX_6
    clear oW_6
    clear oX_6
    clear oI_6
    clear HB_6
    replace hb7 := hide hb7
    have oG_7 := hide o7
    clear o7
    have L_oG : Hid (Lies _ _ _) := fun k hk => (unhide oG_7).lt k hk
    have c_bA := (unhide bA_7).cell
    have l_bA := (unhide bA_7).lt
    have c_bW := (unhide bW_7).cell
    have l_bW := (unhide bW_7).lt
    have c_bX := (unhide bX_7).cell
    have l_bX := (unhide bX_7).lt
    go_wp2_with fail
    clear c_bA l_bA c_bW l_bW c_bX l_bX
    refine ((unhide CE) _ _ _ ((unhide oG_7).alloc _).rd ((unhide oW_7).alloc _).rd).mono ?_
    rintro e w8 ⟨rfl, hb8⟩
    have bA_8 := hide (((unhide bA_7).alloc _).step hb8)
    have bW_8 := hide (((unhide bW_7).alloc _).step hb8)
    have bX_8 := hide (((unhide bX_7).alloc _).step hb8)
    have bG_8 := hide ((Box.new w7 _ _).step hb8)
    have oW_8 := hide (((unhide oW_7).alloc _).below hb8)
    have oX_8 := hide (((unhide oX_7).alloc _).below hb8)
    have oI_8 := hide (((unhide oI_7).alloc _).below hb8)
    have oG_8 := hide (((unhide oG_7).alloc _).below hb8)
    have HB_8 := hide (bTr (bTrA (unhide HB_7) _) hb8)
    have s_8 := sz1 hb8
    clear bA_7
    clear bW_7
    clear bX_7
    clear oW_7
    clear oX_7
    clear oI_7
    clear oG_7
    clear HB_7
    replace hb8 := hide hb8
    have c_bA := (unhide bA_8).cell
    have l_bA := (unhide bA_8).lt
    have c_bW := (unhide bW_8).cell
    have l_bW := (unhide bW_8).lt
    have c_bX := (unhide bX_8).cell
    have l_bX := (unhide bX_8).lt
    have c_bG := (unhide bG_8).cell
    have l_bG := (unhide bG_8).lt
    go_wp2_with fail
    go_region_held3 (fun W => W.cell? ⟨w5.heap.size, 0, none⟩ = some (.slice a_oX fs.length q_oX) ∧ W.cell? ⟨w.heap.size, 0, none⟩ = some (.slice a fs.length c)) (first | exact ⟨c_bX, c_bA⟩ | exact ⟨(hb9.cell (p := ⟨w5.heap.size, 0, none⟩) l_bX).trans c_bX, (hb9.cell (p := ⟨w.heap.size, 0, none⟩) l_bA).trans c_bA⟩ | (have hb67 := hb9.trans (hb10.mono hb9.size); exact ⟨(hb67.cell (p := ⟨w5.heap.size, 0, none⟩) l_bX).trans c_bX, (hb67.cell (p := ⟨w.heap.size, 0, none⟩) l_bA).trans c_bA⟩)) (first
      | (go_at_call 11; refine ((unhide CT) _ (by exact ((unhide hr).below (unhide HB_8)).drew)).mono ?_; rintro e w9 ⟨⟨a_t, q_t, rfl, o9⟩, hb9⟩)
      | (go_at_call 14; refine ((unhide CEF) _ _ _ (by exact ((unhide oX_8).rd.drew).below hb9) (by exact o9.rd)).mono ?_; rintro e w10 ⟨rfl, hb10⟩))
    clear c_bA l_bA c_bW l_bW c_bX l_bX c_bG l_bG
    have hbd8 : Below w8.heap.size w8 w10 := (Below.refl _ w8).drew.trans (hb9.trans (hb10.mono hb9.size))
    clear hb9 hb10 o9
    have bA_10 := hide ((unhide bA_8).step hbd8)
    have bW_10 := hide ((unhide bW_8).step hbd8)
    have bX_10 := hide ((unhide bX_8).step hbd8)
    have bG_10 := hide ((unhide bG_8).step hbd8)
    have oW_10 := hide ((unhide oW_8).below hbd8)
    have oX_10 := hide ((unhide oX_8).below hbd8)
    have oI_10 := hide ((unhide oI_8).below hbd8)
    have oG_10 := hide ((unhide oG_8).below hbd8)
    have HB_10 := hide (bTr (unhide HB_8) hbd8)
    have s_10 := sz0 hbd8
    clear bA_8
    clear bW_8
    clear bX_8
    clear bG_8
    clear oW_8
    clear oX_8
    clear oI_8
    clear oG_8
    clear HB_8
    replace hbd8 := hide hbd8
    have c_bA := (unhide bA_10).cell
    have l_bA := (unhide bA_10).lt
    have c_bW := (unhide bW_10).cell
    have l_bW := (unhide bW_10).lt
    have c_bX := (unhide bX_10).cell
    have l_bX := (unhide bX_10).lt
    have c_bG := (unhide bG_10).cell
    have l_bG := (unhide bG_10).lt
    go_wp2_with fail
    clear c_bA l_bA c_bW l_bW c_bX l_bX c_bG l_bG
    refine ((unhide CI) _ ((unhide hl).below (unhide HB_10))).mono ?_
    rintro e w11 ⟨⟨a_t2, q_t2, rfl, o11⟩, hb11⟩
    have bA_11 := hide ((unhide bA_10).step hb11)
    have bW_11 := hide ((unhide bW_10).step hb11)
    have bX_11 := hide ((unhide bX_10).step hb11)
    have bG_11 := hide ((unhide bG_10).step hb11)
    have oW_11 := hide ((unhide oW_10).below hb11)
    have oX_11 := hide ((unhide oX_10).below hb11)
    have oI_11 := hide ((unhide oI_10).below hb11)
    have oG_11 := hide ((unhide oG_10).below hb11)
    have HB_11 := hide (bTr (unhide HB_10) hb11)
    have s_11 := sz0 hb11
    clear bA_10
    clear bW_10
    clear bX_10
    clear bG_10
    clear oW_10
    clear oX_10
    clear oI_10
    clear oG_10
    clear HB_10
    replace hb11 := hide hb11
    have t2_11 := hide o11
    clear o11
    have L_t2 : Hid (Lies _ _ _) := fun k hk => (unhide t2_11).lt k hk
    have c_bA := (unhide bA_11).cell
    have l_bA := (unhide bA_11).lt
    have c_bW := (unhide bW_11).cell
    have l_bW := (unhide bW_11).lt
    have c_bX := (unhide bX_11).cell
    have l_bX := (unhide bX_11).lt
    have c_bG := (unhide bG_11).cell
    have l_bG := (unhide bG_11).lt
    go_wp2_with fail
    clear c_bA l_bA c_bW l_bW c_bX l_bX c_bG l_bG
    refine ((unhide CEI) _ _ _ (unhide oI_11).rdv (unhide t2_11).rdv).mono ?_
    rintro e w12 ⟨rfl, hb12⟩
    have bA_12 := hide ((unhide bA_11).step hb12)
    have bW_12 := hide ((unhide bW_11).step hb12)
    have bX_12 := hide ((unhide bX_11).step hb12)
    have bG_12 := hide ((unhide bG_11).step hb12)
    have oW_12 := hide ((unhide oW_11).below hb12)
    have oX_12 := hide ((unhide oX_11).below hb12)
    have oI_12 := hide ((unhide oI_11).below hb12)
    have oG_12 := hide ((unhide oG_11).below hb12)
    have t2_12 := hide ((unhide t2_11).below hb12)
    have HB_12 := hide (bTr (unhide HB_11) hb12)
    have s_12 := sz0 hb12
    clear bA_11
    clear bW_11
    clear bX_11
    clear bG_11
    clear oW_11
    clear oX_11
    clear oI_11
    clear oG_11
    clear t2_11
    clear HB_11
    replace hb12 := hide hb12
    clear t2_12 L_t2
    have c_bA := (unhide bA_12).cell
    have l_bA := (unhide bA_12).lt
    have c_bW := (unhide bW_12).cell
    have l_bW := (unhide bW_12).lt
    have c_bX := (unhide bX_12).cell
    have l_bX := (unhide bX_12).lt
    have c_bG := (unhide bG_12).cell
    have l_bG := (unhide bG_12).lt
    go_wp2_with fail
    clear c_bA l_bA c_bW l_bW c_bX l_bX c_bG l_bG
    refine (markDisk_any _ _ 1 M1 fs _ (unhide HM1) (by omega) (Nat.le_refl _) (by decide) (by first | omega | (simp; omega)) (unhide oX_12)).mono ?_
    rintro e w13 ⟨rfl, om13, hg13⟩
    have bA_13 := hide ((unhide bA_12).grown hg13 ((unhide L_oX).box (by omega)))
    have bW_13 := hide ((unhide bW_12).grown hg13 ((unhide L_oX).box (by omega)))
    have bX_13 := hide ((unhide bX_12).grown hg13 ((unhide L_oX).box (by omega)))
    have bG_13 := hide ((unhide bG_12).grown hg13 ((unhide L_oX).box (by omega)))
    have oW_13 := hide ((unhide oW_12).grown hg13 ((unhide L_oW).apart (unhide L_oX) (by omega)))
    have oI_13 := hide ((unhide oI_12).grown hg13 ((unhide L_oI).apart (unhide L_oX) (by omega)))
    have oG_13 := hide ((unhide oG_12).grown hg13 ((unhide L_oG).apart (unhide L_oX) (by omega)))
    have HB_13 := hide (bTrG (unhide HB_12) hg13 ((unhide L_oX).from (by omega)))
    have s_13 := hg13.size
    clear bA_12
    clear bW_12
    clear bX_12
    clear bG_12
    clear oW_12
    clear oI_12
    clear oG_12
    clear HB_12
    replace hg13 := hide hg13
    have oX_13 := hide om13
    clear om13 oX_12
    have c_bA := (unhide bA_13).cell
    have l_bA := (unhide bA_13).lt
    have c_bW := (unhide bW_13).cell
    have l_bW := (unhide bW_13).lt
    have c_bX := (unhide bX_13).cell
    have l_bX := (unhide bX_13).lt
    have c_bG := (unhide bG_13).cell
    have l_bG := (unhide bG_13).lt
    go_wp2_with fail
    clear c_bA l_bA c_bW l_bW c_bX l_bX c_bG l_bG
    refine (markIntS_any _ _ M1 M2 _ _ (unhide HM2) (by rw [List.length_map]; omega) (by have := unhide HM1; omega) (unhide oI_13)).mono ?_
    rintro e w14 ⟨rfl, hg14⟩
    have bA_14 := hide ((unhide bA_13).grown hg14 ((unhide L_oI).box (by omega)))
    have bW_14 := hide ((unhide bW_13).grown hg14 ((unhide L_oI).box (by omega)))
    have bX_14 := hide ((unhide bX_13).grown hg14 ((unhide L_oI).box (by omega)))
    have bG_14 := hide ((unhide bG_13).grown hg14 ((unhide L_oI).box (by omega)))
    have oW_14 := hide ((unhide oW_13).grown hg14 ((unhide L_oW).apart (unhide L_oI) (by omega)))
    have oX_14 := hide ((unhide oX_13).grown hg14 ((unhide L_oX).apart (unhide L_oI) (by omega)))
    have oG_14 := hide ((unhide oG_13).grown hg14 ((unhide L_oG).apart (unhide L_oI) (by omega)))
    have HB_14 := hide (bTrG (unhide HB_13) hg14 ((unhide L_oI).from (by omega)))
    have s_14 := hg14.size
    clear bA_13
    clear bW_13
    clear bX_13
    clear bG_13
    clear oW_13
    clear oX_13
    clear oG_13
    clear HB_13
    replace hg14 := hide hg14
    clear oI_13
    have c_bA := (unhide bA_14).cell
    have l_bA := (unhide bA_14).lt
    have c_bW := (unhide bW_14).cell
    have l_bW := (unhide bW_14).lt
    have c_bX := (unhide bX_14).cell
    have l_bX := (unhide bX_14).lt
    have c_bG := (unhide bG_14).cell
    have l_bG := (unhide bG_14).lt
    go_wp2_with fail
    clear c_bA l_bA c_bW l_bW c_bX l_bX c_bG l_bG
    refine ((unhide CE) _ _ _ (unhide oG_14).rd (unhide oW_14).rd).mono ?_
    rintro e w15 ⟨rfl, hb15⟩
    have bA_15 := hide ((unhide bA_14).step hb15)
    have bW_15 := hide ((unhide bW_14).step hb15)
    have bX_15 := hide ((unhide bX_14).step hb15)
    have bG_15 := hide ((unhide bG_14).step hb15)
    have oW_15 := hide ((unhide oW_14).below hb15)
    have oX_15 := hide ((unhide oX_14).below hb15)
    have oG_15 := hide ((unhide oG_14).below hb15)
    have HB_15 := hide (bTr (unhide HB_14) hb15)
    have s_15 := sz0 hb15
    clear bA_14
    clear bW_14
    clear bX_14
    clear bG_14
    clear oW_14
    clear oX_14
    clear oG_14
    clear HB_14
    replace hb15 := hide hb15
    have c_bA := (unhide bA_15).cell
    have l_bA := (unhide bA_15).lt
    have c_bW := (unhide bW_15).cell
    have l_bW := (unhide bW_15).lt
    have c_bX := (unhide bX_15).cell
    have l_bX := (unhide bX_15).lt
    have c_bG := (unhide bG_15).cell
    have l_bG := (unhide bG_15).lt
    go_wp2_with fail
    clear c_bA l_bA c_bW l_bW c_bX l_bX c_bG l_bG
    refine (markDisk_any _ _ 1 M3 rs _ (unhide HM3) (by omega) (Nat.le_refl _) (by decide) (by first | omega | (simp; omega)) (unhide oG_15)).mono ?_
    rintro e w16 ⟨rfl, om16, hg16⟩
    have bA_16 := hide ((unhide bA_15).grown hg16 ((unhide L_oG).box (by omega)))
    have bW_16 := hide ((unhide bW_15).grown hg16 ((unhide L_oG).box (by omega)))
    have bX_16 := hide ((unhide bX_15).grown hg16 ((unhide L_oG).box (by omega)))
    have bG_16 := hide ((unhide bG_15).grown hg16 ((unhide L_oG).box (by omega)))
    have oW_16 := hide ((unhide oW_15).grown hg16 ((unhide L_oW).apart (unhide L_oG) (by omega)))
    have oX_16 := hide ((unhide oX_15).grown hg16 ((unhide L_oX).apart (unhide L_oG) (by omega)))
    have HB_16 := hide (bTrG (unhide HB_15) hg16 ((unhide L_oG).from (by omega)))
    have s_16 := hg16.size
    clear bA_15
    clear bW_15
    clear bX_15
    clear bG_15
    clear oW_15
    clear oX_15
    clear HB_15
    replace hg16 := hide hg16
    have oG_16 := hide om16
    clear om16 oG_15
    have c_bA := (unhide bA_16).cell
    have l_bA := (unhide bA_16).lt
    have c_bW := (unhide bW_16).cell
    have l_bW := (unhide bW_16).lt
    have c_bX := (unhide bX_16).cell
    have l_bX := (unhide bX_16).lt
    have c_bG := (unhide bG_16).cell
    have l_bG := (unhide bG_16).lt
    go_wp2_with fail
    clear c_bA l_bA c_bW l_bW c_bX l_bX c_bG l_bG
    refine (heldDisk_any _ _ 1 rs.length M3 _ (unhide HM3) (by omega) (Nat.le_refl _) (by decide) (unhide oG_16)).mono ?_
    rintro e w17 ⟨rfl, hb17⟩
    have bA_17 := hide ((unhide bA_16).step hb17)
    have bW_17 := hide ((unhide bW_16).step hb17)
    have bX_17 := hide ((unhide bX_16).step hb17)
    have bG_17 := hide ((unhide bG_16).step hb17)
    have oW_17 := hide ((unhide oW_16).below hb17)
    have oX_17 := hide ((unhide oX_16).below hb17)
    have oG_17 := hide ((unhide oG_16).below hb17)
    have HB_17 := hide (bTr (unhide HB_16) hb17)
    have s_17 := sz0 hb17
    clear bA_16
    clear bW_16
    clear bX_16
    clear bG_16
    clear oW_16
    clear oX_16
    clear oG_16
    clear HB_16
    replace hb17 := hide hb17
    have c_bA := (unhide bA_17).cell
    have l_bA := (unhide bA_17).lt
    have c_bW := (unhide bW_17).cell
    have l_bW := (unhide bW_17).lt
    have c_bX := (unhide bX_17).cell
    have l_bX := (unhide bX_17).lt
    have c_bG := (unhide bG_17).cell
    have l_bG := (unhide bG_17).lt
    go_wp2_with fail
    clear c_bA l_bA c_bW l_bW c_bX l_bX c_bG l_bG
    refine ((unhide CT) _ ((unhide hr).below (unhide HB_17))).mono ?_
    rintro e w18 ⟨⟨a_y, q_y, rfl, o18⟩, hb18⟩
    have bA_18 := hide ((unhide bA_17).step hb18)
    have bW_18 := hide ((unhide bW_17).step hb18)
    have bX_18 := hide ((unhide bX_17).step hb18)
    have bG_18 := hide ((unhide bG_17).step hb18)
    have oW_18 := hide ((unhide oW_17).below hb18)
    have oX_18 := hide ((unhide oX_17).below hb18)
    have oG_18 := hide ((unhide oG_17).below hb18)
    have HB_18 := hide (bTr (unhide HB_17) hb18)
    have s_18 := sz0 hb18
    clear bA_17
    clear bW_17
    clear bX_17
    clear bG_17
    clear oW_17
    clear oX_17
    clear oG_17
    clear HB_17
    replace hb18 := hide hb18
    have y_18 := hide o18
    clear o18
    have L_y : Hid (Lies _ _ _) := fun k hk => (unhide y_18).lt k hk
    have c_bA := (unhide bA_18).cell
    have l_bA := (unhide bA_18).lt
    have c_bW := (unhide bW_18).cell
    have l_bW := (unhide bW_18).lt
    have c_bX := (unhide bX_18).cell
    have l_bX := (unhide bX_18).lt
    have c_bG := (unhide bG_18).cell
    have l_bG := (unhide bG_18).lt
    go_wp2_with fail
    clear c_bA l_bA c_bW l_bW c_bX l_bX c_bG l_bG
    refine ((unhide CI) _ ((unhide hl).below (unhide HB_18))).mono ?_
    rintro e w19 ⟨⟨a_yi, q_yi, rfl, o19⟩, hb19⟩
    have bA_19 := hide ((unhide bA_18).step hb19)
    have bW_19 := hide ((unhide bW_18).step hb19)
    have bX_19 := hide ((unhide bX_18).step hb19)
    have bG_19 := hide ((unhide bG_18).step hb19)
    have oW_19 := hide ((unhide oW_18).below hb19)
    have oX_19 := hide ((unhide oX_18).below hb19)
    have oG_19 := hide ((unhide oG_18).below hb19)
    have y_19 := hide ((unhide y_18).below hb19)
    have HB_19 := hide (bTr (unhide HB_18) hb19)
    have s_19 := sz0 hb19
    clear bA_18
    clear bW_18
    clear bX_18
    clear bG_18
    clear oW_18
    clear oX_18
    clear oG_18
    clear y_18
    clear HB_18
    replace hb19 := hide hb19
    have yi_19 := hide o19
    clear o19
    have L_yi : Hid (Lies _ _ _) := fun k hk => (unhide yi_19).lt k hk
    have c_bA := (unhide bA_19).cell
    have l_bA := (unhide bA_19).lt
    have c_bW := (unhide bW_19).cell
    have l_bW := (unhide bW_19).lt
    have c_bX := (unhide bX_19).cell
    have l_bX := (unhide bX_19).lt
    have c_bG := (unhide bG_19).cell
    have l_bG := (unhide bG_19).lt
    go_wp2_with fail
    clear c_bA l_bA c_bW l_bW c_bX l_bX c_bG l_bG
    refine ((unhide CM) _ _ _ (unhide y_19).rd (unhide yi_19).rdv).mono ?_
    rintro e w20 ⟨⟨a_oH, q_oH, rfl, o20⟩, hb20⟩
    have bA_20 := hide ((unhide bA_19).step hb20)
    have bW_20 := hide ((unhide bW_19).step hb20)
    have bX_20 := hide ((unhide bX_19).step hb20)
    have bG_20 := hide ((unhide bG_19).step hb20)
    have oW_20 := hide ((unhide oW_19).below hb20)
    have oX_20 := hide ((unhide oX_19).below hb20)
    have oG_20 := hide ((unhide oG_19).below hb20)
    have y_20 := hide ((unhide y_19).below hb20)
    have yi_20 := hide ((unhide yi_19).below hb20)
    have HB_20 := hide (bTr (unhide HB_19) hb20)
    have s_20 := sz0 hb20
    clear bA_19
    clear bW_19
    clear bX_19
    clear bG_19
    clear oW_19
    clear oX_19
    clear oG_19
    clear y_19
    clear yi_19
    clear HB_19
    replace hb20 := hide hb20
    have oH_20 := hide o20
    clear o20
    have L_oH : Hid (Lies _ _ _) := fun k hk => (unhide oH_20).lt k hk
    clear y_20 L_y
    clear yi_20 L_yi
    have c_bA := (unhide bA_20).cell
    have l_bA := (unhide bA_20).lt
    have c_bW := (unhide bW_20).cell
    have l_bW := (unhide bW_20).lt
    have c_bX := (unhide bX_20).cell
    have l_bX := (unhide bX_20).lt
    have c_bG := (unhide bG_20).cell
    have l_bG := (unhide bG_20).lt
    go_wp2_with fail
    clear c_bA l_bA c_bW l_bW c_bX l_bX c_bG l_bG
    refine ((unhide CE) _ _ _ ((unhide oH_20).alloc _).rd ((unhide oW_20).alloc _).rd).mono ?_
    rintro e w21 ⟨rfl, hb21⟩
    have bA_21 := hide (((unhide bA_20).alloc _).step hb21)
    have bW_21 := hide (((unhide bW_20).alloc _).step hb21)
    have bX_21 := hide (((unhide bX_20).alloc _).step hb21)
    have bG_21 := hide (((unhide bG_20).alloc _).step hb21)
    have bH_21 := hide ((Box.new w20 _ _).step hb21)
    have oW_21 := hide (((unhide oW_20).alloc _).below hb21)
    have oX_21 := hide (((unhide oX_20).alloc _).below hb21)
    have oG_21 := hide (((unhide oG_20).alloc _).below hb21)
    have oH_21 := hide (((unhide oH_20).alloc _).below hb21)
    have HB_21 := hide (bTr (bTrA (unhide HB_20) _) hb21)
    have s_21 := sz1 hb21
    clear bA_20
    clear bW_20
    clear bX_20
    clear bG_20
    clear oW_20
    clear oX_20
    clear oG_20
    clear oH_20
    clear HB_20
    replace hb21 := hide hb21
    have c_bA := (unhide bA_21).cell
    have l_bA := (unhide bA_21).lt
    have c_bW := (unhide bW_21).cell
    have l_bW := (unhide bW_21).lt
    have c_bX := (unhide bX_21).cell
    have l_bX := (unhide bX_21).lt
    have c_bG := (unhide bG_21).cell
    have l_bG := (unhide bG_21).lt
    have c_bH := (unhide bH_21).cell
    have l_bH := (unhide bH_21).lt
    go_wp2_with fail
    clear c_bA l_bA c_bW l_bW c_bX l_bX c_bG l_bG c_bH l_bH
    refine (heldDisk_any _ _ 1 rs.length M3 _ (unhide HM3) (by omega) (Nat.le_refl _) (by decide) (unhide oG_21)).mono ?_
    rintro e w22 ⟨rfl, hb22⟩
    have bA_22 := hide ((unhide bA_21).step hb22)
    have bW_22 := hide ((unhide bW_21).step hb22)
    have bX_22 := hide ((unhide bX_21).step hb22)
    have bG_22 := hide ((unhide bG_21).step hb22)
    have bH_22 := hide ((unhide bH_21).step hb22)
    have oW_22 := hide ((unhide oW_21).below hb22)
    have oX_22 := hide ((unhide oX_21).below hb22)
    have oG_22 := hide ((unhide oG_21).below hb22)
    have oH_22 := hide ((unhide oH_21).below hb22)
    have HB_22 := hide (bTr (unhide HB_21) hb22)
    have s_22 := sz0 hb22
    clear bA_21
    clear bW_21
    clear bX_21
    clear bG_21
    clear bH_21
    clear oW_21
    clear oX_21
    clear oG_21
    clear oH_21
    clear HB_21
    replace hb22 := hide hb22
    go_wp2
    go_ret
    exact ⟨rfl, unhide HB_22⟩
end Go.Proofs.Ytfplbkcgeeamhal
