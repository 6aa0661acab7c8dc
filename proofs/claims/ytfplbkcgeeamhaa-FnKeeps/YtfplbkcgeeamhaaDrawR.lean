/- What spec.DrawRightDisk comes to: some right disk. -/
import Derived.Test.YtfplbkcgeeamhaaDrawD
namespace Go.Proofs.Ytfplbkcgeeamhaa
open Go.RowKit

theorem bd_ok {fs : List Fl} (h : okL fs = true) : Bd fs := by
  intro f hf
  have h1 := (okL_iff.1 h).2.1 f hf
  have h2 := fileB_kept h1
  have h3 := fileB_name h1
  unfold nameB at h3
  rw [decide_eq_true_iff] at h3
  omega

theorem bTrG2 {B g : Nat} {w W W' : World} (h : Below B w W) (hg : W.grownBy W' (some g)) (hB : B ≤ g) (hBW : B ≤ W.heap.size) : Below B w W' :=
  h.trans (gBelow hg hBW (fun k hk => by cases hk; exact hB))
theorem l01Below_at {w : World} {base g n c : Nat} {o : Option Addr} (h : Cur w base g o n c) (hn : n ≤ 1048576) (z : Int) (m : Nat) (hz : z = m) (hm : 0 < m) (hm2 : m ≤ 4294967296) :
    Calls Try.prog 22 #[.pointer (some ⟨g, 0, none⟩), .int .i64 z] w fun e w' => ∃ x : Nat, x < m ∧ e = .returned (.int .i64 (x : Int)) ∧ Only g w w' ∧ Cur w' base g o n c := by
  rw [hz]; exact l01Below_any h hn m hm hm2
set_option maxRecDepth 20000 in
set_option maxHeartbeats 4000000 in
theorem drawRight_any (w : World) (o : Option Addr) (n c : Nat) (hs : Src w w.heap.size o n) (hn : n ≤ 1048576) :
    Calls Try.prog 6 #[.slice o n c] w fun e w' => (∃ (fs : List Fl) (a : Option Addr) (cc : Nat), okL fs = true ∧ e = .returned (.agg #[.slice a fs.length cc]) ∧ OwnF w' w.heap.size 36 (.slice a fs.length cc) fs) ∧ Below w.heap.size w w' := by
  have HS := hide (show Src (w.alloc (.cells #[.slice none 0 0] 26)) (w.alloc (.cells #[.slice none 0 0] 26)).heap.size o n from (hs.below ((Below.refl w.heap.size w).alloc (Nat.le_refl _) _) (Nat.le_refl _)).up (by simp))
  clear hs
  go_enter Try.func6, Try.ntmps6
  go_wp2_with fail
  go_at_call 21
  refine (l01New_any _ o n c (unhide HS) hn).mono ?_
  rintro e w1 ⟨rfl, hb1, hc1⟩
  have e0 : (w.alloc (.cells #[.slice none 0 0] 26)).heap.size = w.heap.size + 1 := by simp
  rw [e0] at hb1 hc1
  have hg := hc1.lt
  have xR := hide ((Box.new w 26 (.slice none 0 0)).below hb1 (Nat.lt_succ_self _))
  have HB1 := hide (((Below.refl w.heap.size w).alloc (Nat.le_refl _) _).trans (hb1.mono (Nat.le_succ _)))
  replace hc1 := hide hc1
  clear hb1
  simp only [e0]
  clear e0
  go_wp2_with fail
  go_loopw [5] (fun ti wr => ∃ (k : Nat) (fs : List Fl) (a' : Option Addr) (c' : Nat), k ≤ 6 ∧ ti = .int .i64 (k : Int) ∧ fs.length ≤ k ∧ Hid (okL fs = true) ∧ Box wr w1.heap.size 26 (.slice a' fs.length c') ∧ OwnF wr (w1.heap.size + 1) 36 (.slice a' fs.length c') fs ∧ Below (w.heap.size + 1) w1 wr ∧ Hid (Cur wr (w.heap.size + 1) (w.heap.size + 1) o n c)) (fun ti _ => 6 - (intOf ti).toNat)
  case atStart =>
    exact ⟨0, [], none, 0, by omega, rfl, Nat.le_refl _, rfl, Box.new w1 _ _, OwnF.nil _ _ _, (Below.refl _ w1).alloc (by omega) _, (unhide hc1).below ((Below.refl w1.heap.size w1).alloc (Nat.le_refl _) _) hg⟩
  case round =>
    obtain ⟨k, fs, a', c', hk, rfl, hfk, hok, hbx, hown, hb, HC⟩ := hrel
    have hss := hb.size
    have hbl := hbx.lt
    replace hbx := hide hbx
    replace hown := hide hown
    replace hb := hide hb
    clear hc1
    go_wp2_with fail
    go_at_call 22
    refine (l01Below_any (unhide HC) hn 6 (by decide) (by decide)).mono ?_
    rintro e w2 ⟨x, hx, rfl, ho2, hc2⟩
    have g2 := hide (gO ho2)
    have s2 := ho2.size
    replace hc2 := hide hc2
    clear ho2 HC
    by_cases hkx : (k : Int) < (x : Int)
    · go_wp2_with fail
      go_at_call 22
      refine (l01Below_any (unhide hc2) hn 30 (by decide) (by decide)).mono ?_
      rintro e w3 ⟨y, hy, rfl, ho3, hc3⟩
      have g3 := hide (gT (unhide g2) (gO ho3))
      have s3 := ho3.size
      replace hc3 := hide hc3
      clear ho3 hc2
      go_wp2_with fail
      go_at_call 23
      refine (l01Text_g (unhide hc3) hn y (by omega)).mono ?_
      rintro e w4 ⟨l, hl, rfl, hg4, hc4⟩
      have g4 := hide (gT (unhide g3) hg4)
      have s4 := hg4.size
      replace hc4 := hide hc4
      clear hg4 hc3 g2 g3
      obtain ⟨t, ht⟩ : ∃ t : ByteArray, t = ⟨l.toArray⟩ := ⟨_, rfl⟩
      have hts : t.size = y := by rw [ht]; exact hl
      rw [← ht]
      replace ht := hide ht
      have ne1 : ∀ k, some (w.heap.size + 1) = some k → True := fun _ _ => trivial
      have bx4 := hide ((unhide hbx).grown (unhide g4) (by simp; omega))
      have ow4 := hide ((unhide hown).grown (unhide g4) (fun k hk => by have := ((unhide hown).lt k hk).1; simp; omega))
      have hw4 : wr.heap.size ≤ w4.heap.size := (unhide g4).size
      have cb4 := (unhide bx4).cell
      have lb4 := (unhide bx4).lt
      clear ne1
      have hc4d := hide ((unhide hc4).below (Below.refl w4.heap.size w4).drew (by omega))
      have ht29 : (t.size : Int) < 30 := by omega
      replace hts := hide hts
      have hwr : IntKind.i64.wrap ((t.size : Int) + 1) = (t.size : Int) + 1 := by rw [IntKind.wrap_i64]; omega
      go_wp2_with fail
      go_region_law (first
        | (refine step_call rfl (F := 25) (l03Named_any (unhide hc4d) hn) (by go_simp) ?_; rintro e w5 ⟨nm, hn1, hn2, rfl, hg5, hc5⟩; refine ⟨_, rfl, ?_⟩; (have bx5 := hide ((unhide bx4).drew.grown hg5 (by simp; omega))); (have ow5 := hide ((unhide ow4).drew.grown hg5 (fun k hk => by have := ((unhide ow4).lt k hk).1; simp; omega))); (have s5 : w4.heap.size ≤ w5.heap.size := hg5.size); (have cb5 := (unhide bx5).cell); (have lb5 := (unhide bx5).lt); (have g5 := hide (gT (unhide g4) (gT (gB (Below.refl w4.heap.size w4).drew (some (w.heap.size + 1))) hg5))); replace hc5 := hide hc5; replace hn1 := hide hn1; clear hg5)
        | (refine step_call rfl (F := 22) (l01Below_at (unhide hc5) hn ((t.size : Int) + 1) (t.size + 1) (by omega) (by omega) (by omega)) (by go_simp) ?_; rintro e w6 ⟨kp, hkp, rfl, ho6, hc6⟩; refine ⟨_, rfl, ?_⟩; (have hg6 := gO ho6); (have bx6 := hide ((unhide bx5).grown hg6 (by simp; omega))); (have ow6 := hide ((unhide ow5).grown hg6 (fun k hk => by have := ((unhide ow5).lt k hk).1; simp; omega))); (have s6 : w5.heap.size ≤ w6.heap.size := hg6.size); (have cb6 := (unhide bx6).cell); (have lb6 := (unhide bx6).lt); (have g6 := hide (gT (unhide g5) hg6)); replace hc6 := hide hc6; clear hg6 ho6)
        | (refine step_call rfl (F := 24) (l03Put_any fs ⟨nm, t, (kp : Int)⟩ _ w6 (unhide ow6).rd (by omega)) (by go_simp) ?_; rintro e w7 ⟨⟨a7, c7, rfl, ow7⟩, hb7⟩; refine ⟨_, rfl, ?_⟩; (have bx7 := (unhide bx6).step hb7); (have cb7 := bx7.cell); (have cz7 := bx7.frozen)))
      all_goals
        have HOK2 := hide (putL_ok (f := ⟨nm, t, (kp : Int)⟩) (unhide hok) (fileB_mk (unhide hn1) (by show t.size ≤ 20000; omega) (by show (0 : Int) ≤ (kp : Int) ∧ (kp : Int) ≤ (t.size : Int); omega)) (by omega))
        have hl7 := putL_len' fs ⟨nm, t, (kp : Int)⟩
        have s7 := hb7.size
        have hb6 := bTrG2 (unhide hb) (unhide g6) (Nat.le_refl _) (by omega)
        have hb8 := (hb6.trans (hb7.mono (by omega))).setCell (p := ⟨w1.heap.size, 0, none⟩) (show w.heap.size + 1 ≤ w1.heap.size by omega) (.slice a7 (putL fs ⟨nm, t, (kp : Int)⟩).length c7)
        have bx8 := bx7.set (.slice a7 (putL fs ⟨nm, t, (kp : Int)⟩).length c7)
        have ow8 := (ow7.other (a := ⟨w1.heap.size, 0, none⟩) (by show w1.heap.size < _; omega) (.slice a7 (putL fs ⟨nm, t, (kp : Int)⟩).length c7)).low (base' := w1.heap.size + 1) (by omega)
        have hc8 := hide (((unhide hc6).below hb7 (by omega)).below ((Below.refl w1.heap.size w7).setCell (p := ⟨w1.heap.size, 0, none⟩) (Nat.le_refl _) (.slice a7 (putL fs ⟨nm, t, (kp : Int)⟩).length c7)) hg)
        replace hb7 := hide hb7
        go_wp2
        go_roundw
        case rel => exact ⟨k + 1, putL fs ⟨nm, t, (kp : Int)⟩, a7, c7, by omega, by go_num, by omega, unhide HOK2, bx8, ow8, hb8, hc8⟩
        case measure => simp [intOf]; omega
    · have bx4 := (unhide hbx).grown (unhide g2) (by simp; omega)
      have ow4 := (unhide hown).grown (unhide g2) (fun k hk => by have := ((unhide hown).lt k hk).1; simp; omega)
      have hb4 := bTrG2 (unhide hb) (unhide g2) (Nat.le_refl _) (by omega)
      have cb4 := bx4.cell
      have xr := (unhide xR).below hb4 (Nat.lt_succ_self _)
      have cr := xr.cell
      have cz := xr.frozen
      have hof := hide ((ow4.other (a := ⟨w.heap.size, 0, none⟩) (by show w.heap.size < _; omega) (.slice a' fs.length c')).low (base' := w.heap.size) (by omega))
      have hbf := hide (((unhide HB1).trans (hb4.mono (Nat.le_succ _))).setCell (p := ⟨w.heap.size, 0, none⟩) (Nat.le_refl _) (.slice a' fs.length c'))
      replace hb4 := hide hb4
      go_wp2
      exact bodyPost_ret (v := .agg #[.slice a' fs.length c']) (by simp [results, Try.results6, go_sem, cr]) rfl ⟨⟨fs, a', c', unhide hok, rfl, unhide hof⟩, unhide hbf⟩
end Go.Proofs.Ytfplbkcgeeamhaa
