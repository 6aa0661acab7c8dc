/- What spec.l03Disk comes to: some disk of short texts. -/
import Derived.Test.YtkaaabpodhgbpaaDrawK
import Derived.Test.YtkaaabpodhgbpaaDecimal
namespace Go.Proofs.Ytkaaabpodhgbpaa
open Go.RowKit

theorem decimal_short (v : Int) (m : Nat) (hv : v = (m : Int)) (w : World) (hm : m ≤ 1000) :
    Calls Try.prog 46 #[.int .i64 v] w fun e w' => ∃ s : ByteArray, s.size ≤ 4 ∧ e = .returned (.string s) ∧ Below w.heap.size w w' := by
  rw [hv]
  refine (decimal_nat m w (by omega)).mono ?_
  rintro e w' ⟨rfl, hb⟩
  exact ⟨_, (by show (decB m).toArray.size ≤ 4; rw [List.size_toArray]; exact (decB_len 3 m (by omega)).2), rfl, hb⟩
theorem numsM (w : World) (T : TypeId) (s : Nat) (hs : s ≤ 4000000) : Nums (w.alloc (.cells #[.int .i64 (-1), .int .i64 ((s : Int) + 1)] T)) w.heap.size 2 := by
  intro j hj
  rw [cell_of_row _ w.heap.size j _ T (0, 0) (heap_alloc_new w _)]
  match j, hj with
  | 0, _ => exact ⟨_, by decide, by decide, rfl⟩
  | 1, _ => exact ⟨_, by omega, by omega, rfl⟩
  | j + 2, hj => exact absurd hj (by omega)
theorem txtsM (w : World) (T : TypeId) : Txts (w.alloc (.cells #[.string ⟨#[]⟩, .string ⟨#[49, 50, 51, 52, 53, 54, 55, 56]⟩, .string ⟨#[49, 50, 51, 52, 53, 54, 55, 56, 57]⟩] T)) w.heap.size 3 := by
  intro j hj
  rw [cell_of_row _ w.heap.size j _ T (0, 0) (heap_alloc_new w _)]
  match j, hj with
  | 0, _ => exact ⟨_, by decide, rfl⟩
  | 1, _ => exact ⟨_, by decide, rfl⟩
  | 2, _ => exact ⟨_, by decide, rfl⟩
  | j + 3, hj => exact absurd hj (by omega)
theorem Bd_set {fs : List Fl} {y : Nat} {f : Fl} (h : Bd fs) (hf : f.nm.size ≤ 4000000 ∧ f.tx.size ≤ 4000000) : Bd (fs.set y f) := by
  intro x hx
  rcases List.mem_or_eq_of_mem_set hx with h1 | h1
  · exact h x h1
  · rw [h1]; exact hf
theorem Bd_app {fs : List Fl} {f : Fl} (h : Bd fs) (hf : f.nm.size ≤ 4000000 ∧ f.tx.size ≤ 4000000) : Bd (fs ++ [f]) := by
  intro x hx
  rw [List.mem_append, List.mem_singleton] at hx
  rcases hx with h1 | h1
  · exact h x h1
  · rw [h1]; exact hf
theorem l01Long_at (v : Int) (m : Nat) (w : World) (hv : v = (m : Int)) (hm : 0 < m) (hm2 : m ≤ 1000000) :
    Calls Try.prog 47 #[.int .i64 v, .int .u8 65] w fun e w' => ∃ l : List UInt8, l.length = m ∧ e = .returned (.string ⟨l.toArray⟩) ∧ Below w.heap.size w w' := by
  rw [hv]; exact l01Long_any m 65 w hm hm2 (by decide)
set_option maxRecDepth 20000 in
set_option maxHeartbeats 8000000 in
theorem l03Disk_any {w : World} {base g n c : Nat} {o : Option Addr} (h : Cur w base g o n c) (hn : n ≤ 1048576) :
    Calls Try.prog 30 #[.pointer (some ⟨g, 0, none⟩)] w fun e w' => ∃ (fs : List Fl) (a : Option Addr) (cc : Nat), (fs.length ≤ 40 ∧ Bd fs) ∧ e = .returned (.agg #[.slice a fs.length cc]) ∧ OwnF w' w.heap.size 36 (.slice a fs.length cc) fs ∧ w.grownBy w' (some g) ∧ Cur w' base g o n c := by
  obtain ⟨i0, hi, hz0, hz1, hz2⟩ := info_parts infoFile
  have hg := h.lt
  have H := hide h
  clear h
  go_enter Try.func30, Try.ntmps30
  go_wp2_with fail
  obtain ⟨W0, e0, xR0, xD0, z0', hb0⟩ := two_alloc w 26 (.slice none 0 0) (.slice none 0 0)
  rw [e0]
  have z0 : w.heap.size + 1 < W0.heap.size := by omega
  clear e0 z0'
  go_loopw [4] (fun ti wr => ∃ (k : Nat) (fs : List Fl) (a' : Option Addr) (c' : Nat), k ≤ 6 ∧ ti = .int .i64 (k : Int) ∧ fs.length ≤ k ∧ Hid (okL fs = true) ∧ Box wr (w.heap.size + 1) 26 (.slice a' fs.length c') ∧ OwnF wr (w.heap.size + 1 + 1) 36 (.slice a' fs.length c') fs ∧ Box wr w.heap.size 26 (.slice none 0 0) ∧ w.grownBy wr (some g) ∧ w.heap.size + 1 < wr.heap.size ∧ Hid (Cur wr base g o n c)) (fun ti _ => 6 - (intOf ti).toNat)
  case atStart =>
    exact ⟨0, [], none, 0, by omega, rfl, Nat.le_refl _, rfl, xD0, OwnF.nil _ _ _, xR0, gB hb0 _, z0, (unhide H).below hb0 hg⟩
  case round =>
    obtain ⟨k, fs, a', c', hk, rfl, hfk, hok, hbx, hown, xR, hgr, hss, HC⟩ := hrel
    have hbl := hbx.lt
    replace hbx := hide hbx
    replace hown := hide hown
    replace xR := hide xR
    replace hgr := hide hgr
    clear xR0 xD0 hb0
    go_wp2_with fail
    go_at_call 22
    refine (l01Below_any (unhide HC) hn 6 (by decide) (by decide)).mono ?_
    rintro e w2 ⟨x, hx, rfl, ho2, hc2⟩
    have g2 := hide (gO ho2)
    have s2 := ho2.size
    replace hc2 := hide hc2
    clear ho2 HC
    by_cases hkx : (k : Int) < (x : Int)
    · go_wp2_with fail
      go_at_call 22
      refine (l01Below_any (unhide hc2) hn 9 (by decide) (by decide)).mono ?_
      rintro e w3 ⟨y, hy, rfl, ho3, hc3⟩
      have g3 := hide (gT (unhide g2) (gO ho3))
      have s3 := ho3.size
      replace hc3 := hide hc3
      clear ho3 hc2
      go_wp2_with fail
      go_at_call 23
      refine (l01Text_g (unhide hc3) hn y (by omega)).mono ?_
      rintro e w4 ⟨l, hl, rfl, hg4, hc4⟩
      have g4 := hide (gT (unhide g3) hg4)
      have s4 := hg4.size
      replace hc4 := hide hc4
      clear hg4 hc3 g2 g3
      obtain ⟨t, ht⟩ : ∃ t : ByteArray, t = ⟨l.toArray⟩ := ⟨_, rfl⟩
      have hts : t.size = y := by rw [ht]; exact hl
      rw [← ht]
      replace ht := hide ht
      have bx4 := hide ((unhide hbx).grown (unhide g4) (by simp; omega))
      have ow4 := hide ((unhide hown).grown (unhide g4) (fun k hk => by have := ((unhide hown).lt k hk).1; simp; omega))
      have hw4 : wr.heap.size ≤ w4.heap.size := (unhide g4).size
      have cb4 := (unhide bx4).cell
      have lb4 := (unhide bx4).lt
      have hc4d := hide ((unhide hc4).below (Below.refl w4.heap.size w4).drew (by omega))
      have ht29 : (t.size : Int) < 9 := by omega
      replace hts := hide hts
      have hwr : IntKind.i64.wrap ((t.size : Int) + 1) = (t.size : Int) + 1 := by rw [IntKind.wrap_i64]; omega
      go_wp2_with fail
      go_region_law (first
        | (refine step_call rfl (F := 25) (l03Named_any (unhide hc4d) hn) (by go_simp) ?_; rintro e w5 ⟨nm, hn1, hn2, rfl, hg5, hc5⟩; refine ⟨_, rfl, ?_⟩; (have bx5 := hide ((unhide bx4).drew.grown hg5 (by simp; omega))); (have ow5 := hide ((unhide ow4).drew.grown hg5 (fun k hk => by have := ((unhide ow4).lt k hk).1; simp; omega))); (have s5 : w4.heap.size ≤ w5.heap.size := hg5.size); (have cb5 := (unhide bx5).cell); (have lb5 := (unhide bx5).lt); (have g5 := hide (gT (unhide g4) (gT (gB (Below.refl w4.heap.size w4).drew (some g)) hg5))); replace hc5 := hide hc5; replace hn1 := hide hn1; clear hg5)
        | (refine step_call rfl (F := 22) (l01Below_at (unhide hc5) hn ((t.size : Int) + 1) (t.size + 1) (by omega) (by omega) (by omega)) (by go_simp) ?_; rintro e w6 ⟨kp, hkp, rfl, ho6, hc6⟩; refine ⟨_, rfl, ?_⟩; (have hg6 := gO ho6); (have bx6 := hide ((unhide bx5).grown hg6 (by simp; omega))); (have ow6 := hide ((unhide ow5).grown hg6 (fun k hk => by have := ((unhide ow5).lt k hk).1; simp; omega))); (have s6 : w5.heap.size ≤ w6.heap.size := hg6.size); (have cb6 := (unhide bx6).cell); (have lb6 := (unhide bx6).lt); (have g6 := hide (gT (unhide g5) hg6)); replace hc6 := hide hc6; clear hg6 ho6)
        | (refine step_call rfl (F := 24) (l03Put_any fs ⟨nm, t, (kp : Int)⟩ _ w6 (unhide ow6).rd (by omega)) (by go_simp) ?_; rintro e w7 ⟨⟨a7, c7, rfl, ow7⟩, hb7⟩; refine ⟨_, rfl, ?_⟩; (have bx7 := (unhide bx6).step hb7); (have cb7 := bx7.cell); (have cz7 := bx7.frozen)))
      all_goals
        have HOK2 := hide (putL_ok (f := ⟨nm, t, (kp : Int)⟩) (unhide hok) (fileB_mk (unhide hn1) (by show t.size ≤ 20000; omega) (by show (0 : Int) ≤ (kp : Int) ∧ (kp : Int) ≤ (t.size : Int); omega)) (by omega))
        have hl7 := putL_len' fs ⟨nm, t, (kp : Int)⟩
        have s7 := hb7.size
        have G6 := gT (unhide hgr) (unhide g6)
        have b8 : Below w.heap.size w6 (w7.setCell ⟨w.heap.size + 1, 0, none⟩ (.slice a7 (putL fs ⟨nm, t, (kp : Int)⟩).length c7)) := (hb7.mono (by omega)).setCell (p := ⟨w.heap.size + 1, 0, none⟩) (by show w.heap.size ≤ w.heap.size + 1; omega) (.slice a7 (putL fs ⟨nm, t, (kp : Int)⟩).length c7)
        have G8 := hide (gTB G6 b8)
        have xR8 := hide ((((unhide xR).grown (unhide g6) (by simp; omega)).step hb7).other (a := ⟨w.heap.size + 1, 0, none⟩) (by show w.heap.size + 1 ≠ w.heap.size; omega) (.slice a7 (putL fs ⟨nm, t, (kp : Int)⟩).length c7))
        have bx8 := bx7.set (.slice a7 (putL fs ⟨nm, t, (kp : Int)⟩).length c7)
        have ow8 := (ow7.other (a := ⟨w.heap.size + 1, 0, none⟩) (by show w.heap.size + 1 < _; omega) (.slice a7 (putL fs ⟨nm, t, (kp : Int)⟩).length c7)).low (base' := w.heap.size + 1 + 1) (by omega)
        have hc8 := hide ((unhide hc6).below b8 hg)
        have s8 : w.heap.size + 1 < (w7.setCell ⟨w.heap.size + 1, 0, none⟩ (.slice a7 (putL fs ⟨nm, t, (kp : Int)⟩).length c7)).heap.size := by simp; omega
        replace b8 := hide b8
        clear G6
        replace hb7 := hide hb7
        go_wp2
        go_roundw
        case rel => exact ⟨k + 1, putL fs ⟨nm, t, (kp : Int)⟩, a7, c7, by omega, by go_num, by omega, HOK2, bx8, ow8, unhide xR8, unhide G8, s8, hc8⟩
        case measure => simp [intOf]; omega
    · have bx2 := hide ((unhide hbx).grown (unhide g2) (by simp; omega))
      have ow2 := hide ((unhide hown).grown (unhide g2) (fun k hk => by have := ((unhide hown).lt k hk).1; simp; omega))
      have xR2 := hide ((unhide xR).grown (unhide g2) (by simp; omega))
      have G2 := hide (gT (unhide hgr) (unhide g2))
      have s2' : wr.heap.size ≤ w2.heap.size := (unhide g2).size
      have cb3 := (unhide bx2).cell
      have lb3 := (unhide bx2).lt
      have cr3 := (unhide xR2).cell
      have cz3 := (unhide xR2).frozen
      have lr3 := (unhide xR2).lt
      by_cases hf0 : fs.length = 0
      · have hfz : ((fs.length : Int) == 0) = true := by rw [beq_iff_eq]; omega
        have hl6 : fs.length ≤ 6 := by omega
        have HF0 := hide hf0
        clear hf0
        have hof := hide (((unhide ow2).other (a := ⟨w.heap.size, 0, none⟩) (by show w.heap.size < _; omega) (.slice a' fs.length c')).low (base' := w.heap.size) (by omega))
        have bf := (Below.refl w.heap.size w2).setCell (p := ⟨w.heap.size, 0, none⟩) (Nat.le_refl _) (.slice a' fs.length c')
        have GF := hide (gTB (unhide G2) bf)
        have CF := hide ((unhide hc2).below bf hg)
        replace bf := hide bf
        go_wp2
        refine bodyPost_ret (v := .agg #[.slice a' fs.length c']) (by simp [results, Try.results30, go_sem, cr3]) rfl ?_
        exact ⟨fs, a', c', ⟨by omega, okL_bd (unhide hok)⟩, rfl, unhide hof, unhide GF, unhide CF⟩
      · have hfz : ((fs.length : Int) == 0) = false := by rw [beq_eq_false_iff_ne]; omega
        go_wp2_with fail
        go_at_call 22
        refine (l01Below_any (unhide hc2) hn fs.length (by omega) (by omega)).mono ?_
        rintro e w3 ⟨y, hy, rfl, ho3, hc3⟩
        have bx3 := hide ((unhide bx2).grown (gO ho3) (by simp; omega))
        have ow3 := hide ((unhide ow2).grown (gO ho3) (fun k hk => by have := ((unhide ow2).lt k hk).1; simp; omega))
        have xR3 := hide ((unhide xR2).grown (gO ho3) (by simp; omega))
        have G3 := hide (gT (unhide G2) (gO ho3))
        have s3 : w2.heap.size ≤ w3.heap.size := ((gO ho3)).size
        replace hc3 := hide hc3
        replace ho3 := hide ho3
        have cb3' := (unhide bx3).cell
        go_wp2_with fail
        go_at_call 22
        refine (l01Below_any (unhide hc3) hn 40 (by decide) (by decide)).mono ?_
        rintro e w4 ⟨z, hz, rfl, ho4, hc4⟩
        have bx4 := hide ((unhide bx3).grown (gO ho4) (by simp; omega))
        have ow4 := hide ((unhide ow3).grown (gO ho4) (fun k hk => by have := ((unhide ow3).lt k hk).1; simp; omega))
        have xR4 := hide ((unhide xR3).grown (gO ho4) (by simp; omega))
        have G4 := hide (gT (unhide G3) (gO ho4))
        have s4 : w3.heap.size ≤ w4.heap.size := ((gO ho4)).size
        replace hc4 := hide hc4
        replace ho4 := hide ho4
        clear cb3 lb3 cr3 cz3 lr3 cb3'
        obtain ⟨gF, rfl⟩ : ∃ gF, a' = some ⟨gF, 0, none⟩ := by
          rcases (unhide ow4).open with ⟨h, _⟩ | ⟨gF, cF, h, _⟩
          · rw [h] at hf0; simp at hf0
          · simp only [Value.slice.injEq] at h; exact ⟨gF, h.1⟩
        obtain ⟨f, hf⟩ : ∃ f, fs[y]? = some f := ⟨fs[y], List.getElem?_eq_getElem hy⟩
        have hyi : (y : Int) < (fs.length : Int) := by omega
        have hy0 : (0 : Int) ≤ (y : Int) := by omega
        have hfB := (okL_bd (unhide hok)) f (List.mem_of_getElem? hf)
        rcases (by omega : z = 0 ∨ z = 1 ∨ z = 2 ∨ z = 3 ∨ z = 4 ∨ 5 ≤ z) with rfl | rfl | rfl | rfl | rfl | hz5
        · have hwr : IntKind.i64.wrap ((f.tx.size : Int) + 1) = (f.tx.size : Int) + 1 := by rw [IntKind.wrap_i64]; omega
          have hA := hide (show Below w4.heap.size w4 (w4.drew.alloc (.cells #[.int .i64 (-1), .int .i64 ((f.tx.size : Int) + 1)] 3)) from (Below.refl w4.heap.size w4).drew.alloc (Nat.le_refl _) _)
          have hcA := hide ((unhide hc4).below (unhide hA) (by omega))
          have bxA := hide ((unhide bx4).step (unhide hA))
          have owA := hide ((unhide ow4).below (unhide hA))
          have xRA := hide ((unhide xR4).step (unhide hA))
          have GA := hide (gTB (unhide G4) ((unhide hA).mono (by omega)))
          obtain ⟨p0, p1, p2⟩ := (unhide ow4).at hf
          have lF := ((unhide ow4).lt gF rfl)
          have cb4 := (unhide bx4).cell
          have lb4 := (unhide bx4).lt
          go_wp2_with fail
          go_region_law (first
            | (refine step_call rfl (F := 45) (l01PickInt_any (unhide hcA) hn w4.heap.size 2 2 (by decide) (by decide) (numsM w4.drew 3 f.tx.size (by omega)) (by omega)) (by go_simp) ?_; rintro e w5 ⟨kp, _, _, rfl, ho5, hc5⟩; refine ⟨_, rfl, ?_⟩; (have bx5 := hide ((unhide bxA).grown (gO ho5) (by simp; omega))); (have ow5 := hide ((unhide owA).grown (gO ho5) (fun k hk => by have := ((unhide owA).lt k hk).1; simp; omega))); (have xR5 := hide ((unhide xRA).grown (gO ho5) (by simp; omega))); (have G5 := hide (gT (unhide GA) (gO ho5))); (have s5 : w4.heap.size ≤ w5.heap.size := Nat.le_trans (unhide hA).size (gO ho5).size); (replace hc5 := hide hc5); (replace ho5 := hide ho5); (have ow6 := hide ((unhide ow5).set2 hf kp)); (have bx6 := hide ((unhide bx5).other (a := ⟨gF, y * 3 + 2, none⟩) (by show gF ≠ w.heap.size + 1; omega) (.int .i64 kp))); (have xR6 := hide ((unhide xR5).other (a := ⟨gF, y * 3 + 2, none⟩) (by show gF ≠ w.heap.size; omega) (.int .i64 kp))); (have b6 := (Below.refl w.heap.size w5).setCell (p := ⟨gF, y * 3 + 2, none⟩) (by show w.heap.size ≤ gF; omega) (.int .i64 kp)); (have G6 := hide (gTB (unhide G5) b6)); (have hc6 := hide ((unhide hc5).below b6 hg)); (replace b6 := hide b6); (have cb5 := (unhide bx5).cell); (have lb5 := (unhide bx5).lt); (have fz5 := (unhide ow5).frozen); (obtain ⟨e0, e1, e2⟩ := (unhide ow5).at hf); (generalize hW6 : w5.setCell ⟨gF, y * 3 + 2, none⟩ (.int .i64 kp) = w6 at ow6 bx6 xR6 G6 hc6)))
          all_goals
            clear hW6 cb5 lb5 fz5 e0 e1 e2
            have hl2 : (fs.set y { f with kp := kp }).length = fs.length := List.length_set
            have cbE := (unhide bx6).cell
            have lbE := (unhide bx6).lt
            have crE := (unhide xR6).cell
            have czE := (unhide xR6).frozen
            have lrE := (unhide xR6).lt
            have hof := hide (((unhide ow6).other (a := ⟨w.heap.size, 0, none⟩) (by show w.heap.size < _; omega) (.slice (some ⟨gF, 0, none⟩) fs.length c')).low (base' := w.heap.size) (by omega))
            have bf := (Below.refl w.heap.size w6).setCell (p := ⟨w.heap.size, 0, none⟩) (Nat.le_refl _) (.slice (some ⟨gF, 0, none⟩) fs.length c')
            have GF := hide (gTB (unhide G6) bf)
            have CF := hide ((unhide hc6).below bf hg)
            replace bf := hide bf
            go_wp2
            refine bodyPost_ret (v := .agg #[(.slice (some ⟨gF, 0, none⟩) fs.length c')]) (by simp [results, Try.results30, go_sem, crE]) rfl ?_
            exact ⟨fs.set y { f with kp := kp }, _, _, ⟨(by rw [hl2]; omega), Bd_set (okL_bd (unhide hok)) ⟨hfB.1, hfB.2⟩⟩, (by rw [hl2]), (by rw [hl2]; exact unhide hof), unhide GF, unhide CF⟩
        · obtain ⟨p0, p1, p2⟩ := (unhide ow4).at hf
          have lF := ((unhide ow4).lt gF rfl)
          have cb4 := (unhide bx4).cell
          have lb4 := (unhide bx4).lt
          go_wp2_with fail
          go_region_law (first
            | (refine step_append_file rfl (.tmp 63) (.tmp 69) 24 rfl (w.heap.size + 1 + 1) w.heap.size 36 i0 (flv flz) 40 Try.underlying24 hi hz0 hz1 hz2 rfl _ fs rfl (by exact (unhide ow4).drew.alloc _) w4.heap.size _ (by exact heap_alloc_new w4.drew _) f rfl 1 rfl fs.length rfl (by omega) (by decide) (by omega) (by show _ ≤ (w4.alloc _).heap.size; simp; omega) (by exact (Below.refl w.heap.size w4).drew.alloc (by show _ ≤ w4.heap.size; omega) _) ?_; intro a3 c3 w5 ow5 hb5 hkp5 hs5; (have bx5 : Box w5 (w.heap.size + 1) 26 (.slice (some ⟨gF, 0, none⟩) fs.length c') := (hkp5 _ (by show _ < (w4.alloc _).heap.size; simp; omega) (fun e => by have := ((unhide ow4).lt _ e).1; omega)).trans ((unhide bx4).drew.alloc _)); (have xR5 : Box w5 w.heap.size 26 (.slice none 0 0) := (hkp5 _ (by show _ < (w4.alloc _).heap.size; simp; omega) (fun e => by have := ((unhide ow4).lt _ e).1; omega)).trans ((unhide xR4).drew.alloc _)); (have cb5 := bx5.cell); (have cz5 := bx5.frozen); (have lb5 := bx5.lt); (have s5 : w4.heap.size ≤ w5.heap.size := hb5.size); (clear hkp5 hs5); (have ow6 := hide (ow5.other (a := ⟨w.heap.size + 1, 0, none⟩) (by show w.heap.size + 1 < _; omega) (.slice a3 (fs.length + 1) c3))); (have bx6 := hide (bx5.set (.slice a3 (fs.length + 1) c3))); (have xR6 := hide (xR5.other (a := ⟨w.heap.size + 1, 0, none⟩) (by show w.heap.size + 1 ≠ w.heap.size; omega) (.slice a3 (fs.length + 1) c3))); (have b6 := hb5.setCell (p := ⟨w.heap.size + 1, 0, none⟩) (by show w.heap.size ≤ w.heap.size + 1; omega) (.slice a3 (fs.length + 1) c3)); (have G6 := hide (gTB (unhide G4) b6)); (have hc6 := hide ((unhide hc4).below b6 hg)); (replace b6 := hide b6); (replace hb5 := hide hb5); (replace ow5 := hide ow5); (replace bx5 := hide bx5); (replace xR5 := hide xR5); (generalize hW6 : w5.setCell ⟨w.heap.size + 1, 0, none⟩ (.slice a3 (fs.length + 1) c3) = w6 at ow6 bx6 xR6 G6 hc6)))
          all_goals
            clear hW6 cb5 cz5 lb5
            have hl2 : (fs ++ [f]).length = fs.length + 1 := by simp
            have cbE := (unhide bx6).cell
            have lbE := (unhide bx6).lt
            have crE := (unhide xR6).cell
            have czE := (unhide xR6).frozen
            have lrE := (unhide xR6).lt
            have hof := hide (((unhide ow6).other (a := ⟨w.heap.size, 0, none⟩) (by show w.heap.size < _; omega) (.slice a3 (fs.length + 1) c3)).low (base' := w.heap.size) (by omega))
            have bf := (Below.refl w.heap.size w6).setCell (p := ⟨w.heap.size, 0, none⟩) (Nat.le_refl _) (.slice a3 (fs.length + 1) c3)
            have GF := hide (gTB (unhide G6) bf)
            have CF := hide ((unhide hc6).below bf hg)
            replace bf := hide bf
            go_wp2
            refine bodyPost_ret (v := .agg #[(.slice a3 (fs.length + 1) c3)]) (by simp [results, Try.results30, go_sem, crE]) rfl ?_
            exact ⟨fs ++ [f], _, _, ⟨(by rw [hl2]; omega), Bd_app (okL_bd (unhide hok)) hfB⟩, (by rw [hl2]), (by rw [hl2]; exact unhide hof), unhide GF, unhide CF⟩
        · have hA := hide (show Below w4.heap.size w4 (w4.drew.alloc (.cells #[.string ⟨#[]⟩, .string ⟨#[49, 50, 51, 52, 53, 54, 55, 56]⟩, .string ⟨#[49, 50, 51, 52, 53, 54, 55, 56, 57]⟩] 9)) from (Below.refl w4.heap.size w4).drew.alloc (Nat.le_refl _) _)
          have hcA := hide ((unhide hc4).below (unhide hA) (by omega))
          have bxA := hide ((unhide bx4).step (unhide hA))
          have owA := hide ((unhide ow4).below (unhide hA))
          have xRA := hide ((unhide xR4).step (unhide hA))
          have GA := hide (gTB (unhide G4) ((unhide hA).mono (by omega)))
          obtain ⟨p0, p1, p2⟩ := (unhide ow4).at hf
          have lF := ((unhide ow4).lt gF rfl)
          have cb4 := (unhide bx4).cell
          have lb4 := (unhide bx4).lt
          go_wp2_with fail
          go_region_law (first
            | (refine step_call rfl (F := 42) (l01Pick_txt (unhide hcA) hn w4.heap.size 3 3 (by decide) (by decide) (txtsM w4.drew 9) (by omega)) (by go_simp) ?_; rintro e w5 ⟨nm, hnm, rfl, ho5, hc5⟩; refine ⟨_, rfl, ?_⟩; (have bx5 := hide ((unhide bxA).grown (gO ho5) (by simp; omega))); (have ow5 := hide ((unhide owA).grown (gO ho5) (fun k hk => by have := ((unhide owA).lt k hk).1; simp; omega))); (have xR5 := hide ((unhide xRA).grown (gO ho5) (by simp; omega))); (have G5 := hide (gT (unhide GA) (gO ho5))); (have s5 : w4.heap.size ≤ w5.heap.size := Nat.le_trans (unhide hA).size (gO ho5).size); (replace hc5 := hide hc5); (replace ho5 := hide ho5); (have ow6 := hide ((unhide ow5).set0 hf nm)); (have bx6 := hide ((unhide bx5).other (a := ⟨gF, y * 3, none⟩) (by show gF ≠ w.heap.size + 1; omega) (.string nm))); (have xR6 := hide ((unhide xR5).other (a := ⟨gF, y * 3, none⟩) (by show gF ≠ w.heap.size; omega) (.string nm))); (have b6 := (Below.refl w.heap.size w5).setCell (p := ⟨gF, y * 3, none⟩) (by show w.heap.size ≤ gF; omega) (.string nm)); (have G6 := hide (gTB (unhide G5) b6)); (have hc6 := hide ((unhide hc5).below b6 hg)); (replace b6 := hide b6); (have cb5 := (unhide bx5).cell); (have lb5 := (unhide bx5).lt); (have fz5 := (unhide ow5).frozen); (obtain ⟨e0, e1, e2⟩ := (unhide ow5).at hf); (generalize hW6 : w5.setCell ⟨gF, y * 3, none⟩ (.string nm) = w6 at ow6 bx6 xR6 G6 hc6)))
          all_goals
            clear hW6 cb5 lb5 fz5 e0 e1 e2
            have hl2 : (fs.set y { f with nm := nm }).length = fs.length := List.length_set
            have cbE := (unhide bx6).cell
            have lbE := (unhide bx6).lt
            have crE := (unhide xR6).cell
            have czE := (unhide xR6).frozen
            have lrE := (unhide xR6).lt
            have hof := hide (((unhide ow6).other (a := ⟨w.heap.size, 0, none⟩) (by show w.heap.size < _; omega) (.slice (some ⟨gF, 0, none⟩) fs.length c')).low (base' := w.heap.size) (by omega))
            have bf := (Below.refl w.heap.size w6).setCell (p := ⟨w.heap.size, 0, none⟩) (Nat.le_refl _) (.slice (some ⟨gF, 0, none⟩) fs.length c')
            have GF := hide (gTB (unhide G6) bf)
            have CF := hide ((unhide hc6).below bf hg)
            replace bf := hide bf
            go_wp2
            refine bodyPost_ret (v := .agg #[(.slice (some ⟨gF, 0, none⟩) fs.length c')]) (by simp [results, Try.results30, go_sem, crE]) rfl ?_
            exact ⟨fs.set y { f with nm := nm }, _, _, ⟨(by rw [hl2]; omega), Bd_set (okL_bd (unhide hok)) ⟨(by show nm.size ≤ 4000000; omega), hfB.2⟩⟩, (by rw [hl2]), (by rw [hl2]; exact unhide hof), unhide GF, unhide CF⟩
        · have hA := hide (show Below w4.heap.size w4 (w4.alloc (.cells #[] 36)) from (Below.refl w4.heap.size w4).alloc (Nat.le_refl _) _)
          have owA : OwnF (w4.alloc (.cells #[] 36)) (w.heap.size + 1 + 1) 36 (.slice (some ⟨w4.heap.size, 0, none⟩) 0 0) [] := World.ownsRow_made w4 #[] 0 (by omega) (by decide) (by simp)
          have bxA := (unhide bx4).step (unhide hA)
          have cbA := bxA.cell
          have czA := bxA.frozen
          have lbA := bxA.lt
          have cb4 := (unhide bx4).cell
          have cz4 := (unhide bx4).frozen
          have lb4 := (unhide bx4).lt
          have ow5 := hide (owA.other (a := ⟨w.heap.size + 1, 0, none⟩) (by show w.heap.size + 1 < _; omega) (.slice (some ⟨w4.heap.size, 0, none⟩) 0 0))
          have bx5 := hide (bxA.set (.slice (some ⟨w4.heap.size, 0, none⟩) 0 0))
          have xR5 := hide (((unhide xR4).step (unhide hA)).other (a := ⟨w.heap.size + 1, 0, none⟩) (by show w.heap.size + 1 ≠ w.heap.size; omega) (.slice (some ⟨w4.heap.size, 0, none⟩) 0 0))
          have b5 := ((unhide hA).mono (show w.heap.size ≤ w4.heap.size by omega)).setCell (p := ⟨w.heap.size + 1, 0, none⟩) (by show w.heap.size ≤ w.heap.size + 1; omega) (.slice (some ⟨w4.heap.size, 0, none⟩) 0 0)
          have G5 := hide (gTB (unhide G4) b5)
          have hc5 := hide ((unhide hc4).below b5 hg)
          replace b5 := hide b5
          replace owA := hide owA
          replace bxA := hide bxA
          generalize hW5 : (w4.alloc (.cells #[] 36)).setCell ⟨w.heap.size + 1, 0, none⟩ (.slice (some ⟨w4.heap.size, 0, none⟩) 0 0) = w5 at ow5 bx5 xR5 G5 hc5
          have s5 := (unhide bx5).lt
          go_wp2_with fail
          clear hW5 cbA czA lbA cb4 cz4 lb4 b5
          go_loopw [7] (fun ti wr => ∃ (q : Nat) (gs : List Fl) (a9 : Option Addr) (c9 : Nat), q ≤ 31 ∧ ti = .int .i64 (q : Int) ∧ Hid (gs.length = q) ∧ Hid (Bd gs) ∧ Hid (Box wr (w.heap.size + 1) 26 (.slice a9 q c9)) ∧ Hid (OwnF wr (w.heap.size + 1 + 1) 36 (.slice a9 q c9) gs) ∧ Hid (Box wr w.heap.size 26 (.slice none 0 0)) ∧ Hid (w.grownBy wr (some g)) ∧ w.heap.size + 1 < wr.heap.size ∧ Hid (Cur wr base g o n c)) (fun ti _ => 31 - (intOf ti).toNat)
          case atStart => exact ⟨0, [], _, _, by omega, rfl, rfl, (by intro x hx; simp at hx), bx5, ow5, xR5, G5, s5, hc5⟩
          case round =>
            obtain ⟨q, gs, a9, c9, hq, rfl, hgl, hgB, bx6, ow6, xR6, G6, s6, hc6⟩ := hrel
            clear bx5 ow5 xR5 G5 s5 hc5
            go_wp2_with fail
            go_at_call 22
            refine (l01Below_any (unhide hc6) hn 2 (by decide) (by decide)).mono ?_
            rintro e w7 ⟨x7, hx7, rfl, ho7, hc7⟩
            have bx7 := hide ((unhide bx6).grown (gO ho7) (by simp; omega))
            have ow7 := hide ((unhide ow6).grown (gO ho7) (fun k hk => by have := ((unhide ow6).lt k hk).1; simp; omega))
            have xR7 := hide ((unhide xR6).grown (gO ho7) (by simp; omega))
            have G7 := hide (gT (unhide G6) (gO ho7))
            have s7 : wr.heap.size ≤ w7.heap.size := (gO ho7).size
            replace hc7 := hide hc7
            replace ho7 := hide ho7
            clear bx6 ow6 xR6 G6 hc6
            have hwr : IntKind.i64.wrap (30 + (x7 : Int)) = 30 + (x7 : Int) := by rw [IntKind.wrap_i64]; omega
            by_cases hkx : (q : Int) < 30 + (x7 : Int)
            · have hw2 : IntKind.i64.wrap (100 + (q : Int)) = 100 + (q : Int) := by rw [IntKind.wrap_i64]; omega
              have cb7 := (unhide bx7).cell
              have lb7 := (unhide bx7).lt
              go_wp2_with fail
              go_region_law (first
                | (refine step_call rfl (F := 46) (decimal_short (100 + (q : Int)) (100 + q) (by omega) w7.drew (by omega)) (by go_simp) ?_; rintro e w8 ⟨ds, hds, rfl, hb8⟩; refine ⟨_, rfl, ?_⟩; (have hds2 : ¬ 9223372036854775807 < 1 + ds.size := by omega); (have hb8' : Below w7.heap.size w7 w8 := (Below.refl w7.heap.size w7).drew.trans hb8); (have bx8 := hide ((unhide bx7).step hb8')); (have ow8 := hide ((unhide ow7).below hb8')); (have xR8 := hide ((unhide xR7).step hb8')); (have G8 := hide (gTB (unhide G7) (hb8'.mono (by omega)))); (have s8 : w7.heap.size ≤ w8.heap.size := hb8'.size); (have hc8 := hide ((unhide hc7).below hb8' (by omega))); (have cb8 := (unhide bx8).cell); (have lb8 := (unhide bx8).lt); (replace hb8' := hide hb8'); (replace hb8 := hide hb8))
                | (refine step_append_file rfl (.tmp 94) (.tmp 100) 24 rfl (w.heap.size + 1 + 1) w.heap.size 36 i0 (flv flz) 40 Try.underlying24 hi hz0 hz1 hz2 rfl _ gs rfl (by exact (unhide ow8).alloc _) w8.heap.size _ (by exact heap_alloc_new w8 _) ⟨ByteArray.mk #[102] ++ ds, ⟨#[]⟩, 0⟩ rfl 1 rfl q (unhide hgl) (by omega) (by decide) (by omega) (by simp; omega) (by exact (Below.refl w.heap.size w8).alloc (by omega) _) ?_; intro a3 c3 w9 ow9 hb9 hkp9 hs9; (have bx9 : Box w9 (w.heap.size + 1) 26 (.slice a9 q c9) := (hkp9 _ (by simp; omega) (fun e => by have := ((unhide ow8).lt _ e).1; omega)).trans ((unhide bx8).alloc _)); (have xR9 : Box w9 w.heap.size 26 (.slice none 0 0) := (hkp9 _ (by simp; omega) (fun e => by have := ((unhide ow8).lt _ e).1; omega)).trans ((unhide xR8).alloc _)); (have cb9 := bx9.cell); (have cz9 := bx9.frozen); (have lb9 := bx9.lt); (have s9 : w8.heap.size ≤ w9.heap.size := hb9.size); (clear hkp9 hs9); (have ow10 := hide (ow9.other (a := ⟨w.heap.size + 1, 0, none⟩) (by show w.heap.size + 1 < _; omega) (.slice a3 (q + 1) c3))); (have bx10 := hide (bx9.set (.slice a3 (q + 1) c3))); (have xR10 := hide (xR9.other (a := ⟨w.heap.size + 1, 0, none⟩) (by show w.heap.size + 1 ≠ w.heap.size; omega) (.slice a3 (q + 1) c3))); (have b10 := hb9.setCell (p := ⟨w.heap.size + 1, 0, none⟩) (by show w.heap.size ≤ w.heap.size + 1; omega) (.slice a3 (q + 1) c3)); (have G10 := hide (gTB (unhide G8) b10)); (have hc10 := hide ((unhide hc8).below b10 hg)); (replace b10 := hide b10); (replace hb9 := hide hb9); (replace ow9 := hide ow9); (replace bx9 := hide bx9); (replace xR9 := hide xR9); (generalize hW10 : w9.setCell ⟨w.heap.size + 1, 0, none⟩ (.slice a3 (q + 1) c3) = w10 at ow10 bx10 xR10 G10 hc10)))
              all_goals
                clear hW10 cb9 cz9 lb9
                have s10 := (unhide bx10).lt
                have hgl2 := hide (show (gs ++ [(⟨ByteArray.mk #[102] ++ ds, ⟨#[]⟩, 0⟩ : Fl)]).length = q + 1 by rw [List.length_append, unhide hgl]; rfl)
                have hgB2 := hide (Bd_app (f := ⟨ByteArray.mk #[102] ++ ds, ⟨#[]⟩, 0⟩) (unhide hgB) ⟨(by show (ByteArray.mk #[102] ++ ds).size ≤ 4000000; rw [ByteArray.size_append]; show 1 + ds.size ≤ 4000000; omega), (by show (0 : Nat) ≤ 4000000; omega)⟩)
                go_wp2
                go_roundw
                case rel => exact ⟨q + 1, _, a3, c3, by omega, by go_num, hgl2, hgB2, bx10, ow10, xR10, G10, s10, hc10⟩
                case measure => simp [intOf]; omega
            · have hl2 : gs.length = q := unhide hgl
              have cbE := (unhide bx7).cell
              have lbE := (unhide bx7).lt
              have crE := (unhide xR7).cell
              have czE := (unhide xR7).frozen
              have lrE := (unhide xR7).lt
              have hof := hide (((unhide ow7).other (a := ⟨w.heap.size, 0, none⟩) (by show w.heap.size < _; omega) (.slice a9 q c9)).low (base' := w.heap.size) (by omega))
              have bf := (Below.refl w.heap.size w7).setCell (p := ⟨w.heap.size, 0, none⟩) (Nat.le_refl _) (.slice a9 q c9)
              have GF := hide (gTB (unhide G7) bf)
              have CF := hide ((unhide hc7).below bf hg)
              replace bf := hide bf
              go_wp2
              refine bodyPost_ret (v := .agg #[(.slice a9 q c9)]) (by simp [results, Try.results30, go_sem, crE]) rfl ?_
              exact ⟨gs, _, _, ⟨(by rw [hl2]; omega), unhide hgB⟩, (by rw [hl2]), (by rw [hl2]; exact unhide hof), unhide GF, unhide CF⟩
        · have hA := hide (show Below w4.heap.size w4 (w4.drew) from (Below.refl w4.heap.size w4).drew)
          have hcA := hide ((unhide hc4).below (unhide hA) (by omega))
          have bxA := hide ((unhide bx4).step (unhide hA))
          have owA := hide ((unhide ow4).below (unhide hA))
          have xRA := hide ((unhide xR4).step (unhide hA))
          have GA := hide (gTB (unhide G4) ((unhide hA).mono (by omega)))
          obtain ⟨p0, p1, p2⟩ := (unhide ow4).at hf
          have lF := ((unhide ow4).lt gF rfl)
          have cb4 := (unhide bx4).cell
          have lb4 := (unhide bx4).lt
          go_wp2_with fail
          go_region_law (first
            | (refine step_call rfl (F := 22) (l01Below_any (unhide hcA) hn 3 (by decide) (by decide)) (by go_simp) ?_; rintro e w0 ⟨x0, hx0, rfl, ho0, hc0⟩; refine ⟨_, rfl, ?_⟩; (have s0 : w4.heap.size ≤ w0.heap.size := (gO ho0).size); (have hwr : IntKind.i64.wrap (19999 + (x0 : Int)) = 19999 + (x0 : Int) := by rw [IntKind.wrap_i64]; omega); (have bx0 := (unhide bxA).grown (gO ho0) (by simp; omega)); (have cb0 := bx0.cell); (have lb0 := bx0.lt); (replace bx0 := hide bx0); (replace hc0 := hide hc0))
            | (refine step_call rfl (F := 47) (l01Long_at (19999 + (x0 : Int)) (19999 + x0) w0 (by omega) (by omega) (by omega)) (by go_simp) ?_; rintro e w5 ⟨l, hl, rfl, hb5⟩; refine ⟨_, rfl, ?_⟩; (have hg5 := gT (gO ho0) (gB hb5 (some g))); (have bx5 := hide ((unhide bxA).grown hg5 (by simp; omega))); (have ow5 := hide ((unhide owA).grown hg5 (fun k hk => by have := ((unhide owA).lt k hk).1; simp; omega))); (have xR5 := hide ((unhide xRA).grown hg5 (by simp; omega))); (have G5 := hide (gT (unhide GA) hg5)); (have s5 : w4.heap.size ≤ w5.heap.size := Nat.le_trans (unhide hA).size hg5.size); (have hc5 := hide ((unhide hc0).below hb5 (by omega))); (replace hg5 := hide hg5); (replace hb5 := hide hb5); (have ow6 := hide ((unhide ow5).set1 hf ⟨l.toArray⟩)); (have bx6 := hide ((unhide bx5).other (a := ⟨gF, y * 3 + 1, none⟩) (by show gF ≠ w.heap.size + 1; omega) (.string ⟨l.toArray⟩))); (have xR6 := hide ((unhide xR5).other (a := ⟨gF, y * 3 + 1, none⟩) (by show gF ≠ w.heap.size; omega) (.string ⟨l.toArray⟩))); (have b6 := (Below.refl w.heap.size w5).setCell (p := ⟨gF, y * 3 + 1, none⟩) (by show w.heap.size ≤ gF; omega) (.string ⟨l.toArray⟩)); (have G6 := hide (gTB (unhide G5) b6)); (have hc6 := hide ((unhide hc5).below b6 hg)); (replace b6 := hide b6); (have cb5 := (unhide bx5).cell); (have lb5 := (unhide bx5).lt); (have fz5 := (unhide ow5).frozen); (obtain ⟨e0, e1, e2⟩ := (unhide ow5).at hf); (generalize hW6 : w5.setCell ⟨gF, y * 3 + 1, none⟩ (.string ⟨l.toArray⟩) = w6 at ow6 bx6 xR6 G6 hc6)))
          all_goals
            clear hW6 cb5 lb5 fz5 e0 e1 e2
            have hl2 : (fs.set y { f with tx := ⟨l.toArray⟩ }).length = fs.length := List.length_set
            have cbE := (unhide bx6).cell
            have lbE := (unhide bx6).lt
            have crE := (unhide xR6).cell
            have czE := (unhide xR6).frozen
            have lrE := (unhide xR6).lt
            have hof := hide (((unhide ow6).other (a := ⟨w.heap.size, 0, none⟩) (by show w.heap.size < _; omega) (.slice (some ⟨gF, 0, none⟩) fs.length c')).low (base' := w.heap.size) (by omega))
            have bf := (Below.refl w.heap.size w6).setCell (p := ⟨w.heap.size, 0, none⟩) (Nat.le_refl _) (.slice (some ⟨gF, 0, none⟩) fs.length c')
            have GF := hide (gTB (unhide G6) bf)
            have CF := hide ((unhide hc6).below bf hg)
            replace bf := hide bf
            go_wp2
            refine bodyPost_ret (v := .agg #[(.slice (some ⟨gF, 0, none⟩) fs.length c')]) (by simp [results, Try.results30, go_sem, crE]) rfl ?_
            exact ⟨fs.set y { f with tx := ⟨l.toArray⟩ }, _, _, ⟨(by rw [hl2]; omega), Bd_set (okL_bd (unhide hok)) ⟨hfB.1, (by show l.toArray.size ≤ 4000000; rw [List.size_toArray]; omega)⟩⟩, (by rw [hl2]), (by rw [hl2]; exact unhide hof), unhide GF, unhide CF⟩
        · have n0 : ((z : Int) == 0) = false := by rw [beq_eq_false_iff_ne]; omega
          have n1 : ((z : Int) == 1) = false := by rw [beq_eq_false_iff_ne]; omega
          have n2 : ((z : Int) == 2) = false := by rw [beq_eq_false_iff_ne]; omega
          have n3 : ((z : Int) == 3) = false := by rw [beq_eq_false_iff_ne]; omega
          have n4 : ((z : Int) == 4) = false := by rw [beq_eq_false_iff_ne]; omega
          have cb9 := (unhide bx4).cell
          have lb9 := (unhide bx4).lt
          have cr9 := (unhide xR4).cell
          have cz9 := (unhide xR4).frozen
          have lr9 := (unhide xR4).lt
          have hof := hide (((unhide ow4).other (a := ⟨w.heap.size, 0, none⟩) (by show w.heap.size < _; omega) (.slice (some ⟨gF, 0, none⟩) fs.length c')).low (base' := w.heap.size) (by omega))
          have bf := (Below.refl w.heap.size w4).setCell (p := ⟨w.heap.size, 0, none⟩) (Nat.le_refl _) (.slice (some ⟨gF, 0, none⟩) fs.length c')
          have GF := hide (gTB (unhide G4) bf)
          have CF := hide ((unhide hc4).below bf hg)
          replace bf := hide bf
          go_wp2
          refine bodyPost_ret (v := .agg #[(.slice (some ⟨gF, 0, none⟩) fs.length c')]) (by simp [results, Try.results30, go_sem, cr9]) rfl ?_
          exact ⟨fs, (some ⟨gF, 0, none⟩), c', ⟨by omega, okL_bd (unhide hok)⟩, rfl, unhide hof, unhide GF, unhide CF⟩
end Go.Proofs.Ytkaaabpodhgbpaa
