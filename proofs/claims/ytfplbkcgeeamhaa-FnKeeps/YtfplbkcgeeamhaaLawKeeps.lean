/- The law FnKeeps, walked. -/
import Derived.Test.YtfplbkcgeeamhaaKeeps
namespace Go.Proofs.Ytfplbkcgeeamhaa
open Go.RowKit

theorem ext_of_cut (x : ByteArray) (k : Nat) (h : k ≤ x.size) : x.extract 0 (x.extract 0 k).size = x.extract 0 k := by
  rw [ByteArray.size_extract]
  congr 1
  omega
theorem ext_ext (x : ByteArray) (j k : Nat) (h : j ≤ k) (hk : k ≤ x.size) : (x.extract 0 k).extract 0 (x.extract 0 j).size = x.extract 0 j := by
  rw [ByteArray.size_extract, ByteArray.extract_extract]
  congr 1
  omega

def Pr2 (y t xk a b : ByteArray) : Prop := (a = y ∧ b = t) ∨ (a = xk ∧ b = y)

set_option maxRecDepth 20000 in
set_option maxHeartbeats 4000000 in
theorem lawKeeps_any (w : World) (o : Option Addr) (n c : Nat) (hs : Src w w.heap.size o n) :
    Calls Try.prog 3 #[.slice o n c] w fun e w' => e = .returned (.bool true) ∧ Below w.heap.size w w' := by
  by_cases hbig : (1048576 : Int) < (n : Int)
  · have hd : decide ((1048576 : Int) < (n : Int)) = true := decide_eq_true hbig
    have CB : Hid (∀ W, Calls Try.prog 5 #[.slice o n c] W fun e w' => e = .returned (.bool true) ∧ w' = W) := fun W => by rw [← hd]; exact big_any W o n c
    clear hd hs
    go_enter Try.func3, Try.ntmps3
    go_wp2_with (go_at_call 5; refine ((unhide CB) _).mono ?_; rintro e w1 ⟨rfl, rfl⟩)
    go_ret
    exact ⟨rfl, Below.refl _ _⟩
  · have hn : n ≤ 1048576 := by omega
    have hd : decide ((1048576 : Int) < (n : Int)) = false := decide_eq_false hbig
    have CB : Hid (∀ W, Calls Try.prog 5 #[.slice o n c] W fun e w' => e = .returned (.bool false) ∧ w' = W) := fun W => by rw [← hd]; exact big_any W o n c
    have HS := hide hs
    clear hd hs
    go_enter Try.func3, Try.ntmps3
    go_wp2_with fail
    refine ((unhide CB) _).mono ?_
    rintro e w0 ⟨rfl, hw0⟩
    have hw0' := hw0.symm
    subst hw0'
    clear hw0
    go_wp2_with fail
    refine (drawRight_any w o n c (unhide HS) hn).mono ?_
    rintro e w1 ⟨⟨fs, ad, cd, hok, rfl, oD1⟩, hb1⟩
    have HOK := hide hok
    have hfl : fs.length ≤ 30 := (okL_iff.1 hok).1
    have HBd := hide (bd_ok hok)
    have HB1 := hide hb1
    have s1 := hb1.size
    replace oD1 := hide oD1
    clear hb1 hok
    have HS1 := hide (show Src (w1.alloc (.cells #[.slice ad fs.length cd] 26)) (w1.alloc (.cells #[.slice ad fs.length cd] 26)).heap.size o n from ((unhide HS).below (bTrA (unhide HB1) _) (Nat.le_refl _)).up (by simp; omega))
    go_wp2_with fail
    refine (drawPlaces_any _ o n c (unhide HS1) hn).mono ?_
    rintro e w2 ⟨v2, xs, hx12, hx, rfl, o2, hb2⟩
    have b3_2 := hide ((Box.new w1 _ _).step hb2)
    have oD2 := hide (((unhide oD1).alloc _).below hb2)
    have HB2 := hide (bTr (bTrA (unhide HB1) _) hb2)
    have s2 := sz1 hb2
    clear hb2 HS1
    obtain ⟨a2, c2, rfl⟩ := o2.shape
    have HX := hide hx
    have HX12 := hide hx12
    replace o2 := hide o2
    clear hx hx12
    go_wp2_with fail
    refine (lefts_any xs _ w2 (unhide HX12) (unhide HX) _ (unhide o2)).mono ?_
    rintro e w3 ⟨⟨is, ai, ci, hil, rfl, oI3⟩, hb3⟩
    have b3_3 := hide ((unhide b3_2).step hb3)
    have oD3 := hide ((unhide oD2).below hb3)
    have HB3 := hide (bTr (unhide HB2) hb3)
    have s3 := sz0 hb3
    have HIL := hide hil
    replace oI3 := hide oI3
    clear hb3 hil
    have CL : Hid (∀ W v1 v2, RdF W v1 fs → RdV W v2 (is.map iv) → Calls Try.prog 9 #[.agg #[v1], v2] W fun e w' => DkEnd 36 (loseL fs is) true W e w') := fun W v1 v2 h1 h2 => by
      have := implLose_any fs is v1 v2 W h1 h2 (unhide HBd) (by omega) (by have := unhide HIL; omega)
      rw [unhide HOK, show loseRes fs is = loseL fs is by unfold loseRes; rw [unhide HOK]; rfl] at this
      exact this
    have HOKe := hide (loseL_ok (is := is) (unhide HOK))
    have CL2 : Hid (∀ W v1 v2, RdF W v1 (loseL fs is) → RdV W v2 (([] : List Int).map iv) → Calls Try.prog 9 #[.agg #[v1], v2] W fun e w' => DkEnd 36 (loseL fs is) true W e w') := fun W v1 v2 h1 h2 => by
      have := implLose_any (loseL fs is) [] v1 v2 W h1 h2 (bd_ok (unhide HOKe)) (by rw [loseL_len]; omega) (by simp)
      rw [unhide HOKe, show loseRes (loseL fs is) [] = loseL fs is by unfold loseRes; rw [unhide HOKe]; exact loseL_again (unhide HOK)] at this
      exact this
    have CAK : Hid (∀ W v1, RdF W v1 (loseL fs is) → Calls Try.prog 11 #[.agg #[v1]] W fun e w' => e = .returned (.bool true) ∧ Below W.heap.size W w') := fun W v1 h1 => by
      have := implAllKept_any (loseL fs is) v1 W h1 (bd_ok (unhide HOKe)) (by rw [loseL_len]; omega)
      rw [loseL_kept (unhide HOK)] at this
      exact this
    have CDO : Hid (∀ W v1, RdF W v1 fs → Calls Try.prog 12 #[.agg #[v1]] W fun e w' => e = .returned (.bool true) ∧ Below W.heap.size W w') := fun W v1 h1 => by
      have := implDiskOk_any fs v1 W h1 (unhide HBd) (by omega)
      rw [unhide HOK] at this
      exact this
    have CSD : Hid (∀ W v1 v2, RdF W v1 (loseL fs is) → RdF W v2 (loseL fs is) → Calls Try.prog 10 #[.agg #[v1], .agg #[v2]] W fun e w' => e = .returned (.bool true) ∧ Below W.heap.size W w') := fun W v1 v2 h1 h2 => sameDisk_any (loseL fs is) v1 v2 W h1 h2 (by rw [loseL_len]; omega)
    have HAT : Hid (∀ k f, fs[k]? = some f → (loseL fs is)[k]? = some (cutF f (is.getD k 0))) := fun k f h => loseL_at h
    unfold DkEnd at CL CL2
    obtain ⟨rs, hrs⟩ : ∃ rs, loseL fs is = rs := ⟨_, rfl⟩
    have hrl : rs.length = fs.length := by rw [← hrs]; exact loseL_len fs is
    rw [hrs] at CL CL2 CAK CSD HAT
    clear hrs HOKe
    rw [hrl] at CL CL2
    replace hrl := hide hrl
    have c3 := (unhide b3_3).cell
    have l3 := (unhide b3_3).lt
    go_wp2_with fail
    refine ((unhide CL) _ _ _ (unhide oD3).rd (unhide oI3).rdv).mono ?_
    rintro e w4 ⟨⟨ae, ce, rfl, oE4⟩, hb4⟩
    have b3_4 := hide ((unhide b3_3).step hb4)
    have oD4 := hide ((unhide oD3).below hb4)
    have HB4 := hide (bTr (unhide HB3) hb4)
    have s4 := sz0 hb4
    replace oE4 := hide oE4
    clear hb4 c3 l3 oI3
    have c3 := (unhide b3_4).cell
    have l3 := (unhide b3_4).lt
    go_wp2_with fail
    refine ((unhide CL2) _ _ _ (((unhide oE4).alloc _).alloc _).rd (.inl ⟨_, _, rfl, rfl⟩)).mono ?_
    rintro e w5 ⟨⟨af, cf, rfl, oF5⟩, hb5⟩
    have b3_5 := hide ((((unhide b3_4).alloc _).alloc _).step hb5)
    have b5_5 := hide (((Box.new w4 _ _).alloc _).step hb5)
    have oD5 := hide ((((unhide oD4).alloc _).alloc _).below hb5)
    have oE5 := hide ((((unhide oE4).alloc _).alloc _).below hb5)
    have HB5 := hide (bTr (bTrA (bTrA (unhide HB4) _) _) hb5)
    have s5 : w4.heap.size + 2 ≤ w5.heap.size := by have := hb5.size; simp at this; omega
    replace oF5 := hide oF5
    clear hb5 c3 l3
    have c3 := (unhide b3_5).cell
    have l3 := (unhide b3_5).lt
    have c5 := (unhide b5_5).cell
    have l5 := (unhide b5_5).lt
    go_wp2_with fail
    refine ((unhide CSD) _ _ _ ((unhide oE5).alloc _).rd ((unhide oF5).alloc _).rd).mono ?_
    rintro e w6 ⟨rfl, hb6⟩
    have b3_6 := hide (((unhide b3_5).alloc _).step hb6)
    have b5_6 := hide (((unhide b5_5).alloc _).step hb6)
    have oD6 := hide (((unhide oD5).alloc _).below hb6)
    have oE6 := hide (((unhide oE5).alloc _).below hb6)
    have HB6 := hide (bTr (bTrA (unhide HB5) _) hb6)
    have s6 := sz1 hb6
    clear hb6 c3 l3 c5 l5
    have c3 := (unhide b3_6).cell
    have l3 := (unhide b3_6).lt
    have c5 := (unhide b5_6).cell
    have l5 := (unhide b5_6).lt
    go_wp2_with fail
    refine ((unhide CAK) _ _ (unhide oE6).rd).mono ?_
    rintro e w7 ⟨rfl, hb7⟩
    have b3_7 := hide ((unhide b3_6).step hb7)
    have b5_7 := hide ((unhide b5_6).step hb7)
    have oD7 := hide ((unhide oD6).below hb7)
    have oE7 := hide ((unhide oE6).below hb7)
    have HB7 := hide (bTr (unhide HB6) hb7)
    have s7 := sz0 hb7
    clear hb7 c3 l3 c5 l5
    have c3 := (unhide b3_7).cell
    have l3 := (unhide b3_7).lt
    have c5 := (unhide b5_7).cell
    have l5 := (unhide b5_7).lt
    go_wp2_with fail
    refine ((unhide CDO) _ _ (unhide oD7).rd).mono ?_
    rintro e w8 ⟨rfl, hb8⟩
    have b3_8 := hide ((unhide b3_7).step hb8)
    have b5_8 := hide ((unhide b5_7).step hb8)
    have oD8 := hide ((unhide oD7).below hb8)
    have oE8 := hide ((unhide oE7).below hb8)
    have HB8 := hide (bTr (unhide HB7) hb8)
    have s8 := sz0 hb8
    clear hb8 c3 l3 c5 l5
    obtain ⟨ad', cd', hde, hcd⟩ := (unhide oD8).rd.open
    simp only [Value.slice.injEq, true_and] at hde
    obtain ⟨rfl, rfl⟩ := hde
    obtain ⟨ae', ce', hee, hce⟩ := (unhide oE8).rd.open
    rw [unhide hrl] at hee
    simp only [Value.slice.injEq, true_and] at hee
    obtain ⟨rfl, rfl⟩ := hee
    replace hcd := hide hcd
    replace hce := hide hce
    have c3 := (unhide b3_8).cell
    have l3 := (unhide b3_8).lt
    have c5 := (unhide b5_8).cell
    have l5 := (unhide b5_8).lt
    go_wp2_with fail
    clear c3 l3 c5 l5
    go_loopw [9] (fun ti wr => ∃ k : Nat, k ≤ fs.length ∧ ti = .int .i64 k ∧ Below w8.heap.size w8 wr) (fun ti _ => fs.length - (intOf ti).toNat)
    case atStart => exact ⟨0, Nat.zero_le _, rfl, Below.refl _ _⟩
    case round =>
      obtain ⟨k, hk, rfl, hb⟩ := hrel
      have c3 := ((unhide b3_8).step hb).cell
      have l3 := ((unhide b3_8).step hb).lt
      have c5 := ((unhide b5_8).step hb).cell
      have l5 := ((unhide b5_8).step hb).lt
      by_cases hlt : k < fs.length
      · obtain ⟨f, hf⟩ : ∃ f, fs[k]? = some f := ⟨fs[k], List.getElem?_eq_getElem hlt⟩
        have hrk := (unhide HAT) k f hf
        have hfb := (okL_iff.1 (unhide HOK)).2.1 f (List.mem_of_getElem? hf)
        have hfk := fileB_kept hfb
        have hcs := cutF_size (told := is.getD k 0) hfb
        obtain ⟨g1, o1, rfl, hg1, hat1⟩ := (unhide hcd) k f hf
        obtain ⟨g2, o2, rfl, hg2, hat2⟩ := (unhide hce) k _ hrk
        obtain ⟨d1, d2, d3⟩ := hat1.below hb hg1
        obtain ⟨d4, d5, d6⟩ := hat2.below hb hg2
        have hss := hb.size
        have hg1r : g1 < wr.heap.size := by omega
        have hg2r : g2 < wr.heap.size := by omega
        have enm : (cutF f (is.getD k 0)).nm = f.nm := rfl
        rw [enm] at d4
        obtain ⟨y, hy⟩ : ∃ y, (cutF f (is.getD k 0)).tx = y := ⟨_, rfl⟩
        rw [hy] at d5 hcs
        generalize (cutF f (is.getD k 0)).kp = yk at d6
        have hy2 : f.tx.extract 0 (cutN f (is.getD k 0)).toNat = y := hy
        generalize hz : cutN f (is.getD k 0) = z at *
        have hz1 : f.kp ≤ z ∧ z ≤ f.tx.size := by rw [← hz]; unfold cutN; omega
        have B1 : Hid (∀ W, Calls Try.prog 13 #[.string y, .string f.tx] W fun e w' => e = .returned (.bool true) ∧ w' = W) := fun W => begins_any y f.tx W (by omega) (by omega) (by rw [← hy2]; exact ext_of_cut _ _ (by omega))
        have B2 : Hid (∀ W, Calls Try.prog 13 #[.string (f.tx.extract 0 f.kp.toNat), .string y] W fun e w' => e = .returned (.bool true) ∧ w' = W) := fun W => begins_any _ y W (by rw [ByteArray.size_extract]; omega) (by omega) (by rw [← hy2]; exact ext_ext _ _ _ (by omega) (by omega))
        obtain ⟨xk, hxk⟩ : ∃ xk, f.tx.extract 0 f.kp.toNat = xk := ⟨_, rfl⟩
        rw [hxk] at B2
        have B : Hid (∀ W a b, Pr2 y f.tx xk a b → Calls Try.prog 13 #[.string a, .string b] W fun e w' => e = .returned (.bool true) ∧ w' = W) := fun W a b h => by
          rcases h with ⟨rfl, rfl⟩ | ⟨rfl, rfl⟩
          · exact (unhide B1) W
          · exact (unhide B2) W
        clear B1 B2
        have hk1 : (0 : Int) ≤ f.kp := hfk.1
        have hk2 : f.kp ≤ (f.tx.size : Int) := hfk.2.1
        have hi0 : (0 : Int) ≤ (k : Int) := by omega
        have hi1 : (k : Int) < (fs.length : Int) := by omega
        replace hf := hide hf
        clear hrk hfb hat1 hat2 enm hy hy2 hz hz1 hcs hfk
        clear CL CL2 CAK CDO CSD HAT HX HX12 HIL HBd HOK HS CB oD1 oD2 oD3 oD4 oD5 oD6 oD7 oE4 oE5 oE6 oE7 oF5 b3_2 b3_3 b3_4 b3_5 b3_6 b3_7 b5_5 b5_6 b5_7 HB1 HB2 HB3 HB4 HB5 HB6 HB7 hcd hce hrl
        go_wp2
        have F1 : FlAt ((wr.alloc (.cells #[.string f.nm, .string f.tx, .int .i64 f.kp] 36)).alloc (.cells #[.string f.nm, .string y, .int .i64 yk] 36)) wr.heap.size 0 f := ((FlB.new wr 36 f).alloc _).at
        have F2 : FlAt ((wr.alloc (.cells #[.string f.nm, .string f.tx, .int .i64 f.kp] 36)).alloc (.cells #[.string f.nm, .string y, .int .i64 yk] 36)) (wr.heap.size + 1) 0 ⟨f.nm, y, yk⟩ := by
          have := FlB.new (wr.alloc (.cells #[.string f.nm, .string f.tx, .int .i64 f.kp] 36)) 36 ⟨f.nm, y, yk⟩
          have h2 : FlB ((wr.alloc (.cells #[.string f.nm, .string f.tx, .int .i64 f.kp] 36)).alloc (.cells #[.string f.nm, .string y, .int .i64 yk] 36)) (wr.heap.size + 1) 36 ⟨f.nm, y, yk⟩ := by simpa using this
          exact h2.at
        have hbf := hb.alloc hss (.cells #[.string f.nm, .string f.tx, .int .i64 f.kp] 36)
        have hbf2 := hide (hbf.alloc hbf.size (.cells #[.string f.nm, .string y, .int .i64 yk] 36))
        generalize ((wr.alloc (.cells #[.string f.nm, .string f.tx, .int .i64 f.kp] 36)).alloc (.cells #[.string f.nm, .string y, .int .i64 yk] 36)) = W0 at *
        obtain ⟨p1, p2, p3⟩ := F1
        obtain ⟨p4, p5, p6⟩ := F2
        simp only [Nat.zero_add] at p2 p3 p5 p6
        have hgd : (f.nm.toList == f.nm.toList) = true := by simp
        clear d1 d2 d3 d4 d5 d6 hbf c3 l3 c5 l5 p6 hb
        go_region_held3 (fun W => W.cell? ⟨wr.heap.size, 0, none⟩ = some (.string f.nm) ∧ W.cell? ⟨wr.heap.size, 1, none⟩ = some (.string f.tx) ∧ W.cell? ⟨wr.heap.size, 2, none⟩ = some (.int .i64 f.kp) ∧ W.cell? ⟨wr.heap.size + 1, 0, none⟩ = some (.string f.nm) ∧ W.cell? ⟨wr.heap.size + 1, 1, none⟩ = some (.string y)) (exact ⟨p1, p2, p3, p4, p5⟩) (first
          | (go_at_call 13; refine ((unhide B) _ _ _ ?_).mono ?_; (first | exact Or.inl ⟨by with_reducible rfl, by with_reducible rfl⟩ | exact Or.inr ⟨by with_reducible rfl, by with_reducible rfl⟩); rintro e w9 ⟨rfl, rfl⟩))
        go_wp2
        go_roundw
        case rel => exact ⟨k + 1, by omega, by go_num, (unhide hbf2).drew⟩
        case measure => simp [intOf]; omega
      · go_wp2
        go_ret
        exact ⟨rfl, (unhide HB8).trans (hb.mono (unhide HB8).size)⟩
end Go.Proofs.Ytfplbkcgeeamhaa
