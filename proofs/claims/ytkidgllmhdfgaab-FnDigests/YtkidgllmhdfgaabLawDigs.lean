/- The law FnDigests, walked over the loaded program. -/
import Derived.Test.YtkidgllmhdfgaabTwo
import Derived.Test.YtkidgllmhdfgaabDrawH
namespace Go.Proofs.Ytkidgllmhdfgaab
open Go.RowKit
theorem some_row {w : World} {base : Nat} {e : TypeId} {v : Value} {xs : List Value} (h : OwnV w base e v xs) (hne : xs ≠ []) : ∃ g c, v = .slice (some ⟨g, 0, none⟩) xs.length c := by
  rcases h.2 with ⟨h1, h2⟩ | ⟨g, cap, cur, h1, _⟩
  · exact absurd (List.length_eq_zero_iff.1 h2) hne
  · exact ⟨g, cap, h1⟩
theorem digB_size (s : ByteArray) : (digB s).size = 32 := V8.text_size _
theorem moreH_st (a : Hs) (s : ByteArray) : (moreH a s).st.size = 32 := V8.text_size _
theorem moreH_rs (a : Hs) (s : ByteArray) : (moreH a s).rs.size < 64 := by
  show ((moreT a s).extract _ _).size < 64
  rw [ByteArray.size_extract]; omega
set_option maxRecDepth 20000 in
set_option maxHeartbeats 400000 in
theorem lawDigests_any (w : World) (o : Option Addr) (n c : Nat) (hs : Src w w.heap.size o n) :
    Calls Try.prog 3 #[.slice o n c] w fun e w' => e = .returned (.bool true) ∧ Below w.heap.size w w' := by
  have HS := hide hs
  clear hs
  by_cases hbig : (1048576 : Int) < (n : Int)
  · have hd : decide ((1048576 : Int) < (n : Int)) = true := by rw [decide_eq_true_iff]; exact hbig
    go_enter Try.func3, Try.ntmps3
    go_wp2_with (go_at_call 6; refine (big_any w o n c).mono ?_; rintro e w1 ⟨rfl, rfl⟩)
    go_ret
    exact ⟨rfl, Below.refl _ _⟩
  · have hd : decide ((1048576 : Int) < (n : Int)) = false := by rw [decide_eq_false_iff_not]; exact hbig
    have hn : n ≤ 1048576 := by omega
    go_enter Try.func3, Try.ntmps3
    go_wp2_with fail
    refine (big_any w o n c).mono ?_
    rintro e w0 ⟨rfl, hw0⟩
    have hw0' := hw0.symm
    subst hw0'
    clear hw0
    go_wp2_with fail
    refine (drawDigest_any w o n c (unhide HS) hn).mono ?_
    rintro e w1 ⟨s, hsz, rfl, hb1⟩
    have HS1 := hide (((unhide HS).below hb1 (Nat.le_refl _)).up hb1.size)
    go_wp2_with fail
    refine (drawPlaces_any w1 o n c (unhide HS1) hn).mono ?_
    rintro e w2 ⟨v, xs, hx12, hx, rfl, hown, hb2⟩
    have hb12 := hb1.trans (hb2.mono hb1.size)
    obtain ⟨x0, x1, rest, rfl⟩ : ∃ a b r, xs = a :: b :: r := by
      match xs, hx12 with
      | a :: b :: r, _ => exact ⟨a, b, r, rfl⟩
    obtain ⟨gp, cp, rfl⟩ := some_row hown (by simp [ints])
    have hil : (ints (x0 :: x1 :: rest)).length = 12 := by simpa [ints] using hx12
    rw [hil] at hown ⊢
    have hp0 : w2.cell? ⟨gp, 0, none⟩ = some (.int .i64 (x0 : Int)) := hown.cell rfl
    obtain ⟨q, hq⟩ : ∃ q, q = x0 % (s.size + 1) := ⟨_, rfl⟩
    have hq4 : q ≤ s.size := by have := Nat.mod_lt x0 (show 0 < s.size + 1 by omega); omega
    have e5' : (x0 : Int) % ((s.size : Int) + 1) = (q : Int) := by rw [hq]; simp [Int.natCast_emod]
    have e5 : (x0 : Int).tmod ((s.size : Int) + 1) = (q : Int) := by rw [Int.tmod_eq_emod_of_nonneg (by omega)]; exact e5'
    replace hq := hide hq
    clear hb1 hb2 hown hx HS1
    have hsx : s.extract 0 q ++ s.extract q s.size = s := by
      apply ext_eq
      rw [app_list, ext_list, ext_list, Nat.sub_zero, List.drop_zero, List.take_of_length_le (l := s.data.toList.drop q) (by rw [List.length_drop, size_list]; exact Nat.le_refl _), List.take_append_drop]
    have hxz : (s.extract 0 q).size = q := by rw [ByteArray.size_extract]; omega
    have hyz : (s.extract q s.size).size = s.size - q := by rw [ByteArray.size_extract]; omega
    have hc0 : hNew.ct = 0 := rfl
    have hk1 : okH (moreH hNew (s.extract 0 q)) = true := okH_more hNew_ok (by rw [hc0, hxz]; omega)
    have hk2 : okH (moreH hNew s) = true := okH_more hNew_ok (by rw [hc0]; omega)
    have hct1 : (moreH hNew (s.extract 0 q)).ct = (q : Int) := by rw [moreH_new]; show ((s.extract 0 q).size : Int) = _; rw [hxz]
    have hct2 : (moreH hNew s).ct = (s.size : Int) := by rw [moreH_new]
    have hst1 := moreH_st hNew (s.extract 0 q)
    have hst2 := moreH_st hNew s
    have hrs1 := moreH_rs hNew (s.extract 0 q)
    have hrs2 := moreH_rs hNew s
    have hA : moreH (moreH hNew (s.extract 0 q)) (s.extract q s.size) = moreH hNew s := by rw [moreH_more, hsx]
    have hE0 : moreH (moreH hNew s) ⟨#[]⟩ = moreH hNew s := by
      rw [moreH_more, show s ++ (⟨#[]⟩ : ByteArray) = s from by apply ext_eq; rw [app_list]; show s.data.toList ++ [] = _; rw [List.append_nil]]
    have CN := hide (fun W => implNew_any W)
    rw [show (⟨first8.text, ⟨#[]⟩, 0⟩ : Hs) = hNew from rfl] at CN
    have C1 := hide (fun W => implMore_yes hNew (s.extract 0 q) W (by rw [show hNew.st.size = 32 from V8.text_size _]; decide) (by decide) (by omega) hNew_ok (by rw [hc0]; omega))
    have C2 := hide (fun W => implMore_yes (moreH hNew (s.extract 0 q)) (s.extract q s.size) W (by rw [hst1]; decide) (by omega) (by omega) hk1 (by rw [hct1]; omega))
    rw [hA] at C2
    have C3 := hide (fun W => implMore_yes (moreH hNew s) ⟨#[]⟩ W (by rw [hst2]; decide) (by omega) (by decide) hk2 (by rw [hct2]; show (s.size : Int) + (0 : Int) ≤ _; omega))
    rw [hE0] at C3
    have O1 := hide (fun W => implOk_any (moreH hNew (s.extract 0 q)) W (by rw [hst1]; decide) (by unfold maxLen; omega))
    rw [hk1] at O1
    have O2 := hide (fun W => implOk_any (moreH hNew s) W (by rw [hst2]; decide) (by unfold maxLen; omega))
    rw [hk2] at O2
    have CE := hide (fun W => implEnd_any (moreH hNew s) W (by rw [hst2]; decide) (by omega))
    rw [if_pos hk2, digB_end] at CE
    have CD := hide (fun W => implDigest_any s (by omega) W)
    rw [show endV (blocksW first8 s 0 (s.size / 64)) (s.extract (64 * (s.size / 64)) s.size) s.size = digB s from rfl] at CD
    have CS := hide (fun W => specDigest_any s (by omega) W)
    have hdz := digB_size s
    generalize digB s = d at *
    clear hsx hxz hyz hc0 hk1 hk2 hct1 hst1 hst2 hrs1 hrs2 hA hE0
    generalize moreH hNew (s.extract 0 q) = A1 at *
    generalize moreH hNew s = A2 at *
    generalize hNew = A0 at *
    obtain ⟨z1, z2, z3⟩ := A0
    obtain ⟨y1, y2, y3⟩ := A1
    obtain ⟨m1, m2, m3⟩ := A2
    unfold hsv at CN C1 C2 C3 O1 O2 CE
    dsimp only at CN C1 C2 C3 O1 O2 CE hct2
    subst hct2
    go_wp2_with fail
    refine ((unhide CN) w2).mono ?_
    rintro e w3 ⟨rfl, hb3⟩
    have hb13 := hb12.trans (hb3.mono hb12.size)
    have hs13 := hb13.size
    clear hb12 hb3
    go_wp2_with fail
    obtain ⟨W4, hW4, hB4, hb4, hl4⟩ := one_hash w3 ⟨z1, z2, z3⟩ 28
    dsimp only at hW4
    rw [hW4]
    clear hW4
    have k0 := hB4.c0
    have k1 := hB4.c1
    have k2 := hB4.c2
    dsimp only at k0 k1 k2
    have hb14 := hb13.trans (hb4.mono hs13)
    clear hb13 hb4
    go_wp2
    go_region_with (first
      | (go_at_call 10; refine ((unhide C1) _).mono ?_; rintro e w5 ⟨rfl, hb5⟩; have hB5 := HB.below (w := W4.drew) hB4 hb5 hl4; have t0 := hB5.c0; have t1 := hB5.c1; have t2 := hB5.c2; have f0 := hB5.frozen 0; have f1 := hB5.frozen 1; have f2 := hB5.frozen 2))
    have hb15 := hb14.drew.trans (hb5.mono hb14.size)
    have hB6 := hB5.set3 ⟨y1, y2, y3⟩
    dsimp only at hB6
    have hbs : w.heap.size ≤ w3.heap.size := hs13
    have hb16 := ((hb15.setCell (p := ⟨w3.heap.size, 0, none⟩) hbs (.string y1)).setCell (p := ⟨w3.heap.size, 1, none⟩) hbs (.string y2)).setCell (p := ⟨w3.heap.size, 2, none⟩) hbs (.int .i64 y3)
    generalize ((w5.setCell ⟨w3.heap.size, 0, none⟩ (.string y1)).setCell ⟨w3.heap.size, 1, none⟩ (.string y2)).setCell ⟨w3.heap.size, 2, none⟩ (.int .i64 y3) = W6 at *
    clear hB5 t0 t1 t2 f0 f1 f2 hb5 hb15 hb14 k0 k1 k2 hB4 hl4
    have k0 := hB6.c0
    have k1 := hB6.c1
    have k2 := hB6.c2
    dsimp only at k0 k1 k2
    have hl6 := hB6.lt
    obtain ⟨N7, hN7, hNB, hNb, hNl⟩ := one_hash W6 h0 28
    unfold h0 at hN7
    dsimp only at hN7
    have hs06 := hb16.size
    have hB7 := HB.below (w := W6) hB6 hNb hl6
    have c0 := hB7.c0
    have c1 := hB7.c1
    have c2 := hB7.c2
    dsimp only at c0 c1 c2
    replace hN7 := hide hN7
    go_wp2
    go_region_with (first
      | (go_at_call 10; refine ((unhide C2) W6.drew).mono ?_; rintro e w7 ⟨rfl, hb7⟩; have hP : True := trivial)
      | (go_at_call 10; rw [unhide hN7]; refine ((unhide C2) N7.drew).mono ?_; rintro e w7 ⟨rfl, hb7⟩; have hM7 := HB.below (w := N7.drew) hNB hb7 hNl; have t0 := hM7.c0; have t1 := hM7.c1; have t2 := hM7.c2; have f0 := hM7.frozen 0; have f1 := hM7.frozen 1; have f2 := hM7.frozen 2))
    all_goals
      first
      | (have hbb : Below W6.heap.size W6 w7 := (Below.refl W6.heap.size W6).drew.trans hb7
         have hBh := HB.below hB6 hbb hl6
         have _ := hP
         obtain ⟨W8, hW8, hM8, hb8, hl8⟩ := one_hash w7 ⟨m1, m2, (s.size : Int)⟩ 28
         dsimp only at hW8
         rw [hW8]
         clear hW8
         have hH8 := HB.below hBh hb8 hBh.lt
         have hT8 := hb16.trans ((hbb.trans (hb8.mono hbb.size)).mono hs06)
         obtain ⟨gm, hgm⟩ : ∃ g, g = w7.heap.size := ⟨_, rfl⟩
         rw [← hgm] at hM8 ⊢
         clear hgm hbb hBh hb8 hl8)
      | (have hbb : Below N7.heap.size N7 w7 := (Below.refl N7.heap.size N7).drew.trans hb7
         have hBh := HB.below hB7 hbb (Nat.lt_of_lt_of_le hl6 hNb.size)
         have hM8 := hM7.set3 ⟨m1, m2, (s.size : Int)⟩
         dsimp only at hM8
         have hS8 := (((Below.refl W6.heap.size w7).setCell (p := ⟨W6.heap.size, 0, none⟩) (Nat.le_refl _) (.string m1)).setCell (p := ⟨W6.heap.size, 1, none⟩) (Nat.le_refl _) (.string m2)).setCell (p := ⟨W6.heap.size, 2, none⟩) (Nat.le_refl _) (.int .i64 (s.size : Int))
         have hH8 := HB.below hBh hS8 hl6
         have hT8 := hb16.trans ((hNb.trans ((hbb.mono hNb.size).trans hS8)).mono hs06)
         generalize (((w7.setCell ⟨W6.heap.size, 0, none⟩ (.string m1)).setCell ⟨W6.heap.size, 1, none⟩ (.string m2)).setCell ⟨W6.heap.size, 2, none⟩ (.int .i64 (s.size : Int))) = W8 at *
         obtain ⟨gm, hgm⟩ : ∃ g, g = W6.heap.size := ⟨_, rfl⟩
         rw [← hgm] at hM8 ⊢
         clear hgm hbb hBh hS8 hM7 t0 t1 t2 f0 f1 f2)
      have hdz' : (d.size : Int) = 32 := by omega
      clear hb7 hN7 hNB hNb hNl hB7 c0 c1 c2 k0 k1 k2 hB6 hb16 hs06 hl6
      have k0 := hH8.c0
      have k1 := hH8.c1
      have k2 := hH8.c2
      have j0 := hM8.c0
      have j1 := hM8.c1
      have j2 := hM8.c2
      dsimp only at k0 k1 k2 j0 j1 j2
      replace hH8 := hide hH8
      replace hM8 := hide hM8
      replace hT8 := hide hT8
      go_wp2_with fail
      refine ((unhide CD) _).mono ?_
      rintro e x9 ⟨rfl, g9⟩
      have hH9 := (unhide hH8).step g9
      have hM9 := (unhide hM8).step g9
      have hT9 := (unhide hT8).trans (g9.mono (unhide hT8).size)
      clear hH8 hM8 hT8 g9 k0 k1 k2 j0 j1 j2
      have k0 := hH9.c0
      have k1 := hH9.c1
      have k2 := hH9.c2
      have j0 := hM9.c0
      have j1 := hM9.c1
      have j2 := hM9.c2
      dsimp only at k0 k1 k2 j0 j1 j2
      replace hH9 := hide hH9
      replace hM9 := hide hM9
      replace hT9 := hide hT9
      go_wp2_with fail
      refine ((unhide O1) _).mono ?_
      rintro e x10 ⟨rfl, g10⟩
      have hH10 := (unhide hH9).step g10
      have hM10 := (unhide hM9).step g10
      have hT10 := (unhide hT9).trans (g10.mono (unhide hT9).size)
      clear hH9 hM9 hT9 g10 k0 k1 k2 j0 j1 j2
      have k0 := hH10.c0
      have k1 := hH10.c1
      have k2 := hH10.c2
      have j0 := hM10.c0
      have j1 := hM10.c1
      have j2 := hM10.c2
      dsimp only at k0 k1 k2 j0 j1 j2
      replace hH10 := hide hH10
      replace hM10 := hide hM10
      replace hT10 := hide hT10
      go_wp2_with fail
      refine ((unhide O2) _).mono ?_
      rintro e x11 ⟨rfl, g11⟩
      have hH11 := (unhide hH10).step g11
      have hM11 := (unhide hM10).step g11
      have hT11 := (unhide hT10).trans (g11.mono (unhide hT10).size)
      clear hH10 hM10 hT10 g11 k0 k1 k2 j0 j1 j2
      have k0 := hH11.c0
      have k1 := hH11.c1
      have k2 := hH11.c2
      have j0 := hM11.c0
      have j1 := hM11.c1
      have j2 := hM11.c2
      dsimp only at k0 k1 k2 j0 j1 j2
      replace hH11 := hide hH11
      replace hM11 := hide hM11
      replace hT11 := hide hT11
      go_wp2_with fail
      refine ((unhide CE) _).mono ?_
      rintro e x12 ⟨rfl, g12⟩
      have hH12 := (unhide hH11).step g12
      have hM12 := (unhide hM11).step g12
      have hT12 := (unhide hT11).trans (g12.mono (unhide hT11).size)
      clear hH11 hM11 hT11 g12 k0 k1 k2 j0 j1 j2
      have k0 := hH12.c0
      have k1 := hH12.c1
      have k2 := hH12.c2
      have j0 := hM12.c0
      have j1 := hM12.c1
      have j2 := hM12.c2
      dsimp only at k0 k1 k2 j0 j1 j2
      replace hH12 := hide hH12
      replace hM12 := hide hM12
      replace hT12 := hide hT12
      go_wp2_with fail
      refine ((unhide CS) _).mono ?_
      rintro e x13 ⟨rfl, g13⟩
      have hH13 := (unhide hH12).step g13
      have hM13 := (unhide hM12).step g13
      have hT13 := (unhide hT12).trans (g13.mono (unhide hT12).size)
      clear hH12 hM12 hT12 g13 k0 k1 k2 j0 j1 j2
      have k0 := hH13.c0
      have k1 := hH13.c1
      have k2 := hH13.c2
      have j0 := hM13.c0
      have j1 := hM13.c1
      have j2 := hM13.c2
      dsimp only at k0 k1 k2 j0 j1 j2
      replace hH13 := hide hH13
      replace hM13 := hide hM13
      replace hT13 := hide hT13
      go_wp2_with fail
      refine ((unhide C3) _).mono ?_
      rintro e x14 ⟨rfl, g14⟩
      have hH14 := (unhide hH13).step g14
      have hM14 := (unhide hM13).step g14
      have hT14 := (unhide hT13).trans (g14.mono (unhide hT13).size)
      clear hH13 hM13 hT13 g14 k0 k1 k2 j0 j1 j2
      have k0 := hH14.c0
      have k1 := hH14.c1
      have k2 := hH14.c2
      have j0 := hM14.c0
      have j1 := hM14.c1
      have j2 := hM14.c2
      dsimp only at k0 k1 k2 j0 j1 j2
      replace hH14 := hide hH14
      replace hM14 := hide hM14
      replace hT14 := hide hT14
      go_wp2_with fail
      refine ((unhide CE) _).mono ?_
      rintro e x15 ⟨rfl, g15⟩
      have hH15 := (unhide hH14).step g15
      have hM15 := (unhide hM14).step g15
      have hT15 := (unhide hT14).trans (g15.mono (unhide hT14).size)
      clear hH14 hM14 hT14 g15 k0 k1 k2 j0 j1 j2
      have k0 := hH15.c0
      have k1 := hH15.c1
      have k2 := hH15.c2
      have j0 := hM15.c0
      have j1 := hM15.c1
      have j2 := hM15.c2
      dsimp only at k0 k1 k2 j0 j1 j2
      replace hH15 := hide hH15
      replace hM15 := hide hM15
      replace hT15 := hide hT15
      go_wp2
      go_ret
      exact ⟨by simp, unhide hT15⟩
end Go.Proofs.Ytkidgllmhdfgaab
