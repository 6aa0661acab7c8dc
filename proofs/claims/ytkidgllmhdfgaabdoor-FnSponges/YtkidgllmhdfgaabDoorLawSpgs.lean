/- The law FnSponges, walked over the loaded program. -/
import Derived.Test.YtkidgllmhdfgaabDoorTwo7
import Derived.Test.YtkidgllmhdfgaabDoorDrawJ
import Derived.Test.YtkidgllmhdfgaabDoorLawSpg
namespace Go.Proofs.YtkidgllmhdfgaabDoor
open Go.RowKit
theorem a_row {w : World} {base : Nat} {e : TypeId} {v : Value} {xs : List Value} (h : OwnV w base e v xs) (hne : xs ≠ []) : ∃ g c, v = .slice (some ⟨g, 0, none⟩) xs.length c := by
  rcases h.2 with ⟨h1, h2⟩ | ⟨g, cap, cur, h1, _⟩
  · exact absurd (List.length_eq_zero_iff.1 h2) hne
  · exact ⟨g, cap, h1⟩
theorem shake_parts (s : ByteArray) (n m : Nat) : (⟨(endS (newS s).st 0 n).out.toArray⟩ : ByteArray) ++ ⟨(endS (textN (endS (newS s).st 0 n).a) (endS (newS s).st 0 n).p m).out.toArray⟩ = ⟨(shakeL s (n + m)).toArray⟩ := by
  have hok := absorbL_ok s 168 31
  have h1 : endS (newS s).st 0 n = gvEnd n ⟨absorbL s 168 31, 0, []⟩ := by unfold endS newS; dsimp only; rw [lanes_text hok]
  have hok2 : LanesOk (gvEnd n ⟨absorbL s 168 31, 0, []⟩).a := (gvRun_ok (n := n) (g := ⟨absorbL s 168 31, 0, []⟩) ⟨hok, Nat.zero_le _, Nat.zero_le _⟩ n).1
  rw [h1]
  have h2 : endS (textN (gvEnd n ⟨absorbL s 168 31, 0, []⟩).a) (gvEnd n ⟨absorbL s 168 31, 0, []⟩).p m = gvEnd m ⟨(gvEnd n ⟨absorbL s 168 31, 0, []⟩).a, (gvEnd n ⟨absorbL s 168 31, 0, []⟩).p, []⟩ := by
    unfold endS; rw [lanes_text hok2]
  rw [h2]
  unfold shakeL
  rw [gv_two hok 0 n m (by decide)]
  generalize (gvEnd n ⟨absorbL s 168 31, 0, []⟩).out = u
  generalize (gvEnd m ⟨(gvEnd n ⟨absorbL s 168 31, 0, []⟩).a, (gvEnd n ⟨absorbL s 168 31, 0, []⟩).p, []⟩).out = v
  apply ByteArray.ext
  rw [ByteArray.data_append]
  simp
set_option maxRecDepth 20000 in
set_option maxHeartbeats 1000000 in
theorem lawSponges_any (w : World) (o : Option Addr) (n c : Nat) (hs : Src w w.heap.size o n) (hL : Laid w) :
    Calls Tryd.prog 3 #[.slice o n c] w fun e w' => e = .returned (.bool true) ∧ Below w.heap.size w w' := by
  have HS := hide hs
  have HL := hide hL
  clear hs hL
  by_cases hbig : (1048576 : Int) < (n : Int)
  · have hd : decide ((1048576 : Int) < (n : Int)) = true := by rw [decide_eq_true_iff]; exact hbig
    go_enter Tryd.func3, Tryd.ntmps3
    go_wp2_with (go_at_call 6; refine (big_any w o n c).mono ?_; rintro e w1 ⟨rfl, rfl⟩)
    go_ret
    exact ⟨rfl, Below.refl _ _⟩
  · have hd : decide ((1048576 : Int) < (n : Int)) = false := by rw [decide_eq_false_iff_not]; exact hbig
    have hn : n ≤ 1048576 := by omega
    go_enter Tryd.func3, Tryd.ntmps3
    go_wp2_with fail
    refine (big_any w o n c).mono ?_
    rintro e w0 ⟨rfl, hw0⟩
    have hw0' := hw0.symm
    subst hw0'
    clear hw0
    go_wp2_with fail
    refine (drawStreamNew_any w o n c (unhide HS) hn).mono ?_
    rintro e w1 ⟨s, hsz, rfl, hb1⟩
    have HS1 := hide (((unhide HS).below hb1 (Nat.le_refl _)).up hb1.size)
    have hL1 := hide ((unhide HL).below hb1)
    go_wp2_with fail
    refine (drawPlaces_any w1 o n c (unhide HS1) hn).mono ?_
    rintro e w2 ⟨v, xs, hx12, hx, rfl, hown, hb2⟩
    have hs1 := hb1.size
    have HB2 := hide (hb1.trans (hb2.mono hs1))
    have hL2 := hide ((unhide hL1).below hb2)
    obtain ⟨x0, x1, rest, rfl⟩ : ∃ a b r, xs = a :: b :: r := by
      match xs, hx12 with
      | a :: b :: r, _ => exact ⟨a, b, r, rfl⟩
    obtain ⟨gp, cp, rfl⟩ := a_row hown (by simp [ints])
    have hil : (ints (x0 :: x1 :: rest)).length = 12 := by simpa [ints] using hx12
    rw [hil] at hown ⊢
    have hp0 : w2.cell? ⟨gp, 0, none⟩ = some (.int .i64 (x0 : Int)) := hown.cell rfl
    have hp1 : w2.cell? ⟨gp, 1, none⟩ = some (.int .i64 (x1 : Int)) := hown.cell rfl
    obtain ⟨a, ha⟩ : ∃ q, q = x0 % 400 := ⟨_, rfl⟩
    obtain ⟨b, hb⟩ : ∃ q, q = x1 % 400 := ⟨_, rfl⟩
    have ea : (x0 : Int).tmod 400 = (a : Int) := by rw [Int.tmod_eq_emod_of_nonneg (by omega)]; omega
    have ea' : (x0 : Int) % 400 = (a : Int) := by omega
    have eb : (x1 : Int).tmod 400 = (b : Int) := by rw [Int.tmod_eq_emod_of_nonneg (by omega)]; omega
    have eb' : (x1 : Int) % 400 = (b : Int) := by omega
    have hal : a < 400 := by omega
    have hbl : b < 400 := by omega
    obtain ⟨t, ht⟩ : ∃ t, t = a + b := ⟨_, rfl⟩
    have et : IntKind.i64.wrap ((a : Int) + (b : Int)) = (t : Int) := by rw [IntKind.wrap_i64]; omega
    have et' : (a : Int) + (b : Int) = (t : Int) := by omega
    have C1 := hide (fun W hL => implShake_yes s (by omega) t (by omega) W hL)
    have C2 := hide (fun W hL => implStreamNew_any s (by omega) W hL)
    have hns : (newS s).st.size = 200 := textN_size (absorbL_ok s 168 31).1
    have C3 : Hid (∀ W, Laid W → Calls Tryd.prog 11 #[smv (newS s), .int .i64 (a : Int)] W fun e w' => e = .returned (.tuple #[smv ⟨textN (endS (newS s).st 0 a).a, ((endS (newS s).st 0 a).p : Int)⟩, .string ⟨(endS (newS s).st 0 a).out.toArray⟩]) ∧ Below W.heap.size W w') := hide (fun W hL => implTake_yes (newS s).st 0 a hns (by decide) (by omega) W hL)
    have hgk := gvRun_ok (n := a) (g := ⟨lanesS (newS s).st, 0, []⟩) ⟨lanesS_ok _, Nat.zero_le _, Nat.zero_le _⟩ a
    have hg1 : LanesOk (endS (newS s).st 0 a).a := hgk.1
    have hg2 : (endS (newS s).st 0 a).p ≤ 168 := hgk.2.1
    have C4 := hide (fun W hL => implTake_yes (textN (endS (newS s).st 0 a).a) (endS (newS s).st 0 a).p b (textN_size hg1.1) hg2 (by omega) W hL)
    have C5 := hide (fun W => specShake_yes s (by omega) t (by omega) W)
    have HP := shake_parts s a b
    rw [← ht] at HP
    have hsl : (⟨(shakeL s t).toArray⟩ : ByteArray).size = t := by show (shakeL s t).toArray.size = t; rw [List.size_toArray, shakeL_len]
    generalize (⟨(shakeL s t).toArray⟩ : ByteArray) = all at *
    generalize endS (textN (endS (newS s).st 0 a).a) (endS (newS s).st 0 a).p b = r2 at *
    generalize endS (newS s).st 0 a = r1 at *
    generalize newS s = ns at *
    obtain ⟨nst, np⟩ := ns
    obtain ⟨r1a, r1p, r1o⟩ := r1
    obtain ⟨r2a, r2p, r2o⟩ := r2
    unfold smv at C2 C3 C4
    dsimp only at C2 C3 C4 HP
    generalize textN r1a = s1 at *
    generalize textN r2a = s2 at *
    generalize (⟨r1o.toArray⟩ : ByteArray) = o1 at *
    generalize (⟨r2o.toArray⟩ : ByteArray) = o2 at *
    replace ha := hide ha; replace hb := hide hb; replace ht := hide ht
    clear hgk hg1 hg2 hns hb1 hb2 hown HS1 hL1 hx hx12 hil
    go_wp2_with fail
    refine ((unhide C1) w2 (unhide hL2)).mono ?_
    rintro e w3 ⟨rfl, hb3⟩
    have hL3 := hide ((unhide hL2).below hb3)
    have hs2 := (unhide HB2).size
    have HB3 := hide ((unhide HB2).trans (hb3.mono hs2))
    clear hb3 hL2 hp0 hp1 HB2
    go_wp2_with fail
    refine ((unhide C2) w3 (unhide hL3)).mono ?_
    rintro e w4 ⟨rfl, hb4⟩
    have hL4 := (unhide hL3).below hb4
    have hs3 := (unhide HB3).size
    have HB4 := (unhide HB3).trans (hb4.mono hs3)
    have hs4 := HB4.size
    obtain ⟨w5, e5, hS5, hb5, hl5⟩ := one_sm w4 ⟨nst, np⟩ 30
    dsimp only at e5
    have hL5 := hide (hL4.below hb5)
    have HB5 := hide (HB4.trans (hb5.mono hs4))
    have k0 := hS5.c0
    have k1 := hS5.c1
    dsimp only at k0 k1
    replace hS5 := hide hS5
    clear hb4 hb5 hL4 HB4 hL3
    go_wp2_with fail
    first | rw [e5] | skip
    refine ((unhide C3) w5 (unhide hL5)).mono ?_
    rintro e w6 ⟨rfl, hb6⟩
    have hS6 := (unhide hS5).step hb6
    have hL6 := (unhide hL5).below hb6
    have hs5 := (unhide HB5).size
    have HB6 := (unhide HB5).trans (hb6.mono hs5)
    have z0 := hS6.c0
    have z1 := hS6.c1
    have f0 := hS6.frozen 0
    have f1 := hS6.frozen 1
    have hS7 := hS6.set2 ⟨s1, (r1p : Int)⟩
    have hb7 : Below w4.heap.size w6 ((w6.setCell ⟨w4.heap.size, 0, none⟩ (.string s1)).setCell ⟨w4.heap.size, 1, none⟩ (.int .i64 (r1p : Int))) := ((Below.refl w4.heap.size w6).setCell (p := ⟨w4.heap.size, 0, none⟩) (Nat.le_refl _) (.string s1)).setCell (p := ⟨w4.heap.size, 1, none⟩) (Nat.le_refl _) (.int .i64 (r1p : Int))
    have hlg := (unhide HL).lt
    have HB7 := hide (HB6.trans (hb7.mono (show w.heap.size ≤ w4.heap.size by omega)))
    have hL7 : Laid ((w6.setCell ⟨w4.heap.size, 0, none⟩ (.string s1)).setCell ⟨w4.heap.size, 1, none⟩ (.int .i64 (r1p : Int))) := Go.Joins.tab_stays gNums (unhide HL) (unhide HB7) (Nat.le_refl _)
    have y0 := hS7.c0
    have y1 := hS7.c1
    dsimp only at z0 z1 y0 y1
    replace hS6 := hide hS6; replace hS7 := hide hS7; replace hL7 := hide hL7
    clear hb6 hb7 hL6 HB6 hL5 k0 k1 hS5
    go_wp2_with fail
    refine ((unhide C4) _ (unhide hL7)).mono ?_
    rintro e w8 ⟨rfl, hb8⟩
    have hs7 := (unhide HB7).size
    have HB8 := hide ((unhide HB7).trans (hb8.mono hs7))
    have hs8 := (unhide HB8).size
    clear hb8 z0 z1 y0 y1 f0 f1
    obtain ⟨w9, e9, hb9⟩ : ∃ w9, w8.alloc (.cells #[.string s2, .int .i64 (r2p : Int)] 30) = w9 ∧ Below w8.heap.size w8 w9 := ⟨_, rfl, (Below.refl _ _).alloc (Nat.le_refl _) _⟩
    have HB9 := hide ((unhide HB8).trans (hb9.mono hs8))
    clear hb9
    go_wp2_with fail
    first | rw [e9] | skip
    refine ((unhide C5) w9).mono ?_
    rintro e w10 ⟨rfl, hb10⟩
    have hs9 := (unhide HB9).size
    have HB10 := hide ((unhide HB9).trans (hb10.mono hs9))
    clear hb10
    have hos : o1.size + o2.size ≤ 800 := by
      have h := congrArg ByteArray.size HP
      rw [ByteArray.size_append, hsl] at h
      have := unhide ht
      omega
    have ho1 : o1.size ≤ 800 := by omega
    have ho2 : o2.size ≤ 800 := by omega
    go_wp2
    go_ret
    exact ⟨rfl, unhide HB10⟩
end Go.Proofs.YtkidgllmhdfgaabDoor
