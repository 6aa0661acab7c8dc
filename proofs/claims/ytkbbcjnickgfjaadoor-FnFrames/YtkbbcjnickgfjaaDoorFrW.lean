/- The law FnFrames, walked. -/
import Derived.Test.YtkbbcjnickgfjaaDoorFrM
import Derived.Test.YtkbbcjnickgfjaaDoorSameT
import Derived.Test.YtkbbcjnickgfjaaDoorDrawT
import Derived.Test.YtkbbcjnickgfjaaDoorDrawN
namespace Go.Proofs.YtkbbcjnickgfjaaDoor
open Go.RowKit

theorem some_slice {w : World} {base : Nat} {e : TypeId} {v : Value} {xs : List Value} (h : OwnV w base e v xs) (hne : xs ≠ []) : ∃ g c, v = .slice (some ⟨g, 0, none⟩) xs.length c := by
  rcases h.2 with ⟨h1, h2⟩ | ⟨g, cap, cur, h1, _⟩
  · exact absurd (List.length_eq_zero_iff.1 h2) hne
  · exact ⟨g, cap, h1⟩

theorem two_of {xs : List Nat} (h : xs.length = 12) : ∃ a b r, xs = a :: b :: r := by
  match xs, h with
  | a :: b :: r, _ => exact ⟨a, b, r, rfl⟩
theorem bTr3 {w a b c : World} (h1 : Below w.heap.size w a) (h2 : Below a.heap.size a b) (h3 : Below b.heap.size b c) : Below w.heap.size w c := h1.trans ((h2.trans (h3.mono h2.size)).mono h1.size)
theorem row_cell {w : World} {g k : Nat} {t : ByteArray} {S : TypeId} (h : w.heap[g]? = some (.cells #[.string t, .string ⟨#[116, 119, 111]⟩, .string ⟨#[116, 104, 114, 101, 101, 32, 97, 110, 100, 32, 109, 111, 114, 101]⟩] S (0, 0))) (hk : k < 3) :
    ∃ x, (tsOf t)[k]? = some x ∧ w.cell? ⟨g, k, none⟩ = some (.string x) := by
  rcases (by omega : k = 0 ∨ k = 1 ∨ k = 2) with rfl | rfl | rfl
  · exact ⟨t, rfl, by rw [cell_of_row w g 0 _ _ (0, 0) h]; rfl⟩
  · exact ⟨twoT, rfl, by rw [cell_of_row w g 1 _ _ (0, 0) h]; rfl⟩
  · exact ⟨threeT, rfl, by rw [cell_of_row w g 2 _ _ (0, 0) h]; rfl⟩

theorem row_rd {w : World} {g : Nat} {t : ByteArray} {S : TypeId} (h : w.heap[g]? = some (.cells #[.string t, .string ⟨#[116, 119, 111]⟩, .string ⟨#[116, 104, 114, 101, 101, 32, 97, 110, 100, 32, 109, 111, 114, 101]⟩] S (0, 0))) (m : Nat) (hm : m ≤ 3) :
    RdV w (.slice (some ⟨g, 0, none⟩) m 3) (((tsOf t).take m).map Value.string) := by
  have hl : (((tsOf t).take m).map Value.string).length = m := by rw [List.length_map, List.length_take]; simp [tsOf]; omega
  by_cases h0 : m = 0
  · subst h0
    exact .inl ⟨_, _, rfl, rfl⟩
  · refine .inr ⟨g, 0, 3, by rw [hl], by omega, (Array.getElem?_eq_some_iff.1 h).1, ?_⟩
    intro j x hj
    have hjm : j < m := by
      rcases Nat.lt_or_ge j m with h' | h'
      · exact h'
      · rw [List.getElem?_eq_none (by omega)] at hj; cases hj
    obtain ⟨y, hy1, hy2⟩ := row_cell h (show j < 3 by omega)
    rw [List.getElem?_map, List.getElem?_take, if_pos hjm, hy1] at hj
    simp only [Option.map_some, Option.some.injEq] at hj
    subst hj
    rw [Nat.zero_add]
    exact hy2

set_option maxRecDepth 20000 in
set_option maxHeartbeats 1000000 in
theorem lawFrames_any (w : World) (o : Option Addr) (n c : Nat) (hs : Src w w.heap.size o n) (htab : Laid w) :
    Calls Tryd.prog 3 #[.slice o n c] w fun e w' => e = .returned (.bool true) ∧ Below w.heap.size w w' := by
  have HS := hide hs
  have HTab := hide htab
  obtain ⟨i0, hi, hz0, hz1, hz2⟩ := info_parts Tryd.infoIC
  clear hs htab
  by_cases hbig : (1048576 : Int) < (n : Int)
  · have hd : decide ((1048576 : Int) < (n : Int)) = true := by rw [decide_eq_true_iff]; exact hbig
    go_enter Tryd.func3, Tryd.ntmps3
    go_wp2_with (go_at_call 5; refine (big_any w o n c).mono ?_; rintro e w1 ⟨rfl, rfl⟩)
    go_ret
    exact ⟨rfl, Below.refl _ _⟩
  · have hd : decide ((1048576 : Int) < (n : Int)) = false := by rw [decide_eq_false_iff_not]; exact hbig
    have hn : n ≤ 1048576 := by omega
    go_enter Tryd.func3, Tryd.ntmps3
    go_wp2_with fail
    go_at_call 5
    refine (big_any w o n c).mono ?_
    rintro e w0 ⟨rfl, hw0⟩
    have hw0' := hw0.symm
    subst hw0'
    clear hw0
    go_wp2_with fail
    go_at_call 6
    refine (drawPlaces_any w o n c (unhide HS) hn).mono ?_
    rintro e w1 ⟨v, xs, hx12, hx, rfl, hown, hb1⟩
    have HS1 := hide (((unhide HS).below hb1 (Nat.le_refl _)).up hb1.size)
    obtain ⟨x0, x1, rest, rfl⟩ := two_of hx12
    obtain ⟨gp, cp, rfl⟩ := some_slice hown (by simp [ints])
    have hil : (ints (x0 :: x1 :: rest)).length = 12 := by simpa [ints] using hx12
    rw [hil] at hown ⊢
    have HP0 := hide (show w1.cell? ⟨gp, 0, none⟩ = some (.int .i64 (x0 : Int)) from hown.cell rfl)
    have hgp := (hown.lt gp rfl).2
    clear hil hx12 hown hx
    replace hb1 := hide hb1
    go_wp2_with fail
    go_at_call 7
    refine (drawHex_any w1 o n c (unhide HS1) hn).mono ?_
    rintro e w2 ⟨s, hss, rfl, hb2⟩
    replace hb2 := hide hb2
    by_cases hA : 1 ≤ s.size ∧ s.size ≤ 900
    · obtain ⟨hA1, hA2⟩ := hA
      have hA3 : ((s.size : Int) == 0) = false := by rw [beq_eq_false_iff_ne]; omega
      have hA4 : ¬ (900 : Int) < (s.size : Int) := by omega
      go_wp2_with fail
      obtain ⟨W3, e3, hL3, hE3, hb3, z3⟩ := two_rows w2 (.string s) (.string ⟨#[116, 119, 111]⟩) (.string ⟨#[116, 104, 114, 101, 101, 32, 97, 110, 100, 32, 109, 111, 114, 101]⟩) 9 3
      rw [e3]
      clear e3
      have HOK : Hid (okT s) := (⟨hA1, by omega⟩ : okT s)
      have H9 : Hid (s.size ≤ 900) := hA2
      have HB3 := hide (bTr3 (unhide hb1) (unhide hb2) hb3)
      have HB13 := hide ((unhide hb2).trans (hb3.mono (unhide hb2).size))
      have sw12 := (unhide hb2).size
      clear hb3
      go_loopw [5, 6, 7] (fun tf ve ti wr => ∃ k : Nat, k ≤ 3 ∧ tf = .string (fB ((tsOf s).take k)) ∧ ti = .int .i64 k ∧ OwnV wr (w2.heap.size + 1) 3 ve (ints (endsL s k)) ∧ wr.heap[w2.heap.size]? = some (.cells #[.string s, .string ⟨#[116, 119, 111]⟩, .string ⟨#[116, 104, 114, 101, 101, 32, 97, 110, 100, 32, 109, 111, 114, 101]⟩] 9 (0, 0)) ∧ Below (w2.heap.size + 1) W3 wr)
        (fun _ _ ti _ => 3 - (intOf ti).toNat)
      case atStart => exact ⟨0, Nat.zero_le _, rfl, rfl, hE3, hL3, Below.refl _ _⟩
      case round =>
        obtain ⟨k, hk, rfl, rfl, hE, hL, hbr⟩ := hrel
        clear hE3 hL3
        have hbw : Below w.heap.size w wr := (unhide HB3).trans (hbr.mono (by have := (unhide HB3).size; have := (unhide hb1).size; have := (unhide hb2).size; omega))
        have HLr := hide ((unhide HTab).below hbw)
        have szr := hbr.size
        by_cases hlt : k < 3
        · obtain ⟨x, hx1, hx2⟩ : ∃ x, (tsOf s)[k]? = some x ∧ wr.cell? ⟨w2.heap.size, k, none⟩ = some (.string x) := row_cell hL hlt
          have hxok := tsOf_ok (unhide HOK) x (List.mem_of_getElem? hx1)
          have CF := hide (implFrame_yes x wr hxok.1 hxok.2 (unhide HLr))
          have hnx := hide (fB_next hx1)
          have hs1 := frsL_le (unhide H9) k
          have hs2 := frsL_le (unhide H9) (k + 1)
          rw [← fB_size] at hs1 hs2
          have hs3 : (frameB x).size ≤ 2718 := by rw [← unhide hnx, ByteArray.size_append] at hs2; omega
          generalize hF : frameB x = f at CF hnx hs3
          clear hF
          obtain ⟨F, hFd⟩ : ∃ F, fB ((tsOf s).take k) = F := ⟨_, rfl⟩
          rw [hFd] at hs1 hnx ⊢
          have HFd := hide hFd
          clear hFd
          have hi0 : (0 : Int) ≤ (k : Int) := by omega
          have hi1 : (k : Int) < 3 := by omega
          have HE := hide hE
          clear hE
          have HX := hide hx1
          have HOKX := hide hxok
          clear hx1 hxok
          go_wp2_with (first
            | (go_at_call 8; refine (unhide CF).mono ?_; rintro e w4 ⟨rfl, hb4⟩; have hE4 := (unhide HE).below hb4; have hbq : Below (w2.heap.size + 1) wr w4 := hb4.mono (by omega); have sz4 := hb4.size)
            | (at_builtin; refine wpList_append_vals rfl (.tmp 57) (.tmp 60) 24 rfl (w2.heap.size + 1) (w2.heap.size + 1) 3 i0 _ 8 Tryd.underlying24 hi hz0 hz1 hz2 rfl _ (ints (endsL s k)) rfl hE4 _ [.int .i64 ((F.size : Int) + (f.size : Int))] rfl (by intro u hu; simp only [List.mem_singleton] at hu; subst hu; rfl) 1 1 rfl rfl (by rw [ints_len, endsL_len]; unfold maxLen; omega) (by rw [ints_len, endsL_len]; omega) (Nat.le_refl _) (by omega) hbq ?_; intro v5 w5 hE5 hb5))
          go_roundw
          case rel =>
            refine ⟨k + 1, by omega, by rw [unhide hnx], by go_num, ?_, ?_, hbr.trans hb5⟩
            · rw [endsL_next, ints_snoc]
              have : endAt s (k + 1) = F.size + f.size := by
                unfold endAt
                rw [← fB_size, ← unhide hnx, ByteArray.size_append]
              rw [this]
              push_cast
              exact hE5
            · exact (hb5.block _ (by omega)).trans hL
          case measure => simp [intOf]; omega
        · have hk3 : k = 3 := by omega
          subst hk3
          rw [show (tsOf s).take 3 = tsOf s from rfl]
          have hU := unf_whole (unhide HOK) (unhide H9)
          have CU := implUnframe_any (fB (tsOf s)) wr (unhide HLr)
          rw [hU, recs_vals, show recsAt 0 (tsOf s) = recsAt 0 ((tsOf s).take 3) from rfl, recs_last] at CU
          have hs3 := frsL_le (unhide H9) 3
          rw [show (tsOf s).take 3 = tsOf s from rfl, ← fB_size] at hs3
          have hE3 : endAt s 3 = (fB (tsOf s)).size := by rw [fB_size]; rfl
          have hcut := hide (fun k hk => unf_cut (unhide HOK) (unhide H9) k hk)
          obtain ⟨F, hF⟩ : ∃ F, fB (tsOf s) = F := ⟨_, rfl⟩
          rw [hF] at CU hs3 hE3 hcut ⊢
          clear hU hF
          have CU := hide CU
          have HE3 := hide hE3
          clear hE3
          have HE := hide hE
          clear hE
          go_wp2_with fail
          go_at_call 9
          refine (unhide CU).mono ?_
          rw [unhide HE3]
          rintro e w6 ⟨vb, rfl, ob, hb6⟩
          have hL6 := (hb6.block w2.heap.size (by omega)).trans hL
          have C6 := hide (sameTexts_any (tsOf s) vb (.slice (some ⟨w2.heap.size, 0, none⟩) 3 3) w6 ob.rdv (row_rd hL6 3 (Nat.le_refl _)) (by simp [tsOf]))
          have HL6 := hide hL6
          have s6 := hb6.size
          have hbw6 := hide (hbw.trans (hb6.mono hbw.size))
          have HE6 := hide ((unhide HE).below hb6)
          obtain ⟨ab, cb, rfl⟩ := ob.shape
          clear hL hbw ob hL6
          rw [show ((tsOf s).map Value.string).length = 3 from rfl] at *
          go_wp2_with fail
          go_at_call 10
          refine (unhide C6).mono ?_
          rintro e w7 ⟨rfl, hb7⟩
          have s7 := hb7.size
          have hbw7 := hide ((unhide hbw6).trans (hb7.mono (unhide hbw6).size))
          have HE7 := hide ((unhide HE6).below hb7)
          have HL7 := hide ((hb7.block w2.heap.size (by omega)).trans (unhide HL6))
          have HLd7 := hide ((unhide HTab).below (unhide hbw7))
          have hb17 : Below w1.heap.size w1 w7 := ((unhide HB13).trans (hbr.mono (by omega))).trans ((hb6.trans (hb7.mono s6)).mono (by omega))
          have hp0 := (hb17.cell (p := ⟨gp, 0, none⟩) hgp).trans (unhide HP0)
          obtain ⟨q, hq⟩ : ∃ q, x0 % (F.size + 1) = q := ⟨_, rfl⟩
          have hq4 : q < F.size + 1 := by rw [← hq]; exact Nat.mod_lt _ (by omega)
          have e5 : (x0 : Int).tmod ((F.size : Int) + 1) = (q : Int) := by rw [Int.tmod_eq_emod_of_nonneg (by omega), ← hq]; simp [Int.natCast_emod]
          clear hq
          have g1 : (0 : Int) ≤ (q : Int) := by omega
          have g2 : (q : Int) ≤ (F.size : Int) := by omega
          obtain ⟨m, m1, m2, m3, m4⟩ := (unhide hcut) q (by omega)
          obtain ⟨G, hG⟩ : ∃ G, F.extract 0 q = G := ⟨_, rfl⟩
          have CV := implUnframe_any G w7 (unhide HLd7)
          rw [← hG, m2, recs_vals, recs_last, hG] at CV
          have CV := hide CV
          clear m2 hcut hb17 hbr
          replace hb6 := hide hb6
          replace hb7 := hide hb7
          go_wp2_with fail
          go_at_call 9
          refine (unhide CV).mono ?_
          rintro e w8 ⟨vs, rfl, os, hb8⟩
          have s8 := hb8.size
          have hbw8 := hide ((unhide hbw7).trans (hb8.mono (unhide hbw7).size))
          have hE8 := (unhide HE7).below hb8
          have HL8 := hide ((hb8.block w2.heap.size (by omega)).trans (unhide HL7))
          have C8 := hide (sameTexts_any ((tsOf s).take m) vs (.slice (some ⟨w2.heap.size, 0, none⟩) m 3) w8 os.rdv (row_rd (unhide HL8) m m1) (by simp [tsOf]; omega))
          obtain ⟨a9, c9, rfl⟩ := os.shape
          have hlm : (((tsOf s).take m).map Value.string).length = m := by rw [List.length_map, List.length_take]; simp [tsOf]; omega
          rw [hlm] at C8 ⊢
          obtain ⟨ge, ce, rfl⟩ := some_slice hE8 (by simp [ints, endsL])
          rw [ints_len, endsL_len] at hE8 ⊢
          have k0 := hE8.cell (endsV_at s 3 0 (by omega))
          have k1 := hE8.cell (endsV_at s 3 1 (by omega))
          have k2 := hE8.cell (endsV_at s 3 2 (by omega))
          have k3 := hE8.cell (endsV_at s 3 3 (by omega))
          have hge := (hE8.lt ge rfl).2
          clear hE8 os hp0 hb8
          rcases (by omega : m = 0 ∨ m = 1 ∨ m = 2 ∨ m = 3) with rfl | rfl | rfl | rfl
          · have m3' : (endAt s 0 : Int) ≤ (q : Int) := by omega
            have m4' : (q : Int) < (endAt s 1 : Int) := by
              rcases m4 with h | h
              · omega
              · have h' : q < endAt s 1 := h
                omega
            go_wp2_with fail
            go_at_call 10
            refine (unhide C8).mono ?_
            rintro e w9 ⟨rfl, hb9⟩
            have k9 := (hb9.cell (p := ⟨ge, 1, none⟩) hge).trans k1
            have hbw9 := hide ((unhide hbw8).trans (hb9.mono (unhide hbw8).size))
            replace hb9 := hide hb9
            go_wp2
            go_ret
            exact ⟨rfl, unhide hbw9⟩
          · have m3' : (endAt s 1 : Int) ≤ (q : Int) := by omega
            have m4' : (q : Int) < (endAt s 2 : Int) := by
              rcases m4 with h | h
              · omega
              · have h' : q < endAt s 2 := h
                omega
            go_wp2_with fail
            go_at_call 10
            refine (unhide C8).mono ?_
            rintro e w9 ⟨rfl, hb9⟩
            have k9 := (hb9.cell (p := ⟨ge, 2, none⟩) hge).trans k2
            have hbw9 := hide ((unhide hbw8).trans (hb9.mono (unhide hbw8).size))
            replace hb9 := hide hb9
            go_wp2
            go_ret
            exact ⟨rfl, unhide hbw9⟩
          · have m3' : (endAt s 2 : Int) ≤ (q : Int) := by omega
            have m4' : (q : Int) < (endAt s 3 : Int) := by
              rcases m4 with h | h
              · omega
              · have h' : q < endAt s 3 := h
                omega
            go_wp2_with fail
            go_at_call 10
            refine (unhide C8).mono ?_
            rintro e w9 ⟨rfl, hb9⟩
            have k9 := (hb9.cell (p := ⟨ge, 3, none⟩) hge).trans k3
            have hbw9 := hide ((unhide hbw8).trans (hb9.mono (unhide hbw8).size))
            replace hb9 := hide hb9
            go_wp2
            go_ret
            exact ⟨rfl, unhide hbw9⟩
          · have m3' : (endAt s 3 : Int) ≤ (q : Int) := by omega
            go_wp2_with fail
            go_at_call 10
            refine (unhide C8).mono ?_
            rintro e w9 ⟨rfl, hb9⟩
            have hbw9 := hide ((unhide hbw8).trans (hb9.mono (unhide hbw8).size))
            replace hb9 := hide hb9
            go_wp2
            go_ret
            exact ⟨rfl, unhide hbw9⟩
    · by_cases h0 : s.size = 0
      · have hA3 : ((s.size : Int) == 0) = true := by rw [beq_iff_eq]; omega
        clear h0 hA
        go_wp2_with fail
        obtain ⟨W3, e3, hL3, hE3, hb3, z3⟩ := two_rows w2 (.string oneT) (.string ⟨#[116, 119, 111]⟩) (.string ⟨#[116, 104, 114, 101, 101, 32, 97, 110, 100, 32, 109, 111, 114, 101]⟩) 9 3
        unfold oneT at e3
        rw [e3]
        clear e3
        have HOK : Hid (okT oneT) := okT_one
        have H9 : Hid (oneT.size ≤ 900) := hide (show oneT.size ≤ 900 by decide)
        have HB3 := hide (bTr3 (unhide hb1) (unhide hb2) hb3)
        have HB13 := hide ((unhide hb2).trans (hb3.mono (unhide hb2).size))
        have sw12 := (unhide hb2).size
        clear hb3
        go_loopw [5, 6, 7] (fun tf ve ti wr => ∃ k : Nat, k ≤ 3 ∧ tf = .string (fB ((tsOf oneT).take k)) ∧ ti = .int .i64 k ∧ OwnV wr (w2.heap.size + 1) 3 ve (ints (endsL oneT k)) ∧ wr.heap[w2.heap.size]? = some (.cells #[.string oneT, .string ⟨#[116, 119, 111]⟩, .string ⟨#[116, 104, 114, 101, 101, 32, 97, 110, 100, 32, 109, 111, 114, 101]⟩] 9 (0, 0)) ∧ Below (w2.heap.size + 1) W3 wr)
          (fun _ _ ti _ => 3 - (intOf ti).toNat)
        case atStart => exact ⟨0, Nat.zero_le _, rfl, rfl, hE3, hL3, Below.refl _ _⟩
        case round =>
          obtain ⟨k, hk, rfl, rfl, hE, hL, hbr⟩ := hrel
          clear hE3 hL3
          have hbw : Below w.heap.size w wr := (unhide HB3).trans (hbr.mono (by have := (unhide HB3).size; have := (unhide hb1).size; have := (unhide hb2).size; omega))
          have HLr := hide ((unhide HTab).below hbw)
          have szr := hbr.size
          by_cases hlt : k < 3
          · obtain ⟨x, hx1, hx2⟩ : ∃ x, (tsOf oneT)[k]? = some x ∧ wr.cell? ⟨w2.heap.size, k, none⟩ = some (.string x) := row_cell hL hlt
            have hxok := tsOf_ok (unhide HOK) x (List.mem_of_getElem? hx1)
            have CF := hide (implFrame_yes x wr hxok.1 hxok.2 (unhide HLr))
            have hnx := hide (fB_next hx1)
            have hs1 := frsL_le (unhide H9) k
            have hs2 := frsL_le (unhide H9) (k + 1)
            rw [← fB_size] at hs1 hs2
            have hs3 : (frameB x).size ≤ 2718 := by rw [← unhide hnx, ByteArray.size_append] at hs2; omega
            generalize hF : frameB x = f at CF hnx hs3
            clear hF
            obtain ⟨F, hFd⟩ : ∃ F, fB ((tsOf oneT).take k) = F := ⟨_, rfl⟩
            rw [hFd] at hs1 hnx ⊢
            have HFd := hide hFd
            clear hFd
            have hi0 : (0 : Int) ≤ (k : Int) := by omega
            have hi1 : (k : Int) < 3 := by omega
            have HE := hide hE
            clear hE
            have HX := hide hx1
            have HOKX := hide hxok
            clear hx1 hxok
            go_wp2_with (first
              | (go_at_call 8; refine (unhide CF).mono ?_; rintro e w4 ⟨rfl, hb4⟩; have hE4 := (unhide HE).below hb4; have hbq : Below (w2.heap.size + 1) wr w4 := hb4.mono (by omega); have sz4 := hb4.size)
              | (at_builtin; refine wpList_append_vals rfl (.tmp 57) (.tmp 60) 24 rfl (w2.heap.size + 1) (w2.heap.size + 1) 3 i0 _ 8 Tryd.underlying24 hi hz0 hz1 hz2 rfl _ (ints (endsL oneT k)) rfl hE4 _ [.int .i64 ((F.size : Int) + (f.size : Int))] rfl (by intro u hu; simp only [List.mem_singleton] at hu; subst hu; rfl) 1 1 rfl rfl (by rw [ints_len, endsL_len]; unfold maxLen; omega) (by rw [ints_len, endsL_len]; omega) (Nat.le_refl _) (by omega) hbq ?_; intro v5 w5 hE5 hb5))
            go_roundw
            case rel =>
              refine ⟨k + 1, by omega, by rw [unhide hnx], by go_num, ?_, ?_, hbr.trans hb5⟩
              · rw [endsL_next, ints_snoc]
                have : endAt oneT (k + 1) = F.size + f.size := by
                  unfold endAt
                  rw [← fB_size, ← unhide hnx, ByteArray.size_append]
                rw [this]
                push_cast
                exact hE5
              · exact (hb5.block _ (by omega)).trans hL
            case measure => simp [intOf]; omega
          · have hk3 : k = 3 := by omega
            subst hk3
            rw [show (tsOf oneT).take 3 = tsOf oneT from rfl]
            have hU := unf_whole (unhide HOK) (unhide H9)
            have CU := implUnframe_any (fB (tsOf oneT)) wr (unhide HLr)
            rw [hU, recs_vals, show recsAt 0 (tsOf oneT) = recsAt 0 ((tsOf oneT).take 3) from rfl, recs_last] at CU
            have hs3 := frsL_le (unhide H9) 3
            rw [show (tsOf oneT).take 3 = tsOf oneT from rfl, ← fB_size] at hs3
            have hE3 : endAt oneT 3 = (fB (tsOf oneT)).size := by rw [fB_size]; rfl
            have hcut := hide (fun k hk => unf_cut (unhide HOK) (unhide H9) k hk)
            obtain ⟨F, hF⟩ : ∃ F, fB (tsOf oneT) = F := ⟨_, rfl⟩
            rw [hF] at CU hs3 hE3 hcut ⊢
            clear hU hF
            have CU := hide CU
            have HE3 := hide hE3
            clear hE3
            have HE := hide hE
            clear hE
            go_wp2_with fail
            go_at_call 9
            refine (unhide CU).mono ?_
            rw [unhide HE3]
            rintro e w6 ⟨vb, rfl, ob, hb6⟩
            have hL6 := (hb6.block w2.heap.size (by omega)).trans hL
            have C6 := hide (sameTexts_any (tsOf oneT) vb (.slice (some ⟨w2.heap.size, 0, none⟩) 3 3) w6 ob.rdv (row_rd hL6 3 (Nat.le_refl _)) (by simp [tsOf]))
            have HL6 := hide hL6
            have s6 := hb6.size
            have hbw6 := hide (hbw.trans (hb6.mono hbw.size))
            have HE6 := hide ((unhide HE).below hb6)
            obtain ⟨ab, cb, rfl⟩ := ob.shape
            clear hL hbw ob hL6
            rw [show ((tsOf oneT).map Value.string).length = 3 from rfl] at *
            go_wp2_with fail
            go_at_call 10
            refine (unhide C6).mono ?_
            rintro e w7 ⟨rfl, hb7⟩
            have s7 := hb7.size
            have hbw7 := hide ((unhide hbw6).trans (hb7.mono (unhide hbw6).size))
            have HE7 := hide ((unhide HE6).below hb7)
            have HL7 := hide ((hb7.block w2.heap.size (by omega)).trans (unhide HL6))
            have HLd7 := hide ((unhide HTab).below (unhide hbw7))
            have hb17 : Below w1.heap.size w1 w7 := ((unhide HB13).trans (hbr.mono (by omega))).trans ((hb6.trans (hb7.mono s6)).mono (by omega))
            have hp0 := (hb17.cell (p := ⟨gp, 0, none⟩) hgp).trans (unhide HP0)
            obtain ⟨q, hq⟩ : ∃ q, x0 % (F.size + 1) = q := ⟨_, rfl⟩
            have hq4 : q < F.size + 1 := by rw [← hq]; exact Nat.mod_lt _ (by omega)
            have e5 : (x0 : Int).tmod ((F.size : Int) + 1) = (q : Int) := by rw [Int.tmod_eq_emod_of_nonneg (by omega), ← hq]; simp [Int.natCast_emod]
            clear hq
            have g1 : (0 : Int) ≤ (q : Int) := by omega
            have g2 : (q : Int) ≤ (F.size : Int) := by omega
            obtain ⟨m, m1, m2, m3, m4⟩ := (unhide hcut) q (by omega)
            obtain ⟨G, hG⟩ : ∃ G, F.extract 0 q = G := ⟨_, rfl⟩
            have CV := implUnframe_any G w7 (unhide HLd7)
            rw [← hG, m2, recs_vals, recs_last, hG] at CV
            have CV := hide CV
            clear m2 hcut hb17 hbr
            replace hb6 := hide hb6
            replace hb7 := hide hb7
            go_wp2_with fail
            go_at_call 9
            refine (unhide CV).mono ?_
            rintro e w8 ⟨vs, rfl, os, hb8⟩
            have s8 := hb8.size
            have hbw8 := hide ((unhide hbw7).trans (hb8.mono (unhide hbw7).size))
            have hE8 := (unhide HE7).below hb8
            have HL8 := hide ((hb8.block w2.heap.size (by omega)).trans (unhide HL7))
            have C8 := hide (sameTexts_any ((tsOf oneT).take m) vs (.slice (some ⟨w2.heap.size, 0, none⟩) m 3) w8 os.rdv (row_rd (unhide HL8) m m1) (by simp [tsOf]; omega))
            obtain ⟨a9, c9, rfl⟩ := os.shape
            have hlm : (((tsOf oneT).take m).map Value.string).length = m := by rw [List.length_map, List.length_take]; simp [tsOf]; omega
            rw [hlm] at C8 ⊢
            obtain ⟨ge, ce, rfl⟩ := some_slice hE8 (by simp [ints, endsL])
            rw [ints_len, endsL_len] at hE8 ⊢
            have k0 := hE8.cell (endsV_at oneT 3 0 (by omega))
            have k1 := hE8.cell (endsV_at oneT 3 1 (by omega))
            have k2 := hE8.cell (endsV_at oneT 3 2 (by omega))
            have k3 := hE8.cell (endsV_at oneT 3 3 (by omega))
            have hge := (hE8.lt ge rfl).2
            clear hE8 os hp0 hb8
            rcases (by omega : m = 0 ∨ m = 1 ∨ m = 2 ∨ m = 3) with rfl | rfl | rfl | rfl
            · have m3' : (endAt oneT 0 : Int) ≤ (q : Int) := by omega
              have m4' : (q : Int) < (endAt oneT 1 : Int) := by
                rcases m4 with h | h
                · omega
                · have h' : q < endAt oneT 1 := h
                  omega
              go_wp2_with fail
              go_at_call 10
              refine (unhide C8).mono ?_
              rintro e w9 ⟨rfl, hb9⟩
              have k9 := (hb9.cell (p := ⟨ge, 1, none⟩) hge).trans k1
              have hbw9 := hide ((unhide hbw8).trans (hb9.mono (unhide hbw8).size))
              replace hb9 := hide hb9
              go_wp2
              go_ret
              exact ⟨rfl, unhide hbw9⟩
            · have m3' : (endAt oneT 1 : Int) ≤ (q : Int) := by omega
              have m4' : (q : Int) < (endAt oneT 2 : Int) := by
                rcases m4 with h | h
                · omega
                · have h' : q < endAt oneT 2 := h
                  omega
              go_wp2_with fail
              go_at_call 10
              refine (unhide C8).mono ?_
              rintro e w9 ⟨rfl, hb9⟩
              have k9 := (hb9.cell (p := ⟨ge, 2, none⟩) hge).trans k2
              have hbw9 := hide ((unhide hbw8).trans (hb9.mono (unhide hbw8).size))
              replace hb9 := hide hb9
              go_wp2
              go_ret
              exact ⟨rfl, unhide hbw9⟩
            · have m3' : (endAt oneT 2 : Int) ≤ (q : Int) := by omega
              have m4' : (q : Int) < (endAt oneT 3 : Int) := by
                rcases m4 with h | h
                · omega
                · have h' : q < endAt oneT 3 := h
                  omega
              go_wp2_with fail
              go_at_call 10
              refine (unhide C8).mono ?_
              rintro e w9 ⟨rfl, hb9⟩
              have k9 := (hb9.cell (p := ⟨ge, 3, none⟩) hge).trans k3
              have hbw9 := hide ((unhide hbw8).trans (hb9.mono (unhide hbw8).size))
              replace hb9 := hide hb9
              go_wp2
              go_ret
              exact ⟨rfl, unhide hbw9⟩
            · have m3' : (endAt oneT 3 : Int) ≤ (q : Int) := by omega
              go_wp2_with fail
              go_at_call 10
              refine (unhide C8).mono ?_
              rintro e w9 ⟨rfl, hb9⟩
              have hbw9 := hide ((unhide hbw8).trans (hb9.mono (unhide hbw8).size))
              replace hb9 := hide hb9
              go_wp2
              go_ret
              exact ⟨rfl, unhide hbw9⟩
      · have hA3 : ((s.size : Int) == 0) = false := by rw [beq_eq_false_iff_ne]; omega
        have hA4 : (900 : Int) < (s.size : Int) := by omega
        clear h0 hA
        go_wp2_with fail
        obtain ⟨W3, e3, hL3, hE3, hb3, z3⟩ := two_rows w2 (.string oneT) (.string ⟨#[116, 119, 111]⟩) (.string ⟨#[116, 104, 114, 101, 101, 32, 97, 110, 100, 32, 109, 111, 114, 101]⟩) 9 3
        unfold oneT at e3
        rw [e3]
        clear e3
        have HOK : Hid (okT oneT) := okT_one
        have H9 : Hid (oneT.size ≤ 900) := hide (show oneT.size ≤ 900 by decide)
        have HB3 := hide (bTr3 (unhide hb1) (unhide hb2) hb3)
        have HB13 := hide ((unhide hb2).trans (hb3.mono (unhide hb2).size))
        have sw12 := (unhide hb2).size
        clear hb3
        go_loopw [5, 6, 7] (fun tf ve ti wr => ∃ k : Nat, k ≤ 3 ∧ tf = .string (fB ((tsOf oneT).take k)) ∧ ti = .int .i64 k ∧ OwnV wr (w2.heap.size + 1) 3 ve (ints (endsL oneT k)) ∧ wr.heap[w2.heap.size]? = some (.cells #[.string oneT, .string ⟨#[116, 119, 111]⟩, .string ⟨#[116, 104, 114, 101, 101, 32, 97, 110, 100, 32, 109, 111, 114, 101]⟩] 9 (0, 0)) ∧ Below (w2.heap.size + 1) W3 wr)
          (fun _ _ ti _ => 3 - (intOf ti).toNat)
        case atStart => exact ⟨0, Nat.zero_le _, rfl, rfl, hE3, hL3, Below.refl _ _⟩
        case round =>
          obtain ⟨k, hk, rfl, rfl, hE, hL, hbr⟩ := hrel
          clear hE3 hL3
          have hbw : Below w.heap.size w wr := (unhide HB3).trans (hbr.mono (by have := (unhide HB3).size; have := (unhide hb1).size; have := (unhide hb2).size; omega))
          have HLr := hide ((unhide HTab).below hbw)
          have szr := hbr.size
          by_cases hlt : k < 3
          · obtain ⟨x, hx1, hx2⟩ : ∃ x, (tsOf oneT)[k]? = some x ∧ wr.cell? ⟨w2.heap.size, k, none⟩ = some (.string x) := row_cell hL hlt
            have hxok := tsOf_ok (unhide HOK) x (List.mem_of_getElem? hx1)
            have CF := hide (implFrame_yes x wr hxok.1 hxok.2 (unhide HLr))
            have hnx := hide (fB_next hx1)
            have hs1 := frsL_le (unhide H9) k
            have hs2 := frsL_le (unhide H9) (k + 1)
            rw [← fB_size] at hs1 hs2
            have hs3 : (frameB x).size ≤ 2718 := by rw [← unhide hnx, ByteArray.size_append] at hs2; omega
            generalize hF : frameB x = f at CF hnx hs3
            clear hF
            obtain ⟨F, hFd⟩ : ∃ F, fB ((tsOf oneT).take k) = F := ⟨_, rfl⟩
            rw [hFd] at hs1 hnx ⊢
            have HFd := hide hFd
            clear hFd
            have hi0 : (0 : Int) ≤ (k : Int) := by omega
            have hi1 : (k : Int) < 3 := by omega
            have HE := hide hE
            clear hE
            have HX := hide hx1
            have HOKX := hide hxok
            clear hx1 hxok
            go_wp2_with (first
              | (go_at_call 8; refine (unhide CF).mono ?_; rintro e w4 ⟨rfl, hb4⟩; have hE4 := (unhide HE).below hb4; have hbq : Below (w2.heap.size + 1) wr w4 := hb4.mono (by omega); have sz4 := hb4.size)
              | (at_builtin; refine wpList_append_vals rfl (.tmp 57) (.tmp 60) 24 rfl (w2.heap.size + 1) (w2.heap.size + 1) 3 i0 _ 8 Tryd.underlying24 hi hz0 hz1 hz2 rfl _ (ints (endsL oneT k)) rfl hE4 _ [.int .i64 ((F.size : Int) + (f.size : Int))] rfl (by intro u hu; simp only [List.mem_singleton] at hu; subst hu; rfl) 1 1 rfl rfl (by rw [ints_len, endsL_len]; unfold maxLen; omega) (by rw [ints_len, endsL_len]; omega) (Nat.le_refl _) (by omega) hbq ?_; intro v5 w5 hE5 hb5))
            go_roundw
            case rel =>
              refine ⟨k + 1, by omega, by rw [unhide hnx], by go_num, ?_, ?_, hbr.trans hb5⟩
              · rw [endsL_next, ints_snoc]
                have : endAt oneT (k + 1) = F.size + f.size := by
                  unfold endAt
                  rw [← fB_size, ← unhide hnx, ByteArray.size_append]
                rw [this]
                push_cast
                exact hE5
              · exact (hb5.block _ (by omega)).trans hL
            case measure => simp [intOf]; omega
          · have hk3 : k = 3 := by omega
            subst hk3
            rw [show (tsOf oneT).take 3 = tsOf oneT from rfl]
            have hU := unf_whole (unhide HOK) (unhide H9)
            have CU := implUnframe_any (fB (tsOf oneT)) wr (unhide HLr)
            rw [hU, recs_vals, show recsAt 0 (tsOf oneT) = recsAt 0 ((tsOf oneT).take 3) from rfl, recs_last] at CU
            have hs3 := frsL_le (unhide H9) 3
            rw [show (tsOf oneT).take 3 = tsOf oneT from rfl, ← fB_size] at hs3
            have hE3 : endAt oneT 3 = (fB (tsOf oneT)).size := by rw [fB_size]; rfl
            have hcut := hide (fun k hk => unf_cut (unhide HOK) (unhide H9) k hk)
            obtain ⟨F, hF⟩ : ∃ F, fB (tsOf oneT) = F := ⟨_, rfl⟩
            rw [hF] at CU hs3 hE3 hcut ⊢
            clear hU hF
            have CU := hide CU
            have HE3 := hide hE3
            clear hE3
            have HE := hide hE
            clear hE
            go_wp2_with fail
            go_at_call 9
            refine (unhide CU).mono ?_
            rw [unhide HE3]
            rintro e w6 ⟨vb, rfl, ob, hb6⟩
            have hL6 := (hb6.block w2.heap.size (by omega)).trans hL
            have C6 := hide (sameTexts_any (tsOf oneT) vb (.slice (some ⟨w2.heap.size, 0, none⟩) 3 3) w6 ob.rdv (row_rd hL6 3 (Nat.le_refl _)) (by simp [tsOf]))
            have HL6 := hide hL6
            have s6 := hb6.size
            have hbw6 := hide (hbw.trans (hb6.mono hbw.size))
            have HE6 := hide ((unhide HE).below hb6)
            obtain ⟨ab, cb, rfl⟩ := ob.shape
            clear hL hbw ob hL6
            rw [show ((tsOf oneT).map Value.string).length = 3 from rfl] at *
            go_wp2_with fail
            go_at_call 10
            refine (unhide C6).mono ?_
            rintro e w7 ⟨rfl, hb7⟩
            have s7 := hb7.size
            have hbw7 := hide ((unhide hbw6).trans (hb7.mono (unhide hbw6).size))
            have HE7 := hide ((unhide HE6).below hb7)
            have HL7 := hide ((hb7.block w2.heap.size (by omega)).trans (unhide HL6))
            have HLd7 := hide ((unhide HTab).below (unhide hbw7))
            have hb17 : Below w1.heap.size w1 w7 := ((unhide HB13).trans (hbr.mono (by omega))).trans ((hb6.trans (hb7.mono s6)).mono (by omega))
            have hp0 := (hb17.cell (p := ⟨gp, 0, none⟩) hgp).trans (unhide HP0)
            obtain ⟨q, hq⟩ : ∃ q, x0 % (F.size + 1) = q := ⟨_, rfl⟩
            have hq4 : q < F.size + 1 := by rw [← hq]; exact Nat.mod_lt _ (by omega)
            have e5 : (x0 : Int).tmod ((F.size : Int) + 1) = (q : Int) := by rw [Int.tmod_eq_emod_of_nonneg (by omega), ← hq]; simp [Int.natCast_emod]
            clear hq
            have g1 : (0 : Int) ≤ (q : Int) := by omega
            have g2 : (q : Int) ≤ (F.size : Int) := by omega
            obtain ⟨m, m1, m2, m3, m4⟩ := (unhide hcut) q (by omega)
            obtain ⟨G, hG⟩ : ∃ G, F.extract 0 q = G := ⟨_, rfl⟩
            have CV := implUnframe_any G w7 (unhide HLd7)
            rw [← hG, m2, recs_vals, recs_last, hG] at CV
            have CV := hide CV
            clear m2 hcut hb17 hbr
            replace hb6 := hide hb6
            replace hb7 := hide hb7
            go_wp2_with fail
            go_at_call 9
            refine (unhide CV).mono ?_
            rintro e w8 ⟨vs, rfl, os, hb8⟩
            have s8 := hb8.size
            have hbw8 := hide ((unhide hbw7).trans (hb8.mono (unhide hbw7).size))
            have hE8 := (unhide HE7).below hb8
            have HL8 := hide ((hb8.block w2.heap.size (by omega)).trans (unhide HL7))
            have C8 := hide (sameTexts_any ((tsOf oneT).take m) vs (.slice (some ⟨w2.heap.size, 0, none⟩) m 3) w8 os.rdv (row_rd (unhide HL8) m m1) (by simp [tsOf]; omega))
            obtain ⟨a9, c9, rfl⟩ := os.shape
            have hlm : (((tsOf oneT).take m).map Value.string).length = m := by rw [List.length_map, List.length_take]; simp [tsOf]; omega
            rw [hlm] at C8 ⊢
            obtain ⟨ge, ce, rfl⟩ := some_slice hE8 (by simp [ints, endsL])
            rw [ints_len, endsL_len] at hE8 ⊢
            have k0 := hE8.cell (endsV_at oneT 3 0 (by omega))
            have k1 := hE8.cell (endsV_at oneT 3 1 (by omega))
            have k2 := hE8.cell (endsV_at oneT 3 2 (by omega))
            have k3 := hE8.cell (endsV_at oneT 3 3 (by omega))
            have hge := (hE8.lt ge rfl).2
            clear hE8 os hp0 hb8
            rcases (by omega : m = 0 ∨ m = 1 ∨ m = 2 ∨ m = 3) with rfl | rfl | rfl | rfl
            · have m3' : (endAt oneT 0 : Int) ≤ (q : Int) := by omega
              have m4' : (q : Int) < (endAt oneT 1 : Int) := by
                rcases m4 with h | h
                · omega
                · have h' : q < endAt oneT 1 := h
                  omega
              go_wp2_with fail
              go_at_call 10
              refine (unhide C8).mono ?_
              rintro e w9 ⟨rfl, hb9⟩
              have k9 := (hb9.cell (p := ⟨ge, 1, none⟩) hge).trans k1
              have hbw9 := hide ((unhide hbw8).trans (hb9.mono (unhide hbw8).size))
              replace hb9 := hide hb9
              go_wp2
              go_ret
              exact ⟨rfl, unhide hbw9⟩
            · have m3' : (endAt oneT 1 : Int) ≤ (q : Int) := by omega
              have m4' : (q : Int) < (endAt oneT 2 : Int) := by
                rcases m4 with h | h
                · omega
                · have h' : q < endAt oneT 2 := h
                  omega
              go_wp2_with fail
              go_at_call 10
              refine (unhide C8).mono ?_
              rintro e w9 ⟨rfl, hb9⟩
              have k9 := (hb9.cell (p := ⟨ge, 2, none⟩) hge).trans k2
              have hbw9 := hide ((unhide hbw8).trans (hb9.mono (unhide hbw8).size))
              replace hb9 := hide hb9
              go_wp2
              go_ret
              exact ⟨rfl, unhide hbw9⟩
            · have m3' : (endAt oneT 2 : Int) ≤ (q : Int) := by omega
              have m4' : (q : Int) < (endAt oneT 3 : Int) := by
                rcases m4 with h | h
                · omega
                · have h' : q < endAt oneT 3 := h
                  omega
              go_wp2_with fail
              go_at_call 10
              refine (unhide C8).mono ?_
              rintro e w9 ⟨rfl, hb9⟩
              have k9 := (hb9.cell (p := ⟨ge, 3, none⟩) hge).trans k3
              have hbw9 := hide ((unhide hbw8).trans (hb9.mono (unhide hbw8).size))
              replace hb9 := hide hb9
              go_wp2
              go_ret
              exact ⟨rfl, unhide hbw9⟩
            · have m3' : (endAt oneT 3 : Int) ≤ (q : Int) := by omega
              go_wp2_with fail
              go_at_call 10
              refine (unhide C8).mono ?_
              rintro e w9 ⟨rfl, hb9⟩
              have hbw9 := hide ((unhide hbw8).trans (hb9.mono (unhide hbw8).size))
              replace hb9 := hide hb9
              go_wp2
              go_ret
              exact ⟨rfl, unhide hbw9⟩

end Go.Proofs.YtkbbcjnickgfjaaDoor
