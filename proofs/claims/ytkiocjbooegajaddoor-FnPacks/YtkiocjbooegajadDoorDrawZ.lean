/- Three drawn polynomials; rows of numbers held against each other, over the loaded program. -/
import Derived.Test.YtkiocjbooegajadDoorDrawY
import Derived.Deep.QuietTactic
import Derived.BigQuiet
namespace Go.Proofs.YtkiocjbooegajadDoor
open Go.RowKit
set_option maxRecDepth 20000 in
set_option maxHeartbeats 400000 in
theorem drawPolys_any (w : World) (o : Option Addr) (n c : Nat) (hs : Src w w.heap.size o n) (hn : n ≤ 1048576) :
    Calls Tryd.prog 12 #[.slice o n c] w fun e w' => ∃ (la lb lc : List Int) (va vb vc : Value), okPl la = true ∧ okPl lb = true ∧ okPl lc = true ∧ e = .returned (.tuple #[va, vb, vc]) ∧ RdV w' va (la.map iv) ∧ RdV w' vb (lb.map iv) ∧ RdV w' vc (lc.map iv) ∧ Hid (CapV va ∧ CapV vb ∧ CapV vc) ∧ Below w.heap.size w w' := by
  have HS := hide hs
  clear hs
  go_enter Tryd.func12, Tryd.ntmps12
  go_wp2_with fail
  refine (l01New_any w o n c (unhide HS) hn).mono ?_
  rintro e w1 ⟨rfl, hb1, hc1⟩
  obtain ⟨g, hg⟩ : ∃ g, g = w.heap.size := ⟨_, rfl⟩
  rw [← hg] at hc1 hb1 ⊢
  have hg1 := hc1.lt
  have hgle : w.heap.size ≤ g := by omega
  clear HS hg
  go_wp2_with fail
  refine (l09Poly_any hc1 hn).mono ?_
  rintro e w2 ⟨⟨la, va, oka, rfl, oa⟩, hg2, hc2⟩
  have ra2 := oa.rdv
  have ka := hide oa.capv
  have ba := fun k hk => (World.ownsRow.lt oa k hk).1
  have hb2 := hb1.trans (gBelow hg2 (B := g) (by omega) (fun k hk => by cases hk; exact Nat.le_refl _))
  have z2 := hg2.size
  clear hc1 oa hb1 hg2
  go_wp2_with fail
  refine (l09Poly_any hc2 hn).mono ?_
  rintro e w3 ⟨⟨lb, vb, okb, rfl, ob⟩, hg3, hc3⟩
  have rb3 := ob.rdv
  have kb := hide ob.capv
  have bb := fun k hk => (World.ownsRow.lt ob k hk).1
  have ra3 := ra2.grown hg3 (fun k hk h => by have := ba k hk; cases h; omega)
  have hb3 := hb2.trans (gBelow hg3 (B := g) (by omega) (fun k hk => by cases hk; exact Nat.le_refl _))
  have z3 := hg3.size
  clear hc2 ob hb2 hg3 ra2
  go_wp2_with fail
  refine (l09Poly_any hc3 hn).mono ?_
  rintro e w4 ⟨⟨lc, vc, okc, rfl, oc⟩, hg4, hc4⟩
  have rc4 := oc.rdv
  have kc := hide oc.capv
  have ra4 := ra3.grown hg4 (fun k hk h => by have := ba k hk; cases h; omega)
  have rb4 := rb3.grown hg4 (fun k hk h => by have := bb k hk; cases h; omega)
  have hb4 := hb3.trans (gBelow hg4 (B := g) (by omega) (fun k hk => by cases hk; exact Nat.le_refl _))
  clear hc3 oc hb3 hg4 ra3 rb3 hc4
  go_wp2
  refine bodyPost_ret (v := .tuple #[va, vb, vc]) (by simp [results, Tryd.results12, go_sem]) rfl ⟨la, lb, lc, va, vb, vc, oka, okb, okc, rfl, ra4, rb4, rc4, hide ⟨unhide ka, unhide kb, unhide kc⟩, hb4.mono hgle⟩
theorem take_eq_next {a b : List Int} {k : Nat} (ha : k < a.length) (hb : k < b.length) (h : a.take k = b.take k) (he : cAt a k = cAt b k) : a.take (k + 1) = b.take (k + 1) := by
  rw [cAt_lt ha, cAt_lt hb] at he
  rw [List.take_add_one, List.take_add_one, h, List.getElem?_eq_getElem ha, List.getElem?_eq_getElem hb, he]
set_option maxRecDepth 20000 in
set_option maxHeartbeats 400000 in
theorem sameInts_any (a b : List Int) (hn2 : b.length ≤ 2000000) (va vb : Value) (w : World) (ra : RdV w va (a.map iv)) (rb : RdV w vb (b.map iv)) :
    Calls Tryd.prog 9 #[va, vb] w fun e w' => e = .returned (.bool (decide (a = b))) ∧ Below w.heap.size w w' := by
  obtain ⟨a1, c1, rfl, hc1⟩ := ra.open
  obtain ⟨a2, c2, rfl, hc2⟩ := rb.open
  clear ra rb
  rw [List.length_map, List.length_map]
  by_cases hl : a.length = b.length
  · obtain ⟨n, hnn⟩ : ∃ n, b.length = n := ⟨_, rfl⟩
    rw [hl, hnn]
    rw [hnn] at hn2
    have hna := hide (hl.trans hnn)
    replace hnn := hide hnn
    replace hl := hide hl
    go_enter Tryd.func9, Tryd.ntmps9
    go_wp2
    go_loopw [5] (fun ti wr => ∃ k q : Nat, k ≤ n ∧ ti = .int .i64 k ∧ wr = w.drewN q ∧ Hid (a.take k = b.take k)) (fun ti _ => n - (intOf ti).toNat)
    case atStart => exact ⟨0, 0, Nat.zero_le _, rfl, rfl, hide rfl⟩
    case round =>
      obtain ⟨k, q, hk, rfl, rfl, HT⟩ := hrel
      by_cases hlt : k < n
      · have hka : k < a.length := by rw [unhide hna]; exact hlt
        have hkb : k < b.length := by rw [unhide hnn]; exact hlt
        obtain ⟨g1, o1, rfl, hg1, d1⟩ := hc1 k _ (get_iv a k hka)
        obtain ⟨g2, o2, rfl, hg2, d2⟩ := hc2 k _ (get_iv b k hkb)
        have hi0 : (0 : Int) ≤ (k : Int) := by omega
        have hi1 : (k : Int) < (n : Int) := by omega
        by_cases he : cAt a k = cAt b k
        · have HT2 := hide (take_eq_next hka hkb (unhide HT) he)
          rw [he] at d1
          generalize cAt b k = y at d1 d2
          clear hc1 hc2 HT he hka hkb
          go_wp2
          go_quiet (fail)
          go_wp2
          go_roundw
          case rel => exact ⟨k + 1, _, by omega, by go_num, by first | rfl | rw [World.drewN_drewN], HT2⟩
          case measure => simp [intOf]; omega
        · have E := hide (show decide (a = b) = false by rw [decide_eq_false_iff_not]; intro h; exact he (by rw [h]))
          have he' : (cAt a k == cAt b k) = false := by rw [beq_eq_false_iff_ne]; exact he
          generalize cAt a k = x at d1 he he'
          generalize cAt b k = y at d2 he he'
          clear hc1 hc2 HT hka hkb
          go_wp2
          go_quiet (fail)
          go_wp2
          go_ret
          exact ⟨by rw [unhide E]; rfl, bDN (bDN (Below.refl _ w) _) _⟩
      · have hke : k = n := by omega
        have E := hide (show decide (a = b) = true by
          rw [decide_eq_true_iff]
          have h := unhide HT
          rw [List.take_of_length_le (by rw [unhide hna]; omega), List.take_of_length_le (by rw [unhide hnn]; omega)] at h
          exact h)
        replace hke := hide hke
        clear hc1 hc2 HT
        go_wp2
        go_ret
        exact ⟨by rw [unhide E]; rfl, bDN (Below.refl _ w) _⟩
  · have E := hide (show decide (a = b) = false by rw [decide_eq_false_iff_not]; intro h; exact hl (by rw [h]))
    have hl' : ((a.length : Int) == (b.length : Int)) = false := by rw [beq_eq_false_iff_ne]; omega
    have hl2 : ¬ (a.length : Int) = (b.length : Int) := by omega
    generalize a.length = na at *
    generalize b.length = nb at *
    go_enter Tryd.func9, Tryd.ntmps9
    go_wp2
    go_ret
    exact ⟨by rw [unhide E]; rfl, Below.refl _ _⟩
end Go.Proofs.YtkiocjbooegajadDoor
