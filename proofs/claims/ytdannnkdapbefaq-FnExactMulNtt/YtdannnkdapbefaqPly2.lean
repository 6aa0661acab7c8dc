/- Polynomials by the given model: how far two are apart; sums and differences, over the loaded program. -/
import Derived.Test.YtdannnkdapbefaqPly1
import Derived.Deep.RegionHeld3
import Derived.Deep.QuietTactic
import Derived.BigQuiet
namespace Go.Proofs.Ytdannnkdapbefaq
open Go.RowKit
theorem bothP_no1 {a b : List Int} (h : okPl a = false) : bothP a b = false := by unfold bothP; rw [h]; rfl
theorem bothP_no2 {a b : List Int} (h : okPl b = false) : bothP a b = false := by unfold bothP; rw [h]; exact Bool.and_false _
set_option maxRecDepth 20000 in
set_option maxHeartbeats 400000 in
theorem specFar_any (a b : List Int) (va vb : Value) (w : World) (ra : RdV w va (a.map iv)) (rb : RdV w vb (b.map iv)) :
    Calls Try.prog 7 #[va, vb] w fun e w' => e = .returned (.int .i64 (farL a b)) ∧ Below w.heap.size w w' := by
  have CA := hide (specPolyOk_any a va w ra)
  have CB := hide (specPolyOk_any b vb w rb)
  by_cases ha : okPl a = true
  · rw [ha] at CA
    by_cases hb : okPl b = true
    · rw [hb] at CB
      obtain ⟨la, va'⟩ := okPl_yes ha
      obtain ⟨lb, vb'⟩ := okPl_yes hb
      have EF := hide (farL_is ha hb)
      obtain ⟨a1, c1, rfl, hc1⟩ := ra.open
      obtain ⟨a2, c2, rfl, hc2⟩ := rb.open
      rw [List.length_map, la] at CA ⊢
      rw [List.length_map, lb] at CB ⊢
      clear ra rb
      replace va' := hide va'; replace vb' := hide vb'; replace la := hide la; replace lb := hide lb
      go_enter Try.func7, Try.ntmps7
      go_wp2_with fail
      refine (unhide CA).mono ?_
      rintro e w1 ⟨rfl, hw1⟩
      have hw2 := hw1.symm
      subst hw2
      clear hw1
      go_wp2_with fail
      refine (unhide CB).mono ?_
      rintro e w1 ⟨rfl, hw1⟩
      have hw2 := hw1.symm
      subst hw2
      clear hw1 CA CB
      go_wp2
      go_loopw [5, 6] (fun tm ti wr => ∃ k q : Nat, k ≤ 256 ∧ tm = .int .i64 (maxN (fun i => circ (cAt a i) (cAt b i)) k) ∧ ti = .int .i64 (k : Int) ∧ wr = w.drewN q) (fun _ ti _ => 256 - (intOf ti).toNat)
      case atStart => exact ⟨0, 0, by omega, rfl, rfl, rfl⟩
      case round =>
        obtain ⟨k, q, hk, rfl, rfl, rfl⟩ := hrel
        have hm1 := maxN_nonneg (fun i => circ (cAt a i) (cAt b i)) k
        have hm2 := maxN_le (fun i => circ (cAt a i) (cAt b i)) k 1664 (by omega) (fun i _ => (circ_le _ _).2)
        by_cases hlt : k < 256
        · have hk' : (k : Int) < 256 := by omega
          obtain ⟨g1, o1, rfl, hg1, d1⟩ := hc1 k _ (get_iv a k (by rw [unhide la]; exact hlt))
          obtain ⟨g2, o2, rfl, hg2, d2⟩ := hc2 k _ (get_iv b k (by rw [unhide lb]; exact hlt))
          have b1 := unhide va' k hlt
          have b2 := unhide vb' k hlt
          have HS := hide (show maxN (fun i => circ (cAt a i) (cAt b i)) (k + 1) = if maxN (fun i => circ (cAt a i) (cAt b i)) k < circ (cAt a k) (cAt b k) then circ (cAt a k) (cAt b k) else maxN (fun i => circ (cAt a i) (cAt b i)) k from rfl)
          have hci : (0 : Int) ≤ (k : Int) := by omega
          obtain ⟨mo, hmo⟩ : ∃ mo, mo = maxN (fun i => circ (cAt a i) (cAt b i)) k := ⟨_, rfl⟩
          obtain ⟨x, hx⟩ : ∃ x, x = cAt a k := ⟨_, rfl⟩
          obtain ⟨y, hy⟩ : ∃ y, y = cAt b k := ⟨_, rfl⟩
          rw [← hmo] at hm1 hm2 HS ⊢
          rw [← hx] at d1 b1 HS
          rw [← hy] at d2 b2 HS
          obtain ⟨t1, ht1⟩ : ∃ t1, t1 = x - y := ⟨_, rfl⟩
          obtain ⟨t2, ht2⟩ : ∃ t2, t2 = t1 + 3329 := ⟨_, rfl⟩
          obtain ⟨d, hd⟩ : ∃ d, d = t2 % 3329 := ⟨_, rfl⟩
          obtain ⟨d', hd'⟩ : ∃ d', d' = 3329 - d := ⟨_, rfl⟩
          have hcd := hide (show circ x y = if d' < d then d' else d by unfold circ; rw [hd', hd, ht2, ht1])
          have w1 : IntKind.i64.wrap (x - y) = t1 := by rw [IntKind.wrap_i64]; omega
          have w2 : IntKind.i64.wrap (t1 + 3329) = t2 := by rw [IntKind.wrap_i64]; omega
          have w3 : t2.tmod 3329 = d := by rw [Int.tmod_eq_emod_of_nonneg (by omega)]; omega
          have w3' : t2 % 3329 = d := hd.symm
          have w4 : IntKind.i64.wrap d = d := by rw [IntKind.wrap_i64]; omega
          have w5 : IntKind.i64.wrap (3329 - d) = d' := by rw [IntKind.wrap_i64]; omega
          have hdb : 0 ≤ d ∧ d ≤ 3328 := by omega
          have hdb' : d' + d = 3329 := by omega
          replace hmo := hide hmo; replace hx := hide hx; replace hy := hide hy; replace ht1 := hide ht1; replace ht2 := hide ht2; replace hd := hide hd; replace hd' := hide hd'
          replace hdb' := hide hdb'
          clear hc1 hc2
          by_cases c1 : d' < d
          · by_cases c2 : mo < d'
            · have HF := hide (show maxN (fun i => circ (cAt a i) (cAt b i)) (k + 1) = d' by rw [unhide HS, unhide hcd, if_pos c1, if_pos c2])
              go_wp2
              go_quiet (fail)
              go_wp2
              go_roundw
              case rel => exact ⟨k + 1, _, by omega, by rw [unhide HF], by go_num, by first | rfl | rw [World.drewN_drewN]⟩
              case measure => simp [intOf]; omega
            · have HF := hide (show maxN (fun i => circ (cAt a i) (cAt b i)) (k + 1) = mo by rw [unhide HS, unhide hcd, if_pos c1, if_neg c2])
              go_wp2
              go_quiet (fail)
              go_wp2
              go_roundw
              case rel => exact ⟨k + 1, _, by omega, by rw [unhide HF], by go_num, by first | rfl | rw [World.drewN_drewN]⟩
              case measure => simp [intOf]; omega
          · by_cases c2 : mo < d
            · have HF := hide (show maxN (fun i => circ (cAt a i) (cAt b i)) (k + 1) = d by rw [unhide HS, unhide hcd, if_neg c1, if_pos c2])
              go_wp2
              go_quiet (fail)
              go_wp2
              go_roundw
              case rel => exact ⟨k + 1, _, by omega, by rw [unhide HF], by go_num, by first | rfl | rw [World.drewN_drewN]⟩
              case measure => simp [intOf]; omega
            · have HF := hide (show maxN (fun i => circ (cAt a i) (cAt b i)) (k + 1) = mo by rw [unhide HS, unhide hcd, if_neg c1, if_neg c2])
              go_wp2
              go_quiet (fail)
              go_wp2
              go_roundw
              case rel => exact ⟨k + 1, _, by omega, by rw [unhide HF], by go_num, by first | rfl | rw [World.drewN_drewN]⟩
              case measure => simp [intOf]; omega
        · have hk' : ¬ (k : Int) < 256 := by omega
          have hke : k = 256 := by omega
          have E2 := hide (show farL a b = maxN (fun i => circ (cAt a i) (cAt b i)) k by rw [hke]; exact unhide EF)
          replace hke := hide hke
          generalize maxN (fun i => circ (cAt a i) (cAt b i)) k = mo at *
          go_wp2
          go_ret
          exact ⟨by rw [unhide E2]; rfl, bDN (Below.refl _ w) _⟩
    · have hb' : okPl b = false := by simpa using hb
      rw [hb'] at CB
      have E := hide (show farL a b = -1 by unfold farL; rw [bothP_no2 hb']; rfl)
      rw [unhide E]
      go_enter Try.func7, Try.ntmps7
      go_wp2_with fail
      refine (unhide CA).mono ?_
      rintro e w1 ⟨rfl, hw1⟩
      have hw2 := hw1.symm
      subst hw2
      clear hw1
      go_wp2_with fail
      refine (unhide CB).mono ?_
      rintro e w1 ⟨rfl, hw1⟩
      have hw2 := hw1.symm
      subst hw2
      clear hw1
      go_wp2
      go_ret
      exact ⟨rfl, Below.refl _ _⟩
  · have ha' : okPl a = false := by simpa using ha
    rw [ha'] at CA
    have E := hide (show farL a b = -1 by unfold farL; rw [bothP_no1 ha']; rfl)
    rw [unhide E]
    go_enter Try.func7, Try.ntmps7
    go_wp2_with fail
    refine (unhide CA).mono ?_
    rintro e w1 ⟨rfl, hw1⟩
    have hw2 := hw1.symm
    subst hw2
    clear hw1
    go_wp2
    go_ret
    exact ⟨rfl, Below.refl _ _⟩
end Go.Proofs.Ytdannnkdapbefaq
