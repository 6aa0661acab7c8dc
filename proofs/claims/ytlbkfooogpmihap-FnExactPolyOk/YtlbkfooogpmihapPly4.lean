/- Polynomials by the given model: products, over the loaded program. -/
import Derived.Test.YtlbkfooogpmihapPly3
namespace Go.Proofs.Ytlbkfooogpmihap
open Go.RowKit
/-- The column of row i that meets place t. -/
def colT (i t : Nat) : Nat := (t + 256 - i) % 256
def stM (A B : Nat → Int) (i k : Nat) : List Int := mk256 fun t => (sumN (fun j => tmC A B j t) i + if colT i t < k then tmC A B i t else 0) % 3329
theorem stM_len (A B : Nat → Int) (i k : Nat) : (stM A B i k).length = 256 := mk256_len _
theorem stM_at (A B : Nat → Int) (i k t : Nat) (ht : t < 256) : cAt (stM A B i k) t = (sumN (fun j => tmC A B j t) i + if colT i t < k then tmC A B i t else 0) % 3329 := mk256_at _ t ht
theorem stM_zero (A B : Nat → Int) : stM A B 0 0 = List.replicate 256 0 := by
  refine ext_pl (stM_len _ _ _ _) (by rw [List.length_replicate]) fun t ht => ?_
  rw [stM_at _ _ _ _ t ht, if_neg (by omega)]
  show (0 + 0) % 3329 = cAt zeroL t
  rw [zeroL_at t ht]
  rfl
theorem stM_next (A B : Nat → Int) (i : Nat) : stM A B i 256 = stM A B (i + 1) 0 := by
  refine ext_pl (stM_len _ _ _ _) (stM_len _ _ _ _) fun t ht => ?_
  rw [stM_at _ _ _ _ t ht, stM_at _ _ _ _ t ht, if_pos (by unfold colT; omega), if_neg (by omega)]
  show _ = (sumN (fun j => tmC A B j t) i + tmC A B i t + 0) % 3329
  omega
theorem stM_end (A B : Nat → Int) : stM A B 256 0 = mk256 fun t => cfP A B t % 3329 := by
  refine ext_pl (stM_len _ _ _ _) (mk256_len _) fun t ht => ?_
  rw [stM_at _ _ _ _ t ht, mk256_at _ t ht, if_neg (by omega)]
  show (sumN (fun j => tmC A B j t) 256 + 0) % 3329 = sumN (fun j => tmC A B j t) 256 % 3329
  omega
theorem cAt_set (l : List Int) (p : Nat) (x : Int) (t : Nat) (hp : p < l.length) : cAt (l.set p x) t = if t = p then x else cAt l t := by
  unfold cAt
  rw [List.getElem?_set]
  by_cases h : p = t
  · rw [if_pos h, if_pos hp, if_pos h.symm]; rfl
  · rw [if_neg h, if_neg (fun e => h e.symm)]
theorem stM_low (A B : Nat → Int) (i k : Nat) (hi : i < 256) (hk : k < 256) (h : i + k < 256) : (stM A B i k).set (i + k) ((cAt (stM A B i k) (i + k) + A i * B k % 3329) % 3329) = stM A B i (k + 1) := by
  refine ext_pl (by rw [List.length_set, stM_len]) (stM_len _ _ _ _) fun t ht => ?_
  rw [cAt_set _ _ _ _ (by rw [stM_len]; omega), stM_at _ _ _ _ t ht, stM_at _ _ _ _ t ht, stM_at _ _ _ _ (i + k) h]
  by_cases e : t = i + k
  · subst e
    rw [if_pos rfl, if_neg (by unfold colT; omega), if_pos (by unfold colT; omega)]
    unfold tmC
    rw [if_pos (by omega), show i + k - i = k by omega]
    generalize A i * B k = p
    generalize sumN _ i = s
    omega
  · rw [if_neg e]
    have hc : colT i t ≠ k := by unfold colT; omega
    by_cases h2 : colT i t < k
    · rw [if_pos h2, if_pos (by omega)]
    · rw [if_neg h2, if_neg (by omega)]
theorem stM_high (A B : Nat → Int) (i k : Nat) (hi : i < 256) (hk : k < 256) (h : ¬ i + k < 256) : (stM A B i k).set (i + k - 256) ((cAt (stM A B i k) (i + k - 256) + (3329 - A i * B k % 3329)) % 3329) = stM A B i (k + 1) := by
  refine ext_pl (by rw [List.length_set, stM_len]) (stM_len _ _ _ _) fun t ht => ?_
  rw [cAt_set _ _ _ _ (by rw [stM_len]; omega), stM_at _ _ _ _ t ht, stM_at _ _ _ _ t ht, stM_at _ _ _ _ (i + k - 256) (by omega)]
  by_cases e : t = i + k - 256
  · rw [if_pos e, ← e, if_neg (by unfold colT; omega), if_pos (by unfold colT; omega)]
    unfold tmC
    rw [if_neg (by omega), show t + 256 - i = k by omega]
    generalize A i * B k = p
    generalize sumN _ i = s
    omega
  · rw [if_neg e]
    have hc : colT i t ≠ k := by unfold colT; omega
    by_cases h2 : colT i t < k
    · rw [if_pos h2, if_pos (by omega)]
    · rw [if_neg h2, if_neg (by omega)]
theorem stM_bound (A B : Nat → Int) (i k t : Nat) (ht : t < 256) : 0 ≤ cAt (stM A B i k) t ∧ cAt (stM A B i k) t ≤ 3328 := by
  rw [stM_at _ _ _ _ t ht]; omega
theorem set_iv (l : List Int) (p : Nat) (x : Int) : (l.map iv).set p (.int .i64 x) = (l.set p x).map iv := by
  rw [List.map_set]; rfl
set_option maxRecDepth 20000 in
set_option maxHeartbeats 800000 in
theorem specPolyMul_any (a b : List Int) (va vb : Value) (w : World) (ra : RdV w va (a.map iv)) (rb : RdV w vb (b.map iv)) :
    Calls Try.prog 21 #[va, vb] w fun e w' => (∃ v, e = .returned v ∧ OwnV w' w.heap.size 3 v ((mulL a b).map iv)) ∧ Below w.heap.size w w' := by
  obtain ⟨i0, hi, hz0, hz1, hz2⟩ := info_parts infoInt
  have CA := hide (specPolyOk_any a va w ra)
  have CB := hide (specPolyOk_any b vb w rb)
  by_cases ha : okPl a = true
  · rw [ha] at CA
    by_cases hb : okPl b = true
    · rw [hb] at CB
      obtain ⟨la, va'⟩ := okPl_yes ha
      obtain ⟨lb, vb'⟩ := okPl_yes hb
      have EF := hide (show mulL a b = stM (cAt a) (cAt b) 256 0 by rw [stM_end]; exact mulL_is ha hb)
      obtain ⟨a1, c1, rfl, hc1⟩ := ra.open
      obtain ⟨a2, c2, rfl, hc2⟩ := rb.open
      rw [List.length_map, la] at CA ⊢
      rw [List.length_map, lb] at CB ⊢
      clear ra rb
      replace va' := hide va'; replace vb' := hide vb'; replace la := hide la; replace lb := hide lb
      go_enter Try.func21, Try.ntmps21
      go_wp2_with fail
      refine (unhide CA).mono ?_
      rintro e w1 ⟨rfl, hw1⟩
      have hw2 := hw1.symm
      subst hw2
      clear hw1
      go_wp2_with fail
      refine (unhide CB).mono ?_
      rintro e w1 ⟨rfl, hw1⟩
      have hw2 := hw1.symm
      subst hw2
      clear hw1 CA CB
      go_wp2_with (at_make; refine wpList_make_full _ rfl _ _ 24 rfl w.heap.size 3 i0 (.int .i64 0) 1 Try.underlying24 hi hz0 hz1 _ _ _ _ 256 rfl rfl rfl rfl (by rw [hz2]; omega) (by unfold maxLen; omega) (Nat.le_refl _) ?_; intro w1 hown1 hgrow1)
      have hr0 : OwnV w1 w.heap.size 3 (.slice (some ⟨w.heap.size, 0, none⟩) 256 256) ((stM (cAt a) (cAt b) 0 0).map iv) := by
        rw [stM_zero]
        rw [madeI] at hown1
        unfold OwnV
        simpa [iv] using hown1
      have hb0 : Below w.heap.size w w1 := (Below.refl w.heap.size w).grown hgrow1 (Nat.le_refl _) (fun k hk => by cases hk)
      replace hr0 := hide hr0
      clear hown1 hgrow1
      go_loopw [6] (fun ti wr => ∃ i : Nat, i ≤ 256 ∧ ti = .int .i64 (i : Int) ∧ Hid (OwnV wr w.heap.size 3 (.slice (some ⟨w.heap.size, 0, none⟩) 256 256) ((stM (cAt a) (cAt b) i 0).map iv)) ∧ Below w.heap.size w wr) (fun ti _ => 256 - (intOf ti).toNat)
      case atStart => exact ⟨0, by omega, rfl, hr0, hb0⟩
      case round =>
        clear hr0 hb0
        obtain ⟨i, hii, rfl, HO, hB⟩ := hrel
        by_cases hlt : i < 256
        · have hi' : (i : Int) < 256 := by omega
          have hci : (0 : Int) ≤ (i : Int) := by omega
          obtain ⟨g1, o1, rfl, hg1, d1⟩ := hc1 i _ (get_iv a i (by rw [unhide la]; exact hlt))
          have b1 := unhide va' i hlt
          have NX := hide (stM_next (cAt a) (cAt b) i)
          go_wp2
          go_loopw [7] (fun tk wq => ∃ k : Nat, k ≤ 256 ∧ tk = .int .i64 (k : Int) ∧ Hid (OwnV wq w.heap.size 3 (.slice (some ⟨w.heap.size, 0, none⟩) 256 256) ((stM (cAt a) (cAt b) i k).map iv)) ∧ Below w.heap.size w wq) (fun tk _ => 256 - (intOf tk).toNat)
          case atStart => exact ⟨0, by omega, rfl, HO, hB⟩
          case round =>
            clear HO hB
            obtain ⟨k, hk, rfl, HO, hB⟩ := hrel
            by_cases hltk : k < 256
            · have hk' : (k : Int) < 256 := by omega
              have hck : (0 : Int) ≤ (k : Int) := by omega
              obtain ⟨g2, o2, rfl, hg2, d2⟩ := hc2 k _ (get_iv b k (by rw [unhide lb]; exact hltk))
              have b2 := unhide vb' k hltk
              have dA := (hB.cell (p := ⟨g1, o1 + i, none⟩) hg1).trans d1
              have dB := (hB.cell (p := ⟨g2, o2 + k, none⟩) hg2).trans d2
              obtain ⟨x, hx⟩ : ∃ x, x = cAt a i := ⟨_, rfl⟩
              obtain ⟨y, hy⟩ : ∃ y, y = cAt b k := ⟨_, rfl⟩
              have HLow := hide (stM_low (cAt a) (cAt b) i k hlt hltk)
              have HHigh := hide (stM_high (cAt a) (cAt b) i k hlt hltk)
              rw [← hx] at dA b1 HLow HHigh
              rw [← hy] at dB b2 HLow HHigh
              have hp1 : 0 ≤ x * y := Int.mul_nonneg b1.1 b2.1
              have hp2 : x * y ≤ 3328 * 3328 := Int.mul_le_mul b1.2 b2.2 b2.1 (by omega)
              obtain ⟨p, hp⟩ : ∃ p, p = x * y := ⟨_, rfl⟩
              rw [← hp] at hp1 hp2 HLow HHigh
              obtain ⟨r, hr⟩ : ∃ r, r = p % 3329 := ⟨_, rfl⟩
              rw [← hr] at HLow HHigh
              have w1 : IntKind.i64.wrap (x * y) = p := by rw [← hp, IntKind.wrap_i64]; omega
              have w2 : p.tmod 3329 = r := by rw [Int.tmod_eq_emod_of_nonneg (by omega)]; omega
              have w2' : p % 3329 = r := hr.symm
              have hr1 : 0 ≤ r ∧ r ≤ 3328 := by omega
              have w3 : IntKind.i64.wrap r = r := by rw [IntKind.wrap_i64]; omega
              have hlen := stM_len (cAt a) (cAt b) i k
              replace hx := hide hx; replace hy := hide hy; replace hp := hide hp; replace hr := hide hr
              clear d1 d2
              by_cases hlow : i + k < 256
              · obtain ⟨m, hm⟩ : ∃ m, m = i + k := ⟨_, rfl⟩
                have hst := unhide HLow hlow
                rw [← hm] at hst hlow
                have w4 : IntKind.i64.wrap ((i : Int) + (k : Int)) = (m : Int) := by rw [IntKind.wrap_i64]; omega
                have hge : ¬ (256 : Int) ≤ (m : Int) := by omega
                have hml : (m : Int) < 256 := by omega
                have hm0 : (0 : Int) ≤ (m : Int) := by omega
                have ob := stM_bound (cAt a) (cAt b) i k m (by omega)
                have cu := (unhide HO).cell (get_iv _ m (by rw [hlen]; omega))
                have cz := (unhide HO).frozen m
                obtain ⟨o, ho⟩ : ∃ o, o = cAt (stM (cAt a) (cAt b) i k) m := ⟨_, rfl⟩
                rw [← ho] at ob cu hst
                obtain ⟨s, hs⟩ : ∃ s, s = o + r := ⟨_, rfl⟩
                obtain ⟨u, hu⟩ : ∃ u, u = s % 3329 := ⟨_, rfl⟩
                rw [← hs, ← hu] at hst
                have w5 : IntKind.i64.wrap (o + r) = s := by rw [IntKind.wrap_i64]; omega
                have w6 : s.tmod 3329 = u := by rw [Int.tmod_eq_emod_of_nonneg (by omega)]; omega
                have w6' : s % 3329 = u := hu.symm
                have w7 : IntKind.i64.wrap u = u := by rw [IntKind.wrap_i64]; omega
                have hO2 := hide (fun (q : Nat) => (show OwnV ((wr.drewN q).setCell ⟨w.heap.size, m, none⟩ (.int .i64 u)) w.heap.size 3 (.slice (some ⟨w.heap.size, 0, none⟩) 256 256) ((stM (cAt a) (cAt b) i (k + 1)).map iv) by
                  have h := OwnV.set (w := wr.drewN q) (unhide HO) m (.int .i64 u)
                  rw [set_iv, hst] at h
                  exact h))
                have hB2 := hide (fun (q : Nat) => (bDN hB q).setCell (p := ⟨w.heap.size, m, none⟩) (Nat.le_refl _) (.int .i64 u))
                replace hm := hide hm; replace ho := hide ho; replace hs := hide hs; replace hu := hide hu; replace hst := hide hst
                clear hc1 hc2 HLow HHigh
                go_wp2
                go_quiet (fail)
                go_wp2
                exact ⟨⟨k + 1, by omega, by go_num, hide (unhide hO2 _), unhide hB2 _⟩, by simp [intOf]; omega⟩
              · obtain ⟨m, hm⟩ : ∃ m, m = i + k - 256 := ⟨_, rfl⟩
                have hst := unhide HHigh hlow
                rw [← hm] at hst
                obtain ⟨m2, hm2⟩ : ∃ m2, m2 = i + k := ⟨_, rfl⟩
                have w4 : IntKind.i64.wrap ((i : Int) + (k : Int)) = (m2 : Int) := by rw [IntKind.wrap_i64]; omega
                have hge : (256 : Int) ≤ (m2 : Int) := by omega
                have w8 : IntKind.i64.wrap ((m2 : Int) - 256) = (m : Int) := by rw [IntKind.wrap_i64]; omega
                obtain ⟨r2, hr2⟩ : ∃ r2, r2 = 3329 - r := ⟨_, rfl⟩
                have w9 : IntKind.i64.wrap (3329 - r) = r2 := by rw [IntKind.wrap_i64]; omega
                rw [← hr2] at hst
                have hml : (m : Int) < 256 := by omega
                have hm0 : (0 : Int) ≤ (m : Int) := by omega
                have ob := stM_bound (cAt a) (cAt b) i k m (by omega)
                have cu := (unhide HO).cell (get_iv _ m (by rw [hlen]; omega))
                have cz := (unhide HO).frozen m
                obtain ⟨o, ho⟩ : ∃ o, o = cAt (stM (cAt a) (cAt b) i k) m := ⟨_, rfl⟩
                rw [← ho] at ob cu hst
                obtain ⟨s, hs⟩ : ∃ s, s = o + r2 := ⟨_, rfl⟩
                obtain ⟨u, hu⟩ : ∃ u, u = s % 3329 := ⟨_, rfl⟩
                rw [← hs, ← hu] at hst
                have w5 : IntKind.i64.wrap (o + r2) = s := by rw [IntKind.wrap_i64]; omega
                have w6 : s.tmod 3329 = u := by rw [Int.tmod_eq_emod_of_nonneg (by omega)]; omega
                have w6' : s % 3329 = u := hu.symm
                have w7 : IntKind.i64.wrap u = u := by rw [IntKind.wrap_i64]; omega
                have hO2 := hide (fun (q : Nat) => (show OwnV ((wr.drewN q).setCell ⟨w.heap.size, m, none⟩ (.int .i64 u)) w.heap.size 3 (.slice (some ⟨w.heap.size, 0, none⟩) 256 256) ((stM (cAt a) (cAt b) i (k + 1)).map iv) by
                  have h := OwnV.set (w := wr.drewN q) (unhide HO) m (.int .i64 u)
                  rw [set_iv, hst] at h
                  exact h))
                have hB2 := hide (fun (q : Nat) => (bDN hB q).setCell (p := ⟨w.heap.size, m, none⟩) (Nat.le_refl _) (.int .i64 u))
                replace hm2 := hide hm2; replace hr2 := hide hr2; replace hlow := hide hlow; replace hm := hide hm; replace ho := hide ho; replace hs := hide hs; replace hu := hide hu; replace hst := hide hst
                clear hc1 hc2 HLow HHigh
                go_wp2
                go_quiet (fail)
                go_wp2
                exact ⟨⟨k + 1, by omega, by go_num, hide (unhide hO2 _), unhide hB2 _⟩, by simp [intOf]; omega⟩
            · have hk' : ¬ (k : Int) < 256 := by omega
              have hke : k = 256 := by omega
              have hO3 : OwnV wr w.heap.size 3 (.slice (some ⟨w.heap.size, 0, none⟩) 256 256) ((stM (cAt a) (cAt b) (i + 1) 0).map iv) := by
                rw [show stM (cAt a) (cAt b) (i + 1) 0 = stM (cAt a) (cAt b) i k by rw [hke]; exact (unhide NX).symm]
                exact unhide HO
              replace hO3 := hide hO3
              replace hke := hide hke
              clear HO
              go_wp2
              exact ⟨⟨i + 1, by omega, by go_num, hO3, hB⟩, by simp [intOf]; omega⟩
        · have hi' : ¬ (i : Int) < 256 := by omega
          have hie : i = 256 := by omega
          have hO3 : OwnV wr w.heap.size 3 (.slice (some ⟨w.heap.size, 0, none⟩) 256 256) ((mulL a b).map iv) := by
            rw [show mulL a b = stM (cAt a) (cAt b) i 0 by rw [hie]; exact unhide EF]
            exact unhide HO
          replace hO3 := hide hO3
          replace hie := hide hie
          clear HO
          go_wp2
          go_ret
          exact ⟨⟨_, rfl, unhide hO3⟩, hB⟩
    · have hb' : okPl b = false := by simpa using hb
      rw [hb'] at CB
      have E := hide (show mulL a b = [] by unfold mulL; rw [bothP_no2 hb']; rfl)
      rw [unhide E]
      go_enter Try.func21, Try.ntmps21
      go_wp2_with fail
      refine (unhide CA).mono ?_
      rintro e w1 ⟨rfl, hw1⟩
      have hw2 := hw1.symm
      subst hw2
      clear hw1
      go_wp2_with fail
      refine (unhide CB).mono ?_
      rintro e w1 ⟨rfl, hw1⟩
      have hw2 := hw1.symm
      subst hw2
      clear hw1
      go_wp2
      go_ret
      exact ⟨⟨_, rfl, World.ownsRow_made w #[] 0 (Nat.le_refl _) (by decide) (by simp)⟩, (Below.refl _ _).alloc (Nat.le_refl _) _⟩
  · have ha' : okPl a = false := by simpa using ha
    rw [ha'] at CA
    have E := hide (show mulL a b = [] by unfold mulL; rw [bothP_no1 ha']; rfl)
    rw [unhide E]
    go_enter Try.func21, Try.ntmps21
    go_wp2_with fail
    refine (unhide CA).mono ?_
    rintro e w1 ⟨rfl, hw1⟩
    have hw2 := hw1.symm
    subst hw2
    clear hw1
    go_wp2
    go_ret
    exact ⟨⟨_, rfl, World.ownsRow_made w #[] 0 (Nat.le_refl _) (by decide) (by simp)⟩, (Below.refl _ _).alloc (Nat.le_refl _) _⟩
end Go.Proofs.Ytlbkfooogpmihap
