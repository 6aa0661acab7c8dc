/- Merged: Ntp6, Kem4, Ntp4, Ntp5, Kem5. -/
import Derived.Test.YthjgmpfdjhegfasDoorMga1
import Derived.Test.YthjgmpfdjhegfasDoorMga2
import Derived.Test.YthjgmpfdjhegfasDoorMga3
import Derived.Test.YthjgmpfdjhegfasDoorMga4
import Derived.Deep.RegionHeld3
import Derived.Deep.QuietTactic
import Derived.BigQuiet
/- MulNtt by the given model, over the loaded program. -/
namespace Go.Proofs.YthjgmpfdjhegfasDoor
open Go.RowKit
theorem gm_rng (k : Nat) : 0 ≤ gm k ∧ gm k ≤ 3328 := by unfold gm powM; omega
theorem gm_pow (k : Nat) : powQ 17 (2 * (t7 k : Int) + 1) = gm k := by
  have := t7_lt k
  unfold powQ gm
  rw [if_pos (by omega), show (2 * (t7 k : Int) + 1).toNat = 2 * t7 k + 1 by omega]
  rfl
theorem mnF_even (F G : Nat → Int) (k : Nat) : mnF F G (2 * k) = F (2 * k) * G (2 * k) + F (2 * k + 1) * G (2 * k + 1) * gm k := by
  unfold mnF; rw [if_pos (by omega), show 2 * k / 2 = k by omega]
theorem mnF_odd (F G : Nat → Int) (k : Nat) : mnF F G (2 * k + 1) = F (2 * k) * G (2 * k + 1) + F (2 * k + 1) * G (2 * k) := by
  unfold mnF; rw [if_neg (by omega), show 2 * k + 1 - 1 = 2 * k by omega]
theorem mul_rng {x y : Int} (hx : 0 ≤ x ∧ x ≤ 3328) (hy : 0 ≤ y ∧ y ≤ 3328) : 0 ≤ x * y ∧ x * y ≤ 11075584 := by
  constructor
  · exact Int.mul_nonneg hx.1 hy.1
  · have h := Int.mul_le_mul hx.2 hy.2 hy.1 (by omega)
    omega
set_option maxRecDepth 20000 in
set_option maxHeartbeats 1000000 in
theorem specMulNtt_any (a b : List Int) (va vb : Value) (w : World) (ra : RdV w va (a.map iv)) (rb : RdV w vb (b.map iv)) :
    Calls Tryd.prog 49 #[va, vb] w fun e w' => (∃ v, e = .returned v ∧ OwnV w' w.heap.size 3 v ((mnL a b).map iv)) ∧ Below w.heap.size w w' := by
  obtain ⟨i0, hi, hz0, hz1, hz2⟩ := info_parts infoInt
  have CA := hide (fun (W : World) (h : Below w.heap.size w W) => specPolyOk_any a va W (ra.below h))
  have CB := hide (fun (W : World) (h : Below w.heap.size w W) => specPolyOk_any b vb W (rb.below h))
  have hB0 : Below w.heap.size w (w.alloc (.cells #[] 3)) := (Below.refl _ _).alloc (Nat.le_refl _) _
  by_cases ha : okPl a = true
  · rw [ha] at CA
    by_cases hb : okPl b = true
    · rw [hb] at CB
      obtain ⟨la, va'⟩ := okPl_yes ha
      obtain ⟨lb, vb'⟩ := okPl_yes hb
      have EF := hide (show mnL a b = preL (fun t => mnF (cAt a) (cAt b) t % 3329) 256 from mnL_is ha hb)
      obtain ⟨a1, c1, rfl, hc1⟩ := ra.open
      obtain ⟨a2, c2, rfl, hc2⟩ := rb.open
      rw [List.length_map, la] at CA ⊢
      rw [List.length_map, lb] at CB ⊢
      clear ra rb
      obtain ⟨g1, o1, rfl, hg1, _⟩ := hc1 0 _ (get_iv a 0 (by omega))
      obtain ⟨g2, o2, rfl, hg2, _⟩ := hc2 0 _ (get_iv b 0 (by omega))
      have DA := hide (show ∀ k, k < 256 → w.cell? ⟨g1, o1 + k, none⟩ = some (.int .i64 (cAt a k)) from fun k hk => by
        obtain ⟨g', o', he, _, hd⟩ := hc1 k _ (get_iv a k (by omega))
        cases he
        exact hd)
      have DB := hide (show ∀ k, k < 256 → w.cell? ⟨g2, o2 + k, none⟩ = some (.int .i64 (cAt b k)) from fun k hk => by
        obtain ⟨g', o', he, _, hd⟩ := hc2 k _ (get_iv b k (by omega))
        cases he
        exact hd)
      clear hc1 hc2
      replace va' := hide va'; replace vb' := hide vb'; replace la := hide la; replace lb := hide lb
      go_enter Tryd.func49, Tryd.ntmps49
      go_wp2_with fail
      refine ((unhide CA) _ hB0).mono ?_
      rintro e w1 ⟨rfl, rfl⟩
      go_wp2_with fail
      refine ((unhide CB) _ hB0).mono ?_
      rintro e w1 ⟨rfl, rfl⟩
      go_wp2
      go_loopw [5, 6] (fun tv ti wr => ∃ k : Nat, k ≤ 128 ∧ ti = .int .i64 (k : Int) ∧ Hid (OwnV wr w.heap.size 3 tv ((preL (fun t => mnF (cAt a) (cAt b) t % 3329) (2 * k)).map iv)) ∧ Below w.heap.size w wr) (fun _ ti _ => 128 - (intOf ti).toNat)
      case atStart => exact ⟨0, by omega, rfl, hide (World.ownsRow_made w #[] 0 (Nat.le_refl _) (by decide) (by simp)), hB0⟩
      case round =>
        clear CA CB hB0
        obtain ⟨k, hk, rfl, HO, hB⟩ := hrel
        by_cases hlt : k < 128
        · have hk' : (k : Int) < 128 := by omega
          obtain ⟨T1, _⟩ := zt_turn k hlt
          have C1 := hide (fun W => specTurn7_any (k : Int) W)
          rw [T1] at C1
          have C2 := hide (fun W => specPowQ_any 17 (2 * (t7 k : Int) + 1) W)
          rw [gm_pow k] at C2
          have htl := t7_lt k
          have hg := gm_rng k
          have HP := hide (pre_two (fun t => mnF (cAt a) (cAt b) t % 3329) k)
          rw [mnF_even, mnF_odd] at HP
          obtain ⟨k2, hk2⟩ : ∃ k2 : Nat, k2 = 2 * k := ⟨_, rfl⟩
          obtain ⟨k3, hk3⟩ : ∃ k3 : Nat, k3 = k2 + 1 := ⟨_, rfl⟩
          have dA0 := unhide DA k2 (by omega)
          have dA1 := unhide DA k3 (by omega)
          have dB0 := unhide DB k2 (by omega)
          have dB1 := unhide DB k3 (by omega)
          have bA0 := unhide va' k2 (by omega)
          have bA1 := unhide va' k3 (by omega)
          have bB0 := unhide vb' k2 (by omega)
          have bB1 := unhide vb' k3 (by omega)
          have hl1 : ((preL (fun t => mnF (cAt a) (cAt b) t % 3329) (2 * k)).map iv).length + 2 ≤ maxLen := by rw [List.length_map, preL_len]; unfold maxLen; omega
          have hl2 : (((preL (fun t => mnF (cAt a) (cAt b) t % 3329) (2 * k)).map iv).length + 2) * 8 ≤ 140737488355328 := by rw [List.length_map, preL_len]; omega
          replace hl1 := hide hl1; replace hl2 := hide hl2
          rw [show cAt a (2 * k) = cAt a k2 by rw [hk2], show cAt b (2 * k) = cAt b k2 by rw [hk2], show cAt a (2 * k + 1) = cAt a k3 by rw [hk3, hk2], show cAt b (2 * k + 1) = cAt b k3 by rw [hk3, hk2]] at HP
          generalize cAt a k2 = A0 at HP dA0 bA0
          generalize cAt a k3 = A1 at HP dA1 bA1
          generalize cAt b k2 = B0 at HP dB0 bB0
          generalize cAt b k3 = B1 at HP dB1 bB1
          generalize gm k = g at *
          have htz : 0 ≤ (t7 k : Int) ∧ (t7 k : Int) < 128 := by omega
          generalize (t7 k : Int) = tz at *
          obtain ⟨e2, he2⟩ : ∃ e : Int, e = 2 * tz := ⟨_, rfl⟩
          obtain ⟨e3, he3⟩ : ∃ e : Int, e = e2 + 1 := ⟨_, rfl⟩
          rw [show 2 * tz + 1 = e3 by rw [he3, he2]] at C2
          have u1 : IntKind.i64.wrap (2 * tz) = e2 := by rw [IntKind.wrap_i64]; omega
          have u2 : IntKind.i64.wrap (e2 + 1) = e3 := by rw [IntKind.wrap_i64]; omega
          have u3 : IntKind.i64.wrap (2 * (k : Int)) = (k2 : Int) := by rw [IntKind.wrap_i64]; omega
          have u4 : IntKind.i64.wrap ((k2 : Int) + 1) = (k3 : Int) := by rw [IntKind.wrap_i64]; omega
          have i1 : (0 : Int) ≤ (k2 : Int) := by omega
          have i2 : (k2 : Int) < 256 := by omega
          have i3 : (0 : Int) ≤ (k3 : Int) := by omega
          have i4 : (k3 : Int) < 256 := by omega
          have m11 := mul_rng bA1 bB1
          have m00 := mul_rng bA0 bB0
          have m01 := mul_rng bA0 bB1
          have m10 := mul_rng bA1 bB0
          obtain ⟨P11, h11⟩ : ∃ P, P = A1 * B1 := ⟨_, rfl⟩
          obtain ⟨P00, h00⟩ : ∃ P, P = A0 * B0 := ⟨_, rfl⟩
          obtain ⟨P01, h01⟩ : ∃ P, P = A0 * B1 := ⟨_, rfl⟩
          obtain ⟨P10, h10⟩ : ∃ P, P = A1 * B0 := ⟨_, rfl⟩
          rw [← h11] at m11 HP
          rw [← h00] at m00 HP
          rw [← h01] at m01 HP
          rw [← h10] at m10 HP
          obtain ⟨r11, hr11⟩ : ∃ r, r = P11 % 3329 := ⟨_, rfl⟩
          have mX := mul_rng (x := r11) (y := g) (by omega) hg
          obtain ⟨X, hX⟩ : ∃ X, X = r11 * g := ⟨_, rfl⟩
          rw [← hX] at mX
          obtain ⟨S0, hS0⟩ : ∃ S, S = P00 + X := ⟨_, rfl⟩
          obtain ⟨c0, hc0⟩ : ∃ c, c = S0 % 3329 := ⟨_, rfl⟩
          obtain ⟨S1, hS1⟩ : ∃ S, S = P01 + P10 := ⟨_, rfl⟩
          obtain ⟨d1, hd1⟩ : ∃ c, c = S1 % 3329 := ⟨_, rfl⟩
          have hx0 : (P00 + P11 * g) % 3329 = c0 := by
            have hq : P11 = r11 + 3329 * (P11 / 3329) := by omega
            have hq2 : P11 * g = X + 3329 * (P11 / 3329 * g) := by
              rw [hX]
              generalize P11 / 3329 = mm at hq ⊢
              rw [hq, Int.add_mul, Int.mul_assoc]
            rw [hq2]
            generalize P11 / 3329 * g = nn
            omega
          rw [hx0, ← hS1, ← hd1] at HP
          have v1 : IntKind.i64.wrap (A1 * B1) = P11 := by rw [← h11, IntKind.wrap_i64]; omega
          have v2 : P11.tmod 3329 = r11 := by rw [Int.tmod_eq_emod_of_nonneg (by omega)]; omega
          have v2' : P11 % 3329 = r11 := hr11.symm
          have v3 : IntKind.i64.wrap r11 = r11 := by rw [IntKind.wrap_i64]; omega
          have v4 : IntKind.i64.wrap (r11 * g) = X := by rw [← hX, IntKind.wrap_i64]; omega
          have v5 : IntKind.i64.wrap (A0 * B0) = P00 := by rw [← h00, IntKind.wrap_i64]; omega
          have v6 : IntKind.i64.wrap (P00 + X) = S0 := by rw [IntKind.wrap_i64]; omega
          have v7 : S0.tmod 3329 = c0 := by rw [Int.tmod_eq_emod_of_nonneg (by omega)]; omega
          have v7' : S0 % 3329 = c0 := hc0.symm
          have v8 : IntKind.i64.wrap c0 = c0 := by rw [IntKind.wrap_i64]; omega
          have v9 : IntKind.i64.wrap (A0 * B1) = P01 := by rw [← h01, IntKind.wrap_i64]; omega
          have v10 : IntKind.i64.wrap (A1 * B0) = P10 := by rw [← h10, IntKind.wrap_i64]; omega
          have v11 : IntKind.i64.wrap (P01 + P10) = S1 := by rw [IntKind.wrap_i64]; omega
          have v12 : S1.tmod 3329 = d1 := by rw [Int.tmod_eq_emod_of_nonneg (by omega)]; omega
          have v12' : S1 % 3329 = d1 := hd1.symm
          have v13 : IntKind.i64.wrap d1 = d1 := by rw [IntKind.wrap_i64]; omega
          replace he2 := hide he2; replace he3 := hide he3; replace hk2 := hide hk2; replace hk3 := hide hk3; replace h11 := hide h11; replace h00 := hide h00; replace h01 := hide h01; replace h10 := hide h10; replace hr11 := hide hr11; replace hX := hide hX; replace hS0 := hide hS0; replace hc0 := hide hc0; replace hS1 := hide hS1; replace hd1 := hide hd1; replace hx0 := hide hx0
          have KS := hide (fun (W : World) (h : Below w.heap.size w W) => (⟨(h.cell (p := ⟨g1, o1 + k2, none⟩) hg1).trans dA0, (h.cell (p := ⟨g1, o1 + k3, none⟩) hg1).trans dA1, (h.cell (p := ⟨g2, o2 + k2, none⟩) hg2).trans dB0, (h.cell (p := ⟨g2, o2 + k3, none⟩) hg2).trans dB1⟩ : W.cell? ⟨g1, o1 + k2, none⟩ = some (.int .i64 A0) ∧ W.cell? ⟨g1, o1 + k3, none⟩ = some (.int .i64 A1) ∧ W.cell? ⟨g2, o2 + k2, none⟩ = some (.int .i64 B0) ∧ W.cell? ⟨g2, o2 + k3, none⟩ = some (.int .i64 B1)))
          have hsz := hB.size
          clear dA0 dA1 dB0 dB1 DA DB T1
          go_wp2_with fail
          refine ((unhide C1) wr).mono ?_
          rintro e w2 ⟨rfl, hw2⟩
          have hw3 := hw2.symm
          subst hw3
          clear hw2
          go_wp2_with fail
          refine ((unhide C2) wr).mono ?_
          rintro e w2 ⟨rfl, hw2⟩
          have hw3 := hw2.symm
          subst hw3
          clear hw2 C1 C2
          obtain ⟨s1, s2, s3, s4⟩ := (unhide KS) _ hB
          go_wp2
          go_quiet (fail)
          have HO5 : Hid (OwnV (wr.drewN nq) w.heap.size 3 u5 ((preL (fun t => mnF (cAt a) (cAt b) t % 3329) (2 * k)).map iv)) := hide (unhide HO)
          have hB5 := bDN hB nq
          have hsz5 := hB5.size
          generalize wr.drewN nq = w5 at *
          obtain ⟨s5, s6, s7, s8⟩ := (unhide KS) _ hB5
          clear HO s1 s2 s3 s4 hB hsz
          go_wp2
          go_region_held3 (fun W => W.cell? ⟨g1, o1 + k2, none⟩ = some (.int .i64 A0) ∧ W.cell? ⟨g1, o1 + k3, none⟩ = some (.int .i64 A1) ∧ W.cell? ⟨g2, o2 + k2, none⟩ = some (.int .i64 B0) ∧ W.cell? ⟨g2, o2 + k3, none⟩ = some (.int .i64 B1)) (first | exact ⟨s5, s6, s7, s8⟩ | exact (unhide KS) _ (hB5.drew.alloc hsz5 _) | exact (unhide KS) _ hb2 | fail) (first
            | (refine step_append_w9 (w := w5.drew) (x1 := c0) (x2 := d1) (e := 3) rfl rfl (.tmp 44) (.tmp 85) 31 rfl w.heap.size w.heap.size i0 (.int .i64 0) 8 Tryd.underlying31 hi hz0 hz1 hz2 rfl _ _ rfl (by exact unhide HO5) rfl (unhide hl1) (unhide hl2) (Nat.le_refl _) (by exact hsz5) (by exact hB5.drew) ?_; intro v' w2 hown2 hb2))
          have hown3 : OwnV w2 w.heap.size 3 v' ((preL (fun t => mnF (cAt a) (cAt b) t % 3329) (2 * (k + 1))).map iv) := by
            rw [unhide HP, List.map_append]
            exact hown2
          replace hown3 := hide hown3
          clear hown2 HP KS
          go_wp2
          go_roundw
          case rel => exact ⟨k + 1, by omega, by go_num, hown3, hb2⟩
          case measure => simp [intOf]; omega
        · have hk' : ¬ (k : Int) < 128 := by omega
          have hke : k = 128 := by omega
          have hown : OwnV wr w.heap.size 3 u5 ((mnL a b).map iv) := by rw [unhide EF]; have h := unhide HO; rw [hke] at h; exact h
          replace hown := hide hown
          clear HO
          replace hke := hide hke
          go_wp2
          go_ret
          exact ⟨⟨_, rfl, unhide hown⟩, hB⟩
    · have hb' : okPl b = false := by simpa using hb
      rw [hb'] at CB
      have E := hide (show mnL a b = [] by unfold mnL; rw [bothP_no2 hb']; rfl)
      rw [unhide E]
      go_enter Tryd.func49, Tryd.ntmps49
      go_wp2_with fail
      refine ((unhide CA) _ hB0).mono ?_
      rintro e w1 ⟨rfl, rfl⟩
      go_wp2_with fail
      refine ((unhide CB) _ hB0).mono ?_
      rintro e w1 ⟨rfl, rfl⟩
      go_wp2
      go_ret
      exact ⟨⟨_, rfl, World.ownsRow_made w #[] 0 (Nat.le_refl _) (by decide) (by simp)⟩, hB0⟩
  · have ha' : okPl a = false := by simpa using ha
    rw [ha'] at CA
    have E := hide (show mnL a b = [] by unfold mnL; rw [bothP_no1 ha']; rfl)
    rw [unhide E]
    go_enter Tryd.func49, Tryd.ntmps49
    go_wp2_with fail
    refine ((unhide CA) _ hB0).mono ?_
    rintro e w1 ⟨rfl, rfl⟩
    go_wp2
    go_ret
    exact ⟨⟨_, rfl, World.ownsRow_made w #[] 0 (Nat.le_refl _) (by decide) (by simp)⟩, hB0⟩
end Go.Proofs.YthjgmpfdjhegfasDoor

/- A secret handed over, by the given model: sums of products of rows of polynomials, over the loaded program. -/
namespace Go.Proofs.YthjgmpfdjhegfasDoor
open Go.RowKit
set_option maxRecDepth 20000 in
set_option maxHeartbeats 800000 in
theorem specSum_any (A B : Nat → List Int) (n : Nat) (hn : n ≤ 1000) (va vb : Value) (vsa vsb : List Value) (la : vsa.length = n) (lb : vsb.length = n) (w : World) (ra : RdV w va vsa) (rb : RdV w vb vsb)
    (HA : ∀ i v, vsa[i]? = some v → RdV w v ((A i).map iv)) (HB : ∀ i v, vsb[i]? = some v → RdV w v ((B i).map iv)) :
    Calls Tryd.prog 28 #[va, vb] w fun e w' => (∃ v, e = .returned v ∧ OwnV w' w.heap.size 3 v ((sumK A B n).map iv)) ∧ Below w.heap.size w w' := by
  obtain ⟨i0, hi, hz0, hz1, hz2⟩ := info_parts infoInt
  obtain ⟨a1, c1, rfl, hc1⟩ := ra.open
  obtain ⟨a2, c2, rfl, hc2⟩ := rb.open
  rw [la, lb]
  have C1 := hide (fun i u v (hu : vsa[i]? = some u) (hv : vsb[i]? = some v) W (h : Below w.heap.size w W) => specMulNtt_any (A i) (B i) u v W ((HA i u hu).below h) ((HB i v hv).below h))
  have C2 := hide (fun i u v W (r1 : RdV W u ((sumK A B i).map iv)) (r2 : RdV W v ((mnL (A i) (B i)).map iv)) => specPolyAdd_any (sumK A B i) (mnL (A i) (B i)) u v W r1 r2)
  have HS := hide (show ∀ i, sumK A B (i + 1) = addL (sumK A B i) (mnL (A i) (B i)) from fun i => rfl)
  have HZ := hide (show sumK A B 0 = zeroL from rfl)
  generalize sumK A B = S at *
  clear ra rb HA HB
  replace la := hide la; replace lb := hide lb
  go_enter Tryd.func28, Tryd.ntmps28
  go_wp2_with (at_make; refine wpList_make_full _ rfl _ _ 31 rfl w.heap.size 3 i0 (.int .i64 0) 1 Tryd.underlying31 hi hz0 hz1 _ _ _ _ 256 rfl rfl rfl rfl (by rw [hz2]; omega) (by unfold maxLen; omega) (Nat.le_refl _) ?_; intro w1 hown1 hgrow1)
  have hr0 : OwnV w1 w.heap.size 3 (.slice (some ⟨w.heap.size, 0, none⟩) 256 256) ((S 0).map iv) := by
    rw [unhide HZ]
    unfold zeroL
    rw [madeI] at hown1
    unfold OwnV
    simpa [iv] using hown1
  have hb0 : Below w.heap.size w w1 := (Below.refl w.heap.size w).grown hgrow1 (Nat.le_refl _) (fun k hk => by cases hk)
  replace hr0 := hide hr0
  clear hown1 hgrow1
  go_loopw [5, 6] (fun tv ti wr => ∃ k : Nat, k ≤ n ∧ ti = .int .i64 (k : Int) ∧ Hid (OwnV wr w.heap.size 3 tv ((S k).map iv)) ∧ Below w.heap.size w wr) (fun _ ti _ => n - (intOf ti).toNat)
  case atStart => exact ⟨0, by omega, rfl, hr0, hb0⟩
  case round =>
    clear hr0 hb0
    obtain ⟨k, hk, rfl, HO, hB⟩ := hrel
    by_cases hlt : k < n
    · have hk' : (k : Int) < (n : Int) := by omega
      have hci : (0 : Int) ≤ (k : Int) := by omega
      have hka : k < vsa.length := by rw [unhide la]; exact hlt
      have hkb : k < vsb.length := by rw [unhide lb]; exact hlt
      obtain ⟨g1, o1, rfl, hg1, d1⟩ := hc1 k _ (List.getElem?_eq_getElem hka)
      obtain ⟨g2, o2, rfl, hg2, d2⟩ := hc2 k _ (List.getElem?_eq_getElem hkb)
      have CM := hide (fun W h => unhide C1 k _ _ (List.getElem?_eq_getElem hka) (List.getElem?_eq_getElem hkb) W h)
      have CA := hide (fun u v W r1 r2 => unhide C2 k u v W r1 r2)
      have HSk := hide (unhide HS k)
      generalize vsa[k] = xa at d1 CM
      generalize vsb[k] = xb at d2 CM
      generalize mnL (A k) (B k) = mm at CM CA HSk
      rw [← unhide HSk] at CA
      have KS := hide (fun (W : World) (h : Below w.heap.size w W) => (⟨(h.cell (p := ⟨g1, o1 + k, none⟩) hg1).trans d1, (h.cell (p := ⟨g2, o2 + k, none⟩) hg2).trans d2⟩ : W.cell? ⟨g1, o1 + k, none⟩ = some xa ∧ W.cell? ⟨g2, o2 + k, none⟩ = some xb))
      obtain ⟨ca, cb⟩ := (unhide KS) _ hB
      have rO := hide (unhide HO).rdv
      clear hc1 hc2 d1 d2 C1 C2 HO
      go_wp2
      go_region_held3 (fun W => W.cell? ⟨g1, o1 + k, none⟩ = some xa ∧ W.cell? ⟨g2, o2 + k, none⟩ = some xb) (first | exact ⟨ca, cb⟩ | exact unhide KS _ HTp | exact unhide KS _ HTm) (first
        | (go_at_call 49; refine (unhide CM _ (by first | exact hB | exact hB.drew | exact bDN hB _)).mono ?_; rintro e w2 ⟨⟨vm, rfl, om⟩, hbm⟩; have HTm := hB.drew.trans (hbm.mono (Nat.le_trans hB.size (Nat.le_refl _))); have rm := om.rdv; have rO2 := (unhide rO).drew.below hbm; clear om)
        | (go_at_call 48; refine (unhide CA _ _ _ rO2 rm).mono ?_; rintro e w3 ⟨⟨vp, rfl, op⟩, hbp⟩; have HTp := HTm.trans (hbp.mono HTm.size); have op' := op.low HTm.size))
      replace op' := hide op'
      clear rm rO2 op hbp hbm HTm
      go_wp2
      exact ⟨⟨k + 1, by omega, by go_num, op', HTp⟩, by simp [intOf]; omega⟩
    · have hk' : ¬ (k : Int) < (n : Int) := by omega
      have hke : k = n := by omega
      have hown : OwnV wr w.heap.size 3 u5 ((S n).map iv) := by rw [← hke]; exact unhide HO
      replace hown := hide hown
      replace hke := hide hke
      clear HO
      go_wp2
      go_ret
      exact ⟨⟨_, rfl, unhide hown⟩, hB⟩
end Go.Proofs.YthjgmpfdjhegfasDoor

/- Ntt by the given model, over the loaded program. -/
namespace Go.Proofs.YthjgmpfdjhegfasDoor
open Go.RowKit
theorem wpList_copy9 {P : Program} {w : World} {ops : Array Oper} {rest : List Oper} {o : Oper} {a : Act} {Q : Exit → Act → World → Prop} (hgd : o.guard = none) (s x : Operand) (t : TypeId)
    (ho : o.op = .call { callee := .builtin .append, args := #[s, x], argTypes := #[t, t] })
    (e : TypeId) (i : TypeInfo) (z : Value) (nb : Nat) (ht : P.underlying t = some (.slice e)) (hi : P.info? e = some i) (hz : i.zero = some z) (hsize : i.size = 1) (hby : i.bytes = nb) (hzs : z.cells.size = 1)
    (hs : a.eval s = .slice (some ⟨w.heap.size, 0, none⟩) 0 0) (g off n c : Nat) (news : List Value) (hx : a.eval x = .slice (some ⟨g, off, none⟩) n c) (hg : g < w.heap.size) (hc : ∀ j u, news[j]? = some u → w.cell? ⟨g, off + j, none⟩ = some u) (hn : news.length = n) (h1 : ∀ u ∈ news, u.oneCell' = true)
    (h63 : n ≤ maxLen) (hbytes : n * nb ≤ 140737488355328)
    (h : ∀ v' w', OwnV w' w.heap.size e v' news → Below w.heap.size w w' → wpList P ops Q rest (a.put o.dst v') w') :
    wpList P ops Q (o :: rest) a (w.alloc (.cells #[] e)) := by
  have hE : (w.alloc (.cells #[] e)).ownsRow w.heap.size e 1 (.slice (some ⟨w.heap.size, 0, none⟩) 0 0) 0 [] := World.ownsRow_made w #[] 0 (Nat.le_refl _) (by decide) (by simp)
  have hb0 : Below w.heap.size w (w.alloc (.cells #[] e)) := (Below.refl w.heap.size w).alloc (Nat.le_refl _) _
  refine wpList_append_own (w.alloc (.cells #[] e)) hgd s x t ho w.heap.size e i z 1 nb ht hi hz hsize hby hzs (by decide) _ 0 [] hs hE ⟨g, off, none⟩ n c news hx (by rw [hn, Nat.mul_one]) (fun j u hu => ?_) h1 (by omega) (by rw [Nat.zero_add]; exact hbytes) (by simp) ?_
  · have hadd : (⟨g, off, none⟩ : Addr).add j = ⟨g, off + j, none⟩ := by unfold Addr.add; split <;> simp_all
    rw [hadd, hb0.cell (p := ⟨g, off + j, none⟩) hg]
    exact hc j u hu
  intro v' w' h2 h3 _
  refine h v' w' (by unfold OwnV; rw [hn]; simpa using h2) ?_
  exact hb0.grown h3 (by simp) (fun k hk => by simp [Value.ownBlock] at hk; omega)
theorem one_iv (l : List Int) : ∀ u ∈ l.map iv, u.oneCell' = true := by
  intro u hu
  obtain ⟨x, _, rfl⟩ := List.mem_map.1 hu
  rfl
theorem sz_facts (i : Nat) (h : i < 7) : 2 ≤ sz i ∧ sz i ≤ 128 ∧ sz (i + 1) = sz i / 2 ∧ sz (i + 1) < sz i ∧ 2 ^ (i + 1) = 2 ^ i + 2 ^ i ∧ 2 ^ i ≤ 64 ∧ 1 ≤ 2 ^ i ∧ 128 / sz i = 2 ^ i := by
  match i, h with
  | 0, _ => decide
  | 1, _ => decide
  | 2, _ => decide
  | 3, _ => decide
  | 4, _ => decide
  | 5, _ => decide
  | 6, _ => decide
  | i + 7, h => exact absurd h (by omega)
theorem blk_facts {s : Nat} (hs : Sz s) (b : Nat) : (2 * b * s < 256 ↔ b < 128 / s) ∧ 2 * (b + 1) * s = 2 * b * s + 2 * s ∧ (b < 128 / s → 2 * b * s + 2 * s ≤ 256) ∧ (b ≤ 128 / s → 2 * b * s ≤ 256) := by
  rcases hs with rfl | rfl | rfl | rfl | rfl | rfl | rfl <;> omega
set_option maxRecDepth 20000 in
set_option maxHeartbeats 1000000 in
theorem specNtt_any (l : List Int) (va : Value) (w : World) (ra : RdV w va (l.map iv)) :
    Calls Tryd.prog 24 #[va] w fun e w' => (∃ v, e = .returned v ∧ OwnV w' w.heap.size 3 v ((nttL l).map iv)) ∧ Below w.heap.size w w' := by
  obtain ⟨i0, hi, hz0, hz1, hz2⟩ := info_parts infoInt
  have CA := hide (specPolyOk_any l va w ra)
  by_cases ha : okPl l = true
  · rw [ha] at CA
    have la := (okPl_yes ha).1
    have EF := hide (nttL_is ha)
    have HOK := hide (fun i => nL_ok ha i)
    obtain ⟨a1, c1, rfl, hc1⟩ := ra.open
    rw [List.length_map, la] at CA ⊢
    obtain ⟨g1, o1, rfl, hg1, _⟩ := hc1 0 _ (get_iv l 0 (by omega))
    have hcc := hide (show ∀ j u, (l.map iv)[j]? = some u → w.cell? ⟨g1, o1 + j, none⟩ = some u from fun j u hu => by
      obtain ⟨g', o', he, _, hd⟩ := hc1 j u hu
      cases he
      exact hd)
    clear ra hc1
    go_enter Tryd.func24, Tryd.ntmps24
    go_wp2_with fail
    refine (unhide CA).mono ?_
    rintro e w1 ⟨rfl, hw1⟩
    have hw2 := hw1.symm
    subst hw2
    clear hw1 CA
    go_wp2_with (at_builtin; refine wpList_copy9 rfl (.tmp 14) (.tmp 15) 31 rfl 3 i0 (.int .i64 0) 8 Tryd.underlying31 hi hz0 hz1 hz2 rfl rfl g1 o1 256 c1 (l.map iv) rfl hg1 (unhide hcc) (by rw [List.length_map]; exact la) (one_iv l) (by decide) (by decide) ?_; intro v1 w1 hO1 hb1)
    obtain ⟨av, cv, hav⟩ := hO1.shape
    rw [List.length_map, la] at hav
    subst hav
    obtain ⟨gg, hgg⟩ : ∃ g, av = some ⟨g, 0, none⟩ ∧ w.heap.size ≤ g := by
      rcases hO1.2 with ⟨h1, _⟩ | ⟨g, cap, cur, h1, hbb, _⟩
      · simp only [Value.slice.injEq] at h1; omega
      · simp only [Value.slice.injEq] at h1
        exact ⟨g, h1.1, hbb⟩
    obtain ⟨rfl, hgb⟩ := hgg
    have hO1' := hide (show OwnV w1 w.heap.size 3 (.slice (some ⟨gg, 0, none⟩) 256 cv) ((nL l 0).map iv) from hO1)
    clear hO1 hcc
    go_loopw [4, 5] (fun tk ts wr => ∃ (i s K : Nat), i ≤ 7 ∧ Hid (s = sz i) ∧ Hid (K = 2 ^ i) ∧ tk = .int .i64 (K : Int) ∧ ts = .int .i64 (s : Int) ∧ Hid (OwnV wr w.heap.size 3 (.slice (some ⟨gg, 0, none⟩) 256 cv) ((nL l i).map iv)) ∧ Below w.heap.size w wr) (fun _ ts _ => (intOf ts).toNat)
    case atStart => exact ⟨0, 128, 1, by omega, hide rfl, hide rfl, rfl, rfl, hO1', hb1⟩
    case round =>
      clear hO1' hb1
      obtain ⟨i, s, K, hii, hs, hK, rfl, rfl, HO, hB⟩ := hrel
      by_cases hlt : i < 7
      · obtain ⟨f1, f2, f3, f4, f5, f6, f7, f8⟩ := sz_facts i hlt
        have HSz : Hid (Sz s) := hide (by rw [unhide hs]; exact sz_ok i hlt)
        rw [← unhide hs] at f1 f2 f3 f4 f8
        rw [← unhide hK] at f5 f6 f7 f8
        have hge : (2 : Int) ≤ (s : Int) := by omega
        have hF := unhide HOK i
        have hFr := hide (okPl_yes hF).2
        have HN := hide (show nL l (i + 1) = mdG s (lay s (zN i) (cAt (nL l i))) (cAt (nL l i)) K 0 by rw [← f8, mdG_end (unhide HSz), unhide hs]; rfl)
        have HO0 : Hid (OwnV wr w.heap.size 3 (.slice (some ⟨gg, 0, none⟩) 256 cv) ((mdG s (lay s (zN i) (cAt (nL l i))) (cAt (nL l i)) 0 0).map iv)) := hide (by rw [mdG_start s _ hF]; exact unhide HO)
        replace f8 := hide f8; replace f5 := hide f5; replace f3 := hide f3
        clear HO
        go_wp2
        go_loopw [4, 6] (fun tk tst wq => ∃ (b st kb : Nat), b ≤ K ∧ Hid (st = 2 * b * s) ∧ Hid (kb = K + b) ∧ tst = .int .i64 (st : Int) ∧ tk = .int .i64 (kb : Int) ∧ Hid (OwnV wq w.heap.size 3 (.slice (some ⟨gg, 0, none⟩) 256 cv) ((mdG s (lay s (zN i) (cAt (nL l i))) (cAt (nL l i)) b 0).map iv)) ∧ Below w.heap.size w wq) (fun _ tst _ => 1000 - (intOf tst).toNat)
        case atStart => exact ⟨0, 0, K, by omega, hide (by omega), hide (by omega), rfl, rfl, HO0, hB⟩
        case round =>
          clear HO0 hB
          obtain ⟨b, st, kb, hbK, hst, hkb, rfl, rfl, HO, hB⟩ := hrel
          have hbf := blk_facts (unhide HSz) b
          rw [unhide f8] at hbf
          rw [← unhide hst] at hbf
          by_cases hb : b < K
          · have hst256 := hbf.1.2 hb
            have hst2 := hbf.2.2.1 hb
            have hstI : (st : Int) < 256 := by omega
            have hkb2 : kb < 128 := by have := unhide hkb; omega
            obtain ⟨T1, T2⟩ := zt_turn kb hkb2
            have C1 := hide (fun W => specTurn7_any (kb : Int) W)
            have C2 := hide (fun W => specPowQ_any 17 (t7 kb : Int) W)
            rw [T1] at C1
            rw [T2] at C2
            have hZ := zt_rng kb
            have HZ := hide (show zN i b = zt kb by unfold zN; rw [← unhide hK, ← unhide hkb])
            generalize zt kb = Z at *
            generalize (t7 kb : Int) = tz at *
            clear T1 T2
            have wk : IntKind.i64.wrap ((kb : Int) + 1) = ((kb + 1 : Nat) : Int) := by rw [IntKind.wrap_i64]; omega
            go_wp2_with fail
            refine ((unhide C1) wr).mono ?_
            rintro e w2 ⟨rfl, hw2⟩
            have hw3 := hw2.symm
            subst hw3
            clear hw2
            go_wp2_with fail
            refine ((unhide C2) wr).mono ?_
            rintro e w2 ⟨rfl, hw2⟩
            have hw3 := hw2.symm
            subst hw3
            clear hw2
            go_wp2
            go_loopw [8] (fun tj wq => ∃ (r j : Nat), r ≤ s ∧ Hid (j = st + r) ∧ tj = .int .i64 (j : Int) ∧ Hid (OwnV wq w.heap.size 3 (.slice (some ⟨gg, 0, none⟩) 256 cv) ((mdG s (lay s (zN i) (cAt (nL l i))) (cAt (nL l i)) b r).map iv)) ∧ Below w.heap.size w wq) (fun tj _ => 2000 - (intOf tj).toNat)
            case atStart => exact ⟨0, st, by omega, hide (by omega), rfl, HO, hB⟩
            case round =>
              clear HO hB C1 C2
              obtain ⟨r, j, hrs, hj, rfl, HO, hB⟩ := hrel
              obtain ⟨e0, he0⟩ : ∃ e : Nat, e = st + s := ⟨_, rfl⟩
              have we : IntKind.i64.wrap ((st : Int) + (s : Int)) = (e0 : Int) := by rw [IntKind.wrap_i64]; omega
              by_cases hr : r < s
              · have hje : (j : Int) < (e0 : Int) := by have := unhide hj; omega
                obtain ⟨js, hjs⟩ : ∃ js : Nat, js = j + s := ⟨_, rfl⟩
                have hj256 : j < 256 ∧ js < 256 ∧ j ≠ js := by have := unhide hj; omega
                have wj : IntKind.i64.wrap ((j : Int) + (s : Int)) = (js : Int) := by rw [IntKind.wrap_i64]; omega
                have ej : 2 * b * s + r = j := by rw [← unhide hst]; exact (unhide hj).symm
                have ejs : 2 * b * s + r + s = js := by rw [ej]; exact hjs.symm
                have hb8 : b < 128 / s := by rw [unhide f8]; exact hb
                obtain ⟨old1, old2⟩ := mdG_old (unhide HSz) (lay s (zN i) (cAt (nL l i))) (cAt (nL l i)) b r hb8 hr
                have stp := mdG_step (unhide HSz) (lay s (zN i) (cAt (nL l i))) (cAt (nL l i)) b r hb8 hr
                rw [lay_lo (unhide HSz) _ _ b r hr, lay_hi (unhide HSz) _ _ b r hr] at stp
                rw [ejs, ej] at stp
                rw [ej] at old1
                rw [ejs] at old2
                rw [unhide HZ] at stp
                have x1 := unhide hFr j hj256.1
                have y1 := unhide hFr js hj256.2.1
                have cj := (unhide HO).cell (get_iv _ j (by rw [mdG_len]; exact hj256.1))
                have cjs := (unhide HO).cell (get_iv _ js (by rw [mdG_len]; exact hj256.2.1))
                have zj := (unhide HO).frozen j
                have zjs := (unhide HO).frozen js
                rw [old1] at cj
                rw [old2] at cjs
                obtain ⟨x, hx⟩ : ∃ x, x = cAt (nL l i) j := ⟨_, rfl⟩
                obtain ⟨y, hy⟩ : ∃ y, y = cAt (nL l i) js := ⟨_, rfl⟩
                rw [← hx] at cj x1 stp
                rw [← hy] at cjs y1 stp
                have p1 : 0 ≤ Z * y := Int.mul_nonneg hZ.1 y1.1
                have p2 : Z * y ≤ 3328 * 3328 := Int.mul_le_mul hZ.2 y1.2 y1.1 (by omega)
                obtain ⟨p, hp⟩ : ∃ p, p = Z * y := ⟨_, rfl⟩
                rw [← hp] at p1 p2 stp
                obtain ⟨τ, hτ⟩ : ∃ τ, τ = p % 3329 := ⟨_, rfl⟩
                obtain ⟨d1, hd1⟩ : ∃ d, d = x - τ := ⟨_, rfl⟩
                obtain ⟨d2, hd2⟩ : ∃ d, d = d1 + 3329 := ⟨_, rfl⟩
                obtain ⟨v1, hv1⟩ : ∃ v, v = d2 % 3329 := ⟨_, rfl⟩
                obtain ⟨e1, he1⟩ : ∃ d, d = x + τ := ⟨_, rfl⟩
                obtain ⟨v2, hv2⟩ : ∃ v, v = e1 % 3329 := ⟨_, rfl⟩
                rw [show (x - p) % 3329 = v1 by omega, show (x + p) % 3329 = v2 by omega] at stp
                have q1 : IntKind.i64.wrap (Z * y) = p := by rw [← hp, IntKind.wrap_i64]; omega
                have q2 : p.tmod 3329 = τ := by rw [Int.tmod_eq_emod_of_nonneg (by omega)]; omega
                have q2' : p % 3329 = τ := hτ.symm
                have q3 : IntKind.i64.wrap τ = τ := by rw [IntKind.wrap_i64]; omega
                have q4 : IntKind.i64.wrap (x - τ) = d1 := by rw [IntKind.wrap_i64]; omega
                have q5 : IntKind.i64.wrap (d1 + 3329) = d2 := by rw [IntKind.wrap_i64]; omega
                have q6 : d2.tmod 3329 = v1 := by rw [Int.tmod_eq_emod_of_nonneg (by omega)]; omega
                have q6' : d2 % 3329 = v1 := hv1.symm
                have q7 : IntKind.i64.wrap v1 = v1 := by rw [IntKind.wrap_i64]; omega
                have q8 : IntKind.i64.wrap (x + τ) = e1 := by rw [IntKind.wrap_i64]; omega
                have q9 : e1.tmod 3329 = v2 := by rw [Int.tmod_eq_emod_of_nonneg (by omega)]; omega
                have q9' : e1 % 3329 = v2 := hv2.symm
                have q10 : IntKind.i64.wrap v2 = v2 := by rw [IntKind.wrap_i64]; omega
                have b1 : (0 : Int) ≤ (j : Int) := by omega
                have b2 : (j : Int) < 256 := by omega
                have b3 : (0 : Int) ≤ (js : Int) := by omega
                have b4 : (js : Int) < 256 := by omega
                have b5 := hj256.2.2
                have b6 : ¬ js = j := fun h => b5 h.symm
                have hO2 := ((unhide HO).set js (.int .i64 v1)).set j (.int .i64 v2)
                rw [set_iv, set_iv, stp] at hO2
                have hB2 := (hB.setCell (p := ⟨gg, js, none⟩) hgb (.int .i64 v1)).setCell (p := ⟨gg, j, none⟩) hgb (.int .i64 v2)
                have hjn : j + 1 = st + (r + 1) := by have := unhide hj; omega
                replace hO2 := hide hO2; replace hB2 := hide hB2; replace hjn := hide hjn
                replace hx := hide hx; replace hy := hide hy; replace hp := hide hp; replace hτ := hide hτ; replace hd1 := hide hd1; replace hd2 := hide hd2; replace hv1 := hide hv1; replace he1 := hide he1; replace hv2 := hide hv2; replace hjs := hide hjs; replace he0 := hide he0
                clear HO old1 old2 stp ej ejs hj256
                go_wp2
                exact ⟨⟨r + 1, j + 1, by omega, hjn, by go_num, hO2, unhide hB2⟩, by simp [intOf]; omega⟩
              · have hre : r = s := by omega
                have hje : ¬ (j : Int) < (e0 : Int) := by have := unhide hj; omega
                have HO2 : Hid (OwnV wr w.heap.size 3 (.slice (some ⟨gg, 0, none⟩) 256 cv) ((mdG s (lay s (zN i) (cAt (nL l i))) (cAt (nL l i)) (b + 1) 0).map iv)) := hide (by rw [← mdG_next (unhide HSz)]; have h := unhide HO; rw [hre] at h; exact h)
                obtain ⟨s2, hs2⟩ : ∃ s2 : Nat, s2 = 2 * s := ⟨_, rfl⟩
                obtain ⟨st2, hst3⟩ : ∃ st2 : Nat, st2 = st + s2 := ⟨_, rfl⟩
                have w1 : IntKind.i64.wrap (2 * (s : Int)) = (s2 : Int) := by rw [IntKind.wrap_i64]; omega
                have w2 : IntKind.i64.wrap ((st : Int) + (s2 : Int)) = (st2 : Int) := by rw [IntKind.wrap_i64]; omega
                have hstn := hide (show st2 = 2 * (b + 1) * s by rw [hbf.2.1]; omega)
                have hkn := hide (show kb + 1 = K + (b + 1) by have := unhide hkb; omega)
                have hinc : st < st2 ∧ st2 ≤ 256 := by omega
                replace hre := hide hre; replace he0 := hide he0; replace hs2 := hide hs2; replace hst3 := hide hst3
                clear HO hbf
                go_wp2
                exact ⟨⟨b + 1, st2, kb + 1, by omega, hstn, hkn, by first | rfl | trivial, by go_num, HO2, hB⟩, by simp [intOf]; omega⟩
          · have hbe : b = K := by omega
            have hst256 : ¬ st < 256 := fun h => hb (hbf.1.1 h)
            have hstI : ¬ (st : Int) < 256 := by omega
            have HO2 : Hid (OwnV wr w.heap.size 3 (.slice (some ⟨gg, 0, none⟩) 256 cv) ((nL l (i + 1)).map iv)) := hide (by rw [unhide HN, ← hbe]; exact unhide HO)
            obtain ⟨s', hs'⟩ : ∃ s' : Nat, s' = s / 2 := ⟨_, rfl⟩
            have w1 : (s : Int).tdiv 2 = (s' : Int) := by rw [Int.tdiv_eq_ediv_of_nonneg (by omega)]; omega
            have w1' : (s : Int) / 2 = (s' : Int) := by omega
            have w2 : IntKind.i64.wrap (s' : Int) = (s' : Int) := by rw [IntKind.wrap_i64]; omega
            have hsn := hide (show s' = sz (i + 1) by rw [unhide f3]; exact hs')
            have hkn := hide (show kb = 2 ^ (i + 1) by rw [unhide f5, unhide hkb, hbe])
            have hdec : s' < s := by omega
            replace hbe := hide hbe; replace hs' := hide hs'
            clear HO hbf
            go_wp2
            exact ⟨⟨i + 1, s', kb, by omega, hsn, hkn, by first | rfl | trivial, by first | rfl | trivial, HO2, hB⟩, by simp [intOf]; omega⟩
      · have hie : i = 7 := by omega
        have hs1 : s = 1 := by rw [unhide hs, hie]; rfl
        have hge : ¬ (2 : Int) ≤ (s : Int) := by omega
        have HO2 : Hid (OwnV wr w.heap.size 3 (.slice (some ⟨gg, 0, none⟩) 256 cv) ((nttL l).map iv)) := hide (by rw [unhide EF, ← hie]; exact unhide HO)
        replace hie := hide hie; replace hs1 := hide hs1
        clear HO
        go_wp2
        go_ret
        exact ⟨⟨_, rfl, unhide HO2⟩, hB⟩
  · have ha' : okPl l = false := by simpa using ha
    rw [ha'] at CA
    have E := hide (show nttL l = [] by unfold nttL; rw [if_neg ha])
    rw [unhide E]
    go_enter Tryd.func24, Tryd.ntmps24
    go_wp2_with fail
    refine (unhide CA).mono ?_
    rintro e w1 ⟨rfl, hw1⟩
    have hw2 := hw1.symm
    subst hw2
    clear hw1
    go_wp2
    go_ret
    exact ⟨⟨_, rfl, World.ownsRow_made w #[] 0 (Nat.le_refl _) (by decide) (by simp)⟩, (Below.refl _ _).alloc (Nat.le_refl _) _⟩
end Go.Proofs.YthjgmpfdjhegfasDoor

/- InvNtt by the given model, over the loaded program. -/
namespace Go.Proofs.YthjgmpfdjhegfasDoor
open Go.RowKit
def szI (m : Nat) : Nat := 2 ^ (m + 1)
theorem szI_facts (i : Nat) (h : i < 7) : szI i = sz (6 - i) ∧ 2 ≤ szI i ∧ szI i ≤ 128 ∧ szI (i + 1) = szI i * 2 ∧ szI i < szI (i + 1) ∧ 2 ^ (7 - i) = 2 * 2 ^ (6 - i) ∧ 2 ^ (6 - i) ≤ 64 ∧ 1 ≤ 2 ^ (6 - i) ∧ 128 / szI i = 2 ^ (6 - i) := by
  match i, h with
  | 0, _ => decide
  | 1, _ => decide
  | 2, _ => decide
  | 3, _ => decide
  | 4, _ => decide
  | 5, _ => decide
  | 6, _ => decide
  | i + 7, h => exact absurd h (by omega)
/-- The first k numbers times 3303. -/
def fnL (F : Nat → Int) (k : Nat) : List Int := mk256 fun t => if t < k then F t * 3303 % 3329 else F t
theorem fnL_len (F : Nat → Int) (k : Nat) : (fnL F k).length = 256 := mk256_len _
theorem fnL_start {l : List Int} (h : okPl l = true) : fnL (cAt l) 0 = l := by
  refine ext_pl (fnL_len _ _) (okPl_yes h).1 fun t ht => ?_
  unfold fnL
  rw [mk256_at _ t ht, if_neg (by omega)]
theorem fnL_end (F : Nat → Int) : fnL F 256 = mk256 fun t => F t * 3303 % 3329 := mk256_congr fun t ht => by rw [if_pos ht]
theorem fnL_old (F : Nat → Int) (k : Nat) (h : k < 256) : cAt (fnL F k) k = F k := by unfold fnL; rw [mk256_at _ k h, if_neg (by omega)]
theorem fnL_step (F : Nat → Int) (k : Nat) (h : k < 256) : (fnL F k).set k (F k * 3303 % 3329) = fnL F (k + 1) := by
  refine ext_pl (by rw [List.length_set, fnL_len]) (fnL_len _ _) fun t ht => ?_
  rw [cAt_set _ _ _ _ (by rw [fnL_len]; exact h)]
  unfold fnL
  rw [mk256_at _ t ht, mk256_at _ t ht]
  by_cases e : t = k
  · rw [if_pos e, if_pos (by omega), e]
  · rw [if_neg e]
    by_cases c : t < k
    · rw [if_pos c, if_pos (by omega)]
    · rw [if_neg c, if_neg (by omega)]
set_option maxRecDepth 20000 in
set_option maxHeartbeats 1000000 in
theorem specInvNtt_any (l : List Int) (va : Value) (w : World) (ra : RdV w va (l.map iv)) :
    Calls Tryd.prog 27 #[va] w fun e w' => (∃ v, e = .returned v ∧ OwnV w' w.heap.size 3 v ((invL l).map iv)) ∧ Below w.heap.size w w' := by
  obtain ⟨i0, hi, hz0, hz1, hz2⟩ := info_parts infoInt
  have CA := hide (specPolyOk_any l va w ra)
  by_cases ha : okPl l = true
  · rw [ha] at CA
    have la := (okPl_yes ha).1
    have EF := hide (invL_is ha)
    have HOK := hide (fun i => inL_ok ha i)
    obtain ⟨a1, c1, rfl, hc1⟩ := ra.open
    rw [List.length_map, la] at CA ⊢
    obtain ⟨g1, o1, rfl, hg1, _⟩ := hc1 0 _ (get_iv l 0 (by omega))
    have hcc := hide (show ∀ j u, (l.map iv)[j]? = some u → w.cell? ⟨g1, o1 + j, none⟩ = some u from fun j u hu => by
      obtain ⟨g', o', he, _, hd⟩ := hc1 j u hu
      cases he
      exact hd)
    clear ra hc1
    go_enter Tryd.func27, Tryd.ntmps27
    go_wp2_with fail
    refine (unhide CA).mono ?_
    rintro e w1 ⟨rfl, hw1⟩
    have hw2 := hw1.symm
    subst hw2
    clear hw1 CA
    go_wp2_with (at_builtin; refine wpList_copy9 rfl (.tmp 15) (.tmp 16) 31 rfl 3 i0 (.int .i64 0) 8 Tryd.underlying31 hi hz0 hz1 hz2 rfl rfl g1 o1 256 c1 (l.map iv) rfl hg1 (unhide hcc) (by rw [List.length_map]; exact la) (one_iv l) (by decide) (by decide) ?_; intro v1 w1 hO1 hb1)
    obtain ⟨av, cv, hav⟩ := hO1.shape
    rw [List.length_map, la] at hav
    subst hav
    obtain ⟨gg, hgg⟩ : ∃ g, av = some ⟨g, 0, none⟩ ∧ w.heap.size ≤ g := by
      rcases hO1.2 with ⟨h1, _⟩ | ⟨g, cap, cur, h1, hbb, _⟩
      · simp only [Value.slice.injEq] at h1; omega
      · simp only [Value.slice.injEq] at h1
        exact ⟨g, h1.1, hbb⟩
    obtain ⟨rfl, hgb⟩ := hgg
    have hO1' := hide (show OwnV w1 w.heap.size 3 (.slice (some ⟨gg, 0, none⟩) 256 cv) ((inL l 0).map iv) from hO1)
    clear hO1 hcc
    go_loopw [4, 5] (fun tk ts wr => ∃ (i s K : Nat), i ≤ 7 ∧ Hid (s = szI i) ∧ Hid (K + 1 = 2 ^ (7 - i)) ∧ tk = .int .i64 (K : Int) ∧ ts = .int .i64 (s : Int) ∧ Hid (OwnV wr w.heap.size 3 (.slice (some ⟨gg, 0, none⟩) 256 cv) ((inL l i).map iv)) ∧ Below w.heap.size w wr) (fun _ ts _ => 1000 - (intOf ts).toNat)
    case atStart => exact ⟨0, 2, 127, by omega, hide rfl, hide rfl, rfl, rfl, hO1', hb1⟩
    case round =>
      clear hO1' hb1
      obtain ⟨i, s, K, hii, hs, hK, rfl, rfl, HO, hB⟩ := hrel
      by_cases hlt : i < 7
      · obtain ⟨f0, f1, f2, f3, f4, f5, f6, f7, f8⟩ := szI_facts i hlt
        have HSz : Hid (Sz s) := hide (by rw [unhide hs, f0]; exact sz_ok (6 - i) (by omega))
        obtain ⟨NB, hNB⟩ : ∃ NB, NB = 2 ^ (6 - i) := ⟨_, rfl⟩
        rw [← unhide hs] at f0 f1 f2 f3 f4 f8
        rw [← hNB] at f5 f6 f7 f8
        have hKN : K + 1 = 2 * NB := by rw [unhide hK]; exact f5
        have hge : (s : Int) ≤ 128 := by omega
        have hF := unhide HOK i
        have hFr := hide (okPl_yes hF).2
        have HN := hide (show inL l (i + 1) = mdG s (ily s (zI (6 - i)) (cAt (inL l i))) (cAt (inL l i)) NB 0 by rw [← f8, mdG_end (unhide HSz), f0]; rfl)
        have HO0 : Hid (OwnV wr w.heap.size 3 (.slice (some ⟨gg, 0, none⟩) 256 cv) ((mdG s (ily s (zI (6 - i)) (cAt (inL l i))) (cAt (inL l i)) 0 0).map iv)) := hide (by rw [mdG_start s _ hF]; exact unhide HO)
        replace f8 := hide f8; replace f5 := hide f5; replace f3 := hide f3; replace f0 := hide f0; replace hNB := hide hNB
        clear HO
        go_wp2
        go_loopw [4, 6] (fun tk tst wq => ∃ (b st kb : Nat), b ≤ NB ∧ Hid (st = 2 * b * s) ∧ Hid (kb + b = K) ∧ tst = .int .i64 (st : Int) ∧ tk = .int .i64 (kb : Int) ∧ Hid (OwnV wq w.heap.size 3 (.slice (some ⟨gg, 0, none⟩) 256 cv) ((mdG s (ily s (zI (6 - i)) (cAt (inL l i))) (cAt (inL l i)) b 0).map iv)) ∧ Below w.heap.size w wq) (fun _ tst _ => 1000 - (intOf tst).toNat)
        case atStart => exact ⟨0, 0, K, by omega, hide (by omega), hide (by omega), rfl, rfl, HO0, hB⟩
        case round =>
          clear HO0 hB
          obtain ⟨b, st, kb, hbK, hst, hkb, rfl, rfl, HO, hB⟩ := hrel
          have hbf := blk_facts (unhide HSz) b
          rw [unhide f8] at hbf
          rw [← unhide hst] at hbf
          by_cases hb : b < NB
          · have hst256 := hbf.1.2 hb
            have hst2 := hbf.2.2.1 hb
            have hstI : (st : Int) < 256 := by omega
            have hkb2 : kb < 128 := by have := unhide hkb; omega
            obtain ⟨T1, T2⟩ := zt_turn kb hkb2
            have C1 := hide (fun W => specTurn7_any (kb : Int) W)
            have C2 := hide (fun W => specPowQ_any 17 (t7 kb : Int) W)
            rw [T1] at C1
            rw [T2] at C2
            have hZ := zt_rng kb
            have h3 : 2 ^ (6 - i + 1) = 2 ^ (7 - i) := by rw [show 6 - i + 1 = 7 - i by omega]
            have HZ := hide (show zI (6 - i) b = zt kb by
              unfold zI
              rw [h3, ← unhide hK, show K + 1 - 1 - b = kb by have h1 := unhide hkb; omega])
            clear h3
            generalize zt kb = Z at *
            generalize (t7 kb : Int) = tz at *
            clear T1 T2
            obtain ⟨kc, hkc⟩ : ∃ kc : Nat, kc + 1 = kb := ⟨kb - 1, by have := unhide hkb; omega⟩
            have wk : IntKind.i64.wrap ((kb : Int) - 1) = (kc : Int) := by rw [IntKind.wrap_i64]; omega
            replace hkc := hide hkc
            go_wp2_with fail
            refine ((unhide C1) wr).mono ?_
            rintro e w2 ⟨rfl, hw2⟩
            have hw3 := hw2.symm
            subst hw3
            clear hw2
            go_wp2_with fail
            refine ((unhide C2) wr).mono ?_
            rintro e w2 ⟨rfl, hw2⟩
            have hw3 := hw2.symm
            subst hw3
            clear hw2
            go_wp2
            go_loopw [8] (fun tj wq => ∃ (r j : Nat), r ≤ s ∧ Hid (j = st + r) ∧ tj = .int .i64 (j : Int) ∧ Hid (OwnV wq w.heap.size 3 (.slice (some ⟨gg, 0, none⟩) 256 cv) ((mdG s (ily s (zI (6 - i)) (cAt (inL l i))) (cAt (inL l i)) b r).map iv)) ∧ Below w.heap.size w wq) (fun tj _ => 2000 - (intOf tj).toNat)
            case atStart => exact ⟨0, st, by omega, hide (by omega), rfl, HO, hB⟩
            case round =>
              clear HO hB C1 C2
              obtain ⟨r, j, hrs, hj, rfl, HO, hB⟩ := hrel
              obtain ⟨e0, he0⟩ : ∃ e : Nat, e = st + s := ⟨_, rfl⟩
              have we : IntKind.i64.wrap ((st : Int) + (s : Int)) = (e0 : Int) := by rw [IntKind.wrap_i64]; omega
              by_cases hr : r < s
              · have hje : (j : Int) < (e0 : Int) := by have := unhide hj; omega
                obtain ⟨js, hjs⟩ : ∃ js : Nat, js = j + s := ⟨_, rfl⟩
                have hj256 : j < 256 ∧ js < 256 ∧ j ≠ js := by have := unhide hj; omega
                have wj : IntKind.i64.wrap ((j : Int) + (s : Int)) = (js : Int) := by rw [IntKind.wrap_i64]; omega
                have ej : 2 * b * s + r = j := by rw [← unhide hst]; exact (unhide hj).symm
                have ejs : 2 * b * s + r + s = js := by rw [ej]; exact hjs.symm
                have hb8 : b < 128 / s := by rw [unhide f8]; exact hb
                obtain ⟨old1, old2⟩ := mdG_old (unhide HSz) (ily s (zI (6 - i)) (cAt (inL l i))) (cAt (inL l i)) b r hb8 hr
                have stp := mdG_step' (unhide HSz) (ily s (zI (6 - i)) (cAt (inL l i))) (cAt (inL l i)) b r hb8 hr
                rw [ily_lo (unhide HSz) _ _ b r hr, ily_hi (unhide HSz) _ _ b r hr] at stp
                rw [ejs, ej] at stp
                rw [ej] at old1
                rw [ejs] at old2
                rw [unhide HZ] at stp
                have x1 := unhide hFr j hj256.1
                have y1 := unhide hFr js hj256.2.1
                have cj := (unhide HO).cell (get_iv _ j (by rw [mdG_len]; exact hj256.1))
                have cjs := (unhide HO).cell (get_iv _ js (by rw [mdG_len]; exact hj256.2.1))
                have zj := (unhide HO).frozen j
                have zjs := (unhide HO).frozen js
                rw [old1] at cj
                rw [old2] at cjs
                obtain ⟨x, hx⟩ : ∃ x, x = cAt (inL l i) j := ⟨_, rfl⟩
                obtain ⟨y, hy⟩ : ∃ y, y = cAt (inL l i) js := ⟨_, rfl⟩
                rw [← hx] at cj x1 stp
                rw [← hy] at cjs y1 stp
                obtain ⟨e1, he1⟩ : ∃ d, d = x + y := ⟨_, rfl⟩
                obtain ⟨v2, hv2⟩ : ∃ v, v = e1 % 3329 := ⟨_, rfl⟩
                obtain ⟨d1, hd1⟩ : ∃ d, d = y - x := ⟨_, rfl⟩
                obtain ⟨d2, hd2⟩ : ∃ d, d = d1 + 3329 := ⟨_, rfl⟩
                have p1 : 0 ≤ Z * d2 := Int.mul_nonneg hZ.1 (by omega)
                have p2 : Z * d2 ≤ 3328 * 6657 := Int.mul_le_mul hZ.2 (by omega) (by omega) (by omega)
                obtain ⟨p, hp⟩ : ∃ p, p = Z * d2 := ⟨_, rfl⟩
                rw [← hp] at p1 p2
                obtain ⟨v1, hv1⟩ : ∃ v, v = p % 3329 := ⟨_, rfl⟩
                have hpd : p = Z * (y - x) + 3329 * Z := by rw [hp, hd2, hd1, Int.mul_add, Int.mul_comm Z 3329]
                rw [show (x + y) % 3329 = v2 by omega, show Z * (y - x) % 3329 = v1 by generalize Z * (y - x) = qq at hpd ⊢; omega] at stp
                have q1 : IntKind.i64.wrap (Z * d2) = p := by rw [← hp, IntKind.wrap_i64]; omega
                have q2 : p.tmod 3329 = v1 := by rw [Int.tmod_eq_emod_of_nonneg (by omega)]; omega
                have q2' : p % 3329 = v1 := hv1.symm
                have q3 : IntKind.i64.wrap v1 = v1 := by rw [IntKind.wrap_i64]; omega
                have q4 : IntKind.i64.wrap (y - x) = d1 := by rw [IntKind.wrap_i64]; omega
                have q5 : IntKind.i64.wrap (d1 + 3329) = d2 := by rw [IntKind.wrap_i64]; omega
                have q8 : IntKind.i64.wrap (x + y) = e1 := by rw [IntKind.wrap_i64]; omega
                have q9 : e1.tmod 3329 = v2 := by rw [Int.tmod_eq_emod_of_nonneg (by omega)]; omega
                have q9' : e1 % 3329 = v2 := hv2.symm
                have q10 : IntKind.i64.wrap v2 = v2 := by rw [IntKind.wrap_i64]; omega
                replace hpd := hide hpd
                have b1 : (0 : Int) ≤ (j : Int) := by omega
                have b2 : (j : Int) < 256 := by omega
                have b3 : (0 : Int) ≤ (js : Int) := by omega
                have b4 : (js : Int) < 256 := by omega
                have b5 := hj256.2.2
                have b6 : ¬ js = j := fun h => b5 h.symm
                have hO2 := ((unhide HO).set j (.int .i64 v2)).set js (.int .i64 v1)
                rw [set_iv, set_iv, stp] at hO2
                have hB2 := (hB.setCell (p := ⟨gg, j, none⟩) hgb (.int .i64 v2)).setCell (p := ⟨gg, js, none⟩) hgb (.int .i64 v1)
                have hjn : j + 1 = st + (r + 1) := by have := unhide hj; omega
                replace hO2 := hide hO2; replace hB2 := hide hB2; replace hjn := hide hjn
                replace hx := hide hx; replace hy := hide hy; replace hp := hide hp; replace hd1 := hide hd1; replace hd2 := hide hd2; replace hv1 := hide hv1; replace he1 := hide he1; replace hv2 := hide hv2; replace hjs := hide hjs; replace he0 := hide he0
                clear HO old1 old2 stp ej ejs hj256
                go_wp2
                exact ⟨⟨r + 1, j + 1, by omega, hjn, by go_num, hO2, unhide hB2⟩, by simp [intOf]; omega⟩
              · have hre : r = s := by omega
                have hje : ¬ (j : Int) < (e0 : Int) := by have := unhide hj; omega
                have HO2 : Hid (OwnV wr w.heap.size 3 (.slice (some ⟨gg, 0, none⟩) 256 cv) ((mdG s (ily s (zI (6 - i)) (cAt (inL l i))) (cAt (inL l i)) (b + 1) 0).map iv)) := hide (by rw [← mdG_next (unhide HSz)]; have h := unhide HO; rw [hre] at h; exact h)
                obtain ⟨s2, hs2⟩ : ∃ s2 : Nat, s2 = 2 * s := ⟨_, rfl⟩
                obtain ⟨st2, hst3⟩ : ∃ st2 : Nat, st2 = st + s2 := ⟨_, rfl⟩
                have w1 : IntKind.i64.wrap (2 * (s : Int)) = (s2 : Int) := by rw [IntKind.wrap_i64]; omega
                have w2 : IntKind.i64.wrap ((st : Int) + (s2 : Int)) = (st2 : Int) := by rw [IntKind.wrap_i64]; omega
                have hstn := hide (show st2 = 2 * (b + 1) * s by rw [hbf.2.1]; omega)
                have hkn := hide (show kc + (b + 1) = K by have h1 := unhide hkb; have h2 := unhide hkc; omega)
                have hinc : st < st2 ∧ st2 ≤ 256 := by omega
                replace hre := hide hre; replace he0 := hide he0; replace hs2 := hide hs2; replace hst3 := hide hst3
                clear HO hbf
                go_wp2
                exact ⟨⟨b + 1, st2, kc, by omega, hstn, hkn, by first | rfl | trivial, by first | rfl | trivial, HO2, hB⟩, by simp [intOf]; omega⟩
          · have hbe : b = NB := by omega
            have hst256 : ¬ st < 256 := fun h => hb (hbf.1.1 h)
            have hstI : ¬ (st : Int) < 256 := by omega
            have HO2 : Hid (OwnV wr w.heap.size 3 (.slice (some ⟨gg, 0, none⟩) 256 cv) ((inL l (i + 1)).map iv)) := hide (by rw [unhide HN, ← hbe]; exact unhide HO)
            obtain ⟨s', hs'⟩ : ∃ s' : Nat, s' = s * 2 := ⟨_, rfl⟩
            have w1 : IntKind.i64.wrap ((s : Int) * 2) = (s' : Int) := by rw [IntKind.wrap_i64]; omega
            have hsn := hide (show s' = szI (i + 1) by rw [unhide f3]; exact hs')
            have hkn := hide (show kb + 1 = 2 ^ (7 - (i + 1)) by rw [show 7 - (i + 1) = 6 - i by omega, ← unhide hNB]; have := unhide hkb; omega)
            have hdec : s < s' := by omega
            replace hbe := hide hbe; replace hs' := hide hs'
            clear HO hbf
            go_wp2
            exact ⟨⟨i + 1, s', kb, by omega, hsn, hkn, by first | rfl | trivial, by first | rfl | trivial, HO2, hB⟩, by simp [intOf]; omega⟩
      · have hie : i = 7 := by omega
        have hs1 : s = 256 := by rw [unhide hs, hie]; rfl
        have hge : ¬ (s : Int) ≤ 128 := by omega
        have h7 := unhide HOK 7
        have HO2 : Hid (OwnV wr w.heap.size 3 (.slice (some ⟨gg, 0, none⟩) 256 cv) ((fnL (cAt (inL l 7)) 0).map iv)) := hide (by rw [fnL_start h7, ← hie]; exact unhide HO)
        have hr7 := hide (okPl_yes h7).2
        replace hie := hide hie; replace hs1 := hide hs1
        clear HO
        go_wp2
        go_loopw [10] (fun ti wq => ∃ k : Nat, k ≤ 256 ∧ ti = .int .i64 (k : Int) ∧ Hid (OwnV wq w.heap.size 3 (.slice (some ⟨gg, 0, none⟩) 256 cv) ((fnL (cAt (inL l 7)) k).map iv)) ∧ Below w.heap.size w wq) (fun ti _ => 256 - (intOf ti).toNat)
        case atStart => exact ⟨0, by omega, rfl, HO2, hB⟩
        case round =>
          clear HO2 hB
          obtain ⟨k, hk, rfl, HO, hB⟩ := hrel
          by_cases hltk : k < 256
          · have hk' : (k : Int) < 256 := by omega
            have hk0 : (0 : Int) ≤ (k : Int) := by omega
            have cu := (unhide HO).cell (get_iv _ k (by rw [fnL_len]; exact hltk))
            have cz := (unhide HO).frozen k
            rw [fnL_old _ k hltk] at cu
            have stp := fnL_step (cAt (inL l 7)) k hltk
            have xb := unhide hr7 k hltk
            generalize cAt (inL l 7) k = x at cu xb stp
            obtain ⟨p, hp⟩ : ∃ p, p = x * 3303 := ⟨_, rfl⟩
            obtain ⟨v, hv⟩ : ∃ v, v = p % 3329 := ⟨_, rfl⟩
            rw [← hp, ← hv] at stp
            have q1 : IntKind.i64.wrap (x * 3303) = p := by rw [IntKind.wrap_i64]; omega
            have q2 : p.tmod 3329 = v := by rw [Int.tmod_eq_emod_of_nonneg (by omega)]; omega
            have q2' : p % 3329 = v := hv.symm
            have q3 : IntKind.i64.wrap v = v := by rw [IntKind.wrap_i64]; omega
            have hO2 := (unhide HO).set k (.int .i64 v)
            rw [set_iv, stp] at hO2
            have hB2 := hB.setCell (p := ⟨gg, k, none⟩) hgb (.int .i64 v)
            replace hO2 := hide hO2; replace hB2 := hide hB2; replace hp := hide hp; replace hv := hide hv; replace stp := hide stp
            clear HO
            go_wp2
            exact ⟨⟨k + 1, by omega, by go_num, hO2, unhide hB2⟩, by simp [intOf]; omega⟩
          · have hk' : ¬ (k : Int) < 256 := by omega
            have hke : k = 256 := by omega
            have HO2 : Hid (OwnV wr w.heap.size 3 (.slice (some ⟨gg, 0, none⟩) 256 cv) ((invL l).map iv)) := hide (by rw [unhide EF, ← fnL_end]; have h := unhide HO; rw [hke] at h; exact h)
            replace hke := hide hke
            clear HO
            go_wp2
            go_ret
            exact ⟨⟨_, rfl, unhide HO2⟩, hB⟩
  · have ha' : okPl l = false := by simpa using ha
    rw [ha'] at CA
    have E := hide (show invL l = [] by unfold invL; rw [if_neg ha])
    rw [unhide E]
    go_enter Tryd.func27, Tryd.ntmps27
    go_wp2_with fail
    refine (unhide CA).mono ?_
    rintro e w1 ⟨rfl, hw1⟩
    have hw2 := hw1.symm
    subst hw2
    clear hw1
    go_wp2
    go_ret
    exact ⟨⟨_, rfl, World.ownsRow_made w #[] 0 (Nat.le_refl _) (by decide) (by simp)⟩, (Below.refl _ _).alloc (Nat.le_refl _) _⟩
end Go.Proofs.YthjgmpfdjhegfasDoor

/- A secret handed over, by the given model: what a cipher hides, over the loaded program. -/
namespace Go.Proofs.YthjgmpfdjhegfasDoor
open Go.RowKit
def openOk (s c : ByteArray) : Bool := decide (s.size = 1632) && (decide (c.size = 768) && plsOk s)
def openL (s c : ByteArray) : List Int := if openOk s c = true then subL (strL (c.extract 640 c.size) 4) (invL (sumK (fun i => pfL (pieceB s 384 i)) (fun i => nttL (strL (pieceB c 320 i) 10)) 2)) else []
theorem cut13l (T : ByteArray) (i : Nat) (w : World) (h2 : i ≤ T.size) : (Instr.slice 9 (.string T) (some (.int .i64 (i : Int))) none none).run Tryd.prog w = .ok (.string (T.extract i T.size)) w := by
  rw [run_slice_string_l w 9 T Tryd.underlying9 .i64 (i : Int) (by omega) (by omega)]
  rfl
set_option maxRecDepth 20000 in
set_option maxHeartbeats 1600000 in
theorem specOpen_any (s c : ByteArray) (hs : s.size ≤ 1048576) (_ : c.size ≤ 1048576) (w : World) :
    Calls Tryd.prog 14 #[.string s, .string c] w fun e w' => (∃ v, e = .returned (.tuple #[v, .bool (openOk s c)]) ∧ OwnV w' w.heap.size 3 v ((openL s c).map iv)) ∧ Below w.heap.size w w' := by
  obtain ⟨i0, hi, hz0, hz1, hz2⟩ := info_parts infoRow
  by_cases h1 : s.size = 1632
  · by_cases h2 : c.size = 768
    · have h1' : (s.size : Int) = 1632 := by omega
      have h2' : (c.size : Int) = 768 := by omega
      have d1 : ((s.size : Int) != 1632) = false := by rw [h1']; rfl
      have CP := hide (specPolys_any s (by omega) hs w)
      cases hp : plsOk s with
      | false =>
        have EO := hide (show openOk s c = false by unfold openOk; rw [hp, Bool.and_false, Bool.and_false])
        have EL := hide (show openL s c = [] by unfold openL; rw [unhide EO]; rfl)
        rw [unhide EO, unhide EL]
        rw [hp] at CP
        clear hp
        replace h1 := hide h1; replace h2 := hide h2
        go_enter Tryd.func14, Tryd.ntmps14
        go_wp2_with fail
        refine (unhide CP).mono ?_
        rintro e w1 ⟨⟨v, rfl, _⟩, hb1⟩
        have hsz1 := hb1.size
        have hb2 := hb1.alloc hsz1 (.cells #[] 3)
        have ho : OwnV (w1.alloc (.cells #[] 3)) w.heap.size 3 (.slice (some ⟨w1.heap.size, 0, none⟩) 0 0) ([] : List Value) := World.ownsRow_made w1 #[] 0 hsz1 (by decide) (by simp)
        replace ho := hide ho
        clear CP
        go_wp2
        refine bodyPost_ret (v := .tuple #[.slice (some ⟨w1.heap.size, 0, none⟩) 0 0, .bool false]) (by simp [results, Tryd.results14, go_sem]) rfl ⟨⟨_, rfl, unhide ho⟩, hb2⟩
      | true =>
        have EO := hide (show openOk s c = true by unfold openOk; rw [hp, h1, h2]; rfl)
        obtain ⟨Ps, hPs⟩ : ∃ P : Nat → List Int, P = fun i => pfL (pieceB s 384 i) := ⟨_, rfl⟩
        obtain ⟨Pc, hPc⟩ : ∃ P : Nat → ByteArray, P = pieceB c 320 := ⟨_, rfl⟩
        obtain ⟨cl, hcl⟩ : ∃ x : ByteArray, x = c.extract 640 c.size := ⟨_, rfl⟩
        obtain ⟨Bs, hBs⟩ : ∃ P : Nat → List Int, P = fun i => nttL (strL (Pc i) 10) := ⟨_, rfl⟩
        have EL := hide (show openL s c = subL (strL cl 4) (invL (sumK Ps Bs 2)) by unfold openL; rw [if_pos (unhide EO), hcl, hPs, hBs, hPc])
        rw [hp] at CP
        rw [show pfL (pieceB s 384 0) = Ps 0 by rw [hPs], show pfL (pieceB s 384 1) = Ps 1 by rw [hPs]] at CP
        have HSl := hide (show ∀ k, k < 2 → ∀ W, (Instr.slice 9 (.string c) (some (.int .i64 ((k * 320 : Nat) : Int))) (some (.int .i64 (((k + 1) * 320 : Nat) : Int))) none).run Tryd.prog W = .ok (.string (Pc k)) W from fun k hk W => by rw [hPc]; exact cut13 c (k * 320) ((k + 1) * 320) W (by omega) (by omega))
        have HSt := hide (show ∀ W, (Instr.slice 9 (.string c) (some (.int .i64 640)) none none).run Tryd.prog W = .ok (.string cl) W from fun W => by rw [hcl]; exact cut13l c 640 W (by omega))
        have hcs : cl.size ≤ 1048576 := by rw [hcl, ByteArray.size_extract]; omega
        have CT := hide (fun (k : Nat) (hk : k < 2) W => specStretched_any (Pc k) 10 (by rw [hPc]; unfold pieceB; rw [ByteArray.size_extract]; omega) W)
        have CV := hide (fun W => specStretched_any cl 4 hcs W)
        have CN := hide (fun k u W r => specNtt_any (strL (Pc k) 10) u W r)
        have EB := hide (show ∀ k, nttL (strL (Pc k) 10) = Bs k from fun k => by rw [hBs])
        have CS := hide (fun va vb vsa vsb (la : vsa.length = 2) (lb : vsb.length = 2) W ra rb HA HB => specSum_any Ps Bs 2 (by omega) va vb vsa vsb la lb W ra rb HA HB)
        have CI := hide (fun u W r => specInvNtt_any (sumK Ps Bs 2) u W r)
        have CD := hide (fun u v W r1 r2 => specPolySub_any (strL cl 4) (invL (sumK Ps Bs 2)) u v W r1 r2)
        rw [← unhide EL] at CD
        generalize openL s c = L at *
        generalize openOk s c = ok at *
        have EO' := unhide EO
        subst EO'
        generalize sumK Ps Bs 2 = su at *
        generalize invL su = iu at *
        generalize strL cl 4 = vl at *
        clear hp hPs hPc hcl hBs EL EO
        replace h1 := hide h1; replace h2 := hide h2; replace hcs := hide hcs
        go_enter Tryd.func14, Tryd.ntmps14
        go_wp2_with fail
        refine (unhide CP).mono ?_
        rintro e w2 ⟨⟨vs0, rfl, hv⟩, hb2⟩
        obtain ⟨v0, v1, os, o0, o1⟩ := hv (by first | trivial | rfl)
        have rs := hide os.rdv
        have r0 := hide o0.rdv
        have r1 := hide o1.rdv
        clear CP hv os o0 o1
        have hsz2 := hb2.size
        go_wp2
        go_loopw [8, 9] (fun tv ti wr => ∃ (k : Nat) (vs : List Value), k ≤ 2 ∧ ti = .int .i64 (k : Int) ∧ Hid (vs.length = k) ∧ Hid (OwnV wr w2.heap.size 31 tv vs) ∧ Hid (∀ i v, vs[i]? = some v → OwnV wr w2.heap.size 3 v ((Bs i).map iv)) ∧ Below w2.heap.size w2 wr) (fun _ ti _ => 2 - (intOf ti).toNat)
        case atStart => exact ⟨0, [], by omega, rfl, hide rfl, hide (World.ownsRow_made w2 #[] 0 (Nat.le_refl _) (by decide) (by simp)), hide (fun i v h => by simp at h), (Below.refl _ _).alloc (Nat.le_refl _) _⟩
        case round =>
          obtain ⟨k, vs, hk, rfl, HL, HO, HV, hB⟩ := hrel
          have hsz := hB.size
          by_cases hlt : k < 2
          · have hk' : (k : Int) < 2 := by omega
            obtain ⟨m, hm⟩ : ∃ m, m = k * 320 := ⟨_, rfl⟩
            obtain ⟨m2, hm2⟩ : ∃ m, m = (k + 1) * 320 := ⟨_, rfl⟩
            have t1 : IntKind.i64.wrap ((k : Int) * 320) = (m : Int) := by rw [IntKind.wrap_i64]; omega
            obtain ⟨k1, hk1⟩ : ∃ m, m = k + 1 := ⟨_, rfl⟩
            have t2 : IntKind.i64.wrap ((k : Int) + 1) = (k1 : Int) := by rw [IntKind.wrap_i64]; omega
            have t3 : IntKind.i64.wrap ((k1 : Int) * 320) = (m2 : Int) := by rw [IntKind.wrap_i64]; omega
            have hsl := unhide HSl k hlt
            rw [← hm, ← hm2] at hsl
            have C1 := hide (fun W => unhide CT k hlt W)
            have C2 := hide (fun u W r => unhide CN k u W r)
            rw [unhide EB k] at C2
            obtain ⟨p, hp⟩ : ∃ p, p = Pc k := ⟨_, rfl⟩
            rw [← hp] at hsl C1 C2
            obtain ⟨pl, hpl⟩ : ∃ l, l = strL p 10 := ⟨_, rfl⟩
            rw [← hpl] at C1 C2
            obtain ⟨bl, hbl⟩ : ∃ l, l = Bs k := ⟨_, rfl⟩
            rw [← hbl] at C2
            replace hm := hide hm; replace hm2 := hide hm2; replace hk1 := hide hk1; replace hp := hide hp; replace hpl := hide hpl; replace hbl := hide hbl
            clear CT CN CS CI CD CV HSl HSt EB
            go_wp2_with fail
            refine (unhide C1 wr).mono ?_
            rintro e w3 ⟨⟨vS, rfl, oS⟩, hb3⟩
            have hB3 := hB.trans (hb3.mono hsz)
            have hO3 := (unhide HO).below hb3
            have hV3 : ∀ i u, vs[i]? = some u → OwnV w3 w2.heap.size 3 u ((Bs i).map iv) := fun i u h => (unhide HV i u h).below hb3
            have rS := oS.rdv
            replace hO3 := hide hO3; replace hV3 := hide hV3
            clear oS HO HV hB hb3 C1 hsl
            go_wp2_with fail
            refine (unhide C2 vS w3 rS).mono ?_
            rintro e w4 ⟨⟨vN, rfl, oN⟩, hb4⟩
            have hB4 := hB3.trans (hb4.mono hB3.size)
            have hO1 := (unhide hO3).below hb4
            have hV1 : ∀ i u, vs[i]? = some u → OwnV w4 w2.heap.size 3 u ((Bs i).map iv) := fun i u h => (unhide hV3 i u h).below hb4
            have ov1 := oN.low hB3.size
            have hsz1 := hB4.size
            clear hO3 hV3 hB3 hb4 rS oN C2
            have hl1 : vs.length + 1 ≤ maxLen := by rw [unhide HL]; unfold maxLen; omega
            have hl2 : (vs.length + 1) * 24 ≤ 140737488355328 := by rw [unhide HL]; omega
            replace hl1 := hide hl1; replace hl2 := hide hl2; replace hO1 := hide hO1; replace hV1 := hide hV1; replace ov1 := hide ov1
            obtain ⟨av, cv, rfl⟩ := (unhide ov1).shape
            rw [List.length_map] at ov1 ⊢
            go_wp2_with (at_builtin; refine wpList_append_grow (w := w4) rfl (.tmp 33) (.tmp 43) 28 rfl w2.heap.size 31 i0 (.slice none 0 0) 24 Tryd.underlying28 hi hz0 hz1 hz2 rfl u8 vs (by rfl) (unhide hO1) (.slice av bl.length cv) rfl (by rfl) (unhide hl1) (unhide hl2) hsz1 ?_; intro v' w5 ho5 hg5)
            have hne : ∀ u xs, OwnV w4 w2.heap.size 3 u xs → ∀ n, u.ownBlock = some n → u8.ownBlock ≠ some n := fun u xs h n hn => h.apart (unhide hO1) (by decide) n hn
            have hB5 := (hB4.alloc hsz1 (.cells #[.slice av bl.length cv] 31)).grown hg5 (by simp; omega) (fun n hn => ((unhide hO1).lt n hn).1)
            have hV5 := hide (show ∀ i u, (vs ++ [.slice av bl.length cv])[i]? = some u → OwnV w5 w2.heap.size 3 u ((Bs i).map iv) from fun i u h => by
              by_cases hi9 : i < vs.length
              · rw [List.getElem?_append_left hi9] at h
                exact ((unhide hV1 i u h).alloc _).grown hg5 (hne u _ (unhide hV1 i u h))
              · have hie : i = vs.length := by
                  have h2 := (List.getElem?_eq_some_iff.mp h).1
                  rw [List.length_append] at h2
                  simp at h2
                  omega
                subst hie
                rw [List.getElem?_append_right (Nat.le_refl _), Nat.sub_self] at h
                have hu : Value.slice av bl.length cv = u := by simpa using h
                subst hu
                have hx : (Bs vs.length).map iv = bl.map iv := by rw [unhide HL, ← unhide hbl]
                rw [hx]
                exact ((unhide ov1).alloc _).grown hg5 (hne _ _ (unhide ov1)))
            have hL5 := hide (show (vs ++ [Value.slice av bl.length cv]).length = k + 1 by rw [List.length_append, unhide HL]; rfl)
            replace ho5 := hide ho5
            clear hne hg5 hV1 hO1 ov1 HL
            go_wp2
            exact ⟨⟨k + 1, vs ++ [.slice av bl.length cv], by omega, by first | go_num | (rw [← unhide hk1]), hL5, ho5, hV5, hB5⟩, by have := unhide hk1; simp [intOf]; omega⟩
          · have hk' : ¬ (k : Int) < 2 := by omega
            have hke : k = 2 := by omega
            have hL2 : vs.length = 2 := by rw [unhide HL]; exact hke
            have rU := (unhide HO).rdv
            have rV : ∀ i u, vs[i]? = some u → RdV wr u ((Bs i).map iv) := fun i u h => (unhide HV i u h).rdv
            have rsW := (unhide rs).below hB
            have rPs : ∀ i u, [v0, v1][i]? = some u → RdV wr u ((Ps i).map iv) := fun i u h => by
              match i, h with
              | 0, h => cases h; exact (unhide r0).below hB
              | 1, h => cases h; exact (unhide r1).below hB
              | i + 2, h => simp at h
            have hsl := unhide HSt
            replace rU := hide rU; replace rV := hide rV; replace rsW := hide rsW; replace rPs := hide rPs; replace hL2 := hide hL2; replace hke := hide hke
            clear HO HV HL CT CN HSl HSt EB rs r0 r1
            go_wp2_with fail
            refine (unhide CV wr).mono ?_
            rintro e w3 ⟨⟨vv, rfl, ovv⟩, hb3⟩
            have rvv := hide ovv.rdv
            have hB3 := hB.trans (hb3.mono hsz)
            have CSw := hide (unhide CS _ _ _ _ rfl (unhide hL2) w3 ((unhide rsW).below hb3) ((unhide rU).below hb3) (fun i u h => (unhide rPs i u h).below hb3) (fun i u h => (unhide rV i u h).below hb3))
            clear ovv hb3 hB rU rV rsW rPs hsl CV CS
            go_wp2_with fail
            refine (unhide CSw).mono ?_
            rintro e w4 ⟨⟨vq, rfl, oq⟩, hb4⟩
            have rq := hide oq.rdv
            have rvv4 := hide ((unhide rvv).below hb4)
            have hB4 := hB3.trans (hb4.mono hB3.size)
            clear oq hb4 hB3 rvv CSw
            go_wp2_with fail
            refine (unhide CI vq w4 (unhide rq)).mono ?_
            rintro e w5 ⟨⟨vi, rfl, oi⟩, hb5⟩
            have ri := hide oi.rdv
            have rvv5 := hide ((unhide rvv4).below hb5)
            have hB5 := hB4.trans (hb5.mono hB4.size)
            clear oi hb5 hB4 rvv4 rq
            go_wp2_with fail
            refine (unhide CD vv vi w5 (unhide rvv5) (unhide ri)).mono ?_
            rintro e w6 ⟨⟨vd, rfl, od⟩, hb6⟩
            have hB6 := hB5.trans (hb6.mono hB5.size)
            have hT6 := hb2.trans (hB6.mono hsz2)
            have od' := hide (od.low (Nat.le_trans hsz2 hB5.size))
            clear od hb6 hB5 rvv5 ri hB6
            go_wp2
            refine bodyPost_ret (v := .tuple #[vd, .bool true]) (by simp [results, Tryd.results14, go_sem]) rfl ⟨⟨_, rfl, unhide od'⟩, hT6⟩
    · have EO := hide (show openOk s c = false by unfold openOk; rw [decide_eq_false h2, Bool.false_and, Bool.and_false])
      have EL := hide (show openL s c = [] by unfold openL; rw [unhide EO]; rfl)
      rw [unhide EO, unhide EL]
      have h1' : (s.size : Int) = 1632 := by omega
      have h2' : ¬ (c.size : Int) = 768 := by omega
      go_enter Tryd.func14, Tryd.ntmps14
      go_wp2
      refine bodyPost_ret (v := .tuple #[.slice (some ⟨w.heap.size, 0, none⟩) 0 0, .bool false]) (by simp [results, Tryd.results14, go_sem]) rfl ⟨⟨_, rfl, World.ownsRow_made w #[] 0 (Nat.le_refl _) (by decide) (by simp)⟩, (Below.refl _ _).alloc (Nat.le_refl _) _⟩
  · have EO := hide (show openOk s c = false by unfold openOk; rw [decide_eq_false h1]; rfl)
    have EL := hide (show openL s c = [] by unfold openL; rw [unhide EO]; rfl)
    rw [unhide EO, unhide EL]
    have h1' : ¬ (s.size : Int) = 1632 := by omega
    go_enter Tryd.func14, Tryd.ntmps14
    go_wp2
    refine bodyPost_ret (v := .tuple #[.slice (some ⟨w.heap.size, 0, none⟩) 0 0, .bool false]) (by simp [results, Tryd.results14, go_sem]) rfl ⟨⟨_, rfl, World.ownsRow_made w #[] 0 (Nat.le_refl _) (by decide) (by simp)⟩, (Below.refl _ _).alloc (Nat.le_refl _) _⟩
end Go.Proofs.YthjgmpfdjhegfasDoor

