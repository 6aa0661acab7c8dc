/- MulNtt by the given model, over the loaded program. -/
import Derived.Test.YtdannnkdapbefaqNtp3
import Derived.Deep.RegionHeld3
import Derived.Deep.QuietTactic
import Derived.BigQuiet
namespace Go.Proofs.Ytdannnkdapbefaq
open Go.RowKit
theorem step_append_w9 {P : Program} {w W : World} {ops : Array Oper} {o : Oper} {a : Act} {K : Act → World → Prop} {Q : Exit → Act → World → Prop} {E : Prop} {e : TypeId} {x1 x2 : Int} (hW : W = w.alloc (.cells #[.int .i64 x1, .int .i64 x2] e)) (hg : o.guard = none) (s y : Operand) (t : TypeId)
    (ho : o.op = .call { callee := .builtin .append, args := #[s, y], argTypes := #[t, t] })
    (base B : Nat) (i : TypeInfo) (z : Value) (nb : Nat) (ht : P.underlying t = some (.slice e)) (hi : P.info? e = some i) (hz : i.zero = some z) (hsize : i.size = 1) (hby : i.bytes = nb) (hzs : z.cells.size = 1)
    (v : Value) (xs : List Value) (hs : a.eval s = v) (hown : OwnV w base e v xs)
    (hx : a.eval y = .slice (some ⟨w.heap.size, 0, none⟩) 2 2)
    (h63 : xs.length + 2 ≤ maxLen) (hbytes : (xs.length + 2) * nb ≤ 140737488355328) (hB : B ≤ base) (hbase : base ≤ w.heap.size) {w00 : World} (hbel : Below B w00 w)
    (h : ∀ v' w', OwnV w' base e v' (xs ++ [.int .i64 x1, .int .i64 x2]) → Below B w00 w' → K (a.put o.dst v') w') :
    if Region.wanted o (yielded ops a.tmps) = true then Oper.wp P o a W K Q else E := by
  subst hW
  have hw : Region.wanted o (yielded ops a.tmps) = true := by simp [Region.wanted, hg]
  rw [if_pos hw]
  exact wp_append_vals s y t ho base B e i z nb ht hi hz hsize hby hzs v xs hs (hown.alloc _) w.heap.size #[.int .i64 x1, .int .i64 x2] (heap_alloc_new w _) [.int .i64 x1, .int .i64 x2] rfl (by intro u hu; simp only [List.mem_cons, List.not_mem_nil, or_false] at hu; rcases hu with rfl | rfl <;> rfl) 2 2 rfl hx h63 hbytes hB (by simp; omega) (hbel.alloc (by omega) _) h
theorem gm_rng (k : Nat) : 0 ≤ gm k ∧ gm k ≤ 3328 := by unfold gm powM; omega
theorem gm_pow (k : Nat) : powQ 17 (2 * (t7 k : Int) + 1) = gm k := by
  have := t7_lt k
  unfold powQ gm
  rw [if_pos (by omega), show (2 * (t7 k : Int) + 1).toNat = 2 * t7 k + 1 by omega]
  rfl
theorem pre_two (f : Nat → Int) (k : Nat) : preL f (2 * (k + 1)) = preL f (2 * k) ++ [f (2 * k), f (2 * k + 1)] := by
  rw [show 2 * (k + 1) = 2 * k + 1 + 1 by omega, preL_succ, preL_succ, List.append_assoc]
  rfl
theorem mnF_even (F G : Nat → Int) (k : Nat) : mnF F G (2 * k) = F (2 * k) * G (2 * k) + F (2 * k + 1) * G (2 * k + 1) * gm k := by
  unfold mnF; rw [if_pos (by omega), show 2 * k / 2 = k by omega]
theorem mnF_odd (F G : Nat → Int) (k : Nat) : mnF F G (2 * k + 1) = F (2 * k) * G (2 * k + 1) + F (2 * k + 1) * G (2 * k) := by
  unfold mnF; rw [if_neg (by omega), show 2 * k + 1 - 1 = 2 * k by omega]
theorem mul_rng {x y : Int} (hx : 0 ≤ x ∧ x ≤ 3328) (hy : 0 ≤ y ∧ y ≤ 3328) : 0 ≤ x * y ∧ x * y ≤ 11075584 := by
  constructor
  · exact Int.mul_nonneg hx.1 hy.1
  · have h := Int.mul_le_mul hx.2 hy.2 hy.1 (by omega)
    omega
set_option maxRecDepth 20000 in
set_option maxHeartbeats 1000000 in
theorem specMulNtt_any (a b : List Int) (va vb : Value) (w : World) (ra : RdV w va (a.map iv)) (rb : RdV w vb (b.map iv)) :
    Calls Try.prog 17 #[va, vb] w fun e w' => (∃ v, e = .returned v ∧ OwnV w' w.heap.size 3 v ((mnL a b).map iv)) ∧ Below w.heap.size w w' := by
  obtain ⟨i0, hi, hz0, hz1, hz2⟩ := info_parts infoInt
  have CA := hide (fun (W : World) (h : Below w.heap.size w W) => specPolyOk_any a va W (ra.below h))
  have CB := hide (fun (W : World) (h : Below w.heap.size w W) => specPolyOk_any b vb W (rb.below h))
  have hB0 : Below w.heap.size w (w.alloc (.cells #[] 3)) := (Below.refl _ _).alloc (Nat.le_refl _) _
  by_cases ha : okPl a = true
  · rw [ha] at CA
    by_cases hb : okPl b = true
    · rw [hb] at CB
      obtain ⟨la, va'⟩ := okPl_yes ha
      obtain ⟨lb, vb'⟩ := okPl_yes hb
      have EF := hide (show mnL a b = preL (fun t => mnF (cAt a) (cAt b) t % 3329) 256 from mnL_is ha hb)
      obtain ⟨a1, c1, rfl, hc1⟩ := ra.open
      obtain ⟨a2, c2, rfl, hc2⟩ := rb.open
      rw [List.length_map, la] at CA ⊢
      rw [List.length_map, lb] at CB ⊢
      clear ra rb
      obtain ⟨g1, o1, rfl, hg1, _⟩ := hc1 0 _ (get_iv a 0 (by omega))
      obtain ⟨g2, o2, rfl, hg2, _⟩ := hc2 0 _ (get_iv b 0 (by omega))
      have DA := hide (show ∀ k, k < 256 → w.cell? ⟨g1, o1 + k, none⟩ = some (.int .i64 (cAt a k)) from fun k hk => by
        obtain ⟨g', o', he, _, hd⟩ := hc1 k _ (get_iv a k (by omega))
        cases he
        exact hd)
      have DB := hide (show ∀ k, k < 256 → w.cell? ⟨g2, o2 + k, none⟩ = some (.int .i64 (cAt b k)) from fun k hk => by
        obtain ⟨g', o', he, _, hd⟩ := hc2 k _ (get_iv b k (by omega))
        cases he
        exact hd)
      clear hc1 hc2
      replace va' := hide va'; replace vb' := hide vb'; replace la := hide la; replace lb := hide lb
      go_enter Try.func17, Try.ntmps17
      go_wp2_with fail
      refine ((unhide CA) _ hB0).mono ?_
      rintro e w1 ⟨rfl, rfl⟩
      go_wp2_with fail
      refine ((unhide CB) _ hB0).mono ?_
      rintro e w1 ⟨rfl, rfl⟩
      go_wp2
      go_loopw [5, 6] (fun tv ti wr => ∃ k : Nat, k ≤ 128 ∧ ti = .int .i64 (k : Int) ∧ Hid (OwnV wr w.heap.size 3 tv ((preL (fun t => mnF (cAt a) (cAt b) t % 3329) (2 * k)).map iv)) ∧ Below w.heap.size w wr) (fun _ ti _ => 128 - (intOf ti).toNat)
      case atStart => exact ⟨0, by omega, rfl, hide (World.ownsRow_made w #[] 0 (Nat.le_refl _) (by decide) (by simp)), hB0⟩
      case round =>
        clear CA CB hB0
        obtain ⟨k, hk, rfl, HO, hB⟩ := hrel
        by_cases hlt : k < 128
        · have hk' : (k : Int) < 128 := by omega
          obtain ⟨T1, _⟩ := zt_turn k hlt
          have C1 := hide (fun W => specTurn7_any (k : Int) W)
          rw [T1] at C1
          have C2 := hide (fun W => specPowQ_any 17 (2 * (t7 k : Int) + 1) W)
          rw [gm_pow k] at C2
          have htl := t7_lt k
          have hg := gm_rng k
          have HP := hide (pre_two (fun t => mnF (cAt a) (cAt b) t % 3329) k)
          rw [mnF_even, mnF_odd] at HP
          obtain ⟨k2, hk2⟩ : ∃ k2 : Nat, k2 = 2 * k := ⟨_, rfl⟩
          obtain ⟨k3, hk3⟩ : ∃ k3 : Nat, k3 = k2 + 1 := ⟨_, rfl⟩
          have dA0 := unhide DA k2 (by omega)
          have dA1 := unhide DA k3 (by omega)
          have dB0 := unhide DB k2 (by omega)
          have dB1 := unhide DB k3 (by omega)
          have bA0 := unhide va' k2 (by omega)
          have bA1 := unhide va' k3 (by omega)
          have bB0 := unhide vb' k2 (by omega)
          have bB1 := unhide vb' k3 (by omega)
          have hl1 : ((preL (fun t => mnF (cAt a) (cAt b) t % 3329) (2 * k)).map iv).length + 2 ≤ maxLen := by rw [List.length_map, preL_len]; unfold maxLen; omega
          have hl2 : (((preL (fun t => mnF (cAt a) (cAt b) t % 3329) (2 * k)).map iv).length + 2) * 8 ≤ 140737488355328 := by rw [List.length_map, preL_len]; omega
          replace hl1 := hide hl1; replace hl2 := hide hl2
          rw [show cAt a (2 * k) = cAt a k2 by rw [hk2], show cAt b (2 * k) = cAt b k2 by rw [hk2], show cAt a (2 * k + 1) = cAt a k3 by rw [hk3, hk2], show cAt b (2 * k + 1) = cAt b k3 by rw [hk3, hk2]] at HP
          generalize cAt a k2 = A0 at HP dA0 bA0
          generalize cAt a k3 = A1 at HP dA1 bA1
          generalize cAt b k2 = B0 at HP dB0 bB0
          generalize cAt b k3 = B1 at HP dB1 bB1
          generalize gm k = g at *
          have htz : 0 ≤ (t7 k : Int) ∧ (t7 k : Int) < 128 := by omega
          generalize (t7 k : Int) = tz at *
          obtain ⟨e2, he2⟩ : ∃ e : Int, e = 2 * tz := ⟨_, rfl⟩
          obtain ⟨e3, he3⟩ : ∃ e : Int, e = e2 + 1 := ⟨_, rfl⟩
          rw [show 2 * tz + 1 = e3 by rw [he3, he2]] at C2
          have u1 : IntKind.i64.wrap (2 * tz) = e2 := by rw [IntKind.wrap_i64]; omega
          have u2 : IntKind.i64.wrap (e2 + 1) = e3 := by rw [IntKind.wrap_i64]; omega
          have u3 : IntKind.i64.wrap (2 * (k : Int)) = (k2 : Int) := by rw [IntKind.wrap_i64]; omega
          have u4 : IntKind.i64.wrap ((k2 : Int) + 1) = (k3 : Int) := by rw [IntKind.wrap_i64]; omega
          have i1 : (0 : Int) ≤ (k2 : Int) := by omega
          have i2 : (k2 : Int) < 256 := by omega
          have i3 : (0 : Int) ≤ (k3 : Int) := by omega
          have i4 : (k3 : Int) < 256 := by omega
          have m11 := mul_rng bA1 bB1
          have m00 := mul_rng bA0 bB0
          have m01 := mul_rng bA0 bB1
          have m10 := mul_rng bA1 bB0
          obtain ⟨P11, h11⟩ : ∃ P, P = A1 * B1 := ⟨_, rfl⟩
          obtain ⟨P00, h00⟩ : ∃ P, P = A0 * B0 := ⟨_, rfl⟩
          obtain ⟨P01, h01⟩ : ∃ P, P = A0 * B1 := ⟨_, rfl⟩
          obtain ⟨P10, h10⟩ : ∃ P, P = A1 * B0 := ⟨_, rfl⟩
          rw [← h11] at m11 HP
          rw [← h00] at m00 HP
          rw [← h01] at m01 HP
          rw [← h10] at m10 HP
          obtain ⟨r11, hr11⟩ : ∃ r, r = P11 % 3329 := ⟨_, rfl⟩
          have mX := mul_rng (x := r11) (y := g) (by omega) hg
          obtain ⟨X, hX⟩ : ∃ X, X = r11 * g := ⟨_, rfl⟩
          rw [← hX] at mX
          obtain ⟨S0, hS0⟩ : ∃ S, S = P00 + X := ⟨_, rfl⟩
          obtain ⟨c0, hc0⟩ : ∃ c, c = S0 % 3329 := ⟨_, rfl⟩
          obtain ⟨S1, hS1⟩ : ∃ S, S = P01 + P10 := ⟨_, rfl⟩
          obtain ⟨d1, hd1⟩ : ∃ c, c = S1 % 3329 := ⟨_, rfl⟩
          have hx0 : (P00 + P11 * g) % 3329 = c0 := by
            have hq : P11 = r11 + 3329 * (P11 / 3329) := by omega
            have hq2 : P11 * g = X + 3329 * (P11 / 3329 * g) := by
              rw [hX]
              generalize P11 / 3329 = mm at hq ⊢
              rw [hq, Int.add_mul, Int.mul_assoc]
            rw [hq2]
            generalize P11 / 3329 * g = nn
            omega
          rw [hx0, ← hS1, ← hd1] at HP
          have v1 : IntKind.i64.wrap (A1 * B1) = P11 := by rw [← h11, IntKind.wrap_i64]; omega
          have v2 : P11.tmod 3329 = r11 := by rw [Int.tmod_eq_emod_of_nonneg (by omega)]; omega
          have v2' : P11 % 3329 = r11 := hr11.symm
          have v3 : IntKind.i64.wrap r11 = r11 := by rw [IntKind.wrap_i64]; omega
          have v4 : IntKind.i64.wrap (r11 * g) = X := by rw [← hX, IntKind.wrap_i64]; omega
          have v5 : IntKind.i64.wrap (A0 * B0) = P00 := by rw [← h00, IntKind.wrap_i64]; omega
          have v6 : IntKind.i64.wrap (P00 + X) = S0 := by rw [IntKind.wrap_i64]; omega
          have v7 : S0.tmod 3329 = c0 := by rw [Int.tmod_eq_emod_of_nonneg (by omega)]; omega
          have v7' : S0 % 3329 = c0 := hc0.symm
          have v8 : IntKind.i64.wrap c0 = c0 := by rw [IntKind.wrap_i64]; omega
          have v9 : IntKind.i64.wrap (A0 * B1) = P01 := by rw [← h01, IntKind.wrap_i64]; omega
          have v10 : IntKind.i64.wrap (A1 * B0) = P10 := by rw [← h10, IntKind.wrap_i64]; omega
          have v11 : IntKind.i64.wrap (P01 + P10) = S1 := by rw [IntKind.wrap_i64]; omega
          have v12 : S1.tmod 3329 = d1 := by rw [Int.tmod_eq_emod_of_nonneg (by omega)]; omega
          have v12' : S1 % 3329 = d1 := hd1.symm
          have v13 : IntKind.i64.wrap d1 = d1 := by rw [IntKind.wrap_i64]; omega
          replace he2 := hide he2; replace he3 := hide he3; replace hk2 := hide hk2; replace hk3 := hide hk3; replace h11 := hide h11; replace h00 := hide h00; replace h01 := hide h01; replace h10 := hide h10; replace hr11 := hide hr11; replace hX := hide hX; replace hS0 := hide hS0; replace hc0 := hide hc0; replace hS1 := hide hS1; replace hd1 := hide hd1; replace hx0 := hide hx0
          have KS := hide (fun (W : World) (h : Below w.heap.size w W) => (⟨(h.cell (p := ⟨g1, o1 + k2, none⟩) hg1).trans dA0, (h.cell (p := ⟨g1, o1 + k3, none⟩) hg1).trans dA1, (h.cell (p := ⟨g2, o2 + k2, none⟩) hg2).trans dB0, (h.cell (p := ⟨g2, o2 + k3, none⟩) hg2).trans dB1⟩ : W.cell? ⟨g1, o1 + k2, none⟩ = some (.int .i64 A0) ∧ W.cell? ⟨g1, o1 + k3, none⟩ = some (.int .i64 A1) ∧ W.cell? ⟨g2, o2 + k2, none⟩ = some (.int .i64 B0) ∧ W.cell? ⟨g2, o2 + k3, none⟩ = some (.int .i64 B1)))
          have hsz := hB.size
          clear dA0 dA1 dB0 dB1 DA DB T1
          go_wp2_with fail
          refine ((unhide C1) wr).mono ?_
          rintro e w2 ⟨rfl, hw2⟩
          have hw3 := hw2.symm
          subst hw3
          clear hw2
          go_wp2_with fail
          refine ((unhide C2) wr).mono ?_
          rintro e w2 ⟨rfl, hw2⟩
          have hw3 := hw2.symm
          subst hw3
          clear hw2 C1 C2
          obtain ⟨s1, s2, s3, s4⟩ := (unhide KS) _ hB
          go_wp2
          go_quiet (fail)
          have HO5 : Hid (OwnV (wr.drewN nq) w.heap.size 3 u5 ((preL (fun t => mnF (cAt a) (cAt b) t % 3329) (2 * k)).map iv)) := hide (unhide HO)
          have hB5 := bDN hB nq
          have hsz5 := hB5.size
          generalize wr.drewN nq = w5 at *
          obtain ⟨s5, s6, s7, s8⟩ := (unhide KS) _ hB5
          clear HO s1 s2 s3 s4 hB hsz
          go_wp2
          go_region_held3 (fun W => W.cell? ⟨g1, o1 + k2, none⟩ = some (.int .i64 A0) ∧ W.cell? ⟨g1, o1 + k3, none⟩ = some (.int .i64 A1) ∧ W.cell? ⟨g2, o2 + k2, none⟩ = some (.int .i64 B0) ∧ W.cell? ⟨g2, o2 + k3, none⟩ = some (.int .i64 B1)) (first | exact ⟨s5, s6, s7, s8⟩ | exact (unhide KS) _ (hB5.drew.alloc hsz5 _) | exact (unhide KS) _ hb2 | fail) (first
            | (refine step_append_w9 (w := w5.drew) (x1 := c0) (x2 := d1) (e := 3) rfl rfl (.tmp 44) (.tmp 85) 22 rfl w.heap.size w.heap.size i0 (.int .i64 0) 8 Try.underlying22 hi hz0 hz1 hz2 rfl _ _ rfl (by exact unhide HO5) rfl (unhide hl1) (unhide hl2) (Nat.le_refl _) (by exact hsz5) (by exact hB5.drew) ?_; intro v' w2 hown2 hb2))
          have hown3 : OwnV w2 w.heap.size 3 v' ((preL (fun t => mnF (cAt a) (cAt b) t % 3329) (2 * (k + 1))).map iv) := by
            rw [unhide HP, List.map_append]
            exact hown2
          replace hown3 := hide hown3
          clear hown2 HP KS
          go_wp2
          go_roundw
          case rel => exact ⟨k + 1, by omega, by go_num, hown3, hb2⟩
          case measure => simp [intOf]; omega
        · have hk' : ¬ (k : Int) < 128 := by omega
          have hke : k = 128 := by omega
          have hown : OwnV wr w.heap.size 3 u5 ((mnL a b).map iv) := by rw [unhide EF]; have h := unhide HO; rw [hke] at h; exact h
          replace hown := hide hown
          clear HO
          replace hke := hide hke
          go_wp2
          go_ret
          exact ⟨⟨_, rfl, unhide hown⟩, hB⟩
    · have hb' : okPl b = false := by simpa using hb
      rw [hb'] at CB
      have E := hide (show mnL a b = [] by unfold mnL; rw [bothP_no2 hb']; rfl)
      rw [unhide E]
      go_enter Try.func17, Try.ntmps17
      go_wp2_with fail
      refine ((unhide CA) _ hB0).mono ?_
      rintro e w1 ⟨rfl, rfl⟩
      go_wp2_with fail
      refine ((unhide CB) _ hB0).mono ?_
      rintro e w1 ⟨rfl, rfl⟩
      go_wp2
      go_ret
      exact ⟨⟨_, rfl, World.ownsRow_made w #[] 0 (Nat.le_refl _) (by decide) (by simp)⟩, hB0⟩
  · have ha' : okPl a = false := by simpa using ha
    rw [ha'] at CA
    have E := hide (show mnL a b = [] by unfold mnL; rw [bothP_no1 ha']; rfl)
    rw [unhide E]
    go_enter Try.func17, Try.ntmps17
    go_wp2_with fail
    refine ((unhide CA) _ hB0).mono ?_
    rintro e w1 ⟨rfl, rfl⟩
    go_wp2
    go_ret
    exact ⟨⟨_, rfl, World.ownsRow_made w #[] 0 (Nat.le_refl _) (by decide) (by simp)⟩, hB0⟩
end Go.Proofs.Ytdannnkdapbefaq
