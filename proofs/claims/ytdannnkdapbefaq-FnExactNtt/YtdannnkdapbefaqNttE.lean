/- Products of transforms by the project, over the loaded program. -/
import Derived.Test.YtdannnkdapbefaqNttD
namespace Go.Proofs.Ytdannnkdapbefaq
open Go.RowKit
theorem splice_two {α : Type} (L : List α) (o : Nat) (x y : α) (h : o + 1 < L.length) : splice L o [x, y] = (L.set o x).set (o + 1) y := by
  unfold splice
  refine List.ext_getElem? fun i => ?_
  rw [List.getElem?_set, List.getElem?_set, List.length_set, List.getElem?_append, List.length_take, Nat.min_eq_left (by omega)]
  by_cases h1 : i < o
  · rw [if_pos h1, if_neg (by omega), if_neg (by omega), List.getElem?_take, if_pos h1]
  · rw [if_neg h1]
    by_cases h2 : i = o
    · subst h2
      rw [if_neg (by omega), if_pos rfl, if_pos (by omega), Nat.sub_self]
      rfl
    · by_cases h3 : i = o + 1
      · subst h3
        rw [if_pos rfl, if_pos h, show o + 1 - o = 1 by omega]
        rfl
      · obtain ⟨j, rfl⟩ : ∃ j, i = o + 2 + j := ⟨i - (o + 2), by omega⟩
        rw [if_neg (by omega), if_neg (by omega), show o + 2 + j - o = j + 2 by omega]
        show (List.drop (o + 2) L)[j]? = _
        rw [List.getElem?_drop]
theorem filP_two (f : Nat → Int) (k : Nat) (hk : k < 128) : splice ((filP f (2 * k)).map iv) (2 * k) [.int .i64 (f (2 * k)), .int .i64 (f (2 * k + 1))] = (filP f (2 * (k + 1))).map iv := by
  rw [splice_two _ _ _ _ (by rw [List.length_map, filP_len]; omega), set_iv, set_iv, filP_set f _ (by omega), filP_set f _ (by omega)]
  rfl
set_option maxRecDepth 20000 in
set_option maxHeartbeats 1000000 in
theorem implMulNtt_any (a b : List Int) (ua ub : Value) (_ : a.length ≤ 1048576) (_ : b.length ≤ 1048576) (w : World) (ra : RdV w ua (a.map iv)) (rb : RdV w ub (b.map iv)) (ka : CapV ua) (kb : CapV ub) :
    Calls Try.prog 18 #[ua, ub] w fun e w' => (∃ v, e = .returned v ∧ OwnV w' w.heap.size 3 v ((mnL a b).map iv)) ∧ Below w.heap.size w w' := by
  have CA := hide (implPolyOk_q a ua w ra)
  have CB := hide (fun q => implPolyOk_q b ub (w.drewN q) rb)
  cases ha : okPl a with
  | true =>
    rw [ha] at CA
    cases hb : okPl b with
    | true =>
      rw [hb] at CB
      obtain ⟨i0, hi, hz0, hz1, hz2⟩ := info_parts infoInt
      have hsz : (Try.prog.info? 3).map (·.size) = some 1 := by rw [hi]; exact congrArg some hz1
      obtain ⟨la, va'⟩ := okPl_yes ha
      obtain ⟨lb, vb'⟩ := okPl_yes hb
      obtain ⟨f, hf⟩ : ∃ f : Nat → Int, f = fun t => mnF (cAt a) (cAt b) t % 3329 := ⟨_, rfl⟩
      have EF := hide (show mnL a b = filP f 256 by rw [filP_end, hf]; exact mnL_is ha hb)
      obtain ⟨a1, c1, rfl, hc1⟩ := ra.open
      obtain ⟨a2, c2, rfl, hc2⟩ := rb.open
      have hca : 256 ≤ c1 := by have := ka _ _ _ rfl; rw [List.length_map, la] at this; exact this
      have hcb : 256 ≤ c2 := by have := kb _ _ _ rfl; rw [List.length_map, lb] at this; exact this
      rw [List.length_map, la] at CA ⊢
      rw [List.length_map, lb] at CB ⊢
      clear ra rb ka kb
      obtain ⟨g1, o1, rfl, hg1, _⟩ := hc1 0 _ (get_iv a 0 (by omega))
      obtain ⟨g2, o2, rfl, hg2, _⟩ := hc2 0 _ (get_iv b 0 (by omega))
      have DA := hide (show ∀ k, k < 256 → w.cell? ⟨g1, o1 + k, none⟩ = some (.int .i64 (cAt a k)) from fun k hk => by
        obtain ⟨g', o', he, _, hd⟩ := hc1 k _ (get_iv a k (by omega))
        cases he
        exact hd)
      have DB := hide (show ∀ k, k < 256 → w.cell? ⟨g2, o2 + k, none⟩ = some (.int .i64 (cAt b k)) from fun k hk => by
        obtain ⟨g', o', he, _, hd⟩ := hc2 k _ (get_iv b k (by omega))
        cases he
        exact hd)
      have BN := hide (fun q => bDN (Below.refl w.heap.size w) q)
      clear hc1 hc2 ha hb
      replace va' := hide va'; replace vb' := hide vb'; replace la := hide la; replace lb := hide lb; replace hf := hide hf
      go_enter Try.func18, Try.ntmps18
      go_wp2_with fail
      refine (unhide CA).mono ?_
      rintro e w1 ⟨rfl, q, rfl⟩
      go_wp2_with fail
      refine (unhide CB q).mono ?_
      rintro e w1 ⟨rfl, q2, rfl⟩
      clear CA CB
      have hBq : Below w.heap.size w ((w.drewN q).drewN q2) := bDN (bDN (Below.refl w.heap.size w) q) q2
      have hszq : ((w.drewN q).drewN q2).heap.size = w.heap.size := rfl
      generalize (w.drewN q).drewN q2 = w0 at *
      replace hszq := hide hszq
      go_wp2_with (at_make; refine wpList_make_full _ rfl _ _ 22 rfl w0.heap.size 3 i0 (.int .i64 0) 1 Try.underlying22 hi hz0 hz1 _ _ _ _ 256 rfl rfl rfl rfl (by rw [hz2]; omega) (by unfold maxLen; omega) (Nat.le_refl _) ?_; intro w1 hown1 hgrow1)
      have hr0 : OwnV w1 w0.heap.size 3 (.slice (some ⟨w0.heap.size, 0, none⟩) 256 256) ((filP f 0).map iv) := by
        rw [filP_zero]
        rw [madeI] at hown1
        unfold OwnV
        simpa [iv] using hown1
      have hb0 : Below w.heap.size w w1 := hBq.grown hgrow1 (by have := unhide hszq; omega) (fun k hk => by cases hk)
      have hG : w.heap.size ≤ w0.heap.size := by have := unhide hszq; omega
      replace hr0 := hide (hr0.low hG)
      clear hown1 hgrow1 hszq hBq BN
      generalize w0.heap.size = G at *
      go_loopw [17] (fun ti wr => ∃ k : Nat, k ≤ 128 ∧ ti = .int .i64 (k : Int) ∧ Hid (OwnV wr w.heap.size 3 (.slice (some ⟨G, 0, none⟩) 256 256) ((filP f (2 * k)).map iv)) ∧ Below w.heap.size w wr) (fun ti _ => 128 - (intOf ti).toNat)
      case atStart => exact ⟨0, by omega, rfl, hr0, hb0⟩
      case round =>
        clear hr0 hb0
        obtain ⟨k, hk, rfl, HO, hB⟩ := hrel
        by_cases hlt : k < 128
        · have hk' : (k : Int) < 128 := by omega
          obtain ⟨k2, hk2⟩ : ∃ k2 : Nat, k2 = 2 * k := ⟨_, rfl⟩
          obtain ⟨k4, hk4⟩ : ∃ k4 : Nat, k4 = k2 + 2 := ⟨_, rfl⟩
          have hg := gm_rng k
          have C1 := hide (fun W => pairAt_any g1 o1 c1 k k2 k4 W hlt hk2 hk4 hca)
          have C2 := hide (fun W => pairAt_any g2 o2 c2 k k2 k4 W hlt hk2 hk4 hcb)
          have C5 := hide (fun W => pairAt_any G 0 256 k k2 k4 W hlt hk2 hk4 (by omega))
          rw [Nat.zero_add] at C5
          have C3 := hide (fun W => pairFactor_any k hlt (gm k) (by rw [show ((2 * t7 k + 1 : Nat) : Int) = 2 * (t7 k : Int) + 1 by omega]; exact gm_pow k) W)
          have dA0 := unhide DA (2 * k) (by omega)
          have dA1 := unhide DA (2 * k + 1) (by omega)
          have dB0 := unhide DB (2 * k) (by omega)
          have dB1 := unhide DB (2 * k + 1) (by omega)
          have bA0 := unhide va' (2 * k) (by omega)
          have bA1 := unhide va' (2 * k + 1) (by omega)
          have bB0 := unhide vb' (2 * k) (by omega)
          have bB1 := unhide vb' (2 * k + 1) (by omega)
          have F0 : f (2 * k) = (cAt a (2 * k) * cAt b (2 * k) + cAt a (2 * k + 1) * cAt b (2 * k + 1) * gm k) % 3329 := by rw [unhide hf]; show mnF (cAt a) (cAt b) (2 * k) % 3329 = _; rw [mnF_even]
          have F1 : f (2 * k + 1) = (cAt a (2 * k) * cAt b (2 * k + 1) + cAt a (2 * k + 1) * cAt b (2 * k)) % 3329 := by rw [unhide hf]; show mnF (cAt a) (cAt b) (2 * k + 1) % 3329 = _; rw [mnF_odd]
          have HSP := filP_two f k hlt
          rw [← hk2] at dA0 dB0 dA1 dB1 bA0 bB0 bA1 bB1 F0 F1 HSP HO
          rw [← Nat.add_assoc] at dA1 dB1
          have C4 := hide (fun (W : World) (h : Below w.heap.size w W) => pairProduct_any _ _ _ _ (gm k) g1 (o1 + k2) g2 (o2 + k2) W (Nat.lt_of_lt_of_le hg1 h.size) (Nat.lt_of_lt_of_le hg2 h.size) ((h.cell (p := ⟨g1, o1 + k2, none⟩) hg1).trans dA0) ((h.cell (p := ⟨g1, o1 + k2 + 1, none⟩) hg1).trans dA1) ((h.cell (p := ⟨g2, o2 + k2, none⟩) hg2).trans dB0) ((h.cell (p := ⟨g2, o2 + k2 + 1, none⟩) hg2).trans dB1) bA0 bA1 bB0 bB1 hg)
          rw [← F0, ← F1] at C4
          clear dA0 dA1 dB0 dB1 bA0 bA1 bB0 bB1 F0 F1
          generalize gm k = gk at *
          obtain ⟨x0, hx0⟩ : ∃ x, x = f k2 := ⟨_, rfl⟩
          obtain ⟨x1, hx1⟩ : ∃ x, x = f (k2 + 1) := ⟨_, rfl⟩
          rw [← hx0, ← hx1] at C4 HSP
          obtain ⟨_, hml, hln, hrow⟩ := (unhide HO).full
          have hgt := ((unhide HO).lt G rfl).2
          obtain ⟨L, hL⟩ : ∃ L, L = (filP f k2).map iv := ⟨_, rfl⟩
          rw [← hL] at hrow hln HSP
          have h24 : k2 + 2 ≤ 256 := by omega
          replace hk2 := hide hk2; replace hk4 := hide hk4; replace hx0 := hide hx0; replace hx1 := hide hx1; replace hL := hide hL; replace HSP := hide HSP; replace hrow := hide hrow
          clear HO DA DB
          go_wp2_with fail
          refine ((unhide C1) wr).mono ?_
          rintro e w2 ⟨rfl, hw2⟩
          have hw3 := hw2.symm
          subst hw3
          clear hw2 C1
          go_wp2_with fail
          refine ((unhide C2) wr).mono ?_
          rintro e w2 ⟨rfl, hw2⟩
          have hw3 := hw2.symm
          subst hw3
          clear hw2 C2
          go_wp2_with fail
          refine ((unhide C3) wr).mono ?_
          rintro e w2 ⟨rfl, hw2⟩
          have hw3 := hw2.symm
          subst hw3
          clear hw2 C3
          go_wp2_with fail
          refine ((unhide C4) wr hB).mono ?_
          rintro e w2 ⟨rfl, hb2⟩
          have hrow2 : w2.heap[G]? = some (.cells L.toArray 3 (0, 0)) := by rw [hb2.block G hgt]; exact unhide hrow
          have hB2 := hB.trans (hb2.mono hB.size)
          have hG2 : G < w2.heap.size := Nat.lt_of_lt_of_le hgt hb2.size
          clear C4 hb2 hrow hB
          go_wp2
          have hrow3 : (w2.alloc (.cells #[.int .i64 x0, .int .i64 x1] 36)).heap[G]? = some (.cells L.toArray 3 (0, 0)) := by rw [((Below.refl w2.heap.size w2).alloc (Nat.le_refl _) _).block G hG2]; exact hrow2
          have hB3 := hB2.alloc hB2.size (.cells #[.int .i64 x0, .int .i64 x1] 36)
          have hprd : (w2.alloc (.cells #[.int .i64 x0, .int .i64 x1] 36)).heap[w2.heap.size]? = some (.cells #[.int .i64 x0, .int .i64 x1] 36 (0, 0)) := heap_alloc_new w2 _
          have hGP : ¬ G = w2.heap.size := by omega
          generalize w2.alloc (.cells #[.int .i64 x0, .int .i64 x1] 36) = W3 at *
          generalize w2.heap.size = P at *
          have hsrc := hide (show ∀ W : World, W.heap[P]? = some (.cells #[.int .i64 x0, .int .i64 x1] 36 (0, 0)) → ∀ j v, [Value.int .i64 x0, .int .i64 x1][j]? = some v → W.cell? ((⟨P, 0, none⟩ : Addr).add j) = some v from fun W hW j v hv => by
            have hadd : (⟨P, 0, none⟩ : Addr).add j = ⟨P, j, none⟩ := by unfold Addr.add; split <;> simp_all
            rw [hadd, cell_of_row W P j _ _ (0, 0) hW]
            simpa using hv)
          have hone := hide (show ∀ v ∈ [Value.int .i64 x0, .int .i64 x1], v.oneCell' = true from fun v hv => by
            rcases List.mem_cons.1 hv with rfl | hv
            · rfl
            · rcases List.mem_cons.1 hv with rfl | hv
              · rfl
              · cases hv)
          obtain ⟨cs, hcs⟩ : ∃ cs, cs = [Value.int .i64 x0, .int .i64 x1] := ⟨_, rfl⟩
          have hcl : cs.length = 2 := by rw [hcs]; rfl
          rw [← hcs] at hsrc hone HSP hprd
          replace hcs := hide hcs
          clear hrow2 hB2 hG2
          go_region_law (first
            | (refine step_copy_splice rfl (.tmp 31) (.tmp 32) 22 22 rfl 3 Try.underlying22 hsz _ _ 2 2 2 2 rfl rfl G k2 L 3 (by exact hrow3) cs (hcl.trans (by decide)) (fun _ => ⟨rfl, _, rfl, unhide hsrc _ (by exact hprd)⟩) (by omega) (unhide hone) w.heap.size w (by exact hB3.drew) (by omega) ?_; intro w5 hO5 hB5)
            | (refine step_call rfl (F := 31) ((unhide C5) _) (by go_simp) ?_; rintro e w4 ⟨rfl, hw4⟩; refine ⟨_, rfl, ?_⟩; have hw5 := hw4.symm; subst hw5))
          have HO5 := hide (ownV_of_full (w := w5) (base := w.heap.size) (e := 3) hG hml (by rw [List.length_map, filP_len]) (by rw [← unhide HSP]; exact unhide hO5) : OwnV w5 w.heap.size 3 (.slice (some ⟨G, 0, none⟩) 256 256) ((filP f (2 * (k + 1))).map iv))
          clear hO5 hrow3 hprd hsrc hone HSP
          go_wp2
          exact ⟨⟨k + 1, by omega, by go_num, HO5, hB5⟩, by simp [intOf]; omega⟩
        · have hk' : ¬ (k : Int) < 128 := by omega
          have hke : k = 128 := by omega
          have HO3 : Hid (OwnV wr w.heap.size 3 (.slice (some ⟨G, 0, none⟩) 256 256) ((mnL a b).map iv)) := hide (by rw [unhide EF]; have h := unhide HO; rw [hke] at h; exact h)
          replace hke := hide hke
          clear HO
          go_wp2
          go_ret
          exact ⟨⟨_, rfl, unhide HO3⟩, hB⟩
    | false =>
      rw [hb] at CB
      have E := hide (show mnL a b = [] by unfold mnL; rw [bothP_no2 hb]; rfl)
      rw [unhide E]
      obtain ⟨a1, c1, rfl⟩ := ra.shape
      obtain ⟨a2, c2, rfl⟩ := rb.shape
      simp only [List.length_map] at CA CB ⊢
      clear ra rb ka kb ha hb
      go_enter Try.func18, Try.ntmps18
      go_wp2_with fail
      refine (unhide CA).mono ?_
      rintro e w1 ⟨rfl, q, rfl⟩
      go_wp2_with fail
      refine (unhide CB q).mono ?_
      rintro e w1 ⟨rfl, q2, rfl⟩
      go_wp2
      go_ret
      exact ⟨⟨_, rfl, OwnV.nil _ _ _⟩, by first | exact bDN (bDN (Below.refl _ _) _) _ | exact bDN (Below.refl _ _) _⟩
  | false =>
    rw [ha] at CA
    have E := hide (show mnL a b = [] by unfold mnL; rw [bothP_no1 ha]; rfl)
    rw [unhide E]
    obtain ⟨a1, c1, rfl⟩ := ra.shape
    obtain ⟨a2, c2, rfl⟩ := rb.shape
    simp only [List.length_map] at CA ⊢
    clear ra rb ka kb ha CB
    go_enter Try.func18, Try.ntmps18
    go_wp2_with fail
    refine (unhide CA).mono ?_
    rintro e w1 ⟨rfl, q, rfl⟩
    go_wp2
    go_ret
    exact ⟨⟨_, rfl, OwnV.nil _ _ _⟩, bDN (Below.refl _ _) _⟩
end Go.Proofs.Ytdannnkdapbefaq
