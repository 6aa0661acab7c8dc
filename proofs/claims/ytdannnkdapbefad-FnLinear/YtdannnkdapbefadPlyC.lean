/- Polynomials by the project: sums and differences, over the loaded program. -/
import Derived.Test.YtdannnkdapbefadPly4
import Derived.Test.YtdannnkdapbefadPlyA
import Derived.Test.YtdannnkdapbefadPlyB
namespace Go.Proofs.Ytdannnkdapbefad
open Go.RowKit
def filP (f : Nat → Int) (k : Nat) : List Int := mk256 fun t => if t < k then f t else 0
theorem filP_len (f : Nat → Int) (k : Nat) : (filP f k).length = 256 := mk256_len _
theorem filP_zero (f : Nat → Int) : filP f 0 = List.replicate 256 0 := by
  refine ext_pl (filP_len _ _) (by rw [List.length_replicate]) fun t ht => ?_
  unfold filP
  rw [mk256_at _ t ht, if_neg (by omega)]
  exact (zeroL_at t ht).symm
theorem filP_end (f : Nat → Int) : filP f 256 = mk256 f := by
  unfold filP
  exact mk256_congr fun _ hi => if_pos hi
theorem filP_set (f : Nat → Int) (k : Nat) (hk : k < 256) : (filP f k).set k (f k) = filP f (k + 1) := by
  refine ext_pl (by rw [List.length_set, filP_len]) (filP_len _ _) fun t ht => ?_
  rw [cAt_set _ _ _ _ (by rw [filP_len]; exact hk)]
  unfold filP
  rw [mk256_at _ t ht, mk256_at _ t ht]
  by_cases e : t = k
  · rw [if_pos e, if_pos (by omega), e]
  · rw [if_neg e]
    by_cases h : t < k
    · rw [if_pos h, if_pos (by omega)]
    · rw [if_neg h, if_neg (by omega)]
set_option maxRecDepth 20000 in
set_option maxHeartbeats 400000 in
theorem plus_any (a b : List Int) (va vb : Value) (w : World) (ha : okPl a = true) (hb : okPl b = true) (ra : RdV w va (a.map iv)) (rb : RdV w vb (b.map iv)) :
    Calls Try.prog 17 #[va, vb] w fun e w' => (∃ v, e = .returned v ∧ OwnV w' w.heap.size 3 v ((addL a b).map iv)) ∧ Below w.heap.size w w' := by
  obtain ⟨i0, hi, hz0, hz1, hz2⟩ := info_parts infoInt
  obtain ⟨la, va'⟩ := okPl_yes ha
  obtain ⟨lb, vb'⟩ := okPl_yes hb
  have EF := hide (show addL a b = filP (fun i => (cAt a i + cAt b i) % 3329) 256 by rw [filP_end]; exact addL_is ha hb)
  obtain ⟨f, hf⟩ : ∃ f : Nat → Int, f = fun i => (cAt a i + cAt b i) % 3329 := ⟨_, rfl⟩
  rw [← hf] at EF
  obtain ⟨a1, c1, rfl, hc1⟩ := ra.open
  obtain ⟨a2, c2, rfl, hc2⟩ := rb.open
  rw [List.length_map, la, List.length_map, lb]
  clear ra rb
  replace va' := hide va'; replace vb' := hide vb'; replace la := hide la; replace lb := hide lb; replace hf := hide hf
  go_enter Try.func17, Try.ntmps17
  go_wp2_with (at_make; refine wpList_make_full _ rfl _ _ 38 rfl w.heap.size 3 i0 (.int .i64 0) 1 Try.underlying38 hi hz0 hz1 _ _ _ _ 256 rfl rfl rfl rfl (by rw [hz2]; omega) (by unfold maxLen; omega) (Nat.le_refl _) ?_; intro w1 hown1 hgrow1)
  have hr0 : OwnV w1 w.heap.size 3 (.slice (some ⟨w.heap.size, 0, none⟩) 256 256) ((filP f 0).map iv) := by
    rw [filP_zero]
    rw [madeI] at hown1
    unfold OwnV
    simpa [iv] using hown1
  have hb0 : Below w.heap.size w w1 := (Below.refl w.heap.size w).grown hgrow1 (Nat.le_refl _) (fun k hk => by cases hk)
  replace hr0 := hide hr0
  clear hown1 hgrow1
  go_loopw [10] (fun ti wr => ∃ k : Nat, k ≤ 256 ∧ ti = .int .i64 (k : Int) ∧ Hid (OwnV wr w.heap.size 3 (.slice (some ⟨w.heap.size, 0, none⟩) 256 256) ((filP f k).map iv)) ∧ Below w.heap.size w wr) (fun ti _ => 256 - (intOf ti).toNat)
  case atStart => exact ⟨0, by omega, rfl, hr0, hb0⟩
  case round =>
    clear hr0 hb0
    obtain ⟨k, hk, rfl, HO, hB⟩ := hrel
    by_cases hlt : k < 256
    · have hk' : (k : Int) < 256 := by omega
      have hci : (0 : Int) ≤ (k : Int) := by omega
      obtain ⟨g1, o1, rfl, hg1, d1⟩ := hc1 k _ (get_iv a k (by rw [unhide la]; exact hlt))
      obtain ⟨g2, o2, rfl, hg2, d2⟩ := hc2 k _ (get_iv b k (by rw [unhide lb]; exact hlt))
      have b1 := unhide va' k hlt
      have b2 := unhide vb' k hlt
      obtain ⟨x, hx⟩ : ∃ x, x = cAt a k := ⟨_, rfl⟩
      obtain ⟨y, hy⟩ : ∃ y, y = cAt b k := ⟨_, rfl⟩
      obtain ⟨t1, ht1⟩ : ∃ t1, t1 = x + y := ⟨_, rfl⟩
      rw [← hx] at d1 b1
      rw [← hy] at d2 b2
      have w1 : IntKind.i64.wrap (x + y) = t1 := by rw [IntKind.wrap_i64]; omega
      obtain ⟨u, hu⟩ : ∃ u, u = f k := ⟨_, rfl⟩
      have hut : t1 % 3329 = u := by rw [hu, unhide hf]; show _ = (cAt a k + cAt b k) % 3329; rw [ht1, hx, hy]
      have CI := hide (fun W => around_any t1 W)
      rw [hut] at CI
      have KS := hide (fun (W : World) (h : Below w.heap.size w W) => (⟨(h.cell (p := ⟨g1, o1 + k, none⟩) hg1).trans d1, (h.cell (p := ⟨g2, o2 + k, none⟩) hg2).trans d2⟩ : W.cell? ⟨g1, o1 + k, none⟩ = some (.int .i64 x) ∧ W.cell? ⟨g2, o2 + k, none⟩ = some (.int .i64 y)))
      obtain ⟨ca, cb⟩ := (unhide KS) _ hB
      have cu := (unhide HO).cell (get_iv _ k (by rw [filP_len]; omega))
      have cz := (unhide HO).frozen k
      have hO2 := hide (fun (q : Nat) => (show OwnV ((wr.drewN q).setCell ⟨w.heap.size, k, none⟩ (.int .i64 u)) w.heap.size 3 (.slice (some ⟨w.heap.size, 0, none⟩) 256 256) ((filP f (k + 1)).map iv) by
        have h := OwnV.set (w := wr.drewN q) (unhide HO) k (.int .i64 u)
        rw [set_iv, hu, filP_set f k hlt] at h
        rw [hu]
        exact h))
      have hB2 := hide (fun (q : Nat) => (bDN hB q).setCell (p := ⟨w.heap.size, k, none⟩) (Nat.le_refl _) (.int .i64 u))
      replace hx := hide hx; replace hy := hide hy; replace ht1 := hide ht1; replace hu := hide hu; replace hut := hide hut
      clear hc1 hc2 d1 d2
      go_wp2
      go_region_held3 (fun W => W.cell? ⟨g1, o1 + k, none⟩ = some (.int .i64 x) ∧ W.cell? ⟨g2, o2 + k, none⟩ = some (.int .i64 y)) (first | exact ⟨ca, cb⟩ | exact (unhide KS) _ (unhide hB2 _)) (first | (go_at_call 23; refine (unhide CI _).mono ?_; rintro e w2 ⟨rfl, rfl⟩))
      go_wp2
      exact ⟨⟨k + 1, by omega, by go_num, hide (unhide hO2 _), unhide hB2 _⟩, by simp [intOf]; omega⟩
    · have hk' : ¬ (k : Int) < 256 := by omega
      have hke : k = 256 := by omega
      have hown : OwnV wr w.heap.size 3 (.slice (some ⟨w.heap.size, 0, none⟩) 256 256) ((addL a b).map iv) := by rw [show addL a b = filP f k by rw [hke]; exact unhide EF]; exact unhide HO
      replace hown := hide hown
      clear HO
      replace hke := hide hke
      go_wp2
      go_ret
      exact ⟨⟨_, rfl, unhide hown⟩, hB⟩
theorem implPolyAdd_any (a b : List Int) (ua ub : Value) (_ : a.length ≤ 1048576) (_ : b.length ≤ 1048576) (W : World) (r1 : RdV W ua (a.map iv)) (r2 : RdV W ub (b.map iv)) :
    Calls Try.prog 7 #[ua, ub] W fun e w' => (∃ v, e = .returned v ∧ OwnV w' W.heap.size 3 v ((addL a b).map iv)) ∧ Below W.heap.size W w' := by
  have CA := hide (implPolyOk_q a ua W r1)
  have CB := hide (fun q => implPolyOk_q b ub (W.drewN q) r2)
  have sa := r1.shape
  have sb := r2.shape
  cases ha : okPl a with
  | true =>
    rw [ha] at CA
    cases hb : okPl b with
    | true =>
      rw [hb] at CB
      have CM := hide (fun q => plus_any a b ua ub (W.drewN q) ha hb r1 r2)
      have BD := hide (fun q (V : World) (h : Below W.heap.size (W.drewN q) V) => (bDN (Below.refl W.heap.size W) q).trans h)
      obtain ⟨a1, c1, rfl⟩ := sa
      obtain ⟨a2, c2, rfl⟩ := sb
      simp only [List.length_map] at CA CB CM ⊢
      clear r1 r2 ha hb
      generalize addL a b = l at *
      go_enter Try.func7, Try.ntmps7
      go_wp2_with fail
      refine (unhide CA).mono ?_
      rintro e w1 ⟨rfl, q, rfl⟩
      go_wp2_with fail
      refine (unhide CB q).mono ?_
      rintro e w1 ⟨rfl, q2, rfl⟩
      go_wp2_with fail
      refine (unhide CM _).mono ?_
      rintro e w1 ⟨⟨v, rfl, ho⟩, hb1⟩
      replace ho := hide ho
      have hb2 := hide (unhide BD _ _ hb1)
      clear hb1
      go_wp2
      go_ret
      exact ⟨⟨_, rfl, unhide ho⟩, unhide hb2⟩
    | false =>
      rw [hb] at CB
      have E := hide (show addL a b = [] by unfold addL; rw [bothP_no2 hb]; rfl)
      rw [unhide E]
      obtain ⟨a1, c1, rfl⟩ := sa
      obtain ⟨a2, c2, rfl⟩ := sb
      simp only [List.length_map] at CA CB ⊢
      clear r1 r2 ha hb
      go_enter Try.func7, Try.ntmps7
      go_wp2_with fail
      refine (unhide CA).mono ?_
      rintro e w1 ⟨rfl, q, rfl⟩
      go_wp2_with fail
      refine (unhide CB q).mono ?_
      rintro e w1 ⟨rfl, q2, rfl⟩
      go_wp2
      go_ret
      exact ⟨⟨_, rfl, OwnV.nil _ _ _⟩, by first | exact bDN (bDN (Below.refl _ _) _) _ | exact bDN (Below.refl _ _) _⟩
  | false =>
    rw [ha] at CA
    have E := hide (show addL a b = [] by unfold addL; rw [bothP_no1 ha]; rfl)
    rw [unhide E]
    obtain ⟨a1, c1, rfl⟩ := sa
    obtain ⟨a2, c2, rfl⟩ := sb
    simp only [List.length_map] at CA ⊢
    clear r1 r2 ha CB
    go_enter Try.func7, Try.ntmps7
    go_wp2_with fail
    refine (unhide CA).mono ?_
    rintro e w1 ⟨rfl, q, rfl⟩
    go_wp2
    go_ret
    exact ⟨⟨_, rfl, OwnV.nil _ _ _⟩, bDN (Below.refl _ _) _⟩
end Go.Proofs.Ytdannnkdapbefad
