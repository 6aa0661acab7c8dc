/- Polynomials by the project: how far two are apart, over the loaded program. -/
import Derived.Test.YtijkhdhapdoepasPlyA
import Derived.Test.YtijkhdhapdoepasPlyB
namespace Go.Proofs.Ytijkhdhapdoepas
open Go.RowKit
theorem circ_min (x y : Int) : circ x y = if (y - x) % 3329 < (x - y) % 3329 then (y - x) % 3329 else (x - y) % 3329 := by
  unfold circ
  split <;> split <;> omega
theorem apart_any (x y : Int) (hx : 0 ≤ x ∧ x ≤ 3328) (hy : 0 ≤ y ∧ y ≤ 3328) (w : World) :
    Calls Try.prog 56 #[.int .i64 x, .int .i64 y] w fun e w' => e = .returned (.int .i64 (circ x y)) ∧ ∃ q, w' = w.drewN q := by
  have E := hide (circ_min x y)
  rw [unhide E]
  obtain ⟨t1, ht1⟩ : ∃ t, t = x - y := ⟨_, rfl⟩
  obtain ⟨t2, ht2⟩ : ∃ t, t = y - x := ⟨_, rfl⟩
  have w1 : IntKind.i64.wrap (x - y) = t1 := by rw [IntKind.wrap_i64]; omega
  have w2 : IntKind.i64.wrap (y - x) = t2 := by rw [IntKind.wrap_i64]; omega
  have C1 := hide (fun W => around_any t1 W)
  have C2 := hide (fun W => around_any t2 W)
  rw [← ht1, ← ht2]
  obtain ⟨d1, hd1⟩ : ∃ t, t = t1 % 3329 := ⟨_, rfl⟩
  obtain ⟨d2, hd2⟩ : ∃ t, t = t2 % 3329 := ⟨_, rfl⟩
  rw [← hd1, ← hd2]
  rw [← hd1] at C1
  rw [← hd2] at C2
  replace ht1 := hide ht1; replace ht2 := hide ht2; replace hd1 := hide hd1; replace hd2 := hide hd2
  by_cases h : d2 < d1
  · rw [if_pos h]
    go_enter Try.func56, Try.ntmps56
    go_wp2_with fail
    refine (unhide C1 _).mono ?_
    rintro e w1 ⟨rfl, rfl⟩
    go_wp2_with fail
    refine (unhide C2 _).mono ?_
    rintro e w1 ⟨rfl, rfl⟩
    go_wp2
    go_ret
    exact ⟨by simp, 0, rfl⟩
  · rw [if_neg h]
    go_enter Try.func56, Try.ntmps56
    go_wp2_with fail
    refine (unhide C1 _).mono ?_
    rintro e w1 ⟨rfl, rfl⟩
    go_wp2_with fail
    refine (unhide C2 _).mono ?_
    rintro e w1 ⟨rfl, rfl⟩
    go_wp2
    go_ret
    exact ⟨by simp, 0, rfl⟩
set_option maxRecDepth 20000 in
set_option maxHeartbeats 400000 in
theorem far_any (a b : List Int) (va vb : Value) (w : World) (ha : okPl a = true) (hb : okPl b = true) (ra : RdV w va (a.map iv)) (rb : RdV w vb (b.map iv)) :
    Calls Try.prog 38 #[va, vb] w fun e w' => e = .returned (.int .i64 (farL a b)) ∧ ∃ q, w' = w.drewN q := by
  obtain ⟨la, va'⟩ := okPl_yes ha
  obtain ⟨lb, vb'⟩ := okPl_yes hb
  have EF := hide (farL_is ha hb)
  obtain ⟨f, hf⟩ : ∃ f : Nat → Int, f = fun i => circ (cAt a i) (cAt b i) := ⟨_, rfl⟩
  rw [← hf] at EF
  have hf1 := fun i => (show 0 ≤ f i ∧ f i ≤ 1664 by rw [hf]; exact circ_le _ _)
  obtain ⟨a1, c1, rfl, hc1⟩ := ra.open
  obtain ⟨a2, c2, rfl, hc2⟩ := rb.open
  rw [List.length_map, la, List.length_map, lb]
  clear ra rb
  replace va' := hide va'; replace vb' := hide vb'; replace la := hide la; replace lb := hide lb; replace hf := hide hf; replace hf1 := hide hf1
  go_enter Try.func38, Try.ntmps38
  go_wp2
  go_loopw [5, 10] (fun tm ti wr => ∃ k q : Nat, k ≤ 256 ∧ tm = .int .i64 (maxN f k) ∧ ti = .int .i64 (k : Int) ∧ wr = w.drewN q) (fun _ ti _ => 256 - (intOf ti).toNat)
  case atStart => exact ⟨0, 0, by omega, rfl, rfl, rfl⟩
  case round =>
    obtain ⟨k, q, hk, rfl, rfl, rfl⟩ := hrel
    have HS := hide (show maxN f (k + 1) = if maxN f k < f k then f k else maxN f k from rfl)
    by_cases hlt : k < 256
    · have hk' : (k : Int) < 256 := by omega
      have hci : (0 : Int) ≤ (k : Int) := by omega
      obtain ⟨g1, o1, rfl, hg1, d1⟩ := hc1 k _ (get_iv a k (by rw [unhide la]; exact hlt))
      obtain ⟨g2, o2, rfl, hg2, d2⟩ := hc2 k _ (get_iv b k (by rw [unhide lb]; exact hlt))
      have CI := hide (fun W => apart_any (cAt a k) (cAt b k) (unhide va' k hlt) (unhide vb' k hlt) W)
      obtain ⟨d, hd⟩ : ∃ d, d = f k := ⟨_, rfl⟩
      rw [show circ (cAt a k) (cAt b k) = d by rw [hd, unhide hf]] at CI
      rw [← hd] at HS
      generalize maxN f k = mo at *
      generalize cAt a k = x at d1 CI
      generalize cAt b k = y at d2 CI
      replace hd := hide hd
      clear hc1 hc2
      by_cases c2' : mo < d
      · rw [if_pos c2'] at HS
        go_wp2_with fail
        refine (unhide CI _).mono ?_
        rintro e w1 ⟨rfl, q1, rfl⟩
        go_wp2
        exact ⟨⟨k + 1, _, by omega, by rw [unhide HS], by go_num, by first | rfl | rw [World.drewN_drewN]⟩, by simp [intOf]; omega⟩
      · rw [if_neg c2'] at HS
        go_wp2_with fail
        refine (unhide CI _).mono ?_
        rintro e w1 ⟨rfl, q1, rfl⟩
        go_wp2
        exact ⟨⟨k + 1, _, by omega, by rw [unhide HS], by go_num, by first | rfl | rw [World.drewN_drewN]⟩, by simp [intOf]; omega⟩
    · have hk' : ¬ (k : Int) < 256 := by omega
      have hke : k = 256 := by omega
      have E2 := hide (show farL a b = maxN f k by rw [hke]; exact unhide EF)
      replace hke := hide hke
      clear HS
      generalize maxN f k = mo at *
      go_wp2
      go_ret
      exact ⟨by rw [unhide E2]; rfl, q, rfl⟩
theorem implFar_any (a b : List Int) (ua ub : Value) (_ : a.length ≤ 1048576) (_ : b.length ≤ 1048576) (W : World) (r1 : RdV W ua (a.map iv)) (r2 : RdV W ub (b.map iv)) :
    Calls Try.prog 23 #[ua, ub] W fun x w' => x = .returned (.int .i64 (farL a b)) ∧ Below W.heap.size W w' := by
  have CA := hide (implPolyOk_q a ua W r1)
  have CB := hide (fun q => implPolyOk_q b ub (W.drewN q) r2)
  have sa := r1.shape
  have sb := r2.shape
  cases ha : okPl a with
  | true =>
    rw [ha] at CA
    cases hb : okPl b with
    | true =>
      rw [hb] at CB
      have CM := hide (fun q => far_any a b ua ub (W.drewN q) ha hb r1 r2)
      obtain ⟨a1, c1, rfl⟩ := sa
      obtain ⟨a2, c2, rfl⟩ := sb
      simp only [List.length_map] at CA CB CM ⊢
      clear r1 r2 ha hb
      generalize farL a b = l at *
      go_enter Try.func23, Try.ntmps23
      go_wp2_with fail
      refine (unhide CA).mono ?_
      rintro e w1 ⟨rfl, q, rfl⟩
      go_wp2_with fail
      refine (unhide CB q).mono ?_
      rintro e w1 ⟨rfl, q2, rfl⟩
      go_wp2_with fail
      refine (unhide CM _).mono ?_
      rintro e w1 ⟨rfl, q3, rfl⟩
      go_wp2
      go_ret
      exact ⟨rfl, bDN (Below.refl _ _) _⟩
    | false =>
      rw [hb] at CB
      have E := hide (show farL a b = -1 by unfold farL; rw [bothP_no2 hb]; rfl)
      rw [unhide E]
      obtain ⟨a1, c1, rfl⟩ := sa
      obtain ⟨a2, c2, rfl⟩ := sb
      simp only [List.length_map] at CA CB ⊢
      clear r1 r2 ha hb
      go_enter Try.func23, Try.ntmps23
      go_wp2_with fail
      refine (unhide CA).mono ?_
      rintro e w1 ⟨rfl, q, rfl⟩
      go_wp2_with fail
      refine (unhide CB q).mono ?_
      rintro e w1 ⟨rfl, q2, rfl⟩
      go_wp2
      go_ret
      exact ⟨rfl, by first | exact bDN (bDN (Below.refl _ _) _) _ | exact bDN (Below.refl _ _) _⟩
  | false =>
    rw [ha] at CA
    have E := hide (show farL a b = -1 by unfold farL; rw [bothP_no1 ha]; rfl)
    rw [unhide E]
    obtain ⟨a1, c1, rfl⟩ := sa
    obtain ⟨a2, c2, rfl⟩ := sb
    simp only [List.length_map] at CA ⊢
    clear r1 r2 ha CB
    go_enter Try.func23, Try.ntmps23
    go_wp2_with fail
    refine (unhide CA).mono ?_
    rintro e w1 ⟨rfl, q, rfl⟩
    go_wp2
    go_ret
    exact ⟨rfl, bDN (Below.refl _ _) _⟩
end Go.Proofs.Ytijkhdhapdoepas
