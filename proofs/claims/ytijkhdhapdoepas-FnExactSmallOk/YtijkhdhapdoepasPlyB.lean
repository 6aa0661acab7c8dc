/- Polynomials by the project: whether one is right, over the loaded program. -/
import Derived.Test.YtijkhdhapdoepasPly2
import Derived.Shelf.Abstract
namespace Go.Proofs.Ytijkhdhapdoepas
open Go.RowKit Go.Shelf
def wrongN (x : Int) : Bool := decide (x < 0) || decide (3329 ≤ x)
theorem wrongN_no (x : Int) : wrongN x = false ↔ 0 ≤ x ∧ x ≤ 3328 := by
  unfold wrongN
  rw [Bool.or_eq_false_iff, decide_eq_false_iff_not, decide_eq_false_iff_not]
  omega
theorem wrong_any (x : Int) (w : World) :
    Calls Try.prog 54 #[.int .i64 x] w fun e w' => e = .returned (.bool (wrongN x)) ∧ w' = w := by
  by_cases h1 : x < 0
  · have H := hide (show wrongN x = true by unfold wrongN; rw [Bool.or_eq_true_iff]; left; exact decide_eq_true h1)
    rw [unhide H]
    go_enter Try.func54, Try.ntmps54
    go_wp2
    go_ret
    exact ⟨rfl, rfl⟩
  · by_cases h2 : 3329 ≤ x
    · have H := hide (show wrongN x = true by unfold wrongN; rw [Bool.or_eq_true_iff]; right; exact decide_eq_true h2)
      rw [unhide H]
      go_enter Try.func54, Try.ntmps54
      go_wp2
      go_ret
      exact ⟨by simp, rfl⟩
    · have H := hide (show wrongN x = false by rw [wrongN_no]; omega)
      rw [unhide H]
      go_enter Try.func54, Try.ntmps54
      go_wp2
      go_ret
      exact ⟨by simp, rfl⟩
set_option maxRecDepth 20000 in
set_option maxHeartbeats 400000 in
theorem indexWrong_any (a : List Int) (v : Value) (w : World) (hl : a.length = 256) (hr : RdV w v (a.map iv)) :
    Calls Try.prog 67 #[v, .func (.func 54) #[] #[]] w fun e w' =>
      (∃ z : Int, e = .returned (.int .i64 z) ∧ (z < 0 ↔ okPl a = true)) ∧ ∃ q, w' = w.drewN q := by
  have eg : ∀ args w, (callFunc 54 args).run Try.prog w = .ok (.enter 54 args) w := enters_of Try.func54 (by kernel_rfl) rfl
  obtain ⟨s, c, rfl, hc⟩ := hr.open
  rw [List.length_map, hl]
  clear hr
  replace hl := hide hl
  go_enter Try.func67, Try.ntmps67
  go_wp2
  go_loopw [5, 8] (fun _ ti wr => ∃ k q : Nat, k ≤ 256 ∧ ti = .int .i64 (k : Int) ∧ wr = w.drewN q ∧ Hid (∀ j, j < k → 0 ≤ cAt a j ∧ cAt a j ≤ 3328)) (fun _ ti _ => 256 - (intOf ti).toNat)
  case atStart => exact ⟨0, 0, by omega, rfl, rfl, hide (fun j hj => absurd hj (by omega))⟩
  case round =>
    obtain ⟨k, q, hk, rfl, rfl, HK⟩ := hrel
    by_cases hlt : k < 256
    · have hk' : (k : Int) < 256 := by omega
      have hci : (0 : Int) ≤ (k : Int) := by omega
      have hkl : k < a.length := by rw [unhide hl]; exact hlt
      obtain ⟨g, o, rfl, hg, d1⟩ := hc k _ (get_iv a k hkl)
      have CI := hide (fun W => wrong_any (cAt a k) W)
      cases hx : wrongN (cAt a k) with
      | true =>
        rw [hx] at CI
        have E := hide (show okPl a = false from okPl_no k hkl (fun h => by rw [(wrongN_no _).2 h] at hx; cases hx))
        generalize cAt a k = told at d1 CI
        clear hc HK hx
        go_wp2_with (go_at_fn 54; refine (unhide CI _).mono ?_; rintro e w1 ⟨rfl, rfl⟩)
        go_ret
        exact ⟨⟨_, rfl, by rw [unhide E]; simp⟩, _, rfl⟩
      | false =>
        rw [hx] at CI
        have HK2 := hide (show ∀ j, j < k + 1 → 0 ≤ cAt a j ∧ cAt a j ≤ 3328 from fun j hj => by
          by_cases e : j = k
          · rw [e]; exact (wrongN_no _).1 hx
          · exact unhide HK j (by omega))
        generalize cAt a k = told at d1 CI
        clear hc HK hx
        go_wp2_with (go_at_fn 54; refine (unhide CI _).mono ?_; rintro e w1 ⟨rfl, rfl⟩)
        exact ⟨⟨k + 1, _, by omega, by go_num, by first | rfl | rw [World.drewN_drewN], HK2⟩, by simp [intOf]; omega⟩
    · have hk' : ¬ (k : Int) < 256 := by omega
      have hke : k = 256 := by omega
      have E := hide (show okPl a = true from okPl_of (unhide hl) (fun i hi => unhide HK i (by omega)))
      replace hke := hide hke
      clear hc HK
      go_wp2
      go_ret
      exact ⟨⟨_, rfl, by rw [unhide E]; simp⟩, _, rfl⟩
theorem anyWrong_any (a : List Int) (v : Value) (w : World) (hl : a.length = 256) (hr : RdV w v (a.map iv)) :
    Calls Try.prog 55 #[v, .func (.func 54) #[] #[]] w fun e w' =>
      e = .returned (.bool (!okPl a)) ∧ ∃ q, w' = w.drewN q := by
  have CI := hide (indexWrong_any a v w hl hr)
  clear hr
  generalize okPl a = ok at *
  go_enter Try.func55, Try.ntmps55
  go_wp2_with fail
  refine (unhide CI).mono ?_
  rintro e w1 ⟨⟨z, rfl, hz⟩, q, rfl⟩
  clear CI
  cases ok with
  | true =>
    have h1 : z < 0 := hz.2 rfl
    have h2 : ¬ 0 ≤ z := by omega
    clear hz
    go_wp2
    go_ret
    exact ⟨by simp; omega, q, rfl⟩
  | false =>
    have h1 : ¬ z < 0 := fun h => by cases hz.1 h
    have h2 : 0 ≤ z := by omega
    clear hz
    go_wp2
    go_ret
    exact ⟨by simp, q, rfl⟩
theorem ok_any (a : List Int) (v : Value) (w : World) (hr : RdV w v (a.map iv)) :
    Calls Try.prog 37 #[v] w fun e w' => e = .returned (.bool (okPl a)) ∧ ∃ q, w' = w.drewN q := by
  by_cases hl : a.length = 256
  · have CI := hide (anyWrong_any a v w hl hr)
    obtain ⟨s, c, rfl, hc⟩ := hr.open
    rw [List.length_map, hl] at CI ⊢
    clear hr hc
    generalize okPl a = b at *
    go_enter Try.func37, Try.ntmps37
    go_wp2_with fail
    refine (unhide CI).mono ?_
    rintro e w1 ⟨rfl, q, rfl⟩
    go_wp2
    go_ret
    exact ⟨by simp, q, rfl⟩
  · have E := hide (okPl_len hl)
    rw [unhide E]
    obtain ⟨s, c, rfl, hc⟩ := hr.open
    rw [List.length_map]
    have hl2 : ¬ (a.length : Int) = 256 := by omega
    clear hr hc
    go_enter Try.func37, Try.ntmps37
    go_wp2
    go_ret
    exact ⟨by simp, 0, rfl⟩
theorem implPolyOk_q (a : List Int) (ua : Value) (W : World) (r : RdV W ua (a.map iv)) :
    Calls Try.prog 22 #[ua] W fun x w' => x = .returned (.bool (okPl a)) ∧ ∃ q, w' = W.drewN q := by
  have CI := hide (ok_any a ua W r)
  obtain ⟨s, c, rfl⟩ := r.shape
  rw [List.length_map] at CI ⊢
  clear r
  generalize okPl a = b at *
  go_enter Try.func22, Try.ntmps22
  go_wp2_with fail
  refine (unhide CI).mono ?_
  rintro e w1 ⟨rfl, q, rfl⟩
  go_wp2
  go_ret
  exact ⟨rfl, q, rfl⟩
theorem implPolyOk_any (a : List Int) (ua : Value) (_ : a.length ≤ 1048576) (W : World) (r : RdV W ua (a.map iv)) :
    Calls Try.prog 22 #[ua] W fun x w' => x = .returned (.bool (okPl a)) ∧ Below W.heap.size W w' :=
  (implPolyOk_q a ua W r).mono fun _ _ ⟨h1, q, h2⟩ => ⟨h1, by rw [h2]; exact bDN (Below.refl _ _) q⟩
end Go.Proofs.Ytijkhdhapdoepas
