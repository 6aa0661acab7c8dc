/- Whether a sample is small, by the given model, over the loaded program. -/
import Derived.Test.YtijkhdhapdoepasPly1
namespace Go.Proofs.Ytijkhdhapdoepas
open Go.RowKit
def smOk (l : List Int) : Bool := okPl l && l.all fun x => !(decide (2 < x) && decide (x < 3327))
theorem smOk_no {l : List Int} (k : Nat) (hk : k < l.length) (h : 2 < cAt l k ∧ cAt l k < 3327) : smOk l = false := by
  cases e : smOk l with
  | false => rfl
  | true =>
    unfold smOk at e
    rw [Bool.and_eq_true, List.all_eq_true] at e
    have h2 := e.2 (cAt l k) (by rw [cAt_lt hk]; exact List.getElem_mem hk)
    simp at h2
    omega
theorem smOk_yes {l : List Int} (h : okPl l = true) (h2 : ∀ k, k < 256 → ¬ (2 < cAt l k ∧ cAt l k < 3327)) : smOk l = true := by
  unfold smOk
  rw [h, Bool.true_and, List.all_eq_true]
  intro x hx
  obtain ⟨k, hk, rfl⟩ := List.mem_iff_getElem.mp hx
  have h3 := h2 k (by have := (okPl_yes h).1; omega)
  rw [cAt_lt hk] at h3
  rw [Bool.not_eq_true', Bool.and_eq_false_iff, decide_eq_false_iff_not, decide_eq_false_iff_not]
  omega
set_option maxRecDepth 20000 in
set_option maxHeartbeats 400000 in
theorem specSmallOk_any (a : List Int) (v : Value) (w : World) (hr : RdV w v (a.map iv)) :
    Calls Try.prog 8 #[v] w fun e w' => e = .returned (.bool (smOk a)) ∧ w' = w := by
  have CI := hide (specPolyOk_any a v w hr)
  cases ho : okPl a with
  | false =>
    have E := hide (show smOk a = false by unfold smOk; rw [ho]; rfl)
    rw [unhide E]
    rw [ho] at CI
    obtain ⟨a1, c1, rfl⟩ := hr.shape
    rw [List.length_map] at CI ⊢
    clear ho E
    go_enter Try.func8, Try.ntmps8
    go_wp2_with fail
    refine (unhide CI).mono ?_
    rintro e w1 ⟨rfl, hw1⟩
    have hw2 := hw1.symm
    subst hw2
    clear hw1 CI hr
    go_wp2
    go_ret
    exact ⟨rfl, rfl⟩
  | true =>
    rw [ho] at CI
    have hl := (okPl_yes ho).1
    obtain ⟨a1, c1, rfl, hc⟩ := hr.open
    rw [List.length_map, hl] at CI ⊢
    clear hr
    replace hl := hide hl
    replace ho := hide ho
    go_enter Try.func8, Try.ntmps8
    go_wp2_with fail
    refine (unhide CI).mono ?_
    rintro e w1 ⟨rfl, hw1⟩
    have hw2 := hw1.symm
    subst hw2
    clear hw1 CI
    go_wp2
    go_loopw [3] (fun ti wr => ∃ k : Nat, k ≤ 256 ∧ ti = .int .i64 k ∧ wr = w ∧ Hid (∀ j, j < k → ¬ (2 < cAt a j ∧ cAt a j < 3327))) (fun ti _ => 256 - (intOf ti).toNat)
    case atStart => exact ⟨0, by omega, rfl, rfl, hide (fun j hj => absurd hj (by omega))⟩
    case round =>
      obtain ⟨k, hk, rfl, hw, HK⟩ := hrel
      have hw' := hw.symm
      subst hw'
      clear hw
      by_cases hlt : k < 256
      · have hk' : (k : Int) < 256 := by omega
        have hkl : k < a.length := by rw [unhide hl]; exact hlt
        obtain ⟨g, o, rfl, hg, d1⟩ := hc k _ (get_iv a k hkl)
        by_cases hx : 2 < cAt a k ∧ cAt a k < 3327
        · have E := hide (smOk_no k hkl hx)
          generalize cAt a k = told at d1 hx
          obtain ⟨hx1, hx2⟩ := hx
          clear hc HK
          have hx1d : decide (2 < told) = true := decide_eq_true hx1
          go_wp2
          go_ret
          exact ⟨by rw [unhide E]; rfl, rfl⟩
        · have HK2 := hide (show ∀ j, j < k + 1 → ¬ (2 < cAt a j ∧ cAt a j < 3327) from fun j hj => by
            by_cases e : j = k
            · rw [e]; exact hx
            · exact unhide HK j (by omega))
          generalize cAt a k = told at d1 hx
          clear hc HK
          by_cases hx1 : 2 < told
          · have hx2 : ¬ told < 3327 := fun h => hx ⟨hx1, h⟩
            have hx1d : decide (2 < told) = true := decide_eq_true hx1
            clear hx
            go_wp2
            exact ⟨⟨k + 1, by omega, by go_num, by first | rfl | trivial, HK2⟩, by simp [intOf]; omega⟩
          · have hx1d : decide (2 < told) = false := decide_eq_false hx1
            clear hx
            go_wp2
            exact ⟨⟨k + 1, by omega, by go_num, by first | rfl | trivial, HK2⟩, by simp [intOf]; omega⟩
      · have hk' : ¬ (k : Int) < 256 := by omega
        have E := hide (show smOk a = true from smOk_yes (unhide ho) (fun j hj => unhide HK j (by omega)))
        clear hc HK
        go_wp2
        go_ret
        exact ⟨by rw [unhide E]; rfl, rfl⟩
end Go.Proofs.Ytijkhdhapdoepas
