/- Packing by the project: whether numbers fit, over the loaded program. -/
import Derived.Test.YtkiocjbooegajarDoorPckA
import Derived.Shelf.Abstract
namespace Go.Proofs.YtkiocjbooegajarDoor
open Go.RowKit Go.Shelf
def fitN (b : Nat) (x : Int) : Bool := decide (0 ≤ x ∧ x ≤ ((2 ^ b : Nat) : Int) - 1)
def fitL (b : Nat) (l : List Int) : Bool := l.all (fitN b)
theorem fitL_no {b : Nat} {l : List Int} (k : Nat) (hk : k < l.length) (h : fitN b (cAt l k) = false) : fitL b l = false := by
  cases e : fitL b l with
  | false => rfl
  | true =>
    unfold fitL at e
    rw [List.all_eq_true] at e
    have := e l[k] (List.getElem_mem _)
    rw [← cAt_lt hk] at this
    rw [h] at this
    cases this
theorem fitL_of {b : Nat} {l : List Int} (h : ∀ j, j < l.length → fitN b (cAt l j) = true) : fitL b l = true := by
  unfold fitL
  rw [List.all_eq_true]
  intro x hx
  obtain ⟨j, hj, rfl⟩ := List.getElem_of_mem hx
  have := h j hj
  rw [cAt_lt hj] at this
  exact this
theorem wrongFit_any (x : Int) (b : Nat) (hb : b ≤ 12) (g : Nat) (w : World) (hg : w.cell? ⟨g, 0, none⟩ = some (.int .i64 (b : Int))) :
    Calls Tryd.prog 23 #[.int .i64 x, .pointer (some ⟨g, 0, none⟩)] w fun e w' => e = .returned (.bool (!fitN b x)) ∧ w' = w := by
  have CI := hide (fun W => inBits_any x b hb W)
  unfold fitN
  generalize decide (0 ≤ x ∧ x ≤ ((2 ^ b : Nat) : Int) - 1) = q at *
  go_enter Tryd.func23, Tryd.ntmps23
  go_wp2_with fail
  refine (unhide CI _).mono ?_
  rintro e w1 ⟨rfl, rfl⟩
  go_wp2
  go_ret
  exact ⟨rfl, rfl⟩
set_option maxRecDepth 20000 in
set_option maxHeartbeats 400000 in
theorem indexFit_any (a : List Int) (b : Nat) (hb : b ≤ 12) (gb : Nat) (v : Value) (w : World) (hl : a.length ≤ 1048576) (hg : w.cell? ⟨gb, 0, none⟩ = some (.int .i64 (b : Int))) (hr : RdV w v (a.map iv)) :
    Calls Tryd.prog 30 #[v, .func (.func 23) #[] #[.pointer (some ⟨gb, 0, none⟩)]] w fun e w' =>
      (∃ z : Int, e = .returned (.int .i64 z) ∧ (z < 0 ↔ fitL b a = true)) ∧ ∃ q, w' = w.drewN q := by
  have eg : ∀ args w, (callFunc 23 args).run Tryd.prog w = .ok (.enter 23 args) w := enters_of Tryd.func23 (by kernel_rfl) rfl
  obtain ⟨s, c, rfl, hc⟩ := hr.open
  rw [List.length_map]
  obtain ⟨n, hn⟩ : ∃ n, n = a.length := ⟨_, rfl⟩
  rw [← hn] at hl ⊢
  clear hr
  replace hn := hide hn
  have HG := hide (fun q => (show (w.drewN q).cell? ⟨gb, 0, none⟩ = some (.int .i64 (b : Int)) from hg))
  clear hg
  go_enter Tryd.func30, Tryd.ntmps30
  go_wp2
  go_loopw [5, 8] (fun _ ti wr => ∃ k q : Nat, k ≤ n ∧ ti = .int .i64 (k : Int) ∧ wr = w.drewN q ∧ Hid (∀ j, j < k → fitN b (cAt a j) = true)) (fun _ ti _ => n - (intOf ti).toNat)
  case atStart => exact ⟨0, 0, by omega, rfl, rfl, hide (fun j hj => absurd hj (by omega))⟩
  case round =>
    obtain ⟨k, q, hk, rfl, rfl, HK⟩ := hrel
    by_cases hlt : k < n
    · have hk' : (k : Int) < (n : Int) := by omega
      have hci : (0 : Int) ≤ (k : Int) := by omega
      have hkl : k < a.length := by rw [← unhide hn]; exact hlt
      obtain ⟨g, o, rfl, hg, d1⟩ := hc k _ (get_iv a k hkl)
      have CI := hide (fun (q : Nat) => wrongFit_any (cAt a k) b hb gb (w.drewN q) (unhide HG q))
      cases hx : fitN b (cAt a k) with
      | false =>
        rw [hx] at CI
        have E := hide (show fitL b a = false from fitL_no k hkl hx)
        generalize cAt a k = told at d1 CI
        clear hc HK hx
        go_wp2_with (go_at_fn 23; refine (unhide CI _).mono ?_; rintro e w1 ⟨rfl, rfl⟩)
        go_ret
        exact ⟨⟨_, rfl, by rw [unhide E]; simp⟩, _, rfl⟩
      | true =>
        rw [hx] at CI
        have HK2 := hide (show ∀ j, j < k + 1 → fitN b (cAt a j) = true from fun j hj => by
          by_cases e : j = k
          · rw [e]; exact hx
          · exact unhide HK j (by omega))
        generalize cAt a k = told at d1 CI
        clear hc HK hx
        go_wp2_with (go_at_fn 23; refine (unhide CI _).mono ?_; rintro e w1 ⟨rfl, rfl⟩)
        exact ⟨⟨k + 1, _, by omega, by go_num, by first | rfl | rw [World.drewN_drewN], HK2⟩, by simp [intOf]; omega⟩
    · have hk' : ¬ (k : Int) < (n : Int) := by omega
      have hke : k = n := by omega
      have E := hide (show fitL b a = true from fitL_of (fun i hi => unhide HK i (by rw [← unhide hn] at hi; omega)))
      replace hke := hide hke
      clear hc HK
      go_wp2
      go_ret
      exact ⟨⟨_, rfl, by rw [unhide E]; simp⟩, _, rfl⟩
theorem anyFit_any (a : List Int) (b : Nat) (hb : b ≤ 12) (gb : Nat) (v : Value) (w : World) (hl : a.length ≤ 1048576) (hg : w.cell? ⟨gb, 0, none⟩ = some (.int .i64 (b : Int))) (hr : RdV w v (a.map iv)) :
    Calls Tryd.prog 25 #[v, .func (.func 23) #[] #[.pointer (some ⟨gb, 0, none⟩)]] w fun e w' =>
      e = .returned (.bool (!fitL b a)) ∧ ∃ q, w' = w.drewN q := by
  have CI := hide (indexFit_any a b hb gb v w hl hg hr)
  clear hr hg
  generalize fitL b a = ok at *
  go_enter Tryd.func25, Tryd.ntmps25
  go_wp2_with fail
  refine (unhide CI).mono ?_
  rintro e w1 ⟨⟨z, rfl, hz⟩, q, rfl⟩
  clear CI
  cases ok with
  | true =>
    have h1 : z < 0 := hz.2 rfl
    have h2 : ¬ 0 ≤ z := by omega
    clear hz
    go_wp2
    go_ret
    exact ⟨by simp; omega, q, rfl⟩
  | false =>
    have h1 : ¬ z < 0 := fun h => by cases hz.1 h
    have h2 : 0 ≤ z := by omega
    clear hz
    go_wp2
    go_ret
    exact ⟨by simp, q, rfl⟩
end Go.Proofs.YtkiocjbooegajarDoor
