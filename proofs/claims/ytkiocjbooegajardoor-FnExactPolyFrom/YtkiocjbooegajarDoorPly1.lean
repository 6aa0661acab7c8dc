/- Polynomials by the given model: whether one is right, bits turned, how far two are apart, over the loaded program. -/
import Derived.Test.YtkiocjbooegajarDoorInts
import Derived.Test.YtkiocjbooegajarDoorPly0
import Derived.Test.YtkiocjbooegajarDoorChecked
import Derived.Laws.BitsLemmas
namespace Go.Proofs.YtkiocjbooegajarDoor
open Go.RowKit
/-- A slice's length is no more than its room. -/
def CapV (v : Value) : Prop := ∀ a n c, v = .slice a n c → n ≤ c
theorem OwnV.capv {w : World} {base : Nat} {e : TypeId} {v : Value} {xs : List Value} (h : OwnV w base e v xs) : CapV v := by
  intro a n c hv
  subst hv
  rcases h.2 with ⟨h1, _⟩ | ⟨g, cap, cur, h1, _, _, h3, _⟩
  · simp only [Value.slice.injEq] at h1; omega
  · simp only [Value.slice.injEq] at h1; omega
theorem capv_lit {a : Option Addr} {n c : Nat} (h : n ≤ c) : CapV (.slice a n c) := by
  intro a' n' c' he
  simp only [Value.slice.injEq] at he
  omega
theorem okPl_no {l : List Int} (k : Nat) (hk : k < l.length) (h : ¬ (0 ≤ cAt l k ∧ cAt l k ≤ 3328)) : okPl l = false := by
  cases e : okPl l with
  | false => rfl
  | true => exact absurd ((okPl_yes e).2 k (by have := (okPl_yes e).1; omega)) h
theorem okPl_len {l : List Int} (h : ¬ l.length = 256) : okPl l = false := by
  cases e : okPl l with
  | false => rfl
  | true => exact absurd (okPl_yes e).1 h
theorem get_iv (l : List Int) (k : Nat) (h : k < l.length) : (l.map iv)[k]? = some (.int .i64 (cAt l k)) := by
  rw [List.getElem?_map, List.getElem?_eq_getElem h, cAt_lt h]; rfl
theorem inb9 (x lo hi : Int) (w : World) :
    Calls Tryd.prog 19 #[.int .i64 x, .int .i64 lo, .int .i64 hi] w fun e w' => e = .returned (.bool (decide (lo ≤ x ∧ x ≤ hi))) ∧ w' = w := by
  by_cases h1 : lo ≤ x
  · by_cases h2 : x ≤ hi
    · have H := hide (show decide (lo ≤ x ∧ x ≤ hi) = true by rw [decide_eq_true_iff]; omega)
      rw [unhide H]
      go_enter Tryd.func19, Tryd.ntmps19
      go_wp2
      go_ret
      exact ⟨by simp, rfl⟩
    · have H := hide (show decide (lo ≤ x ∧ x ≤ hi) = false by rw [decide_eq_false_iff_not]; omega)
      rw [unhide H]
      go_enter Tryd.func19, Tryd.ntmps19
      go_wp2
      go_ret
      exact ⟨by simp, rfl⟩
  · have H := hide (show decide (lo ≤ x ∧ x ≤ hi) = false by rw [decide_eq_false_iff_not]; omega)
    rw [unhide H]
    go_enter Tryd.func19, Tryd.ntmps19
    go_wp2
    go_ret
    exact ⟨rfl, rfl⟩
set_option maxRecDepth 20000 in
set_option maxHeartbeats 400000 in
theorem specPolyOk_any (is : List Int) (v : Value) (w : World) (hr : RdV w v (is.map iv)) :
    Calls Tryd.prog 13 #[v] w fun e w' => e = .returned (.bool (okPl is)) ∧ w' = w := by
  obtain ⟨a, c, rfl, hc⟩ := hr.open
  clear hr
  rw [List.length_map]
  by_cases hl : is.length = 256
  · obtain ⟨n, hnn⟩ : ∃ n, is.length = n := ⟨_, rfl⟩
    rw [hnn]
    have hn : (n : Int) = 256 := by omega
    have hn' : n = 256 := by omega
    replace hn' := hide hn'
    replace hnn := hide hnn
    replace hl := hide hl
    go_enter Tryd.func13, Tryd.ntmps13
    go_wp2
    go_loopw [3] (fun ti wr => ∃ k : Nat, k ≤ 256 ∧ ti = .int .i64 k ∧ wr = w ∧ Hid (∀ j, j < k → 0 ≤ cAt is j ∧ cAt is j ≤ 3328)) (fun ti _ => 256 - (intOf ti).toNat)
    case atStart => exact ⟨0, by omega, rfl, rfl, hide (fun j hj => absurd hj (by omega))⟩
    case round =>
      obtain ⟨k, hk, rfl, hw, HK⟩ := hrel
      have hw' := hw.symm
      subst hw'
      clear hw
      by_cases hlt : k < 256
      · have hk' : (k : Int) < 256 := by omega
        have hkl : k < is.length := by rw [unhide hl]; exact hlt
        obtain ⟨g, o, rfl, hg, d1⟩ := hc k _ (get_iv is k hkl)
        by_cases hx : 0 ≤ cAt is k ∧ cAt is k ≤ 3328
        · have CI := hide (inb9 (cAt is k) 0 3328 w)
          rw [show decide (0 ≤ cAt is k ∧ cAt is k ≤ 3328) = true by rw [decide_eq_true_iff]; exact hx] at CI
          have HK2 := hide (show ∀ j, j < k + 1 → 0 ≤ cAt is j ∧ cAt is j ≤ 3328 from fun j hj => by
            by_cases e : j = k
            · rw [e]; exact hx
            · exact unhide HK j (by omega))
          generalize cAt is k = told at d1 CI
          clear hc HK hx
          go_wp2_with (go_at_call 19; refine (unhide CI).mono ?_; rintro e w1 ⟨rfl, hw1⟩; have hw2 := hw1.symm; subst hw2; clear hw1)
          go_roundw
          case rel => exact ⟨k + 1, by omega, by go_num, by first | rfl | trivial, HK2⟩
          case measure => simp [intOf]; omega
        · have CI := hide (inb9 (cAt is k) 0 3328 w)
          rw [show decide (0 ≤ cAt is k ∧ cAt is k ≤ 3328) = false by rw [decide_eq_false_iff_not]; exact hx] at CI
          have E := hide (okPl_no k hkl hx)
          generalize cAt is k = told at d1 CI
          clear hc HK hx
          go_wp2_with (go_at_call 19; refine (unhide CI).mono ?_; rintro e w1 ⟨rfl, hw1⟩; have hw2 := hw1.symm; subst hw2; clear hw1)
          go_ret
          exact ⟨by rw [unhide E]; rfl, rfl⟩
      · have hk' : ¬ (k : Int) < 256 := by omega
        have hke : k = 256 := by omega
        have E := hide (okPl_of (unhide hl) (fun j hj => unhide HK j (by omega)))
        clear hc HK
        go_wp2
        go_ret
        exact ⟨by rw [unhide E]; rfl, rfl⟩
  · have E := hide (okPl_len hl)
    have hl' : ¬ (is.length : Int) = 256 := by omega
    go_enter Tryd.func13, Tryd.ntmps13
    go_wp2
    go_ret
    exact ⟨by rw [unhide E]; rfl, rfl⟩
def hv (m : Nat) : Nat → Nat
  | 0 => m
  | k + 1 => hv m k / 2
def rv (m : Nat) : Nat → Nat
  | 0 => 0
  | k + 1 => 2 * rv m k + hv m k % 2
theorem rv_7 (m : Nat) (hm : m < 128) : rv m 7 = t7 m := by
  have H : allN (fun m => rv m 7 == t7 m) 128 = true := by decide +kernel
  simpa using allN_at H m hm
theorem hv_le (m k : Nat) : hv m k ≤ m := by
  induction k with
  | zero => exact Nat.le_refl _
  | succ k ih => show hv m k / 2 ≤ m; omega
theorem rv_lt (m k : Nat) (hk : k ≤ 7) : rv m k < 2 ^ k := by
  induction k with
  | zero => exact Nat.one_pos
  | succ k ih => have := ih (by omega); show 2 * rv m k + hv m k % 2 < 2 ^ (k + 1); rw [Nat.pow_succ]; omega
theorem rv_le (m k : Nat) (hk : k ≤ 7) : rv m k < 128 := Nat.lt_of_lt_of_le (rv_lt m k hk) (Nat.pow_le_pow_right (by omega) hk)
def turnZ (z : Int) : Int := (t7 (z % 128).toNat : Int)
end Go.Proofs.YtkiocjbooegajarDoor
