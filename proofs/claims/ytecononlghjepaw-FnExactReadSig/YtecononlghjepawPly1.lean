/- Polynomials by the given model: whether one is right, bits turned, how far two are apart, over the loaded program. -/
import Derived.Test.YtecononlghjepawInts
import Derived.Test.YtecononlghjepawPly0
import Derived.Test.YtecononlghjepawChecked
import Derived.Laws.BitsLemmas
namespace Go.Proofs.Ytecononlghjepaw
open Go.RowKit
/-- A slice's length is no more than its room. -/
def CapV (v : Value) : Prop := ∀ a n c, v = .slice a n c → n ≤ c
theorem OwnV.capv {w : World} {base : Nat} {e : TypeId} {v : Value} {xs : List Value} (h : OwnV w base e v xs) : CapV v := by
  intro a n c hv
  subst hv
  rcases h.2 with ⟨h1, _⟩ | ⟨g, cap, cur, h1, _, _, h3, _⟩
  · simp only [Value.slice.injEq] at h1; omega
  · simp only [Value.slice.injEq] at h1; omega
theorem capv_lit {a : Option Addr} {n c : Nat} (h : n ≤ c) : CapV (.slice a n c) := by
  intro a' n' c' he
  simp only [Value.slice.injEq] at he
  omega
theorem okPl_no {l : List Int} (k : Nat) (hk : k < l.length) (h : ¬ (0 ≤ cAt l k ∧ cAt l k ≤ 3328)) : okPl l = false := by
  cases e : okPl l with
  | false => rfl
  | true => exact absurd ((okPl_yes e).2 k (by have := (okPl_yes e).1; omega)) h
theorem okPl_len {l : List Int} (h : ¬ l.length = 256) : okPl l = false := by
  cases e : okPl l with
  | false => rfl
  | true => exact absurd (okPl_yes e).1 h
theorem get_iv (l : List Int) (k : Nat) (h : k < l.length) : (l.map iv)[k]? = some (.int .i64 (cAt l k)) := by
  rw [List.getElem?_map, List.getElem?_eq_getElem h, cAt_lt h]; rfl
theorem inb9 (x lo hi : Int) (w : World) :
    Calls Try.prog 33 #[.int .i64 x, .int .i64 lo, .int .i64 hi] w fun e w' => e = .returned (.bool (decide (lo ≤ x ∧ x ≤ hi))) ∧ w' = w := by
  by_cases h1 : lo ≤ x
  · by_cases h2 : x ≤ hi
    · have H := hide (show decide (lo ≤ x ∧ x ≤ hi) = true by rw [decide_eq_true_iff]; omega)
      rw [unhide H]
      go_enter Try.func33, Try.ntmps33
      go_wp2
      go_ret
      exact ⟨by simp, rfl⟩
    · have H := hide (show decide (lo ≤ x ∧ x ≤ hi) = false by rw [decide_eq_false_iff_not]; omega)
      rw [unhide H]
      go_enter Try.func33, Try.ntmps33
      go_wp2
      go_ret
      exact ⟨by simp, rfl⟩
  · have H := hide (show decide (lo ≤ x ∧ x ≤ hi) = false by rw [decide_eq_false_iff_not]; omega)
    rw [unhide H]
    go_enter Try.func33, Try.ntmps33
    go_wp2
    go_ret
    exact ⟨rfl, rfl⟩
def hv (m : Nat) : Nat → Nat
  | 0 => m
  | k + 1 => hv m k / 2
def rv (m : Nat) : Nat → Nat
  | 0 => 0
  | k + 1 => 2 * rv m k + hv m k % 2
theorem rv_7 (m : Nat) (hm : m < 128) : rv m 7 = t7 m := by
  have H : allN (fun m => rv m 7 == t7 m) 128 = true := by decide +kernel
  simpa using allN_at H m hm
theorem hv_le (m k : Nat) : hv m k ≤ m := by
  induction k with
  | zero => exact Nat.le_refl _
  | succ k ih => show hv m k / 2 ≤ m; omega
theorem rv_lt (m k : Nat) (hk : k ≤ 7) : rv m k < 2 ^ k := by
  induction k with
  | zero => exact Nat.one_pos
  | succ k ih => have := ih (by omega); show 2 * rv m k + hv m k % 2 < 2 ^ (k + 1); rw [Nat.pow_succ]; omega
theorem rv_le (m k : Nat) (hk : k ≤ 7) : rv m k < 128 := Nat.lt_of_lt_of_le (rv_lt m k hk) (Nat.pow_le_pow_right (by omega) hk)
def turnZ (z : Int) : Int := (t7 (z % 128).toNat : Int)
end Go.Proofs.Ytecononlghjepaw
