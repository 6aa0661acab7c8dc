/- Polynomials by the given model: whether one is right, bits turned, how far two are apart, over the loaded program. -/
import Derived.Test.YtijkhdhapdoepasInts
import Derived.Test.YtijkhdhapdoepasPly0
import Derived.Test.YtijkhdhapdoepasChecked
import Derived.Laws.BitsLemmas
namespace Go.Proofs.Ytijkhdhapdoepas
open Go.RowKit
/-- A slice's length is no more than its room. -/
def CapV (v : Value) : Prop := ∀ a n c, v = .slice a n c → n ≤ c
theorem OwnV.capv {w : World} {base : Nat} {e : TypeId} {v : Value} {xs : List Value} (h : OwnV w base e v xs) : CapV v := by
  intro a n c hv
  subst hv
  rcases h.2 with ⟨h1, _⟩ | ⟨g, cap, cur, h1, _, _, h3, _⟩
  · simp only [Value.slice.injEq] at h1; omega
  · simp only [Value.slice.injEq] at h1; omega
theorem capv_lit {a : Option Addr} {n c : Nat} (h : n ≤ c) : CapV (.slice a n c) := by
  intro a' n' c' he
  simp only [Value.slice.injEq] at he
  omega
theorem okPl_no {l : List Int} (k : Nat) (hk : k < l.length) (h : ¬ (0 ≤ cAt l k ∧ cAt l k ≤ 3328)) : okPl l = false := by
  cases e : okPl l with
  | false => rfl
  | true => exact absurd ((okPl_yes e).2 k (by have := (okPl_yes e).1; omega)) h
theorem okPl_len {l : List Int} (h : ¬ l.length = 256) : okPl l = false := by
  cases e : okPl l with
  | false => rfl
  | true => exact absurd (okPl_yes e).1 h
theorem get_iv (l : List Int) (k : Nat) (h : k < l.length) : (l.map iv)[k]? = some (.int .i64 (cAt l k)) := by
  rw [List.getElem?_map, List.getElem?_eq_getElem h, cAt_lt h]; rfl
theorem inb9 (x lo hi : Int) (w : World) :
    Calls Try.prog 36 #[.int .i64 x, .int .i64 lo, .int .i64 hi] w fun e w' => e = .returned (.bool (decide (lo ≤ x ∧ x ≤ hi))) ∧ w' = w := by
  by_cases h1 : lo ≤ x
  · by_cases h2 : x ≤ hi
    · have H := hide (show decide (lo ≤ x ∧ x ≤ hi) = true by rw [decide_eq_true_iff]; omega)
      rw [unhide H]
      go_enter Try.func36, Try.ntmps36
      go_wp2
      go_ret
      exact ⟨by simp, rfl⟩
    · have H := hide (show decide (lo ≤ x ∧ x ≤ hi) = false by rw [decide_eq_false_iff_not]; omega)
      rw [unhide H]
      go_enter Try.func36, Try.ntmps36
      go_wp2
      go_ret
      exact ⟨by simp, rfl⟩
  · have H := hide (show decide (lo ≤ x ∧ x ≤ hi) = false by rw [decide_eq_false_iff_not]; omega)
    rw [unhide H]
    go_enter Try.func36, Try.ntmps36
    go_wp2
    go_ret
    exact ⟨rfl, rfl⟩
set_option maxRecDepth 20000 in
set_option maxHeartbeats 400000 in
theorem specPolyOk_any (is : List Int) (v : Value) (w : World) (hr : RdV w v (is.map iv)) :
    Calls Try.prog 21 #[v] w fun e w' => e = .returned (.bool (okPl is)) ∧ w' = w := by
  obtain ⟨a, c, rfl, hc⟩ := hr.open
  clear hr
  rw [List.length_map]
  by_cases hl : is.length = 256
  · obtain ⟨n, hnn⟩ : ∃ n, is.length = n := ⟨_, rfl⟩
    rw [hnn]
    have hn : (n : Int) = 256 := by omega
    have hn' : n = 256 := by omega
    replace hn' := hide hn'
    replace hnn := hide hnn
    replace hl := hide hl
    go_enter Try.func21, Try.ntmps21
    go_wp2
    go_loopw [3] (fun ti wr => ∃ k : Nat, k ≤ 256 ∧ ti = .int .i64 k ∧ wr = w ∧ Hid (∀ j, j < k → 0 ≤ cAt is j ∧ cAt is j ≤ 3328)) (fun ti _ => 256 - (intOf ti).toNat)
    case atStart => exact ⟨0, by omega, rfl, rfl, hide (fun j hj => absurd hj (by omega))⟩
    case round =>
      obtain ⟨k, hk, rfl, hw, HK⟩ := hrel
      have hw' := hw.symm
      subst hw'
      clear hw
      by_cases hlt : k < 256
      · have hk' : (k : Int) < 256 := by omega
        have hkl : k < is.length := by rw [unhide hl]; exact hlt
        obtain ⟨g, o, rfl, hg, d1⟩ := hc k _ (get_iv is k hkl)
        by_cases hx : 0 ≤ cAt is k ∧ cAt is k ≤ 3328
        · have CI := hide (inb9 (cAt is k) 0 3328 w)
          rw [show decide (0 ≤ cAt is k ∧ cAt is k ≤ 3328) = true by rw [decide_eq_true_iff]; exact hx] at CI
          have HK2 := hide (show ∀ j, j < k + 1 → 0 ≤ cAt is j ∧ cAt is j ≤ 3328 from fun j hj => by
            by_cases e : j = k
            · rw [e]; exact hx
            · exact unhide HK j (by omega))
          generalize cAt is k = told at d1 CI
          clear hc HK hx
          go_wp2_with (go_at_call 36; refine (unhide CI).mono ?_; rintro e w1 ⟨rfl, hw1⟩; have hw2 := hw1.symm; subst hw2; clear hw1)
          go_roundw
          case rel => exact ⟨k + 1, by omega, by go_num, by first | rfl | trivial, HK2⟩
          case measure => simp [intOf]; omega
        · have CI := hide (inb9 (cAt is k) 0 3328 w)
          rw [show decide (0 ≤ cAt is k ∧ cAt is k ≤ 3328) = false by rw [decide_eq_false_iff_not]; exact hx] at CI
          have E := hide (okPl_no k hkl hx)
          generalize cAt is k = told at d1 CI
          clear hc HK hx
          go_wp2_with (go_at_call 36; refine (unhide CI).mono ?_; rintro e w1 ⟨rfl, hw1⟩; have hw2 := hw1.symm; subst hw2; clear hw1)
          go_ret
          exact ⟨by rw [unhide E]; rfl, rfl⟩
      · have hk' : ¬ (k : Int) < 256 := by omega
        have hke : k = 256 := by omega
        have E := hide (okPl_of (unhide hl) (fun j hj => unhide HK j (by omega)))
        clear hc HK
        go_wp2
        go_ret
        exact ⟨by rw [unhide E]; rfl, rfl⟩
  · have E := hide (okPl_len hl)
    have hl' : ¬ (is.length : Int) = 256 := by omega
    go_enter Try.func21, Try.ntmps21
    go_wp2
    go_ret
    exact ⟨by rw [unhide E]; rfl, rfl⟩
def hv (m : Nat) : Nat → Nat
  | 0 => m
  | k + 1 => hv m k / 2
def rv (m : Nat) : Nat → Nat
  | 0 => 0
  | k + 1 => 2 * rv m k + hv m k % 2
theorem rv_7 (m : Nat) (hm : m < 128) : rv m 7 = t7 m := by
  have H : allN (fun m => rv m 7 == t7 m) 128 = true := by decide +kernel
  simpa using allN_at H m hm
theorem hv_le (m k : Nat) : hv m k ≤ m := by
  induction k with
  | zero => exact Nat.le_refl _
  | succ k ih => show hv m k / 2 ≤ m; omega
theorem rv_lt (m k : Nat) (hk : k ≤ 7) : rv m k < 2 ^ k := by
  induction k with
  | zero => exact Nat.one_pos
  | succ k ih => have := ih (by omega); show 2 * rv m k + hv m k % 2 < 2 ^ (k + 1); rw [Nat.pow_succ]; omega
theorem rv_le (m k : Nat) (hk : k ≤ 7) : rv m k < 128 := Nat.lt_of_lt_of_le (rv_lt m k hk) (Nat.pow_le_pow_right (by omega) hk)
def turnZ (z : Int) : Int := (t7 (z % 128).toNat : Int)
set_option maxRecDepth 20000 in
set_option maxHeartbeats 400000 in
theorem specTurn7_any (z : Int) (w : World) :
    Calls Try.prog 44 #[.int .i64 z] w fun e w' => e = .returned (.int .i64 (turnZ z)) ∧ w' = w := by
  obtain ⟨m, hm⟩ : ∃ m : Nat, (z % 128).toNat = m := ⟨_, rfl⟩
  have hml : m < 128 := by omega
  have ET := hide (show turnZ z = (rv m 7 : Int) by unfold turnZ; rw [hm, rv_7 m hml])
  have hzm : z.tmod 128 = (m : Int) ∨ (z.tmod 128 < 0 ∧ z.tmod 128 + 128 = (m : Int)) := by
    have e := @Int.tmod_eq_emod z 128
    split at e
    · left; rw [e]; omega
    · rename_i hn
      right
      have h0 : ¬ 128 ∣ z := fun hd => hn (.inr hd)
      have e2 : z.tmod 128 = z % 128 - 128 := e
      rw [e2]
      omega
  have e128 : ∀ x : Int, 0 ≤ x → x < 128 → IntKind.i64.wrap x = x := fun x h1 h2 => by rw [IntKind.wrap_i64]; omega
  rcases hzm with h | ⟨h1, h2⟩
  · have ew : IntKind.i64.wrap (m : Int) = (m : Int) := e128 _ (by omega) (by omega)
    have hge : ¬ (m : Int) < 0 := by omega
    go_enter Try.func44, Try.ntmps44
    go_wp2
    go_loopw [0, 3, 4] (fun tn tq ti wr => ∃ k : Nat, k ≤ 7 ∧ tn = .int .i64 (hv m k : Int) ∧ tq = .int .i64 (rv m k : Int) ∧ ti = .int .i64 (k : Int) ∧ wr = w) (fun _ _ ti _ => 7 - (intOf ti).toNat)
    case atStart => exact ⟨0, by omega, rfl, rfl, rfl, rfl⟩
    case round =>
      obtain ⟨k, hk, rfl, rfl, rfl, hw⟩ := hrel
      have hw' := hw.symm
      subst hw'
      clear hw
      have q1 := hv_le m k
      have q2 := rv_le m k hk
      by_cases hlt : k < 7
      · have hk' : (k : Int) < 7 := by omega
        obtain ⟨p, hp⟩ : ∃ p, p = hv m k := ⟨_, rfl⟩
        obtain ⟨r, hr⟩ : ∃ r, r = rv m k := ⟨_, rfl⟩
        have hp2 : hv m (k + 1) = p / 2 := by rw [hp]; rfl
        have hr2 : rv m (k + 1) = 2 * r + p % 2 := by rw [hp, hr]; rfl
        rw [← hp] at q1 ⊢
        rw [← hr] at q2 ⊢
        have w1 : IntKind.i64.wrap (2 * (r : Int)) = 2 * (r : Int) := by rw [IntKind.wrap_i64]; omega
        have w2 : (p : Int).tmod 2 = ((p % 2 : Nat) : Int) := by rw [Int.tmod_eq_emod_of_nonneg (by omega)]; omega
        have w3 : (p : Int).tdiv 2 = ((p / 2 : Nat) : Int) := by rw [Int.tdiv_eq_ediv_of_nonneg (by omega)]; omega
        have w4 : IntKind.i64.wrap ((p % 2 : Nat) : Int) = ((p % 2 : Nat) : Int) := by rw [IntKind.wrap_i64]; omega
        have w5 : IntKind.i64.wrap ((p / 2 : Nat) : Int) = ((p / 2 : Nat) : Int) := by rw [IntKind.wrap_i64]; omega
        have w6 : IntKind.i64.wrap (2 * (r : Int) + ((p % 2 : Nat) : Int)) = ((2 * r + p % 2 : Nat) : Int) := by rw [IntKind.wrap_i64]; omega
        replace hp := hide hp; replace hr := hide hr; replace hp2 := hide hp2; replace hr2 := hide hr2
        go_wp2
        refine ⟨⟨k + 1, by omega, congrArg (Value.int .i64) (by rw [unhide hp2]; omega), congrArg (Value.int .i64) (by rw [unhide hr2]; omega), by go_num, by first | rfl | trivial⟩, by simp [intOf]; omega⟩
      · have hk' : ¬ (k : Int) < 7 := by omega
        have hke : k = 7 := by omega
        have ET2 := hide (show turnZ z = (rv m k : Int) by rw [hke]; exact unhide ET)
        replace hke := hide hke
        generalize rv m k = r at *
        go_wp2
        go_ret
        exact ⟨by rw [unhide ET2]; rfl, rfl⟩
  · obtain ⟨x, hx⟩ : ∃ x, x = z.tmod 128 := ⟨_, rfl⟩
    rw [← hx] at h1 h2
    have ew : IntKind.i64.wrap x = x := by rw [IntKind.wrap_i64]; omega
    have ew2 : IntKind.i64.wrap (x + 128) = (m : Int) := by rw [h2]; exact e128 _ (by omega) (by omega)
    have hx' := hx.symm
    clear hx
    go_enter Try.func44, Try.ntmps44
    go_wp2
    go_loopw [0, 3, 4] (fun tn tq ti wr => ∃ k : Nat, k ≤ 7 ∧ tn = .int .i64 (hv m k : Int) ∧ tq = .int .i64 (rv m k : Int) ∧ ti = .int .i64 (k : Int) ∧ wr = w) (fun _ _ ti _ => 7 - (intOf ti).toNat)
    case atStart => exact ⟨0, by omega, rfl, rfl, rfl, rfl⟩
    case round =>
      obtain ⟨k, hk, rfl, rfl, rfl, hw⟩ := hrel
      have hw' := hw.symm
      subst hw'
      clear hw
      have q1 := hv_le m k
      have q2 := rv_le m k hk
      by_cases hlt : k < 7
      · have hk' : (k : Int) < 7 := by omega
        obtain ⟨p, hp⟩ : ∃ p, p = hv m k := ⟨_, rfl⟩
        obtain ⟨r, hr⟩ : ∃ r, r = rv m k := ⟨_, rfl⟩
        have hp2 : hv m (k + 1) = p / 2 := by rw [hp]; rfl
        have hr2 : rv m (k + 1) = 2 * r + p % 2 := by rw [hp, hr]; rfl
        rw [← hp] at q1 ⊢
        rw [← hr] at q2 ⊢
        have w1 : IntKind.i64.wrap (2 * (r : Int)) = 2 * (r : Int) := by rw [IntKind.wrap_i64]; omega
        have w2 : (p : Int).tmod 2 = ((p % 2 : Nat) : Int) := by rw [Int.tmod_eq_emod_of_nonneg (by omega)]; omega
        have w3 : (p : Int).tdiv 2 = ((p / 2 : Nat) : Int) := by rw [Int.tdiv_eq_ediv_of_nonneg (by omega)]; omega
        have w4 : IntKind.i64.wrap ((p % 2 : Nat) : Int) = ((p % 2 : Nat) : Int) := by rw [IntKind.wrap_i64]; omega
        have w5 : IntKind.i64.wrap ((p / 2 : Nat) : Int) = ((p / 2 : Nat) : Int) := by rw [IntKind.wrap_i64]; omega
        have w6 : IntKind.i64.wrap (2 * (r : Int) + ((p % 2 : Nat) : Int)) = ((2 * r + p % 2 : Nat) : Int) := by rw [IntKind.wrap_i64]; omega
        replace hp := hide hp; replace hr := hide hr; replace hp2 := hide hp2; replace hr2 := hide hr2
        go_wp2
        refine ⟨⟨k + 1, by omega, congrArg (Value.int .i64) (by rw [unhide hp2]; omega), congrArg (Value.int .i64) (by rw [unhide hr2]; omega), by go_num, by first | rfl | trivial⟩, by simp [intOf]; omega⟩
      · have hk' : ¬ (k : Int) < 7 := by omega
        have hke : k = 7 := by omega
        have ET2 := hide (show turnZ z = (rv m k : Int) by rw [hke]; exact unhide ET)
        replace hke := hide hke
        generalize rv m k = r at *
        go_wp2
        go_ret
        exact ⟨by rw [unhide ET2]; rfl, rfl⟩
end Go.Proofs.Ytijkhdhapdoepas
