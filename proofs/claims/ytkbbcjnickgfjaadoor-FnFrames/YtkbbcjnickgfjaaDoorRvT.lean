/- A number that is written is read back: the mathematics, of no program. -/
import Derived.Test.YtkbbcjnickgfjaaDoorRv
namespace Go.Proofs.YtkbbcjnickgfjaaDoor

theorem drop_head {s : ByteArray} {i : Nat} {x : UInt8} {t : List UInt8} (h : s.data.toList.drop i = x :: t) : ∃ hi : i < s.size, s[i] = x ∧ s.data.toList.drop (i + 1) = t := by
  have hi : i < s.data.toList.length := by
    rcases Nat.lt_or_ge i s.data.toList.length with h1 | h1
    · exact h1
    · rw [List.drop_eq_nil_of_le h1] at h; cases h
  rw [List.drop_eq_getElem_cons hi] at h
  simp only [List.cons.injEq] at h
  exact ⟨hi, h.1, h.2⟩

theorem read_varB (s : ByteArray) (a : Nat) (rest : List UInt8) : ∀ (f k i u m : Nat), k ≤ f → s.data.toList.drop i = varB k ++ rest → a ≤ i → u = 128 ^ (i - a) → (a < i → 0 < k) → m + k * u ≤ 1000000000 →
    rvRun s a i u m = some (m + k * u, i + (varB k).length) := by
  intro f
  induction f with
  | zero =>
    intro k i u m hk hd ha hu hp hm
    have : k = 0 := by omega
    subst this
    have hia : i = a := by omega
    subst hia
    rw [varB_small (by omega)] at hd
    obtain ⟨hi, hx, _⟩ := drop_head hd
    have hx' : s[i].toNat = 0 := by rw [hx, byteOf_toNat (by omega)]
    rw [rvRun_yes hi (by omega) (by omega) (by rw [hx']; omega), hx', varB_small (by omega)]
    simp
  | succ f ih =>
    intro k i u m hk hd ha hu hp hm
    have h5 : i < a + 5 := by
      rcases Nat.lt_or_ge i (a + 5) with h | h
      · exact h
      · have h1 : 128 ^ 5 ≤ 128 ^ (i - a) := Nat.pow_le_pow_right (by decide) (by omega)
        have h2 : 1 * u ≤ k * u := Nat.mul_le_mul_right u (hp (by omega))
        have h3 : (128 : Nat) ^ 5 = 34359738368 := by decide
        omega
    by_cases hs : k ≤ 127
    · rw [varB_small hs] at hd
      obtain ⟨hi, hx, _⟩ := drop_head hd
      have hx' : s[i].toNat = k := by rw [hx, byteOf_toNat (by omega)]
      have hk128 : k % 128 = k := by omega
      rw [rvRun_yes hi h5 (by omega) (by rw [hx', hk128]; intro hh; rcases hh with ⟨h1, h2⟩ | h1; have := hp h2; omega; omega), hx', hk128, varB_small hs]
      rfl
    · rw [varB_big hs] at hd
      obtain ⟨hi, hx, ht⟩ := drop_head hd
      have hx' : s[i].toNat = k % 128 + 128 := by rw [hx, byteOf_toNat (by omega)]
      have e1 : (k % 128 + 128) % 128 = k % 128 := by omega
      have e2 : k / 128 * (u * 128) = 128 * (k / 128) * u := by rw [← Nat.mul_assoc, Nat.mul_comm, ← Nat.mul_assoc]
      have e3 : m + k % 128 * u + k / 128 * (u * 128) = m + k * u := by
        rw [e2, Nat.add_assoc, ← Nat.add_mul]
        have := Nat.div_add_mod k 128
        rw [show k % 128 + 128 * (k / 128) = k by omega]
      have hr := ih (k / 128) (i + 1) (u * 128) (m + k % 128 * u) (by omega) ht (by omega) (by rw [hu, show i + 1 - a = (i - a) + 1 by omega, Nat.pow_succ]) (by omega) (by rw [e3]; exact hm)
      rw [rvRun_on hi h5 (by omega), hx', e1, hr, e3, varB_big hs]
      simp only [List.length_cons, Option.some.injEq, Prod.mk.injEq, true_and]
      omega

theorem read_var (s : ByteArray) (a n : Nat) (rest : List UInt8) (h : s.data.toList.drop a = varB n ++ rest) (hn : n ≤ 1000000000) : rvRun s a a 1 0 = some (n, a + (varB n).length) := by
  have := read_varB s a rest n n a 1 0 (Nat.le_refl _) h (Nat.le_refl _) (by simp) (by omega) (by omega)
  simpa using this
end Go.Proofs.YtkbbcjnickgfjaaDoor
