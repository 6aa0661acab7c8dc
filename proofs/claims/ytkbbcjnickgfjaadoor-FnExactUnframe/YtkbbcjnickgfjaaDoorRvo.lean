/- What is read of a number's bytes, reckoned. -/
import Derived.Test.YtkbbcjnickgfjaaDoorRv
namespace Go.Proofs.YtkbbcjnickgfjaaDoor
theorem rvRun_has {s : ByteArray} {a : Nat} : ∀ (f i u n : Nat), s.size - i ≤ f → RvAt s a i u n → a ≤ i → i ≤ s.size → ∀ m j, rvRun s a i u n = some (m, j) →
    i < j ∧ j ≤ s.size ∧ j ≤ a + 5 ∧ m ≤ 1000000000 ∧ varB m = (s.data.toList.drop a).take (j - a) := by
  intro f
  induction f with
  | zero =>
    intro i u n hf _ _ _ m j h
    rw [rvRun_out (by omega)] at h
    cases h
  | succ f ih =>
    intro i u n hf hat ha hi m j h
    by_cases hlt : i < s.size ∧ i < a + 5
    · obtain ⟨h1, h5⟩ := hlt
      by_cases hb : 127 < s[i].toNat
      · rw [rvRun_on h1 h5 hb] at h
        obtain ⟨r1, r2, r3, r4, r5⟩ := ih (i + 1) _ _ (by omega) (hat.next ha h1 h5 hb) (by omega) (by omega) m j h
        exact ⟨by omega, r2, r3, r4, r5⟩
      · by_cases hn : (s[i].toNat = 0 ∧ a < i) ∨ 1000000000 < n + s[i].toNat % 128 * u
        · rw [rvRun_no h1 h5 hb hn] at h
          cases h
        · rw [rvRun_yes h1 h5 hb hn] at h
          simp only [Option.some.injEq, Prod.mk.injEq] at h
          obtain ⟨rfl, rfl⟩ := h
          exact ⟨by omega, by omega, by omega, by omega, (hat.own ha h1 hb).2 (fun x => hn (.inl x))⟩
    · rw [rvRun_out hlt] at h
      cases h

theorem rvRun_own {s : ByteArray} {p m j : Nat} (hp : p ≤ s.size) (h : rvRun s p p 1 0 = some (m, j)) :
    p < j ∧ j ≤ s.size ∧ j ≤ p + 5 ∧ m ≤ 1000000000 ∧ varB m = (s.data.toList.drop p).take (j - p) :=
  rvRun_has (s.size - p) p 1 0 (Nat.le_refl _) (RvAt.start s p) (Nat.le_refl _) hp m j h

end Go.Proofs.YtkbbcjnickgfjaaDoor
