/- The number whose bytes stand in a text: the mathematics, of no program. -/
import Derived.Test.YtkbbcjnickgfjaaDoorBase
namespace Go.Proofs.YtkbbcjnickgfjaaDoor

/-- What is read from place i on, when the bytes from the place at on gave n so far, and the next counts u (f: how many may come). -/
def rvF (s : ByteArray) (at' : Nat) : Nat → Nat → Nat → Nat → Option (Nat × Nat)
  | 0, _, _, _ => none
  | f + 1, i, u, n =>
    if h : i < s.size ∧ i < at' + 5 then
      if 127 < s[i].toNat then rvF s at' f (i + 1) (u * 128) (n + s[i].toNat % 128 * u)
      else if (s[i].toNat = 0 ∧ at' < i) ∨ 1000000000 < n + s[i].toNat % 128 * u then none
      else some (n + s[i].toNat % 128 * u, i + 1)
    else none
def rvRun (s : ByteArray) (at' i u n : Nat) : Option (Nat × Nat) := rvF s at' (s.size - i) i u n

theorem rvRun_out {s : ByteArray} {a i u n : Nat} (h : ¬ (i < s.size ∧ i < a + 5)) : rvRun s a i u n = none := by
  unfold rvRun
  cases s.size - i with
  | zero => rfl
  | succ f => rw [rvF, dif_neg h]
theorem rvRun_in {s : ByteArray} {a i u n : Nat} (h : i < s.size) (h5 : i < a + 5) :
    rvRun s a i u n = if 127 < s[i].toNat then rvRun s a (i + 1) (u * 128) (n + s[i].toNat % 128 * u)
      else if (s[i].toNat = 0 ∧ a < i) ∨ 1000000000 < n + s[i].toNat % 128 * u then none else some (n + s[i].toNat % 128 * u, i + 1) := by
  unfold rvRun
  rw [show s.size - i = (s.size - (i + 1)) + 1 by omega, rvF, dif_pos ⟨h, h5⟩]
theorem rvRun_on {s : ByteArray} {a i u n : Nat} (h : i < s.size) (h5 : i < a + 5) (hb : 127 < s[i].toNat) :
    rvRun s a i u n = rvRun s a (i + 1) (u * 128) (n + s[i].toNat % 128 * u) := by
  rw [rvRun_in h h5, if_pos hb]
theorem rvRun_no {s : ByteArray} {a i u n : Nat} (h : i < s.size) (h5 : i < a + 5) (hb : ¬ 127 < s[i].toNat) (hn : (s[i].toNat = 0 ∧ a < i) ∨ 1000000000 < n + s[i].toNat % 128 * u) :
    rvRun s a i u n = none := by
  rw [rvRun_in h h5, if_neg hb, if_pos hn]
theorem rvRun_yes {s : ByteArray} {a i u n : Nat} (h : i < s.size) (h5 : i < a + 5) (hb : ¬ 127 < s[i].toNat) (hn : ¬ ((s[i].toNat = 0 ∧ a < i) ∨ 1000000000 < n + s[i].toNat % 128 * u)) :
    rvRun s a i u n = some (n + s[i].toNat % 128 * u, i + 1) := by
  rw [rvRun_in h h5, if_neg hb, if_neg hn]

theorem rv_cast (n b u : Nat) : (n : Int) + (b : Int) % 128 * (u : Int) = ((n + b % 128 * u : Nat) : Int) := by push_cast; rfl

/-- Where it stands behind i - a bytes that go on. -/
structure RvAt (s : ByteArray) (a i u n : Nat) : Prop where
  unit : u = 128 ^ (i - a)
  less : n < u
  bytes : ∀ m, 1 ≤ m → varB (n + m * u) = (s.data.toList.drop a).take (i - a) ++ varB m
  zero : i = a → n = 0
  same : rvRun s a i u n = rvRun s a a 1 0

theorem RvAt.start (s : ByteArray) (a : Nat) : RvAt s a a 1 0 :=
  ⟨by simp, by omega, fun m _ => by simp, fun _ => rfl, rfl⟩

theorem RvAt.bound {s : ByteArray} {a i u n : Nat} (h : RvAt s a i u n) (h5 : i ≤ a + 5) (ha : a ≤ i) : u ≤ 34359738368 ∧ (i < a + 5 → u ≤ 268435456) ∧ (¬ i < a + 5 → u = 34359738368) := by
  have := h.unit
  obtain ⟨k, rfl⟩ : ∃ k, i = a + k := ⟨i - a, by omega⟩
  have hk : k ≤ 5 := by omega
  simp only [Nat.add_sub_cancel_left] at this
  have : k = 0 ∨ k = 1 ∨ k = 2 ∨ k = 3 ∨ k = 4 ∨ k = 5 := by omega
  rcases this with rfl | rfl | rfl | rfl | rfl | rfl <;> simp at * <;> omega

theorem take_step (s : ByteArray) (a i : Nat) (ha : a ≤ i) (h : i < s.size) : (s.data.toList.drop a).take (i + 1 - a) = (s.data.toList.drop a).take (i - a) ++ [s[i]] := by
  have e : i + 1 - a = (i - a) + 1 := by omega
  have hl : i - a < (s.data.toList.drop a).length := by
    have : s.data.toList.length = s.size := rfl
    simp only [List.length_drop, this]; omega
  rw [e, List.take_succ_eq_append_getElem hl]
  congr 2
  rw [List.getElem_drop]
  have : a + (i - a) = i := by omega
  simp only [this]
  rfl

theorem RvAt.next {s : ByteArray} {a i u n : Nat} (h : RvAt s a i u n) (ha : a ≤ i) (hi : i < s.size) (h5 : i < a + 5) (hb : 127 < s[i].toNat) :
    RvAt s a (i + 1) (u * 128) (n + s[i].toNat % 128 * u) := by
  have hlt : s[i].toNat < 256 := s[i].toNat_lt
  refine ⟨?_, ?_, ?_, fun e => by omega, ?_⟩
  · rw [h.unit, show i + 1 - a = (i - a) + 1 by omega, Nat.pow_succ]
  · have := h.less
    have h2 : s[i].toNat % 128 ≤ 127 := by omega
    have := Nat.mul_le_mul_right u h2
    omega
  · intro m hm
    have e : n + s[i].toNat % 128 * u + m * (u * 128) = n + (s[i].toNat % 128 + 128 * m) * u := by
      rw [Nat.add_mul, ← Nat.mul_assoc, Nat.mul_comm (m * u) 128, Nat.mul_assoc 128 m u]; omega
    rw [e, h.bytes _ (by omega), take_step s a i ha hi, varB_big (by omega)]
    have e1 : (s[i].toNat % 128 + 128 * m) % 128 + 128 = s[i].toNat := by omega
    have e2 : (s[i].toNat % 128 + 128 * m) / 128 = m := by omega
    rw [e1, e2]
    have e3 : byteOf s[i].toNat = s[i] := by unfold byteOf; simp
    rw [e3]
    simp
  · rw [← h.same, rvRun_on hi h5 hb]

theorem varB_end0 : ∀ (p : List UInt8) (n : Nat), varB n = p ++ [0] → p = [] := by
  intro p
  induction p with
  | nil => intro n _; rfl
  | cons b t ih =>
    intro n h
    exfalso
    by_cases hn : n ≤ 127
    · rw [varB_small hn] at h
      simp at h
    · rw [varB_big hn] at h
      simp only [List.cons_append, List.cons.injEq] at h
      have ht := ih _ h.2
      subst ht
      simp only [List.nil_append] at h
      by_cases hm : n / 128 ≤ 127
      · rw [varB_small hm] at h
        have := h.2
        simp only [List.cons.injEq, and_true] at this
        have := congrArg UInt8.toNat this
        rw [byteOf_toNat (by omega)] at this
        simp at this
        omega
      · have hv := varB_big hm
        have := varB_len (n / 128 / 128)
        have h2 := congrArg List.length h.2
        rw [hv] at h2
        simp only [List.length_cons, List.length_nil] at h2
        omega

/-- The bytes that were met are the number's own just where no longer form stands there. -/
theorem RvAt.own {s : ByteArray} {a i u n : Nat} (h : RvAt s a i u n) (ha : a ≤ i) (hi : i < s.size) (hb : ¬ 127 < s[i].toNat) :
    varB (n + s[i].toNat % 128 * u) = (s.data.toList.drop a).take (i + 1 - a) ↔ ¬ (s[i].toNat = 0 ∧ a < i) := by
  have hm : s[i].toNat % 128 = s[i].toNat := by omega
  rw [take_step s a i ha hi, hm]
  have e3 : byteOf s[i].toNat = s[i] := by unfold byteOf; simp
  constructor
  · intro hv hz
    have e0 : s[i] = 0 := by
      apply UInt8.toNat_inj.1; rw [hz.1]; rfl
    rw [e0] at hv
    have := varB_end0 _ _ hv
    have hl := congrArg List.length this
    have : s.data.toList.length = s.size := rfl
    simp only [List.length_take, List.length_drop, this, List.length_nil] at hl
    omega
  · intro hz
    by_cases h0 : s[i].toNat = 0
    · have hia : i = a := by omega
      have hn := h.zero hia
      rw [h0, hn]
      simp only [Nat.zero_mul, Nat.add_zero]
      subst hia
      rw [Nat.sub_self, List.take_zero, List.nil_append, varB_small (by omega), ← e3, h0]
    · rw [h.bytes _ (by omega), varB_small (by omega), e3]

theorem extract_toList (s : ByteArray) (a b : Nat) : (s.extract a b).toList = (s.data.toList.drop a).take (b - a) := by
  rw [ByteArray.toList_eq, ByteArray.data_extract]
  simp

theorem RvAt.test {s : ByteArray} {a i u n : Nat} (h : RvAt s a i u n) (ha : a ≤ i) (hi : i < s.size) (hb : ¬ 127 < s[i].toNat) :
    (¬ (s[i].toNat = 0 ∧ a < i) → (!(varB (n + s[i].toNat % 128 * u) == (s.extract a (i + 1)).toList)) = false) ∧ ((s[i].toNat = 0 ∧ a < i) → (!(varB (n + s[i].toNat % 128 * u) == (s.extract a (i + 1)).toList)) = true) := by
  rw [extract_toList]
  have := h.own ha hi hb
  constructor
  · intro hz; rw [Bool.not_eq_false', beq_iff_eq]; exact this.2 hz
  · intro hz; rw [Bool.not_eq_true', beq_eq_false_iff_ne]; intro e; exact (this.1 e) hz
end Go.Proofs.YtkbbcjnickgfjaaDoor
