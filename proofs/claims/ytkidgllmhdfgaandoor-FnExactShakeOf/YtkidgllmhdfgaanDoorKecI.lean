/- The sponge's rounds take unlike lanes to unlike ones. -/
import Derived.Test.YtkidgllmhdfgaanDoorKec
namespace Go.Proofs.YtkidgllmhdfgaanDoor
open Go.RowKit
theorem rol_eq {n x : Nat} (hn : n < 64) (hn0 : n ≠ 0) : rol n x = (x % 2 ^ (64 - n)) * 2 ^ n + x / 2 ^ (64 - n) := by
  have e : 2 ^ n * 2 ^ (64 - n) = M64 := by rw [← Nat.pow_add, show n + (64 - n) = 64 by omega]; rfl
  unfold rol
  rw [if_neg hn0, ← e, Nat.mul_comm (2 ^ n) (2 ^ (64 - n)), Nat.mul_mod_mul_right]
theorem rol_inj {n x y : Nat} (hn : n < 64) (hx : x < M64) (hy : y < M64) (h : rol n x = rol n y) : x = y := by
  by_cases h0 : n = 0
  · unfold rol at h; rw [if_pos h0, if_pos h0] at h; exact h
  · rw [rol_eq hn h0, rol_eq hn h0] at h
    have e : 2 ^ n * 2 ^ (64 - n) = M64 := by rw [← Nat.pow_add, show n + (64 - n) = 64 by omega]; rfl
    have hp : 0 < 2 ^ n := Nat.two_pow_pos _
    have d1 : x / 2 ^ (64 - n) < 2 ^ n := Nat.div_lt_of_lt_mul (by rw [Nat.mul_comm, e]; exact hx)
    have d2 : y / 2 ^ (64 - n) < 2 ^ n := Nat.div_lt_of_lt_mul (by rw [Nat.mul_comm, e]; exact hy)
    have q1 : x / 2 ^ (64 - n) = y / 2 ^ (64 - n) := by
      have := congrArg (· % 2 ^ n) h
      simp only [Nat.mul_add_mod_self_right, Nat.mod_eq_of_lt d1, Nat.mod_eq_of_lt d2] at this
      exact this
    have q2 : x % 2 ^ (64 - n) = y % 2 ^ (64 - n) := by
      rw [q1] at h
      exact Nat.eq_of_mul_eq_mul_right hp (Nat.add_right_cancel h)
    rw [← Nat.div_add_mod x (2 ^ (64 - n)), ← Nat.div_add_mod y (2 ^ (64 - n)), q1, q2]
theorem rol1_bit (x j : Nat) (hx : x < M64) (hj : j < 64) : (rol 1 x).testBit j = x.testBit ((j + 63) % 64) := by
  have hd : x / 2 ^ 63 < 2 := Nat.div_lt_of_lt_mul (show x < 2 ^ 63 * 2 from hx)
  have e : rol 1 x = 2 * (x % 2 ^ 63) + x / 2 ^ 63 := by rw [rol_eq (by decide) (by decide), Nat.pow_one, Nat.mul_comm]
  rw [e]
  cases j with
  | zero =>
    rw [Nat.testBit_zero, show (0 + 63) % 64 = 63 from rfl, Nat.testBit_eq_decide_div_mod_eq, Nat.mul_add_mod]
  | succ j =>
    have e1 : (2 * (x % 2 ^ 63) + x / 2 ^ 63) / 2 = x % 2 ^ 63 := by
      generalize x % 2 ^ 63 = m at *
      generalize x / 2 ^ 63 = d at *
      omega
    rw [Nat.testBit_succ, e1, Nat.testBit_mod_two_pow, show (j + 1 + 63) % 64 = j by omega]
    have hj' : j < 63 := by omega
    simp [hj']
/- five lanes of which each is what its neighbours make of it are 0 -/
theorem ring_double {a : Nat → Bool} {m n : Nat} (h : ∀ j, a j = (a (j + m) ^^ a (j + n))) (j : Nat) : a j = (a (j + 2 * m) ^^ a (j + 2 * n)) := by
  have h0 := h j
  have h1 := h (j + m)
  have h2 := h (j + n)
  rw [show j + m + m = j + 2 * m by omega] at h1
  rw [show j + n + n = j + 2 * n by omega, show j + n + m = j + m + n by omega] at h2
  rw [h0, h1, h2]
  generalize a (j + 2 * m) = p
  generalize a (j + m + n) = q
  generalize a (j + 2 * n) = r
  revert p q r; decide +kernel
theorem ring_zero (c0 c1 c2 c3 c4 : Nat → Bool) (p : ∀ j, c0 (j + 64) = c0 j) (h2 : ∀ j, c2 j = (c1 (j + 1) ^^ c0 (j + 1))) (h3 : ∀ j, c3 j = (c2 (j + 1) ^^ c1 (j + 1)))
    (h4 : ∀ j, c4 j = (c3 (j + 1) ^^ c2 (j + 1))) (h0 : ∀ j, c0 j = (c4 (j + 1) ^^ c3 (j + 1))) (h1 : ∀ j, c1 j = (c0 (j + 1) ^^ c4 (j + 1))) (j : Nat) : c0 j = false := by
  have E3 : ∀ j, c3 j = (c1 (j + 2) ^^ c0 (j + 2) ^^ c1 (j + 1)) := fun j => by rw [h3, h2]
  have E4 : ∀ j, c4 j = (c1 (j + 3) ^^ c0 (j + 3) ^^ c0 (j + 2)) := fun j => by
    rw [h4, E3, h2]
    show (c1 (j + 3) ^^ c0 (j + 3) ^^ c1 (j + 2) ^^ (c1 (j + 2) ^^ c0 (j + 2))) = _
    generalize c1 (j + 3) = p0; generalize c0 (j + 3) = p1; generalize c1 (j + 2) = p2; generalize c0 (j + 2) = p3
    revert p0 p1 p2 p3; decide +kernel
  have E0 : ∀ j, c0 j = (c0 (j + 4) ^^ c1 (j + 4) ^^ c1 (j + 3) ^^ c1 (j + 2)) := fun j => by
    rw [h0 j, E4, E3]
    show (c1 (j + 4) ^^ c0 (j + 4) ^^ c0 (j + 3) ^^ (c1 (j + 3) ^^ c0 (j + 3) ^^ c1 (j + 2))) = _
    generalize c1 (j + 4) = p0; generalize c0 (j + 4) = p1; generalize c1 (j + 3) = p2; generalize c0 (j + 3) = p3; generalize c1 (j + 2) = p4
    revert p0 p1 p2 p3 p4; decide +kernel
  have E1 : ∀ j, c1 j = (c0 (j + 1) ^^ c0 (j + 4) ^^ c0 (j + 3) ^^ c1 (j + 4)) := fun j => by
    rw [h1 j, E4]
    show (c0 (j + 1) ^^ (c1 (j + 4) ^^ c0 (j + 4) ^^ c0 (j + 3))) = _
    generalize c1 (j + 4) = p0; generalize c0 (j + 4) = p1; generalize c0 (j + 1) = p2; generalize c0 (j + 3) = p3
    revert p0 p1 p2 p3; decide +kernel
  have q : ∀ j, c0 j = (c0 (j + 3) ^^ c0 (j + 4)) := fun j => by
    have k0 := E0 j
    have k4 := E0 (j + 4)
    have l2 := E1 (j + 2)
    have l3 := E1 (j + 3)
    have l4 := E1 (j + 4)
    simp only [Nat.add_assoc, Nat.reduceAdd] at k4 l2 l3 l4
    rw [k0, l2, l3, l4, k4]
    generalize c0 (j + 3) = a3; generalize c0 (j + 5) = a5; generalize c0 (j + 6) = a6; generalize c0 (j + 7) = a7; generalize c0 (j + 8) = a8
    generalize c1 (j + 6) = b6; generalize c1 (j + 7) = b7; generalize c1 (j + 8) = b8
    revert a3 a5 a6 a7 a8 b6 b7 b8; decide +kernel
  have r := ring_double (ring_double (ring_double (ring_double (ring_double (ring_double q))))) j
  have p3 : c0 (j + 192) = c0 j := by
    rw [show j + 192 = j + 64 + 64 + 64 by omega, p, p, p]
  have p4 : c0 (j + 256) = c0 j := by
    rw [show j + 256 = j + 64 + 64 + 64 + 64 by omega, p, p, p, p]
  rw [show 2 * (2 * (2 * (2 * (2 * (2 * 3))))) = 192 from rfl, show 2 * (2 * (2 * (2 * (2 * (2 * 4))))) = 256 from rfl, p3, p4] at r
  rw [r]; simp
/- the same on lanes -/
def bt (e : Nat) (j : Nat) : Bool := e.testBit (j % 64)
theorem bt_per (e j : Nat) : bt e (j + 64) = bt e j := by unfold bt; rw [Nat.add_mod_right]
theorem bt_zero {e : Nat} (h : e < M64) (hz : ∀ j, bt e j = false) : e = 0 := by
  apply Nat.eq_of_testBit_eq
  intro j
  rw [Nat.zero_testBit]
  by_cases hj : j < 64
  · have := hz j; unfold bt at this; rwa [Nat.mod_eq_of_lt hj] at this
  · exact Nat.testBit_lt_two_pow (Nat.lt_of_lt_of_le h (show 2 ^ 64 ≤ 2 ^ j from Nat.pow_le_pow_right (show 0 < 2 by decide) (show 64 ≤ j by omega)))
theorem bt_rol (x j : Nat) (hx : x < M64) : bt (rol 1 x) (j + 1) = bt x j := by
  unfold bt
  rw [rol1_bit x _ hx (Nat.mod_lt _ (by decide))]
  congr 1
  omega
theorem bt_xor (x y j : Nat) : bt (x ^^^ y) j = (bt x j ^^ bt y j) := by unfold bt; rw [Nat.testBit_xor]
/- lanes that are all below 2 to 64 -/
def LanesOk (a : List Nat) : Prop := a.length = 25 ∧ ∀ x ∈ a, x < M64
theorem LanesOk.ln {a : List Nat} (h : LanesOk a) (i : Nat) : ln a i < M64 := by
  unfold Go.Proofs.YtkidgllmhdfgaanDoor.ln
  rw [List.getD_eq_getElem?_getD]
  rcases Nat.lt_or_ge i a.length with k | k
  · rw [List.getElem?_eq_getElem k]; exact h.2 _ (List.getElem_mem _)
  · rw [List.getElem?_eq_none k]; decide
theorem lt64_xor {x y : Nat} (hx : x < M64) (hy : y < M64) : x ^^^ y < M64 := Nat.xor_lt_two_pow (n := 64) hx hy
theorem lanes_ext {a b : List Nat} (ha : a.length = 25) (hb : b.length = 25) (h : ∀ i, i < 25 → ln a i = ln b i) : a = b := by
  apply List.ext_getElem (by omega)
  intro i h1 h2
  have := h i (by omega)
  unfold ln at this
  rwa [List.getD_eq_getElem?_getD, List.getD_eq_getElem?_getD, List.getElem?_eq_getElem h1, List.getElem?_eq_getElem h2] at this
theorem thC_lt {a : List Nat} (h : LanesOk a) (x : Nat) : thC a x < M64 := by
  unfold thC
  exact lt64_xor (lt64_xor (lt64_xor (lt64_xor (h.ln _) (h.ln _)) (h.ln _)) (h.ln _)) (h.ln _)
theorem thD_lt {a : List Nat} (h : LanesOk a) (x : Nat) : thD a x < M64 := lt64_xor (thC_lt h _) (rol_lt (by decide) (thC_lt h _))
theorem xor_swap {p q r s : Nat} (h : p ^^^ q = r ^^^ s) : p ^^^ r = q ^^^ s := by
  apply Nat.eq_of_testBit_eq
  intro j
  have := congrArg (fun z => z.testBit j) h
  simp only [Nat.testBit_xor] at this ⊢
  generalize p.testBit j = p' at *; generalize q.testBit j = q' at *; generalize r.testBit j = r' at *; generalize s.testBit j = s' at *
  revert p' q' r' s'; decide +kernel
theorem xor_five (d a0 a1 a2 a3 a4 b0 b1 b2 b3 b4 : Nat) (h0 : a0 ^^^ b0 = d) (h1 : a1 ^^^ b1 = d) (h2 : a2 ^^^ b2 = d) (h3 : a3 ^^^ b3 = d) (h4 : a4 ^^^ b4 = d) :
    (a0 ^^^ a1 ^^^ a2 ^^^ a3 ^^^ a4) ^^^ (b0 ^^^ b1 ^^^ b2 ^^^ b3 ^^^ b4) = d := by
  have e : (a0 ^^^ a1 ^^^ a2 ^^^ a3 ^^^ a4) ^^^ (b0 ^^^ b1 ^^^ b2 ^^^ b3 ^^^ b4) = (a0 ^^^ b0) ^^^ (a1 ^^^ b1) ^^^ (a2 ^^^ b2) ^^^ (a3 ^^^ b3) ^^^ (a4 ^^^ b4) := by
    apply Nat.eq_of_testBit_eq
    intro j
    simp only [Nat.testBit_xor]
    generalize a0.testBit j = a0; generalize a1.testBit j = a1; generalize a2.testBit j = a2; generalize a3.testBit j = a3; generalize a4.testBit j = a4
    generalize b0.testBit j = b0; generalize b1.testBit j = b1; generalize b2.testBit j = b2; generalize b3.testBit j = b3; generalize b4.testBit j = b4
    clear h0 h1 h2 h3 h4
    revert a0 a1 a2 a3 a4 b0 b1 b2 b3 b4; decide +kernel
  rw [e, h0, h1, h2, h3, h4]
  simp
/- theta -/
theorem theta_inj {a b : List Nat} (ha : LanesOk a) (hb : LanesOk b) (h : ∀ x, x < 5 → ∀ y, y < 5 → ln a (x + 5 * y) ^^^ thD a x = ln b (x + 5 * y) ^^^ thD b x) : a = b := by
  have hd : ∀ x, x < 5 → ∀ y, y < 5 → ln a (x + 5 * y) ^^^ ln b (x + 5 * y) = thD a x ^^^ thD b x := fun x hx y hy => xor_swap (h x hx y hy)
  have hc : ∀ x, x < 5 → thC a x ^^^ thC b x = thD a x ^^^ thD b x := by
    intro x hx
    exact xor_five _ _ _ _ _ _ _ _ _ _ _ (hd x hx 0 (by decide)) (hd x hx 1 (by decide)) (hd x hx 2 (by decide)) (hd x hx 3 (by decide)) (hd x hx 4 (by decide))
  have hbit : ∀ x, x < 5 → ∀ j, bt (thC a ((x + 1) % 5) ^^^ thC b ((x + 1) % 5)) j = (bt (thC a x ^^^ thC b x) (j + 1) ^^ bt (thC a ((x + 4) % 5) ^^^ thC b ((x + 4) % 5)) (j + 1)) := by
    intro x hx j
    rw [hc x hx]
    unfold thD
    simp only [bt_xor, bt_rol _ _ (thC_lt ha _), bt_rol _ _ (thC_lt hb _)]
    generalize bt (thC a ((x + 1) % 5)) j = p0; generalize bt (thC b ((x + 1) % 5)) j = p1
    generalize bt (thC a ((x + 4) % 5)) (j + 1) = p2; generalize bt (thC b ((x + 4) % 5)) (j + 1) = p3
    revert p0 p1 p2 p3; decide +kernel
  have b0 := hbit 0 (by decide)
  have b1 := hbit 1 (by decide)
  have b2 := hbit 2 (by decide)
  have b3 := hbit 3 (by decide)
  have b4 := hbit 4 (by decide)
  simp only [Nat.reduceAdd, Nat.reduceMod] at b0 b1 b2 b3 b4
  have ee : ∀ x, x < 5 → thC a x = thC b x := by
    intro x hx
    have hz : thC a x ^^^ thC b x = 0 := by
      apply bt_zero (lt64_xor (thC_lt ha _) (thC_lt hb _))
      have hx' : x = 0 ∨ x = 1 ∨ x = 2 ∨ x = 3 ∨ x = 4 := by omega
      rcases hx' with rfl | rfl | rfl | rfl | rfl
      · exact ring_zero (bt (thC a 0 ^^^ thC b 0)) _ _ _ _ (bt_per _) b1 b2 b3 b4 b0
      · exact ring_zero (bt (thC a 1 ^^^ thC b 1)) _ _ _ _ (bt_per _) b2 b3 b4 b0 b1
      · exact ring_zero (bt (thC a 2 ^^^ thC b 2)) _ _ _ _ (bt_per _) b3 b4 b0 b1 b2
      · exact ring_zero (bt (thC a 3 ^^^ thC b 3)) _ _ _ _ (bt_per _) b4 b0 b1 b2 b3
      · exact ring_zero (bt (thC a 4 ^^^ thC b 4)) _ _ _ _ (bt_per _) b0 b1 b2 b3 b4
    have := congrArg (· ^^^ thC b x) hz
    simpa [Nat.xor_assoc] using this
  have dd : ∀ x, x < 5 → thD a x = thD b x := by
    intro x hx
    unfold thD
    rw [ee _ (Nat.mod_lt _ (by decide)), ee _ (Nat.mod_lt _ (by decide))]
  apply lanes_ext ha.1 hb.1
  intro i hi
  have := h (i % 5) (Nat.mod_lt _ (by decide)) (i / 5) (by omega)
  rw [show i % 5 + 5 * (i / 5) = i by omega, dd _ (Nat.mod_lt _ (by decide))] at this
  have := congrArg (· ^^^ thD b (i % 5)) this
  simpa [Nat.xor_assoc] using this
theorem ln_range (f : Nat → Nat) (i : Nat) (hi : i < 25) : ln ((List.range 25).map f) i = f i := by
  unfold ln
  rw [List.getD_eq_getElem?_getD, List.getElem?_map, List.getElem?_range hi]
  rfl
theorem turnsL_lt (i : Nat) : ln turnsL i < 64 := by
  unfold ln
  rw [List.getD_eq_getElem?_getD]
  rcases Nat.lt_or_ge i 25 with k | k
  · have : ∀ i, i < 25 → (turnsL[i]?).getD 0 < 64 := by decide
    exact this i k
  · rw [List.getElem?_eq_none (show turnsL.length ≤ i from k)]; decide
theorem rhoPi_inj {a b : List Nat} (ha : LanesOk a) (hb : LanesOk b) (h : rhoPi a = rhoPi b) : a = b := by
  apply theta_inj ha hb
  intro x hx y hy
  have hi : y + 5 * ((2 * x + 3 * y) % 5) < 25 := by omega
  have := congrArg (fun l => ln l (y + 5 * ((2 * x + 3 * y) % 5))) h
  try dsimp only at this
  unfold rhoPi at this
  rw [ln_range _ _ hi, ln_range _ _ hi, place_of x hx y hy] at this
  exact rol_inj (turnsL_lt _) (lt64_xor (ha.ln _) (thD_lt ha _)) (lt64_xor (hb.ln _) (thD_lt hb _)) this
theorem rhoPi_ok {a : List Nat} (ha : LanesOk a) : LanesOk (rhoPi a) := by
  refine ⟨by simp [rhoPi], ?_⟩
  intro x hx
  unfold rhoPi at hx
  obtain ⟨i, _, rfl⟩ := List.mem_map.mp hx
  exact rol_lt (turnsL_lt _) (lt64_xor (ha.ln _) (thD_lt ha _))
theorem lt64_and {x y : Nat} (hy : y < M64) : x &&& y < M64 := Nat.lt_of_le_of_lt Nat.and_le_right hy
theorem chiL_ok {a : List Nat} (ha : LanesOk a) : LanesOk (chiL a) := by
  refine ⟨by simp [chiL], ?_⟩
  intro x hx
  unfold chiL at hx
  obtain ⟨i, _, rfl⟩ := List.mem_map.mp hx
  exact lt64_xor (ha.ln _) (lt64_and (ha.ln _))
theorem kRound_ok {a : List Nat} (ha : LanesOk a) {n : Nat} (hn : n < M64) : LanesOk (kRound a n) := by
  have h := chiL_ok (rhoPi_ok ha)
  refine ⟨by simp [kRound, h.1], ?_⟩
  intro x hx
  unfold kRound at hx
  rcases List.mem_or_eq_of_mem_set hx with k | k
  · exact h.2 x k
  · rw [k]; exact lt64_xor (h.ln _) hn
theorem chi_bits : ∀ p0 p1 p2 p3 p4 q0 q1 q2 q3 q4 : Bool, (p0 ^^ (!p1 && p2)) = (q0 ^^ (!q1 && q2)) → (p1 ^^ (!p2 && p3)) = (q1 ^^ (!q2 && q3)) → (p2 ^^ (!p3 && p4)) = (q2 ^^ (!q3 && q4)) →
    (p3 ^^ (!p4 && p0)) = (q3 ^^ (!q4 && q0)) → (p4 ^^ (!p0 && p1)) = (q4 ^^ (!q0 && q1)) → p0 = q0 ∧ p1 = q1 ∧ p2 = q2 ∧ p3 = q3 ∧ p4 = q4 := by decide +kernel
theorem bt_chi (x y z j : Nat) (hy : y < M64) : bt (x ^^^ ((18446744073709551615 - y) &&& z)) j = (bt x j ^^ (!bt y j && bt z j)) := by
  unfold bt
  rw [Nat.testBit_xor, Nat.testBit_and, show 18446744073709551615 - y = 2 ^ 64 - (y + 1) by unfold M64 at hy; omega, Nat.testBit_two_pow_sub_succ hy]
  have : j % 64 < 64 := Nat.mod_lt _ (by decide)
  simp [this]
theorem bt_ext {x y : Nat} (hx : x < M64) (hy : y < M64) (h : ∀ j, bt x j = bt y j) : x = y := by
  have : x ^^^ y = 0 := bt_zero (lt64_xor hx hy) (fun j => by rw [bt_xor, h]; simp)
  have := congrArg (· ^^^ y) this
  simpa [Nat.xor_assoc] using this
theorem chiL_inj {a b : List Nat} (ha : LanesOk a) (hb : LanesOk b) (h : chiL a = chiL b) : a = b := by
  have hrow : ∀ y, y < 5 → ∀ x, x < 5 → ∀ j, (bt (ln a (x + 5 * y)) j ^^ (!bt (ln a ((x + 1) % 5 + 5 * y)) j && bt (ln a ((x + 2) % 5 + 5 * y)) j)) = (bt (ln b (x + 5 * y)) j ^^ (!bt (ln b ((x + 1) % 5 + 5 * y)) j && bt (ln b ((x + 2) % 5 + 5 * y)) j)) := by
    intro y hy x hx j
    have := congrArg (fun l => bt (ln l (x + 5 * y)) j) h
    try dsimp only at this
    unfold chiL at this
    rw [ln_range _ _ (by omega), ln_range _ _ (by omega), show (x + 5 * y) % 5 = x by omega, show (x + 5 * y) / 5 = y by omega, bt_chi _ _ _ _ (ha.ln _), bt_chi _ _ _ _ (hb.ln _)] at this
    exact this
  apply lanes_ext ha.1 hb.1
  intro i hi
  apply bt_ext (ha.ln _) (hb.ln _)
  intro j
  have r := hrow (i / 5) (by omega)
  have r0 := r 0 (by decide) j
  have r1 := r 1 (by decide) j
  have r2 := r 2 (by decide) j
  have r3 := r 3 (by decide) j
  have r4 := r 4 (by decide) j
  simp only [Nat.reduceAdd, Nat.reduceMod] at r0 r1 r2 r3 r4
  obtain ⟨k0, k1, k2, k3, k4⟩ := chi_bits _ _ _ _ _ _ _ _ _ _ r0 r1 r2 r3 r4
  have hx : i = 0 + 5 * (i / 5) ∨ i = 1 + 5 * (i / 5) ∨ i = 2 + 5 * (i / 5) ∨ i = 3 + 5 * (i / 5) ∨ i = 4 + 5 * (i / 5) := by omega
  rcases hx with hx | hx | hx | hx | hx <;> rw [hx] <;> assumption
theorem kRound_inj {a b : List Nat} (ha : LanesOk a) (hb : LanesOk b) {n : Nat} (h : kRound a n = kRound b n) : a = b := by
  apply rhoPi_inj ha hb
  apply chiL_inj (rhoPi_ok ha) (rhoPi_ok hb)
  have h1 := chiL_ok (rhoPi_ok ha)
  have h2 := chiL_ok (rhoPi_ok hb)
  unfold kRound at h
  generalize chiL (rhoPi a) = p at *
  generalize chiL (rhoPi b) = q at *
  apply lanes_ext h1.1 h2.1
  intro i hi
  by_cases h0 : i = 0
  · subst h0
    have := congrArg (fun l => ln l 0) h
    simp only [ln, List.getD_eq_getElem?_getD, List.getElem?_set_self (show 0 < p.length by rw [h1.1]; decide), List.getElem?_set_self (show 0 < q.length by rw [h2.1]; decide), Option.getD_some] at this
    have := congrArg (· ^^^ n) this
    simpa [ln, Nat.xor_assoc] using this
  · have := congrArg (fun l => ln l i) h
    simp only [ln, List.getD_eq_getElem?_getD, List.getElem?_set_ne (Ne.symm h0)] at this
    unfold ln
    rw [List.getD_eq_getElem?_getD, List.getD_eq_getElem?_getD]
    exact this
theorem numsL_lt (i : Nat) : ln numsL i < M64 := by
  unfold ln
  rw [List.getD_eq_getElem?_getD]
  rcases Nat.lt_or_ge i 24 with k | k
  · have : ∀ i, i < 24 → (numsL[i]?).getD 0 < M64 := by decide
    exact this i k
  · rw [List.getElem?_eq_none (show numsL.length ≤ i from k)]; decide
theorem kRounds_ok {a : List Nat} (ha : LanesOk a) (n : Nat) : LanesOk (kRounds a n) := by
  induction n with
  | zero => exact ha
  | succ n ih => exact kRound_ok ih (numsL_lt _)
theorem kRounds_inj {a b : List Nat} (ha : LanesOk a) (hb : LanesOk b) (n : Nat) (h : kRounds a n = kRounds b n) : a = b := by
  induction n with
  | zero => exact h
  | succ n ih => exact ih (kRound_inj (kRounds_ok ha n) (kRounds_ok hb n) h)
theorem keccak_ok {a : List Nat} (ha : LanesOk a) : LanesOk (keccak a) := kRounds_ok ha 24
theorem keccak_inj {a b : List Nat} (ha : LanesOk a) (hb : LanesOk b) (h : keccak a = keccak b) : a = b := kRounds_inj ha hb 24 h
end Go.Proofs.YtkidgllmhdfgaanDoor
