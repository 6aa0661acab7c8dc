/- Transforms of polynomials, layer by layer: what they answer; that they take each other back; that products go through them. -/
import Derived.Test.YtdannnkdapbefaqPly0
namespace Go.Proofs.Ytdannnkdapbefaq
open Go.RowKit
def Sz (s : Nat) : Prop := s = 128 ∨ s = 64 ∨ s = 32 ∨ s = 16 ∨ s = 8 ∨ s = 4 ∨ s = 2
def ztN (k : Nat) : Nat := 17 ^ t7 k % 3329
def zt (k : Nat) : Int := powM 17 (t7 k)
theorem zt_nat (k : Nat) : zt k = (ztN k : Int) := by
  unfold zt ztN powM
  rw [show (17 : Int) ^ t7 k = ((17 ^ t7 k : Nat) : Int) by rw [Int.natCast_pow]; rfl]
  generalize 17 ^ t7 k = X
  omega
/-- One layer on the way there: block t / 2s with its factor. -/
def lay (s : Nat) (zf f : Nat → Int) (t : Nat) : Int := if t % (2 * s) < s then f t + zf (t / (2 * s)) * f (t + s) else f (t - s) - zf (t / (2 * s)) * f t
/-- One layer on the way back. -/
def ily (s : Nat) (zf g : Nat → Int) (t : Nat) : Int := if t % (2 * s) < s then g t + g (t + s) else zf (t / (2 * s)) * (g t - g (t - s))
theorem sz_lo {s t : Nat} (hs : Sz s) (ht : t < 256) (h : t % (2 * s) < s) : t + s < 256 ∧ ¬ (t + s) % (2 * s) < s ∧ (t + s) / (2 * s) = t / (2 * s) := by
  rcases hs with rfl | rfl | rfl | rfl | rfl | rfl | rfl <;> omega
theorem sz_hi {s t : Nat} (hs : Sz s) (ht : t < 256) (h : ¬ t % (2 * s) < s) : s ≤ t ∧ (t - s) % (2 * s) < s ∧ (t - s) / (2 * s) = t / (2 * s) ∧ t - s + s = t := by
  rcases hs with rfl | rfl | rfl | rfl | rfl | rfl | rfl <;> omega
theorem lay_al {s : Nat} (hs : Sz s) (zf : Nat → Int) {f g : Nat → Int} (h : ∀ t, t < 256 → AlQ (f t) (g t)) (t : Nat) (ht : t < 256) : AlQ (lay s zf f t) (lay s zf g t) := by
  unfold lay
  by_cases c : t % (2 * s) < s
  · rw [if_pos c, if_pos c]
    exact (h t ht).add ((AlQ.refl _).mul (h _ (sz_lo hs ht c).1))
  · rw [if_neg c, if_neg c]
    exact (h _ (by omega)).sub ((AlQ.refl _).mul (h t ht))
theorem ily_al {s : Nat} (hs : Sz s) (zf : Nat → Int) {f g : Nat → Int} (h : ∀ t, t < 256 → AlQ (f t) (g t)) (t : Nat) (ht : t < 256) : AlQ (ily s zf f t) (ily s zf g t) := by
  unfold ily
  by_cases c : t % (2 * s) < s
  · rw [if_pos c, if_pos c]
    exact (h t ht).add (h _ (sz_lo hs ht c).1)
  · rw [if_neg c, if_neg c]
    exact (AlQ.refl _).mul ((h t ht).sub (h _ (by omega)))
theorem al_of {x y : Int} (m : Int) (h : x - y = 3329 * m) : AlQ x y := by unfold AlQ; omega
theorem al_to {x y : Int} (h : AlQ x y) : ∃ m, x - y = 3329 * m := ⟨(x - y) / 3329, by unfold AlQ at h; omega⟩
/-- There and back: each number twice. -/
theorem ily_lay {s : Nat} (hs : Sz s) (zf zg f : Nat → Int) (t : Nat) (ht : t < 256) (hz : AlQ (zf (t / (2 * s)) * zg (t / (2 * s))) (-1)) : AlQ (ily s zg (lay s zf f) t) (2 * f t) := by
  unfold ily
  by_cases c : t % (2 * s) < s
  · obtain ⟨_, h2, h3⟩ := sz_lo hs ht c
    rw [if_pos c]
    unfold lay
    rw [if_pos c, if_neg h2, h3, show t + s - s = t by omega]
    exact al_of 0 (by grind)
  · obtain ⟨_, h2, h3, h4⟩ := sz_hi hs ht c
    rw [if_neg c]
    unfold lay
    rw [if_neg c, if_pos h2, h3, h4]
    obtain ⟨m, hm⟩ := al_to hz
    generalize zf (t / (2 * s)) = z at *
    generalize zg (t / (2 * s)) = y at *
    exact al_of (-2 * m * f t) (by grind)
/-- Back and there: each number twice. -/
theorem lay_ily {s : Nat} (hs : Sz s) (zf zg g : Nat → Int) (t : Nat) (ht : t < 256) (hz : AlQ (zf (t / (2 * s)) * zg (t / (2 * s))) (-1)) : AlQ (lay s zf (ily s zg g) t) (2 * g t) := by
  unfold lay
  obtain ⟨m, hm⟩ := al_to hz
  by_cases c : t % (2 * s) < s
  · obtain ⟨_, h2, h3⟩ := sz_lo hs ht c
    rw [if_pos c]
    unfold ily
    rw [if_pos c, if_neg h2, h3, show t + s - s = t by omega]
    generalize zf (t / (2 * s)) = z at *
    generalize zg (t / (2 * s)) = y at *
    exact al_of (m * (g (t + s) - g t)) (by grind)
  · obtain ⟨_, h2, _, h4⟩ := sz_hi hs ht c
    rw [if_neg c]
    unfold ily
    rw [if_neg c, if_pos h2, h4]
    generalize zf (t / (2 * s)) = z at *
    generalize zg (t / (2 * s)) = y at *
    exact al_of (-m * (g t - g (t - s))) (by grind)
theorem lay_scale (s : Nat) (zf f : Nat → Int) (c : Int) (t : Nat) : lay s zf (fun i => c * f i) t = c * lay s zf f t := by
  unfold lay; split <;> grind
theorem ily_scale (s : Nat) (zf f : Nat → Int) (c : Int) (t : Nat) : ily s zf (fun i => c * f i) t = c * ily s zf f t := by
  unfold ily; split <;> grind
theorem lay_add (s : Nat) (zf f g : Nat → Int) (t : Nat) : lay s zf (fun i => f i + g i) t = lay s zf f t + lay s zf g t := by
  unfold lay; split <;> grind
def sz (i : Nat) : Nat := 128 / 2 ^ i
def zN (i b : Nat) : Int := zt (2 ^ i + b)
def zI (i b : Nat) : Int := zt (2 ^ (i + 1) - 1 - b)
theorem sz_ok (i : Nat) (h : i < 7) : Sz (sz i) := by
  match i, h with
  | 0, _ => exact .inl rfl
  | 1, _ => exact .inr (.inl rfl)
  | 2, _ => exact .inr (.inr (.inl rfl))
  | 3, _ => exact .inr (.inr (.inr (.inl rfl)))
  | 4, _ => exact .inr (.inr (.inr (.inr (.inl rfl))))
  | 5, _ => exact .inr (.inr (.inr (.inr (.inr (.inl rfl)))))
  | 6, _ => exact .inr (.inr (.inr (.inr (.inr (.inr rfl)))))
  | i + 7, h => exact absurd h (by omega)
theorem blk_lt (i t : Nat) (h : i < 7) (ht : t < 256) : t / (2 * sz i) < 2 ^ i := by
  match i, h with
  | 0, _ => show t / 256 < 1; omega
  | 1, _ => show t / 128 < 2; omega
  | 2, _ => show t / 64 < 4; omega
  | 3, _ => show t / 32 < 8; omega
  | 4, _ => show t / 16 < 16; omega
  | 5, _ => show t / 8 < 32; omega
  | 6, _ => show t / 4 < 64; omega
  | i + 7, h => exact absurd h (by omega)
theorem zz_all : allN (fun i => allN (fun b => (ztN (2 ^ i + b) * ztN (2 ^ (i + 1) - 1 - b) + 1) % 3329 == 0) (2 ^ i)) 7 = true := by decide +kernel
theorem zz (i b : Nat) (hi : i < 7) (hb : b < 2 ^ i) : AlQ (zN i b * zI i b) (-1) := by
  have h := allN_at (allN_at zz_all i hi) b hb
  have h' : (ztN (2 ^ i + b) * ztN (2 ^ (i + 1) - 1 - b) + 1) % 3329 = 0 := by simpa using h
  unfold zN zI
  rw [zt_nat, zt_nat]
  generalize ztN (2 ^ i + b) = x at *
  generalize ztN (2 ^ (i + 1) - 1 - b) = y at *
  rw [← Int.natCast_mul]
  generalize x * y = p at *
  unfold AlQ
  omega
/-- The numbers behind i layers there. -/
def nF (f : Nat → Int) : Nat → Nat → Int
  | 0 => f
  | i + 1 => lay (sz i) (zN i) (nF f i)
/-- The numbers behind m layers back. -/
def iF (g : Nat → Int) : Nat → Nat → Int
  | 0 => g
  | m + 1 => ily (sz (6 - m)) (zI (6 - m)) (iF g m)
theorem nF_al {f g : Nat → Int} (h : ∀ t, t < 256 → AlQ (f t) (g t)) (i : Nat) (hi : i ≤ 7) : ∀ t, t < 256 → AlQ (nF f i t) (nF g i t) := by
  induction i with
  | zero => exact h
  | succ i ih => exact fun t ht => lay_al (sz_ok i (by omega)) _ (ih (by omega)) t ht
theorem iF_al {f g : Nat → Int} (h : ∀ t, t < 256 → AlQ (f t) (g t)) (m : Nat) (hm : m ≤ 7) : ∀ t, t < 256 → AlQ (iF f m t) (iF g m t) := by
  induction m with
  | zero => exact h
  | succ m ih => exact fun t ht => ily_al (sz_ok (6 - m) (by omega)) _ (ih (by omega)) t ht
theorem nF_scale (f : Nat → Int) (c : Int) (i : Nat) : nF (fun t => c * f t) i = fun t => c * nF f i t := by
  induction i with
  | zero => rfl
  | succ i ih =>
    show lay (sz i) (zN i) (nF (fun t => c * f t) i) = _
    rw [ih]
    funext t
    exact lay_scale _ _ _ _ _
theorem nF_add (f g : Nat → Int) (i : Nat) : nF (fun t => f t + g t) i = fun t => nF f i t + nF g i t := by
  induction i with
  | zero => rfl
  | succ i ih =>
    show lay (sz i) (zN i) (nF (fun t => f t + g t) i) = _
    rw [ih]
    funext t
    exact lay_add _ _ _ _ _
/-- m layers back behind 7 there: what was behind 7 - m there, 2^m times. -/
theorem iF_nF (f : Nat → Int) (m : Nat) (hm : m ≤ 7) : ∀ t, t < 256 → AlQ (iF (nF f 7) m t) (2 ^ m * nF f (7 - m) t) := by
  induction m with
  | zero => intro t _; rw [Int.pow_zero, Int.one_mul]; exact AlQ.refl _
  | succ m ih =>
    intro t ht
    have h1 := ily_al (sz_ok (6 - m) (by omega)) (zI (6 - m)) (ih (by omega)) t ht
    refine AlQ.trans h1 ?_
    rw [ily_scale]
    have e : nF f (7 - m) = lay (sz (6 - m)) (zN (6 - m)) (nF f (6 - m)) := by
      rw [show 7 - m = (6 - m) + 1 by omega]; rfl
    rw [e, show 7 - (m + 1) = 6 - m by omega]
    have h2 := ily_lay (sz_ok (6 - m) (by omega)) (zN (6 - m)) (zI (6 - m)) (nF f (6 - m)) t ht (zz _ _ (by omega) (blk_lt _ _ (by omega) ht))
    refine AlQ.trans ((AlQ.refl _).mul h2) ?_
    rw [Int.pow_succ]
    exact al_of 0 (by grind)
/-- i layers there behind 7 back: what was behind 7 - i back, 2^i times. -/
theorem nF_iF (g : Nat → Int) (i : Nat) (hi : i ≤ 7) : ∀ t, t < 256 → AlQ (nF (iF g 7) i t) (2 ^ i * iF g (7 - i) t) := by
  induction i with
  | zero => intro t _; rw [Int.pow_zero, Int.one_mul]; exact AlQ.refl _
  | succ i ih =>
    intro t ht
    have h1 := lay_al (sz_ok i (by omega)) (zN i) (ih (by omega)) t ht
    refine AlQ.trans h1 ?_
    rw [lay_scale]
    have e : iF g (7 - i) = ily (sz i) (zI i) (iF g (6 - i)) := by
      rw [show 7 - i = (6 - i) + 1 by omega]
      show ily (sz (6 - (6 - i))) (zI (6 - (6 - i))) (iF g (6 - i)) = _
      rw [show 6 - (6 - i) = i by omega]
    rw [e, show 7 - (i + 1) = 6 - i by omega]
    have h2 := lay_ily (sz_ok i (by omega)) (zN i) (zI i) (iF g (6 - i)) t ht (zz _ _ (by omega) (blk_lt _ _ (by omega) ht))
    refine AlQ.trans ((AlQ.refl _).mul h2) ?_
    rw [Int.pow_succ]
    exact al_of 0 (by grind)
theorem inv_there (f : Nat → Int) (t : Nat) (ht : t < 256) : AlQ (iF (nF f 7) 7 t * 3303) (f t) := by
  have h := (iF_nF f 7 (by omega) t ht).mul (AlQ.refl 3303)
  refine AlQ.trans h ?_
  show AlQ (2 ^ 7 * nF f 0 t * 3303) (f t)
  exact al_of (127 * f t) (by show 2 ^ 7 * f t * 3303 - f t = _; omega)
theorem there_inv (g : Nat → Int) (t : Nat) (ht : t < 256) : AlQ (nF (fun i => 3303 * iF g 7 i) 7 t) (g t) := by
  rw [nF_scale]
  have h := (AlQ.refl 3303).mul (nF_iF g 7 (by omega) t ht)
  refine AlQ.trans h ?_
  show AlQ (3303 * (2 ^ 7 * iF g 0 t)) (g t)
  exact al_of (127 * g t) (by show 3303 * (2 ^ 7 * g t) - g t = _; omega)
end Go.Proofs.Ytdannnkdapbefaq
