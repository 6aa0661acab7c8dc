/- Products go through the layers: blocks of polynomials modulo X^n - c, halved. -/
import Derived.Test.YtdannnkdapbefaqNtp0
namespace Go.Proofs.Ytdannnkdapbefaq
open Go.RowKit
/-- Number t of the product of A and B modulo X^n - c. -/
def mulB (n : Nat) (c : Int) (A B : Nat → Int) (t : Nat) : Int := sumN (fun i => if i ≤ t then A i * B (t - i) else c * (A i * B (t + n - i))) n
theorem sumN_two (f : Nat → Int) (s : Nat) : sumN f (2 * s) = sumN (fun i => f i + f (i + s)) s := by
  rw [show 2 * s = s + s by omega, sumN_split, ← sumN_add]
  exact sumN_congr s fun i _ => by show f i + f (s + i) = f i + f (i + s); rw [Nat.add_comm s i]
theorem sumN_mul (f : Nat → Int) (c : Int) (n : Nat) : c * sumN f n = sumN (fun i => c * f i) n := by
  induction n with
  | zero => show c * 0 = 0; rw [Int.mul_zero]
  | succ n ih => show c * (sumN f n + f n) = sumN (fun i => c * f i) n + c * f n; rw [Int.mul_add, ih]
/-- The rest modulo X^s - z of a polynomial below X^2s. -/
def red (s : Nat) (z : Int) (A : Nat → Int) (r : Nat) : Int := A r + z * A (r + s)
theorem red_mulB (s : Nat) (z : Int) (A B : Nat → Int) (r : Nat) (hr : r < s) : red s z (mulB (2 * s) (z * z) A B) r = mulB s z (red s z A) (red s z B) r := by
  unfold red mulB
  rw [sumN_two, sumN_two, sumN_mul, ← sumN_add]
  refine sumN_congr s fun i hi => ?_
  show ((if i ≤ r then A i * B (r - i) else z * z * (A i * B (r + 2 * s - i))) + (if i + s ≤ r then A (i + s) * B (r - (i + s)) else z * z * (A (i + s) * B (r + 2 * s - (i + s))))) + z * ((if i ≤ r + s then A i * B (r + s - i) else z * z * (A i * B (r + s + 2 * s - i))) + (if i + s ≤ r + s then A (i + s) * B (r + s - (i + s)) else z * z * (A (i + s) * B (r + s + 2 * s - (i + s))))) = (if i ≤ r then (A i + z * A (i + s)) * (B (r - i) + z * B (r - i + s)) else z * ((A i + z * A (i + s)) * (B (r + s - i) + z * B (r + s - i + s))))
  rw [if_neg (show ¬ i + s ≤ r by omega), if_pos (show i ≤ r + s by omega), show r + 2 * s - (i + s) = r + s - i by omega]
  by_cases h : i ≤ r
  · rw [if_pos h, if_pos (show i + s ≤ r + s by omega), if_pos h, show r + s - (i + s) = r - i by omega, show r - i + s = r + s - i by omega]
    grind
  · rw [if_neg h, if_neg (show ¬ i + s ≤ r + s by omega), if_neg h, show r + s + 2 * s - (i + s) = r + 2 * s - i by omega, show r + s - i + s = r + 2 * s - i by omega]
    grind
theorem mulB_al {n : Nat} {c c' : Int} {A A' B B' : Nat → Int} (hc : AlQ c c') (hA : ∀ i, i < n → AlQ (A i) (A' i)) (hB : ∀ i, i < n → AlQ (B i) (B' i)) (t : Nat) (ht : t < n) : AlQ (mulB n c A B t) (mulB n c' A' B' t) := by
  refine sumN_al _ fun i hi => ?_
  by_cases h : i ≤ t
  · show AlQ (if i ≤ t then _ else _) (if i ≤ t then _ else _)
    rw [if_pos h, if_pos h]
    exact (hA i hi).mul (hB _ (by omega))
  · show AlQ (if i ≤ t then _ else _) (if i ≤ t then _ else _)
    rw [if_neg h, if_neg h]
    exact hc.mul ((hA i hi).mul (hB _ (by omega)))
/-- The block's number: what X^n is in it; block b of level i is number 2^i + b. -/
def gmN (k : Nat) : Int := if k = 1 then -1 else if k % 2 = 0 then zt (k / 2) else -(zt (k / 2))
/-- The products of all blocks of n numbers at a level whose first block has the number k0. -/
def lvl (n k0 : Nat) (f g : Nat → Int) (t : Nat) : Int := mulB n (gmN (k0 + t / n)) (fun r => f (t / n * n + r)) (fun r => g (t / n * n + r)) (t % n)
theorem gm_all : allN (fun k => (ztN (k + 1) * ztN (k + 1) + 3329 * 3329 - (if k + 1 = 1 then 3328 else if (k + 1) % 2 = 0 then ztN ((k + 1) / 2) else 3329 - ztN ((k + 1) / 2))) % 3329 == 0) 127 = true := by decide +kernel
theorem ztN_lt (k : Nat) : ztN k < 3329 := by unfold ztN; omega
theorem gm_sq (k : Nat) (h1 : 1 ≤ k) (h2 : k ≤ 127) : AlQ (gmN k) (zt k * zt k) := by
  obtain ⟨j, rfl⟩ : ∃ j, k = j + 1 := ⟨k - 1, by omega⟩
  have h := allN_at gm_all j (by omega)
  have h' : (ztN (j + 1) * ztN (j + 1) + 3329 * 3329 - (if j + 1 = 1 then 3328 else if (j + 1) % 2 = 0 then ztN ((j + 1) / 2) else 3329 - ztN ((j + 1) / 2))) % 3329 = 0 := by simpa using h
  have hl := ztN_lt ((j + 1) / 2)
  unfold gmN
  rw [zt_nat (j + 1), zt_nat ((j + 1) / 2), ← Int.natCast_mul]
  generalize ztN (j + 1) * ztN (j + 1) = p at *
  generalize ztN ((j + 1) / 2) = q at *
  unfold AlQ
  split
  · rename_i e; rw [if_pos e] at h'; omega
  · rename_i e
    rw [if_neg e] at h'
    split
    · rename_i e2; rw [if_pos e2] at h'; omega
    · rename_i e2; rw [if_neg e2] at h'; omega
theorem gm_child (k : Nat) (h : 1 ≤ k) : gmN (2 * k) = zt k ∧ gmN (2 * k + 1) = -(zt k) := by
  unfold gmN
  constructor
  · rw [if_neg (by omega), if_pos (by omega), show 2 * k / 2 = k by omega]
  · rw [if_neg (by omega), if_neg (by omega), show (2 * k + 1) / 2 = k by omega]
theorem lay_red_lo {s : Nat} (hs : Sz s) (zf f : Nat → Int) (b r : Nat) (hr : r < s) : lay s zf f (2 * b * s + r) = red s (zf b) (fun i => f (b * (2 * s) + i)) r := by
  unfold lay red
  have e : (2 * b * s + r) % (2 * s) = r ∧ (2 * b * s + r) / (2 * s) = b ∧ b * (2 * s) + r = 2 * b * s + r ∧ b * (2 * s) + (r + s) = 2 * b * s + r + s := by
    rcases hs with rfl | rfl | rfl | rfl | rfl | rfl | rfl <;> omega
  dsimp only
  rw [e.1, e.2.1, if_pos hr, e.2.2.1, e.2.2.2]
theorem lay_red_hi {s : Nat} (hs : Sz s) (zf f : Nat → Int) (b r : Nat) (hr : r < s) : lay s zf f ((2 * b + 1) * s + r) = red s (-(zf b)) (fun i => f (b * (2 * s) + i)) r := by
  unfold lay red
  have e : ¬ ((2 * b + 1) * s + r) % (2 * s) < s ∧ ((2 * b + 1) * s + r) / (2 * s) = b ∧ b * (2 * s) + r = (2 * b + 1) * s + r - s ∧ b * (2 * s) + (r + s) = (2 * b + 1) * s + r := by
    rcases hs with rfl | rfl | rfl | rfl | rfl | rfl | rfl <;> omega
  dsimp only
  rw [if_neg e.1, e.2.1, e.2.2.1, e.2.2.2]
  grind
/-- The products of a level, taken one layer on, are the products of the halves. -/
theorem lay_lvl {s k0 : Nat} (hs : Sz s) (hk : 1 ≤ k0) (zf f g : Nat → Int) (hz : ∀ b, b < 128 / s → zf b = zt (k0 + b) ∧ k0 + b ≤ 127) (t : Nat) (ht : t < 256) :
    AlQ (lay s zf (lvl (2 * s) k0 f g) t) (lvl s (2 * k0) (lay s zf f) (lay s zf g) t) := by
  have E : ∀ (b r : Nat), r < 2 * s → lvl (2 * s) k0 f g (b * (2 * s) + r) = mulB (2 * s) (gmN (k0 + b)) (fun i => f (b * (2 * s) + i)) (fun i => g (b * (2 * s) + i)) r := by
    intro b r hr
    unfold lvl
    have e : (b * (2 * s) + r) / (2 * s) = b ∧ (b * (2 * s) + r) % (2 * s) = r := by
      rcases hs with rfl | rfl | rfl | rfl | rfl | rfl | rfl <;> omega
    rw [e.1, e.2]
  obtain ⟨b, r, hr, hb, ht2⟩ : ∃ b r, r < s ∧ b < 128 / s ∧ (t = 2 * b * s + r ∨ t = (2 * b + 1) * s + r) := by
    rcases hs with rfl | rfl | rfl | rfl | rfl | rfl | rfl
    · exact ⟨t / 256, t % 128, by omega, by omega, by omega⟩
    · exact ⟨t / 128, t % 64, by omega, by omega, by omega⟩
    · exact ⟨t / 64, t % 32, by omega, by omega, by omega⟩
    · exact ⟨t / 32, t % 16, by omega, by omega, by omega⟩
    · exact ⟨t / 16, t % 8, by omega, by omega, by omega⟩
    · exact ⟨t / 8, t % 4, by omega, by omega, by omega⟩
    · exact ⟨t / 4, t % 2, by omega, by omega, by omega⟩
  obtain ⟨hz1, hz2⟩ := hz b hb
  have hsq := gm_sq (k0 + b) (by omega) hz2
  obtain ⟨gc1, gc2⟩ := gm_child (k0 + b) (by omega)
  have hs0 : 0 < s := by omega
  have Hmul : ∀ z : Int, AlQ (gmN (k0 + b)) (z * z) → AlQ (red s z (fun i => lvl (2 * s) k0 f g (b * (2 * s) + i)) r) (mulB s z (red s z (fun i => f (b * (2 * s) + i))) (red s z (fun i => g (b * (2 * s) + i))) r) := by
    intro z hz
    rw [← red_mulB s z _ _ r hr]
    unfold red
    dsimp only
    rw [E b r (by omega), E b (r + s) (by omega)]
    exact (mulB_al hz (fun i _ => AlQ.refl _) (fun i _ => AlQ.refl _) r (by omega)).add ((AlQ.refl _).mul (mulB_al hz (fun i _ => AlQ.refl _) (fun i _ => AlQ.refl _) (r + s) (by omega)))
  rcases ht2 with rfl | rfl
  · rw [lay_red_lo hs _ _ b r hr]
    have e : (2 * b * s + r) / s = 2 * b ∧ (2 * b * s + r) % s = r := by
      rcases hs with rfl | rfl | rfl | rfl | rfl | rfl | rfl <;> omega
    unfold lvl
    rw [e.1, e.2, show 2 * k0 + 2 * b = 2 * (k0 + b) by omega, gc1, hz1]
    refine AlQ.trans (Hmul (zt (k0 + b)) hsq) (mulB_al (AlQ.refl _) (fun i hi => ?_) (fun i hi => ?_) r hr)
    · rw [lay_red_lo hs _ _ b i hi, hz1]; exact AlQ.refl _
    · rw [lay_red_lo hs _ _ b i hi, hz1]; exact AlQ.refl _
  · rw [lay_red_hi hs _ _ b r hr]
    have e : ((2 * b + 1) * s + r) / s = 2 * b + 1 ∧ ((2 * b + 1) * s + r) % s = r := by
      rcases hs with rfl | rfl | rfl | rfl | rfl | rfl | rfl <;> omega
    unfold lvl
    rw [e.1, e.2, show 2 * k0 + (2 * b + 1) = 2 * (k0 + b) + 1 by omega, gc2, hz1]
    refine AlQ.trans (Hmul (-(zt (k0 + b))) (hsq.trans (al_of 0 (by grind)))) (mulB_al (AlQ.refl _) (fun i hi => ?_) (fun i hi => ?_) r hr)
    · rw [lay_red_hi hs _ _ b i hi, hz1]; exact AlQ.refl _
    · rw [lay_red_hi hs _ _ b i hi, hz1]; exact AlQ.refl _
theorem lvl_al {n k0 : Nat} (h0 : 0 < n) {f f' g g' : Nat → Int} (hn : 256 % n = 0) (hf : ∀ t, t < 256 → AlQ (f t) (f' t)) (hg : ∀ t, t < 256 → AlQ (g t) (g' t)) (t : Nat) (ht : t < 256) : AlQ (lvl n k0 f g t) (lvl n k0 f' g' t) := by
  have hb : ∀ i, i < n → t / n * n + i < 256 := by
    intro i hi
    have h1 : t / n < 256 / n := (Nat.div_lt_iff_lt_mul h0).2 (by rw [Nat.div_mul_cancel (Nat.dvd_of_mod_eq_zero hn)]; exact ht)
    have h2 : (t / n + 1) * n ≤ 256 / n * n := Nat.mul_le_mul_right n h1
    rw [Nat.div_mul_cancel (Nat.dvd_of_mod_eq_zero hn), Nat.add_mul, Nat.one_mul] at h2
    omega
  exact mulB_al (AlQ.refl _) (fun i hi => hf _ (hb i hi)) (fun i hi => hg _ (hb i hi)) _ (Nat.mod_lt _ h0)
theorem lvls (i : Nat) (h : i < 7) : 256 / 2 ^ i = 2 * sz i ∧ 256 / 2 ^ (i + 1) = sz i ∧ 128 / sz i = 2 ^ i ∧ 2 ^ i + 2 ^ i ≤ 128 := by
  match i, h with
  | 0, _ => decide
  | 1, _ => decide
  | 2, _ => decide
  | 3, _ => decide
  | 4, _ => decide
  | 5, _ => decide
  | 6, _ => decide
  | i + 7, h => exact absurd h (by omega)
theorem nF_lvl (f g : Nat → Int) (i : Nat) (hi : i ≤ 7) : ∀ t, t < 256 → AlQ (nF (lvl 256 1 f g) i t) (lvl (256 / 2 ^ i) (2 ^ i) (nF f i) (nF g i) t) := by
  induction i with
  | zero => exact fun t _ => AlQ.refl _
  | succ i ih =>
    intro t ht
    obtain ⟨e1, e2, e3, e4⟩ := lvls i (by omega)
    have hp : 0 < 2 ^ i := Nat.pow_pos (by omega)
    refine AlQ.trans (lay_al (sz_ok i (by omega)) (zN i) (ih (by omega)) t ht) ?_
    rw [e1, e2, show 2 ^ (i + 1) = 2 * 2 ^ i by rw [Nat.pow_succ]; omega]
    exact lay_lvl (sz_ok i (by omega)) hp (zN i) (nF f i) (nF g i) (fun b hb => ⟨rfl, by rw [e3] at hb; omega⟩) t ht
theorem lvl_top (f g : Nat → Int) (t : Nat) (ht : t < 256) : lvl 256 1 f g t = cfP f g t := by
  unfold lvl cfP mulB
  rw [show t / 256 = 0 by omega, show t % 256 = t by omega]
  refine sumN_congr _ fun i _ => ?_
  unfold tmC
  dsimp only
  by_cases h : i ≤ t
  · rw [if_pos h, if_pos h, show 0 * 256 + i = i by omega, show 0 * 256 + (t - i) = t - i by omega]
  · rw [if_neg h, if_neg h, show 0 * 256 + i = i by omega, show 0 * 256 + (t + 256 - i) = t + 256 - i by omega]
    show (-1) * _ = _
    grind
/-- The factor of pair i. -/
def gm (i : Nat) : Int := powM 17 (2 * t7 i + 1)
def mnF (F G : Nat → Int) (t : Nat) : Int := if t % 2 = 0 then F t * G t + F (t + 1) * G (t + 1) * gm (t / 2) else F (t - 1) * G t + F t * G (t - 1)
theorem gm7_all : allN (fun i => (17 ^ (2 * t7 i + 1) + 3329 - (if i % 2 = 0 then ztN (64 + i / 2) else 3329 - ztN (64 + i / 2))) % 3329 == 0) 128 = true := by decide +kernel
theorem gm7 (i : Nat) (h : i < 128) : AlQ (gmN (128 + i)) (gm i) := by
  have h1 := allN_at gm7_all i h
  have h2 : (17 ^ (2 * t7 i + 1) + 3329 - (if i % 2 = 0 then ztN (64 + i / 2) else 3329 - ztN (64 + i / 2))) % 3329 = 0 := by simpa using h1
  have hl := ztN_lt (64 + i / 2)
  have hp : 0 < 17 ^ (2 * t7 i + 1) := Nat.pow_pos (by omega)
  unfold gmN gm powM
  rw [show (17 : Int) ^ (2 * t7 i + 1) = ((17 ^ (2 * t7 i + 1) : Nat) : Int) by rw [Int.natCast_pow]; rfl, zt_nat, show (128 + i) / 2 = 64 + i / 2 by omega]
  generalize 17 ^ (2 * t7 i + 1) = X at *
  generalize ztN (64 + i / 2) = q at *
  unfold AlQ
  rw [if_neg (by omega)]
  by_cases e : i % 2 = 0
  · rw [if_pos (by omega)]; rw [if_pos e] at h2; omega
  · rw [if_neg (by omega)]; rw [if_neg e] at h2; omega
theorem lvl_end (F G : Nat → Int) (t : Nat) (ht : t < 256) : AlQ (lvl 2 128 F G t) (mnF F G t) := by
  have hg := gm7 (t / 2) (by omega)
  unfold lvl mnF mulB
  dsimp only [sumN]
  generalize gmN (128 + t / 2) = c at *
  by_cases h : t % 2 = 0
  · rw [h, if_pos (by omega), if_neg (by omega), if_pos rfl, show t / 2 * 2 + 0 = t by omega, show t / 2 * 2 + 1 = t + 1 by omega]
    obtain ⟨m, hm⟩ := al_to hg
    exact al_of (m * (F (t + 1) * G (t + 1))) (by grind)
  · have h' : t % 2 = 1 := by omega
    rw [h', if_pos (by omega), if_pos (by omega), if_neg (by omega), show t / 2 * 2 + 0 = t - 1 by omega, show t / 2 * 2 + (1 - 0) = t by omega]
    first | rw [show t / 2 * 2 + 1 = t by omega] | skip
    first | rw [show t / 2 * 2 + (1 - 1) = t - 1 by omega] | skip
    exact al_of 0 (by grind)
/-- The transform of a product is the product of the transforms, pair by pair. -/
theorem nF_mul (f g : Nat → Int) (t : Nat) (ht : t < 256) : AlQ (nF (cfP f g) 7 t) (mnF (nF f 7) (nF g 7) t) := by
  refine AlQ.trans (nF_al (fun u hu => by rw [← lvl_top f g u hu]; exact AlQ.refl _) 7 (by omega) t ht) ?_
  exact AlQ.trans (nF_lvl f g 7 (by omega) t ht) (lvl_end _ _ t ht)
end Go.Proofs.Ytdannnkdapbefaq
