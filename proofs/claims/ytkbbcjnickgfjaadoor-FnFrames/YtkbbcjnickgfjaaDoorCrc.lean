/- The sum, reckoned on whole numbers: a step of the document, four steps by a table of sixteen, and that no turned byte keeps a sum. -/
import Derived.Test.YtkbbcjnickgfjaaDoorBase
import Derived.Laws.BitsLemmas
import Derived.Lib.LaidTab
namespace Go.Proofs.YtkbbcjnickgfjaaDoor

def crcStep (c : Nat) : Nat := if c % 2 = 1 then (c / 2) ^^^ 3558460437 else c / 2
def crcSteps : Nat → Nat → Nat
  | 0, c => c
  | n + 1, c => crcSteps n (crcStep c)
def crcByte (c : Nat) (b : UInt8) : Nat := crcSteps 8 (c ^^^ b.toNat)
def crcL : Nat → List UInt8 → Nat
  | c, [] => c
  | c, b :: l => crcL (crcByte c b) l

theorem crcSteps_snoc (n c : Nat) : crcSteps (n + 1) c = crcStep (crcSteps n c) := by
  induction n generalizing c with
  | zero => rfl
  | succ n ih => exact ih (crcStep c)

theorem crcL_append (c : Nat) (l m : List UInt8) : crcL c (l ++ m) = crcL (crcL c l) m := by
  induction l generalizing c with
  | nil => rfl
  | cons b l ih => exact ih (crcByte c b)

theorem crcL_snoc (c : Nat) (l : List UInt8) (b : UInt8) : crcL c (l ++ [b]) = crcByte (crcL c l) b := by
  rw [crcL_append]; rfl

theorem xor_lt32 {a b : Nat} (ha : a < 4294967296) (hb : b < 4294967296) : a ^^^ b < 4294967296 :=
  Nat.xor_lt_two_pow (n := 32) ha hb

theorem crcStep_lt {c : Nat} (h : c < 4294967296) : crcStep c < 4294967296 := by
  unfold crcStep
  split
  · exact xor_lt32 (by omega) (by omega)
  · omega

theorem crcSteps_lt (n : Nat) {c : Nat} (h : c < 4294967296) : crcSteps n c < 4294967296 := by
  induction n generalizing c with
  | zero => exact h
  | succ n ih => exact ih (crcStep_lt h)

theorem crcByte_lt {c : Nat} (h : c < 4294967296) (b : UInt8) : crcByte c b < 4294967296 :=
  crcSteps_lt 8 (xor_lt32 h (by have := b.toNat_lt; omega))

theorem crcL_lt {c : Nat} (h : c < 4294967296) (l : List UInt8) : crcL c l < 4294967296 := by
  induction l generalizing c with
  | nil => exact h
  | cons b l ih => exact ih (crcByte_lt h b)

/- the table's way -/
theorem xor_half (a b : Nat) : (a ^^^ b) / 2 = (a / 2) ^^^ (b / 2) := by
  have := @Nat.shiftRight_xor_distrib 1 a b
  simpa [Nat.shiftRight_eq_div_pow] using this

theorem xor_par (a b : Nat) : (a ^^^ b) % 2 = (a % 2 + b % 2) % 2 := by
  have h : (a ^^^ b) % 2 = (a % 2) ^^^ (b % 2) := by
    have := Nat.xor_mod_two_pow (a := a) (b := b) (n := 1)
    simpa using this
  have ha : a % 2 = 0 ∨ a % 2 = 1 := by omega
  have hb : b % 2 = 0 ∨ b % 2 = 1 := by omega
  rw [h]
  rcases ha with ha | ha <;> rcases hb with hb | hb <;> rw [ha, hb] <;> rfl

theorem crcStep_xor (a b : Nat) : crcStep (a ^^^ b) = crcStep a ^^^ crcStep b := by
  unfold crcStep
  rw [xor_half, xor_par]
  have ha : a % 2 = 0 ∨ a % 2 = 1 := by omega
  have hb : b % 2 = 0 ∨ b % 2 = 1 := by omega
  have hp : ∀ x : Nat, x ^^^ 3558460437 = 3558460437 ^^^ x := fun x => Nat.xor_comm _ _
  rcases ha with ha | ha <;> rcases hb with hb | hb
  · simp [ha, hb]
  · simp [ha, hb, Nat.xor_assoc]
  · simp [ha, hb]
    rw [Nat.xor_assoc, Nat.xor_assoc, hp (b / 2)]
  · simp [ha, hb]
    rw [Nat.xor_assoc, hp (b / 2), ← Nat.xor_assoc 3558460437, Nat.xor_self, Nat.zero_xor]

theorem crcSteps_xor (n a b : Nat) : crcSteps n (a ^^^ b) = crcSteps n a ^^^ crcSteps n b := by
  induction n generalizing a b with
  | zero => rfl
  | succ n ih => unfold crcSteps; rw [crcStep_xor, ih]

theorem split16 (t : Nat) : t = (16 * (t / 16)) ^^^ (t % 16) := by
  apply Nat.eq_of_testBit_eq
  intro i
  rw [Nat.testBit_xor, show (16 : Nat) = 2 ^ 4 by rfl, Nat.testBit_two_pow_mul, Nat.testBit_mod_two_pow, Nat.testBit_div_two_pow]
  by_cases h : i < 4
  · have h1 : ¬ (4 ≤ i) := by omega
    simp [h, h1]
  · have h1 : 4 ≤ i := by omega
    simp [h, h1, show i - 4 + 4 = i by omega]

theorem crcStep_even (u : Nat) : crcStep (2 * u) = u := by
  unfold crcStep
  rw [if_neg (by omega)]
  omega

theorem crcSteps4_16 (u : Nat) : crcSteps 4 (16 * u) = u := by
  have e : 16 * u = 2 * (2 * (2 * (2 * u))) := by omega
  rw [e]
  show crcStep (crcStep (crcStep (crcStep (2 * (2 * (2 * (2 * u))))))) = u
  rw [crcStep_even, crcStep_even, crcStep_even, crcStep_even]

def fourTab : List Int := [0, 1166650509, 2333301018, 3466261911, 3189058079, 4221339282, 889615109, 1888477064, 3558460437, 2442158232, 1594529039, 444807554, 1779230218, 797264519, 3776954128, 2761298845]

theorem fourTab_at (r : Nat) (h : r < 16) : fourTab.getD r 0 = (crcSteps 4 r : Int) := by
  match r, h with
  | 0, _ => decide
  | 1, _ => decide
  | 2, _ => decide
  | 3, _ => decide
  | 4, _ => decide
  | 5, _ => decide
  | 6, _ => decide
  | 7, _ => decide
  | 8, _ => decide
  | 9, _ => decide
  | 10, _ => decide
  | 11, _ => decide
  | 12, _ => decide
  | 13, _ => decide
  | 14, _ => decide
  | 15, _ => decide
  | n + 16, h => exact absurd h (by omega)

theorem crcSteps4 (t : Nat) : crcSteps 4 t = (t / 16) ^^^ crcSteps 4 (t % 16) := by
  have h := congrArg (crcSteps 4) (split16 t)
  rw [crcSteps_xor, crcSteps4_16] at h
  exact h

theorem crcByte_four (c : Nat) (b : UInt8) : crcByte c b = crcSteps 4 (crcSteps 4 (c ^^^ b.toNat)) := rfl

/- one to one -/
theorem crcStep_inj {a b : Nat} (ha : a < 4294967296) (hb : b < 4294967296) (h : crcStep a = crcStep b) : a = b := by
  unfold crcStep at h
  have top : ∀ x : Nat, x < 2147483648 → ∀ y : Nat, y < 2147483648 → x ^^^ 3558460437 ≠ y := by
    intro x hx y hy he
    have h1 : (x ^^^ 3558460437).testBit 31 = y.testBit 31 := by rw [he]
    rw [Nat.testBit_xor, Nat.testBit_lt_two_pow (by simpa using hx), Nat.testBit_lt_two_pow (x := y) (by simpa using hy)] at h1
    exact absurd h1 (by decide)
  by_cases pa : a % 2 = 1 <;> by_cases pb : b % 2 = 1
  · rw [if_pos pa, if_pos pb] at h
    have := congrArg (· ^^^ 3558460437) h
    simp only [Nat.xor_assoc, Nat.xor_self, Nat.xor_zero] at this
    omega
  · rw [if_pos pa, if_neg pb] at h
    exact absurd h (top _ (by omega) _ (by omega))
  · rw [if_neg pa, if_pos pb] at h
    exact absurd h.symm (top _ (by omega) _ (by omega))
  · rw [if_neg pa, if_neg pb] at h
    omega

theorem crcSteps_inj (n : Nat) {a b : Nat} (ha : a < 4294967296) (hb : b < 4294967296) (h : crcSteps n a = crcSteps n b) : a = b := by
  induction n generalizing a b with
  | zero => exact h
  | succ n ih => exact crcStep_inj ha hb (ih (crcStep_lt ha) (crcStep_lt hb) h)

theorem xor_cancel_left {c x y : Nat} (h : c ^^^ x = c ^^^ y) : x = y := by
  have := congrArg (c ^^^ ·) h
  simpa [← Nat.xor_assoc] using this

theorem crcByte_inj_sum {a b : Nat} (x : UInt8) (ha : a < 4294967296) (hb : b < 4294967296) (h : crcByte a x = crcByte b x) : a = b := by
  have hx := x.toNat_lt
  have h2 := crcSteps_inj 8 (xor_lt32 ha (show x.toNat < 4294967296 by omega)) (xor_lt32 hb (show x.toNat < 4294967296 by omega)) h
  rw [Nat.xor_comm a, Nat.xor_comm b] at h2
  exact xor_cancel_left h2

theorem crcByte_inj_byte {a : Nat} (x y : UInt8) (ha : a < 4294967296) (h : crcByte a x = crcByte a y) : x = y := by
  have hx := x.toNat_lt
  have hy := y.toNat_lt
  have h2 := crcSteps_inj 8 (xor_lt32 ha (show x.toNat < 4294967296 by omega)) (xor_lt32 ha (show y.toNat < 4294967296 by omega)) h
  exact UInt8.toNat_inj.1 (xor_cancel_left h2)

theorem crcL_inj_sum {a b : Nat} (l : List UInt8) (ha : a < 4294967296) (hb : b < 4294967296) (h : crcL a l = crcL b l) : a = b := by
  induction l generalizing a b with
  | nil => exact h
  | cons x l ih => exact crcByte_inj_sum x ha hb (ih (crcByte_lt ha x) (crcByte_lt hb x) h)

/-- One byte turned, the sum is another. -/
theorem crcL_turned {c : Nat} (hc : c < 4294967296) (l m : List UInt8) (x y : UInt8) (h : crcL c (l ++ x :: m) = crcL c (l ++ y :: m)) : x = y := by
  rw [crcL_append, crcL_append] at h
  have h1 : crcL (crcByte (crcL c l) x) m = crcL (crcByte (crcL c l) y) m := h
  have hl := crcL_lt hc l
  exact crcByte_inj_byte x y hl (crcL_inj_sum m (crcByte_lt hl x) (crcByte_lt hl y) h1)

/- the four bytes of a sum -/
def four (c : Nat) : List UInt8 := [UInt8.ofNat (c / 16777216), UInt8.ofNat (c / 65536), UInt8.ofNat (c / 256), UInt8.ofNat c]

theorem four_len (c : Nat) : (four c).length = 4 := rfl

theorem four_inj {a b : Nat} (ha : a < 4294967296) (hb : b < 4294967296) (h : four a = four b) : a = b := by
  unfold four at h
  have h0 := congrArg (fun l : List UInt8 => (l.getD 0 0).toNat) h
  have h1 := congrArg (fun l : List UInt8 => (l.getD 1 0).toNat) h
  have h2 := congrArg (fun l : List UInt8 => (l.getD 2 0).toNat) h
  have h3 := congrArg (fun l : List UInt8 => (l.getD 3 0).toNat) h
  simp [UInt8.toNat_ofNat'] at h0 h1 h2 h3
  omega

theorem bits_xor_u32_nat (a b : Nat) (ha : a < 4294967296) (hb : b < 4294967296) : bits .xor .u32 (a : Int) (b : Int) = ((a ^^^ b : Nat) : Int) := by
  have h := xor_lt32 ha hb
  have hk : IntKind.u32.bits = 32 := rfl
  simp only [bits, BitVec.ofInt_natCast, BitVec.toNat_xor, BitVec.toNat_ofNat, hk]
  rw [Nat.mod_eq_of_lt (show a < 2 ^ 32 by omega), Nat.mod_eq_of_lt (show b < 2 ^ 32 by omega), IntKind.wrap_u32]
  omega
end Go.Proofs.YtkbbcjnickgfjaaDoor
