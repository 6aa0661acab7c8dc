/- Merged: Lok0, Rv, ReadVar, ReadVarS, Lok1, Lok2, Lok3, Lok4, Trv, Wra0, Lok5. -/
import Derived.Test.YtinnaajkdkfnaabMga1
import Derived.Test.YtinnaajkdkfnaabMga2
import Derived.Test.YtinnaajkdkfnaabMga3
import Derived.Test.YtinnaajkdkfnaabMga4
import Derived.Deep.RegionWith
import Derived.Deep.RegionHeld3
import Derived.Lib.AppendStr
import Derived.Laws.IdiomStrings
/- Texts that are locked, reckoned: masks, tags, what is wrapped. -/
namespace Go.Proofs.Ytinnaajkdkfnaab
open Go.RowKit
def vaT (n : Nat) : ByteArray := ⟨(varB n).toArray⟩
theorem varB_pow (k : Nat) : ∀ n, n < 128 ^ (k + 1) → (varB n).length ≤ k + 1 := by
  induction k with
  | zero =>
    intro n hn
    rw [varB_small (by simpa using Nat.lt_succ_iff.1 hn)]
    simp
  | succ k ih =>
    intro n hn
    by_cases h : n ≤ 127
    · rw [varB_small h]; simp
    · rw [varB_big h, List.length_cons]
      have := ih (n / 128) (Nat.div_lt_of_lt_mul (by rw [Nat.pow_succ, Nat.mul_comm] at hn; exact hn))
      omega
theorem varB_le5 {n : Nat} (h : n ≤ 1000000000) : (varB n).length ≤ 5 := varB_pow 4 n (by omega)
theorem vaT_size {n : Nat} (h : n ≤ 1000000000) : (vaT n).size ≤ 5 := varB_le5 h
/-- The piece i of a mask. -/
def lkT (key : ByteArray) (num i : Nat) : ByteArray := macB key (⟨#[109]⟩ ++ vaT num ++ oneB i)
def lkL (key : ByteArray) (num : Nat) : Nat → List UInt8
  | 0 => []
  | i + 1 => lkL key num i ++ (lkT key num i).data.toList
theorem lkL_len (key : ByteArray) (num i : Nat) : (lkL key num i).length = 32 * i := by
  induction i with
  | zero => rfl
  | succ i ih =>
    show (lkL key num i ++ (lkT key num i).data.toList).length = _
    rw [List.length_append, ih, show (lkT key num i).data.toList.length = 32 from macB_size _ _]
    omega
theorem lkL_pre (key : ByteArray) (num : Nat) (i k : Nat) : ∃ l, lkL key num (i + k) = lkL key num i ++ l := by
  induction k with
  | zero => exact ⟨[], by simp⟩
  | succ k ih =>
    obtain ⟨l, hl⟩ := ih
    exact ⟨l ++ (lkT key num (i + k)).data.toList, by rw [← List.append_assoc, ← hl]; rfl⟩
def lkB (key : ByteArray) (num n : Nat) : ByteArray := ⟨((lkL key num ((n + 31) / 32)).take n).toArray⟩
theorem lkB_size (key : ByteArray) (num n : Nat) : (lkB key num n).size = n := by
  show ((lkL key num ((n + 31) / 32)).take n).toArray.size = n
  rw [List.size_toArray, List.length_take, lkL_len]
  omega
/-- A shorter mask begins a longer one. -/
theorem lkB_begins (key : ByteArray) (num n m : Nat) (h : n ≤ m) : (lkB key num m).extract 0 n = lkB key num n := by
  obtain ⟨k, hk⟩ : ∃ k, (m + 31) / 32 = (n + 31) / 32 + k := ⟨(m + 31) / 32 - (n + 31) / 32, by omega⟩
  obtain ⟨l, hl⟩ := lkL_pre key num ((n + 31) / 32) k
  apply ByteArray.ext
  apply Array.toList_inj.1
  rw [ByteArray.data_extract, Array.toList_extract]
  show (((lkL key num ((m + 31) / 32)).take m).toArray.toList).extract 0 n = ((lkL key num ((n + 31) / 32)).take n).toArray.toList
  rw [hk, hl]
  simp only [List.extract_eq_take_drop, List.drop_zero, Nat.sub_zero]
  rw [List.take_take, Nat.min_eq_left h, List.take_append_of_le_length (by rw [lkL_len]; omega)]
def xoL (a b : List UInt8) : List UInt8 := List.zipWith (fun x y => x ^^^ y) a b
def xoB (a b : ByteArray) : ByteArray := ⟨(xoL a.data.toList b.data.toList).toArray⟩
theorem xoL_len (a b : List UInt8) (h : a.length ≤ b.length) : (xoL a b).length = a.length := by
  unfold xoL
  rw [List.length_zipWith]
  omega
theorem xoB_size (a b : ByteArray) (h : a.size ≤ b.size) : (xoB a b).size = a.size := by
  show (xoL a.data.toList b.data.toList).toArray.size = a.size
  rw [List.size_toArray, xoL_len _ _ h]
  rfl
theorem xoL_twice (a b : List UInt8) (h : a.length ≤ b.length) : xoL (xoL a b) b = a := by
  induction a generalizing b with
  | nil => rfl
  | cons x a ih =>
    cases b with
    | nil => exact absurd h (by simp)
    | cons y b =>
      show ((x ^^^ y) ^^^ y) :: xoL (xoL a b) b = x :: a
      rw [ih b (by simpa using h)]
      congr 1
      rw [UInt8.xor_assoc, UInt8.xor_self, UInt8.xor_zero]
theorem xoB_twice (a b : ByteArray) (h : a.size ≤ b.size) : xoB (xoB a b) b = a := by
  unfold xoB
  show (⟨(xoL (xoL a.data.toList b.data.toList) b.data.toList).toArray⟩ : ByteArray) = a
  rw [xoL_twice _ _ h]
def tgB (key : ByteArray) (num : Nat) (s : ByteArray) : ByteArray := (macB key (⟨#[116]⟩ ++ vaT num ++ s)).extract 0 16
theorem tgB_size (key : ByteArray) (num : Nat) (s : ByteArray) : (tgB key num s).size = 16 := by
  unfold tgB
  rw [ByteArray.size_extract, macB_size]
  rfl
def numIn (z : Int) : Prop := 0 ≤ z ∧ z ≤ 1000000000
instance (z : Int) : Decidable (numIn z) := by unfold numIn; exact inferInstance
/-- What Mask answers. -/
def mkOk (z n : Int) : Bool := decide (numIn z) && decide (0 ≤ n ∧ n ≤ 8000)
def mkB (key : ByteArray) (z n : Int) : ByteArray := if mkOk z n = true then lkB key z.toNat n.toNat else ⟨#[]⟩
def loOk (z : Int) (s : ByteArray) : Bool := decide (numIn z) && decide (s.size ≤ 8000)
def loB (key : ByteArray) (z : Int) (s : ByteArray) : ByteArray :=
  if loOk z s = true then xoB s (lkB key z.toNat s.size) ++ tgB key z.toNat (xoB s (lkB key z.toNat s.size)) else ⟨#[]⟩
def opX (t : ByteArray) : ByteArray := t.extract 0 (t.size - 16)
def opT (t : ByteArray) : ByteArray := t.extract (t.size - 16) t.size
def opOk (key : ByteArray) (z : Int) (t : ByteArray) : Bool := decide (16 ≤ t.size) && (loOk z (opX t) && decide (tgB key z.toNat (opX t) = opT t))
def opB (key : ByteArray) (z : Int) (t : ByteArray) : ByteArray := if opOk key z t = true then xoB (opX t) (lkB key z.toNat (opX t).size) else ⟨#[]⟩
theorem opX_size {t : ByteArray} (h : 16 ≤ t.size) : (opX t).size = t.size - 16 := by unfold opX; rw [ByteArray.size_extract]; omega
theorem op_parts {key : ByteArray} {z : Int} {t : ByteArray} (h : opOk key z t = true) : 16 ≤ t.size ∧ loOk z (opX t) = true ∧ tgB key z.toNat (opX t) = opT t := by
  unfold opOk at h
  rw [Bool.and_eq_true, Bool.and_eq_true] at h
  exact ⟨of_decide_eq_true h.1, h.2.1, of_decide_eq_true h.2.2⟩
theorem loB_is {key : ByteArray} {z : Int} {s : ByteArray} (h : loOk z s = true) : loB key z s = xoB s (lkB key z.toNat s.size) ++ tgB key z.toNat (xoB s (lkB key z.toNat s.size)) := by unfold loB; rw [if_pos h]
theorem opB_is {key : ByteArray} {z : Int} {t : ByteArray} (h : opOk key z t = true) : opB key z t = xoB (opX t) (lkB key z.toNat (opX t).size) := by unfold opB; rw [if_pos h]
theorem loB_size {key : ByteArray} {z : Int} {s : ByteArray} (h : loOk z s = true) : (loB key z s).size = s.size + 16 := by
  rw [loB_is h, ByteArray.size_append, tgB_size, xoB_size _ _ (by rw [lkB_size]; exact Nat.le_refl _)]
theorem loOk_size {z : Int} {a b : ByteArray} (h : a.size = b.size) : loOk z a = loOk z b := by unfold loOk; rw [h]
theorem cut_two (a b : ByteArray) (hb : b.size = 16) : opX (a ++ b) = a ∧ opT (a ++ b) = b := by
  have hs : (a ++ b).size = a.size + 16 := by rw [ByteArray.size_append, hb]
  unfold opX opT
  rw [hs, Nat.add_sub_cancel]
  refine ⟨ByteArray.extract_append_eq_left rfl, ByteArray.extract_append_eq_right rfl (by rw [hb])⟩
/-- What is locked is opened. -/
theorem op_lo {key : ByteArray} {z : Int} {s : ByteArray} (h : loOk z s = true) : opOk key z (loB key z s) = true ∧ opB key z (loB key z s) = s := by
  have hx : (xoB s (lkB key z.toNat s.size)).size = s.size := xoB_size _ _ (by rw [lkB_size]; exact Nat.le_refl _)
  obtain ⟨e1, e2⟩ := cut_two (xoB s (lkB key z.toNat s.size)) _ (tgB_size key z.toNat (xoB s (lkB key z.toNat s.size)))
  rw [← loB_is h] at e1 e2
  have ho : opOk key z (loB key z s) = true := by
    unfold opOk
    rw [e1, e2, loOk_size hx, h, decide_eq_true (show 16 ≤ (loB key z s).size by rw [loB_size h]; omega), decide_eq_true rfl]
    rfl
  refine ⟨ho, ?_⟩
  rw [opB_is ho, e1, hx]
  exact xoB_twice _ _ (by rw [lkB_size]; exact Nat.le_refl _)
/-- What is opened was locked so. -/
theorem lo_op {key : ByteArray} {z : Int} {t : ByteArray} (h : opOk key z t = true) : loOk z (opB key z t) = true ∧ loB key z (opB key z t) = t := by
  obtain ⟨h1, h2, h3⟩ := op_parts h
  have hx : (opB key z t).size = (opX t).size := by rw [opB_is h]; exact xoB_size _ _ (by rw [lkB_size]; exact Nat.le_refl _)
  have hl : loOk z (opB key z t) = true := by rw [loOk_size hx]; exact h2
  refine ⟨hl, ?_⟩
  rw [loB_is hl, hx, opB_is h, xoB_twice _ _ (by rw [lkB_size]; exact Nat.le_refl _), h3]
  unfold opX opT
  rw [ByteArray.extract_append_extract, Nat.min_eq_left (by omega), Nat.max_eq_right (by omega)]
  exact ByteArray.extract_zero_size
end Go.Proofs.Ytinnaajkdkfnaab

/- The number whose bytes stand in a text: the mathematics, of no program. -/
namespace Go.Proofs.Ytinnaajkdkfnaab

/-- What is read from place i on, when the bytes from the place at on gave n so far, and the next counts u (f: how many may come). -/
def rvF (s : ByteArray) (at' : Nat) : Nat → Nat → Nat → Nat → Option (Nat × Nat)
  | 0, _, _, _ => none
  | f + 1, i, u, n =>
    if h : i < s.size ∧ i < at' + 5 then
      if 127 < s[i].toNat then rvF s at' f (i + 1) (u * 128) (n + s[i].toNat % 128 * u)
      else if (s[i].toNat = 0 ∧ at' < i) ∨ 1000000000 < n + s[i].toNat % 128 * u then none
      else some (n + s[i].toNat % 128 * u, i + 1)
    else none
def rvRun (s : ByteArray) (at' i u n : Nat) : Option (Nat × Nat) := rvF s at' (s.size - i) i u n

theorem rvRun_out {s : ByteArray} {a i u n : Nat} (h : ¬ (i < s.size ∧ i < a + 5)) : rvRun s a i u n = none := by
  unfold rvRun
  cases s.size - i with
  | zero => rfl
  | succ f => rw [rvF, dif_neg h]
theorem rvRun_in {s : ByteArray} {a i u n : Nat} (h : i < s.size) (h5 : i < a + 5) :
    rvRun s a i u n = if 127 < s[i].toNat then rvRun s a (i + 1) (u * 128) (n + s[i].toNat % 128 * u)
      else if (s[i].toNat = 0 ∧ a < i) ∨ 1000000000 < n + s[i].toNat % 128 * u then none else some (n + s[i].toNat % 128 * u, i + 1) := by
  unfold rvRun
  rw [show s.size - i = (s.size - (i + 1)) + 1 by omega, rvF, dif_pos ⟨h, h5⟩]
theorem rvRun_on {s : ByteArray} {a i u n : Nat} (h : i < s.size) (h5 : i < a + 5) (hb : 127 < s[i].toNat) :
    rvRun s a i u n = rvRun s a (i + 1) (u * 128) (n + s[i].toNat % 128 * u) := by
  rw [rvRun_in h h5, if_pos hb]
theorem rvRun_no {s : ByteArray} {a i u n : Nat} (h : i < s.size) (h5 : i < a + 5) (hb : ¬ 127 < s[i].toNat) (hn : (s[i].toNat = 0 ∧ a < i) ∨ 1000000000 < n + s[i].toNat % 128 * u) :
    rvRun s a i u n = none := by
  rw [rvRun_in h h5, if_neg hb, if_pos hn]
theorem rvRun_yes {s : ByteArray} {a i u n : Nat} (h : i < s.size) (h5 : i < a + 5) (hb : ¬ 127 < s[i].toNat) (hn : ¬ ((s[i].toNat = 0 ∧ a < i) ∨ 1000000000 < n + s[i].toNat % 128 * u)) :
    rvRun s a i u n = some (n + s[i].toNat % 128 * u, i + 1) := by
  rw [rvRun_in h h5, if_neg hb, if_neg hn]

theorem rv_cast (n b u : Nat) : (n : Int) + (b : Int) % 128 * (u : Int) = ((n + b % 128 * u : Nat) : Int) := by push_cast; rfl

/-- Where it stands behind i - a bytes that go on. -/
structure RvAt (s : ByteArray) (a i u n : Nat) : Prop where
  unit : u = 128 ^ (i - a)
  less : n < u
  bytes : ∀ m, 1 ≤ m → varB (n + m * u) = (s.data.toList.drop a).take (i - a) ++ varB m
  zero : i = a → n = 0
  same : rvRun s a i u n = rvRun s a a 1 0

theorem RvAt.start (s : ByteArray) (a : Nat) : RvAt s a a 1 0 :=
  ⟨by simp, by omega, fun m _ => by simp, fun _ => rfl, rfl⟩

theorem RvAt.bound {s : ByteArray} {a i u n : Nat} (h : RvAt s a i u n) (h5 : i ≤ a + 5) (ha : a ≤ i) : u ≤ 34359738368 ∧ (i < a + 5 → u ≤ 268435456) ∧ (¬ i < a + 5 → u = 34359738368) := by
  have := h.unit
  obtain ⟨k, rfl⟩ : ∃ k, i = a + k := ⟨i - a, by omega⟩
  have hk : k ≤ 5 := by omega
  simp only [Nat.add_sub_cancel_left] at this
  have : k = 0 ∨ k = 1 ∨ k = 2 ∨ k = 3 ∨ k = 4 ∨ k = 5 := by omega
  rcases this with rfl | rfl | rfl | rfl | rfl | rfl <;> simp at * <;> omega

theorem take_step (s : ByteArray) (a i : Nat) (ha : a ≤ i) (h : i < s.size) : (s.data.toList.drop a).take (i + 1 - a) = (s.data.toList.drop a).take (i - a) ++ [s[i]] := by
  have e : i + 1 - a = (i - a) + 1 := by omega
  have hl : i - a < (s.data.toList.drop a).length := by
    have : s.data.toList.length = s.size := rfl
    simp only [List.length_drop, this]; omega
  rw [e, List.take_succ_eq_append_getElem hl]
  congr 2
  rw [List.getElem_drop]
  have : a + (i - a) = i := by omega
  simp only [this]
  rfl

theorem RvAt.next {s : ByteArray} {a i u n : Nat} (h : RvAt s a i u n) (ha : a ≤ i) (hi : i < s.size) (h5 : i < a + 5) (hb : 127 < s[i].toNat) :
    RvAt s a (i + 1) (u * 128) (n + s[i].toNat % 128 * u) := by
  have hlt : s[i].toNat < 256 := s[i].toNat_lt
  refine ⟨?_, ?_, ?_, fun e => by omega, ?_⟩
  · rw [h.unit, show i + 1 - a = (i - a) + 1 by omega, Nat.pow_succ]
  · have := h.less
    have h2 : s[i].toNat % 128 ≤ 127 := by omega
    have := Nat.mul_le_mul_right u h2
    omega
  · intro m hm
    have e : n + s[i].toNat % 128 * u + m * (u * 128) = n + (s[i].toNat % 128 + 128 * m) * u := by
      rw [Nat.add_mul, ← Nat.mul_assoc, Nat.mul_comm (m * u) 128, Nat.mul_assoc 128 m u]; omega
    rw [e, h.bytes _ (by omega), take_step s a i ha hi, varB_big (by omega)]
    have e1 : (s[i].toNat % 128 + 128 * m) % 128 + 128 = s[i].toNat := by omega
    have e2 : (s[i].toNat % 128 + 128 * m) / 128 = m := by omega
    rw [e1, e2]
    have e3 : byteOf s[i].toNat = s[i] := by unfold byteOf; simp
    rw [e3]
    simp
  · rw [← h.same, rvRun_on hi h5 hb]

theorem varB_end0 : ∀ (p : List UInt8) (n : Nat), varB n = p ++ [0] → p = [] := by
  intro p
  induction p with
  | nil => intro n _; rfl
  | cons b t ih =>
    intro n h
    exfalso
    by_cases hn : n ≤ 127
    · rw [varB_small hn] at h
      simp at h
    · rw [varB_big hn] at h
      simp only [List.cons_append, List.cons.injEq] at h
      have ht := ih _ h.2
      subst ht
      simp only [List.nil_append] at h
      by_cases hm : n / 128 ≤ 127
      · rw [varB_small hm] at h
        have := h.2
        simp only [List.cons.injEq, and_true] at this
        have := congrArg UInt8.toNat this
        rw [byteOf_toNat (by omega)] at this
        simp at this
        omega
      · have hv := varB_big hm
        have := varB_len (n / 128 / 128)
        have h2 := congrArg List.length h.2
        rw [hv] at h2
        simp only [List.length_cons, List.length_nil] at h2
        omega

/-- The bytes that were met are the number's own just where no longer form stands there. -/
theorem RvAt.own {s : ByteArray} {a i u n : Nat} (h : RvAt s a i u n) (ha : a ≤ i) (hi : i < s.size) (hb : ¬ 127 < s[i].toNat) :
    varB (n + s[i].toNat % 128 * u) = (s.data.toList.drop a).take (i + 1 - a) ↔ ¬ (s[i].toNat = 0 ∧ a < i) := by
  have hm : s[i].toNat % 128 = s[i].toNat := by omega
  rw [take_step s a i ha hi, hm]
  have e3 : byteOf s[i].toNat = s[i] := by unfold byteOf; simp
  constructor
  · intro hv hz
    have e0 : s[i] = 0 := by
      apply UInt8.toNat_inj.1; rw [hz.1]; rfl
    rw [e0] at hv
    have := varB_end0 _ _ hv
    have hl := congrArg List.length this
    have : s.data.toList.length = s.size := rfl
    simp only [List.length_take, List.length_drop, this, List.length_nil] at hl
    omega
  · intro hz
    by_cases h0 : s[i].toNat = 0
    · have hia : i = a := by omega
      have hn := h.zero hia
      rw [h0, hn]
      simp only [Nat.zero_mul, Nat.add_zero]
      subst hia
      rw [Nat.sub_self, List.take_zero, List.nil_append, varB_small (by omega), ← e3, h0]
    · rw [h.bytes _ (by omega), varB_small (by omega), e3]

theorem extract_toList (s : ByteArray) (a b : Nat) : (s.extract a b).toList = (s.data.toList.drop a).take (b - a) := by
  rw [ByteArray.toList_eq, ByteArray.data_extract]
  simp

theorem RvAt.test {s : ByteArray} {a i u n : Nat} (h : RvAt s a i u n) (ha : a ≤ i) (hi : i < s.size) (hb : ¬ 127 < s[i].toNat) :
    (¬ (s[i].toNat = 0 ∧ a < i) → (!(varB (n + s[i].toNat % 128 * u) == (s.extract a (i + 1)).toList)) = false) ∧ ((s[i].toNat = 0 ∧ a < i) → (!(varB (n + s[i].toNat % 128 * u) == (s.extract a (i + 1)).toList)) = true) := by
  rw [extract_toList]
  have := h.own ha hi hb
  constructor
  · intro hz; rw [Bool.not_eq_false', beq_iff_eq]; exact this.2 hz
  · intro hz; rw [Bool.not_eq_true', beq_eq_false_iff_ne]; intro e; exact (this.1 e) hz
end Go.Proofs.Ytinnaajkdkfnaab

/- What spec.ReadVar and impl.ReadVar come to, over the loaded program. -/
namespace Go.Proofs.Ytinnaajkdkfnaab
open Go.RowKit

/-- The three results of ReadVar. -/
def rvTup : Option (Nat × Nat) → Value
  | none => .tuple #[.int .i64 0, .int .i64 0, .bool false]
  | some (n, j) => .tuple #[.int .i64 (n : Int), .int .i64 (j : Int), .bool true]

theorem rvTup_none {x : Option (Nat × Nat)} (h : x = none) : Ending.returned (.tuple #[.int .i64 0, .int .i64 0, .bool false]) = .returned (rvTup x) := by subst h; rfl
theorem rvTup_some {x : Option (Nat × Nat)} {n j : Nat} (h : x = some (n, j)) : Ending.returned (.tuple #[.int .i64 (n : Int), .int .i64 (j : Int), .bool true]) = .returned (rvTup x) := by subst h; rfl

set_option maxRecDepth 20000 in
set_option maxHeartbeats 400000 in
theorem implReadVar_no (s : ByteArray) (p : Int) (w : World) (hp : p < 0 ∨ (s.size : Int) < p) :
    Calls Try.prog 29 #[.string s, .int .i64 p] w fun e w' => e = .returned (rvTup none) ∧ w' = w := by
  by_cases h0 : p < 0
  · go_enter Try.func29, Try.ntmps29
    go_wp2
    go_ret3
    exact ⟨rfl, rfl⟩
  · have h1 : (s.size : Int) < p := by omega
    go_enter Try.func29, Try.ntmps29
    go_wp2
    go_ret3
    exact ⟨rfl, rfl⟩

set_option maxRecDepth 20000 in
set_option maxHeartbeats 400000 in
theorem implReadVar_yes (s : ByteArray) (p : Nat) (w : World) (hs : s.size ≤ maxLen) (hp : p ≤ s.size) :
    Calls Try.prog 29 #[.string s, .int .i64 p] w fun e w' => e = .returned (rvTup (rvRun s p p 1 0)) ∧ w' = w := by
  unfold maxLen at hs
  have h0 : ¬ (p : Int) < 0 := by omega
  have h1 : ¬ (s.size : Int) < (p : Int) := by omega
  go_enter Try.func29, Try.ntmps29
  go_wp2
  go_loop [7, 8, 9] (fun tn ti tu => ∃ i u n : Nat, p ≤ i ∧ i ≤ p + 5 ∧ i ≤ s.size ∧ RvAt s p i u n ∧ tn = .int .i64 n ∧ ti = .int .i64 i ∧ tu = .int .i64 u) (fun _ ti _ => s.size - (intOf ti).toNat)
  case atStart => exact ⟨p, 1, 0, Nat.le_refl _, by omega, hp, RvAt.start s p, rfl, rfl, rfl⟩
  case round =>
    obtain ⟨i, u, n, hpi, hi5, his, hat, rfl, rfl, rfl⟩ := hrel
    obtain ⟨hu, hu4, hu5⟩ := hat.bound hi5 hpi
    have hless := hat.less
    by_cases hlt : i < s.size
    · have hbb : s[i].toNat < 256 := s[i].toNat_lt
      by_cases h5 : i < p + 5
      · have hu4' := hu4 h5
        have hu6 : (u : Int) ≤ 1000000000 := by omega
        have hq0 : (0 : Int) ≤ (s[i].toNat : Int) % 128 * (u : Int) := Int.mul_nonneg (by omega) (by omega)
        have hq1 : (s[i].toNat : Int) % 128 * (u : Int) ≤ 34091302912 := Int.le_trans (Int.mul_le_mul (show (s[i].toNat : Int) % 128 ≤ 127 by omega) (show (u : Int) ≤ 268435456 by omega) (by omega) (by omega)) (by omega)
        clear hu hu4 hu5
        by_cases hb : 127 < s[i].toNat
        · have hx := hat.next hpi hlt h5 hb
          go_wp2
          go_round
          case rel => exact ⟨i + 1, u * 128, n + s[i].toNat % 128 * u, by omega, by omega, by omega, hx, by go_num, by go_num, by go_num⟩
          case measure => simp [intOf]; omega
        · by_cases hz : s[i].toNat = 0 ∧ p < i
          · have hz1 : ((s[i].toNat : Int) == 0) = true := by rw [beq_iff_eq]; omega
            have hz2 : (p : Int) < (i : Int) := by omega
            have hfin := rvRun_no (u := u) (n := n) hlt h5 hb (.inl hz)
            rw [hat.same] at hfin
            have HF := hide hfin
            clear hfin hz
            go_wp2
            go_ret3
            exact ⟨rvTup_none (unhide HF), rfl⟩
          · by_cases hbig : 1000000000 < n + s[i].toNat % 128 * u
            · have hfin := rvRun_no (u := u) (n := n) hlt h5 hb (.inr hbig)
              rw [hat.same] at hfin
              have HF := hide hfin
              have hbig' : (1000000000 : Int) < (n : Int) + (s[i].toNat : Int) % 128 * (u : Int) := by rw [rv_cast]; omega
              clear hfin hbig
              by_cases hz0 : s[i].toNat = 0
              · have hz1 : ((s[i].toNat : Int) == 0) = true := by rw [beq_iff_eq]; omega
                have hz2 : ¬ (p : Int) < (i : Int) := by omega
                clear hz hz0
                go_wp2
                go_ret3
                exact ⟨rvTup_none (unhide HF), rfl⟩
              · have hz1 : ((s[i].toNat : Int) == 0) = false := by rw [beq_eq_false_iff_ne]; omega
                clear hz hz0
                go_wp2
                go_ret3
                exact ⟨rvTup_none (unhide HF), rfl⟩
            · have hfin := rvRun_yes (u := u) (n := n) hlt h5 hb (by omega)
              rw [hat.same] at hfin
              have HF := hide hfin
              have hbig' : ¬ (1000000000 : Int) < (n : Int) + (s[i].toNat : Int) % 128 * (u : Int) := by rw [rv_cast]; omega
              clear hfin hbig
              by_cases hz0 : s[i].toNat = 0
              · have hz1 : ((s[i].toNat : Int) == 0) = true := by rw [beq_iff_eq]; omega
                have hz2 : ¬ (p : Int) < (i : Int) := by omega
                clear hz hz0
                go_wp2
                go_ret3
                exact ⟨rvTup_some (unhide HF), rfl⟩
              · have hz1 : ((s[i].toNat : Int) == 0) = false := by rw [beq_eq_false_iff_ne]; omega
                clear hz hz0
                go_wp2
                go_ret3
                exact ⟨rvTup_some (unhide HF), rfl⟩
      · have hu6 : ¬ (u : Int) ≤ 1000000000 := by have := hu5 h5; omega
        clear hu hu4 hu5
        go_wp2
        go_ret3
        exact ⟨rvTup_none (by rw [← hat.same, rvRun_out (by omega)]), rfl⟩
    · clear hu4 hu5
      go_wp2
      go_ret3
      exact ⟨rvTup_none (by rw [← hat.same, rvRun_out (by omega)]), rfl⟩

end Go.Proofs.Ytinnaajkdkfnaab

/- What spec.ReadVar comes to, over the loaded program. -/
namespace Go.Proofs.Ytinnaajkdkfnaab
open Go.RowKit

set_option maxRecDepth 20000 in
set_option maxHeartbeats 400000 in
theorem specReadVar_no (s : ByteArray) (p : Int) (w : World) (hp : p < 0 ∨ (s.size : Int) < p) :
    Calls Try.prog 7 #[.string s, .int .i64 p] w fun e w' => e = .returned (rvTup none) ∧ w' = w := by
  go_enter Try.func7, Try.ntmps7
  go_wp2_with (go_at_call 15; refine (l01In_no _ _ _ _ hp).mono ?_; rintro e w' ⟨rfl, rfl⟩)
  go_ret3
  exact ⟨rfl, rfl⟩

theorem l01Var_at (x : Int) (m : Nat) (hx : x = (m : Int)) (w : World) (hm : m ≤ 1000000000) :
    Calls Try.prog 16 #[.int .i64 x] w fun e w' => e = .returned (.string ⟨(varB m).toArray⟩) ∧ Below w.heap.size w w' := by
  subst hx; exact l01Var_any m w hm

set_option maxRecDepth 20000 in
set_option maxHeartbeats 1000000 in
theorem specReadVar_yes (s : ByteArray) (p : Nat) (w : World) (hs : s.size ≤ 1048576) (hp : p ≤ s.size) :
    Calls Try.prog 7 #[.string s, .int .i64 p] w fun e w' => e = .returned (rvTup (rvRun s p p 1 0)) ∧ Below w.heap.size w w' := by
  go_enter Try.func7, Try.ntmps7
  go_wp2_with (go_at_call 15; refine (l01In_yes _ _ _ _ (by omega) (by omega)).mono ?_; rintro e w' ⟨rfl, rfl⟩)
  go_loop [7, 8, 9] (fun tn tu ti => ∃ i u n : Nat, p ≤ i ∧ i ≤ p + 5 ∧ i ≤ s.size ∧ RvAt s p i u n ∧ tn = .int .i64 n ∧ ti = .int .i64 i ∧ tu = .int .i64 u) (fun _ _ ti => s.size - (intOf ti).toNat)
  case atStart => exact ⟨p, 1, 0, Nat.le_refl _, by omega, hp, RvAt.start s p, rfl, rfl, rfl⟩
  case round =>
    obtain ⟨i, u, n, hpi, hi5, his, hat, rfl, rfl, rfl⟩ := hrel
    obtain ⟨hu, hu4, hu5⟩ := hat.bound hi5 hpi
    have hless := hat.less
    by_cases hlt : i < s.size
    · have hbb : s[i].toNat < 256 := s[i].toNat_lt
      by_cases h5 : i < p + 5
      · have hu4' := hu4 h5
        have h5' : (i : Int) < (p : Int) + 5 := by omega
        have hq0 : (0 : Int) ≤ (s[i].toNat : Int) % 128 * (u : Int) := Int.mul_nonneg (by omega) (by omega)
        have hq1 : (s[i].toNat : Int) % 128 * (u : Int) ≤ 34091302912 := Int.le_trans (Int.mul_le_mul (show (s[i].toNat : Int) % 128 ≤ 127 by omega) (show (u : Int) ≤ 268435456 by omega) (by omega) (by omega)) (by omega)
        clear hu hu4 hu5
        by_cases hb : 127 < s[i].toNat
        · have hx := hat.next hpi hlt h5 hb
          have hb' : ¬ (s[i].toNat : Int) < 128 := by omega
          go_wp2
          go_round
          case rel => exact ⟨i + 1, u * 128, n + s[i].toNat % 128 * u, by omega, by omega, by omega, hx, by go_num, by go_num, by go_num⟩
          case measure => simp [intOf]; omega
        · have hb' : (s[i].toNat : Int) < 128 := by omega
          by_cases hbig : 1000000000 < n + s[i].toNat % 128 * u
          · have hbig' : (1000000000 : Int) < (n : Int) + (s[i].toNat : Int) % 128 * (u : Int) := by rw [rv_cast]; omega
            have hfin := rvRun_no (u := u) (n := n) hlt h5 hb (.inr hbig)
            rw [hat.same] at hfin
            have HF := hide hfin
            clear hfin hbig
            go_wp2
            go_region
            all_goals
              go_wp2
              go_ret3
              exact ⟨rvTup_none (unhide HF), (Below.refl _ _).drew⟩
          · have hbig' : decide ((1000000000 : Int) < (n : Int) + (s[i].toNat : Int) % 128 * (u : Int)) = false := by rw [rv_cast, decide_eq_false_iff_not]; omega
            have hw1 : IntKind.i64.wrap ((i : Int) + 1) = (i : Int) + 1 := by rw [IntKind.wrap_i64]; omega
            have hi1 : (p : Int) ≤ (i : Int) + 1 := by omega
            have hi2 : (i : Int) + 1 ≤ (s.size : Int) := by omega
            have hi3 : (0 : Int) ≤ (p : Int) := by omega
            go_wp2
            go_region_held3 (fun _ => True) (trivial) (first | (go_at_call 16; refine (l01Var_at _ (n + s[i].toNat % 128 * u) (rv_cast _ _ _) _ (by omega)).mono ?_; rintro e w1 ⟨rfl, hb1⟩))
            clear hw1 hi1 hi2 hi3 hbig'
            by_cases hz : s[i].toNat = 0 ∧ p < i
            · have ht := (hat.test hpi hlt hb).2 hz
              have hfin := rvRun_no (u := u) (n := n) hlt h5 hb (.inl hz)
              rw [hat.same] at hfin
              have HF := hide hfin
              clear hfin hz hbig hq0 hq1
              go_wp2
              all_goals first
                | (rename_i hx; rw [ht] at hx; exact absurd hx (by decide))
                | (go_ret3; exact ⟨rvTup_none (unhide HF), ((Below.refl _ w').drew).trans hb1⟩)
            · have ht := (hat.test hpi hlt hb).1 hz
              have hfin := rvRun_yes (u := u) (n := n) hlt h5 hb (by omega)
              rw [hat.same] at hfin
              have HF := hide hfin
              clear hfin hz hbig hq0 hq1
              go_wp2
              all_goals first
                | (rename_i hx; rw [ht] at hx; exact absurd hx (by decide))
                | (go_ret3; exact ⟨rvTup_some (unhide HF), ((Below.refl _ w').drew).trans hb1⟩)
      · have h5' : ¬ (i : Int) < (p : Int) + 5 := by omega
        clear hu hu4 hu5
        go_wp2
        go_ret3
        exact ⟨rvTup_none (by rw [← hat.same, rvRun_out (by omega)]), Below.refl _ _⟩
    · clear hu4 hu5
      go_wp2
      go_ret3
      exact ⟨rvTup_none (by rw [← hat.same, rvRun_out (by omega)]), Below.refl _ _⟩

end Go.Proofs.Ytinnaajkdkfnaab

/- Masks, tags and the exclusive or of texts by the given model, over the loaded program. -/
namespace Go.Proofs.Ytinnaajkdkfnaab
open Go.RowKit
set_option maxRecDepth 20000 in
set_option maxHeartbeats 800000 in
theorem specLk_yes (key : ByteArray) (hk : key.size ≤ 1048576) (num : Nat) (hnum : num ≤ 1000000000) (n : Nat) (hn : n ≤ 8000) (w : World) :
    Calls Try.prog 11 #[.string key, .int .i64 (num : Int), .int .i64 (n : Int)] w fun e w' => e = .returned (.tuple #[.string (lkB key num n), .bool true]) ∧ Below w.heap.size w w' := by
  obtain ⟨i0, hi, hz0, hz1, hz2⟩ := info_parts Try.infoByte
  have h1 : (0 : Int) ≤ (n : Int) := by omega
  have h2 : (n : Int) ≤ 8000 := by omega
  have h3 : (0 : Int) ≤ (num : Int) := by omega
  have h4 : (num : Int) ≤ 1000000000 := by omega
  go_enter Try.func11, Try.ntmps11
  go_wp2_with fail
  refine (l01In_true (num : Int) 0 1000000000 h3 h4 w).mono ?_
  rintro e w1 ⟨rfl, hw1⟩
  have hw1' := hw1.symm
  subst hw1'
  clear hw1
  go_wp2_with fail
  refine (l01In_true (n : Int) 0 8000 h1 h2 w).mono ?_
  rintro e w1 ⟨rfl, hw1⟩
  have hw1' := hw1.symm
  subst hw1'
  clear hw1
  go_wp2
  go_loopw [8, 9] (fun tv ti wq => ∃ j : Nat, j ≤ (n + 31) / 32 ∧ ti = .int .i64 (j : Int) ∧ Hid (OwnB wq w.heap.size 5 tv (lkL key num j)) ∧ Below w.heap.size w wq) (fun _ ti _ => 1000 - (intOf ti).toNat)
  case atStart => exact ⟨0, by omega, rfl, hide (World.ownsRow_made w #[] 0 (Nat.le_refl _) (by decide) (by simp)), (Below.refl _ _).alloc (Nat.le_refl _) _⟩
  case round =>
    obtain ⟨j, hj, rfl, HO, hb⟩ := hrel
    have hjl := lkL_len key num j
    have hjb : j ≤ 255 := by omega
    obtain ⟨m, hm⟩ : ∃ m, m = 32 * j := ⟨_, rfl⟩
    rw [← hm] at hjl
    by_cases hlt : m < n
    · have hlt' : (m : Int) < (n : Int) := by omega
      obtain ⟨a9, c9, hv9⟩ : ∃ a c, u8 = .slice a m c := by
        have h9 : wr.ownsRow w.heap.size 5 1 u8 (lkL key num j).length ((lkL key num j).map bv) := unhide HO
        rw [hjl] at h9
        rcases h9.2 with ⟨h, h'⟩ | ⟨g, cap, cur, h, _⟩
        · exact ⟨none, 0, by rw [h, h']⟩
        · exact ⟨_, cap, h⟩
      subst hv9
      have hi256 : j < 256 := by omega
      have hs0 := vaT_size hnum
      have hs1 : (oneB j).size ≤ 1 := Nat.le_refl _
      have hs2 : ((⟨#[109]⟩ : ByteArray) ++ vaT num).size ≤ 6 := by rw [ByteArray.size_append]; show 1 + _ ≤ 6; omega
      have CV := hide (fun W => (show Calls Try.prog 16 #[.int .i64 (num : Int)] W fun e w' => e = .returned (.string (vaT num)) ∧ Below W.heap.size W w' from l01Var_any num W hnum))
      have CB := hide (fun W => specByte_any j hi256 W)
      have CM := hide (fun W => specMac_any key ((⟨#[109]⟩ : ByteArray) ++ vaT num ++ oneB j) hk (by rw [ByteArray.size_append]; omega) W)
      rw [show macB key ((⟨#[109]⟩ : ByteArray) ++ vaT num ++ oneB j) = lkT key num j from rfl] at CM
      have hsz := hb.size
      have hTs : (lkT key num j).size = 32 := macB_size _ _
      have HLs := hide (show lkL key num (j + 1) = lkL key num j ++ (lkT key num j).data.toList from rfl)
      generalize oneB j = ob at *
      obtain ⟨tn, htn⟩ : ∃ t, t = lkT key num j := ⟨_, rfl⟩
      rw [← htn] at CM hTs HLs
      replace htn := hide htn
      generalize vaT num = vt at *
      replace hm := hide hm
      go_wp2_with fail
      refine ((unhide CV) wr).mono ?_
      rintro e w1 ⟨rfl, hb1⟩
      go_wp2_with fail
      refine ((unhide CB) w1).mono ?_
      rintro e w2 ⟨rfl, hb2a⟩
      have hb2 := hb1.trans (hb2a.mono hb1.size)
      go_wp2_with fail
      refine ((unhide CM) w2).mono ?_
      rintro e w3 ⟨rfl, hb3⟩
      have hb03 := hb2.trans (hb3.mono hb2.size)
      have hcv := Lib.run_convert_string_bytes (P := Try.prog) w3 9 37 5 tn Try.underlying9 Try.underlying37 Try.underlying5
      have hmb := bytes_mb w3 5 tn
      have hb4 := bytes_below2 w3 5 tn
      generalize grownCap w3 tn.size 0 5 = cp at *
      generalize Lib.bytesWorld w3 5 tn = w4 at *
      have hb04 := hb03.trans (hb4.mono hb03.size)
      have hown4 : w4.ownsRow w.heap.size 5 1 (.slice a9 m c9) m ((lkL key num j).map bv) := by
        have := unhide HO
        unfold OwnB at this
        rw [hjl] at this
        exact World.ownsRow.kept (row := none) this ⟨hb04.os, hb04.tape, hb04.output, hb04.size, fun k hk _ => hb04.block k hk⟩ (by cases hv : (Value.slice a9 m c9).ownBlock <;> simp)
      have hb14 := hb.trans (hb04.mono hsz)
      have hsz4 := hb14.size
      have hnews : ∀ q v, (tn.data.toList.map bv)[q]? = some v → w4.cell? ((⟨w3.heap.size, 0, none⟩ : Addr).add q) = some v := by
        intro q v hq
        have hadd : (⟨w3.heap.size, 0, none⟩ : Addr).add q = ⟨w3.heap.size, q, none⟩ := by unfold Addr.add; split <;> simp_all
        rw [hadd]
        rw [List.getElem?_map] at hq
        cases hb' : tn.data.toList[q]? with
        | none => rw [hb'] at hq; cases hq
        | some b' => rw [hb'] at hq; cases hq; exact hmb.cell hb'
      have hone : ∀ v ∈ tn.data.toList.map bv, v.oneCell' = true := by
        intro v hv
        obtain ⟨x, _, rfl⟩ := List.mem_map.1 hv
        rfl
      have hnl2 : (tn.data.toList.map bv).length = tn.size * 1 := by rw [List.length_map, Nat.mul_one]; rfl
      have h63 : m + tn.size ≤ maxLen := by unfold maxLen; omega
      have hbyt : (m + tn.size) * 1 ≤ 140737488355328 := by omega
      clear hmb hb4 hb04 hb03 hb2 hb2a hb1 hb3 hb HO CV CB CM
      replace hown4 := hide hown4
      replace hnews := hide hnews
      replace hnl2 := hide hnl2
      replace hTs := hide hTs
      go_wp2_with (at_builtin; refine wpList_append_own w4 rfl (.tmp 25) (.tmp 34) 37 rfl w.heap.size 5 i0 (.int .u8 0) 1 1 Try.underlying37 hi hz0 hz1 hz2 rfl (by decide) _ m _ rfl (unhide hown4) ⟨w3.heap.size, 0, none⟩ tn.size cp (tn.data.toList.map bv) rfl (unhide hnl2) (unhide hnews) hone h63 hbyt hsz4 ?_; intro v5 w5 hown5 hg5 _)
      have hb5 := hb14.grown hg5 hsz4 (fun k hk => ((unhide hown4).lt k hk).1)
      have hown6 : OwnB w5 w.heap.size 5 v5 (lkL key num (j + 1)) := by
        unfold OwnB
        rw [unhide HLs, List.length_append, hjl, List.map_append]
        exact hown5
      replace hown6 := hide hown6
      clear hown5 hg5 hown4 hb14 HLs hcv hnews
      go_wp2
      have q2 := unhide hm
      exact ⟨⟨j + 1, by omega, by go_num, hown6, hb5⟩, by simp [intOf]; omega⟩
    · have hlt' : ¬ (m : Int) < (n : Int) := by omega
      have hje : j = (n + 31) / 32 := by omega
      have HB := hide (show lkB key num n = ⟨((lkL key num j).take n).toArray⟩ by unfold lkB; rw [hje])
      have h9 : wr.ownsRow w.heap.size 5 1 u8 m ((lkL key num j).map bv) := by
        have := unhide HO
        unfold OwnB at this
        rw [hjl] at this
        exact this
      have hnl : ((lkL key num j).take n).length = n := by rw [List.length_take, hjl]; omega
      replace hje := hide hje
      replace hm := hide hm
      rcases h9.2 with ⟨hv, hm0⟩ | ⟨g, cap, cur, hv, _, _, hmc, _⟩
      · subst hv
        have hn0 : n = 0 := by omega
        subst hn0
        have hcn := run_convert_bytes_nil (P := Try.prog) wr 37 5 Try.underlying37 Try.underlying5 0 0 9 Try.underlying9
        clear h9 HO
        go_wp2
        refine bodyPost_ret (v := .tuple #[.string ByteArray.empty, .bool true]) (by simp [results, Try.results11, go_sem]) rfl ⟨by rw [unhide HB]; rfl, hb⟩
      · have hcell := h9.cells (g := g) (by rw [hv]; rfl)
        subst hv
        have hcv := run_convert_bytes_back (P := Try.prog) wr 37 9 5 ⟨g, 0, none⟩ cap ((lkL key num j).take n) Try.underlying37 Try.underlying5 Try.underlying9 (fun q hq => by
          apply hcell q
          rw [hnl] at hq
          rw [List.getElem?_map, List.getElem_take, List.getElem?_eq_getElem (by omega)]
          rfl)
        rw [hnl] at hcv
        have hnc : (n : Int) ≤ (cap : Int) := by omega
        clear h9 HO hcell
        go_wp2
        refine bodyPost_ret (v := .tuple #[.string ⟨((lkL key num j).take n).toArray⟩, .bool true]) (by simp [results, Try.results11, go_sem]) rfl ⟨by rw [unhide HB], hb⟩
set_option maxRecDepth 20000 in
set_option maxHeartbeats 400000 in
theorem specTg_any (key : ByteArray) (hk : key.size ≤ 1048576) (num : Nat) (hnum : num ≤ 1000000000) (s : ByteArray) (hs : s.size ≤ 1048576) (w : World) :
    Calls Try.prog 13 #[.string key, .int .i64 (num : Int), .string s] w fun e w' => e = .returned (.string (tgB key num s)) ∧ Below w.heap.size w w' := by
  have hs0 := vaT_size hnum
  have hs2 : ((⟨#[116]⟩ : ByteArray) ++ vaT num).size ≤ 6 := by rw [ByteArray.size_append]; show 1 + _ ≤ 6; omega
  have CV := hide (fun W => (show Calls Try.prog 16 #[.int .i64 (num : Int)] W fun e w' => e = .returned (.string (vaT num)) ∧ Below W.heap.size W w' from l01Var_any num W hnum))
  have CM := hide (fun W => specMac_any key ((⟨#[116]⟩ : ByteArray) ++ vaT num ++ s) hk (by rw [ByteArray.size_append]; omega) W)
  have hT : (macB key ((⟨#[116]⟩ : ByteArray) ++ vaT num ++ s)).size = 32 := macB_size _ _
  have HE := hide (show tgB key num s = (macB key ((⟨#[116]⟩ : ByteArray) ++ vaT num ++ s)).extract 0 16 from rfl)
  generalize tgB key num s = tg at *
  generalize macB key ((⟨#[116]⟩ : ByteArray) ++ vaT num ++ s) = mc at *
  generalize vaT num = vt at *
  have h16 : (16 : Int) ≤ (mc.size : Int) := by omega
  have hcut := fun (W : World) => run_slice_string_h W 9 mc Try.underlying9 .i64 16 (by omega) (by omega)
  go_enter Try.func13, Try.ntmps13
  go_wp2_with fail
  refine ((unhide CV) w).mono ?_
  rintro e w1 ⟨rfl, hb1⟩
  go_wp2_with fail
  refine ((unhide CM) w1).mono ?_
  rintro e w2 ⟨rfl, hb2⟩
  have hb := hb1.trans (hb2.mono hb1.size)
  clear hb1 hb2 CV CM
  go_wp2
  go_ret
  exact ⟨by rw [unhide HE]; rfl, hb⟩
end Go.Proofs.Ytinnaajkdkfnaab

/- The exclusive or of two texts by the given model, over the loaded program. -/
namespace Go.Proofs.Ytinnaajkdkfnaab
open Go.RowKit
theorem MB.frozen9 {w : World} {base g n c : Nat} {e : TypeId} {l : List UInt8} (h : MB w base e (.slice (some ⟨g, 0, none⟩) n c) l) {q : Nat} (hq : q < l.length) : w.frozen? ⟨g, q, none⟩ = false := by
  obtain ⟨g', cap, cur, lo, hi, h1, h2, h3, h4, h5, h6, h7⟩ := h
  simp only [Value.slice.injEq, Option.some.injEq, Addr.mk.injEq] at h1
  obtain ⟨⟨rfl, _⟩, rfl, rfl⟩ := h1
  have := h4 q (by omega)
  simp only [World.frozen?, h3]
  simp
  omega
theorem MB.setb9 {w : World} {base g n c : Nat} {e : TypeId} {l : List UInt8} (h : MB w base e (.slice (some ⟨g, 0, none⟩) n c) l) (q x : Nat) (hx : x < 256) : MB (w.setCell ⟨g, q, none⟩ (.int .u8 (x : Int))) base e (.slice (some ⟨g, 0, none⟩) n c) (l.set q (byteOf x)) := by
  obtain ⟨g', cap, cur, lo, hi, h1, h2, h3, h4, h5, h6, h7⟩ := h
  simp only [Value.slice.injEq, Option.some.injEq, Addr.mk.injEq] at h1
  obtain ⟨⟨rfl, _⟩, rfl, rfl⟩ := h1
  refine ⟨g, c, cur.setIfInBounds q (.int .u8 (x : Int)), lo, hi, by rw [List.length_set], h2, heap_setCell_at w g q cur e _ _ h3, by rw [Array.size_setIfInBounds]; exact h4, by rw [List.length_set]; exact h5, by rw [Array.size_setIfInBounds]; exact h6, ?_⟩
  rw [List.length_set, Array.toList_setIfInBounds, List.take_set, h7, List.map_set]
  simp [bv, byteOf_toNat hx]
/-- The first k are mixed, the others still as they were. -/
def xoP (a b : List UInt8) (k : Nat) : List UInt8 := (xoL a b).take k ++ a.drop k
theorem xoP_len (a b : List UInt8) (k : Nat) (h : a.length ≤ b.length) (hk : k ≤ a.length) : (xoP a b k).length = a.length := by
  unfold xoP
  rw [List.length_append, List.length_take, xoL_len a b h, List.length_drop]
  omega
theorem xoP_at (a b : List UInt8) (k : Nat) (h : a.length ≤ b.length) (hk : k < a.length) : (xoP a b k)[k]? = some a[k] := by
  unfold xoP
  rw [List.getElem?_append_right (by rw [List.length_take, xoL_len a b h]; omega), List.length_take, xoL_len a b h, Nat.min_eq_left (by omega), Nat.sub_self, List.getElem?_drop, Nat.add_zero, List.getElem?_eq_getElem hk]
theorem xoP_set (a b : List UInt8) (k : Nat) (h : a.length ≤ b.length) (hk : k < a.length) : (xoP a b k).set k (byteOf (a[k].toNat ^^^ b[k].toNat)) = xoP a b (k + 1) := by
  have hl : k < (xoL a b).length := by rw [xoL_len a b h]; exact hk
  have hv : (xoL a b)[k] = byteOf (a[k].toNat ^^^ b[k].toNat) := by
    have h0 : (xoL a b)[k] = a[k] ^^^ b[k] := List.getElem_zipWith
    rw [h0]
    apply UInt8.toNat_inj.1
    rw [byteOf_toNat (Nat.xor_lt_two_pow (n := 8) a[k].toNat_lt b[k].toNat_lt), UInt8.toNat_xor]
  unfold xoP
  rw [List.set_append_right _ _ (by rw [List.length_take]; omega), List.length_take, Nat.min_eq_left (by omega), Nat.sub_self, List.drop_eq_getElem_cons hk, List.set_cons_zero, ← hv, ← List.take_append_getElem hl, List.append_assoc]
  rfl
theorem xoP_all (a b : List UInt8) (h : a.length ≤ b.length) : xoP a b a.length = xoL a b := by
  unfold xoP
  rw [List.take_of_length_le (by rw [xoL_len a b h]; exact Nat.le_refl _), List.drop_length, List.append_nil]
set_option maxRecDepth 20000 in
set_option maxHeartbeats 800000 in
theorem specXo_any (a b : ByteArray) (hab : a.size ≤ b.size) (hb9 : b.size ≤ 2000000) (w : World) :
    Calls Try.prog 14 #[.string a, .string b] w fun e w' => e = .returned (.string (xoB a b)) ∧ Below w.heap.size w w' := by
  have hconv := Lib.run_convert_string_bytes (P := Try.prog) w 9 37 5 a Try.underlying9 Try.underlying37 Try.underlying5
  have hmb := bytes_mb w 5 a
  have hb1 := bytes_below2 w 5 a
  generalize grownCap w a.size 0 5 = cap at *
  generalize Lib.bytesWorld w 5 a = w1 at *
  have hLL : a.data.toList.length ≤ b.data.toList.length := hab
  have ha0 : a.data.toList.length = a.size := rfl
  have hP0 : MB w1 w.heap.size 5 (.slice (some ⟨w.heap.size, 0, none⟩) a.size cap) (xoP a.data.toList b.data.toList 0) := by
    have : xoP a.data.toList b.data.toList 0 = a.data.toList := rfl
    rw [this]
    exact hmb
  replace hP0 := hide hP0
  clear hmb
  go_enter Try.func14, Try.ntmps14
  go_wp2
  clear hconv
  go_loopw [6] (fun ti wq => ∃ k : Nat, k ≤ a.size ∧ ti = .int .i64 (k : Int) ∧ Hid (MB wq w.heap.size 5 (.slice (some ⟨w.heap.size, 0, none⟩) a.size cap) (xoP a.data.toList b.data.toList k)) ∧ Below w.heap.size w wq) (fun ti _ => 3000000 - (intOf ti).toNat)
  case atStart => exact ⟨0, by omega, rfl, hP0, hb1⟩
  case round =>
    clear hP0 hb1
    obtain ⟨k, hk, rfl, HM, hb⟩ := hrel
    by_cases hlt : k < a.size
    · have hlt' : (k : Int) < (a.size : Int) := by omega
      have hltb : (k : Int) < (b.size : Int) := by omega
      have hk0 : (0 : Int) ≤ (k : Int) := by omega
      have hkl : k < a.data.toList.length := hlt
      have hkb : k < b.data.toList.length := by omega
      have hset := hide (xoP_set a.data.toList b.data.toList k hLL hkl)
      have c0 := (unhide HM).cell (xoP_at a.data.toList b.data.toList k hLL hkl)
      have f0 := (unhide HM).frozen9 (q := k) (by rw [xoP_len _ _ _ hLL (by omega)]; exact hkl)
      obtain ⟨x, hx⟩ : ∃ x, x = a.data.toList[k].toNat := ⟨_, rfl⟩
      obtain ⟨y, hy⟩ : ∃ y, y = b.data.toList[k].toNat := ⟨_, rfl⟩
      have hxl : x < 256 := by rw [hx]; exact a.data.toList[k].toNat_lt
      have hyl : y < 256 := by rw [hy]; exact b.data.toList[k].toNat_lt
      change wr.cell? ⟨w.heap.size, k, none⟩ = some (.int .u8 (a.data.toList[k].toNat : Int)) at c0
      rw [← hx] at c0
      rw [← hx, ← hy] at hset
      have hyb : y = b[k].toNat := hy
      have ex := hide (u8_xor x y hxl hyl)
      have hxy : x ^^^ y < 256 := Nat.xor_lt_two_pow (n := 8) hxl hyl
      have O2 := (unhide HM).setb9 k (x ^^^ y) hxy
      rw [unhide hset] at O2
      replace O2 := hide O2
      have hb2 := hide (hb.setCell (p := ⟨w.heap.size, k, none⟩) (Nat.le_refl _) (.int .u8 ((x ^^^ y : Nat) : Int)))
      replace hyb := hide hyb
      replace hx := hide hx
      replace hy := hide hy
      clear HM hset hb
      go_wp2
      go_region
      all_goals
        go_wp2
        rw [← unhide hyb, unhide ex]
        exact ⟨⟨k + 1, by omega, by go_num, hide ((unhide O2).below (Below.refl _ _).drew), (unhide hb2).drew⟩, by simp [intOf]; omega⟩
    · have hlt' : ¬ (k : Int) < (a.size : Int) := by omega
      obtain rfl : k = a.size := by omega
      have e9 : xoP a.data.toList b.data.toList a.size = xoL a.data.toList b.data.toList := by rw [← ha0]; exact xoP_all _ _ hLL
      rw [e9] at HM
      have hll : (xoL a.data.toList b.data.toList).length = a.size := xoL_len _ _ hLL
      have hcv := run_convert_bytes_back (P := Try.prog) wr 37 9 5 ⟨w.heap.size, 0, none⟩ cap (xoL a.data.toList b.data.toList) Try.underlying37 Try.underlying5 Try.underlying9 (fun j hj => by
        have hadd : (⟨w.heap.size, 0, none⟩ : Addr).add j = ⟨w.heap.size, j, none⟩ := by unfold Addr.add; split <;> simp_all
        rw [hadd]
        exact (unhide HM).cell (List.getElem?_eq_getElem hj))
      rw [hll] at hcv
      rw [show (⟨(xoL a.data.toList b.data.toList).toArray⟩ : ByteArray) = xoB a b from rfl] at hcv
      clear HM
      go_wp2
      go_ret
      exact ⟨rfl, hb⟩
end Go.Proofs.Ytinnaajkdkfnaab

/- Locking by the given model, over the loaded program. -/
namespace Go.Proofs.Ytinnaajkdkfnaab
open Go.RowKit
theorem lo_parts {z : Int} {s : ByteArray} (h : loOk z s = true) : ∃ num : Nat, z = (num : Int) ∧ num ≤ 1000000000 ∧ s.size ≤ 8000 := by
  unfold loOk at h
  rw [Bool.and_eq_true] at h
  have h1 : numIn z := of_decide_eq_true h.1
  have h2 : s.size ≤ 8000 := of_decide_eq_true h.2
  unfold numIn at h1
  exact ⟨z.toNat, by omega, by omega, h2⟩
theorem lo_not {z : Int} {s : ByteArray} (h : ¬ loOk z s = true) : (z < 0 ∨ 1000000000 < z) ∨ (8000 : Int) < (s.size : Int) := by
  refine Decidable.by_contra fun hc => h ?_
  unfold loOk
  rw [decide_eq_true (show numIn z by unfold numIn; omega), decide_eq_true (show s.size ≤ 8000 by omega)]
  rfl
set_option maxRecDepth 20000 in
set_option maxHeartbeats 400000 in
theorem specLk_no (key : ByteArray) (z n : Int) (hz : (z < 0 ∨ 1000000000 < z) ∨ (n < 0 ∨ 8000 < n)) (w : World) :
    Calls Try.prog 11 #[.string key, .int .i64 z, .int .i64 n] w fun e w' => e = .returned (.tuple #[.string ⟨#[]⟩, .bool false]) ∧ Below w.heap.size w w' := by
  by_cases h : z < 0 ∨ 1000000000 < z
  · go_enter Try.func11, Try.ntmps11
    go_wp2_with fail
    refine (l01In_no z 0 1000000000 w h).mono ?_
    rintro e w1 ⟨rfl, hw1⟩
    have hw1' := hw1.symm
    subst hw1'
    clear hw1
    go_wp2
    refine bodyPost_ret (v := .tuple #[.string ⟨#[]⟩, .bool false]) (by simp [results, Try.results11, go_sem]) rfl ⟨rfl, Below.refl _ _⟩
  · have h2 : n < 0 ∨ 8000 < n := hz.resolve_left h
    have h3 : 0 ≤ z := by omega
    have h4 : z ≤ 1000000000 := by omega
    go_enter Try.func11, Try.ntmps11
    go_wp2_with fail
    refine (l01In_true z 0 1000000000 h3 h4 w).mono ?_
    rintro e w1 ⟨rfl, hw1⟩
    have hw1' := hw1.symm
    subst hw1'
    clear hw1
    go_wp2_with fail
    refine (l01In_no n 0 8000 w h2).mono ?_
    rintro e w1 ⟨rfl, hw1⟩
    have hw1' := hw1.symm
    subst hw1'
    clear hw1
    go_wp2
    refine bodyPost_ret (v := .tuple #[.string ⟨#[]⟩, .bool false]) (by simp [results, Try.results11, go_sem]) rfl ⟨rfl, Below.refl _ _⟩
theorem specMk_any (key : ByteArray) (hk : key.size ≤ 1048576) (z n : Int) (w : World) :
    Calls Try.prog 11 #[.string key, .int .i64 z, .int .i64 n] w fun e w' => e = .returned (.tuple #[.string (mkB key z n), .bool (mkOk z n)]) ∧ Below w.heap.size w w' := by
  by_cases h : mkOk z n = true
  · have h' := h
    unfold mkOk at h'
    rw [Bool.and_eq_true] at h'
    have h1 : numIn z := of_decide_eq_true h'.1
    have h2 : 0 ≤ n ∧ n ≤ 8000 := of_decide_eq_true h'.2
    unfold numIn at h1
    have := specLk_yes key hk z.toNat (by omega) n.toNat (by omega) w
    rw [show ((z.toNat : Nat) : Int) = z by omega, show ((n.toNat : Nat) : Int) = n by omega] at this
    unfold mkB
    rw [if_pos h, h]
    exact this
  · have hf : mkOk z n = false := by simpa using h
    unfold mkB
    rw [hf]
    refine specLk_no key z n ?_ w
    refine Decidable.by_contra fun hc => h ?_
    unfold mkOk
    rw [decide_eq_true (show numIn z by unfold numIn; omega), decide_eq_true (show 0 ≤ n ∧ n ≤ 8000 by omega)]
    rfl
set_option maxRecDepth 20000 in
set_option maxHeartbeats 800000 in
theorem specLock_any (key : ByteArray) (hk : key.size ≤ 1048576) (z : Int) (s : ByteArray) (hs : s.size ≤ 2000000) (w : World) :
    Calls Try.prog 17 #[.string key, .int .i64 z, .string s] w fun e w' => e = .returned (.tuple #[.string (loB key z s), .bool (loOk z s)]) ∧ Below w.heap.size w w' := by
  by_cases h : loOk z s = true
  · have HE := hide (loB_is (key := key) h)
    obtain ⟨num, rfl, hnum, hz⟩ := lo_parts h
    rw [show ((num : Nat) : Int).toNat = num from rfl] at HE
    rw [h]
    have hx : (xoB s (lkB key num s.size)).size = s.size := xoB_size _ _ (by rw [lkB_size]; exact Nat.le_refl _)
    have ht := tgB_size key num (xoB s (lkB key num s.size))
    have CM := hide (fun W => specLk_yes key hk num hnum s.size hz W)
    have CX := hide (fun W => specXo_any s (lkB key num s.size) (by rw [lkB_size]; exact Nat.le_refl _) (by rw [lkB_size]; omega) W)
    have CT := hide (fun W => specTg_any key hk num hnum (xoB s (lkB key num s.size)) (by omega) W)
    generalize loB key (num : Int) s = out at *
    generalize tgB key num (xoB s (lkB key num s.size)) = tg at *
    generalize xoB s (lkB key num s.size) = x at *
    generalize lkB key num s.size = m at *
    have hxz : x.size ≤ 8000 := by omega
    have htz : tg.size ≤ 16 := by omega
    clear h hx ht
    go_enter Try.func17, Try.ntmps17
    go_wp2_with fail
    refine ((unhide CM) w).mono ?_
    rintro e w1 ⟨rfl, hb1⟩
    go_wp2_with fail
    refine ((unhide CX) w1).mono ?_
    rintro e w2 ⟨rfl, hb2⟩
    have hb12 := hb1.trans (hb2.mono hb1.size)
    go_wp2_with fail
    refine ((unhide CT) w2).mono ?_
    rintro e w3 ⟨rfl, hb3⟩
    have hb := hb12.trans (hb3.mono hb12.size)
    clear hb1 hb2 hb12 hb3 CM CX CT
    go_wp2
    refine bodyPost_ret (v := .tuple #[.string (x ++ tg), .bool true]) (by simp [results, Try.results17, go_sem]) rfl ⟨by rw [unhide HE], hb⟩
  · have hf : loOk z s = false := by simpa using h
    have HE : loB key z s = ⟨#[]⟩ := by unfold loB; rw [hf]; rfl
    rw [HE, hf]
    have CM := hide (fun W => specLk_no key z (s.size : Int) ((lo_not h).imp id Or.inr) W)
    clear h hf HE
    go_enter Try.func17, Try.ntmps17
    go_wp2_with fail
    refine ((unhide CM) w).mono ?_
    rintro e w1 ⟨rfl, hb1⟩
    go_wp2
    refine bodyPost_ret (v := .tuple #[.string ⟨#[]⟩, .bool false]) (by simp [results, Try.results17, go_sem]) rfl ⟨rfl, hb1⟩
end Go.Proofs.Ytinnaajkdkfnaab

/- Opening by the given model, over the loaded program. -/
namespace Go.Proofs.Ytinnaajkdkfnaab
open Go.RowKit
set_option maxRecDepth 20000 in
set_option maxHeartbeats 1600000 in
theorem specOpen_any (key : ByteArray) (hk : key.size ≤ 1048576) (z : Int) (t : ByteArray) (ht : t.size ≤ 1048576) (w : World) :
    Calls Try.prog 6 #[.string key, .int .i64 z, .string t] w fun e w' => e = .returned (.tuple #[.string (opB key z t), .bool (opOk key z t)]) ∧ Below w.heap.size w w' := by
  by_cases h16 : (t.size : Int) < 16
  · have hf : opOk key z t = false := by unfold opOk; rw [decide_eq_false (by omega)]; rfl
    have HE : opB key z t = ⟨#[]⟩ := by unfold opB; rw [hf]; rfl
    rw [HE, hf]
    clear HE hf
    go_enter Try.func6, Try.ntmps6
    go_wp2
    refine bodyPost_ret (v := .tuple #[.string ⟨#[]⟩, .bool false]) (by simp [results, Try.results6, go_sem]) rfl ⟨rfl, Below.refl _ _⟩
  have h16' : 16 ≤ t.size := by omega
  have hxs := opX_size h16'
  obtain ⟨d, hd⟩ : ∃ d, d = t.size - 16 := ⟨_, rfl⟩
  rw [← hd] at hxs
  have ew : IntKind.i64.wrap ((t.size : Int) - 16) = (d : Int) := by rw [IntKind.wrap_i64]; omega
  have ew' : (t.size : Int) - 16 = (d : Int) := by omega
  have hdt : (d : Int) ≤ (t.size : Int) := by omega
  have cH := fun (W : World) => (run_slice_string_h W 9 t Try.underlying9 .i64 (d : Int) (by omega) (by omega))
  have cL := fun (W : World) => (run_slice_string_l W 9 t Try.underlying9 .i64 (d : Int) (by omega) (by omega))
  have eX : t.extract 0 d = opX t := by unfold opX; rw [hd]
  have eT : t.extract d t.size = opT t := by unfold opT; rw [hd]
  have E0 := hide (show opOk key z t = (loOk z (opX t) && decide (tgB key z.toNat (opX t) = opT t)) by unfold opOk; rw [decide_eq_true h16', Bool.true_and])
  have E1 := hide (show opB key z t = if opOk key z t = true then xoB (opX t) (lkB key z.toNat (opX t).size) else ⟨#[]⟩ from rfl)
  clear cH cL
  have hmin : min d t.size = d := Nat.min_eq_left (by omega)
  rw [← eX, ← eT] at E0
  rw [← eX] at E1 hxs
  rw [hxs] at E1
  clear eX eT
  cases hlo : loOk z (t.extract 0 d) with
  | false =>
    have CM := hide (fun W => specLk_no key z (d : Int) ((lo_not (show ¬ loOk z (t.extract 0 d) = true by rw [hlo]; exact Bool.false_ne_true)).imp id (fun h => Or.inr (by rw [hxs] at h; exact h))) W)
    have hf : opOk key z t = false := by rw [unhide E0, hlo]; rfl
    rw [unhide E1, hf]
    clear E0 E1 hlo hf hd
    go_enter Try.func6, Try.ntmps6
    go_wp2_with fail
    refine ((unhide CM) w).mono ?_
    rintro e w1 ⟨rfl, hb1⟩
    go_wp2_with fail
    go_region
    go_wp2
    refine bodyPost_ret (v := .tuple #[.string ⟨#[]⟩, .bool false]) (by simp [results, Try.results6, go_sem]) rfl ⟨rfl, hb1.drew⟩
  | true =>
    obtain ⟨num, rfl, hnum, hz⟩ := lo_parts hlo
    rw [show ((num : Nat) : Int).toNat = num from rfl] at E0 E1
    rw [hlo, Bool.true_and] at E0
    have CM := hide (fun W => specLk_yes key hk num hnum d (by omega) W)
    have CT := hide (fun W => specTg_any key hk num hnum (t.extract 0 d) (by omega) W)
    have CS := hide (fun W => specSame_any (tgB key num (t.extract 0 d)) (t.extract d t.size) W)
    have CX := hide (fun W => specXo_any (t.extract 0 d) (lkB key num d) (by rw [lkB_size]; omega) (by rw [lkB_size]; omega) W)
    rw [← unhide E0] at CS
    rw [unhide E1]
    generalize opOk key (num : Int) t = ok at *
    generalize xoB (t.extract 0 d) (lkB key num d) = out at *
    generalize lkB key num d = mk at *
    generalize tgB key num (t.extract 0 d) = tg at *
    clear E0 E1 hlo hd
    go_enter Try.func6, Try.ntmps6
    go_wp2_with fail
    refine ((unhide CM) w).mono ?_
    rintro e w1 ⟨rfl, hb1⟩
    have HT0 := hb1.drew
    clear CM hb1
    go_wp2_with fail
    cases ok with
    | true =>
      go_region_held3 (fun _ => True) (first | trivial | fail) (first
        | (go_at_call 13; refine (unhide CT _).mono ?_; rintro e wA ⟨rfl, hbA⟩; have HT0 := HT0.trans (hbA.mono HT0.size); clear hbA)
        | (go_at_call 12; refine (unhide CS _).mono ?_; rintro e wB ⟨rfl, hbB⟩; have HT0 := HT0.trans (hbB.mono HT0.size); clear hbB))
      all_goals
        clear CT CS
        go_wp2_with fail
        refine (unhide CX _).mono ?_
        rintro e w5 ⟨rfl, hb5⟩
        have hb := HT0.trans (hb5.mono HT0.size)
        clear hb5 CX HT0
        go_wp2
        refine bodyPost_ret (v := .tuple #[.string out, .bool true]) (by simp [results, Try.results6, go_sem]) rfl ⟨rfl, hb⟩
    | false =>
      go_region_held3 (fun _ => True) (first | trivial | fail) (first
        | (go_at_call 13; refine (unhide CT _).mono ?_; rintro e wA ⟨rfl, hbA⟩; have HT0 := HT0.trans (hbA.mono HT0.size); clear hbA)
        | (go_at_call 12; refine (unhide CS _).mono ?_; rintro e wB ⟨rfl, hbB⟩; have HT0 := HT0.trans (hbB.mono HT0.size); clear hbB))
      all_goals
        clear CT CS CX
        go_wp2
        refine bodyPost_ret (v := .tuple #[.string ⟨#[]⟩, .bool false]) (by simp [results, Try.results6, go_sem]) rfl ⟨rfl, HT0⟩
end Go.Proofs.Ytinnaajkdkfnaab

/- What is written comes back: numbers in bytes. -/
namespace Go.Proofs.Ytinnaajkdkfnaab
open Go.RowKit
theorem drop_head {s : ByteArray} {i : Nat} {x : UInt8} {t : List UInt8} (h : s.data.toList.drop i = x :: t) : ∃ hi : i < s.size, s[i] = x ∧ s.data.toList.drop (i + 1) = t := by
  have hi : i < s.data.toList.length := by
    rcases Nat.lt_or_ge i s.data.toList.length with h1 | h1
    · exact h1
    · rw [List.drop_eq_nil_of_le h1] at h; cases h
  rw [List.drop_eq_getElem_cons hi] at h
  simp only [List.cons.injEq] at h
  exact ⟨hi, h.1, h.2⟩

theorem read_varB (s : ByteArray) (a : Nat) (rest : List UInt8) : ∀ (f k i u m : Nat), k ≤ f → s.data.toList.drop i = varB k ++ rest → a ≤ i → u = 128 ^ (i - a) → (a < i → 0 < k) → m + k * u ≤ 1000000000 →
    rvRun s a i u m = some (m + k * u, i + (varB k).length) := by
  intro f
  induction f with
  | zero =>
    intro k i u m hk hd ha hu hp hm
    have : k = 0 := by omega
    subst this
    have hia : i = a := by omega
    subst hia
    rw [varB_small (by omega)] at hd
    obtain ⟨hi, hx, _⟩ := drop_head hd
    have hx' : s[i].toNat = 0 := by rw [hx, byteOf_toNat (by omega)]
    rw [rvRun_yes hi (by omega) (by omega) (by rw [hx']; omega), hx', varB_small (by omega)]
    simp
  | succ f ih =>
    intro k i u m hk hd ha hu hp hm
    have h5 : i < a + 5 := by
      rcases Nat.lt_or_ge i (a + 5) with h | h
      · exact h
      · have h1 : 128 ^ 5 ≤ 128 ^ (i - a) := Nat.pow_le_pow_right (by decide) (by omega)
        have h2 : 1 * u ≤ k * u := Nat.mul_le_mul_right u (hp (by omega))
        have h3 : (128 : Nat) ^ 5 = 34359738368 := by decide
        omega
    by_cases hs : k ≤ 127
    · rw [varB_small hs] at hd
      obtain ⟨hi, hx, _⟩ := drop_head hd
      have hx' : s[i].toNat = k := by rw [hx, byteOf_toNat (by omega)]
      have hk128 : k % 128 = k := by omega
      rw [rvRun_yes hi h5 (by omega) (by rw [hx', hk128]; intro hh; rcases hh with ⟨h1, h2⟩ | h1; have := hp h2; omega; omega), hx', hk128, varB_small hs]
      rfl
    · rw [varB_big hs] at hd
      obtain ⟨hi, hx, ht⟩ := drop_head hd
      have hx' : s[i].toNat = k % 128 + 128 := by rw [hx, byteOf_toNat (by omega)]
      have e1 : (k % 128 + 128) % 128 = k % 128 := by omega
      have e2 : k / 128 * (u * 128) = 128 * (k / 128) * u := by rw [← Nat.mul_assoc, Nat.mul_comm, ← Nat.mul_assoc]
      have e3 : m + k % 128 * u + k / 128 * (u * 128) = m + k * u := by
        rw [e2, Nat.add_assoc, ← Nat.add_mul]
        have := Nat.div_add_mod k 128
        rw [show k % 128 + 128 * (k / 128) = k by omega]
      have hr := ih (k / 128) (i + 1) (u * 128) (m + k % 128 * u) (by omega) ht (by omega) (by rw [hu, show i + 1 - a = (i - a) + 1 by omega, Nat.pow_succ]) (by omega) (by rw [e3]; exact hm)
      rw [rvRun_on hi h5 (by omega), hx', e1, hr, e3, varB_big hs]
      simp only [List.length_cons, Option.some.injEq, Prod.mk.injEq, true_and]
      omega

theorem read_var (s : ByteArray) (a n : Nat) (rest : List UInt8) (h : s.data.toList.drop a = varB n ++ rest) (hn : n ≤ 1000000000) : rvRun s a a 1 0 = some (n, a + (varB n).length) := by
  have := read_varB s a rest n n a 1 0 (Nat.le_refl _) h (Nat.le_refl _) (by simp) (by omega) (by omega)
  simpa using this

end Go.Proofs.Ytinnaajkdkfnaab

/- Texts that are wrapped, reckoned. -/
namespace Go.Proofs.Ytinnaajkdkfnaab
open Go.RowKit
def zrN (n : Nat) : Nat := (16 - n % 16) % 16
def pdL (s : ByteArray) : List UInt8 := varB s.size ++ s.data.toList
def pdB (s : ByteArray) : ByteArray := ⟨(pdL s ++ List.replicate (zrN (pdL s).length) 0).toArray⟩
theorem varB_two {n : Nat} (h : n ≤ 16383) : (varB n).length ≤ 2 := by
  by_cases h1 : n ≤ 127
  · rw [varB_small h1]; simp
  · rw [varB_big h1, List.length_cons, varB_small (by omega)]
    simp
theorem pdL_len (s : ByteArray) : (pdL s).length = (varB s.size).length + s.size := by
  unfold pdL
  rw [List.length_append]
  rfl
theorem pdB_size (s : ByteArray) : (pdB s).size = (pdL s).length + zrN (pdL s).length := by
  show (pdL s ++ List.replicate (zrN (pdL s).length) 0).toArray.size = _
  rw [List.size_toArray, List.length_append, List.length_replicate]
theorem pdB_even (s : ByteArray) : (pdB s).size % 16 = 0 := by
  rw [pdB_size]
  unfold zrN
  omega
def wrOk (s : ByteArray) : Bool := decide (s.size ≤ 400)
def wrB (key s : ByteArray) : ByteArray := if wrOk s = true then loB key 0 (pdB s) else ⟨#[]⟩
theorem pdB_le {s : ByteArray} (h : wrOk s = true) : (pdB s).size ≤ 420 := by
  have h1 : s.size ≤ 400 := of_decide_eq_true h
  have h2 := varB_two (n := s.size) (by omega)
  rw [pdB_size, pdL_len]
  unfold zrN
  omega
theorem pd_lo {s : ByteArray} (h : wrOk s = true) : loOk 0 (pdB s) = true := by
  have := pdB_le h
  unfold loOk
  rw [decide_eq_true (show numIn 0 by unfold numIn; omega), decide_eq_true (show (pdB s).size ≤ 8000 by omega)]
  rfl
def unTry (key t : ByteArray) : Option ByteArray :=
  match rvRun (opB key 0 t) 0 0 1 0 with
  | none => none
  | some (n, j) => if opOk key 0 t = true ∧ n ≤ (opB key 0 t).size - j ∧ wrOk ((opB key 0 t).extract j (j + n)) = true ∧ wrB key ((opB key 0 t).extract j (j + n)) = t then some ((opB key 0 t).extract j (j + n)) else none
def unOk (key t : ByteArray) : Bool := (unTry key t).isSome
def unB (key t : ByteArray) : ByteArray := (unTry key t).getD ⟨#[]⟩
/-- What is wrapped is unwrapped. -/
theorem un_wr {key s : ByteArray} (h : wrOk s = true) : unTry key (wrB key s) = some s := by
  have hw : wrB key s = loB key 0 (pdB s) := by unfold wrB; rw [if_pos h]
  obtain ⟨e1, e2⟩ := op_lo (key := key) (pd_lo h)
  rw [← hw] at e1 e2
  have hz : s.size ≤ 400 := of_decide_eq_true h
  have hp : (pdB s).data.toList = varB s.size ++ (s.data.toList ++ List.replicate (zrN (pdL s).length) 0) := by
    show pdL s ++ List.replicate (zrN (pdL s).length) 0 = _
    unfold pdL
    rw [List.append_assoc]
  have hr := read_var (pdB s) 0 s.size _ (by rw [List.drop_zero]; exact hp) (by omega)
  have hx : (pdB s).extract (0 + (varB s.size).length) (0 + (varB s.size).length + s.size) = s := by
    apply ByteArray.ext
    apply Array.toList_inj.1
    rw [ByteArray.data_extract, Array.toList_extract, hp, List.extract_eq_take_drop, Nat.zero_add, Nat.add_sub_cancel_left, List.drop_left, List.take_append_of_le_length (show s.size ≤ s.data.toList.length from Nat.le_refl _)]
    exact List.take_of_length_le (show s.data.toList.length ≤ s.size from Nat.le_refl _)
  unfold unTry
  rw [e2, hr]
  show (if _ then _ else _) = _
  rw [hx, if_pos ⟨e1, by rw [pdB_size, pdL_len]; omega, h, rfl⟩]
/-- What is unwrapped was wrapped so. -/
theorem wr_un {key t s : ByteArray} (h : unTry key t = some s) : wrOk s = true ∧ wrB key s = t := by
  unfold unTry at h
  split at h
  · cases h
  · split at h
    next hc => cases h; exact hc.2.2
    · cases h
end Go.Proofs.Ytinnaajkdkfnaab

/- Texts that are wrapped, by the given model, over the loaded program. -/
namespace Go.Proofs.Ytinnaajkdkfnaab
open Go.RowKit
theorem wr_facts (s : ByteArray) (hs : s.size ≤ 400) : (pdL s).length ≤ 402 ∧ zrN (pdL s).length ≤ 15 ∧ ((pdL s).length + zrN (pdL s).length) % 16 = 0 ∧ ∀ z, z < zrN (pdL s).length → ((pdL s).length + z) % 16 ≠ 0 := by
  have h2 := varB_two (n := s.size) (by omega)
  rw [pdL_len]
  unfold zrN
  refine ⟨by omega, by omega, by omega, fun z hz => by omega⟩
theorem pdB_is (s : ByteArray) : pdB s = ⟨(pdL s ++ List.replicate (zrN (pdL s).length) 0).toArray⟩ := rfl
set_option maxRecDepth 20000 in
set_option maxHeartbeats 800000 in
theorem specWrap_any (key : ByteArray) (hk : key.size ≤ 1048576) (s : ByteArray) (w : World) :
    Calls Try.prog 8 #[.string key, .string s] w fun e w' => e = .returned (.tuple #[.string (wrB key s), .bool (wrOk s)]) ∧ Below w.heap.size w w' := by
  by_cases h : s.size ≤ 400
  · have ho : wrOk s = true := decide_eq_true h
    have EW := hide (show wrB key s = loB key 0 (pdB s) by unfold wrB; rw [if_pos ho])
    rw [unhide EW, ho]
    have CL := hide (fun W => specLock_any key hk 0 (pdB s) (by have := pdB_le ho; omega) W)
    rw [pd_lo ho] at CL
    have CV := hide (fun W => (show Calls Try.prog 16 #[.int .i64 (s.size : Int)] W fun e w' => e = .returned (.string (vaT s.size)) ∧ Below W.heap.size W w' from l01Var_any s.size W (by omega)))
    obtain ⟨f1, f2, f3, f4⟩ := wr_facts s h
    have hps : (vaT s.size ++ s).data.toList = pdL s := by rw [ByteArray.data_append, Array.toList_append]; rfl
    have hsz : (vaT s.size).size ≤ 5 := vaT_size (by omega)
    have EP := hide (pdB_is s)
    have h' : ¬ (400 : Int) < (s.size : Int) := by omega
    obtain ⟨i0, hi, hz0, hz1, hz2⟩ := info_parts Try.infoByte
    generalize loB key 0 (pdB s) = out at *
    generalize pdB s = pb at *
    generalize pdL s = pl at *
    generalize zrN pl.length = zz at *
    generalize hva : vaT s.size = va at *
    clear hva ho EW
    replace h := hide h
    go_enter Try.func8, Try.ntmps8
    go_wp2_with fail
    refine (unhide CV w).mono ?_
    rintro e w1 ⟨rfl, hb1⟩
    obtain ⟨ps, hps2⟩ : ∃ x, x = va ++ s := ⟨_, rfl⟩
    have hpsz : ps.size = pl.length := by rw [← hps, ← hps2]; rfl
    have hconv := Lib.run_convert_string_bytes (P := Try.prog) w1 9 37 5 ps Try.underlying9 Try.underlying37 Try.underlying5
    have hmb := bytes_mb w1 5 ps
    rw [show ps.data.toList = pl by rw [hps2]; exact hps] at hmb
    have hb2 := bytes_below2 w1 5 ps
    rw [hpsz] at hconv hmb
    generalize grownCap w1 pl.length 0 5 = cp at *
    generalize Lib.bytesWorld w1 5 ps = w2 at *
    replace hmb := hide hmb
    rw [hps2] at hconv
    clear CV hps hps2 hpsz
    go_wp2
    go_loopw [6] (fun tv wq => ∃ z : Nat, z ≤ zz ∧ Hid (MB wq w1.heap.size 5 tv (pl ++ List.replicate z 0)) ∧ Below w1.heap.size w1 wq) (fun tv _ => match tv with | .slice _ n _ => pl.length + zz - n | _ => 0)
    case atStart => exact ⟨0, by omega, by rw [List.replicate_zero, List.append_nil]; exact hmb, hb2⟩
    case round =>
      clear hmb hb2 hconv
      obtain ⟨z, hz, HM, hb⟩ := hrel
      have hll : (pl ++ List.replicate z (0 : UInt8)).length = pl.length + z := by simp only [List.length_append, List.length_replicate]
      obtain ⟨g, c, hsh, hg1, hg2, hgc⟩ := (unhide HM).shape
      rw [hll] at hsh
      obtain ⟨n, hn⟩ : ∃ n, n = pl.length + z := ⟨_, rfl⟩
      rw [← hn] at hsh hll
      subst hsh
      have hnb : n ≤ 500 := by omega
      have et : ((n : Int)).tmod 16 = ((n % 16 : Nat) : Int) := by rw [Int.tmod_eq_emod_of_nonneg (by omega)]; omega
      have et2 : ((n : Int)) % 16 = ((n % 16 : Nat) : Int) := by omega
      have hszr := hb.size
      by_cases hlt : z < zz
      · have hne : ¬ (((n % 16 : Nat) : Int) = 0) := by have := f4 z hlt; rw [← hn] at this; omega
        have hlen : (pl ++ List.replicate z (0 : UInt8)).length + 1 ≤ 140737488355328 := by rw [hll]; omega
        replace hn := hide hn
        generalize n % 16 = r at *
        clear f3 f4 hg1 hg2 hgc
        go_wp2_with (at_builtin; refine wpList_append_mark (w := wr) rfl (.tmp 20) (.tmp 21) 37 rfl w1.heap.size w1.heap.size i0 (.int .u8 0) Try.underlying37 hi hz0 hz1 hz2 rfl _ _ rfl (unhide HM) 0 (by decide) rfl hlen (Nat.le_refl _) hszr hb ?_; intro v4 w4 hmb4 hb4)
        rw [List.append_assoc, ← List.replicate_succ'] at hmb4
        obtain ⟨g4, c4, hsh4, _⟩ := hmb4.shape
        have hl5 : (pl ++ List.replicate (z + 1) (0 : UInt8)).length = pl.length + (z + 1) := by simp only [List.length_append, List.length_replicate]
        rw [hl5] at hsh4
        subst hsh4
        replace hmb4 := hide hmb4
        clear HM
        go_roundw
        case rel => exact ⟨z + 1, by omega, hmb4, hb4⟩
        case measure => have := unhide hn; simp; omega
      · obtain rfl : z = zz := by omega
        have h0 : n % 16 = 0 := by rw [hn]; exact f3
        rw [h0] at et et2
        have hcv := run_convert_bytes_back (P := Try.prog) wr 37 9 5 ⟨g, 0, none⟩ c (pl ++ List.replicate z 0) Try.underlying37 Try.underlying5 Try.underlying9 (fun j hj => by
          have hadd : (⟨g, 0, none⟩ : Addr).add j = ⟨g, j, none⟩ := by unfold Addr.add; split <;> simp_all
          rw [hadd]
          exact (unhide HM).cell (List.getElem?_eq_getElem hj))
        rw [hll, ← unhide EP] at hcv
        have hB := hb1.trans (hb.mono hb1.size)
        have C := hide (unhide CL wr)
        replace hn := hide hn
        clear HM CL EP f3 f4 hg1 hg2 hgc h0 hb
        go_wp2_with fail
        refine (unhide C).mono ?_
        rintro e w5 ⟨rfl, hb5⟩
        have hT := hB.trans (hb5.mono hB.size)
        clear C hcv
        go_wp2
        refine bodyPost_ret (v := .tuple #[.string out, .bool true]) (by simp [results, Try.results8, go_sem]) rfl ⟨rfl, hT⟩
  · have ho : wrOk s = false := decide_eq_false h
    have EW : wrB key s = ⟨#[]⟩ := by unfold wrB; rw [ho]; rfl
    rw [EW, ho]
    have h' : (400 : Int) < (s.size : Int) := by omega
    have hR := Below.refl w.heap.size w
    go_enter Try.func8, Try.ntmps8
    go_wp2
    refine bodyPost_ret (v := .tuple #[.string ⟨#[]⟩, .bool false]) (by simp [results, Try.results8, go_sem]) rfl ⟨rfl, hR⟩
end Go.Proofs.Ytinnaajkdkfnaab

