/- The text whose figures these are: the mathematics, of no program. -/
import Derived.Test.YthoeebdibhdeoaaDoorBase
namespace Go.Proofs.YthoeebdibhdeoaaDoor

/-- What a figure stands for. -/
def halfV (c : Nat) : Option Nat := if 48 ≤ c ∧ c ≤ 57 then some (c - 48) else if 97 ≤ c ∧ c ≤ 102 then some (c - 87) else none
theorem halfV_lt {c h : Nat} (e : halfV c = some h) : h < 16 := by
  unfold halfV at e
  split at e
  · simp only [Option.some.injEq] at e; omega
  · split at e
    · simp only [Option.some.injEq] at e; omega
    · cases e

/-- The bytes of whose halves these are the figures. -/
def unhexB : List UInt8 → Option (List UInt8)
  | [] => some []
  | [_] => none
  | a :: b :: t => match halfV a.toNat, halfV b.toNat with
    | some h, some g => (unhexB t).map (byteOf (16 * h + g) :: ·)
    | _, _ => none

theorem unhexB_yes {x y : UInt8} (t : List UInt8) {a b : Nat} (ha : halfV x.toNat = some a) (hb : halfV y.toNat = some b) : unhexB (x :: y :: t) = (unhexB t).map (byteOf (16 * a + b) :: ·) := by
  simp only [unhexB, ha, hb]
theorem unhexB_no1 {x y : UInt8} (t : List UInt8) (ha : halfV x.toNat = none) : unhexB (x :: y :: t) = none := by
  simp only [unhexB, ha]
theorem unhexB_no2 {x y : UInt8} (t : List UInt8) (hb : halfV y.toNat = none) : unhexB (x :: y :: t) = none := by
  simp only [unhexB, hb]
  cases halfV x.toNat <;> rfl

/-- Where it stands at the place i: what comes of the whole is what lies ready and what comes of the rest. -/
structure UhAt (s : ByteArray) (i : Nat) (pre : List UInt8) : Prop where
  even : i % 2 = 0
  len : 2 * pre.length = i
  rest : unhexB s.data.toList = (unhexB (s.data.toList.drop i)).map (pre ++ ·)

theorem UhAt.start (s : ByteArray) : UhAt s 0 [] := ⟨rfl, rfl, by simp⟩

theorem drop_two (s : ByteArray) (i : Nat) (h : i + 1 < s.size) : s.data.toList.drop i = s[i] :: s[i + 1] :: s.data.toList.drop (i + 2) := by
  have hl : s.data.toList.length = s.size := rfl
  rw [List.drop_eq_getElem_cons (by omega), List.drop_eq_getElem_cons (by omega)]
  rfl

theorem UhAt.next {s : ByteArray} {i : Nat} {pre : List UInt8} (hu : UhAt s i pre) (h : i + 1 < s.size) {a b : Nat} (ha : halfV s[i].toNat = some a) (hb : halfV s[i + 1].toNat = some b) :
    UhAt s (i + 2) (pre ++ [byteOf (16 * a + b)]) := by
  refine ⟨by have := hu.even; omega, by have := hu.len; simp; omega, ?_⟩
  rw [hu.rest, drop_two s i h, unhexB_yes _ ha hb]
  cases unhexB (s.data.toList.drop (i + 2)) <;> simp

theorem UhAt.fail1 {s : ByteArray} {i : Nat} {pre : List UInt8} (hu : UhAt s i pre) (h : i + 1 < s.size) (ha : halfV s[i].toNat = none) : unhexB s.data.toList = none := by
  rw [hu.rest, drop_two s i h, unhexB_no1 _ ha]
  rfl
theorem UhAt.fail2 {s : ByteArray} {i : Nat} {pre : List UInt8} (hu : UhAt s i pre) (h : i + 1 < s.size) (hb : halfV s[i + 1].toNat = none) : unhexB s.data.toList = none := by
  rw [hu.rest, drop_two s i h, unhexB_no2 _ hb]
  rfl
theorem UhAt.done {s : ByteArray} {i : Nat} {pre : List UInt8} (hu : UhAt s i pre) (h : s.size ≤ i) : unhexB s.data.toList = some pre := by
  have hl : s.data.toList.length = s.size := rfl
  rw [hu.rest, List.drop_of_length_le (by omega)]
  simp [unhexB]

/-- The two results of Unhex. -/
def uhTup : Option (List UInt8) → Value
  | none => .tuple #[.string ⟨#[]⟩, .bool false]
  | some l => .tuple #[.string ⟨l.toArray⟩, .bool true]
theorem uhTup_none {x : Option (List UInt8)} (h : x = none) : Ending.returned (.tuple #[.string ⟨#[]⟩, .bool false]) = .returned (uhTup x) := by subst h; rfl
theorem uhTup_some {x : Option (List UInt8)} {l : List UInt8} (h : x = some l) : Ending.returned (.tuple #[.string ⟨l.toArray⟩, .bool true]) = .returned (uhTup x) := by subst h; rfl
end Go.Proofs.YthoeebdibhdeoaaDoor
