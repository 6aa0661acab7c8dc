/- A sealed text of which one byte is another is not sealed; bytes that are turned by exclusive-or. -/
import Derived.Test.YthoeebdibhdeoaaDoorSeal
import Derived.Lib.ConvBytes
namespace Go.Proofs.YthoeebdibhdeoaaDoor
open Go.RowKit

theorem bits_xor_u8 (a b : Nat) (ha : a < 256) (hb : b < 256) : bits .xor .u8 (a : Int) (b : Int) = ((a ^^^ b : Nat) : Int) := by
  have h : a ^^^ b < 2 ^ 8 := Nat.xor_lt_two_pow (n := 8) ha hb
  have hk : IntKind.u8.bits = 8 := rfl
  simp only [bits, BitVec.ofInt_natCast, BitVec.toNat_xor, BitVec.toNat_ofNat, hk]
  rw [Nat.mod_eq_of_lt (show a < 2 ^ 8 by omega), Nat.mod_eq_of_lt (show b < 2 ^ 8 by omega), IntKind.wrap_u8]
  omega

theorem xor_turns {a d : Nat} (hd : 0 < d) : a ^^^ d ≠ a := by
  intro h
  have := congrArg (a ^^^ ·) h
  simp only [← Nat.xor_assoc, Nat.xor_self, Nat.zero_xor] at this
  omega

theorem extract_left (T : ByteArray) (n : Nat) : (T.extract 0 n).data.toList = T.data.toList.take n := by
  rw [ByteArray.data_extract, Array.toList_extract]
  simp [List.extract]
theorem extract_right (T : ByteArray) (n : Nat) : (T.extract n T.size).data.toList = T.data.toList.drop n := by
  rw [ByteArray.data_extract, Array.toList_extract]
  simp only [List.extract]
  rw [List.take_of_length_le]
  simp only [List.length_drop]
  exact Nat.le_refl _

theorem four_set {c k : Nat} (hk : k < 4) {y : UInt8} (h : (four c).set k y = four c) : (four c)[k]? = some y := by
  have h1 := congrArg (fun l : List UInt8 => l[k]?) h
  simp only [List.getElem?_set_self (show k < (four c).length from hk)] at h1
  exact h1.symm

theorem turned_no (s T T' : ByteArray) (i : Nat) (y : UInt8) (hT : s ++ fourS (sumOf s) = T) (hi : i < s.size + 4) (hy : T.data.toList[i]? ≠ some y) (hT' : T'.data.toList = T.data.toList.set i y) :
    T'.extract s.size T'.size ≠ fourS (sumOf (T'.extract 0 s.size)) := by
  intro he
  have hTl : T.data.toList = s.data.toList ++ four (sumOf s) := by rw [← hT, ByteArray.data_append, Array.toList_append]; rfl
  have h1 : (T'.extract s.size T'.size).data.toList = four (crcL 4294967295 (T'.extract 0 s.size).data.toList) := by rw [he]; rfl
  rw [extract_right, extract_left, hT', hTl] at h1
  have hsl : s.data.toList.length = s.size := rfl
  rw [hTl] at hy
  by_cases hlt : i < s.size
  · rw [List.set_append_left _ _ (by rw [hsl]; exact hlt), ← hsl, List.take_left' (by rw [List.length_set]), List.drop_left' (by rw [List.length_set])] at h1
    have h2 := four_inj (sumOf_lt s) (crcL_lt (by decide) _) h1
    have hlt' : i < s.data.toList.length := hlt
    have e1 : s.data.toList = s.data.toList.take i ++ s.data.toList[i] :: s.data.toList.drop (i + 1) := by rw [← List.drop_eq_getElem_cons hlt', List.take_append_drop]
    have e2 : s.data.toList.set i y = s.data.toList.take i ++ y :: s.data.toList.drop (i + 1) := List.set_eq_take_append_cons_drop .. |>.trans (if_pos hlt')
    rw [e2] at h2
    have h3 : crcL 4294967295 (s.data.toList.take i ++ s.data.toList[i] :: s.data.toList.drop (i + 1)) = crcL 4294967295 (s.data.toList.take i ++ y :: s.data.toList.drop (i + 1)) := by rw [← e1]; exact h2
    have h4 := crcL_turned (by decide) _ _ _ _ h3
    apply hy
    rw [List.getElem?_append_left hlt', List.getElem?_eq_getElem hlt', h4]
  · have hge : s.data.toList.length ≤ i := by rw [hsl]; omega
    rw [List.set_append_right _ _ hge, ← hsl, List.take_left' rfl, List.drop_left' rfl] at h1
    have h2 : (four (sumOf s)).set (i - s.data.toList.length) y = four (sumOf s) := h1
    have h3 := four_set (by rw [hsl]; omega) h2
    apply hy
    rw [List.getElem?_append_right hge]
    exact h3

/-- The bytes of a text in a new row: what the walk needs of it. -/
structure RowAt (w : World) (g : Nat) (l : List UInt8) : Prop where
  cell : ∀ j, (hj : j < l.length) → w.cell? ⟨g, j, none⟩ = some (.int .u8 (l[j].toNat : Int))
  frozen : ∀ j, j < l.length → w.frozen? ⟨g, j, none⟩ = false

theorem bytes_row (w : World) (e : TypeId) (s : ByteArray) : RowAt (Lib.bytesWorld w e s) w.heap.size s.data.toList := by
  refine ⟨fun j hj => ?_, fun j hj => ?_⟩
  · have hj' : j < s.size := hj
    rw [Lib.bytesWorld_cell w e s j hj']
    simp [List.getD, List.getElem?_eq_getElem hj]
  · have hj' : j < s.size := hj
    have hsz : s.size ≤ (Lib.bytesCells w e s).size := by
      simp only [Lib.bytesCells, Array.size_append, Array.size_map]
      exact Nat.le_add_right _ _
    simp only [World.frozen?, Lib.bytesWorld_at_new]
    simp
    omega
theorem bytes_below (w : World) (e : TypeId) (s : ByteArray) : Below w.heap.size w (Lib.bytesWorld w e s) :=
  ⟨rfl, rfl, rfl, by rw [Lib.bytesWorld_size]; omega, fun k hk => Lib.bytesWorld_at_old w e s k hk⟩
theorem RowAt.turn {w : World} {g : Nat} {l : List UInt8} (h : RowAt w g l) (q y : Nat) (hy : y < 256) (j : Nat) (hj : j < (l.set q (byteOf y)).length) :
    ((w.setCell ⟨g, q, none⟩ (.int .u8 (y : Int))).drew).cell? ⟨g, j, none⟩ = some (.int .u8 ((l.set q (byteOf y))[j].toNat : Int)) := by
  have hj' : j < l.length := by simpa using hj
  show (w.setCell ⟨g, q, none⟩ (.int .u8 (y : Int))).cell? ⟨g, j, none⟩ = _
  by_cases e : q = j
  · subst e
    rw [World.cell?_setCell_same w _ _ (h.cell q hj'), List.getElem_set_self, byteOf_toNat hy]
  · rw [World.cell?_setCell_other w _ _ _ (by intro he; apply e; exact congrArg Addr.off he), List.getElem_set_ne e]
    exact h.cell j hj'

theorem run_turned {P : Program} {w : World} {g cap n q y : Nat} {l : List UInt8} (h : RowAt w g l) (hy : y < 256) (hl : l.length = n) (src dst e : TypeId) (hs : P.underlying src = some (.slice e)) (he : P.underlying e = some (.int .u8)) (hd : P.underlying dst = some .string) :
    (convert src dst (.slice (some ⟨g, 0, none⟩) n cap)).run P ((w.setCell ⟨g, q, none⟩ (.int .u8 (y : Int))).drew) = .ok (.string ⟨(l.set q (byteOf y)).toArray⟩) ((w.setCell ⟨g, q, none⟩ (.int .u8 (y : Int))).drew) := by
  have hl' : (l.set q (byteOf y)).length = n := by simpa using hl
  rw [← hl']
  exact run_convert_bytes_back (P := P) _ src dst e ⟨g, 0, none⟩ cap (l.set q (byteOf y)) hs he hd (fun j hj => by
    have hadd : (⟨g, 0, none⟩ : Addr).add j = ⟨g, j, none⟩ := by unfold Addr.add; split <;> simp_all
    rw [hadd]
    exact h.turn q y hy j hj)
end Go.Proofs.YthoeebdibhdeoaaDoor
