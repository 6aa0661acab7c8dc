/- Lanes to bytes and back: nothing is lost. -/
import Derived.Test.YtkidgllmhdfgaanDoorSpg7
namespace Go.Proofs.YtkidgllmhdfgaanDoor
open Go.RowKit
theorem laneB_lane8 {b0 b1 b2 b3 b4 b5 b6 b7 : UInt8} : laneB (lane8 b0.toNat b1.toNat b2.toNat b3.toNat b4.toNat b5.toNat b6.toNat b7.toNat) 8 = [b0, b1, b2, b3, b4, b5, b6, b7] := by
  have h0 := b0.toNat_lt; have h1 := b1.toNat_lt; have h2 := b2.toNat_lt; have h3 := b3.toNat_lt
  have h4 := b4.toNat_lt; have h5 := b5.toNat_lt; have h6 := b6.toNat_lt; have h7 := b7.toNat_lt
  have key : ∀ (b : UInt8) (n : Nat), n = b.toNat → byteOf n = b := by
    intro b n h
    subst h
    unfold byteOf
    simp
  simp only [laneB, Nat.div_div_eq_div_mul, Nat.reduceMul]
  unfold lane8
  rw [key b0 _ (by omega), key b1 _ (by omega), key b2 _ (by omega), key b3 _ (by omega), key b4 _ (by omega), key b5 _ (by omega), key b6 _ (by omega), key b7 _ (by omega)]
theorem lane8_laneB (x : Nat) (hx : x < M64) : lane8 (x % 256) (x / 256 % 256) (x / 65536 % 256) (x / 16777216 % 256) (x / 4294967296 % 256) (x / 1099511627776 % 256) (x / 281474976710656 % 256) (x / 72057594037927936 % 256) = x := by
  unfold lane8
  unfold M64 at hx
  omega
theorem take8 (l : List UInt8) (m : Nat) (h : m + 8 ≤ l.length) : (l.drop m).take 8 = [l.getD m 0, l.getD (m + 1) 0, l.getD (m + 2) 0, l.getD (m + 3) 0, l.getD (m + 4) 0, l.getD (m + 5) 0, l.getD (m + 6) 0, l.getD (m + 7) 0] := by
  apply List.ext_getElem
  · simp; omega
  · intro i h1 h2
    have hi : i < 8 := by simpa using h2
    rw [List.getElem_take, List.getElem_drop]
    have key : ∀ j, (hj : j < 8) → l.getD (m + j) 0 = l[m + j]'(by omega) := by
      intro j hj
      rw [List.getD_eq_getElem?_getD, List.getElem?_eq_getElem (by omega)]; rfl
    have hc : i = 0 ∨ i = 1 ∨ i = 2 ∨ i = 3 ∨ i = 4 ∨ i = 5 ∨ i = 6 ∨ i = 7 := by omega
    rcases hc with rfl | rfl | rfl | rfl | rfl | rfl | rfl | rfl
    · exact (key 0 (by decide)).symm
    · exact (key 1 (by decide)).symm
    · exact (key 2 (by decide)).symm
    · exact (key 3 (by decide)).symm
    · exact (key 4 (by decide)).symm
    · exact (key 5 (by decide)).symm
    · exact (key 6 (by decide)).symm
    · exact (key 7 (by decide)).symm
theorem lanesS_ln (s : ByteArray) (h : s.size = 200) (i : Nat) (hi : i < 25) : ln (lanesS s) i = lAt s (8 * i) := by
  unfold lanesS mixP
  rw [ln_range _ _ hi, h, if_pos (by omega), show ln zeros25 i = 0 from ?_, Nat.zero_xor]
  unfold zeros25 ln
  rw [List.getD_eq_getElem?_getD, List.getElem?_replicate, if_pos hi]
  rfl
theorem bytes_lanesS (s : ByteArray) (h : s.size = 200) (k : Nat) (hk : k ≤ 25) : bytesN ((lanesS s).take k) = s.data.toList.take (8 * k) := by
  induction k with
  | zero => rfl
  | succ k ih =>
    have hl : s.data.toList.length = 200 := h
    rw [bytesN_take _ _ (by rw [(lanesS_ok s).1]; omega), ih (by omega), lanesS_ln s h k (by omega), show 8 * (k + 1) = 8 * k + 8 by omega, List.take_add, take8 _ _ (by omega)]
    congr 1
    exact laneB_lane8
theorem text_lanes (s : ByteArray) (h : s.size = 200) : textN (lanesS s) = s := by
  have := bytes_lanesS s h 25 (by decide)
  rw [List.take_of_length_le (by rw [(lanesS_ok s).1]; decide), List.take_of_length_le (by show s.size ≤ _; rw [h]; decide)] at this
  unfold textN
  rw [this]
theorem bytesN_getD (a : List Nat) (i j : Nat) (hi : i < a.length) (hj : j < 8) : (bytesN a).getD (8 * i + j) 0 = (laneB (ln a i) 8).getD j 0 := by
  induction a generalizing i with
  | nil => simp at hi
  | cons x l ih =>
    show ((laneB x 8) ++ bytesN l).getD (8 * i + j) 0 = _
    cases i with
    | zero =>
      rw [Nat.mul_zero, Nat.zero_add, List.getD_eq_getElem?_getD, List.getElem?_append_left (by rw [laneB_len]; exact hj), List.getD_eq_getElem?_getD]
      rfl
    | succ i =>
      rw [List.getD_eq_getElem?_getD, List.getElem?_append_right (by rw [laneB_len]; omega), laneB_len, show 8 * (i + 1) + j - 8 = 8 * i + j by omega, ← List.getD_eq_getElem?_getD, ih i (by simpa using hi)]
      rfl
theorem byte_textN (a : List Nat) (i j : Nat) (hi : i < a.length) (hj : j < 8) : byteAt (textN a) (8 * i + j) = ((laneB (ln a i) 8).getD j 0).toNat := by
  show (((bytesN a).toArray.toList).getD (8 * i + j) 0).toNat = _
  rw [List.toList_toArray, bytesN_getD a i j hi hj]
theorem lanes_text {a : List Nat} (h : LanesOk a) : lanesS (textN a) = a := by
  apply lanes_ext (lanesS_ok _).1 h.1
  intro i hi
  rw [lanesS_ln _ (textN_size h.1) i hi]
  have hx := h.ln i
  have hil : i < a.length := by rw [h.1]; exact hi
  have b0 := byte_textN a i 0 hil (by decide)
  have b1 := byte_textN a i 1 hil (by decide)
  have b2 := byte_textN a i 2 hil (by decide)
  have b3 := byte_textN a i 3 hil (by decide)
  have b4 := byte_textN a i 4 hil (by decide)
  have b5 := byte_textN a i 5 hil (by decide)
  have b6 := byte_textN a i 6 hil (by decide)
  have b7 := byte_textN a i 7 hil (by decide)
  simp only [laneB, List.getD_cons_zero, List.getD_cons_succ, Nat.div_div_eq_div_mul, Nat.reduceMul, Nat.add_zero] at b0 b1 b2 b3 b4 b5 b6 b7
  rw [byteOf_toNat (Nat.mod_lt _ (by decide))] at b0 b1 b2 b3 b4 b5 b6 b7
  unfold lAt
  rw [b0, b1, b2, b3, b4, b5, b6, b7]
  exact lane8_laneB _ hx
theorem textN_inj {a b : List Nat} (ha : LanesOk a) (hb : LanesOk b) (h : textN a = textN b) : a = b := by
  rw [← lanes_text ha, ← lanes_text hb, h]
theorem perm_inj {s t : ByteArray} (hs : s.size = 200) (ht : t.size = 200) (h : textN (keccak (lanesS s)) = textN (keccak (lanesS t))) : s = t := by
  have h1 := textN_inj (keccak_ok (lanesS_ok s)) (keccak_ok (lanesS_ok t)) h
  have h2 := keccak_inj (lanesS_ok s) (lanesS_ok t) h1
  rw [← text_lanes s hs, ← text_lanes t ht, h2]
end Go.Proofs.YtkidgllmhdfgaanDoor
