/- A text filled up to whole blocks, and its blocks. -/
import Derived.Test.YtkidgllmhdfgaanDoorSpg9
namespace Go.Proofs.YtkidgllmhdfgaanDoor
open Go.RowKit
def padL (s : ByteArray) (m f : Nat) : List UInt8 := (s.data.toList ++ [byteOf f]) ++ List.replicate (m - 1 - s.size % m) (0 : UInt8)
theorem rest_list (s : ByteArray) (m : Nat) : (restOf s m).data.toList = s.data.toList.drop (m * (s.size / m)) := by
  unfold restOf
  rw [ByteArray.data_extract, Array.toList_extract]
  simp only [List.extract]
  rw [List.take_of_length_le]
  rw [List.length_drop]
  show s.size - _ ≤ _
  omega
theorem rest_size (s : ByteArray) (m : Nat) : (restOf s m).size = s.size % m := by
  unfold restOf
  rw [ByteArray.size_extract]
  have := Nat.div_add_mod s.size m
  omega
theorem fill3_eq (rest : ByteArray) (n f : Nat) (h : rest.size < n) : fill3 rest n f = (rest.data.toList ++ [byteOf f]) ++ List.replicate (n - 1 - rest.size) (0 : UInt8) := by
  unfold fill3
  have hl : rest.data.toList.length = rest.size := rfl
  rw [List.set_append_right _ _ (by omega), hl, Nat.sub_self, show n - rest.size = (n - 1 - rest.size) + 1 by omega, List.replicate_succ, List.set_cons_zero]
  simp
theorem pad_split (s : ByteArray) (m f : Nat) (hm : 0 < m) : padL s m f = s.data.toList.take (m * (s.size / m)) ++ fill3 (restOf s m) m f := by
  rw [fill3_eq _ _ _ (restOf_size s m hm), rest_list, rest_size, ← List.append_assoc, ← List.append_assoc, List.take_append_drop]
  rfl
theorem padL_len (s : ByteArray) (m f : Nat) (hm : 0 < m) : (padL s m f).length = m * (s.size / m + 1) := by
  rw [pad_split s m f hm, List.length_append, fill3_len _ _ _ (Nat.le_of_lt (restOf_size s m hm)), List.length_take]
  have hl : s.data.toList.length = s.size := rfl
  have := Nat.mul_div_le s.size m
  rw [hl, Nat.mul_add, Nat.mul_one]
  omega
def padF (s : ByteArray) (m f : Nat) : List UInt8 := (padL s m f).set (m * (s.size / m + 1) - 1) (byteOf (((padL s m f).getD (m * (s.size / m + 1) - 1) 0).toNat ^^^ 128))
theorem padF_split (s : ByteArray) (m f : Nat) (hm : 0 < m) : padF s m f = s.data.toList.take (m * (s.size / m)) ++ fillL (restOf s m) m f := by
  have hl : (s.data.toList.take (m * (s.size / m))).length = m * (s.size / m) := by
    rw [List.length_take]
    have hl : s.data.toList.length = s.size := rfl
    have := Nat.mul_div_le s.size m
    omega
  have hi : m * (s.size / m + 1) - 1 = m * (s.size / m) + (m - 1) := by rw [Nat.mul_add, Nat.mul_one]; omega
  unfold padF fillL
  rw [pad_split s m f hm, hi]
  generalize s.data.toList.take (m * (s.size / m)) = pre at *
  generalize fill3 (restOf s m) m f = fl at *
  generalize m * (s.size / m) = n at *
  have hg : (pre ++ fl).getD (n + (m - 1)) 0 = fl.getD (m - 1) 0 := by
    rw [List.getD_eq_getElem?_getD, List.getElem?_append_right (by omega), hl, Nat.add_sub_cancel_left, List.getD_eq_getElem?_getD]
  rw [hg, List.set_append_right _ _ (by omega), hl, Nat.add_sub_cancel_left]
def padT (s : ByteArray) (m f : Nat) : ByteArray := ⟨(padF s m f).toArray⟩
theorem padT_size (s : ByteArray) (m f : Nat) (hm : 0 < m) : (padT s m f).size = m * (s.size / m + 1) := by
  show (padF s m f).toArray.size = _
  rw [List.size_toArray]
  unfold padF
  rw [List.length_set, padL_len s m f hm]
theorem extract_list (T : ByteArray) (i j : Nat) : (T.extract i j).data.toList = (T.data.toList.drop i).take (j - i) := by
  rw [ByteArray.data_extract, Array.toList_extract]
theorem bytes_ext {a b : ByteArray} (h : a.data.toList = b.data.toList) : a = b := by
  obtain ⟨a⟩ := a
  obtain ⟨b⟩ := b
  congr 1
  exact Array.toList_inj.mp h
theorem pad_block (s : ByteArray) (m f k : Nat) (hm : 0 < m) (hk : k < s.size / m) : (padT s m f).extract (m * k) (m * k + m) = s.extract (m * k) (m * k + m) := by
  apply bytes_ext
  rw [extract_list, extract_list]
  show (((padF s m f).toArray.toList).drop (m * k)).take _ = _
  rw [List.toList_toArray, padF_split s m f hm, Nat.add_sub_cancel_left]
  have h1 : m * k + m ≤ m * (s.size / m) := by rw [← Nat.mul_succ]; exact Nat.mul_le_mul_left m hk
  have hl : s.data.toList.length = s.size := rfl
  have h2 := Nat.mul_div_le s.size m
  generalize m * (s.size / m) = n at *
  have h3 : (s.data.toList.take n).length = n := by rw [List.length_take]; omega
  rw [List.drop_append_of_le_length (by omega), List.take_append_of_le_length (by rw [List.length_drop]; omega), List.drop_take, List.take_take, show min m (n - m * k) = m by omega]
theorem pad_last (s : ByteArray) (m f : Nat) (hm : 0 < m) : (padT s m f).extract (m * (s.size / m)) (m * (s.size / m) + m) = fillT (restOf s m) m f := by
  apply bytes_ext
  rw [extract_list]
  show (((padF s m f).toArray.toList).drop (m * (s.size / m))).take _ = ((fillL (restOf s m) m f).toArray).toList
  rw [List.toList_toArray, List.toList_toArray, padF_split s m f hm, Nat.add_sub_cancel_left]
  have hl : s.data.toList.length = s.size := rfl
  have h2 := Nat.mul_div_le s.size m
  have h4 := fillL_len (restOf s m) m f (Nat.le_of_lt (restOf_size s m hm))
  generalize m * (s.size / m) = n at *
  have h3 : (s.data.toList.take n).length = n := by rw [List.length_take]; omega
  rw [List.drop_left' h3, List.take_of_length_le (by omega)]
theorem blocks_pad (s : ByteArray) (m f k : Nat) (hm : 0 < m) (hk : k ≤ s.size / m) : blocksK zeros25 (padT s m f) m k = blocksK zeros25 s m k := by
  induction k with
  | zero => rfl
  | succ k ih =>
    show takeL (blocksK zeros25 (padT s m f) m k) _ = takeL (blocksK zeros25 s m k) _
    rw [ih (by omega), pad_block s m f k hm (by omega)]
theorem absorb_pad (s : ByteArray) (m f : Nat) (hm : 0 < m) : blocksK zeros25 (padT s m f) m (s.size / m + 1) = absorbL s m f := by
  show takeL (blocksK zeros25 (padT s m f) m (s.size / m)) _ = _
  rw [blocks_pad s m f _ hm (Nat.le_refl _), pad_last s m f hm]
  rfl
end Go.Proofs.YtkidgllmhdfgaanDoor
