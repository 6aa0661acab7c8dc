/- A text that comes in two parts is taken as it is taken at once. -/
import Derived.Test.YtkidgllmhdfgaabShaQ
namespace Go.Proofs.Ytkidgllmhdfgaab
open Go.RowKit
theorem ext_list (s : ByteArray) (a b : Nat) : (s.extract a b).data.toList = (s.data.toList.drop a).take (b - a) := by
  rw [ByteArray.data_extract, Array.toList_extract]
theorem ext_eq {a b : ByteArray} (h : a.data.toList = b.data.toList) : a = b := ByteArray.ext (Array.toList_inj.1 h)
theorem size_list (s : ByteArray) : s.data.toList.length = s.size := rfl
theorem ext_ext (s : ByteArray) (a c d : Nat) (_h : a + d ≤ s.size) : (s.extract a s.size).extract c d = s.extract (a + c) (a + d) := by
  apply ext_eq
  rw [ext_list, ext_list, ext_list, List.take_of_length_le (l := s.data.toList.drop a) (by rw [List.length_drop, size_list]; exact Nat.le_refl _), List.drop_drop]
  congr 1
  omega
theorem ext_end (s : ByteArray) (a c : Nat) (h : a + c ≤ s.size) : (s.extract a s.size).extract c (s.extract a s.size).size = s.extract (a + c) s.size := by
  have e : (s.extract a s.size).size = s.size - a := by rw [ByteArray.size_extract]; omega
  rw [e, ext_ext s a c (s.size - a) (by omega), show a + (s.size - a) = s.size by omega]
theorem app_list (x y : ByteArray) : (x ++ y).data.toList = x.data.toList ++ y.data.toList := by rw [ByteArray.data_append, Array.toList_append]
theorem ext_left (x y : ByteArray) (a b : Nat) (h : b ≤ x.size) : (x ++ y).extract a b = x.extract a b := by
  apply ext_eq
  rw [ext_list, ext_list, app_list]
  by_cases hab : a ≤ b
  · rw [List.drop_append_of_le_length (by rw [size_list]; omega), List.take_append_of_le_length (by rw [List.length_drop, size_list]; omega)]
  · rw [show b - a = 0 by omega, List.take_zero, List.take_zero]
theorem ext_right (x y : ByteArray) (a : Nat) (h : a ≤ x.size) : (x ++ y).extract a (x ++ y).size = x.extract a x.size ++ y := by
  apply ext_eq
  rw [ext_list, app_list, app_list, ext_list]
  rw [List.take_of_length_le (by rw [List.length_drop, List.length_append, size_list, size_list, ByteArray.size_append]; exact Nat.le_refl _), List.drop_append_of_le_length (by rw [size_list]; exact h), List.take_of_length_le (by rw [List.length_drop, size_list]; exact Nat.le_refl _)]
theorem blocks_left (v : V8) (x y : ByteArray) : ∀ n, 64 * n ≤ x.size → blocksW v (x ++ y) 0 n = blocksW v x 0 n
  | 0, _ => rfl
  | n + 1, h => by
    show roundW (blocksW v (x ++ y) 0 n) _ = roundW (blocksW v x 0 n) _
    rw [blocks_left v x y n (by omega), ext_left x y _ _ (by omega)]
theorem blocks_more (v : V8) (s : ByteArray) (n : Nat) : ∀ m, 64 * (n + m) ≤ s.size → blocksW v s 0 (n + m) = blocksW (blocksW v s 0 n) (s.extract (64 * n) s.size) 0 m
  | 0, _ => rfl
  | m + 1, h => by
    show roundW (blocksW v s 0 (n + m)) (s.extract (0 + 64 * (n + m)) (0 + 64 * (n + m) + 64)) = roundW (blocksW (blocksW v s 0 n) (s.extract (64 * n) s.size) 0 m) ((s.extract (64 * n) s.size).extract (0 + 64 * m) (0 + 64 * m + 64))
    rw [blocks_more v s n m (by omega), ext_ext s (64 * n) _ _ (by omega)]
    congr 2 <;> omega
theorem moreH_more {a : Hs} (x y : ByteArray) : moreH (moreH a x) y = moreH a (x ++ y) := by
  have hT : moreT a (x ++ y) = moreT a x ++ y := by unfold moreT; rw [ByteArray.append_assoc]
  have hR : moreT (moreH a x) y = (moreT a x).extract (64 * ((moreT a x).size / 64)) (moreT a x).size ++ y := rfl
  have hs : stOf (moreH a x).st = blocksW (stOf a.st) (moreT a x) 0 ((moreT a x).size / 64) := stOf_text (blocksW_ok (stOf_ok _) _ _ _)
  have hc : (moreH a x).ct + (y.size : Int) = a.ct + ((x ++ y).size : Int) := by
    show a.ct + (x.size : Int) + (y.size : Int) = _
    rw [ByteArray.size_append]; omega
  generalize moreT a x = T at *
  obtain ⟨n, hn⟩ : ∃ n, n = T.size / 64 := ⟨_, rfl⟩
  rw [← hn] at hs hR
  have hn64 : 64 * n ≤ T.size := by omega
  have hx := ext_right T y (64 * n) hn64
  rw [← hT] at hx
  have hRs : (moreT (moreH a x) y) = (moreT a (x ++ y)).extract (64 * n) (moreT a (x ++ y)).size := by rw [hR, ← hx]
  obtain ⟨S, hS⟩ : ∃ S, S = moreT a (x ++ y) := ⟨_, rfl⟩
  rw [← hS] at hRs hT
  have hSs : S.size = T.size + y.size := by rw [hT, ByteArray.size_append]
  have hRz : (moreT (moreH a x) y).size = S.size - 64 * n := by rw [hRs, ByteArray.size_extract]; omega
  have hm : S.size / 64 = n + (S.size - 64 * n) / 64 := by omega
  have hl : moreH (moreH a x) y = ⟨(blocksW (stOf (moreH a x).st) (moreT (moreH a x) y) 0 ((moreT (moreH a x) y).size / 64)).text, (moreT (moreH a x) y).extract (64 * ((moreT (moreH a x) y).size / 64)) (moreT (moreH a x) y).size, (moreH a x).ct + (y.size : Int)⟩ := rfl
  have hr : moreH a (x ++ y) = ⟨(blocksW (stOf a.st) S 0 (S.size / 64)).text, S.extract (64 * (S.size / 64)) S.size, a.ct + ((x ++ y).size : Int)⟩ := by rw [hS]; rfl
  rw [hl, hr, hs, hc, hRz, hm]
  have e1 : blocksW (stOf a.st) T 0 n = blocksW (stOf a.st) S 0 n := by rw [hT]; exact (blocks_left _ _ _ n hn64).symm
  have e2 := blocks_more (stOf a.st) S n ((S.size - 64 * n) / 64) (by omega)
  have e3 : (moreT (moreH a x) y).extract (64 * ((S.size - 64 * n) / 64)) (S.size - 64 * n) = S.extract (64 * (n + (S.size - 64 * n) / 64)) S.size := by
    rw [hRs, ext_ext S (64 * n) _ _ (by omega)]
    congr 1 <;> omega
  rw [e1, hRs, ← e2, ← hRs, e3]
end Go.Proofs.Ytkidgllmhdfgaab
