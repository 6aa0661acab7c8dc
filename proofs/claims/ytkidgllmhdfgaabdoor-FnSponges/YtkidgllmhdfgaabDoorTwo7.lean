/- A stream in two parts is the stream. -/
import Derived.Test.YtkidgllmhdfgaabDoorSpg13
namespace Go.Proofs.YtkidgllmhdfgaabDoor
open Go.RowKit
def itk (a : List Nat) : Nat → List Nat
  | 0 => a
  | j + 1 => keccak (itk a j)
theorem itk_add (a : List Nat) (j k : Nat) : itk (itk a j) k = itk a (j + k) := by
  induction k with
  | zero => rfl
  | succ k ih => show keccak (itk (itk a j) k) = keccak (itk a (j + k)); rw [ih]
def sb (a : List Nat) (k : Nat) : UInt8 := (bytesN (itk a (k / 168))).getD (k % 168) 0
theorem sb_it (a : List Nat) (j k : Nat) : sb (itk a j) k = sb a (168 * j + k) := by
  unfold sb
  rw [itk_add, Nat.mul_add_mod, show (168 * j + k) / 168 = j + k / 168 by omega]
def sl (a : List Nat) (p n : Nat) : List UInt8 := (List.range n).map fun i => sb a (p + i)
theorem sl_len (a : List Nat) (p n : Nat) : (sl a p n).length = n := by simp [sl]
theorem sl_more (a : List Nat) (p n k : Nat) : sl a p (n + k) = sl a p n ++ sl a (p + n) k := by
  unfold sl
  rw [List.range_add, List.map_append, List.map_map]
  congr 1
  apply List.map_congr_left
  intro i _
  show sb a (p + (n + i)) = sb a (p + n + i)
  rw [Nat.add_assoc]
theorem piece_sl (a : List Nat) (j P e : Nat) (hl : (itk a j).length = 25) (hP : P ≤ e) (he : e ≤ 168) : ((textN (itk a j)).extract P e).data.toList = sl a (168 * j + P) (e - P) := by
  have hb : (bytesN (itk a j)).length = 200 := by rw [bytesN_len, hl]
  have e1 : ((textN (itk a j)).extract P e).data.toList = ((bytesN (itk a j)).drop P).take (e - P) := by
    rw [ByteArray.data_extract, Array.toList_extract]
    rfl
  rw [e1]
  apply List.ext_getElem?
  intro i
  by_cases hi : i < e - P
  · rw [List.getElem?_take_of_lt hi, List.getElem?_drop, List.getElem?_eq_getElem (by omega)]
    unfold sl
    rw [List.getElem?_map, List.getElem?_range hi]
    show _ = some (sb a (168 * j + P + i))
    unfold sb
    rw [show (168 * j + P + i) / 168 = j by omega, show (168 * j + P + i) % 168 = P + i by omega, List.getD_eq_getElem?_getD, List.getElem?_eq_getElem (by omega)]
    rfl
  · rw [List.getElem?_eq_none (by rw [List.length_take, List.length_drop, hb]; omega), List.getElem?_eq_none (by rw [sl_len]; omega)]
def Gv.inv (a0 : List Nat) (p0 : Nat) (g : Gv) : Prop := ∃ j, g.a = itk a0 j ∧ p0 + g.out.length = 168 * j + g.p ∧ g.out = sl a0 p0 g.out.length
theorem gvStep_inv {a0 : List Nat} {p0 n : Nat} {g : Gv} (hok : g.ok n) (hl : g.out.length < n) (h : g.inv a0 p0) : (gvStep n g).inv a0 p0 := by
  obtain ⟨j, h1, h2, h3⟩ := h
  have hA := gvA_ok hok.1
  have hP := gvP_lt hok.2.1
  have hpc := gv_piece hok
  have hE : gvE n g = min 168 (gvP g + n - g.out.length) := rfl
  obtain ⟨J, hJ1, hJ2⟩ : ∃ J, gvA g = itk a0 J ∧ p0 + g.out.length = 168 * J + gvP g := by
    by_cases h168 : g.p = 168
    · refine ⟨j + 1, ?_, ?_⟩
      · unfold gvA; rw [if_pos h168, h1]; rfl
      · unfold gvP; rw [if_pos h168]; omega
    · refine ⟨j, ?_, ?_⟩
      · unfold gvA; rw [if_neg h168, h1]
      · unfold gvP; rw [if_neg h168]; omega
  have hp := piece_sl a0 J (gvP g) (gvE n g) (by rw [← hJ1]; exact hA.1) (by omega) (by omega)
  rw [← hJ1, ← hJ2] at hp
  have hout : (gvStep n g).out = g.out ++ sl a0 (p0 + g.out.length) (gvE n g - gvP g) := by
    show g.out ++ _ = _
    rw [hp]
  have hlen : (gvStep n g).out.length = g.out.length + (gvE n g - gvP g) := by rw [hout, List.length_append, sl_len]
  refine ⟨J, hJ1, ?_, ?_⟩
  · rw [hlen]
    show _ = 168 * J + gvE n g
    omega
  · rw [hlen, sl_more, hout, ← h3]
theorem gvRun_inv {a0 : List Nat} {p0 n : Nat} {g : Gv} (hok : g.ok n) (h : g.inv a0 p0) (k : Nat) : (gvRun n g k).inv a0 p0 := by
  induction k with
  | zero => exact h
  | succ k ih =>
    unfold gvRun
    split
    · next hl => exact gvStep_inv (gvRun_ok hok k) hl ih
    · exact ih
theorem gvRun_far {n : Nat} {g : Gv} (hok : g.ok n) (k : Nat) : k ≤ (gvRun n g k).out.length ∨ (gvRun n g k).out.length = n := by
  induction k with
  | zero => exact .inl (Nat.zero_le _)
  | succ k ih =>
    have hk := gvRun_ok hok k
    unfold gvRun
    split
    · next hl =>
      have := gvStep_ok hk hl
      rcases ih with h | h
      · exact .inl (by omega)
      · omega
    · next hl => exact .inr (by have := hk.2.2; omega)
theorem gvEnd_all {a : List Nat} (ha : LanesOk a) (p n : Nat) (hp : p ≤ 168) : (gvEnd n ⟨a, p, []⟩).out = sl a p n ∧ ∃ j, (gvEnd n ⟨a, p, []⟩).a = itk a j ∧ p + n = 168 * j + (gvEnd n ⟨a, p, []⟩).p ∧ (gvEnd n ⟨a, p, []⟩).p ≤ 168 := by
  have hok : Gv.ok n ⟨a, p, []⟩ := ⟨ha, hp, Nat.zero_le _⟩
  have hk := gvRun_ok hok n
  have hlen : (gvEnd n ⟨a, p, []⟩).out.length = n := by
    have h2 : (gvEnd n ⟨a, p, []⟩).out.length ≤ n := hk.2.2
    rcases gvRun_far hok n with h | h
    · have h' : n ≤ (gvEnd n ⟨a, p, []⟩).out.length := h
      omega
    · exact h
  obtain ⟨j, h1, h2, h3⟩ := gvRun_inv (a0 := a) (p0 := p) hok ⟨0, rfl, by simp, rfl⟩ n
  have h2' : p + (gvEnd n ⟨a, p, []⟩).out.length = 168 * j + (gvEnd n ⟨a, p, []⟩).p := h2
  have h3' : (gvEnd n ⟨a, p, []⟩).out = sl a p (gvEnd n ⟨a, p, []⟩).out.length := h3
  rw [hlen] at h2' h3'
  exact ⟨h3', j, h1, h2', hk.2.1⟩
theorem gv_two {a : List Nat} (ha : LanesOk a) (p n m : Nat) (hp : p ≤ 168) : (gvEnd (n + m) ⟨a, p, []⟩).out = (gvEnd n ⟨a, p, []⟩).out ++ (gvEnd m ⟨(gvEnd n ⟨a, p, []⟩).a, (gvEnd n ⟨a, p, []⟩).p, []⟩).out := by
  obtain ⟨h1, j, h2, h3, h4⟩ := gvEnd_all ha p n hp
  have hok : LanesOk (gvEnd n ⟨a, p, []⟩).a := (gvRun_ok (n := n) (g := ⟨a, p, []⟩) ⟨ha, hp, Nat.zero_le _⟩ n).1
  rw [(gvEnd_all ha p (n + m) hp).1, h1, (gvEnd_all hok _ m h4).1, h2, sl_more]
  congr 1
  unfold sl
  apply List.map_congr_left
  intro i _
  show sb a (p + n + i) = sb (itk a j) ((gvEnd n ⟨a, p, []⟩).p + i)
  rw [sb_it, h3, Nat.add_assoc]
theorem shakeL_len (s : ByteArray) (n : Nat) : (shakeL s n).length = n := by
  unfold shakeL
  rw [(gvEnd_all (absorbL_ok s 168 31) 0 n (by decide)).1, sl_len]
end Go.Proofs.YtkidgllmhdfgaabDoor
