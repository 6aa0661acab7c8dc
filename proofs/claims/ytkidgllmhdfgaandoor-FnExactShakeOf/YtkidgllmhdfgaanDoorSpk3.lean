/- The given model's round, over the loaded program. -/
import Derived.Test.YtkidgllmhdfgaanDoorSpk2
namespace Go.Proofs.YtkidgllmhdfgaanDoor
open Go.RowKit
def rpE (a : List Nat) (i : Nat) : Nat := rol (ln turnsL ((fromXY i).1 + 5 * (fromXY i).2)) (ln a ((fromXY i).1 + 5 * (fromXY i).2) ^^^ thD a (fromXY i).1)
def bP (a : List Nat) (n : Nat) : List Nat := (List.range 25).map fun i => if 5 * (fromXY i).1 + (fromXY i).2 < n then rpE a i else 0
theorem bP_len (a : List Nat) (n : Nat) : (bP a n).length = 25 := by simp [bP]
theorem place_inv : ∀ i, i < 25 → i = (fromXY i).2 + 5 * ((2 * (fromXY i).1 + 3 * (fromXY i).2) % 5) := by decide
theorem from_lt (i : Nat) : (fromXY i).1 < 5 ∧ (fromXY i).2 < 5 := ⟨Nat.mod_lt _ (by decide), Nat.mod_lt _ (by decide)⟩
theorem bP_zero (a : List Nat) : bP a (5 * 0 + 0) = List.replicate 25 0 := by
  apply lanes_ext (bP_len _ _) (by simp)
  intro i hi
  unfold bP
  rw [ln_range _ _ hi, if_neg (by omega)]
  unfold ln
  rw [List.getD_eq_getElem?_getD, List.getElem?_replicate, if_pos hi]
  rfl
theorem bP_end (a : List Nat) : bP a 25 = rhoPi a := by
  apply lanes_ext (bP_len _ _) (by simp [rhoPi])
  intro i hi
  have h := from_lt i
  unfold bP
  rw [ln_range _ _ hi, if_pos (by omega)]
  unfold rhoPi
  rw [ln_range _ _ hi]
  rfl
theorem rpE_at (a : List Nat) (x y : Nat) (hx : x < 5) (hy : y < 5) : rpE a (y + 5 * ((2 * x + 3 * y) % 5)) = rol (ln turnsL (x + 5 * y)) (ln a (x + 5 * y) ^^^ thD a x) := by
  unfold rpE
  rw [place_of x hx y hy]
theorem bP_set (a : List Nat) (x y : Nat) (hx : x < 5) (hy : y < 5) : (bP a (5 * x + y)).set (y + 5 * ((2 * x + 3 * y) % 5)) (rol (ln turnsL (x + 5 * y)) (ln a (x + 5 * y) ^^^ thD a x)) = bP a (5 * x + (y + 1)) := by
  rw [← rpE_at a x y hx hy]
  have hr : y + 5 * ((2 * x + 3 * y) % 5) < 25 := by omega
  apply lanes_ext (by simp [bP]) (bP_len _ _)
  intro i hi
  rw [ln_set (by rw [bP_len]; exact hr)]
  unfold bP
  rw [ln_range _ _ hi, ln_range _ _ hi]
  by_cases h : i = y + 5 * ((2 * x + 3 * y) % 5)
  · rw [if_pos h, h, place_of x hx y hy, if_pos (by omega)]
  · rw [if_neg h]
    have hf := from_lt i
    have hne : ¬ 5 * (fromXY i).1 + (fromXY i).2 = 5 * x + y := by
      intro e
      have e1 : (fromXY i).1 = x := by omega
      have e2 : (fromXY i).2 = y := by omega
      have := place_inv i hi
      rw [e1, e2] at this
      exact h this
    by_cases h2 : 5 * (fromXY i).1 + (fromXY i).2 < 5 * x + y
    · rw [if_pos h2, if_pos (by omega)]
    · rw [if_neg h2, if_neg (by omega)]
def chE (b : List Nat) (i : Nat) : Nat := ln b i ^^^ ((18446744073709551615 - ln b ((i % 5 + 1) % 5 + 5 * (i / 5))) &&& ln b ((i % 5 + 2) % 5 + 5 * (i / 5)))
def oP (b : List Nat) (n : Nat) : List Nat := (List.range 25).map fun i => if 5 * (i % 5) + i / 5 < n then chE b i else 0
theorem oP_len (b : List Nat) (n : Nat) : (oP b n).length = 25 := by simp [oP]
theorem oP_zero (a : List Nat) : oP a (5 * 0 + 0) = List.replicate 25 0 := by
  apply lanes_ext (oP_len _ _) (by simp)
  intro i hi
  unfold oP
  rw [ln_range _ _ hi, if_neg (by omega)]
  unfold ln
  rw [List.getD_eq_getElem?_getD, List.getElem?_replicate, if_pos hi]
  rfl
theorem oP_end (b : List Nat) : oP b 25 = chiL b := by
  apply lanes_ext (oP_len _ _) (by simp [chiL])
  intro i hi
  unfold oP
  rw [ln_range _ _ hi, if_pos (by omega)]
  unfold chiL
  rw [ln_range _ _ hi]
  rfl
theorem oP_set (b : List Nat) (x y : Nat) (hx : x < 5) (hy : y < 5) : (oP b (5 * x + y)).set (x + 5 * y) (ln b (x + 5 * y) ^^^ ((18446744073709551615 - ln b ((x + 1) % 5 + 5 * y)) &&& ln b ((x + 2) % 5 + 5 * y))) = oP b (5 * x + (y + 1)) := by
  have he : chE b (x + 5 * y) = ln b (x + 5 * y) ^^^ ((18446744073709551615 - ln b ((x + 1) % 5 + 5 * y)) &&& ln b ((x + 2) % 5 + 5 * y)) := by
    unfold chE
    rw [show (x + 5 * y) % 5 = x by omega, show (x + 5 * y) / 5 = y by omega]
  rw [← he]
  apply lanes_ext (by simp [oP]) (oP_len _ _)
  intro i hi
  rw [ln_set (by rw [oP_len]; omega)]
  unfold oP
  rw [ln_range _ _ hi, ln_range _ _ hi]
  by_cases h : i = x + 5 * y
  · rw [if_pos h, if_pos (by omega), h]
  · rw [if_neg h]
    by_cases h2 : 5 * (i % 5) + i / 5 < 5 * x + y
    · rw [if_pos h2, if_pos (by omega)]
    · rw [if_neg h2, if_neg (by omega)]
theorem lan_set (l : List Nat) (k v : Nat) : (l.map u64v).set k (.int .u64 (v : Int)) = (l.set k v).map u64v := by
  rw [List.map_set]; rfl
theorem zero_lan (n : Nat) : List.replicate n (Value.int .u64 0) = (List.replicate n 0).map u64v := by
  rw [List.map_replicate]; rfl
theorem OwnV.set_off {w : World} {base g n c h k : Nat} {e : TypeId} {xs : List Value} (ho : OwnV w base e (.slice (some ⟨g, 0, none⟩) n c) xs) (v : Value) (hne : g ≠ h) : OwnV (w.setCell ⟨h, k, none⟩ v) base e (.slice (some ⟨g, 0, none⟩) n c) xs := by
  refine ⟨ho.1, ?_⟩
  rcases ho.2 with hn | ⟨g', cap, cur, hv, hb, hg, rest⟩
  · exact .inl hn
  · refine .inr ⟨g', cap, cur, hv, hb, ?_, rest⟩
    cases hv
    rw [Below.heap_setCell _ _ _ g hne]
    exact hg
theorem OwnV.drewN {w : World} {base : Nat} {e : TypeId} {v : Value} {xs : List Value} (h : OwnV w base e v xs) (n : Nat) : OwnV (w.drewN n) base e v xs := h
theorem Below.drewK {B : Nat} {a w : World} (h : Below B a w) (n : Nat) : Below B a (w.drewN n) := ⟨h.os, h.tape, h.output, h.size, h.block⟩
end Go.Proofs.YtkidgllmhdfgaanDoor
