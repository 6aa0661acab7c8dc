/- The sponge's round as impl goes it, reckoned on whole numbers. -/
import Derived.Test.YtkidgllmhdfgaanDoorKecI
namespace Go.Proofs.YtkidgllmhdfgaanDoor
open Go.RowKit
theorem ln_set {l : List Nat} {k v i : Nat} (hk : k < l.length) : ln (l.set k v) i = if i = k then v else ln l i := by
  unfold ln
  rw [List.getD_eq_getElem?_getD, List.getD_eq_getElem?_getD]
  by_cases h : i = k
  · rw [if_pos h, h, List.getElem?_set_self hk]; rfl
  · rw [if_neg h, List.getElem?_set_ne (Ne.symm h)]
/- the five sums of the columns, of which k are reckoned -/
def cL (a : List Nat) (k : Nat) : List Nat := (List.range 5).map fun x => if x < k then thC a x else 0
theorem cL_len (a : List Nat) (k : Nat) : (cL a k).length = 5 := by simp [cL]
theorem cL_set (a : List Nat) (k : Nat) (hk : k < 5) : (cL a k).set k (thC a k) = cL a (k + 1) := by
  have h : k = 0 ∨ k = 1 ∨ k = 2 ∨ k = 3 ∨ k = 4 := by omega
  rcases h with rfl | rfl | rfl | rfl | rfl <;> rfl
theorem cL_ln (a : List Nat) (x : Nat) (hx : x < 5) : ln (cL a 5) x = thC a x := by
  have h : x = 0 ∨ x = 1 ∨ x = 2 ∨ x = 3 ∨ x = 4 := by omega
  rcases h with rfl | rfl | rfl | rfl | rfl <;> rfl
/- the lanes, of which n are changed, column by column -/
def thP (a : List Nat) (n : Nat) : List Nat := (List.range 25).map fun i => if 5 * (i % 5) + i / 5 < n then ln a i ^^^ thD a (i % 5) else ln a i
def thetaL (a : List Nat) : List Nat := (List.range 25).map fun i => ln a i ^^^ thD a (i % 5)
theorem thP_len (a : List Nat) (n : Nat) : (thP a n).length = 25 := by simp [thP]
theorem thP_zero {a : List Nat} (h : a.length = 25) : thP a 0 = a := by
  apply lanes_ext (thP_len a 0) h
  intro i hi
  unfold thP
  rw [ln_range _ _ hi, if_neg (by omega)]
theorem thP_end (a : List Nat) : thP a 25 = thetaL a := by
  apply lanes_ext (thP_len a 25) (by simp [thetaL])
  intro i hi
  unfold thP thetaL
  rw [ln_range _ _ hi, ln_range _ _ hi, if_pos (by omega)]
theorem thP_at (a : List Nat) (x y : Nat) (hx : x < 5) (hy : y < 5) : ln (thP a (5 * x + y)) (5 * y + x) = ln a (5 * y + x) := by
  unfold thP
  rw [ln_range _ _ (by omega), if_neg (by omega)]
theorem thP_set (a : List Nat) (x y : Nat) (hx : x < 5) (hy : y < 5) : (thP a (5 * x + y)).set (5 * y + x) (ln a (5 * y + x) ^^^ thD a x) = thP a (5 * x + y + 1) := by
  apply lanes_ext (by simp [thP]) (thP_len _ _)
  intro i hi
  rw [ln_set (by rw [thP_len]; omega)]
  unfold thP
  rw [ln_range _ _ hi, ln_range _ _ hi]
  by_cases h : i = 5 * y + x
  · rw [if_pos h, if_pos (by omega), h, show (5 * y + x) % 5 = x by omega]
  · rw [if_neg h]
    by_cases h2 : 5 * (i % 5) + i / 5 < 5 * x + y
    · rw [if_pos h2, if_pos (by omega)]
    · rw [if_neg h2, if_neg (by omega)]
theorem thetaL_ok {a : List Nat} (h : LanesOk a) : LanesOk (thetaL a) := by
  refine ⟨by simp [thetaL], ?_⟩
  intro x hx
  unfold thetaL at hx
  obtain ⟨i, _, rfl⟩ := List.mem_map.mp hx
  exact lt64_xor (h.ln _) (thD_lt h _)
/- the way from place to place -/
structure Way where
  (x y lane : Nat) (l : List Nat)
def trn (t : Nat) : Nat := (t + 1) * (t + 2) / 2
def rpStep (t : Nat) (s : Way) : Way := ⟨s.y, (2 * s.x + 3 * s.y) % 5, ln s.l (5 * ((2 * s.x + 3 * s.y) % 5) + s.y), s.l.set (5 * ((2 * s.x + 3 * s.y) % 5) + s.y) (rol (trn t % 64) s.lane)⟩
theorem rpStep_mk (t x y lane : Nat) (l : List Nat) : rpStep t ⟨x, y, lane, l⟩ = ⟨y, (2 * x + 3 * y) % 5, l.getD (5 * ((2 * x + 3 * y) % 5) + y) 0, l.set (5 * ((2 * x + 3 * y) % 5) + y) (rol ((t + 1) * (t + 2) / 2 % 64) lane)⟩ := rfl
def rpSt (b : List Nat) : Nat → Way
  | 0 => ⟨1, 0, ln b 1, b⟩
  | t + 1 => rpStep t (rpSt b t)
def rpL (b : List Nat) : List Nat := (List.range 25).map fun i => rol (ln turnsL ((fromXY i).1 + 5 * (fromXY i).2)) (ln b ((fromXY i).1 + 5 * (fromXY i).2))
set_option maxRecDepth 20000 in
theorem rpSt_end (b : List Nat) (h : b.length = 25) : (rpSt b 24).l = rpL b := by
  match b, h with
  | [b0, b1, b2, b3, b4, b5, b6, b7, b8, b9, b10, b11, b12, b13, b14, b15, b16, b17, b18, b19, b20, b21, b22, b23, b24], _ =>
    simp only [rpSt, rpStep_mk, ln, List.getD_cons_succ, List.getD_cons_zero, List.set_cons_succ, List.set_cons_zero, Nat.reduceMul, Nat.reduceAdd, Nat.reduceMod, Nat.reduceDiv]
    rfl
theorem rpL_theta (a : List Nat) : rpL (thetaL a) = rhoPi a := by
  apply lanes_ext (by simp [rpL]) (by simp [rhoPi])
  intro i hi
  unfold rpL rhoPi
  rw [ln_range _ _ hi, ln_range _ _ hi]
  have h1 : (fromXY i).1 < 5 := Nat.mod_lt _ (by decide)
  have h2 : (fromXY i).2 < 5 := Nat.mod_lt _ (by decide)
  congr 1
  unfold thetaL
  rw [ln_range _ _ (by omega), show ((fromXY i).1 + 5 * (fromXY i).2) % 5 = (fromXY i).1 by omega]
def Way.ok (s : Way) : Prop := s.x < 5 ∧ s.y < 5 ∧ s.lane < M64 ∧ LanesOk s.l
theorem rpStep_ok {s : Way} (h : s.ok) (t : Nat) : (rpStep t s).ok := by
  obtain ⟨h1, h2, h3, h4⟩ := h
  refine ⟨h2, Nat.mod_lt _ (by decide), h4.ln _, by simp [rpStep, h4.1], ?_⟩
  intro x hx
  rcases List.mem_or_eq_of_mem_set hx with k | k
  · exact h4.2 x k
  · rw [k]; exact rol_lt (Nat.mod_lt _ (by decide)) h3
theorem rpSt_ok {b : List Nat} (h : LanesOk b) (t : Nat) : (rpSt b t).ok := by
  induction t with
  | zero => exact ⟨show 1 < 5 by decide, show 0 < 5 by decide, h.ln _, h⟩
  | succ t ih => exact rpStep_ok ih t
theorem trn_ne : ∀ t, t < 24 → trn t % 64 ≠ 0 := by decide +kernel
theorem trn_lt : ∀ t, t < 24 → trn t < 1000 := by decide +kernel
/- row by row -/
def chR (a : List Nat) (y x : Nat) : Nat := ln a (5 * y + x) ^^^ ((18446744073709551615 - ln a (5 * y + (x + 1) % 5)) &&& ln a (5 * y + (x + 2) % 5))
def chP (a : List Nat) (n : Nat) : List Nat := (List.range 25).map fun i => if i / 5 < n then chR a (i / 5) (i % 5) else ln a i
theorem chP_len (a : List Nat) (n : Nat) : (chP a n).length = 25 := by simp [chP]
theorem chP_zero {a : List Nat} (h : a.length = 25) : chP a 0 = a := by
  apply lanes_ext (chP_len a 0) h
  intro i hi
  unfold chP
  rw [ln_range _ _ hi, if_neg (by omega)]
theorem chP_end (a : List Nat) : chP a 5 = chiL a := by
  apply lanes_ext (chP_len a 5) (by simp [chiL])
  intro i hi
  unfold chP chiL chR
  rw [ln_range _ _ hi, ln_range _ _ hi, if_pos (by omega), show 5 * (i / 5) + i % 5 = i by omega, Nat.add_comm ((i % 5 + 1) % 5), Nat.add_comm ((i % 5 + 2) % 5)]
theorem chP_at (a : List Nat) (y x : Nat) (hy : y < 5) (hx : x < 5) : ln (chP a y) (5 * y + x) = ln a (5 * y + x) := by
  unfold chP
  rw [ln_range _ _ (by omega), if_neg (by omega)]
end Go.Proofs.YtkidgllmhdfgaanDoor
