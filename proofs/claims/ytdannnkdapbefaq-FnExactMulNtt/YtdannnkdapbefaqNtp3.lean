/- The numbers in the midst of a layer. -/
import Derived.Test.YtdannnkdapbefaqNtp2
import Derived.Test.YtdannnkdapbefaqPly4
import Derived.Test.YtdannnkdapbefaqPly5
namespace Go.Proofs.Ytdannnkdapbefaq
open Go.RowKit
/-- A layer of which the blocks before b are done, and of block b the first r pairs. -/
def mdG (s : Nat) (φ F : Nat → Int) (b r : Nat) : List Int := mk256 fun t => if t / (2 * s) < b ∨ (t / (2 * s) = b ∧ t % s < r) then φ t % 3329 else F t
theorem mdG_len (s : Nat) (φ F : Nat → Int) (b r : Nat) : (mdG s φ F b r).length = 256 := mk256_len _
theorem mdG_at (s : Nat) (φ F : Nat → Int) (b r t : Nat) (ht : t < 256) : cAt (mdG s φ F b r) t = if t / (2 * s) < b ∨ (t / (2 * s) = b ∧ t % s < r) then φ t % 3329 else F t := mk256_at _ t ht
theorem mdG_start (s : Nat) (φ : Nat → Int) {l : List Int} (h : okPl l = true) : mdG s φ (cAt l) 0 0 = l := by
  refine ext_pl (mdG_len _ _ _ _ _) (okPl_yes h).1 fun t ht => ?_
  rw [mdG_at _ _ _ _ _ t ht, if_neg (fun h => by rcases h with h | h; exact absurd h (Nat.not_lt_zero _); exact absurd h.2 (Nat.not_lt_zero _))]
theorem mdG_next {s : Nat} (hs : Sz s) (φ F : Nat → Int) (b : Nat) : mdG s φ F b s = mdG s φ F (b + 1) 0 := by
  refine ext_pl (mdG_len _ _ _ _ _) (mdG_len _ _ _ _ _) fun t ht => ?_
  rw [mdG_at _ _ _ _ _ t ht, mdG_at _ _ _ _ _ t ht]
  have hm : t % s < s := Nat.mod_lt _ (by rcases hs with rfl | rfl | rfl | rfl | rfl | rfl | rfl <;> omega)
  by_cases c : t / (2 * s) < b + 1
  · rw [if_pos (by omega), if_pos (by omega)]
  · rw [if_neg (by omega), if_neg (by omega)]
theorem mdG_end {s : Nat} (hs : Sz s) (φ F : Nat → Int) : mdG s φ F (128 / s) 0 = mk256 fun t => φ t % 3329 := by
  refine ext_pl (mdG_len _ _ _ _ _) (mk256_len _) fun t ht => ?_
  rw [mdG_at _ _ _ _ _ t ht, mk256_at _ t ht, if_pos]
  left
  rcases hs with rfl | rfl | rfl | rfl | rfl | rfl | rfl <;> omega
theorem mdG_old {s : Nat} (hs : Sz s) (φ F : Nat → Int) (b r : Nat) (hb : b < 128 / s) (hr : r < s) : cAt (mdG s φ F b r) (2 * b * s + r) = F (2 * b * s + r) ∧ cAt (mdG s φ F b r) (2 * b * s + r + s) = F (2 * b * s + r + s) := by
  have h : 2 * b * s + r + s < 256 ∧ ¬ ((2 * b * s + r) / (2 * s) < b ∨ ((2 * b * s + r) / (2 * s) = b ∧ (2 * b * s + r) % s < r)) ∧ ¬ ((2 * b * s + r + s) / (2 * s) < b ∨ ((2 * b * s + r + s) / (2 * s) = b ∧ (2 * b * s + r + s) % s < r)) := by
    rcases hs with rfl | rfl | rfl | rfl | rfl | rfl | rfl <;> omega
  rw [mdG_at _ _ _ _ _ _ (by omega), mdG_at _ _ _ _ _ _ h.1, if_neg h.2.1, if_neg h.2.2]
  exact ⟨rfl, rfl⟩
theorem mdG_step {s : Nat} (hs : Sz s) (φ F : Nat → Int) (b r : Nat) (hb : b < 128 / s) (hr : r < s) : ((mdG s φ F b r).set (2 * b * s + r + s) (φ (2 * b * s + r + s) % 3329)).set (2 * b * s + r) (φ (2 * b * s + r) % 3329) = mdG s φ F b (r + 1) := by
  have hj : 2 * b * s + r + s < 256 := by rcases hs with rfl | rfl | rfl | rfl | rfl | rfl | rfl <;> omega
  refine ext_pl (by rw [List.length_set, List.length_set, mdG_len]) (mdG_len _ _ _ _ _) fun t ht => ?_
  rw [cAt_set _ _ _ _ (by rw [List.length_set, mdG_len]; omega), cAt_set _ _ _ _ (by rw [mdG_len]; omega), mdG_at _ _ _ _ _ t ht, mdG_at _ _ _ _ _ t ht]
  have hd : (t / (2 * s) < b ∨ (t / (2 * s) = b ∧ t % s < r + 1)) ↔ ((t / (2 * s) < b ∨ (t / (2 * s) = b ∧ t % s < r)) ∨ t = 2 * b * s + r ∨ t = 2 * b * s + r + s) := by
    rcases hs with rfl | rfl | rfl | rfl | rfl | rfl | rfl <;> omega
  by_cases c1 : t = 2 * b * s + r
  · rw [if_pos c1, if_pos (hd.2 (.inr (.inl c1))), c1]
  · rw [if_neg c1]
    by_cases c2 : t = 2 * b * s + r + s
    · rw [if_pos c2, if_pos (hd.2 (.inr (.inr c2))), c2]
    · rw [if_neg c2]
      by_cases c3 : t / (2 * s) < b ∨ (t / (2 * s) = b ∧ t % s < r)
      · rw [if_pos c3, if_pos (hd.2 (.inl c3))]
      · rw [if_neg c3, if_neg (fun h => by rcases hd.1 h with h | h | h <;> contradiction)]
theorem mdG_step' {s : Nat} (hs : Sz s) (φ F : Nat → Int) (b r : Nat) (hb : b < 128 / s) (hr : r < s) : ((mdG s φ F b r).set (2 * b * s + r) (φ (2 * b * s + r) % 3329)).set (2 * b * s + r + s) (φ (2 * b * s + r + s) % 3329) = mdG s φ F b (r + 1) := by
  rw [← mdG_step hs φ F b r hb hr, List.set_comm]
  have : 0 < s := by omega
  omega
theorem mdG_rng {s : Nat} (φ F : Nat → Int) (b r : Nat) (hF : ∀ t, t < 256 → 0 ≤ F t ∧ F t ≤ 3328) (t : Nat) (ht : t < 256) : 0 ≤ cAt (mdG s φ F b r) t ∧ cAt (mdG s φ F b r) t ≤ 3328 := by
  rw [mdG_at _ _ _ _ _ t ht]
  split
  · omega
  · exact hF t ht
theorem lay_lo {s : Nat} (hs : Sz s) (zf f : Nat → Int) (b r : Nat) (hr : r < s) : lay s zf f (2 * b * s + r) = f (2 * b * s + r) + zf b * f (2 * b * s + r + s) := by
  unfold lay
  have e : (2 * b * s + r) % (2 * s) = r ∧ (2 * b * s + r) / (2 * s) = b := by
    rcases hs with rfl | rfl | rfl | rfl | rfl | rfl | rfl <;> omega
  rw [e.1, e.2, if_pos hr]
theorem lay_hi {s : Nat} (hs : Sz s) (zf f : Nat → Int) (b r : Nat) (hr : r < s) : lay s zf f (2 * b * s + r + s) = f (2 * b * s + r) - zf b * f (2 * b * s + r + s) := by
  unfold lay
  have e : ¬ (2 * b * s + r + s) % (2 * s) < s ∧ (2 * b * s + r + s) / (2 * s) = b ∧ 2 * b * s + r + s - s = 2 * b * s + r := by
    rcases hs with rfl | rfl | rfl | rfl | rfl | rfl | rfl <;> omega
  rw [if_neg e.1, e.2.1, e.2.2]
theorem ily_lo {s : Nat} (hs : Sz s) (zf f : Nat → Int) (b r : Nat) (hr : r < s) : ily s zf f (2 * b * s + r) = f (2 * b * s + r) + f (2 * b * s + r + s) := by
  unfold ily
  have e : (2 * b * s + r) % (2 * s) = r := by
    rcases hs with rfl | rfl | rfl | rfl | rfl | rfl | rfl <;> omega
  rw [e, if_pos hr]
theorem ily_hi {s : Nat} (hs : Sz s) (zf f : Nat → Int) (b r : Nat) (hr : r < s) : ily s zf f (2 * b * s + r + s) = zf b * (f (2 * b * s + r + s) - f (2 * b * s + r)) := by
  unfold ily
  have e : ¬ (2 * b * s + r + s) % (2 * s) < s ∧ (2 * b * s + r + s) / (2 * s) = b ∧ 2 * b * s + r + s - s = 2 * b * s + r := by
    rcases hs with rfl | rfl | rfl | rfl | rfl | rfl | rfl <;> omega
  rw [if_neg e.1, e.2.1, e.2.2]
theorem zt_turn (k : Nat) (h : k < 128) : turnZ (k : Int) = (t7 k : Int) ∧ powQ 17 (t7 k : Int) = zt k := by
  constructor
  · unfold turnZ
    rw [show ((k : Int) % 128).toNat = k by omega]
  · unfold powQ zt
    have := t7_lt k
    rw [if_pos (by omega), Int.toNat_natCast]
    rfl
theorem zt_rng (k : Nat) : 0 ≤ zt k ∧ zt k ≤ 3328 := by unfold zt powM; omega
end Go.Proofs.Ytdannnkdapbefaq
