/- What a state gives, and in how many steps, reckoned on lanes. -/
import Derived.Test.YtkidgllmhdfgaanDoorSpg9
namespace Go.Proofs.YtkidgllmhdfgaanDoor
open Go.RowKit
structure Gv where
  (a : List Nat) (p : Nat) (out : List UInt8)
def gvA (g : Gv) : List Nat := if g.p = 168 then keccak g.a else g.a
def gvP (g : Gv) : Nat := if g.p = 168 then 0 else g.p
def gvE (n : Nat) (g : Gv) : Nat := min 168 (gvP g + n - g.out.length)
def gvStep (n : Nat) (g : Gv) : Gv := ⟨gvA g, gvE n g, g.out ++ ((textN (gvA g)).extract (gvP g) (gvE n g)).data.toList⟩
def gvRun (n : Nat) (g : Gv) : Nat → Gv
  | 0 => g
  | k + 1 => if (gvRun n g k).out.length < n then gvStep n (gvRun n g k) else gvRun n g k
def Gv.ok (n : Nat) (g : Gv) : Prop := LanesOk g.a ∧ g.p ≤ 168 ∧ g.out.length ≤ n
theorem gvA_ok {g : Gv} (h : LanesOk g.a) : LanesOk (gvA g) := by
  unfold gvA; split
  · exact keccak_ok h
  · exact h
theorem gvP_lt {g : Gv} (h : g.p ≤ 168) : gvP g < 168 := by
  unfold gvP; split <;> omega
theorem gv_piece {n : Nat} {g : Gv} (h : g.ok n) : ((textN (gvA g)).extract (gvP g) (gvE n g)).data.toList.length = gvE n g - gvP g := by
  have h1 := textN_size (gvA_ok h.1).1
  have h2 : gvE n g ≤ 168 := Nat.min_le_left _ _
  show ((textN (gvA g)).extract (gvP g) (gvE n g)).size = _
  rw [ByteArray.size_extract, h1]
  omega
theorem gvStep_ok {n : Nat} {g : Gv} (h : g.ok n) (hl : g.out.length < n) : (gvStep n g).ok n ∧ g.out.length < (gvStep n g).out.length := by
  have hp := gvP_lt h.2.1
  have hpc := gv_piece h
  have he : gvE n g = min 168 (gvP g + n - g.out.length) := rfl
  have hlen : (gvStep n g).out.length = g.out.length + (gvE n g - gvP g) := by
    show (g.out ++ _).length = _
    rw [List.length_append, hpc]
  refine ⟨⟨gvA_ok h.1, Nat.min_le_left _ _, ?_⟩, ?_⟩ <;> omega
theorem gvRun_ok {n : Nat} {g : Gv} (h : g.ok n) (k : Nat) : (gvRun n g k).ok n := by
  induction k with
  | zero => exact h
  | succ k ih =>
    unfold gvRun
    split
    · next hl => exact (gvStep_ok ih hl).1
    · exact ih
theorem gvRun_stay {n : Nat} {g : Gv} {k : Nat} (h : ¬ (gvRun n g k).out.length < n) (j : Nat) : gvRun n g (k + j) = gvRun n g k := by
  induction j with
  | zero => rfl
  | succ j ih =>
    have e : gvRun n g (k + (j + 1)) = if (gvRun n g (k + j)).out.length < n then gvStep n (gvRun n g (k + j)) else gvRun n g (k + j) := rfl
    rw [e, ih, if_neg h]
def gvEnd (n : Nat) (g : Gv) : Gv := gvRun n g n
theorem gvEnd_is {n : Nat} {g : Gv} {k : Nat} (h : ¬ (gvRun n g k).out.length < n) (hk : k ≤ n) : gvEnd n g = gvRun n g k := by
  have := gvRun_stay h (n - k)
  rw [show k + (n - k) = n by omega] at this
  exact this
def lenV : Value → Nat
  | .slice _ n _ => n
  | _ => 0
end Go.Proofs.YtkidgllmhdfgaanDoor
