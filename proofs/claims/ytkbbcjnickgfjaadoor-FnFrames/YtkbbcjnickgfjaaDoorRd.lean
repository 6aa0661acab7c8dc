/- Laws of no program: rows of one-cell values that can be read. -/
import Derived.Test.YtkbbcjnickgfjaaDoorStrs
namespace Go.Proofs.YtkbbcjnickgfjaaDoor
open Go.RowKit

theorem bDN {B : Nat} {w w' : World} (h : Below B w w') (n : Nat) : Below B w (w'.drewN n) := ⟨h.os, h.tape, h.output, h.size, h.block⟩
/-- The slice value v is a row in which the one-cell values xs can be read. -/
def RdV (w : World) (v : Value) (xs : List Value) : Prop :=
  (∃ a c, v = .slice a 0 c ∧ xs = []) ∨ ∃ g o c, v = .slice (some ⟨g, o, none⟩) xs.length c ∧ 0 < xs.length ∧ g < w.heap.size ∧ ∀ (j : Nat) (x : Value), xs[j]? = some x → w.cell? ⟨g, o + j, none⟩ = some x
theorem RdV.below {w w' : World} {v : Value} {xs : List Value} (h : RdV w v xs) (hb : Below w.heap.size w w') : RdV w' v xs := by
  rcases h with h | ⟨g, o, c, rfl, hn, hg, hc⟩
  · exact .inl h
  · exact .inr ⟨g, o, c, rfl, hn, Nat.lt_of_lt_of_le hg hb.size, fun j f hj => (hb.cell (p := ⟨g, o + j, none⟩) hg).trans (hc j f hj)⟩
theorem RdV.below_at {w w' : World} {v : Value} {xs : List Value} (h : RdV w v xs) {B : Nat} (hb : Below B w w') (hB : ∀ g, v.ownBlock = some g → g < B) : RdV w' v xs := by
  rcases h with h | ⟨g, o, c, rfl, hn, hg, hc⟩
  · exact .inl h
  · exact .inr ⟨g, o, c, rfl, hn, Nat.lt_of_lt_of_le hg hb.size, fun j f hj => (hb.cell (p := ⟨g, o + j, none⟩) (hB g rfl)).trans (hc j f hj)⟩
theorem RdV.alloc {w : World} {v : Value} {xs : List Value} (h : RdV w v xs) (o : Obj) : RdV (w.alloc o) v xs := h.below ((Below.refl _ _).alloc (Nat.le_refl _) _)
theorem RdV.drew {w : World} {v : Value} {xs : List Value} (h : RdV w v xs) : RdV w.drew v xs := h.below (Below.refl _ _).drew
theorem RdV.open {w : World} {v : Value} {xs : List Value} (h : RdV w v xs) : ∃ a c, v = .slice a xs.length c ∧ ∀ (j : Nat) (x : Value), xs[j]? = some x → ∃ g o, a = some ⟨g, o, none⟩ ∧ g < w.heap.size ∧ w.cell? ⟨g, o + j, none⟩ = some x := by
  rcases h with ⟨a, c, rfl, rfl⟩ | ⟨g, o, c, rfl, _, hg, hc⟩
  · exact ⟨a, c, rfl, fun j f hj => by simp at hj⟩
  · exact ⟨_, c, rfl, fun j f hj => ⟨g, o, rfl, hg, hc j f hj⟩⟩
theorem RdV.shape {w : World} {v : Value} {xs : List Value} (h : RdV w v xs) : ∃ a c, v = .slice a xs.length c := by
  obtain ⟨a, c, h, _⟩ := h.open
  exact ⟨a, c, h⟩
theorem OwnV.rdv {w : World} {base : Nat} {e : TypeId} {v : Value} {xs : List Value} (h : OwnV w base e v xs) : RdV w v xs := by
  rcases h.2 with ⟨h1, h2⟩ | ⟨g, cap, cur, h1, hb, hg, _⟩
  · exact .inl ⟨none, 0, h1, List.eq_nil_of_length_eq_zero h2⟩
  · by_cases hz : xs.length = 0
    · exact .inl ⟨_, cap, by rw [h1, hz], List.eq_nil_of_length_eq_zero hz⟩
    · subst h1
      exact .inr ⟨g, 0, cap, rfl, by omega, (Array.getElem?_eq_some_iff.1 hg).1, fun j x hj => by rw [Nat.zero_add]; exact h.cell hj⟩

theorem RdV.grown {w w' : World} {v : Value} {xs : List Value} {r : Option Nat} (h : RdV w v xs) (hg : w.grownBy w' r) (hne : ∀ k, v.ownBlock = some k → r ≠ some k) : RdV w' v xs := by
  rcases h with h | ⟨g, o, c, rfl, hn, hgl, hc⟩
  · exact .inl h
  · refine .inr ⟨g, o, c, rfl, hn, Nat.lt_of_lt_of_le hgl hg.size, fun j f hj => ?_⟩
    rw [← hc j f hj]
    unfold World.cell?
    rw [hg.block g hgl (fun e => hne g rfl e.symm)]
end Go.Proofs.YtkbbcjnickgfjaaDoor
