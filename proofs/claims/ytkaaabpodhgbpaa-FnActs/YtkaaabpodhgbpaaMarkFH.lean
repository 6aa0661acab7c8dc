/- What laws.markFileS, markDisk, heldFileS, heldDisk come to: rows of files of the call's own are marked, and the marks are found. The laws' own helpers on lists of acts: their size is counted, copies are made, compared, marked. -/
import Derived.Test.YtkaaabpodhgbpaaMarkT
import Derived.Test.YtkaaabpodhgbpaaFiles
import Derived.Test.YtkaaabpodhgbpaaActs
import Derived.Test.YtkaaabpodhgbpaaActA
namespace Go.Proofs.Ytkaaabpodhgbpaa
open Go.RowKit

/-- The marks from k on, n files of them. -/
def mkF1 (k i : Nat) : Fl := ⟨mkS (k + 3 * i), mkS (k + 3 * i + 1), ((k + 3 * i + 2 : Nat) : Int)⟩
def mkF (k n : Nat) : List Fl := (List.range n).map (mkF1 k)
theorem mkF_len (k n : Nat) : (mkF k n).length = n := by unfold mkF; simp
theorem mkF_succ (k n : Nat) : mkF k (n + 1) = mkF k n ++ [mkF1 k n] := by unfold mkF; rw [List.range_succ, List.map_append]; rfl
theorem mkF_at (k n i : Nat) (h : i < n) : (mkF k n)[i]? = some (mkF1 k i) := by unfold mkF; simp [h]
theorem mkF_set (k i : Nat) (fs : List Fl) (h : i < fs.length) : (mkF k i ++ fs.drop i).set i (mkF1 k i) = mkF k (i + 1) ++ fs.drop (i + 1) := by
  rw [List.drop_eq_getElem_cons h, List.set_append_right _ _ (by rw [mkF_len]; exact Nat.le_refl _), mkF_len, Nat.sub_self, List.set_cons_zero, mkF_succ]
  simp

theorem OwnF.open {w : World} {base : Nat} {e : TypeId} {v : Value} {fs : List Fl} (h : OwnF w base e v fs) : (fs = [] ∧ ∃ a c, v = .slice a 0 c) ∨ ∃ g c, v = .slice (some ⟨g, 0, none⟩) fs.length c ∧ base ≤ g ∧ g < w.heap.size := by
  rcases h.2 with ⟨h1, h2⟩ | ⟨g, cap, cur, h1, hb, hg, _⟩
  · exact .inl ⟨List.eq_nil_of_length_eq_zero h2, none, 0, h1⟩
  · exact .inr ⟨g, cap, h1, hb, (Array.getElem?_eq_some_iff.1 hg).1⟩




end Go.Proofs.Ytkaaabpodhgbpaa

namespace Go.Proofs.Ytkaaabpodhgbpaa
open Go.RowKit

def acsSz : List Ac → Nat
  | [] => 0
  | a :: r => acSz a + acsSz r
theorem acsSz_append (a b : List Ac) : acsSz (a ++ b) = acsSz a + acsSz b := by
  induction a with
  | nil => simp [acsSz]
  | cons x r ih => simp only [List.cons_append, acsSz, ih]; omega
theorem acsSz_mem {fs : List Ac} {f : Ac} (h : f ∈ fs) : acSz f ≤ acsSz fs := by
  induction fs with
  | nil => cases h
  | cons x r ih =>
    simp only [acsSz]
    rcases List.mem_cons.1 h with rfl | h
    · omega
    · have := ih h; omega
theorem acsSz_take {fs : List Ac} {k : Nat} {f : Ac} (h : fs[k]? = some f) : acsSz (fs.take (k + 1)) = acsSz (fs.take k) + acSz f := by
  rw [List.take_add_one, h, acsSz_append]
  simp [acsSz]


theorem infoAct : (Try.prog.info? 45).map (fun i => (i.zero, i.size, i.bytes)) = some (some (acv acz), 4, 56) := by kernel_rfl



theorem OwnA.open {w : World} {base : Nat} {e : TypeId} {v : Value} {fs : List Ac} (h : OwnA w base e v fs) : (fs = [] ∧ ∃ a c, v = .slice a 0 c) ∨ ∃ g c, v = .slice (some ⟨g, 0, none⟩) fs.length c ∧ base ≤ g ∧ g < w.heap.size := by
  rcases h.2 with ⟨h1, h2⟩ | ⟨g, cap, cur, h1, hb, hg, _⟩
  · exact .inl ⟨List.eq_nil_of_length_eq_zero h2, none, 0, h1⟩
  · exact .inr ⟨g, cap, h1, hb, (Array.getElem?_eq_some_iff.1 hg).1⟩

end Go.Proofs.Ytkaaabpodhgbpaa
