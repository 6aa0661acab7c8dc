/- A stream that comes in as an argument, read as its two fields. -/
import Derived.Test.YtkidgllmhdfgaaoDoorStm
import Derived.Test.YtkidgllmhdfgaaoDoorProg
import Derived.Test.YtkidgllmhdfgaaoDoorChecked
import Derived.Below
import Derived.Carry
import Derived.WalkKit
import Derived.ProofKit
import Derived.OpenShut
import Derived.ShutString
import Derived.WideShapes
import Derived.Deep.Strs
namespace Go.Proofs.YtkidgllmhdfgaaoDoor
open Go.ChangeShapes Go.WideShapes Go.ChangeAt Go.RowKit Go.WideElems
def smc (a : Sm) : List Value := [.string a.st, .int .i64 a.p]
theorem two_of {α : Type} {l : List α} (h : l.length = 2) : ∃ a b, l = [a, b] := by
  match l, h with
  | [a, b], _ => exact ⟨a, b, rfl⟩
section
variable {H : Type} {enc : TypeId × Value → H} {P : Program} {W : World} {spare : Nat → Bool} {held : Bool}
theorem trod_pair {t : TypeId} {f0 f1 : Field} {fuel base : Nat} {cs : List Value} {x : DataW H × List MemPlace} (ht : P.underlying t = some (.struct #[f0, f1])) (h : DataW.trod enc P W base spare held fuel t cs = some x) :
    ∃ y0 y1 n, x = (.agg [y0.1, y1.1], y0.2 ++ y1.2) ∧ cs.length = P.cellsOf t ∧ DataW.trod enc P W base spare held n f0.type ((cs.drop f0.offset).take (P.cellsOf f0.type)) = some y0 ∧
      DataW.trod enc P W base spare held n f1.type ((cs.drop f1.offset).take (P.cellsOf f1.type)) = some y1 := by
  obtain ⟨xs, n, _, rfl, hl, hlen, hf⟩ := DataW.trod_struct ht h
  match xs, hlen with
  | [y0, y1], _ => exact ⟨y0, y1, n, by simp, hl, by simpa using hf 0 f0 rfl, by simpa using hf 1 f1 rfl⟩
theorem stm_cells {e : TypeId} {f0 f1 : Field} {n : Nat} {cs : List Value} {y : DataW H × List MemPlace} (he : P.underlying e = some (.struct #[f0, f1])) (ce : P.cellsOf e = 2)
    (o0 : f0.offset = 0) (o1 : f1.offset = 1) (c0 : P.cellsOf f0.type = 1) (c1 : P.cellsOf f1.type = 1)
    {S I : TypeId} (t0 : f0.type = S) (t1 : f1.type = I) (uS : P.underlying S = some .string) (uI : P.underlying I = some (.int .i64))
    (h : DataW.trod enc P W 0 spare held n e cs = some y) : ∃ a : Sm, cs = smc a ∧ a.st.size ≤ maxLen := by
  obtain ⟨y0, y1, k, _, hcl, g0, g1⟩ := trod_pair he h
  rw [ce] at hcl
  obtain ⟨v0, v1, rfl⟩ := two_of hcl
  rw [o0, c0, t0] at g0
  rw [o1, c1, t1] at g1
  simp only [List.drop_zero, List.drop_succ_cons, List.take_succ_cons, List.take_zero] at g0 g1
  obtain ⟨s0, e0, _, w0⟩ := DataW.trod_string uS g0
  obtain ⟨i1, e1, _, _⟩ := DataW.trod_int uI g1
  simp only [List.cons.injEq, and_true] at e0 e1
  subst e0 e1
  exact ⟨⟨s0, i1⟩, rfl, w0⟩
end
set_option maxRecDepth 20000 in
theorem stm_at {H : Type} {enc : TypeId × Value → H} {W : World} {spare : Nat → Bool} {held : Bool} (k : Nat) (cs : List Value) (y : DataW H × List MemPlace) (h : DataW.trod enc Tryd.prog W 0 spare held k 27 cs = some y) : ∃ a : Sm, cs = smc a ∧ a.st.size ≤ maxLen :=
  stm_cells Tryd.underlying27 (by kernel_rfl) rfl rfl (by kernel_rfl) (by kernel_rfl) (S := 9) (I := 3) rfl rfl Tryd.underlying9 Tryd.underlying3 h
set_option maxRecDepth 20000 in
theorem open_stream {H : Type} {enc : TypeId × Value → H} {W : World} {base : Nat} {v : Value} {d : DataW H} {ps : List MemPlace} (hv : Value.okWide Tryd.prog W .any base 27 v)
    (h : DataW.Trod enc Tryd.prog W 0 (fun _ => true) true 27 v d ps) : ∃ x : Sm, v = smv x ∧ x.st.size ≤ maxLen := by
  obtain ⟨cs, rfl, hsz⟩ := okWide_struct Tryd.underlying27 hv
  obtain ⟨fuel, hf⟩ := h
  obtain ⟨x, hx, hok⟩ := stm_at _ _ _ hf
  refine ⟨x, ?_, hok⟩
  have : cs.toList = smc x := by simpa [Value.cells] using hx
  unfold smv
  congr 1
  apply Array.toList_inj.1
  rw [this]
  rfl
end Go.Proofs.YtkidgllmhdfgaaoDoor
