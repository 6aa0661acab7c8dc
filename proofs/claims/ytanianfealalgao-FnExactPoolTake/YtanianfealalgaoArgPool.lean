/- A pool that comes in as an argument, read as its three fields. -/
import Derived.Test.YtanianfealalgaoHsh
import Derived.Below
import Derived.Carry
import Derived.WalkKit
import Derived.ProofKit
import Derived.OpenShut
import Derived.ShutString
import Derived.WideShapes
import Derived.Deep.Strs
namespace Go.Proofs.Ytanianfealalgao
open Go.ChangeShapes Go.WideShapes Go.ChangeAt Go.RowKit Go.WideElems
def HsOk (a : Hs) : Prop := a.st.size ≤ maxLen ∧ a.rs.size ≤ maxLen
def hsc (a : Hs) : List Value := [.string a.st, .string a.rs, .int .i64 a.ct]
theorem three_of {α : Type} {l : List α} (h : l.length = 3) : ∃ a b c, l = [a, b, c] := by
  match l, h with
  | [a, b, c], _ => exact ⟨a, b, c, rfl⟩
section
variable {H : Type} {enc : TypeId × Value → H} {P : Program} {W : World} {spare : Nat → Bool} {held : Bool}
theorem hash_cells {e : TypeId} {f0 f1 f2 : Field} {n : Nat} {cs : List Value} {y : DataW H × List MemPlace} (he : P.underlying e = some (.struct #[f0, f1, f2])) (ce : P.cellsOf e = 3)
    (o0 : f0.offset = 0) (o1 : f1.offset = 1) (o2 : f2.offset = 2) (c0 : P.cellsOf f0.type = 1) (c1 : P.cellsOf f1.type = 1) (c2 : P.cellsOf f2.type = 1)
    {S I : TypeId} (t0 : f0.type = S) (t1 : f1.type = S) (t2 : f2.type = I) (uS : P.underlying S = some .string) (uI : P.underlying I = some (.int .i64))
    (h : DataW.trod enc P W 0 spare held n e cs = some y) : ∃ a : Hs, cs = hsc a ∧ HsOk a := by
  obtain ⟨y0, y1, y2, k, _, hcl, g0, g1, g2⟩ := Go.Deep.trod_struct3 he h
  rw [ce] at hcl
  obtain ⟨v0, v1, v2, rfl⟩ := three_of hcl
  rw [o0, c0, t0] at g0
  rw [o1, c1, t1] at g1
  rw [o2, c2, t2] at g2
  simp only [List.drop_zero, List.drop_succ_cons, List.take_succ_cons, List.take_zero] at g0 g1 g2
  obtain ⟨s0, e0, _, w0⟩ := DataW.trod_string uS g0
  obtain ⟨s1, e1, _, w1⟩ := DataW.trod_string uS g1
  obtain ⟨i2, e2, _, _⟩ := DataW.trod_int uI g2
  simp only [List.cons.injEq, and_true] at e0 e1 e2
  subst e0 e1 e2
  exact ⟨⟨s0, s1, i2⟩, rfl, w0, w1⟩
end
set_option maxRecDepth 20000 in
theorem pool_at {H : Type} {enc : TypeId × Value → H} {W : World} {spare : Nat → Bool} {held : Bool} (k : Nat) (cs : List Value) (y : DataW H × List MemPlace) (h : DataW.trod enc Try.prog W 0 spare held k 27 cs = some y) : ∃ a : Hs, cs = hsc a ∧ HsOk a :=
  hash_cells Try.underlying27 (by kernel_rfl) rfl rfl rfl (by kernel_rfl) (by kernel_rfl) (by kernel_rfl) (S := 9) (I := 3) rfl rfl rfl Try.underlying9 Try.underlying3 h
set_option maxRecDepth 20000 in
theorem open_pool {H : Type} {enc : TypeId × Value → H} {W : World} {base : Nat} {v : Value} {d : DataW H} {ps : List MemPlace} (hv : Value.okWide Try.prog W .any base 27 v)
    (h : DataW.Trod enc Try.prog W 0 (fun _ => true) true 27 v d ps) : ∃ x : Hs, v = hsv x ∧ HsOk x := by
  obtain ⟨cs, rfl, hsz⟩ := okWide_struct Try.underlying27 hv
  obtain ⟨fuel, hf⟩ := h
  obtain ⟨x, hx, hok⟩ := pool_at _ _ _ hf
  refine ⟨x, ?_, hok⟩
  have : cs.toList = hsc x := by simpa [Value.cells] using hx
  unfold hsv
  congr 1
  apply Array.toList_inj.1
  rw [this]
  rfl
end Go.Proofs.Ytanianfealalgao
