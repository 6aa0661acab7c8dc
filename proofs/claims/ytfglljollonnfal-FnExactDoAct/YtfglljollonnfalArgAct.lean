/- An act that comes in as an argument, read as its four fields. -/
import Derived.Test.YtfglljollonnfalArgDisk
import Derived.Test.YtfglljollonnfalShelfD
namespace Go.Proofs.Ytfglljollonnfal
open Go.ChangeShapes Go.WideShapes Go.ChangeAt Go.RowKit Go.WideElems

def AcOk (a : Ac) : Prop := a.nm.size ≤ maxLen ∧ a.tx.size ≤ maxLen ∧ a.to.size ≤ maxLen
def acc (a : Ac) : List Value := [.int .i64 a.kd, .string a.nm, .string a.tx, .string a.to]

theorem list4 {α : Type} {l : List α} (h : l.length = 4) : ∃ a b c d, l = [a, b, c, d] := by
  match l, h with
  | [a, b, c, d], _ => exact ⟨a, b, c, d, rfl⟩

section
variable {H : Type} {enc : TypeId × Value → H} {P : Program} {W : World} {spare : Nat → Bool} {held : Bool}
theorem act_cells {e : TypeId} {f0 f1 f2 f3 : Field} {n : Nat} {cs : List Value} {y : DataW H × List MemPlace} (he : P.underlying e = some (.struct #[f0, f1, f2, f3])) (ce : P.cellsOf e = 4)
    (o0 : f0.offset = 0) (o1 : f1.offset = 1) (o2 : f2.offset = 2) (o3 : f3.offset = 3) (c0 : P.cellsOf f0.type = 1) (c1 : P.cellsOf f1.type = 1) (c2 : P.cellsOf f2.type = 1) (c3 : P.cellsOf f3.type = 1)
    {S I : TypeId} (t0 : f0.type = I) (t1 : f1.type = S) (t2 : f2.type = S) (t3 : f3.type = S) (uS : P.underlying S = some .string) (uI : P.underlying I = some (.int .i64))
    (h : DataW.trod enc P W 0 spare held n e cs = some y) : ∃ a : Ac, cs = acc a ∧ AcOk a := by
  obtain ⟨y0, y1, y2, y3, k, _, hcl, g0, g1, g2, g3⟩ := Go.Joins.trod_struct4 he h
  rw [ce] at hcl
  obtain ⟨v0, v1, v2, v3, rfl⟩ := list4 hcl
  rw [o0, c0, t0] at g0
  rw [o1, c1, t1] at g1
  rw [o2, c2, t2] at g2
  rw [o3, c3, t3] at g3
  simp only [List.drop_zero, List.drop_succ_cons, List.take_succ_cons, List.take_zero] at g0 g1 g2 g3
  obtain ⟨i0, e0, _, _⟩ := DataW.trod_int uI g0
  obtain ⟨s1, e1, _, w1⟩ := DataW.trod_string uS g1
  obtain ⟨s2, e2, _, w2⟩ := DataW.trod_string uS g2
  obtain ⟨s3, e3, _, w3⟩ := DataW.trod_string uS g3
  simp only [List.cons.injEq, and_true] at e0 e1 e2 e3
  subst e0 e1 e2 e3
  exact ⟨⟨i0, s1, s2, s3⟩, rfl, w1, w2, w3⟩
end

theorem cellsAct : Try.prog.cellsOf 26 = 4 := by kernel_rfl
theorem cellsStrA : Try.prog.cellsOf 9 = 1 := by kernel_rfl
theorem cellsIntA : Try.prog.cellsOf 3 = 1 := by kernel_rfl
theorem act_at {H : Type} {enc : TypeId × Value → H} {W : World} {spare : Nat → Bool} {held : Bool} (k : Nat) (cs : List Value) (y : DataW H × List MemPlace)
    (hk : DataW.trod enc Try.prog W 0 spare held k 26 cs = some y) : ∃ a : Ac, cs = acc a ∧ AcOk a :=
  act_cells (P := Try.prog) (e := 26) (S := 9) (I := 3) Try.underlying26 cellsAct rfl rfl rfl rfl cellsIntA cellsStrA cellsStrA cellsStrA rfl rfl rfl rfl Try.underlying9 Try.underlying3 hk
set_option maxRecDepth 20000 in
theorem open_act {H : Type} {enc : TypeId × Value → H} {W : World} {base : Nat} {v : Value} {d : DataW H} {ps : List MemPlace} (hv : Value.okWide Try.prog W .any base 26 v)
    (h : DataW.Trod enc Try.prog W 0 (fun _ => true) true 26 v d ps) : ∃ x : Ac, v = acv x ∧ AcOk x := by
  obtain ⟨cs, rfl, hsz⟩ := okWide_struct Try.underlying26 hv
  obtain ⟨fuel, hf⟩ := h
  obtain ⟨x, hx, hok⟩ := act_at _ _ _ hf
  refine ⟨x, ?_, hok⟩
  have : cs.toList = acc x := by simpa [Value.cells] using hx
  unfold acv
  congr 1
  apply Array.toList_inj.1
  rw [this]
  rfl
end Go.Proofs.Ytfglljollonnfal
