/- A thing that comes in as an argument, read as its eight fields. -/
import Derived.Test.YtecbpplocokedaaThg0
import Derived.Test.YtecbpplocokedaaProg
import Derived.Below
import Derived.Carry
import Derived.WalkKit
import Derived.ProofKit
import Derived.OpenShut
import Derived.ShutString
import Derived.WideShapes
import Derived.Deep.Strs
namespace Go.Proofs.Ytecbpplocokedaa
open Go.ChangeShapes Go.WideShapes Go.ChangeAt Go.RowKit Go.WideElems
theorem list8 {α : Type} {l : List α} (h : l.length = 8) : ∃ a b c d e f g i, l = [a, b, c, d, e, f, g, i] := by
  match l, h with
  | [a, b, c, d, e, f, g, i], _ => exact ⟨a, b, c, d, e, f, g, i, rfl⟩
set_option maxRecDepth 20000 in
theorem thing_at {H : Type} {enc : TypeId × Value → H} {W : World} {spare : Nat → Bool} {held : Bool} (k : Nat) (cs : List Value) (y : DataW H × List MemPlace) (h : DataW.trod enc Try.prog W 0 spare held k 37 cs = some y) : ∃ x : Th, cs = (thC x).toList ∧ x.val.size ≤ maxLen := by
  obtain ⟨xs, n, _, rfl, hl, hlen, hf⟩ := DataW.trod_struct Try.underlying37 h
  have h8 : Try.prog.cellsOf 37 = 8 := by kernel_rfl
  have ci : Try.prog.cellsOf 3 = 1 := by kernel_rfl
  have cb : Try.prog.cellsOf 4 = 1 := by kernel_rfl
  have cs1 : Try.prog.cellsOf 9 = 1 := by kernel_rfl
  rw [h8] at hl
  obtain ⟨v0, v1, v2, v3, v4, v5, v6, v7, rfl⟩ := list8 hl
  obtain ⟨y0, y1, y2, y3, y4, y5, y6, y7, rfl⟩ := list8 hlen
  have g0 : DataW.trod enc Try.prog W 0 spare held n 3 [v0] = some y0 := by simpa [ci] using hf 0 _ rfl
  have g1 : DataW.trod enc Try.prog W 0 spare held n 3 [v1] = some y1 := by simpa [ci] using hf 1 _ rfl
  have g2 : DataW.trod enc Try.prog W 0 spare held n 4 [v2] = some y2 := by simpa [cb] using hf 2 _ rfl
  have g3 : DataW.trod enc Try.prog W 0 spare held n 4 [v3] = some y3 := by simpa [cb] using hf 3 _ rfl
  have g4 : DataW.trod enc Try.prog W 0 spare held n 4 [v4] = some y4 := by simpa [cb] using hf 4 _ rfl
  have g5 : DataW.trod enc Try.prog W 0 spare held n 4 [v5] = some y5 := by simpa [cb] using hf 5 _ rfl
  have g6 : DataW.trod enc Try.prog W 0 spare held n 9 [v6] = some y6 := by simpa [cs1] using hf 6 _ rfl
  have g7 : DataW.trod enc Try.prog W 0 spare held n 3 [v7] = some y7 := by simpa [ci] using hf 7 _ rfl
  obtain ⟨x0, e0, _, _⟩ := DataW.trod_int Try.underlying3 g0
  obtain ⟨x1, e1, _, _⟩ := DataW.trod_int Try.underlying3 g1
  obtain ⟨x2, e2, _⟩ := DataW.trod_bool Try.underlying4 g2
  obtain ⟨x3, e3, _⟩ := DataW.trod_bool Try.underlying4 g3
  obtain ⟨x4, e4, _⟩ := DataW.trod_bool Try.underlying4 g4
  obtain ⟨x5, e5, _⟩ := DataW.trod_bool Try.underlying4 g5
  obtain ⟨x6, e6, _, w6⟩ := DataW.trod_string Try.underlying9 g6
  obtain ⟨x7, e7, _, _⟩ := DataW.trod_int Try.underlying3 g7
  simp only [List.cons.injEq, and_true] at e0 e1 e2 e3 e4 e5 e6 e7
  subst e0 e1 e2 e3 e4 e5 e6 e7
  exact ⟨⟨x0, x1, x2, x3, x4, x5, x6, x7⟩, rfl, w6⟩
set_option maxRecDepth 20000 in
theorem open_thing {H : Type} {enc : TypeId × Value → H} {W : World} {base : Nat} {v : Value} {d : DataW H} {ps : List MemPlace} (hv : Value.okWide Try.prog W .any base 37 v)
    (h : DataW.Trod enc Try.prog W 0 (fun _ => true) true 37 v d ps) : ∃ x : Th, v = .agg (thC x) ∧ x.val.size ≤ maxLen := by
  obtain ⟨cs, rfl, hsz⟩ := okWide_struct Try.underlying37 hv
  obtain ⟨fuel, hf⟩ := h
  obtain ⟨x, hx, hok⟩ := thing_at _ _ _ hf
  refine ⟨x, ?_, hok⟩
  have e : cs.toList = (thC x).toList := by simpa [Value.cells] using hx
  rw [Array.toList_inj.1 e]
end Go.Proofs.Ytecbpplocokedaa
