/- An act that comes in as an argument, read as its four fields. -/
import Derived.Test.YtfglljollonnfalArgDisk
import Derived.Test.YtfglljollonnfalActs
namespace Go.Proofs.Ytfglljollonnfal
open Go.ChangeShapes Go.WideShapes Go.ChangeAt Go.RowKit Go.WideElems

def AcOk (a : Ac) : Prop := a.nm.size ≤ maxLen ∧ a.tx.size ≤ maxLen ∧ a.to.size ≤ maxLen

theorem list4 {α : Type} {l : List α} (h : l.length = 4) : ∃ a b c d, l = [a, b, c, d] := by
  match l, h with
  | [a, b, c, d], _ => exact ⟨a, b, c, d, rfl⟩

theorem open_acts_gen {H : Type} {enc : TypeId × Value → H} {P : Program} {W : World} {spare : Nat → Bool} {held : Bool} {t e : TypeId} {n : Nat} {u : Value} {x : DataW H × List MemPlace} (ht : P.underlying t = some (.slice e)) (ce : P.cellsOf e = 4)
    (hfile : ∀ k cs y, DataW.trod enc P W 0 spare held k e cs = some y → ∃ f : Ac, cs = acc f ∧ AcOk f)
    (g0 : DataW.trod enc P W 0 spare held n t [u] = some x) :
    ∃ fs : List Ac, RdA W u fs ∧ fs.length ≤ maxLen ∧ ∀ f ∈ fs, f.nm.size ≤ maxLen ∧ f.tx.size ≤ maxLen ∧ f.to.size ≤ maxLen := by
  rcases Go.Deep.open_slice ht g0 with ⟨hcs, hx⟩ | ⟨a, len, cap, m, n, D, Pl, hcs, _, hl, hm, hmm, hx, hcell⟩
  · simp only [List.cons.injEq, and_true] at hcs
    exact ⟨[], .inl ⟨none, 0, hcs, rfl⟩, by simp, fun f hf => by cases hf⟩
  · simp only [List.cons.injEq, and_true] at hcs
    have hlm : len ≤ m := by rw [hmm]; split <;> omega
    have each : ∀ i, i < len → ∃ f : Ac, AcOk f ∧ W.cell? (a.add (i * 4)) = some (.int .i64 f.kd) ∧ W.cell? (a.add (i * 4 + 1)) = some (.string f.nm) ∧ W.cell? (a.add (i * 4 + 2)) = some (.string f.tx) ∧ W.cell? (a.add (i * 4 + 3)) = some (.string f.to) := by
      intro i hi
      obtain ⟨cs', h1, h2⟩ := hcell i (by omega)
      obtain ⟨f, rfl, hok⟩ := hfile _ _ _ h2
      rw [ce] at h1
      obtain ⟨_, _, hc⟩ := World.cells?_some h1
      have e0 := hc 0 (by omega)
      have e1 := hc 1 (by omega)
      have e2 := hc 2 (by omega)
      have e3 := hc 3 (by omega)
      rw [Go.Deep.add_add] at e0 e1 e2 e3
      exact ⟨f, hok, e0, e1, e2, e3⟩
    haveI : Inhabited Ac := ⟨acz⟩
    obtain ⟨F, hF⟩ := Go.Deep.choose_lt each
    by_cases hz : len = 0
    · subst hz
      exact ⟨[], .inl ⟨_, cap, hcs, rfl⟩, by simp, fun f hf => by cases hf⟩
    · obtain ⟨g, o, spot⟩ := a
      have hspot : spot = none := by simpa [Addr.add] using World.cell?_spot (hF 0 (by omega)).2.1
      subst hspot
      have hg : g < W.heap.size := by
        have := (hF 0 (by omega)).2.1
        rw [add_plain] at this
        exact lt_of_cell this
      refine ⟨(List.range len).map F, .inr ⟨g, o, cap, by simpa using hcs, by simp; omega, hg, ?_⟩, by simp; omega, ?_⟩
      · intro j f hj
        rw [List.getElem?_map] at hj
        have hjl : j < len := by
          rcases Nat.lt_or_ge j len with h | h
          · exact h
          · rw [List.getElem?_eq_none (by simpa using h)] at hj; cases hj
        rw [List.getElem?_range hjl] at hj
        simp only [Option.map_some, Option.some.injEq] at hj
        subst hj
        obtain ⟨_, e0, e1, e2, e3⟩ := hF j hjl
        rw [add_plain] at e0 e1 e2 e3
        exact ⟨e0, e1, e2, e3⟩
      · intro f hf
        obtain ⟨j, hj, rfl⟩ := List.mem_map.1 hf
        exact (hF j (List.mem_range.1 hj)).1

section
variable {H : Type} {enc : TypeId × Value → H} {P : Program} {W : World} {spare : Nat → Bool} {held : Bool}
theorem act_cells {e : TypeId} {f0 f1 f2 f3 : Field} {n : Nat} {cs : List Value} {y : DataW H × List MemPlace} (he : P.underlying e = some (.struct #[f0, f1, f2, f3])) (ce : P.cellsOf e = 4)
    (o0 : f0.offset = 0) (o1 : f1.offset = 1) (o2 : f2.offset = 2) (o3 : f3.offset = 3) (c0 : P.cellsOf f0.type = 1) (c1 : P.cellsOf f1.type = 1) (c2 : P.cellsOf f2.type = 1) (c3 : P.cellsOf f3.type = 1)
    {S I : TypeId} (t0 : f0.type = I) (t1 : f1.type = S) (t2 : f2.type = S) (t3 : f3.type = S) (uS : P.underlying S = some .string) (uI : P.underlying I = some (.int .i64))
    (h : DataW.trod enc P W 0 spare held n e cs = some y) : ∃ a : Ac, cs = acc a ∧ AcOk a := by
  obtain ⟨y0, y1, y2, y3, k, _, hcl, g0, g1, g2, g3⟩ := Go.Joins.trod_struct4 he h
  rw [ce] at hcl
  obtain ⟨v0, v1, v2, v3, rfl⟩ := list4 hcl
  rw [o0, c0, t0] at g0
  rw [o1, c1, t1] at g1
  rw [o2, c2, t2] at g2
  rw [o3, c3, t3] at g3
  simp only [List.drop_zero, List.drop_succ_cons, List.take_succ_cons, List.take_zero] at g0 g1 g2 g3
  obtain ⟨i0, e0, _, _⟩ := DataW.trod_int uI g0
  obtain ⟨s1, e1, _, w1⟩ := DataW.trod_string uS g1
  obtain ⟨s2, e2, _, w2⟩ := DataW.trod_string uS g2
  obtain ⟨s3, e3, _, w3⟩ := DataW.trod_string uS g3
  simp only [List.cons.injEq, and_true] at e0 e1 e2 e3
  subst e0 e1 e2 e3
  exact ⟨⟨i0, s1, s2, s3⟩, rfl, w1, w2, w3⟩
end

theorem cellsAct : Try.prog.cellsOf 26 = 4 := by kernel_rfl
theorem cellsStrA : Try.prog.cellsOf 9 = 1 := by kernel_rfl
theorem cellsIntA : Try.prog.cellsOf 3 = 1 := by kernel_rfl
theorem act_at {H : Type} {enc : TypeId × Value → H} {W : World} {spare : Nat → Bool} {held : Bool} (k : Nat) (cs : List Value) (y : DataW H × List MemPlace)
    (hk : DataW.trod enc Try.prog W 0 spare held k 26 cs = some y) : ∃ a : Ac, cs = acc a ∧ AcOk a :=
  act_cells (P := Try.prog) (e := 26) (S := 9) (I := 3) Try.underlying26 cellsAct rfl rfl rfl rfl cellsIntA cellsStrA cellsStrA cellsStrA rfl rfl rfl rfl Try.underlying9 Try.underlying3 hk
set_option maxRecDepth 20000 in
theorem open_act {H : Type} {enc : TypeId × Value → H} {W : World} {base : Nat} {v : Value} {d : DataW H} {ps : List MemPlace} (hv : Value.okWide Try.prog W .any base 26 v)
    (h : DataW.Trod enc Try.prog W 0 (fun _ => true) true 26 v d ps) : ∃ x : Ac, v = acv x ∧ AcOk x := by
  obtain ⟨cs, rfl, hsz⟩ := okWide_struct Try.underlying26 hv
  obtain ⟨fuel, hf⟩ := h
  obtain ⟨x, hx, hok⟩ := act_at _ _ _ hf
  refine ⟨x, ?_, hok⟩
  have : cs.toList = acc x := by simpa [Value.cells] using hx
  unfold acv
  congr 1
  apply Array.toList_inj.1
  rw [this]
  rfl
theorem open_acts {H : Type} {enc : TypeId × Value → H} {W : World} {o : Option Addr} {len cap : Nat} {d : DataW H} {ps : List MemPlace} (h : DataW.Trod enc Try.prog W 0 (fun _ => true) true 40 (.slice o len cap) d ps) :
    ∃ fs : List Ac, RdA W (.slice o len cap) fs ∧ fs.length ≤ maxLen ∧ ∀ f ∈ fs, f.nm.size ≤ maxLen ∧ f.tx.size ≤ maxLen ∧ f.to.size ≤ maxLen := by
  obtain ⟨fuel, hf⟩ := h
  exact open_acts_gen (P := Try.prog) (t := 40) (e := 26) Try.underlying40 cellsAct (act_at (H := H) (enc := enc) (W := W) (spare := fun _ => true) (held := true)) hf
end Go.Proofs.Ytfglljollonnfal
