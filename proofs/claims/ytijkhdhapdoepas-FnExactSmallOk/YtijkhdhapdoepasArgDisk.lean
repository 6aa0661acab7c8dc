/- A disk that comes in as an argument, read as a list of files. -/
import Derived.Test.YtijkhdhapdoepasRows1
import Derived.Test.YtijkhdhapdoepasProg
import Derived.Deep.Slices
import Derived.Deep.Strs
import Derived.ChangeSame
import Derived.OpenShut
import Derived.ShutString
import Derived.ProofKit
import Derived.Lib.SmallJoins
namespace Go.Proofs.Ytijkhdhapdoepas
open Go.ChangeShapes Go.WideShapes Go.ChangeAt Go.RowKit Go.WideElems

theorem lt_of_cell {w : World} {g o : Nat} {u : Value} (h : w.cell? ⟨g, o, none⟩ = some u) : g < w.heap.size := by
  rcases Nat.lt_or_ge g w.heap.size with hg | hg
  · exact hg
  · exfalso
    simp [World.cell?, Array.getElem?_eq_none hg] at h

theorem array1 {α : Type} {cs : Array α} (h : cs.size = 1) : ∃ c0, cs = #[c0] := by
  obtain ⟨l⟩ := cs
  match l, h with
  | [c0], _ => exact ⟨c0, rfl⟩

/-- What one file of the row reads as. -/
def FlOk (f : Fl) : Prop := f.nm.size ≤ maxLen ∧ f.tx.size ≤ maxLen

section
variable {H : Type} {enc : TypeId × Value → H} {P : Program} {W : World} {spare : Nat → Bool} {held : Bool}

theorem list3 {α : Type} {l : List α} (h : l.length = 3) : ∃ a b c, l = [a, b, c] := by
  match l, h with
  | [a, b, c], _ => exact ⟨a, b, c, rfl⟩

theorem file_cells {e : TypeId} {f0 f1 f2 : Field} {n : Nat} {cs : List Value} {y : DataW H × List MemPlace} (he : P.underlying e = some (.struct #[f0, f1, f2])) (ce : P.cellsOf e = 3)
    (o0 : f0.offset = 0) (o1 : f1.offset = 1) (o2 : f2.offset = 2) (c0 : P.cellsOf f0.type = 1) (c1 : P.cellsOf f1.type = 1) (c2 : P.cellsOf f2.type = 1)
    {S I : TypeId} (t0 : f0.type = S) (t1 : f1.type = S) (t2 : f2.type = I) (uS : P.underlying S = some .string) (uI : P.underlying I = some (.int .i64))
    (h : DataW.trod enc P W 0 spare held n e cs = some y) : ∃ f : Fl, cs = flc f ∧ FlOk f := by
  obtain ⟨y0, y1, y2, k, _, hcl, g0, g1, g2⟩ := Go.Deep.trod_struct3 he h
  rw [ce] at hcl
  obtain ⟨v0, v1, v2, rfl⟩ := list3 hcl
  rw [o0, c0, t0] at g0
  rw [o1, c1, t1] at g1
  rw [o2, c2, t2] at g2
  simp only [List.drop_zero, List.drop_succ_cons, List.take_succ_cons, List.take_zero] at g0 g1 g2
  obtain ⟨s0, e0, _, w0⟩ := DataW.trod_string uS g0
  obtain ⟨s1, e1, _, w1⟩ := DataW.trod_string uS g1
  obtain ⟨i2, e2, _, _⟩ := DataW.trod_int uI g2
  simp only [List.cons.injEq, and_true] at e0 e1 e2
  subst e0 e1 e2
  exact ⟨⟨s0, s1, i2⟩, rfl, w0, w1⟩

theorem open_files {t e : TypeId} {n : Nat} {u : Value} {x : DataW H × List MemPlace} (ht : P.underlying t = some (.slice e)) (ce : P.cellsOf e = 3)
    (hfile : ∀ k cs y, DataW.trod enc P W 0 spare held k e cs = some y → ∃ f : Fl, cs = flc f ∧ FlOk f)
    (g0 : DataW.trod enc P W 0 spare held n t [u] = some x) :
    ∃ fs : List Fl, RdF W u fs ∧ fs.length ≤ maxLen ∧ ∀ f ∈ fs, f.nm.size ≤ maxLen ∧ f.tx.size ≤ maxLen := by
  rcases Go.Deep.open_slice ht g0 with ⟨hcs, hx⟩ | ⟨a, len, cap, m, n, D, Pl, hcs, _, hl, hm, hmm, hx, hcell⟩
  · simp only [List.cons.injEq, and_true] at hcs
    exact ⟨[], .inl ⟨none, 0, hcs, rfl⟩, by simp, fun f hf => by cases hf⟩
  · simp only [List.cons.injEq, and_true] at hcs
    have hlm : len ≤ m := by rw [hmm]; split <;> omega
    have each : ∀ i, i < len → ∃ f : Fl, FlOk f ∧ W.cell? (a.add (i * 3)) = some (.string f.nm) ∧ W.cell? (a.add (i * 3 + 1)) = some (.string f.tx) ∧ W.cell? (a.add (i * 3 + 2)) = some (.int .i64 f.kp) := by
      intro i hi
      obtain ⟨cs', h1, h2⟩ := hcell i (by omega)
      obtain ⟨f, rfl, hok⟩ := hfile _ _ _ h2
      rw [ce] at h1
      obtain ⟨_, _, hc⟩ := World.cells?_some h1
      have e0 := hc 0 (by omega)
      have e1 := hc 1 (by omega)
      have e2 := hc 2 (by omega)
      rw [Go.Deep.add_add] at e0 e1 e2
      exact ⟨f, hok, e0, e1, e2⟩
    haveI : Inhabited Fl := ⟨flz⟩
    obtain ⟨F, hF⟩ := Go.Deep.choose_lt each
    by_cases hz : len = 0
    · subst hz
      exact ⟨[], .inl ⟨_, cap, hcs, rfl⟩, by simp, fun f hf => by cases hf⟩
    · obtain ⟨g, o, spot⟩ := a
      have hspot : spot = none := by simpa [Addr.add] using World.cell?_spot (hF 0 (by omega)).2.1
      subst hspot
      have hg : g < W.heap.size := by
        have := (hF 0 (by omega)).2.1
        rw [add_plain] at this
        exact lt_of_cell this
      refine ⟨(List.range len).map F, .inr ⟨g, o, cap, by simpa using hcs, by simp; omega, hg, ?_⟩, by simp; omega, ?_⟩
      · intro j f hj
        rw [List.getElem?_map] at hj
        have hjl : j < len := by
          rcases Nat.lt_or_ge j len with h | h
          · exact h
          · rw [List.getElem?_eq_none (by simpa using h)] at hj; cases hj
        rw [List.getElem?_range hjl] at hj
        simp only [Option.map_some, Option.some.injEq] at hj
        subst hj
        obtain ⟨_, e0, e1, e2⟩ := hF j hjl
        rw [add_plain] at e0 e1 e2
        exact ⟨e0, e1, e2⟩
      · intro f hf
        obtain ⟨j, hj, rfl⟩ := List.mem_map.1 hf
        exact (hF j (List.mem_range.1 hj)).1

theorem open_disk_gen {T t e : TypeId} {f0 : Field} {base : Nat} {r : Reach} {v : Value} {d : DataW H} {ps : List MemPlace} (hT : P.underlying T = some (.struct #[f0])) (cT : P.cellsOf T = 1) (o0 : f0.offset = 0) (c0 : P.cellsOf f0.type = 1) (ft : f0.type = t)
    (ht : P.underlying t = some (.slice e)) (ce : P.cellsOf e = 3) (hfile : ∀ k cs y, DataW.trod enc P W 0 spare held k e cs = some y → ∃ f : Fl, cs = flc f ∧ FlOk f)
    (hv : Value.okWide P W r base T v) (h : DataW.Trod enc P W 0 spare held T v d ps) :
    ∃ (u : Value) (fs : List Fl), v = .agg #[u] ∧ RdF W u fs ∧ fs.length ≤ maxLen ∧ ∀ f ∈ fs, f.nm.size ≤ maxLen ∧ f.tx.size ≤ maxLen := by
  obtain ⟨cs, rfl, hsz⟩ := okWide_struct hT hv
  obtain ⟨u, rfl⟩ := array1 (hsz.trans cT)
  obtain ⟨fuel, hf⟩ := h
  obtain ⟨y0, n, _, _, g0⟩ := trod_struct1 hT hf
  rw [o0, c0, ft] at g0
  simp only [Value.cells, List.drop_zero, List.take_succ_cons, List.take_zero] at g0
  obtain ⟨fs, h1, h2, h3⟩ := open_files ht ce hfile g0
  exact ⟨u, fs, rfl, h1, h2, h3⟩
end

theorem open_ints_rd {H : Type} {enc : TypeId × Value → H} {W : World} {o : Option Addr} {len cap : Nat} {d : DataW H} {ps : List MemPlace} (h0 : DataW.Trod enc Try.prog W 0 (fun _ => true) true 22 (.slice o len cap) d ps) :
    ∃ is : List Int, RdV W (.slice o len cap) (is.map iv) ∧ is.length ≤ maxLen := by
  obtain ⟨fuel, hf⟩ := h0
  rcases open_ints Try.underlying22 Try.underlying3 (by kernel_rfl) hf with ⟨hcs, hx⟩ | ⟨a, len', cap', zs, hcs, _, hl, hm, hz, hx, hcell, hwz⟩
  · simp [Value.cells] at hcs
    obtain ⟨rfl, rfl, rfl⟩ := hcs
    exact ⟨[], .inl ⟨_, _, rfl, rfl⟩, by simp⟩
  · simp [Value.cells] at hcs
    obtain ⟨rfl, rfl, rfl⟩ := hcs
    simp only [if_true] at hz
    have hl2 : len ≤ zs.length := by omega
    have htl : (zs.take len).length = len := by rw [List.length_take]; omega
    refine ⟨zs.take len, ?_, by rw [htl]; omega⟩
    by_cases h0 : len = 0
    · subst h0
      exact .inl ⟨_, _, rfl, by simp⟩
    · obtain ⟨b, off, rfl, hc2⟩ := ints_at hcell (by omega)
      refine .inr ⟨b, off, cap, by rw [List.length_map, htl], by rw [List.length_map, htl]; omega, ?_, ?_⟩
      · have := hc2 0 (by omega)
        exact lt_of_cell this
      · intro j x hj
        rw [List.getElem?_map] at hj
        have hjl : j < len := by
          rcases Nat.lt_or_ge j len with h | h
          · exact h
          · rw [List.getElem?_eq_none (by omega)] at hj; cases hj
        rw [List.getElem?_take, if_pos hjl] at hj
        rw [hc2 j (by omega)]
        rw [List.getElem?_eq_getElem (by omega)] at hj
        simp only [Option.map_some, Option.some.injEq] at hj
        rw [← hj, List.getD_eq_getElem?_getD, List.getElem?_eq_getElem (by omega)]
        rfl
end Go.Proofs.Ytijkhdhapdoepas
