/- A signature that comes in as an argument. -/
import Derived.Test.YtecononlghjepawArgTxs
import Derived.Test.YtecononlghjepawLawSg2
import Derived.Below
import Derived.Carry
import Derived.WalkKit
import Derived.WideShapes
import Derived.Deep.Strs
namespace Go.Proofs.Ytecononlghjepaw
open Go.ChangeShapes Go.WideShapes Go.ChangeAt Go.RowKit Go.WideElems
theorem three_ofS {α : Type} {l : List α} (h : l.length = 3) : ∃ a b c, l = [a, b, c] := by
  match l, h with
  | [a, b, c], _ => exact ⟨a, b, c, rfl⟩
theorem texts_cells {H : Type} {enc : TypeId × Value → H} {W : World} {fuel : Nat} {u : Value} {y : DataW H × List MemPlace} (hf : DataW.trod enc Try.prog W 0 (fun _ => true) true fuel 22 [u] = some y) :
    ∃ ss : List ByteArray, RdV W u (ss.map sv) ∧ (∀ x ∈ ss, x.size ≤ maxLen) ∧ ss.length ≤ maxLen ∧ CapV u := by
  have hsh : ∃ o len cap, u = .slice o len cap ∧ len ≤ cap := by
    rcases open_strings Try.underlying22 Try.underlying9 (by kernel_rfl) hf with ⟨hcs, _⟩ | ⟨a, len', cap', _, hcs, _, hlc, _⟩
    · exact ⟨none, 0, 0, (List.cons.inj hcs).1, Nat.le_refl _⟩
    · exact ⟨some a, len', cap', (List.cons.inj hcs).1, hlc⟩
  obtain ⟨o, len, cap, rfl, hlc⟩ := hsh
  obtain ⟨d, ps⟩ := y
  obtain ⟨ss, h1, h2, h3⟩ := open_texts_rd (d := d) (ps := ps) ⟨fuel, hf⟩
  exact ⟨ss, h1, h2, h3, capv_lit hlc⟩
set_option maxRecDepth 20000 in
theorem sig_cells {H : Type} {enc : TypeId × Value → H} {W : World} (n : Nat) (cs : List Value) (y : DataW H × List MemPlace) (h : DataW.trod enc Try.prog W 0 (fun _ => true) true n 24 cs = some y) :
    ∃ (s : Sg) (v1 v2 : Value), cs = [.int .i64 s.leaf, v1, v2] ∧ RdV W v1 (s.once.map sv) ∧ RdV W v2 (s.path.map sv) ∧ (CapV v1 ∧ CapV v2) ∧ okSg s := by
  obtain ⟨y0, y1, y2, k, _, hcl, g0, g1, g2⟩ := Go.Deep.trod_struct3 Try.underlying24 h
  have ce : Try.prog.cellsOf 24 = 3 := by kernel_rfl
  have c0 : Try.prog.cellsOf 3 = 1 := by kernel_rfl
  have c1 : Try.prog.cellsOf 22 = 1 := by kernel_rfl
  rw [ce] at hcl
  obtain ⟨v0, v1, v2, rfl⟩ := three_ofS hcl
  simp only [c0, c1, List.drop_zero, List.drop_succ_cons, List.take_succ_cons, List.take_zero] at g0 g1 g2
  obtain ⟨i0, e0, _, _⟩ := DataW.trod_int Try.underlying3 g0
  simp only [List.cons.injEq, and_true] at e0
  subst e0
  obtain ⟨s1, r1, b1, l1, q1⟩ := texts_cells g1
  obtain ⟨s2, r2, b2, l2, q2⟩ := texts_cells g2
  exact ⟨⟨i0, s1, s2⟩, v1, v2, rfl, r1, r2, ⟨q1, q2⟩, b1, b2, l1, l2⟩
set_option maxRecDepth 20000 in
theorem open_sig {H : Type} {enc : TypeId × Value → H} {W : World} {base : Nat} {v : Value} {d : DataW H} {ps : List MemPlace} (hv : Value.okWide Try.prog W .any base 24 v)
    (h : DataW.Trod enc Try.prog W 0 (fun _ => true) true 24 v d ps) : ∃ s : Sg, RdSg W v s ∧ okSg s := by
  obtain ⟨cs, rfl, hsz⟩ := okWide_struct Try.underlying24 hv
  obtain ⟨fuel, hf⟩ := h
  obtain ⟨s, v1, v2, hx, r1, r2, hq, hok⟩ := sig_cells _ _ _ hf
  refine ⟨s, ⟨v1, v2, ?_, r1, r2, hq⟩, hok⟩
  have : cs.toList = [.int .i64 s.leaf, v1, v2] := by simpa [Value.cells] using hx
  unfold sgv
  congr 1
  apply Array.toList_inj.1
  rw [this]
end Go.Proofs.Ytecononlghjepaw
