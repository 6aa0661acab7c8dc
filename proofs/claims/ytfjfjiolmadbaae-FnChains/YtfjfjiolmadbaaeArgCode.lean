/- A code that comes in as an argument, read as a row of bytes. -/
import Derived.Test.YtfjfjiolmadbaaeCur
import Derived.Deep.Slices
import Derived.Deep.Strs
import Derived.ChangeSame
import Derived.OpenShut
import Derived.ShutString
import Derived.ProofKit
import Derived.Lib.SmallJoins
namespace Go.Proofs.Ytfjfjiolmadbaae
open Go.ChangeShapes Go.WideShapes Go.ChangeAt Go.RowKit Go.WideElems
set_option maxRecDepth 20000 in
theorem src_of {H : Type} {enc : TypeId × Value → H} {W : World} {o : Option Addr} {len cap : Nat} {d : DataW H} {ps : List MemPlace} (h0 : DataW.Trod enc Try.prog W 0 (fun _ => true) true 22 (.slice o len cap) d ps) (hlt : ∀ x ∈ ps, x.block < W.heap.size) :
    ∀ j, j < len → ∃ (b off z : Nat), o = some ⟨b, off, none⟩ ∧ b < W.heap.size ∧ z < 256 ∧ W.cell? ⟨b, off + j, none⟩ = some (.int .u8 (z : Int)) := by
  obtain ⟨fuel, hf⟩ := h0
  rcases open_ints Try.underlying22 Try.underlying5 (by kernel_rfl) hf with ⟨hcs, hx⟩ | ⟨a, len', cap', zs, hcs, _, hl, hm, hz, hx, hcell, hwz⟩
  · simp [Value.cells] at hcs
    obtain ⟨rfl, rfl, rfl⟩ := hcs
    intro j hj
    omega
  · simp [Value.cells] at hcs
    obtain ⟨rfl, rfl, rfl⟩ := hcs
    simp only [Prod.mk.injEq] at hx
    obtain ⟨rfl, rfl⟩ := hx
    simp only [if_true] at hz
    intro j hj
    have hpos : 0 < zs.length := by omega
    have hj' : j < zs.length := by omega
    obtain ⟨b, off, rfl, hc2⟩ := ints_at hcell hpos
    have hb : b < W.heap.size := hlt (.cell b off) (MemPlace.mem_row.2 ⟨0, hpos, by simp⟩)
    have hget : zs.getD j 0 = zs[j] := by simp [List.getD, List.getElem?_eq_getElem hj']
    have hw := bounds_u8 (hwz zs[j] (List.getElem_mem hj'))
    refine ⟨b, off, zs[j].toNat, rfl, hb, by omega, ?_⟩
    rw [hc2 j hj', hget, Int.toNat_of_nonneg hw.1]
end Go.Proofs.Ytfjfjiolmadbaae
