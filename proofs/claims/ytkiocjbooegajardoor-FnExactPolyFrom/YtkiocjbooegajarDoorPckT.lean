/- The table of the bits of a byte, by the project. -/
import Derived.Test.YtkiocjbooegajarDoorPbt
import Derived.Test.YtkiocjbooegajarDoorBar
import Derived.Lib.LaidTab
import Derived.Lib.SmallJoins
namespace Go.Proofs.YtkiocjbooegajarDoor
open Go.RowKit
def bitsTab : List Int := [1, 2, 4, 8, 16, 32, 64, 128]
def LaidB (w : World) : Prop := Lib.TabIs Tryd.prog w "loop.example/g00186/impl.bitsOfByte" .u8 bitsTab
theorem bitsTab_at : ∀ r, r < 8 → bitsTab.getD r 0 = ((2 ^ r : Nat) : Int) := by decide
theorem gBits : Tryd.prog.globalNamed "loop.example/g00186/impl.bitsOfByte" = some 0 := by kernel_rfl
theorem LaidB.below {w w' : World} (h : LaidB w) (hb : Below w.heap.size w w') : LaidB w' := Go.Joins.tab_stays gBits h hb (Nat.le_refl _)
theorem LaidB.lt {w : World} (h : LaidB w) : 0 < w.heap.size := by
  unfold LaidB Lib.TabIs World.var? at h
  rw [gBits] at h
  simp only [Option.bind_some] at h
  rcases Nat.lt_or_ge 0 w.heap.size with h' | h'
  · exact h'
  · rw [Array.getElem?_eq_none h'] at h; cases h
theorem LaidB.row {w : World} (h : LaidB w) : ∃ T fr, w.heap[0]? = some (.cells (bitsTab.map fun z => Value.int .u8 z).toArray T fr) := by
  unfold LaidB Lib.TabIs World.var? at h
  rw [gBits] at h
  simp only [Option.bind_some] at h
  split at h
  · rename_i cs T fr hc
    exact ⟨T, fr, by rw [hc, Option.some.inj h]⟩
  · cases h
theorem LaidB.cell {w : World} (h : LaidB w) (r : Nat) (hr : r < 8) : w.cell? ⟨0, r, none⟩ = some (.int .u8 ((2 ^ r : Nat) : Int)) := by
  rw [Lib.TabIs.cell h gBits r hr, bitsTab_at r hr]
theorem idxB9 (k : Nat) (h : (k : Int) < 8) (W : World) : (Instr.indexAt 43 (.pointer (some ⟨0, 0, none⟩)) (.int .i64 (k : Int))).run Tryd.prog W = .ok (.pointer (some ⟨0, k, none⟩)) W := by
  have hl : Tryd.prog.arrayLen 43 = 8 := by kernel_rfl
  have hu : Tryd.prog.underlying 43 = some (.array (Tryd.prog.arrayLen 43) (Tryd.prog.elem 43)) := by kernel_rfl
  have he : Tryd.prog.elem 43 = 5 := by kernel_rfl
  have h1 : (0 : Int) ≤ (k : Int) ∧ (k : Int) < ((Tryd.prog.arrayLen 43 : Nat) : Int) := by rw [hl]; exact ⟨by omega, by omega⟩
  have addr9 : ∀ g o j : Nat, (⟨g, o, none⟩ : Addr).add j = ⟨g, o + j, none⟩ := fun g o j => by unfold Addr.add; split <;> simp_all
  rw [run_indexAt_array (P := Tryd.prog) (w := W) 43 ⟨0, 0, none⟩ .i64 (k : Int) hu, if_pos h1, he]
  simp [go_sem, addr9]
theorem Tryd.infoByteP : (Tryd.prog.info? 5).map (fun i => (i.zero, i.size, i.bytes)) = some (some (.int .u8 0), 1, 1) := by kernel_rfl
def bitsV : Value := .agg (bitsTab.map fun z => Value.int .u8 z).toArray
theorem idx8v (k : Nat) (h : (k : Int) < 8) (W : World) : (Instr.index 43 bitsV (.int .i64 (k : Int))).run Tryd.prog W = .ok (.int .u8 ((2 ^ k : Nat) : Int)) W := by
  have hk8 : k < 8 := by omega
  have hu := Tryd.underlying43
  have h1 := bitsTab_at k hk8
  have hl : k < bitsTab.length := hk8
  unfold Instr.index bitsV
  simp [asIntOf, run_underlying hu, go_sem, part, isAgg, run_underlying Tryd.underlying5, hk8, hl, List.getD_eq_getElem?_getD] at h1 ⊢
  exact h1
end Go.Proofs.YtkiocjbooegajarDoor
