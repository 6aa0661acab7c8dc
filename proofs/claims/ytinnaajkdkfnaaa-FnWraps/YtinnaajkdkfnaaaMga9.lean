/- Merged: ShelfB, LoI1, LoI2, LoI3, LoI4, LoI5, ReadShort. -/
import Derived.Test.YtinnaajkdkfnaaaMga1
import Derived.Test.YtinnaajkdkfnaaaMga2
import Derived.Test.YtinnaajkdkfnaaaMga3
import Derived.Test.YtinnaajkdkfnaaaMga4
import Derived.Test.YtinnaajkdkfnaaaMga5
import Derived.Test.YtinnaajkdkfnaaaMga6
import Derived.Test.YtinnaajkdkfnaaaMga7
import Derived.Test.YtinnaajkdkfnaaaMga8
import Derived.Shelf.Strings.Builder1
import Derived.Shelf.Strings.Builder2
import Derived.Shelf.Bits.Mul64
import Derived.Shelf.Strings.Repeat
import Derived.Test.YtinnaajkdkfnaaaProg
import Derived.Deep.RegionHeld3
import Derived.BigQuiet
import Derived.Laws.IdiomStrings
import Derived.Laws.DeepStrings4
import Derived.Defers
import Derived.Recover
/- The library's functions that this seat's program calls, each by its contract, at this program's own numbers (laid by the shelf's own tools). -/
namespace Go.Proofs
open Go.Shelf
def Try.lays170_ren : Go.Shelf.Ren := ⟨fun | 170 => 60 | n => n, fun | 70 => 63 | 3 => 3 | 0 => 0 | 72 => 65 | 37 => 22 | 5 => 5 | n => n, fun | n => n⟩
theorem Try.lays170 : Go.Proofs.Lays.n170 Try.prog Try.lays170_ren := {
  mixed := by kernel_rfl
  f170 := Try.func60.trans (congrArg some (by kernel_rfl))
  t0 := Try.underlying0
  a0 := Try.isAgg0
  z0 := Try.sizeOf0
  v0 := Try.zeroValue0
  t3 := Try.underlying3
  a3 := Try.isAgg3
  z3 := Try.sizeOf3
  v3 := Try.zeroValue3
  t37 := Try.underlying22
  a37 := Try.isAgg22
  z37 := Try.sizeOf22
  v37 := Try.zeroValue22
  t70 := Try.underlying63
  a70 := Try.isAgg63
  z70 := Try.sizeOf63
  v70 := Try.zeroValue63
  t72 := Try.underlying65
  a72 := Try.isAgg65
  z72 := Try.sizeOf65
  v72 := Try.zeroValue65 }
open Go.RowKit in
theorem Try.Builder_Len (B b : Nat) (bs : List Value) (w : World) (h : Lib.IsBuilder 65 5 B b bs w) :
    Calls Try.prog 60 #[.pointer (some ⟨b, 0, none⟩)] w fun e w' => e = .returned (.int .i64 bs.length) ∧ w' = w := Any.Builder_Len Try.lays170 B b bs w h
def Try.lays169_ren : Go.Shelf.Ren := ⟨fun | 169 => 54 | n => n, fun | 70 => 63 | 9 => 9 | 0 => 0 | 72 => 65 | 37 => 22 | 127 => 82 | 3 => 3 | 5 => 5 | n => n, fun | n => n⟩
theorem Try.lays169 : Go.Proofs.Lays.n169 Try.prog Try.lays169_ren := {
  mixed := by kernel_rfl
  f169 := Try.func54.trans (congrArg some (by kernel_rfl))
  t0 := Try.underlying0
  a0 := Try.isAgg0
  z0 := Try.sizeOf0
  v0 := Try.zeroValue0
  t3 := Try.underlying3
  a3 := Try.isAgg3
  z3 := Try.sizeOf3
  v3 := Try.zeroValue3
  t9 := Try.underlying9
  a9 := Try.isAgg9
  z9 := Try.sizeOf9
  v9 := Try.zeroValue9
  t37 := Try.underlying22
  a37 := Try.isAgg22
  z37 := Try.sizeOf22
  v37 := Try.zeroValue22
  t70 := Try.underlying63
  a70 := Try.isAgg63
  z70 := Try.sizeOf63
  v70 := Try.zeroValue63
  t72 := Try.underlying65
  a72 := Try.isAgg65
  z72 := Try.sizeOf65
  v72 := Try.zeroValue65
  t127 := Try.underlying82
  a127 := Try.isAgg82
  z127 := Try.sizeOf82
  v127 := Try.zeroValue82 }
theorem Try.Builder_Extra_169 : Builder.Extra Try.prog Try.lays169_ren := {
  sizeBuilder := by kernel_rfl
  liesBuilder := by kernel_rfl
  t5 := Try.underlying5
  a5 := Try.isAgg5
  z5 := Try.sizeOf5
  v5 := Try.zeroValue5
  infoByte := by kernel_rfl
  cellsByte := by kernel_rfl
  sizeByte := by kernel_rfl
  neB5 := by decide }
open Go.RowKit in
theorem Try.Builder_String_any (B b : Nat) (l : List UInt8) (w : World) (h : Lib.IsBuilder 65 5 B b (Lib.byteCells l) w) (hBw : B ≤ w.heap.size) :
    Calls Try.prog 54 #[.pointer (some ⟨b, 0, none⟩)] w fun e w' => e = .returned (.string ⟨l.toArray⟩) ∧ Below B w w' := Any.Builder_String_any Try.lays169 Try.Builder_Extra_169 B b l w h hBw
def Try.lays105_ren : Go.Shelf.Ren := ⟨fun | 105 => 63 | 212 => 71 | 99 => 72 | 165 => 73 | 166 => 61 | 170 => 60 | 169 => 54 | 263 => 82 | 264 => 83 | 206 => 84 | 240 => 67 | 241 => 85 | 276 => 79 | 277 => 97 | n => n, fun | 9 => 9 | 3 => 3 | 4 => 4 | 20 => 20 | 0 => 0 | 46 => 88 | 109 => 89 | 5 => 5 | 72 => 65 | 76 => 76 | 51 => 100 | 146 => 101 | 53 => 103 | 148 => 104 | 70 => 63 | 37 => 22 | 75 => 67 | 127 => 82 | 164 => 97 | 80 => 69 | n => n, fun | n => n⟩
theorem Try.lays105 : Go.Proofs.Lays.n105 Try.prog Try.lays105_ren := {
  mixed := by kernel_rfl
  f99 := Try.func72.trans (congrArg some (by kernel_rfl))
  f105 := Try.func63.trans (congrArg some (by kernel_rfl))
  f165 := Try.func73.trans (congrArg some (by kernel_rfl))
  f166 := Try.func61.trans (congrArg some (by kernel_rfl))
  f169 := Try.func54.trans (congrArg some (by kernel_rfl))
  f170 := Try.func60.trans (congrArg some (by kernel_rfl))
  f206 := Try.func84.trans (congrArg some (by kernel_rfl))
  f212 := Try.func71.trans (congrArg some (by kernel_rfl))
  f240 := Try.func67.trans (congrArg some (by kernel_rfl))
  f241 := Try.func85.trans (congrArg some (by kernel_rfl))
  f263 := Try.func82.trans (congrArg some (by kernel_rfl))
  f264 := Try.func83.trans (congrArg some (by kernel_rfl))
  f276 := Try.func79.trans (congrArg some (by kernel_rfl))
  f277 := Try.func97.trans (congrArg some (by kernel_rfl))
  t0 := Try.underlying0
  a0 := Try.isAgg0
  z0 := Try.sizeOf0
  v0 := Try.zeroValue0
  t3 := Try.underlying3
  a3 := Try.isAgg3
  z3 := Try.sizeOf3
  v3 := Try.zeroValue3
  t4 := Try.underlying4
  a4 := Try.isAgg4
  z4 := Try.sizeOf4
  v4 := Try.zeroValue4
  t5 := Try.underlying5
  a5 := Try.isAgg5
  z5 := Try.sizeOf5
  v5 := Try.zeroValue5
  t9 := Try.underlying9
  a9 := Try.isAgg9
  z9 := Try.sizeOf9
  v9 := Try.zeroValue9
  t20 := Try.underlying20
  a20 := Try.isAgg20
  z20 := Try.sizeOf20
  v20 := Try.zeroValue20
  t37 := Try.underlying22
  a37 := Try.isAgg22
  z37 := Try.sizeOf22
  v37 := Try.zeroValue22
  t46 := Try.underlying88
  a46 := Try.isAgg88
  z46 := Try.sizeOf88
  v46 := Try.zeroValue88
  t51 := Try.underlying100
  a51 := Try.isAgg100
  z51 := Try.sizeOf100
  v51 := Try.zeroValue100
  t53 := Try.underlying103
  a53 := Try.isAgg103
  z53 := Try.sizeOf103
  v53 := Try.zeroValue103
  t70 := Try.underlying63
  a70 := Try.isAgg63
  z70 := Try.sizeOf63
  v70 := Try.zeroValue63
  t72 := Try.underlying65
  a72 := Try.isAgg65
  z72 := Try.sizeOf65
  v72 := Try.zeroValue65
  t75 := Try.underlying67
  a75 := Try.isAgg67
  z75 := Try.sizeOf67
  v75 := Try.zeroValue67
  t76 := Try.underlying76
  a76 := Try.isAgg76
  z76 := Try.sizeOf76
  v76 := Try.zeroValue76
  t109 := Try.underlying89
  a109 := Try.isAgg89
  z109 := Try.sizeOf89
  v109 := Try.zeroValue89
  t127 := Try.underlying82
  a127 := Try.isAgg82
  z127 := Try.sizeOf82
  v127 := Try.zeroValue82
  t146 := Try.underlying101
  a146 := Try.isAgg101
  z146 := Try.sizeOf101
  v146 := Try.zeroValue101
  t148 := Try.underlying104
  a148 := Try.isAgg104
  z148 := Try.sizeOf104
  v148 := Try.zeroValue104
  t164 := Try.underlying97
  a164 := Try.isAgg97
  z164 := Try.sizeOf97
  v164 := Try.zeroValue97 }
theorem Try.Builder_Extra_105 : Builder.Extra Try.prog Try.lays105_ren := {
  sizeBuilder := by kernel_rfl
  liesBuilder := by kernel_rfl
  t5 := Try.underlying5
  a5 := Try.isAgg5
  z5 := Try.sizeOf5
  v5 := Try.zeroValue5
  infoByte := by kernel_rfl
  cellsByte := by kernel_rfl
  sizeByte := by kernel_rfl
  neB5 := by decide }
open Go.RowKit Go.Lib in
theorem Try.strings_Repeat (s : ByteArray) (c : Nat) (w : World) (hc : c ≤ 9223372036854775807) (hlen : s.size * c ≤ 140737488355328) :
    Calls Try.prog 63 #[.string s, .int .i64 c] w fun e w' => e = .returned (.string ⟨(Lib.repeatL s.data.toList c).toArray⟩) ∧ Below w.heap.size w w' := Any.strings_Repeat Try.lays105 Try.Builder_Extra_105 s c w hc hlen
def Try.lays166_ren : Go.Shelf.Ren := ⟨fun | 166 => 61 | 240 => 67 | 276 => 79 | n => n, fun | 0 => 0 | 3 => 3 | 4 => 4 | 5 => 5 | 9 => 9 | 20 => 20 | 37 => 22 | 70 => 63 | 72 => 65 | 75 => 67 | 80 => 69 | 164 => 97 | n => n, fun | n => n⟩
theorem Try.lays166 : Go.Proofs.Lays.n166 Try.prog Try.lays166_ren := {
  mixed := by kernel_rfl
  f166 := Try.func61.trans (congrArg some (by kernel_rfl))
  f240 := Try.func67.trans (congrArg some (by kernel_rfl))
  f276 := Try.func79.trans (congrArg some (by kernel_rfl))
  t0 := Try.underlying0
  a0 := Try.isAgg0
  z0 := Try.sizeOf0
  v0 := Try.zeroValue0
  t3 := Try.underlying3
  a3 := Try.isAgg3
  z3 := Try.sizeOf3
  v3 := Try.zeroValue3
  t4 := Try.underlying4
  a4 := Try.isAgg4
  z4 := Try.sizeOf4
  v4 := Try.zeroValue4
  t9 := Try.underlying9
  a9 := Try.isAgg9
  z9 := Try.sizeOf9
  v9 := Try.zeroValue9
  t20 := Try.underlying20
  a20 := Try.isAgg20
  z20 := Try.sizeOf20
  v20 := Try.zeroValue20
  t37 := Try.underlying22
  a37 := Try.isAgg22
  z37 := Try.sizeOf22
  v37 := Try.zeroValue22
  t70 := Try.underlying63
  a70 := Try.isAgg63
  z70 := Try.sizeOf63
  v70 := Try.zeroValue63
  t72 := Try.underlying65
  a72 := Try.isAgg65
  z72 := Try.sizeOf65
  v72 := Try.zeroValue65
  t75 := Try.underlying67
  a75 := Try.isAgg67
  z75 := Try.sizeOf67
  v75 := Try.zeroValue67
  t164 := Try.underlying97
  a164 := Try.isAgg97
  z164 := Try.sizeOf97
  v164 := Try.zeroValue97
}
theorem Try.Builder_Extra_166 : Builder.Extra Try.prog Try.lays166_ren where
  sizeBuilder := by kernel_rfl
  liesBuilder := by kernel_rfl
  t5 := Try.underlying5
  a5 := Try.isAgg5
  z5 := Try.sizeOf5
  v5 := Try.zeroValue5
  infoByte := by kernel_rfl
  cellsByte := by kernel_rfl
  sizeByte := by kernel_rfl
  neB5 := by decide
def Try.lays167_ren : Go.Shelf.Ren := ⟨fun | 167 => 53 | 240 => 67 | 276 => 79 | n => n, fun | 0 => 0 | 4 => 4 | 5 => 5 | 9 => 9 | 20 => 20 | 37 => 22 | 70 => 63 | 72 => 65 | 75 => 67 | 80 => 69 | 164 => 97 | n => n, fun | n => n⟩
theorem Try.lays167 : Go.Proofs.Lays.n167 Try.prog Try.lays167_ren := {
  mixed := by kernel_rfl
  f167 := Try.func53.trans (congrArg some (by kernel_rfl))
  f240 := Try.func67.trans (congrArg some (by kernel_rfl))
  f276 := Try.func79.trans (congrArg some (by kernel_rfl))
  t0 := Try.underlying0
  a0 := Try.isAgg0
  z0 := Try.sizeOf0
  v0 := Try.zeroValue0
  t4 := Try.underlying4
  a4 := Try.isAgg4
  z4 := Try.sizeOf4
  v4 := Try.zeroValue4
  t5 := Try.underlying5
  a5 := Try.isAgg5
  z5 := Try.sizeOf5
  v5 := Try.zeroValue5
  t9 := Try.underlying9
  a9 := Try.isAgg9
  z9 := Try.sizeOf9
  v9 := Try.zeroValue9
  t20 := Try.underlying20
  a20 := Try.isAgg20
  z20 := Try.sizeOf20
  v20 := Try.zeroValue20
  t37 := Try.underlying22
  a37 := Try.isAgg22
  z37 := Try.sizeOf22
  v37 := Try.zeroValue22
  t70 := Try.underlying63
  a70 := Try.isAgg63
  z70 := Try.sizeOf63
  v70 := Try.zeroValue63
  t72 := Try.underlying65
  a72 := Try.isAgg65
  z72 := Try.sizeOf65
  v72 := Try.zeroValue65
  t75 := Try.underlying67
  a75 := Try.isAgg67
  z75 := Try.sizeOf67
  v75 := Try.zeroValue67
  t164 := Try.underlying97
  a164 := Try.isAgg97
  z164 := Try.sizeOf97
  v164 := Try.zeroValue97
}
theorem Try.Builder_Extra_167 : Builder.Extra Try.prog Try.lays167_ren where
  sizeBuilder := by kernel_rfl
  liesBuilder := by kernel_rfl
  t5 := Try.underlying5
  a5 := Try.isAgg5
  z5 := Try.sizeOf5
  v5 := Try.zeroValue5
  infoByte := by kernel_rfl
  cellsByte := by kernel_rfl
  sizeByte := by kernel_rfl
  neB5 := by decide
open Go.RowKit in
theorem Try.Builder_WriteByte (B b : Nat) (bs : List Value) (c : Int) (w : World) (h : Lib.IsBuilder 65 5 B b bs w) (hlen : bs.length + 1 ≤ 140737488355328) (hBw : B ≤ w.heap.size) :
    Calls Try.prog 53 #[.pointer (some ⟨b, 0, none⟩), .int .u8 c] w fun e w' => e = .returned .nilIface ∧ (Lib.BuilderAt 65 5 B b (.pointer (some ⟨b, 0, none⟩)) (bs ++ [.int .u8 c]) w' ∧ Below B w w') := Any.Builder_WriteByte Try.lays167 Try.Builder_Extra_167 B b bs c w h hlen hBw
open Go.RowKit in
theorem Try.Builder_WriteString (B b : Nat) (bs : List Value) (s : ByteArray) (w : World) (h : Lib.IsBuilder 65 5 B b bs w) (hlen : bs.length + s.size ≤ 140737488355328) (hBw : B ≤ w.heap.size) :
    Calls Try.prog 61 #[.pointer (some ⟨b, 0, none⟩), .string s] w fun e w' => e = .returned (.tuple #[.int .i64 s.size, .nilIface]) ∧ (Lib.BuilderAt 65 5 B b (.pointer (some ⟨b, 0, none⟩)) (bs ++ Lib.strCells s) w' ∧ Below B w w') := Any.Builder_WriteString Try.lays166 Try.Builder_Extra_166 B b bs s w h hlen hBw
end Go.Proofs

/- Seals under a key by the project's own functions: the key with its number, masks, hidden texts and tags, over the loaded program. -/
namespace Go.Proofs.Ytinnaajkdkfnaaa
open Go.RowKit
theorem isB_below {T e : TypeId} {B b : Nat} {bs : List Value} {w w' : World} (h : Lib.IsBuilder T e B b bs w) (hb : Below w.heap.size w w') : Lib.IsBuilder T e B b bs w' := by
  have key : ∀ p, Lib.BuilderAt T e B b p bs w → Lib.BuilderAt T e B b p bs w' := by
    rintro p ⟨h1, v, h2, h3, h4⟩
    have hlt : b < w.heap.size := by
      rcases Nat.lt_or_ge b w.heap.size with h | h
      · exact h
      · rw [Array.getElem?_eq_none h] at h2; cases h2
    exact ⟨h1, v, (hb.block b hlt).trans h2, World.ownsRow.kept (row := none) h3 ⟨hb.os, hb.tape, hb.output, hb.size, fun k hk _ => hb.block k hk⟩ (by cases hv : v.ownBlock <;> simp), h4⟩
  exact h.imp (key _) (key _)
theorem three_t9 (w : World) (a b c : ByteArray) (T : TypeId) : ∀ (j : Nat) x, [a, b, c][j]? = some x → (w.alloc (.cells #[.string a, .string b, .string c] T)).cell? ⟨w.heap.size, j, none⟩ = some (.string x) := by
  intro j x hx
  rw [cell_of_row _ w.heap.size j _ T (0, 0) (heap_alloc_new w _)]
  match j, hx with
  | 0, h => cases h; rfl
  | 1, h => cases h; rfl
  | 2, h => cases h; rfl
  | j + 3, h => simp at h
theorem flat_t9 (a b c : ByteArray) : (a ++ b ++ c).data.toList = ([a, b, c].map (·.data.toList)).flatten := by
  rw [ByteArray.data_append, Array.toList_append, ByteArray.data_append, Array.toList_append]
  simp
/-- A seal: a key and the bytes of its number. -/
def slC (key : ByteArray) (num : Nat) : Array Value := #[.string key, .string (vaT num)]
set_option maxRecDepth 20000 in
set_option maxHeartbeats 400000 in
theorem implByte_any (x : Nat) (hx : x < 256) (w : World) :
    Calls Try.prog 62 #[.int .i64 (x : Int)] w fun e w' => e = .returned (.string (oneB x)) ∧ Below w.heap.size w w' := by
  have ew : IntKind.u8.wrap (x : Int) = (x : Int) := by rw [IntKind.wrap_u8]; omega
  have hcv := conv_one w x hx
  have hb : Below w.heap.size w (w.alloc (.cells #[.int .u8 (x : Int)] 5)) := (Below.refl _ w).alloc (Nat.le_refl _) _
  generalize oneB x = ob at *
  go_enter Try.func62, Try.ntmps62
  go_wp2
  go_ret
  exact ⟨rfl, hb⟩
set_option maxRecDepth 20000 in
set_option maxHeartbeats 400000 in
theorem sealOf_yes (key : ByteArray) (num : Nat) (hnum : num ≤ 1000000000) (n : Nat) (hn : n ≤ 8000) (w : World) :
    Calls Try.prog 29 #[.string key, .int .i64 (num : Int), .int .i64 (n : Int)] w fun e w' => e = .returned (.tuple #[.agg (slC key num), .bool true]) ∧ Below w.heap.size w w' := by
  have CV := hide (fun W => (show Calls Try.prog 52 #[.int .i64 (num : Int)] W fun e w' => e = .returned (.tuple #[.string (vaT num), .bool true]) ∧ Below W.heap.size W w' from implVar_yes num W hnum))
  have h1 : ¬ (n : Int) < 0 := by omega
  have h2 : ¬ (8000 : Int) < (n : Int) := by omega
  unfold slC
  generalize vaT num = vt at *
  go_enter Try.func29, Try.ntmps29
  go_wp2_with fail
  obtain ⟨W, hW, hR, hB, hs1⟩ := one_cb w #[.string ⟨#[]⟩, .string ⟨#[]⟩] 40
  rw [hW]
  clear hW
  refine (unhide CV W).mono ?_
  rintro e w1 ⟨rfl, hb1⟩
  have hB1 := hB.trans (hb1.mono hB.size)
  have hR1 := hR.step hb1
  clear CV hb1 hR hB
  have r0 := hR1.cell 0 (v := .string ⟨#[]⟩) rfl
  have r1 := hR1.cell 1 (v := .string ⟨#[]⟩) rfl
  have g0 := hR1.frozen 0
  have g1 := hR1.frozen 1
  go_wp2
  have hF := hide ((hR1.set 0 (.string key)).set 1 (.string vt))
  have hBF := hide ((hB1.setCell (p := ⟨w.heap.size, 0, none⟩) (Nat.le_refl _) (.string key)).setCell (p := ⟨w.heap.size, 1, none⟩) (Nat.le_refl _) (.string vt))
  exact bodyPost_ret (results_cb_tmp (by exact Try.results29) _ _ _ _ _ _ rfl (unhide hF) Try.underlying40 (by kernel_rfl)) rfl ⟨rfl, unhide hBF⟩
set_option maxRecDepth 20000 in
set_option maxHeartbeats 400000 in
theorem sealOf_no (key : ByteArray) (z n : Int) (hz : (z < 0 ∨ 1000000000 < z) ∨ (n < 0 ∨ 8000 < n)) (w : World) :
    Calls Try.prog 29 #[.string key, .int .i64 z, .int .i64 n] w fun e w' => e = .returned (.tuple #[.agg #[.string ⟨#[]⟩, .string ⟨#[]⟩], .bool false]) ∧ Below w.heap.size w w' := by
  have key : ∀ (vt : ByteArray) (ok : Bool), (ok = false ∨ (ok = true ∧ (n < 0 ∨ 8000 < n))) → (∀ W : World, Calls Try.prog 52 #[.int .i64 z] W fun e w' => e = .returned (.tuple #[.string vt, .bool ok]) ∧ Below W.heap.size W w') →
      Calls Try.prog 29 #[.string key, .int .i64 z, .int .i64 n] w fun e w' => e = .returned (.tuple #[.agg #[.string ⟨#[]⟩, .string ⟨#[]⟩], .bool false]) ∧ Below w.heap.size w w' := by
    intro vt ok hc CV
    replace CV := hide CV
    clear hz
    rcases hc with rfl | ⟨rfl, hc⟩
    · go_enter Try.func29, Try.ntmps29
      go_wp2_with fail
      obtain ⟨W, hW, hR, hB, hs1⟩ := one_cb w #[.string ⟨#[]⟩, .string ⟨#[]⟩] 40
      rw [hW]
      clear hW
      refine (unhide CV W).mono ?_
      rintro e w1 ⟨rfl, hb1⟩
      have hB1 := hB.trans (hb1.mono hB.size)
      have hR1 := hR.step hb1
      clear CV hb1 hR hB
      have r0 := hR1.cell 0 (v := .string ⟨#[]⟩) rfl
      have r1 := hR1.cell 1 (v := .string ⟨#[]⟩) rfl
      have g0 := hR1.frozen 0
      have g1 := hR1.frozen 1
      go_wp2
      have hF := hide ((hR1.set 0 (.string ⟨#[]⟩)).set 1 (.string ⟨#[]⟩))
      have hBF := hide ((hB1.setCell (p := ⟨w.heap.size, 0, none⟩) (Nat.le_refl _) (.string ⟨#[]⟩)).setCell (p := ⟨w.heap.size, 1, none⟩) (Nat.le_refl _) (.string ⟨#[]⟩))
      exact bodyPost_ret (results_cb_tmp (by exact Try.results29) _ _ _ _ _ _ rfl (unhide hF) Try.underlying40 (by kernel_rfl)) rfl ⟨rfl, unhide hBF⟩
    · by_cases h1 : n < 0
      · clear hc
        go_enter Try.func29, Try.ntmps29
        go_wp2_with fail
        obtain ⟨W, hW, hR, hB, hs1⟩ := one_cb w #[.string ⟨#[]⟩, .string ⟨#[]⟩] 40
        rw [hW]
        clear hW
        refine (unhide CV W).mono ?_
        rintro e w1 ⟨rfl, hb1⟩
        have hB1 := hB.trans (hb1.mono hB.size)
        have hR1 := hR.step hb1
        clear CV hb1 hR hB
        have r0 := hR1.cell 0 (v := .string ⟨#[]⟩) rfl
        have r1 := hR1.cell 1 (v := .string ⟨#[]⟩) rfl
        have g0 := hR1.frozen 0
        have g1 := hR1.frozen 1
        go_wp2
        have hF := hide ((hR1.set 0 (.string ⟨#[]⟩)).set 1 (.string ⟨#[]⟩))
        have hBF := hide ((hB1.setCell (p := ⟨w.heap.size, 0, none⟩) (Nat.le_refl _) (.string ⟨#[]⟩)).setCell (p := ⟨w.heap.size, 1, none⟩) (Nat.le_refl _) (.string ⟨#[]⟩))
        exact bodyPost_ret (results_cb_tmp (by exact Try.results29) _ _ _ _ _ _ rfl (unhide hF) Try.underlying40 (by kernel_rfl)) rfl ⟨rfl, unhide hBF⟩
      · have h2 : (8000 : Int) < n := by omega
        clear hc
        go_enter Try.func29, Try.ntmps29
        go_wp2_with fail
        obtain ⟨W, hW, hR, hB, hs1⟩ := one_cb w #[.string ⟨#[]⟩, .string ⟨#[]⟩] 40
        rw [hW]
        clear hW
        refine (unhide CV W).mono ?_
        rintro e w1 ⟨rfl, hb1⟩
        have hB1 := hB.trans (hb1.mono hB.size)
        have hR1 := hR.step hb1
        clear CV hb1 hR hB
        have r0 := hR1.cell 0 (v := .string ⟨#[]⟩) rfl
        have r1 := hR1.cell 1 (v := .string ⟨#[]⟩) rfl
        have g0 := hR1.frozen 0
        have g1 := hR1.frozen 1
        go_wp2
        have hF := hide ((hR1.set 0 (.string ⟨#[]⟩)).set 1 (.string ⟨#[]⟩))
        have hBF := hide ((hB1.setCell (p := ⟨w.heap.size, 0, none⟩) (Nat.le_refl _) (.string ⟨#[]⟩)).setCell (p := ⟨w.heap.size, 1, none⟩) (Nat.le_refl _) (.string ⟨#[]⟩))
        exact bodyPost_ret (results_cb_tmp (by exact Try.results29) _ _ _ _ _ _ rfl (unhide hF) Try.underlying40 (by kernel_rfl)) rfl ⟨rfl, unhide hBF⟩
  by_cases hb : z < 0 ∨ 1000000000 < z
  · exact key ⟨#[]⟩ false (.inl rfl) fun W => (implVar_no z W hb).mono fun e w' ⟨h, h'⟩ => ⟨h, h' ▸ Below.refl _ _⟩
  · obtain ⟨num, rfl⟩ : ∃ n : Nat, z = (n : Int) := ⟨z.toNat, by omega⟩
    exact key _ true (.inr ⟨rfl, hz.resolve_left hb⟩) fun W => implVar_yes num W (by omega)
set_option maxRecDepth 20000 in
set_option maxHeartbeats 400000 in
theorem tag_any (key : ByteArray) (hk : key.size ≤ 1048576) (num : Nat) (hnum : num ≤ 1000000000) (s : ByteArray) (hs : s.size ≤ 1048576) (w : World) :
    Calls Try.prog 31 #[.agg (slC key num), .string s] w fun e w' => e = .returned (.string (tgB key num s)) ∧ Below w.heap.size w w' := by
  have hs0 := vaT_size hnum
  have hs2 : ((⟨#[116]⟩ : ByteArray) ++ vaT num).size ≤ 6 := by rw [ByteArray.size_append]; show 1 + _ ≤ 6; omega
  obtain ⟨W0, hW0⟩ : ∃ W0, W0 = w.alloc (.cells (slC key num) 40) := ⟨_, rfl⟩
  have hz0 : W0.heap.size = w.heap.size + 1 := by rw [hW0]; simp
  have hb0 : Below w.heap.size w (W0.alloc (.cells #[.string ⟨#[116]⟩, .string (vaT num), .string s] 9)) := by rw [hW0]; exact ((Below.refl w.heap.size w).alloc (Nat.le_refl _) _).alloc (by simp) _
  have C := hide (macParts_any key hk W0.heap.size 3 3 [⟨#[116]⟩, vaT num, s] rfl (⟨#[116]⟩ ++ vaT num ++ s) (flat_t9 _ _ _) (by rw [ByteArray.size_append]; omega) (W0.alloc (.cells #[.string ⟨#[116]⟩, .string (vaT num), .string s] 9)) (three_t9 _ _ _ _ 9) (by simp) (by omega))
  have hT : (macB key ((⟨#[116]⟩ : ByteArray) ++ vaT num ++ s)).size = 32 := macB_size _ _
  have HE := hide (show tgB key num s = (macB key ((⟨#[116]⟩ : ByteArray) ++ vaT num ++ s)).extract 0 16 from rfl)
  generalize tgB key num s = tg at *
  generalize macB key ((⟨#[116]⟩ : ByteArray) ++ vaT num ++ s) = mc at *
  rw [hz0, hW0] at C
  rw [hW0] at hb0
  clear hW0 hz0
  unfold slC at *
  generalize vaT num = vt at *
  have h16 : (16 : Int) ≤ (mc.size : Int) := by omega
  have hcut := fun (W : World) => run_slice_string_h W 9 mc Try.underlying9 .i64 16 (by omega) (by omega)
  go_enter Try.func31, Try.ntmps31
  go_wp2_with fail
  refine (unhide C).mono ?_
  rintro e w2 ⟨rfl, hb2⟩
  have hb := hb0.trans (hb2.mono hb0.size)
  clear hb0 hb2 C
  go_wp2
  go_ret
  exact ⟨by rw [unhide HE]; rfl, hb⟩
end Go.Proofs.Ytinnaajkdkfnaaa

/- Masks and hidden texts by the project's own functions, over the loaded program. -/
namespace Go.Proofs.Ytinnaajkdkfnaaa
open Go.RowKit
theorem cut_l18 (l : List UInt8) (n : Nat) : (⟨l.toArray⟩ : ByteArray).extract 0 n = ⟨(l.take n).toArray⟩ := by
  apply ByteArray.ext
  apply Array.toList_inj.1
  rw [ByteArray.data_extract, Array.toList_extract]
  show (l.toArray.toList).extract 0 n = (l.take n).toArray.toList
  simp only [List.extract_eq_take_drop, List.drop_zero, Nat.sub_zero]
theorem cells_more9 (l : List UInt8) (s : ByteArray) : Lib.byteCells (l ++ s.data.toList) = Lib.byteCells l ++ Lib.strCells s := by
  simp [Lib.byteCells, Lib.strCells]
set_option maxRecDepth 20000 in
set_option maxHeartbeats 800000 in
theorem mask_any (key : ByteArray) (hk : key.size ≤ 1048576) (num : Nat) (hnum : num ≤ 1000000000) (n : Nat) (hn : n ≤ 8000) (w : World) :
    Calls Try.prog 39 #[.agg (slC key num), .int .i64 (n : Int)] w fun e w' => e = .returned (.string (lkB key num n)) ∧ Below w.heap.size w w' := by
  have hs0 := vaT_size hnum
  unfold slC
  go_enter Try.func39, Try.ntmps39
  go_wp2_with fail
  obtain ⟨W, hW, hR, hN, hB, hs1⟩ := two_cb w #[.string key, .string (vaT num)] #[.pointer none, .slice none 0 0] 40 65
  have hI0 := Lib.fresh_isBuilder 65 5 (w.alloc (.cells #[.string key, .string (vaT num)] 40))
  rw [show (w.alloc (.cells #[.string key, .string (vaT num)] 40)).heap.size = w.heap.size + 1 by simp, hW] at hI0
  rw [hW]
  clear hW hN
  replace hI0 := hide hI0
  replace hR := hide hR
  go_loopw [6] (fun ti wq => ∃ j : Nat, j ≤ (n + 31) / 32 ∧ ti = .int .i64 (j : Int) ∧ Hid (Lib.IsBuilder 65 5 (w.heap.size + 1) (w.heap.size + 1) (Lib.byteCells (lkL key num j)) wq) ∧ Hid (CB wq w.heap.size 40 #[.string key, .string (vaT num)]) ∧ Below w.heap.size w wq) (fun ti _ => 1000 - (intOf ti).toNat)
  case atStart => exact ⟨0, by omega, rfl, hI0, hR, hB⟩
  case round =>
    clear hI0 hR hB hs1
    obtain ⟨j, hj, rfl, HI, HC, hb⟩ := hrel
    have hjl := lkL_len key num j
    have hjb : j ≤ 250 := by omega
    obtain ⟨m, hm⟩ : ∃ m, m = 32 * j := ⟨_, rfl⟩
    rw [← hm] at hjl
    have hbl : (Lib.byteCells (lkL key num j)).length = m := by rw [Lib.byteCells_length]; exact hjl
    have hw1 : w.heap.size + 1 ≤ wr.heap.size := (unhide HC).lt
    have CL := hide (show Calls Try.prog 60 #[.pointer (some ⟨w.heap.size + 1, 0, none⟩)] wr fun e w' => e = .returned (.int .i64 (m : Int)) ∧ w' = wr from by rw [← hbl]; exact Try.Builder_Len _ _ _ _ (unhide HI))
    by_cases hlt : m < n
    · have hlt' : (m : Int) < (n : Int) := by omega
      have c0 := (unhide HC).cell 0 (v := .string key) rfl
      have c1 := (unhide HC).cell 1 (v := .string (vaT num)) rfl
      have CY := hide (fun W => implByte_any j (by omega) W)
      have CC := hide (fun (W : World) => macParts_any key hk W.heap.size 3 3 [⟨#[109]⟩, vaT num, oneB j] rfl (⟨#[109]⟩ ++ vaT num ++ oneB j) (flat_t9 _ _ _) (by rw [ByteArray.size_append, ByteArray.size_append, show (oneB j).size = 1 from rfl]; show 1 + _ + 1 ≤ 2000000; omega) (W.alloc (.cells #[.string ⟨#[109]⟩, .string (vaT num), .string (oneB j)] 9)) (three_t9 _ _ _ _ 9) (by simp) (by omega))
      have hTs : (macB key (⟨#[109]⟩ ++ vaT num ++ oneB j)).size = 32 := macB_size _ _
      have HLs := hide (show Lib.byteCells (lkL key num (j + 1)) = Lib.byteCells (lkL key num j) ++ Lib.strCells (macB key (⟨#[109]⟩ ++ vaT num ++ oneB j)) from cells_more9 _ _)
      have CW := hide (fun (W : World) (hh : Below wr.heap.size wr W) => Try.Builder_WriteString (w.heap.size + 1) (w.heap.size + 1) _ (macB key (⟨#[109]⟩ ++ vaT num ++ oneB j)) W (isB_below (unhide HI) hh) (by rw [hbl, hTs]; omega) (by have := hh.size; omega))
      have KS := hide (fun (W : World) (h : Below (w.heap.size + 1) wr W) => (⟨(h.cell (p := ⟨w.heap.size, 0, none⟩) (Nat.lt_succ_self _)).trans c0, (h.cell (p := ⟨w.heap.size, 1, none⟩) (Nat.lt_succ_self _)).trans c1⟩ : W.cell? ⟨w.heap.size, 0, none⟩ = some (.string key) ∧ W.cell? ⟨w.heap.size, 1, none⟩ = some (.string (vaT num))))
      generalize macB key (⟨#[109]⟩ ++ vaT num ++ oneB j) = tn at *
      generalize oneB j = ob at *
      generalize vaT num = vt at *
      replace hm := hide hm
      replace hbl := hide hbl
      go_wp2_with fail
      refine (unhide CL).mono ?_
      rintro e w0 ⟨rfl, hw0⟩
      subst hw0
      clear CL
      go_wp2_with fail
      go_region_held3 (fun W => W.cell? ⟨w.heap.size, 0, none⟩ = some (.string key) ∧ W.cell? ⟨w.heap.size, 1, none⟩ = some (.string vt)) (first | exact ⟨c0, c1⟩ | exact unhide KS _ K4 | exact unhide KS _ K3 | exact unhide KS _ (K2.mono hw1) | exact unhide KS _ (K1.mono hw1) | fail) (first
        | (go_at_call 62; refine ((unhide CY) _).mono ?_; rintro e w1 ⟨rfl, hb1⟩; have K1 := (Below.refl w0.heap.size w0).drew.trans hb1; have K2 := K1.alloc K1.size (.cells #[.string ⟨#[109]⟩, .string vt, .string ob] 9))
        | (go_at_call 55; refine ((unhide CC) _).mono ?_; rintro e w3 ⟨rfl, hb3⟩; have K3' := K2.trans (hb3.mono K2.size); have K3 := K3'.mono hw1)
        | (go_at_call 61; refine ((unhide CW) _ K3').mono ?_; rintro e w4 ⟨rfl, hI4, hb4⟩; have K4 := K3.trans hb4)
        | fail)
      all_goals
        have hI5 := hide (show Lib.IsBuilder 65 5 (w.heap.size + 1) (w.heap.size + 1) (Lib.byteCells (lkL key num (j + 1))) w4 from .inr (by rw [unhide HLs]; exact hI4))
        have hC5 := hide ((unhide HC).below K4 (Nat.lt_succ_self _))
        have hb5 := hb.trans (K4.mono (Nat.le_succ _))
        clear hI4 hb4 hb3 hb1 K1 K2 K3 K3' K4 KS c0 c1 CY CC CW HI HC HLs hb
        go_wp2
        have q2 := unhide hm
        exact ⟨⟨j + 1, by omega, by go_num, hI5, hC5, hb5⟩, by simp [intOf]; omega⟩
    · have hlt' : ¬ (m : Int) < (n : Int) := by omega
      have hje : j = (n + 31) / 32 := by omega
      have HB := hide (show lkB key num n = (⟨(lkL key num j).toArray⟩ : ByteArray).extract 0 n by rw [cut_l18]; unfold lkB; rw [hje])
      have CS := hide (Try.Builder_String_any (w.heap.size + 1) (w.heap.size + 1) (lkL key num j) wr (unhide HI) hw1)
      have hsz : (⟨(lkL key num j).toArray⟩ : ByteArray).size = m := hjl
      generalize (⟨(lkL key num j).toArray⟩ : ByteArray) = tx at *
      have hnm : (n : Int) ≤ (tx.size : Int) := by omega
      have hcut := fun (W : World) => run_slice_string_h W 9 tx Try.underlying9 .i64 (n : Int) (by omega) (by omega)
      replace hje := hide hje
      replace hm := hide hm
      clear HI HC
      go_wp2_with fail
      refine (unhide CL).mono ?_
      rintro e w0 ⟨rfl, hw0⟩
      subst hw0
      go_wp2_with fail
      refine (unhide CS).mono ?_
      rintro e w2 ⟨rfl, hb2⟩
      have hb3 := hb.trans (hb2.mono (Nat.le_succ _))
      clear hb hb2 CL CS
      go_wp2
      go_ret
      exact ⟨by rw [unhide HB]; rfl, hb3⟩
theorem xo_more9 (a b : List UInt8) (k : Nat) (h : a.length ≤ b.length) (hk : k < a.length) (hk2 : k < b.length) : Lib.byteCells ((xoL a b).take (k + 1)) = Lib.byteCells ((xoL a b).take k) ++ [.int .u8 ((a[k].toNat ^^^ b[k].toNat : Nat) : Int)] := by
  have hl : k < (xoL a b).length := by rw [xoL_len a b h]; exact hk
  rw [List.take_succ_eq_append_getElem hl]
  have e : (xoL a b)[k] = a[k] ^^^ b[k] := by simp [xoL]
  simp [Lib.byteCells, e]
set_option maxRecDepth 20000 in
set_option maxHeartbeats 800000 in
theorem turned_any (key : ByteArray) (hk : key.size ≤ 1048576) (num : Nat) (hnum : num ≤ 1000000000) (a : ByteArray) (hn : a.size ≤ 8000) (w : World) :
    Calls Try.prog 30 #[.agg (slC key num), .string a] w fun e w' => e = .returned (.string (xoB a (lkB key num a.size))) ∧ Below w.heap.size w w' := by
  have CM := hide (fun W => mask_any key hk num hnum a.size hn W)
  have hLL : a.data.toList.length ≤ (lkB key num a.size).data.toList.length := Nat.le_of_eq (lkB_size key num a.size).symm
  have hbz : (lkB key num a.size).size = a.size := lkB_size _ _ _
  unfold slC at *
  generalize lkB key num a.size = b at *
  generalize vaT num = vt at *
  go_enter Try.func30, Try.ntmps30
  go_wp2_with fail
  obtain ⟨W, hW, hR, hB, hs1⟩ := one_cb w #[.string key, .string vt] 40
  rw [hW]
  clear hW
  refine (unhide CM W).mono ?_
  rintro e w1 ⟨rfl, hb1⟩
  have hB1 := hB.trans (hb1.mono hB.size)
  have hw1 : w.heap.size ≤ w1.heap.size := hB1.size
  clear CM hb1 hB hR
  go_wp2_with fail
  have hI0 := hide (Lib.fresh_isBuilder 65 5 w1)
  have hB2 := hB1.alloc hB1.size (.cells #[.pointer none, .slice none 0 0] 65)
  have hz2 : w1.heap.size ≤ (w1.alloc (.cells #[.pointer none, .slice none 0 0] 65)).heap.size := by simp
  generalize w1.alloc (.cells #[.pointer none, .slice none 0 0] 65) = w2 at *
  go_loopw [14] (fun ti wq => ∃ k : Nat, k ≤ a.size ∧ ti = .int .i64 (k : Int) ∧ Hid (Lib.IsBuilder 65 5 w1.heap.size w1.heap.size (Lib.byteCells ((xoL a.data.toList b.data.toList).take k)) wq) ∧ w1.heap.size ≤ wq.heap.size ∧ Below w.heap.size w wq) (fun ti _ => 10000 - (intOf ti).toNat)
  case atStart => exact ⟨0, by omega, rfl, hI0, hz2, hB2⟩
  case round =>
    clear hI0 hB2 hz2
    obtain ⟨k, hk, rfl, HI, hz, hb⟩ := hrel
    by_cases hlt : k < a.size
    · have hlt' : (k : Int) < (a.size : Int) := by omega
      have hltb : (k : Int) < (b.size : Int) := by omega
      have hk0 : (0 : Int) ≤ (k : Int) := by omega
      have hkl : k < a.data.toList.length := hlt
      have hkb : k < b.data.toList.length := by omega
      have HM := hide (xo_more9 a.data.toList b.data.toList k hLL hkl hkb)
      obtain ⟨x, hx⟩ : ∃ x, x = a.data.toList[k].toNat := ⟨_, rfl⟩
      obtain ⟨y, hy⟩ : ∃ y, y = b.data.toList[k].toNat := ⟨_, rfl⟩
      have hxl : x < 256 := by rw [hx]; exact a.data.toList[k].toNat_lt
      have hyl : y < 256 := by rw [hy]; exact b.data.toList[k].toNat_lt
      rw [← hx, ← hy] at HM
      have hxa : x = a[k].toNat := hx
      have hyb : y = b[k].toNat := hy
      have ex := hide (u8_xor x y hxl hyl)
      have hll : (Lib.byteCells ((xoL a.data.toList b.data.toList).take k)).length ≤ 8000 := by rw [Lib.byteCells_length, List.length_take]; omega
      have CW := hide (fun (c : Int) (W : World) (hh : Below wr.heap.size wr W) => Try.Builder_WriteByte w1.heap.size w1.heap.size _ c W (isB_below (unhide HI) hh) (by omega) (Nat.le_trans hz hh.size))
      replace hyb := hide hyb
      replace hxa := hide hxa
      replace hx := hide hx
      replace hy := hide hy
      replace hll := hide hll
      go_wp2_with fail
      go_region_held3 (fun _ => True) (first | trivial | fail) (first
        | (go_at_call 53; refine ((unhide CW) _ _ (Below.refl wr.heap.size wr).drew).mono ?_; rintro e w4 ⟨rfl, hI4, hb4⟩)
        | fail)
      all_goals
        rw [← unhide hxa, ← unhide hyb, unhide ex, ← unhide HM] at hI4
        have hI5 := hide (show Lib.IsBuilder 65 5 w1.heap.size w1.heap.size (Lib.byteCells ((xoL a.data.toList b.data.toList).take (k + 1))) w4 from .inr hI4)
        have hb5 := hb.trans (((Below.refl w1.heap.size wr).drew.trans hb4).mono hw1)
        have hz5 : w1.heap.size ≤ w4.heap.size := Nat.le_trans hz ((Below.refl w1.heap.size wr).drew.trans hb4).size
        clear hI4 hb4 CW HI HM hb
        go_wp2
        exact ⟨⟨k + 1, by omega, by go_num, hI5, hz5, hb5⟩, by simp [intOf]; omega⟩
    · have hlt' : ¬ (k : Int) < (a.size : Int) := by omega
      obtain rfl : k = a.size := by omega
      have hll : (xoL a.data.toList b.data.toList).take a.size = xoL a.data.toList b.data.toList := List.take_of_length_le (by rw [xoL_len _ _ hLL]; exact Nat.le_refl _)
      rw [hll] at HI
      have CS := hide (Try.Builder_String_any w1.heap.size w1.heap.size (xoL a.data.toList b.data.toList) wr (unhide HI) hz)
      rw [show (⟨(xoL a.data.toList b.data.toList).toArray⟩ : ByteArray) = xoB a b from rfl] at CS
      obtain ⟨out, hout⟩ : ∃ out, out = xoB a b := ⟨_, rfl⟩
      rw [← hout] at CS
      replace hout := hide hout
      clear HI hll
      go_wp2_with fail
      refine (unhide CS).mono ?_
      rintro e w2 ⟨rfl, hb2⟩
      have hb3 := hb.trans (hb2.mono hw1)
      clear hb hb2 CS
      go_wp2
      go_ret
      exact ⟨by rw [← unhide hout]; rfl, hb3⟩
end Go.Proofs.Ytinnaajkdkfnaaa

/- Texts that are locked and opened by the project's own functions, over the loaded program: a reader that panics, and what is found by it. -/
namespace Go.Proofs.Ytinnaajkdkfnaaa
open Go.RowKit
set_option maxRecDepth 20000 in
set_option maxHeartbeats 400000 in
theorem implMk_any (key : ByteArray) (hk : key.size ≤ 1048576) (z n : Int) (w : World) :
    Calls Try.prog 16 #[.string key, .int .i64 z, .int .i64 n] w fun e w' => e = .returned (.tuple #[.string (mkB key z n), .bool (mkOk z n)]) ∧ Below w.heap.size w w' := by
  by_cases hok : mkOk z n = true
  · obtain ⟨h1, h2⟩ : numIn z ∧ (0 ≤ n ∧ n ≤ 8000) := by
      unfold mkOk at hok
      rw [Bool.and_eq_true] at hok
      exact ⟨of_decide_eq_true hok.1, of_decide_eq_true hok.2⟩
    unfold numIn at h1
    obtain ⟨num, rfl⟩ : ∃ k : Nat, z = (k : Int) := ⟨z.toNat, by omega⟩
    obtain ⟨m, rfl⟩ : ∃ k : Nat, n = (k : Int) := ⟨n.toNat, by omega⟩
    have C1 := hide (fun W => sealOf_yes key num (by omega) m (by omega) W)
    have C2 := hide (fun W => mask_any key hk num (by omega) m (by omega) W)
    have HE : mkB key (num : Int) (m : Int) = lkB key num m := by unfold mkB; rw [if_pos hok]; rfl
    rw [HE, hok]
    generalize lkB key num m = out at *
    unfold slC at *
    generalize vaT num = vt at *
    clear HE hok h1 h2
    go_enter Try.func16, Try.ntmps16
    go_wp2_with fail
    refine (unhide C1 w).mono ?_
    rintro e w1 ⟨rfl, hb1⟩
    go_wp2_with fail
    obtain ⟨W, hW, hR, hB, hs1⟩ := one_cb w1 #[.string key, .string vt] 40
    rw [hW]
    clear hW
    refine (unhide C2 W).mono ?_
    rintro e w2 ⟨rfl, hb2⟩
    have hb := hb1.trans ((hB.trans (hb2.mono hB.size)).mono hb1.size)
    clear hb1 hb2 hB hR C1 C2
    go_wp2
    refine bodyPost_ret (v := .tuple #[.string out, .bool true]) (by simp [results, Try.results16, go_sem]) rfl ⟨rfl, hb⟩
  · have hf : mkOk z n = false := by cases h : mkOk z n <;> simp_all
    have HE : mkB key z n = ⟨#[]⟩ := by unfold mkB; rw [if_neg hok]
    have C1 := hide (fun W => sealOf_no key z n (by
      unfold mkOk at hf
      rw [Bool.and_eq_false_iff] at hf
      rcases hf with h | h
      · have := of_decide_eq_false h; unfold numIn at this; omega
      · have := of_decide_eq_false h; omega) W)
    rw [HE, hf]
    clear HE hf hok
    go_enter Try.func16, Try.ntmps16
    go_wp2_with fail
    refine (unhide C1 w).mono ?_
    rintro e w1 ⟨rfl, hb1⟩
    have hb := hb1.alloc hb1.size (.cells #[.string ⟨#[]⟩, .string ⟨#[]⟩] 40)
    go_wp2
    refine bodyPost_ret (v := .tuple #[.string ⟨#[]⟩, .bool false]) (by simp [results, Try.results16, go_sem]) rfl ⟨rfl, hb⟩
set_option maxRecDepth 20000 in
set_option maxHeartbeats 400000 in
theorem implLock_any (key : ByteArray) (hk : key.size ≤ 1048576) (z : Int) (s : ByteArray) (hs : s.size ≤ 2000000) (w : World) :
    Calls Try.prog 11 #[.string key, .int .i64 z, .string s] w fun e w' => e = .returned (.tuple #[.string (loB key z s), .bool (loOk z s)]) ∧ Below w.heap.size w w' := by
  by_cases hok : loOk z s = true
  · obtain ⟨num, rfl, hnum, hz⟩ := lo_parts hok
    have C1 := hide (fun W => sealOf_yes key num hnum s.size hz W)
    have C2 := hide (fun W => turned_any key hk num hnum s hz W)
    have hxz : (xoB s (lkB key num s.size)).size = s.size := xoB_size _ _ (by rw [lkB_size]; exact Nat.le_refl _)
    have C3 := hide (fun W => tag_any key hk num hnum (xoB s (lkB key num s.size)) (by omega) W)
    have hTs := tgB_size key num (xoB s (lkB key num s.size))
    have HE : loB key (num : Int) s = xoB s (lkB key num s.size) ++ tgB key num (xoB s (lkB key num s.size)) := loB_is hok
    rw [HE, hok]
    generalize tgB key num (xoB s (lkB key num s.size)) = tg at *
    generalize xoB s (lkB key num s.size) = hd at *
    unfold slC at *
    generalize vaT num = vt at *
    have h63 : ¬ 9223372036854775807 < hd.size + tg.size := by omega
    have h64 : hd.size + tg.size ≤ 9223372036854775807 := by omega
    clear HE hok
    go_enter Try.func11, Try.ntmps11
    go_wp2_with fail
    refine (unhide C1 w).mono ?_
    rintro e w1 ⟨rfl, hb1⟩
    go_wp2_with fail
    obtain ⟨W, hW, hR, hB, hs1⟩ := one_cb w1 #[.string key, .string vt] 40
    rw [hW]
    clear hW
    refine (unhide C2 W).mono ?_
    rintro e w2 ⟨rfl, hb2⟩
    have hb3 := hb1.trans ((hB.trans (hb2.mono hB.size)).mono hb1.size)
    have hR2 := hR.step hb2
    have r0 := hR2.cell 0 (v := .string key) rfl
    have r1 := hR2.cell 1 (v := .string vt) rfl
    clear hb1 hb2 hB hR C1 C2
    go_wp2_with fail
    refine (unhide C3 w2).mono ?_
    rintro e w3 ⟨rfl, hb4⟩
    have hb := hb3.trans (hb4.mono hb3.size)
    clear hb3 hb4 C3 r0 r1 hR2
    go_wp2
    refine bodyPost_ret (v := .tuple #[.string (hd ++ tg), .bool true]) (by simp [results, Try.results11, go_sem]) rfl ⟨rfl, hb⟩
  · have hf : loOk z s = false := by cases h : loOk z s <;> simp_all
    have HE : loB key z s = ⟨#[]⟩ := by unfold loB; rw [if_neg hok]
    have C1 := hide (fun W => sealOf_no key z (s.size : Int) ((lo_not hok).imp id Or.inr) W)
    rw [HE, hf]
    clear HE hf hok
    go_enter Try.func11, Try.ntmps11
    go_wp2_with fail
    refine (unhide C1 w).mono ?_
    rintro e w1 ⟨rfl, hb1⟩
    have hb := hb1.alloc hb1.size (.cells #[.string ⟨#[]⟩, .string ⟨#[]⟩] 40)
    go_wp2
    refine bodyPost_ret (v := .tuple #[.string ⟨#[]⟩, .bool false]) (by simp [results, Try.results11, go_sem]) rfl ⟨rfl, hb⟩
/-- What a reader panics with where there is no text. -/
def wrongV : Value := .iface 72 (.agg #[])
def wrongE : Ending := .panicked [{ v := wrongV, recovered := false }]
set_option maxRecDepth 20000 in
theorem need_yes (key : ByteArray) (z : Int) (w : World) :
    Calls Try.prog 57 #[.agg #[.string key, .int .i64 z], .bool true] w fun e w' => e = .returned (.tuple #[]) ∧ Below w.heap.size w w' := by
  have hb := (Below.refl w.heap.size w).alloc (Nat.le_refl _) (.cells #[.string key, .int .i64 z] 46)
  go_enter Try.func57, Try.ntmps57
  go_wp2
  go_end0
  exact ⟨rfl, hb⟩
set_option maxRecDepth 20000 in
theorem need_no (key : ByteArray) (z : Int) (w : World) :
    Calls Try.prog 57 #[.agg #[.string key, .int .i64 z], .bool false] w fun e w' => e = wrongE ∧ Below w.heap.size w w' := by
  have hb := (Below.refl w.heap.size w).alloc (Nat.le_refl _) (.cells #[.string key, .int .i64 z] 46)
  go_enter Try.func57, Try.ntmps57
  go_wp2
  exact ⟨rfl, rfl, hb⟩
end Go.Proofs.Ytinnaajkdkfnaaa

/- What a reader of seals finds, and where it panics, by the project's own functions, over the loaded program. -/
namespace Go.Proofs.Ytinnaajkdkfnaaa
open Go.RowKit
set_option maxRecDepth 20000 in
set_option maxHeartbeats 800000 in
theorem open_short (key : ByteArray) (z : Int) (t : ByteArray) (ht : t.size ≤ 1048576) (hz : (z < 0 ∨ 1000000000 < z) ∨ ((t.size : Int) - 16 < 0 ∨ 8000 < (t.size : Int) - 16)) (w : World) :
    Calls Try.prog 33 #[.agg #[.string key, .int .i64 z], .string t] w fun e w' => e = wrongE ∧ Below w.heap.size w w' := by
  obtain ⟨d, hd⟩ : ∃ d : Int, d = (t.size : Int) - 16 := ⟨_, rfl⟩
  have ew : IntKind.i64.wrap ((t.size : Int) - 16) = d := by rw [IntKind.wrap_i64]; omega
  have ew' : (t.size : Int) - 16 = d := hd.symm
  have C1 := hide (fun W => sealOf_no key z d (by omega) W)
  have C2 := hide (fun W => need_no key z W)
  clear hz hd
  go_enter Try.func33, Try.ntmps33
  go_wp2_with fail
  obtain ⟨W, hW, hR, hB, hs1⟩ := one_cb w #[.string key, .int .i64 z] 46
  rw [hW]
  clear hW
  refine (unhide C1 W).mono ?_
  rintro e w1 ⟨rfl, hb1⟩
  have hB1 := hB.trans (hb1.mono hB.size)
  have hR1 := hR.step hb1
  have r0 := hR1.cell 0 (v := .string key) rfl
  have r1 := hR1.cell 1 (v := .int .i64 z) rfl
  have hlt := hR1.lt
  have hB2 := hB1.alloc hB1.size (.cells #[.string ⟨#[]⟩, .string ⟨#[]⟩] 40)
  have hR2 := hR1.alloc (.cells #[.string ⟨#[]⟩, .string ⟨#[]⟩] 40)
  have s0 := hR2.cell 0 (v := .string key) rfl
  have s1 := hR2.cell 1 (v := .int .i64 z) rfl
  clear hB hb1 hR C1
  go_wp2_with fail
  refine (unhide C2 _).mono ?_
  rintro e w2 ⟨rfl, hb2⟩
  have hb := hB2.trans (hb2.mono hB2.size)
  clear hB2 hb2 hR1 hR2 s0 s1 r0 r1 C2 hB1
  unfold wrongE
  go_wp2
  exact ⟨rfl, rfl, hb⟩
set_option maxRecDepth 20000 in
set_option maxHeartbeats 1600000 in
theorem open_long (key : ByteArray) (hk : key.size ≤ 1048576) (num : Nat) (hnum : num ≤ 1000000000) (t : ByteArray) (d : Nat) (hd : t.size = d + 16) (hd8 : d ≤ 8000) (ok : Bool) (hok : ok = decide (tgB key num (t.extract 0 d) = t.extract d t.size)) (w : World) :
    Calls Try.prog 33 #[.agg #[.string key, .int .i64 (num : Int)], .string t] w fun e w' => e = (if ok = true then .returned (.string (xoB (t.extract 0 d) (lkB key num d))) else wrongE) ∧ Below w.heap.size w w' := by
  have ew : IntKind.i64.wrap ((t.size : Int) - 16) = (d : Int) := by rw [IntKind.wrap_i64]; omega
  have ew' : (t.size : Int) - 16 = (d : Int) := by omega
  have hdt : (d : Int) ≤ (t.size : Int) := by omega
  have hd0 : (0 : Int) ≤ (d : Int) := by omega
  have hxs : (t.extract 0 d).size = d := by rw [ByteArray.size_extract]; omega
  have hys : (t.extract d t.size).size = 16 := by rw [ByteArray.size_extract]; omega
  have hmin : min d t.size = d := Nat.min_eq_left (by omega)
  have C1 := hide (fun W => sealOf_yes key num hnum d hd8 W)
  have CT := hide (fun W => tag_any key hk num hnum (t.extract 0 d) (by omega) W)
  have CS := hide (fun W => implSame_any (tgB key num (t.extract 0 d)) (t.extract d t.size) W (by rw [tgB_size]; omega) (by omega))
  have CX := hide (fun W => turned_any key hk num hnum (t.extract 0 d) (by omega) W)
  rw [hxs] at CX
  rw [← hok] at CS
  unfold slC at *
  generalize xoB (t.extract 0 d) (lkB key num d) = out at *
  generalize tgB key num (t.extract 0 d) = tg at *
  have CN1 := hide (fun W => need_yes key (num : Int) W)
  have CN0 := hide (fun W => need_no key (num : Int) W)
  generalize vaT num = vt at *
  replace hd := hide hd
  clear hok
  go_enter Try.func33, Try.ntmps33
  go_wp2_with fail
  obtain ⟨W, hW, hR, hB, hs1⟩ := one_cb w #[.string key, .int .i64 (num : Int)] 46
  rw [hW]
  clear hW
  refine (unhide C1 W).mono ?_
  rintro e w1 ⟨rfl, hb1⟩
  have hB1 := hB.trans (hb1.mono hB.size)
  have hR1 := hR.step hb1
  obtain ⟨W2, hW2, hY2, hB12, hs2⟩ := one_cb w1 #[.string key, .string vt] 40
  have hR2 := hR1.step hB12
  have hB2 := hB1.trans (hB12.mono hB1.size)
  have r0 := hR1.cell 0 (v := .string key) rfl
  have r1 := hR1.cell 1 (v := .int .i64 (num : Int)) rfl
  have s0 := hR2.cell 0 (v := .string key) rfl
  have s1 := hR2.cell 1 (v := .int .i64 (num : Int)) rfl
  clear hB hb1 hR C1 hR1 hB1 hB12
  go_wp2_with fail
  clear hW2 s0 s1 r0 r1
  refine (unhide CN1 W2).mono ?_
  rintro e w3 ⟨rfl, hb3⟩
  have hB3 := hB2.trans (hb3.mono hB2.size)
  have hR3 := hR2.step hb3
  have hY3 := hY2.step hb3
  have hl3 := hY3.lt
  have hl4 := hR3.lt
  have r0 := hR3.cell 0 (v := .string key) rfl
  have r1 := hR3.cell 1 (v := .int .i64 (num : Int)) rfl
  have y0 := hY3.cell 0 (v := .string key) rfl
  have y1 := hY3.cell 1 (v := .string vt) rfl
  clear hb3 hR2 hY2 hB2
  have KS := hide (fun (W : World) (h : Below w3.heap.size w3 W) => (⟨(h.cell (p := ⟨w.heap.size, 0, none⟩) hl4).trans r0, (h.cell (p := ⟨w.heap.size, 1, none⟩) hl4).trans r1, (h.cell (p := ⟨w1.heap.size, 0, none⟩) hl3).trans y0, (h.cell (p := ⟨w1.heap.size, 1, none⟩) hl3).trans y1⟩ : W.cell? ⟨w.heap.size, 0, none⟩ = some (.string key) ∧ W.cell? ⟨w.heap.size, 1, none⟩ = some (.int .i64 (num : Int)) ∧ W.cell? ⟨w1.heap.size, 0, none⟩ = some (.string key) ∧ W.cell? ⟨w1.heap.size, 1, none⟩ = some (.string vt)))
  replace hxs := hide hxs
  replace hys := hide hys
  go_wp2_with fail
  cases ok with
  | true =>
    go_region_held3 (fun W => W.cell? ⟨w.heap.size, 0, none⟩ = some (.string key) ∧ W.cell? ⟨w.heap.size, 1, none⟩ = some (.int .i64 (num : Int)) ∧ W.cell? ⟨w1.heap.size, 0, none⟩ = some (.string key) ∧ W.cell? ⟨w1.heap.size, 1, none⟩ = some (.string vt)) (first | exact ⟨r0, r1, y0, y1⟩ | exact unhide KS _ K3 | exact unhide KS _ K2 | exact unhide KS _ K1 | fail) (first
      | (go_at_call 31; refine (unhide CT _).mono ?_; rintro e wA ⟨rfl, hbA⟩; have K1 := (Below.refl w3.heap.size w3).drew.trans hbA)
      | (go_at_call 58; refine (unhide CS _).mono ?_; rintro e wB ⟨rfl, hbB⟩; have K2 := K1.trans (hbB.mono K1.size))
      | (go_at_call 57; refine (unhide CN1 _).mono ?_; rintro e wC ⟨rfl, hbC⟩; have K3 := K2.trans (hbC.mono K2.size))
      | fail)
    all_goals
      obtain ⟨_, _, z0, z1⟩ := unhide KS _ K3
      have hb3 := hB3.trans (K3.mono hB3.size)
      clear hbA hbB hbC K1 K2 K3 KS r0 r1 y0 y1 CT CS CN1 CN0
      go_wp2_with fail
      refine (unhide CX _).mono ?_
      rintro e w5 ⟨rfl, hb5⟩
      have hb := hb3.trans (hb5.mono hb3.size)
      clear hb5 CX hb3
      go_wp2
      go_ret
      exact ⟨rfl, hb⟩
  | false =>
    refine wp_region_held_drew (S := (fun W => W.cell? ⟨w.heap.size, 0, none⟩ = some (.string key) ∧ W.cell? ⟨w.heap.size, 1, none⟩ = some (.int .i64 (num : Int)) ∧ W.cell? ⟨w1.heap.size, 0, none⟩ = some (.string key) ∧ W.cell? ⟨w1.heap.size, 1, none⟩ = some (.string vt))) (by kernel_rfl) ⟨r0, r1, y0, y1⟩ (fun hHeld => ?_)
    refine wpAnyH_take (i := 0) (v := ?_) rfl (by kernel_rfl) (by kernel_rfl) (by kernel_rfl) (fun _ _ _ h => h) (Or.inl ⟨by rfl, ?_⟩) (by assumption) ?_
    rotate_left
    · intro W9 hSw
      obtain ⟨e0, e1, e2, e3⟩ := hSw
      go_simp
      all_goals with_reducible rfl
    refine wpAnyH_take (i := 1) (v := ?_) rfl (by kernel_rfl) (by kernel_rfl) (by kernel_rfl) (fun _ _ _ h => h) (Or.inl ⟨by rfl, ?_⟩) (by assumption) ?_
    rotate_left
    · intro W9 hSw
      obtain ⟨e0, e1, e2, e3⟩ := hSw
      go_simp
      all_goals with_reducible rfl
    refine wpAnyH_take (i := 2) (v := ?_) rfl (by kernel_rfl) (by kernel_rfl) (by kernel_rfl) (fun _ _ _ h => h) (Or.inl ⟨by rfl, ?_⟩) (by assumption) ?_
    rotate_left
    · intro W9 hSw
      obtain ⟨e0, e1, e2, e3⟩ := hSw
      go_simp
      all_goals with_reducible rfl
    refine wpAnyH_take (i := 4) (v := ?_) rfl (by kernel_rfl) (by kernel_rfl) (by kernel_rfl) (fun _ _ _ h => h) (Or.inl ⟨by rfl, ?_⟩) (by assumption) ?_
    rotate_left
    · intro W9 hSw
      obtain ⟨e0, e1, e2, e3⟩ := hSw
      go_simp
      all_goals with_reducible rfl
    refine wpAnyH_take (i := 5) (v := ?_) rfl (by kernel_rfl) (by kernel_rfl) (by kernel_rfl) (fun _ _ _ h => h) (Or.inl ⟨by rfl, ?_⟩) (by assumption) ?_
    rotate_left
    · intro W9 hSw
      obtain ⟨e0, e1, e2, e3⟩ := hSw
      go_simp
      all_goals with_reducible rfl
    refine wpAnyH_take (i := 6) (v := ?_) rfl (by kernel_rfl) (by kernel_rfl) (by kernel_rfl) (fun _ _ _ h => h) (Or.inl ⟨by rfl, ?_⟩) (by assumption) ?_
    rotate_left
    · intro W9 hSw
      obtain ⟨e0, e1, e2, e3⟩ := hSw
      go_simp
      all_goals with_reducible rfl
    refine wpAnyH_ready (rs := [3]) (by kernel_rfl) (by simp) ?_
    refine AllReadyH.cons rfl (fun K hK => ?_) AllReadyH.nil
    go_simp
    go_at_call 31
    refine (unhide CT _).mono ?_
    rintro e wA ⟨rfl, hbA⟩
    have KA := (Below.refl w3.heap.size w3).drew.trans hbA
    go_wp2_with fail
    refine hK.out _ _ (unhide KS _ KA) (fun hHeld => ?_)
    clear hK K
    refine wpAnyH_ready (rs := [7]) (by kernel_rfl) (by simp) ?_
    refine AllReadyH.cons rfl (fun K hK => ?_) AllReadyH.nil
    go_simp
    go_at_call 58
    refine (unhide CS _).mono ?_
    rintro e wB ⟨rfl, hbB⟩
    have KB := KA.trans (hbB.mono KA.size)
    go_wp2_with fail
    refine hK.out _ _ (unhide KS _ KB) (fun hHeld => ?_)
    clear hK K
    refine wpAnyH_ready (rs := [8]) (by kernel_rfl) (by simp) ?_
    refine AllReadyH.cons rfl (fun K hK => ?_) AllReadyH.nil
    go_simp
    go_at_call 57
    refine (unhide CN0 _).mono ?_
    rintro e wC ⟨rfl, hbC⟩
    have KC := KB.trans (hbC.mono KB.size)
    unfold wrongE
    exact ⟨rfl, rfl, hB3.trans (KC.mono hB3.size)⟩
theorem opX_is {t : ByteArray} {d : Nat} (hd : t.size = d + 16) : opX t = t.extract 0 d ∧ opT t = t.extract d t.size := by
  unfold opX opT
  rw [show t.size - 16 = d by omega]
  exact ⟨rfl, rfl⟩
/-- A reader finds the text where there is one, and panics where there is none. -/
theorem open_any (key : ByteArray) (hk : key.size ≤ 1048576) (z : Int) (t : ByteArray) (ht : t.size ≤ 1048576) (w : World) :
    Calls Try.prog 33 #[.agg #[.string key, .int .i64 z], .string t] w fun e w' => e = (if opOk key z t = true then .returned (.string (opB key z t)) else wrongE) ∧ Below w.heap.size w w' := by
  by_cases hs : (z < 0 ∨ 1000000000 < z) ∨ ((t.size : Int) - 16 < 0 ∨ 8000 < (t.size : Int) - 16)
  · have hf : ¬ opOk key z t = true := by
      intro h
      obtain ⟨h1, h2, _⟩ := op_parts h
      obtain ⟨num, rfl, h3, h4⟩ := lo_parts h2
      rw [opX_size h1] at h4
      omega
    rw [if_neg hf]
    exact open_short key z t ht hs w
  · obtain ⟨num, rfl⟩ : ∃ k : Nat, z = (k : Int) := ⟨z.toNat, by omega⟩
    obtain ⟨d, hd⟩ : ∃ d : Nat, t.size = d + 16 := ⟨t.size - 16, by omega⟩
    obtain ⟨e1, e2⟩ := opX_is hd
    have hlo : loOk (num : Int) (t.extract 0 d) = true := by
      unfold loOk
      rw [decide_eq_true (show numIn (num : Int) by unfold numIn; omega), decide_eq_true (show (t.extract 0 d).size ≤ 8000 by rw [ByteArray.size_extract]; omega)]
      rfl
    have E0 : opOk key (num : Int) t = decide (tgB key num (t.extract 0 d) = t.extract d t.size) := by
      unfold opOk
      rw [decide_eq_true (show 16 ≤ t.size by omega), e1, e2, hlo, Bool.true_and, Bool.true_and]
      rfl
    have E1 : opOk key (num : Int) t = true → opB key (num : Int) t = xoB (t.extract 0 d) (lkB key num d) := by
      intro h
      rw [opB_is h, e1, show (t.extract 0 d).size = d by rw [ByteArray.size_extract]; omega]
      rfl
    refine (open_long key hk num (by omega) t d hd (by omega) (opOk key (num : Int) t) E0 w).mono ?_
    rintro e w' ⟨rfl, hb⟩
    refine ⟨?_, hb⟩
    split
    next h => rw [E1 h]
    · rfl
end Go.Proofs.Ytinnaajkdkfnaaa

/- What is found by a reader that may panic: texts that are opened by the project's own function, over the loaded program. -/
namespace Go.Proofs.Ytinnaajkdkfnaaa
open Go.RowKit
set_option maxRecDepth 20000 in
set_option maxHeartbeats 400000 in
theorem catch_idle (w : World) :
    CallsD Try.prog 56 #[] .returning w fun e u' w' => e = .returned (.tuple #[]) ∧ u' = .returning ∧ w' = w := by
  have hta : ∀ W : World, (Instr.typeAssert .nilIface 20 72 true).run Try.prog W = .ok (.tuple #[.agg #[], .bool false]) W := fun _ => by kernel_rfl
  refine callsD_of_wpS Try.func56 rfl fun c₀ cs hu => ?_
  apply wpS_seq
  apply wpS_region
  simp [wpOpsS, go_sem, recoverD, hu, Try.ntmps56, Exit.thenS]
  refine wpS_of_wp ?_
  go_wp2
  exact ⟨rfl, .returning, by rw [← hu], .tuple #[], by simp [results, Try.results56, go_sem], rfl, rfl, rfl⟩
set_option maxRecDepth 20000 in
set_option maxHeartbeats 400000 in
theorem catch_wrong (w : World) :
    CallsD Try.prog 56 #[] (.panicking [{ v := wrongV, recovered := false }]) w fun e u' w' => e = .returned (.tuple #[]) ∧ u' = .panicking [{ v := wrongV, recovered := true }] ∧ w' = w := by
  have hta : ∀ W : World, (Instr.typeAssert wrongV 20 72 true).run Try.prog W = .ok (.tuple #[.agg #[], .bool true]) W := fun _ => by kernel_rfl
  have heg : ∀ (W : World), (eqGuard BinOp.eql 20 (Operand.tmp 2) (Operand.const Value.nilIface) wrongV Value.nilIface).run Try.prog W = .ok () W := fun _ => by kernel_rfl
  have heq : ∀ (W : World), (binOp BinOp.eql 20 wrongV Value.nilIface).run Try.prog W = .ok (.bool false) W := fun _ => by kernel_rfl
  refine callsD_of_wpS Try.func56 rfl fun c₀ cs hu => ?_
  apply wpS_seq
  apply wpS_region
  simp [wpOpsS, go_sem, recoverD, hu, Try.ntmps56, Exit.thenS]
  refine wpS_of_wp ?_
  go_wp2
  exact ⟨rfl, _, rfl, .tuple #[], by simp [results, Try.results56, go_sem], rfl, rfl, rfl⟩
set_option maxRecDepth 20000 in
set_option maxHeartbeats 400000 in
theorem found_open (key : ByteArray) (z : Int) (t out : ByteArray) (ok : Bool) (w : World) (C : ∀ W : World, Calls Try.prog 33 #[.agg #[.string key, .int .i64 z], .string t] W fun e w' => e = (if ok = true then .returned (.string out) else wrongE) ∧ Below W.heap.size W w') :
    Calls Try.prog 32 #[.func (.func 33) #[.agg #[.string key, .int .i64 z]] #[], .string t] w fun e w' => e = .returned (.tuple #[.string (if ok = true then out else ⟨#[]⟩), .bool ok]) ∧ Below w.heap.size w w' := by
  replace C := hide C
  cases ok with
  | true =>
    go_enter_defers Try.func32, Try.ntmps32
    go_wp2_with fail
    refine (unhide C w).mono ?_
    rintro e w1 ⟨he, hb1⟩
    obtain rfl : e = .returned (.string out) := by simpa using he
    clear he
    clear C
    go_wp2
    refine leaves_cons (f := 56) (args := #[]) (by simp) (by simp [go_sem]) ?_
    refine (catch_idle _).mono ?_
    rintro e u' w'' ⟨rfl, rfl, rfl⟩
    simp [Leaves, settle, results, Try.results32, go_sem]
    exact hb1
  | false =>
    go_enter_defers Try.func32, Try.ntmps32
    go_wp2_with fail
    refine (unhide C w).mono ?_
    rintro e w1 ⟨he, hb1⟩
    rw [if_neg Bool.false_ne_true] at he
    subst he
    clear C
    unfold wrongE
    go_wp2
    refine leaves_cons (f := 56) (args := #[]) (by simp) (by simp [go_sem]) ?_
    refine (catch_wrong _).mono ?_
    rintro e u' w'' ⟨rfl, rfl, rfl⟩
    simp [Leaves, settle, results, Try.results32, go_sem]
    exact hb1
set_option maxRecDepth 20000 in
set_option maxHeartbeats 400000 in
theorem found_unwrap (key : ByteArray) (z : Int) (t out : ByteArray) (ok : Bool) (w : World) (C : ∀ W : World, Calls Try.prog 44 #[.agg #[.string key, .int .i64 z], .string t] W fun e w' => e = (if ok = true then .returned (.string out) else wrongE) ∧ Below W.heap.size W w') :
    Calls Try.prog 32 #[.func (.func 44) #[.agg #[.string key, .int .i64 z]] #[], .string t] w fun e w' => e = .returned (.tuple #[.string (if ok = true then out else ⟨#[]⟩), .bool ok]) ∧ Below w.heap.size w w' := by
  replace C := hide C
  cases ok with
  | true =>
    go_enter_defers Try.func32, Try.ntmps32
    go_wp2_with fail
    refine (unhide C w).mono ?_
    rintro e w1 ⟨he, hb1⟩
    obtain rfl : e = .returned (.string out) := by simpa using he
    clear he
    clear C
    go_wp2
    refine leaves_cons (f := 56) (args := #[]) (by simp) (by simp [go_sem]) ?_
    refine (catch_idle _).mono ?_
    rintro e u' w'' ⟨rfl, rfl, rfl⟩
    simp [Leaves, settle, results, Try.results32, go_sem]
    exact hb1
  | false =>
    go_enter_defers Try.func32, Try.ntmps32
    go_wp2_with fail
    refine (unhide C w).mono ?_
    rintro e w1 ⟨he, hb1⟩
    rw [if_neg Bool.false_ne_true] at he
    subst he
    clear C
    unfold wrongE
    go_wp2
    refine leaves_cons (f := 56) (args := #[]) (by simp) (by simp [go_sem]) ?_
    refine (catch_wrong _).mono ?_
    rintro e u' w'' ⟨rfl, rfl, rfl⟩
    simp [Leaves, settle, results, Try.results32, go_sem]
    exact hb1
set_option maxRecDepth 20000 in
set_option maxHeartbeats 400000 in
theorem implOpen_any (key : ByteArray) (hk : key.size ≤ 1048576) (z : Int) (t : ByteArray) (ht : t.size ≤ 1048576) (w : World) :
    Calls Try.prog 12 #[.string key, .int .i64 z, .string t] w fun e w' => e = .returned (.tuple #[.string (opB key z t), .bool (opOk key z t)]) ∧ Below w.heap.size w w' := by
  have hmf : ∀ (fn : Fn) (first cap : Array Value) (w : World), (Instr.makeFunc fn first cap).run Try.prog w = .ok (.func fn first cap) w := fun _ _ _ _ => rfl
  have C := hide (fun W => found_open key z t (opB key z t) (opOk key z t) W (fun W' => open_any key hk z t ht W'))
  rw [show (if opOk key z t = true then opB key z t else ⟨#[]⟩) = opB key z t by split; rfl; next h => unfold opB; rw [if_neg h]] at C
  generalize opB key z t = out at *
  generalize opOk key z t = ok at *
  go_enter Try.func12, Try.ntmps12
  go_wp2_with fail
  refine (unhide C w).mono ?_
  rintro e w1 ⟨rfl, hb1⟩
  clear C
  go_wp2
  refine bodyPost_ret (v := .tuple #[.string out, .bool ok]) (by simp [results, Try.results12, go_sem]) rfl ⟨rfl, hb1⟩
end Go.Proofs.Ytinnaajkdkfnaaa

/- The law of ReadShort, walked: at every text and place the two answers are the same. -/
namespace Go.Proofs.Ytinnaajkdkfnaaa
open Go.RowKit

theorem rvRun_some {s : ByteArray} {a : Nat} : ∀ (f i u n m j : Nat), s.size - i ≤ f → rvRun s a i u n = some (m, j) → j ≤ s.size ∧ m ≤ 1000000000 := by
  intro f
  induction f with
  | zero =>
    intro i u n m j hf h
    rw [rvRun_out (by omega)] at h
    cases h
  | succ f ih =>
    intro i u n m j hf h
    by_cases h1 : i < s.size ∧ i < a + 5
    · by_cases hb : 127 < s[i].toNat
      · rw [rvRun_on h1.1 h1.2 hb] at h
        exact ih _ _ _ _ _ (by omega) h
      · by_cases hn : (s[i].toNat = 0 ∧ a < i) ∨ 1000000000 < n + s[i].toNat % 128 * u
        · rw [rvRun_no h1.1 h1.2 hb hn] at h; cases h
        · rw [rvRun_yes h1.1 h1.2 hb hn] at h
          simp only [Option.some.injEq, Prod.mk.injEq] at h
          omega
    · rw [rvRun_out h1] at h; cases h

/-! spec.ReadShort, over what ReadVar answers -/



/-! impl.ReadShort, over what ReadVar answers -/
set_option maxHeartbeats 400000 in
theorem implRS_none (s : ByteArray) (p : Int) (w : World) (C : Hid (∀ W, Calls Try.prog 74 #[.string s, .int .i64 p] W fun e w' => e = .returned (rvTup none) ∧ Below W.heap.size W w')) :
    Calls Try.prog 64 #[.string s, .int .i64 p] w fun e w' => e = .returned (.tuple #[.string ⟨#[]⟩, .int .i64 0, .bool false]) ∧ Below w.heap.size w w' := by
  go_enter Try.func64, Try.ntmps64
  go_wp2_with (go_at_call 74; refine ((unhide C) _).mono ?_; rintro e w1 ⟨rfl, hb⟩; unfold rvTup)
  go_ret3
  exact ⟨rfl, hb⟩

set_option maxHeartbeats 400000 in
theorem implRS_bad (s : ByteArray) (p : Int) (n j : Nat) (w : World) (C : Hid (∀ W, Calls Try.prog 74 #[.string s, .int .i64 p] W fun e w' => e = .returned (rvTup (some (n, j))) ∧ Below W.heap.size W w'))
    (_hs : s.size ≤ 1048576) (hj : j ≤ s.size) (hn : n ≤ 1000000000) (hbad : (20000 : Int) < (n : Int) ∨ (s.size : Int) - (j : Int) < (n : Int)) :
    Calls Try.prog 64 #[.string s, .int .i64 p] w fun e w' => e = .returned (.tuple #[.string ⟨#[]⟩, .int .i64 0, .bool false]) ∧ Below w.heap.size w w' := by
  by_cases h1 : (20000 : Int) < (n : Int)
  · clear hbad
    go_enter Try.func64, Try.ntmps64
    go_wp2_with (go_at_call 74; refine ((unhide C) _).mono ?_; rintro e w1 ⟨rfl, hb⟩; unfold rvTup)
    go_ret3
    exact ⟨rfl, hb⟩
  · have h2 : (s.size : Int) - (j : Int) < (n : Int) := by omega
    clear hbad
    go_enter Try.func64, Try.ntmps64
    go_wp2_with (go_at_call 74; refine ((unhide C) _).mono ?_; rintro e w1 ⟨rfl, hb⟩; unfold rvTup)
    go_ret3
    exact ⟨rfl, hb⟩

set_option maxHeartbeats 400000 in
theorem implRS_good (s : ByteArray) (p : Int) (n j : Nat) (w : World) (C : Hid (∀ W, Calls Try.prog 74 #[.string s, .int .i64 p] W fun e w' => e = .returned (rvTup (some (n, j))) ∧ Below W.heap.size W w'))
    (hs : s.size ≤ 1048576) (h1 : ¬ (20000 : Int) < (n : Int)) (h2 : ¬ (s.size : Int) - (j : Int) < (n : Int)) :
    Calls Try.prog 64 #[.string s, .int .i64 p] w fun e w' => e = .returned (.tuple #[.string (s.extract j (j + n)), .int .i64 ((j + n : Nat) : Int), .bool true]) ∧ Below w.heap.size w w' := by
  have h3 : (j : Int) ≤ (j : Int) + (n : Int) := by omega
  have h4 : (j : Int) + (n : Int) ≤ (s.size : Int) := by omega
  have h5 : (0 : Int) ≤ (j : Int) := by omega
  have hsz : ∀ b, (s.extract j b).size ≤ 281474976710656 := fun b => by rw [ByteArray.size_extract]; omega
  have HS := hide hsz
  clear hsz
  go_enter Try.func64, Try.ntmps64
  go_wp2_with (first
      | (go_at_call 74; refine ((unhide C) _).mono ?_; rintro e w1 ⟨rfl, hb⟩; unfold rvTup)
      | (go_at_call 86; refine (Try.stringslite_Clone _ _ (unhide HS _)).mono ?_; rintro e w3 ⟨rfl, hb3⟩)
      | go_in)
  go_ret3
  exact ⟨rfl, hb.trans (hb3.mono hb.size)⟩



end Go.Proofs.Ytinnaajkdkfnaaa

