/- Merged: RuI1, Sha, ShaI, Arr. -/
import Derived.Test.YtecbpplocokedaaMgDefaults1
import Derived.Test.YtecbpplocokedaaMgDefaults2
import Derived.Carry
import Derived.Maps.OwnSet
import Derived.Laws.BitsLemmas
import Derived.Laws.BitsAllLaws
import Derived.Test.YtecbpplocokedaaProg
import Derived.Test.YtecbpplocokedaaChecked
import Derived.Deep.RegionWith
import Derived.Deep.RegionHeld3
import Derived.Laws.Rows
import Derived.Laws.Tables
import Derived.Laws.CopyOwn
/- The project's rules: a map from numbers to closures, filled and looked into; the closures. -/
namespace Go.Proofs.Ytecbpplocokedaa
open Go.RowKit
open Go.ChangeMaps (setBlock)
section
variable {P : Program} {ops : Array Oper} {rest : List Oper} {o : Oper} {a : Act} {Q : Exit → Act → World → Prop}
/-- An entry of a map's literal whose key is not there yet. -/
theorem wpList_insert_new (w : World) (hg : o.guard = none) (m x v : Operand) (t : TypeId) (hop : o.op = Op.insert t m x v) (k e : TypeId) (q : IntKind) (ht : P.underlying t = some (.map k e)) (hk : P.underlying k = some (.int q)) (b : Nat) (es : Array MapEntry) (clock : Nat) (hm : a.eval m = .map (some b)) (hb : w.heap[b]? = some (.map es clock)) (n : Int) (val : Value) (hx : a.eval x = .int q n) (hv : a.eval v = val) (hn : Instr.findNow (.int q) (.int q n) es.toList 0 = some none)
    (hK : wpList P ops Q rest (a.put o.dst undef) (setBlock w b (.map (es.push { key := .int q n, val := val, born := clock }) (clock + 1)))) : wpList P ops Q (o :: rest) a w := by
  refine wpList_plain hg fun K' hK' => ?_
  have hrun : (Instr.mapUpdate t (.map (some b)) (.int q n) val).run P w = .ok () (setBlock w b (.map (es.push { key := .int q n, val := val, born := clock }) (clock + 1))) := by
    simp [Instr.mapUpdate, run_underlying ht, MapKept.run_getObj_map hb, MapKept.run_checkKey (k := .int q n) hk (by simp [MapKept.IsKey]), MapKept.run_findKey hk hn, MapKept.run_setObj_map _ hb, Result.andThen, setBlock]
  unfold Oper.wp
  simp [execOp, hop, hm, hx, hv, hrun, Result.andThen]
  exact hK' _ _ hK
/-- A look that finds. -/
theorem run_lookup_at (w : World) (t k e : TypeId) (q : IntKind) (ht : P.underlying t = some (.map k e)) (hk : P.underlying k = some (.int q)) (b : Nat) (es : Array MapEntry) (clock : Nat) (hb : w.heap[b]? = some (.map es clock)) (n : Int) (i : Nat) (val : Value) (hn : Instr.findNow (.int q) (.int q n) es.toList 0 = some (some (i, val))) :
    (Instr.lookup t (.map (some b)) (.int q n) true).run P w = .ok (.tuple #[val, .bool true]) w := by
  simp [Instr.lookup, run_underlying ht, MapKept.run_getObj_map hb, MapKept.run_checkKey (k := .int q n) hk (by simp [MapKept.IsKey]), MapKept.run_findKey hk hn, Result.andThen]
/-- A look that does not. -/
theorem run_lookup_not (w : World) (t k e : TypeId) (q : IntKind) (ht : P.underlying t = some (.map k e)) (hk : P.underlying k = some (.int q)) (b : Nat) (es : Array MapEntry) (clock : Nat) (hb : w.heap[b]? = some (.map es clock)) (n : Int) (z : Value) (hz : (zeroValue e).run P w = .ok z w) (hn : Instr.findNow (.int q) (.int q n) es.toList 0 = some none) :
    (Instr.lookup t (.map (some b)) (.int q n) true).run P w = .ok (.tuple #[z, .bool false]) w := by
  simp [Instr.lookup, run_underlying ht, MapKept.run_getObj_map hb, MapKept.run_checkKey (k := .int q n) hk (by simp [MapKept.IsKey]), MapKept.run_findKey hk hn, hz, Result.andThen]
end
theorem setBlock_new (w : World) (b : Nat) (o : Obj) (hb : b < w.heap.size) : (setBlock w b o).heap[b]? = some o := by
  show (w.heap.setIfInBounds b o)[b]? = some o
  rw [Array.getElem?_setIfInBounds_self_of_lt hb]
theorem setBlock_other (w : World) (b c : Nat) (o : Obj) (hb : c ≠ b) : (setBlock w b o).heap[c]? = w.heap[c]? := by
  show (w.heap.setIfInBounds b o)[c]? = _
  rw [Array.getElem?_setIfInBounds_ne (fun e => hb e.symm)]
theorem setBlock_size (w : World) (b : Nat) (o : Obj) : (setBlock w b o).heap.size = w.heap.size := by
  show (w.heap.setIfInBounds b o).size = _
  simp
theorem setBlock_below {w w' : World} {B : Nat} (h : Below B w w') (b : Nat) (o : Obj) (hb : B ≤ b) : Below B w (setBlock w' b o) := by
  refine ⟨h.os, h.tape, h.output, ?_, fun i hi => ?_⟩
  · rw [setBlock_size]; exact h.size
  · rw [setBlock_other _ _ _ _ (by omega)]; exact h.block i hi
/-- The rules of the thing that lies in block g. -/
def rulV (f : Nat) (g : Nat) : Value := .func (.func f) #[] #[.pointer (some ⟨g, 0, none⟩)]
def rulE (g : Nat) : Array MapEntry := #[⟨.int .i64 1, rulV 42 g, 0⟩, ⟨.int .i64 2, rulV 43 g, 1⟩, ⟨.int .i64 3, rulV 44 g, 2⟩, ⟨.int .i64 4, rulV 45 g, 3⟩, ⟨.int .i64 5, .func (.func 46) #[] #[], 4⟩]
set_option maxRecDepth 20000 in
set_option maxHeartbeats 2000000 in
theorem rulesOf_any (x : Th) (w : World) :
    Calls Try.prog 31 #[.agg (thC x)] w fun e w' => e = .returned (.map (some (w.heap.size + 1))) ∧ w'.heap[w.heap.size + 1]? = some (.map (rulE w.heap.size) 5) ∧ CB w' w.heap.size 25 (thC x) ∧ Below w.heap.size w w' := by
  obtain ⟨W, hW, hC, hb, hlt⟩ := one_cb w (thC x) 25
  have hWs : W.heap.size = w.heap.size + 1 := by rw [← hW]; simp
  have hWs2 : (w.alloc (.cells (thC x) 25)).heap.size = w.heap.size + 1 := by simp
  have hmm : (Instr.makeMap 53 none).run Try.prog W = .ok (.map (some (w.heap.size + 1))) (W.alloc (.map #[] 0)) := by rw [← hWs]; rfl
  obtain ⟨M, hM⟩ : ∃ M, W.alloc (.map #[] 0) = M := ⟨_, rfl⟩
  rw [hM] at hmm
  have hm0 : M.heap[w.heap.size + 1]? = some (.map #[] 0) := by rw [← hM, ← hWs]; exact heap_alloc_new W _
  have hms : M.heap.size = w.heap.size + 2 := by rw [← hM]; simp [hWs]
  have hCM : CB M w.heap.size 25 (thC x) := by rw [← hM]; exact hC.alloc _
  have hbM : Below w.heap.size w M := by rw [← hM]; exact hb.alloc (by omega) _
  have hm1 : (setBlock M (w.heap.size + 1) (.map ((#[] : Array MapEntry).push ⟨.int .i64 1, rulV 42 w.heap.size, 0⟩) (0 + 1))).heap[w.heap.size + 1]? = some (.map (#[⟨.int .i64 1, rulV 42 w.heap.size, 0⟩] : Array MapEntry) 1) := setBlock_new _ _ _ (by omega)
  have hz1 : (setBlock M (w.heap.size + 1) (.map ((#[] : Array MapEntry).push ⟨.int .i64 1, rulV 42 w.heap.size, 0⟩) (0 + 1))).heap.size = w.heap.size + 2 := (setBlock_size _ _ _).trans (by omega)
  have hc1 : CB (setBlock M (w.heap.size + 1) (.map ((#[] : Array MapEntry).push ⟨.int .i64 1, rulV 42 w.heap.size, 0⟩) (0 + 1))) w.heap.size 25 (thC x) := (setBlock_other _ _ _ _ (by omega)).trans hCM
  have hd1 : Below w.heap.size w (setBlock M (w.heap.size + 1) (.map ((#[] : Array MapEntry).push ⟨.int .i64 1, rulV 42 w.heap.size, 0⟩) (0 + 1))) := setBlock_below hbM _ _ (by omega)
  obtain ⟨M1, hM1⟩ : ∃ X, setBlock M (w.heap.size + 1) (.map (#[⟨.int .i64 1, rulV 42 w.heap.size, 0⟩] : Array MapEntry) 1) = X := ⟨_, rfl⟩
  replace hm1 : M1.heap[w.heap.size + 1]? = some (.map (#[⟨.int .i64 1, rulV 42 w.heap.size, 0⟩] : Array MapEntry) 1) := by rw [← hM1]; exact hm1
  replace hz1 : M1.heap.size = w.heap.size + 2 := by rw [← hM1]; exact hz1
  replace hc1 : CB M1 w.heap.size 25 (thC x) := by rw [← hM1]; exact hc1
  replace hd1 : Below w.heap.size w M1 := by rw [← hM1]; exact hd1
  have hm2 : (setBlock M1 (w.heap.size + 1) (.map ((#[⟨.int .i64 1, rulV 42 w.heap.size, 0⟩] : Array MapEntry).push ⟨.int .i64 2, rulV 43 w.heap.size, 1⟩) (1 + 1))).heap[w.heap.size + 1]? = some (.map (#[⟨.int .i64 1, rulV 42 w.heap.size, 0⟩, ⟨.int .i64 2, rulV 43 w.heap.size, 1⟩] : Array MapEntry) 2) := setBlock_new _ _ _ (by omega)
  have hz2 : (setBlock M1 (w.heap.size + 1) (.map ((#[⟨.int .i64 1, rulV 42 w.heap.size, 0⟩] : Array MapEntry).push ⟨.int .i64 2, rulV 43 w.heap.size, 1⟩) (1 + 1))).heap.size = w.heap.size + 2 := (setBlock_size _ _ _).trans (by omega)
  have hc2 : CB (setBlock M1 (w.heap.size + 1) (.map ((#[⟨.int .i64 1, rulV 42 w.heap.size, 0⟩] : Array MapEntry).push ⟨.int .i64 2, rulV 43 w.heap.size, 1⟩) (1 + 1))) w.heap.size 25 (thC x) := (setBlock_other _ _ _ _ (by omega)).trans hc1
  have hd2 : Below w.heap.size w (setBlock M1 (w.heap.size + 1) (.map ((#[⟨.int .i64 1, rulV 42 w.heap.size, 0⟩] : Array MapEntry).push ⟨.int .i64 2, rulV 43 w.heap.size, 1⟩) (1 + 1))) := setBlock_below hd1 _ _ (by omega)
  obtain ⟨M2, hM2⟩ : ∃ X, setBlock M1 (w.heap.size + 1) (.map (#[⟨.int .i64 1, rulV 42 w.heap.size, 0⟩, ⟨.int .i64 2, rulV 43 w.heap.size, 1⟩] : Array MapEntry) 2) = X := ⟨_, rfl⟩
  replace hm2 : M2.heap[w.heap.size + 1]? = some (.map (#[⟨.int .i64 1, rulV 42 w.heap.size, 0⟩, ⟨.int .i64 2, rulV 43 w.heap.size, 1⟩] : Array MapEntry) 2) := by rw [← hM2]; exact hm2
  replace hz2 : M2.heap.size = w.heap.size + 2 := by rw [← hM2]; exact hz2
  replace hc2 : CB M2 w.heap.size 25 (thC x) := by rw [← hM2]; exact hc2
  replace hd2 : Below w.heap.size w M2 := by rw [← hM2]; exact hd2
  have hm3 : (setBlock M2 (w.heap.size + 1) (.map ((#[⟨.int .i64 1, rulV 42 w.heap.size, 0⟩, ⟨.int .i64 2, rulV 43 w.heap.size, 1⟩] : Array MapEntry).push ⟨.int .i64 3, rulV 44 w.heap.size, 2⟩) (2 + 1))).heap[w.heap.size + 1]? = some (.map (#[⟨.int .i64 1, rulV 42 w.heap.size, 0⟩, ⟨.int .i64 2, rulV 43 w.heap.size, 1⟩, ⟨.int .i64 3, rulV 44 w.heap.size, 2⟩] : Array MapEntry) 3) := setBlock_new _ _ _ (by omega)
  have hz3 : (setBlock M2 (w.heap.size + 1) (.map ((#[⟨.int .i64 1, rulV 42 w.heap.size, 0⟩, ⟨.int .i64 2, rulV 43 w.heap.size, 1⟩] : Array MapEntry).push ⟨.int .i64 3, rulV 44 w.heap.size, 2⟩) (2 + 1))).heap.size = w.heap.size + 2 := (setBlock_size _ _ _).trans (by omega)
  have hc3 : CB (setBlock M2 (w.heap.size + 1) (.map ((#[⟨.int .i64 1, rulV 42 w.heap.size, 0⟩, ⟨.int .i64 2, rulV 43 w.heap.size, 1⟩] : Array MapEntry).push ⟨.int .i64 3, rulV 44 w.heap.size, 2⟩) (2 + 1))) w.heap.size 25 (thC x) := (setBlock_other _ _ _ _ (by omega)).trans hc2
  have hd3 : Below w.heap.size w (setBlock M2 (w.heap.size + 1) (.map ((#[⟨.int .i64 1, rulV 42 w.heap.size, 0⟩, ⟨.int .i64 2, rulV 43 w.heap.size, 1⟩] : Array MapEntry).push ⟨.int .i64 3, rulV 44 w.heap.size, 2⟩) (2 + 1))) := setBlock_below hd2 _ _ (by omega)
  obtain ⟨M3, hM3⟩ : ∃ X, setBlock M2 (w.heap.size + 1) (.map (#[⟨.int .i64 1, rulV 42 w.heap.size, 0⟩, ⟨.int .i64 2, rulV 43 w.heap.size, 1⟩, ⟨.int .i64 3, rulV 44 w.heap.size, 2⟩] : Array MapEntry) 3) = X := ⟨_, rfl⟩
  replace hm3 : M3.heap[w.heap.size + 1]? = some (.map (#[⟨.int .i64 1, rulV 42 w.heap.size, 0⟩, ⟨.int .i64 2, rulV 43 w.heap.size, 1⟩, ⟨.int .i64 3, rulV 44 w.heap.size, 2⟩] : Array MapEntry) 3) := by rw [← hM3]; exact hm3
  replace hz3 : M3.heap.size = w.heap.size + 2 := by rw [← hM3]; exact hz3
  replace hc3 : CB M3 w.heap.size 25 (thC x) := by rw [← hM3]; exact hc3
  replace hd3 : Below w.heap.size w M3 := by rw [← hM3]; exact hd3
  have hm4 : (setBlock M3 (w.heap.size + 1) (.map ((#[⟨.int .i64 1, rulV 42 w.heap.size, 0⟩, ⟨.int .i64 2, rulV 43 w.heap.size, 1⟩, ⟨.int .i64 3, rulV 44 w.heap.size, 2⟩] : Array MapEntry).push ⟨.int .i64 4, rulV 45 w.heap.size, 3⟩) (3 + 1))).heap[w.heap.size + 1]? = some (.map (#[⟨.int .i64 1, rulV 42 w.heap.size, 0⟩, ⟨.int .i64 2, rulV 43 w.heap.size, 1⟩, ⟨.int .i64 3, rulV 44 w.heap.size, 2⟩, ⟨.int .i64 4, rulV 45 w.heap.size, 3⟩] : Array MapEntry) 4) := setBlock_new _ _ _ (by omega)
  have hz4 : (setBlock M3 (w.heap.size + 1) (.map ((#[⟨.int .i64 1, rulV 42 w.heap.size, 0⟩, ⟨.int .i64 2, rulV 43 w.heap.size, 1⟩, ⟨.int .i64 3, rulV 44 w.heap.size, 2⟩] : Array MapEntry).push ⟨.int .i64 4, rulV 45 w.heap.size, 3⟩) (3 + 1))).heap.size = w.heap.size + 2 := (setBlock_size _ _ _).trans (by omega)
  have hc4 : CB (setBlock M3 (w.heap.size + 1) (.map ((#[⟨.int .i64 1, rulV 42 w.heap.size, 0⟩, ⟨.int .i64 2, rulV 43 w.heap.size, 1⟩, ⟨.int .i64 3, rulV 44 w.heap.size, 2⟩] : Array MapEntry).push ⟨.int .i64 4, rulV 45 w.heap.size, 3⟩) (3 + 1))) w.heap.size 25 (thC x) := (setBlock_other _ _ _ _ (by omega)).trans hc3
  have hd4 : Below w.heap.size w (setBlock M3 (w.heap.size + 1) (.map ((#[⟨.int .i64 1, rulV 42 w.heap.size, 0⟩, ⟨.int .i64 2, rulV 43 w.heap.size, 1⟩, ⟨.int .i64 3, rulV 44 w.heap.size, 2⟩] : Array MapEntry).push ⟨.int .i64 4, rulV 45 w.heap.size, 3⟩) (3 + 1))) := setBlock_below hd3 _ _ (by omega)
  obtain ⟨M4, hM4⟩ : ∃ X, setBlock M3 (w.heap.size + 1) (.map (#[⟨.int .i64 1, rulV 42 w.heap.size, 0⟩, ⟨.int .i64 2, rulV 43 w.heap.size, 1⟩, ⟨.int .i64 3, rulV 44 w.heap.size, 2⟩, ⟨.int .i64 4, rulV 45 w.heap.size, 3⟩] : Array MapEntry) 4) = X := ⟨_, rfl⟩
  replace hm4 : M4.heap[w.heap.size + 1]? = some (.map (#[⟨.int .i64 1, rulV 42 w.heap.size, 0⟩, ⟨.int .i64 2, rulV 43 w.heap.size, 1⟩, ⟨.int .i64 3, rulV 44 w.heap.size, 2⟩, ⟨.int .i64 4, rulV 45 w.heap.size, 3⟩] : Array MapEntry) 4) := by rw [← hM4]; exact hm4
  replace hz4 : M4.heap.size = w.heap.size + 2 := by rw [← hM4]; exact hz4
  replace hc4 : CB M4 w.heap.size 25 (thC x) := by rw [← hM4]; exact hc4
  replace hd4 : Below w.heap.size w M4 := by rw [← hM4]; exact hd4
  have hm5 : (setBlock M4 (w.heap.size + 1) (.map ((#[⟨.int .i64 1, rulV 42 w.heap.size, 0⟩, ⟨.int .i64 2, rulV 43 w.heap.size, 1⟩, ⟨.int .i64 3, rulV 44 w.heap.size, 2⟩, ⟨.int .i64 4, rulV 45 w.heap.size, 3⟩] : Array MapEntry).push ⟨.int .i64 5, .func (.func 46) #[] #[], 4⟩) (4 + 1))).heap[w.heap.size + 1]? = some (.map (#[⟨.int .i64 1, rulV 42 w.heap.size, 0⟩, ⟨.int .i64 2, rulV 43 w.heap.size, 1⟩, ⟨.int .i64 3, rulV 44 w.heap.size, 2⟩, ⟨.int .i64 4, rulV 45 w.heap.size, 3⟩, ⟨.int .i64 5, .func (.func 46) #[] #[], 4⟩] : Array MapEntry) 5) := setBlock_new _ _ _ (by omega)
  have hz5 : (setBlock M4 (w.heap.size + 1) (.map ((#[⟨.int .i64 1, rulV 42 w.heap.size, 0⟩, ⟨.int .i64 2, rulV 43 w.heap.size, 1⟩, ⟨.int .i64 3, rulV 44 w.heap.size, 2⟩, ⟨.int .i64 4, rulV 45 w.heap.size, 3⟩] : Array MapEntry).push ⟨.int .i64 5, .func (.func 46) #[] #[], 4⟩) (4 + 1))).heap.size = w.heap.size + 2 := (setBlock_size _ _ _).trans (by omega)
  have hc5 : CB (setBlock M4 (w.heap.size + 1) (.map ((#[⟨.int .i64 1, rulV 42 w.heap.size, 0⟩, ⟨.int .i64 2, rulV 43 w.heap.size, 1⟩, ⟨.int .i64 3, rulV 44 w.heap.size, 2⟩, ⟨.int .i64 4, rulV 45 w.heap.size, 3⟩] : Array MapEntry).push ⟨.int .i64 5, .func (.func 46) #[] #[], 4⟩) (4 + 1))) w.heap.size 25 (thC x) := (setBlock_other _ _ _ _ (by omega)).trans hc4
  have hd5 : Below w.heap.size w (setBlock M4 (w.heap.size + 1) (.map ((#[⟨.int .i64 1, rulV 42 w.heap.size, 0⟩, ⟨.int .i64 2, rulV 43 w.heap.size, 1⟩, ⟨.int .i64 3, rulV 44 w.heap.size, 2⟩, ⟨.int .i64 4, rulV 45 w.heap.size, 3⟩] : Array MapEntry).push ⟨.int .i64 5, .func (.func 46) #[] #[], 4⟩) (4 + 1))) := setBlock_below hd4 _ _ (by omega)
  obtain ⟨M5, hM5⟩ : ∃ X, setBlock M4 (w.heap.size + 1) (.map (#[⟨.int .i64 1, rulV 42 w.heap.size, 0⟩, ⟨.int .i64 2, rulV 43 w.heap.size, 1⟩, ⟨.int .i64 3, rulV 44 w.heap.size, 2⟩, ⟨.int .i64 4, rulV 45 w.heap.size, 3⟩, ⟨.int .i64 5, .func (.func 46) #[] #[], 4⟩] : Array MapEntry) 5) = X := ⟨_, rfl⟩
  replace hm5 : M5.heap[w.heap.size + 1]? = some (.map (#[⟨.int .i64 1, rulV 42 w.heap.size, 0⟩, ⟨.int .i64 2, rulV 43 w.heap.size, 1⟩, ⟨.int .i64 3, rulV 44 w.heap.size, 2⟩, ⟨.int .i64 4, rulV 45 w.heap.size, 3⟩, ⟨.int .i64 5, .func (.func 46) #[] #[], 4⟩] : Array MapEntry) 5) := by rw [← hM5]; exact hm5
  replace hz5 : M5.heap.size = w.heap.size + 2 := by rw [← hM5]; exact hz5
  replace hc5 : CB M5 w.heap.size 25 (thC x) := by rw [← hM5]; exact hc5
  replace hd5 : Below w.heap.size w M5 := by rw [← hM5]; exact hd5
  clear hWs2
  go_enter Try.func31, Try.ntmps31
  go_wp2_with (first
    | (refine wpList_insert_new _ rfl _ _ _ 53 rfl 3 51 .i64 Try.underlying53 Try.underlying3 (w.heap.size + 1) (#[] : Array MapEntry) 0 rfl hm0 1 (rulV 42 w.heap.size) (by rfl) (by rfl) (by rfl) ?_; rw [show setBlock M (w.heap.size + 1) (.map ((#[] : Array MapEntry).push { key := .int .i64 1, val := rulV 42 w.heap.size, born := 0 }) (0 + 1)) = M1 from hM1])
    | (refine wpList_insert_new _ rfl _ _ _ 53 rfl 3 51 .i64 Try.underlying53 Try.underlying3 (w.heap.size + 1) (#[⟨.int .i64 1, rulV 42 w.heap.size, 0⟩] : Array MapEntry) 1 rfl hm1 2 (rulV 43 w.heap.size) (by rfl) (by rfl) (by rfl) ?_; rw [show setBlock M1 (w.heap.size + 1) (.map ((#[⟨.int .i64 1, rulV 42 w.heap.size, 0⟩] : Array MapEntry).push { key := .int .i64 2, val := rulV 43 w.heap.size, born := 1 }) (1 + 1)) = M2 from hM2])
    | (refine wpList_insert_new _ rfl _ _ _ 53 rfl 3 51 .i64 Try.underlying53 Try.underlying3 (w.heap.size + 1) (#[⟨.int .i64 1, rulV 42 w.heap.size, 0⟩, ⟨.int .i64 2, rulV 43 w.heap.size, 1⟩] : Array MapEntry) 2 rfl hm2 3 (rulV 44 w.heap.size) (by rfl) (by rfl) (by rfl) ?_; rw [show setBlock M2 (w.heap.size + 1) (.map ((#[⟨.int .i64 1, rulV 42 w.heap.size, 0⟩, ⟨.int .i64 2, rulV 43 w.heap.size, 1⟩] : Array MapEntry).push { key := .int .i64 3, val := rulV 44 w.heap.size, born := 2 }) (2 + 1)) = M3 from hM3])
    | (refine wpList_insert_new _ rfl _ _ _ 53 rfl 3 51 .i64 Try.underlying53 Try.underlying3 (w.heap.size + 1) (#[⟨.int .i64 1, rulV 42 w.heap.size, 0⟩, ⟨.int .i64 2, rulV 43 w.heap.size, 1⟩, ⟨.int .i64 3, rulV 44 w.heap.size, 2⟩] : Array MapEntry) 3 rfl hm3 4 (rulV 45 w.heap.size) (by rfl) (by rfl) (by rfl) ?_; rw [show setBlock M3 (w.heap.size + 1) (.map ((#[⟨.int .i64 1, rulV 42 w.heap.size, 0⟩, ⟨.int .i64 2, rulV 43 w.heap.size, 1⟩, ⟨.int .i64 3, rulV 44 w.heap.size, 2⟩] : Array MapEntry).push { key := .int .i64 4, val := rulV 45 w.heap.size, born := 3 }) (3 + 1)) = M4 from hM4])
    | (refine wpList_insert_new _ rfl _ _ _ 53 rfl 3 51 .i64 Try.underlying53 Try.underlying3 (w.heap.size + 1) (#[⟨.int .i64 1, rulV 42 w.heap.size, 0⟩, ⟨.int .i64 2, rulV 43 w.heap.size, 1⟩, ⟨.int .i64 3, rulV 44 w.heap.size, 2⟩, ⟨.int .i64 4, rulV 45 w.heap.size, 3⟩] : Array MapEntry) 4 rfl hm4 5 (.func (.func 46) #[] #[]) (by rfl) (by rfl) (by rfl) ?_; rw [show setBlock M4 (w.heap.size + 1) (.map ((#[⟨.int .i64 1, rulV 42 w.heap.size, 0⟩, ⟨.int .i64 2, rulV 43 w.heap.size, 1⟩, ⟨.int .i64 3, rulV 44 w.heap.size, 2⟩, ⟨.int .i64 4, rulV 45 w.heap.size, 3⟩] : Array MapEntry).push { key := .int .i64 5, val := .func (.func 46) #[] #[], born := 4 }) (4 + 1)) = M5 from hM5]))
  go_ret
  exact ⟨rfl, hm5, hc5, hd5⟩
theorem rule1_any (x : Th) (g : Nat) (w : World) (h : CB w g 25 (thC x)) : Calls Try.prog 42 #[.pointer (some ⟨g, 0, none⟩)] w fun e w' => e = .returned (.bool (!x.hid)) ∧ w' = w := by
  obtain ⟨id, kind, hid, fix, sgn, wrp, val, nxt⟩ := x
  unfold thC at h
  have c2 := h.cell 2 rfl
  clear h
  go_enter Try.func42, Try.ntmps42
  go_wp2
  go_ret
  exact ⟨rfl, rfl⟩
theorem rule2_any (x : Th) (g : Nat) (w : World) (h : CB w g 25 (thC x)) : Calls Try.prog 43 #[.pointer (some ⟨g, 0, none⟩)] w fun e w' => e = .returned (.bool (!x.fix && decide (x.kind ≠ 2))) ∧ w' = w := by
  obtain ⟨id, kind, hid, fix, sgn, wrp, val, nxt⟩ := x
  unfold thC at h
  have c1 := h.cell 1 rfl
  have c3 := h.cell 3 rfl
  clear h
  cases fix with
  | true =>
    go_enter Try.func43, Try.ntmps43
    go_wp2
    go_ret
    exact ⟨rfl, rfl⟩
  | false =>
    by_cases hk : kind = 2
    · subst hk
      go_enter Try.func43, Try.ntmps43
      go_wp2
      go_ret
      exact ⟨rfl, rfl⟩
    · have hk' : (kind == 2) = false := by rw [beq_eq_false_iff_ne]; exact hk
      have hk2 : decide (kind ≠ 2) = true := decide_eq_true hk
      go_enter Try.func43, Try.ntmps43
      go_wp2
      go_ret
      exact ⟨by simp [hk], rfl⟩
theorem rule3_any (x : Th) (g : Nat) (w : World) (h : CB w g 25 (thC x)) : Calls Try.prog 44 #[.pointer (some ⟨g, 0, none⟩)] w fun e w' => e = .returned (.bool x.sgn) ∧ w' = w := by
  obtain ⟨id, kind, hid, fix, sgn, wrp, val, nxt⟩ := x
  unfold thC at h
  have c4 := h.cell 4 rfl
  clear h
  go_enter Try.func44, Try.ntmps44
  go_wp2
  go_ret
  exact ⟨rfl, rfl⟩
theorem rule4_any (x : Th) (g : Nat) (w : World) (h : CB w g 25 (thC x)) : Calls Try.prog 45 #[.pointer (some ⟨g, 0, none⟩)] w fun e w' => e = .returned (.bool x.wrp) ∧ w' = w := by
  obtain ⟨id, kind, hid, fix, sgn, wrp, val, nxt⟩ := x
  unfold thC at h
  have c5 := h.cell 5 rfl
  clear h
  go_enter Try.func45, Try.ntmps45
  go_wp2
  go_ret
  exact ⟨rfl, rfl⟩
theorem rule5_any (w : World) : Calls Try.prog 46 #[] w fun e w' => e = .returned (.bool true) ∧ w' = w := by
  go_enter Try.func46, Try.ntmps46
  go_wp2
  go_ret
  exact ⟨rfl, rfl⟩
end Go.Proofs.Ytecbpplocokedaa

/- The digest's words, reckoned on whole numbers below 2^32. -/
namespace Go.Proofs.Ytecbpplocokedaa
open Go.RowKit

def rot (k x : Nat) : Nat := x / 2 ^ k + x % 2 ^ k * 2 ^ (32 - k)
def sg3 (a b c x : Nat) : Nat := rot a x ^^^ rot b x ^^^ rot c x
def sg2 (a b c x : Nat) : Nat := rot a x ^^^ rot b x ^^^ (x / 2 ^ c)
def chN (e f g : Nat) : Nat := (e &&& f) ^^^ ((4294967295 - e) &&& g)
def majN (a b c : Nat) : Nat := (a &&& b) ^^^ (a &&& c) ^^^ (b &&& c)
def wordN (a b c d : Nat) : Nat := a * 16777216 + b * 65536 + c * 256 + d

theorem two_split {k : Nat} (hk : k ≤ 32) : 2 ^ k * 2 ^ (32 - k) = 4294967296 := by
  rw [← Nat.pow_add, show k + (32 - k) = 32 by omega]

theorem rot_parts {k x : Nat} (hk : k ≤ 32) (hx : x < 4294967296) : x / 2 ^ k < 2 ^ (32 - k) ∧ x % 2 ^ k * 2 ^ (32 - k) + 2 ^ (32 - k) ≤ 4294967296 := by
  have h := two_split hk
  refine ⟨Nat.div_lt_of_lt_mul (by rw [h]; exact hx), ?_⟩
  have hm : x % 2 ^ k < 2 ^ k := Nat.mod_lt _ (Nat.two_pow_pos k)
  have := Nat.mul_le_mul_right (2 ^ (32 - k)) (show x % 2 ^ k + 1 ≤ 2 ^ k by omega)
  rw [h, Nat.add_mul] at this
  omega

theorem rot_lt {k x : Nat} (hk : k ≤ 32) (hx : x < 4294967296) : rot k x < 4294967296 := by
  have := rot_parts hk hx
  unfold rot
  omega

theorem xor32 {a b : Nat} (ha : a < 4294967296) (hb : b < 4294967296) : a ^^^ b < 4294967296 := Nat.xor_lt_two_pow (n := 32) ha hb
theorem and32 {a b : Nat} (ha : a < 4294967296) : a &&& b < 4294967296 := Nat.lt_of_le_of_lt Nat.and_le_left ha
theorem or32 {a b : Nat} (ha : a < 4294967296) (hb : b < 4294967296) : a ||| b < 4294967296 := Nat.or_lt_two_pow (n := 32) ha hb

theorem sg3_lt {a b c x : Nat} (ha : a ≤ 32) (hb : b ≤ 32) (hc : c ≤ 32) (hx : x < 4294967296) : sg3 a b c x < 4294967296 :=
  xor32 (xor32 (rot_lt ha hx) (rot_lt hb hx)) (rot_lt hc hx)
theorem sg2_lt {a b c x : Nat} (ha : a ≤ 32) (hb : b ≤ 32) (hx : x < 4294967296) : sg2 a b c x < 4294967296 :=
  xor32 (xor32 (rot_lt ha hx) (rot_lt hb hx)) (Nat.lt_of_le_of_lt (Nat.div_le_self _ _) hx)
theorem chN_lt {e f g : Nat} (he : e < 4294967296) : chN e f g < 4294967296 := xor32 (and32 he) (and32 (by omega))
theorem majN_lt {a b c : Nat} (ha : a < 4294967296) (hb : b < 4294967296) : majN a b c < 4294967296 := xor32 (xor32 (and32 ha) (and32 ha)) (and32 hb)

theorem not_bit {e : Nat} (he : e < 4294967296) (i : Nat) : (4294967295 - e).testBit i = (decide (i < 32) && !e.testBit i) := by
  have := Nat.testBit_two_pow_sub_succ (n := 32) (x := e) he i
  rw [show (2 : Nat) ^ 32 - (e + 1) = 4294967295 - e by omega] at this
  exact this

theorem ch_or {e f g : Nat} (he : e < 4294967296) : (e &&& f) ||| ((4294967295 - e) &&& g) = chN e f g := by
  unfold chN
  apply Nat.eq_of_testBit_eq
  intro i
  rw [Nat.testBit_or, Nat.testBit_xor, Nat.testBit_and, Nat.testBit_and, not_bit he]
  cases e.testBit i <;> cases f.testBit i <;> cases g.testBit i <;> cases decide (i < 32) <;> rfl

theorem maj_or (a b c : Nat) : (a &&& b) ||| (a &&& c) ||| (b &&& c) = majN a b c := by
  unfold majN
  apply Nat.eq_of_testBit_eq
  intro i
  simp only [Nat.testBit_or, Nat.testBit_xor, Nat.testBit_and]
  cases a.testBit i <;> cases b.testBit i <;> cases c.testBit i <;> rfl

theorem word_or {a b c d : Nat} (_ : a < 256) (hb : b < 256) (hc : c < 256) (hd : d < 256) : (((a * 16777216) ||| (b * 65536)) ||| (c * 256)) ||| d = wordN a b c d := by
  unfold wordN
  rw [nat_join 24 (a * 16777216) (b * 65536) (by omega) (by omega)]
  rw [nat_join 16 (a * 16777216 + b * 65536) (c * 256) (by omega) (by omega)]
  rw [nat_join 8 (a * 16777216 + b * 65536 + c * 256) d (by omega) (by omega)]
theorem wordN_lt {a b c d : Nat} (ha : a < 256) (hb : b < 256) (hc : c < 256) (hd : d < 256) : wordN a b c d < 4294967296 := by unfold wordN; omega

theorem rot_or {k x : Nat} (hk : k ≤ 32) (hx : x < 4294967296) : (x * 2 ^ (32 - k) % 4294967296) ||| (x / 2 ^ k) = rot k x := by
  have hp := rot_parts hk hx
  have h := two_split hk
  have e : x * 2 ^ (32 - k) % 4294967296 = x % 2 ^ k * 2 ^ (32 - k) := by
    rw [← h, Nat.mul_mod_mul_right]
  rw [e, nat_join (32 - k) _ _ (Nat.mul_mod_left _ _) hp.1]
  unfold rot
  omega

/- the bytes of a word, and of words -/
def bytesW (x : Nat) : List UInt8 := [byteOf (x / 16777216 % 256), byteOf (x / 65536 % 256), byteOf (x / 256 % 256), byteOf (x % 256)]
def bytesL : List Nat → List UInt8
  | [] => []
  | x :: l => bytesW x ++ bytesL l
theorem bytesL_len (l : List Nat) : (bytesL l).length = 4 * l.length := by
  induction l with
  | nil => rfl
  | cons x l ih => simp only [bytesL, List.length_append, List.length_cons, ih]; simp [bytesW]; omega
theorem bytesL_append (l m : List Nat) : bytesL (l ++ m) = bytesL l ++ bytesL m := by
  induction l with
  | nil => rfl
  | cons x l ih => simp only [List.cons_append, bytesL, ih, List.append_assoc]

/- the words of a row of bytes: n of them -/
def byteAt (s : ByteArray) (i : Nat) : Nat := (s.data.toList.getD i 0).toNat
def wAt (s : ByteArray) (i : Nat) : Nat := wordN (byteAt s i) (byteAt s (i + 1)) (byteAt s (i + 2)) (byteAt s (i + 3))
theorem byteAt_lt (s : ByteArray) (i : Nat) : byteAt s i < 256 := (s.data.toList.getD i 0).toNat_lt
theorem byteAt_eq (s : ByteArray) (i : Nat) (h : i < s.size) : byteAt s i = s[i].toNat := by
  have hl : i < s.data.toList.length := by simpa using h
  unfold byteAt
  rw [List.getD_eq_getElem?_getD, List.getElem?_eq_getElem hl]
  rfl
theorem wAt_lt (s : ByteArray) (i : Nat) : wAt s i < 4294967296 := wordN_lt (byteAt_lt _ _) (byteAt_lt _ _) (byteAt_lt _ _) (byteAt_lt _ _)
def wordsN (s : ByteArray) (n : Nat) : List Nat := (List.range n).map fun i => wAt s (4 * i)
theorem wordsN_len (s : ByteArray) (n : Nat) : (wordsN s n).length = n := by simp [wordsN]
theorem wordsN_succ (s : ByteArray) (n : Nat) : wordsN s (n + 1) = wordsN s n ++ [wAt s (4 * n)] := by
  unfold wordsN; rw [List.range_succ, List.map_append]; rfl

/- one more word of the sixty-four -/
def at_ (l : List Nat) (i : Nat) : Nat := l.getD i 0
def moreW (l : List Nat) (t : Nat) : Nat := (sg2 17 19 10 (at_ l (t - 2)) + at_ l (t - 7) + sg2 7 18 3 (at_ l (t - 15)) + at_ l (t - 16)) % 4294967296
def schedN (l : List Nat) : Nat → List Nat
  | 0 => l
  | n + 1 => schedN l n ++ [moreW (schedN l n) (16 + n)]
theorem schedN_len (l : List Nat) (h : l.length = 16) (n : Nat) : (schedN l n).length = 16 + n := by
  induction n with
  | zero => exact h
  | succ n ih => simp only [schedN, List.length_append, ih, List.length_singleton]; omega

def kTab : List Nat := [1116352408, 1899447441, 3049323471, 3921009573, 961987163, 1508970993, 2453635748, 2870763221, 3624381080, 310598401, 607225278, 1426881987, 1925078388, 2162078206, 2614888103, 3248222580, 3835390401, 4022224774, 264347078, 604807628, 770255983, 1249150122, 1555081692, 1996064986, 2554220882, 2821834349, 2952996808, 3210313671, 3336571891, 3584528711, 113926993, 338241895, 666307205, 773529912, 1294757372, 1396182291, 1695183700, 1986661051, 2177026350, 2456956037, 2730485921, 2820302411, 3259730800, 3345764771, 3516065817, 3600352804, 4094571909, 275423344, 430227734, 506948616, 659060556, 883997877, 958139571, 1322822218, 1537002063, 1747873779, 1955562222, 2024104815, 2227730452, 2361852424, 2428436474, 2756734187, 3204031479, 3329325298]
def firstSt : List Nat := [1779033703, 3144134277, 1013904242, 2773480762, 1359893119, 2600822924, 528734635, 1541459225]

/- one of the sixty-four steps, and a block's round -/
structure V8 where
  a : Nat
  b : Nat
  c : Nat
  d : Nat
  e : Nat
  f : Nat
  g : Nat
  h : Nat
def V8.toL (v : V8) : List Nat := [v.a, v.b, v.c, v.d, v.e, v.f, v.g, v.h]
def V8.ok (v : V8) : Prop := v.a < 4294967296 ∧ v.b < 4294967296 ∧ v.c < 4294967296 ∧ v.d < 4294967296 ∧ v.e < 4294967296 ∧ v.f < 4294967296 ∧ v.g < 4294967296 ∧ v.h < 4294967296
def V8.t1 (v : V8) (k w : Nat) : Nat := (v.h + sg3 6 11 25 v.e + chN v.e v.f v.g + k + w) % 4294967296
def V8.t2 (v : V8) : Nat := (sg3 2 13 22 v.a + majN v.a v.b v.c) % 4294967296
def V8.step (v : V8) (k w : Nat) : V8 := ⟨(v.t1 k w + v.t2) % 4294967296, v.a, v.b, v.c, (v.d + v.t1 k w) % 4294967296, v.e, v.f, v.g⟩
def V8.steps (ws : List Nat) : Nat → V8 → V8
  | 0, v => v
  | n + 1, v => (V8.steps ws n v).step (at_ kTab n) (at_ ws n)
def V8.plus (v u : V8) : V8 := ⟨(v.a + u.a) % 4294967296, (v.b + u.b) % 4294967296, (v.c + u.c) % 4294967296, (v.d + u.d) % 4294967296, (v.e + u.e) % 4294967296, (v.f + u.f) % 4294967296, (v.g + u.g) % 4294967296, (v.h + u.h) % 4294967296⟩
def roundW (v : V8) (block : ByteArray) : V8 := v.plus (V8.steps (schedN (wordsN block 16) 48) 64 v)
theorem V8.step_ok {v : V8} (h : v.ok) (k w : Nat) : (v.step k w).ok := by
  obtain ⟨h1, h2, h3, h4, h5, h6, h7, h8⟩ := h
  exact ⟨Nat.mod_lt _ (by decide), h1, h2, h3, Nat.mod_lt _ (by decide), h5, h6, h7⟩
theorem V8.steps_ok {v : V8} (h : v.ok) (ws : List Nat) (n : Nat) : (V8.steps ws n v).ok := by
  induction n with
  | zero => exact h
  | succ n ih => exact V8.step_ok ih _ _
theorem V8.plus_ok (v u : V8) : (v.plus u).ok := ⟨Nat.mod_lt _ (by decide), Nat.mod_lt _ (by decide), Nat.mod_lt _ (by decide), Nat.mod_lt _ (by decide), Nat.mod_lt _ (by decide), Nat.mod_lt _ (by decide), Nat.mod_lt _ (by decide), Nat.mod_lt _ (by decide)⟩
theorem roundW_ok (v : V8) (b : ByteArray) : (roundW v b).ok := V8.plus_ok _ _
/- n blocks of a text, from its place p on -/
def blocksW (v : V8) (s : ByteArray) (p : Nat) : Nat → V8
  | 0 => v
  | n + 1 => roundW (blocksW v s p n) (s.extract (p + 64 * n) (p + 64 * n + 64))
theorem blocksW_ok {v : V8} (h : v.ok) (s : ByteArray) (p n : Nat) : (blocksW v s p n).ok := by
  cases n with
  | zero => exact h
  | succ n => exact roundW_ok _ _

def stOf (s : ByteArray) : V8 := ⟨wAt s 0, wAt s 4, wAt s 8, wAt s 12, wAt s 16, wAt s 20, wAt s 24, wAt s 28⟩
theorem stOf_ok (s : ByteArray) : (stOf s).ok := ⟨wAt_lt _ _, wAt_lt _ _, wAt_lt _ _, wAt_lt _ _, wAt_lt _ _, wAt_lt _ _, wAt_lt _ _, wAt_lt _ _⟩
theorem stOf_toL (s : ByteArray) : (stOf s).toL = wordsN s 8 := rfl
def first8 : V8 := ⟨1779033703, 3144134277, 1013904242, 2773480762, 1359893119, 2600822924, 528734635, 1541459225⟩
theorem first8_ok : first8.ok := by unfold first8 V8.ok; decide
def V8.text (v : V8) : ByteArray := ⟨(bytesL v.toL).toArray⟩
theorem V8.text_size (v : V8) : v.text.size = 32 := by
  show (bytesL v.toL).toArray.size = 32
  rw [List.size_toArray, bytesL_len]; rfl
end Go.Proofs.Ytecbpplocokedaa

/- The small functions of impl's digest, over the loaded program. -/
namespace Go.Proofs.Ytecbpplocokedaa
open Go.RowKit

theorem max_xor (x : Nat) (hx : x < 4294967296) : bits .xor .u32 IntKind.u32.max (x : Int) = ((4294967295 - x : Nat) : Int) := by
  have e : (4294967295 : Nat) ^^^ x = 4294967295 - x := by
    apply Nat.eq_of_testBit_eq
    intro i
    rw [Nat.testBit_xor, not_bit hx, show (4294967295 : Nat) = 2 ^ 32 - 1 by rfl, Nat.testBit_two_pow_sub_one]
    by_cases h : i < 32
    · simp [h]
    · have : x.testBit i = false := Nat.testBit_lt_two_pow (Nat.lt_of_lt_of_le hx (Nat.pow_le_pow_right (n := 2) (by omega) (show 32 ≤ i by omega)))
      simp [h, this]
  rw [← e]
  exact u32_xor_nat 4294967295 x (by omega) hx
theorem rotl_any (x k : Nat) (hx : x < 4294967296) (hk : 1 ≤ k) (hk2 : k ≤ 31) (w : World) :
    Calls Try.prog 76 #[.int .u32 (x : Int), .int .i64 (-(k : Int))] w fun e w' => e = .returned (.int .u32 (rot k x : Int)) ∧ ∃ n, w' = w.drewN n := by
  go_enter Try.func76, Try.ntmps76
  have e1 : IntKind.u64.wrap (-(k : Int)) = ((18446744073709551616 - k : Nat) : Int) := by rw [IntKind.wrap_u64]; omega
  have e2 : bits .and .u64 ((18446744073709551616 - k : Nat) : Int) 31 = ((32 - k : Nat) : Int) := by
    rw [show (31 : Int) = ((31 : Nat) : Int) by rfl, u64_and_nat _ _ (by omega) (by omega), nat_mask5]; omega
  go_wp2
  go_ret
  refine ⟨?_, 0, rfl⟩
  show Ending.returned (.int .u32 (bits .or .u32 ((x : Int) * 2 ^ (32 - k) % 4294967296) ((x : Int) / 2 ^ (32 - (32 - k))))) = _
  have e3 : (x : Int) * 2 ^ (32 - k) % 4294967296 = ((x * 2 ^ (32 - k) % 4294967296 : Nat) : Int) := by
    rw [Int.natCast_emod, Int.natCast_mul, Int.natCast_pow]; rfl
  have e4 : (x : Int) / 2 ^ (32 - (32 - k)) = ((x / 2 ^ k : Nat) : Int) := by
    rw [show 32 - (32 - k) = k by omega, Int.natCast_ediv, Int.natCast_pow]; rfl
  rw [e3, e4, u32_or_nat _ _ (Nat.mod_lt _ (by decide)) (Nat.lt_of_le_of_lt (Nat.div_le_self _ _) hx), rot_or (by omega) hx]
theorem implRot_any (x k : Nat) (hx : x < 4294967296) (hk : 1 ≤ k) (hk2 : k ≤ 31) (w : World) :
    Calls Try.prog 72 #[.int .u32 (x : Int), .int .i64 (k : Int)] w fun e w' => e = .returned (.int .u32 (rot k x : Int)) ∧ ∃ n, w' = w.drewN n := by
  go_enter Try.func72, Try.ntmps72
  have e1 : IntKind.i64.wrap (-(k : Int)) = -(k : Int) := by rw [IntKind.wrap_i64]; omega
  go_wp2_with (go_at_call 76; refine (rotl_any x k hx hk hk2 _).mono ?_; rintro e w1 ⟨rfl, n1, rfl⟩)
  go_ret
  exact ⟨rfl, _, rfl⟩
theorem implCh_any (x y z : Nat) (hx : x < 4294967296) (hy : y < 4294967296) (hz : z < 4294967296) (w : World) :
    Calls Try.prog 60 #[.int .u32 (x : Int), .int .u32 (y : Int), .int .u32 (z : Int)] w fun e w' => e = .returned (.int .u32 (chN x y z : Int)) ∧ ∃ n, w' = w.drewN n := by
  go_enter Try.func60, Try.ntmps60
  go_wp2
  go_ret
  refine ⟨?_, 0, rfl⟩
  show Ending.returned (.int .u32 (bits .or .u32 (bits .and .u32 (x : Int) (y : Int)) (bits .and .u32 (bits .xor .u32 IntKind.u32.max (x : Int)) (z : Int)))) = _
  rw [max_xor x hx, u32_and_nat x y hx hy, u32_and_nat _ z (by omega) hz, u32_or_nat _ _ (and32 hx) (and32 (by omega)), ch_or hx]
theorem implMaj_any (x y z : Nat) (hx : x < 4294967296) (hy : y < 4294967296) (hz : z < 4294967296) (w : World) :
    Calls Try.prog 61 #[.int .u32 (x : Int), .int .u32 (y : Int), .int .u32 (z : Int)] w fun e w' => e = .returned (.int .u32 (majN x y z : Int)) ∧ ∃ n, w' = w.drewN n := by
  go_enter Try.func61, Try.ntmps61
  go_wp2
  go_ret
  refine ⟨?_, 0, rfl⟩
  show Ending.returned (.int .u32 (bits .or .u32 (bits .or .u32 (bits .and .u32 (x : Int) (y : Int)) (bits .and .u32 (x : Int) (z : Int))) (bits .and .u32 (y : Int) (z : Int)))) = _
  rw [u32_and_nat x y hx hy, u32_and_nat x z hx hz, u32_and_nat y z hy hz, u32_or_nat _ _ (and32 hx) (and32 hx), u32_or_nat _ _ (or32 (and32 hx) (and32 hx)) (and32 hy), maj_or]
theorem specRight_any (x k : Nat) (A H : Int) (hx : x < 4294967296) (hk : 1 ≤ k) (hk2 : k ≤ 31) (hA : A = ((2 ^ k : Nat) : Int)) (hH : H = ((2 ^ (32 - k) : Nat) : Int)) (w : World) :
    Calls Try.prog 77 #[.int .u32 (x : Int), .int .u32 A, .int .u32 H] w fun e w' => e = .returned (.int .u32 (rot k x : Int)) ∧ ∃ n, w' = w.drewN n := by
  have HP := hide (rot_parts (show k ≤ 32 by omega) hx)
  have HT := hide (two_split (show k ≤ 32 by omega))
  have HR : Hid (rot k x = x / 2 ^ k + x % 2 ^ k * 2 ^ (32 - k)) := hide rfl
  have ha : 0 < 2 ^ k := Nat.two_pow_pos k
  have hh : 0 < 2 ^ (32 - k) := Nat.two_pow_pos _
  have ha2 : 2 ^ k < 4294967296 := Nat.lt_of_lt_of_le (Nat.pow_lt_pow_right (a := 2) (m := k) (n := 32) (by omega) (by omega)) (by decide)
  have hh2 : 2 ^ (32 - k) < 4294967296 := Nat.lt_of_lt_of_le (Nat.pow_lt_pow_right (a := 2) (m := 32 - k) (n := 32) (by omega) (by omega)) (by decide)
  generalize 2 ^ k = a at hA ha ha2 HP HT HR
  generalize 2 ^ (32 - k) = h at hH hh hh2 HP HT HR
  subst hA hH
  have f1 : (x : Int).tdiv (a : Int) = ((x / a : Nat) : Int) := by rw [Int.tdiv_eq_ediv_of_nonneg (by omega)]; rfl
  have f2 : (x : Int).tmod (a : Int) = ((x % a : Nat) : Int) := by rw [Int.tmod_eq_emod_of_nonneg (by omega)]; rfl
  go_enter Try.func77, Try.ntmps77
  go_wp2
  go_region
  go_wp2
  go_ret
  refine ⟨?_, 1, rfl⟩
  show Ending.returned (.int .u32 (((x : Int) / (a : Int) % 4294967296 + (x : Int) % (a : Int) * (h : Int) % 4294967296) % 4294967296)) = _
  rw [unhide HR]
  have hp := unhide HP
  congr 2
  have g1 : (x : Int) / (a : Int) = ((x / a : Nat) : Int) := rfl
  have g2 : (x : Int) % (a : Int) * (h : Int) = ((x % a * h : Nat) : Int) := by rw [Int.natCast_mul]; rfl
  rw [g1, g2]
  generalize x / a = p at hp
  generalize x % a * h = q at hp
  omega
theorem specS_a (x : Nat) (hx : x < 4294967296) (w : World) :
    Calls Try.prog 75 #[.int .u32 (x : Int), .int .u32 131072, .int .u32 524288, .int .u32 1024, .bool true] w fun e w' => e = .returned (.int .u32 (sg2 17 19 10 x : Int)) ∧ ∃ n, w' = w.drewN n := by
  go_enter Try.func75, Try.ntmps75
  go_wp2_with (first | (go_at_call 77; refine (specRight_any x 17 _ _ hx (by decide) (by decide) (by decide) (by decide) _).mono ?_; rintro e w1 ⟨rfl, n1, rfl⟩) | (go_at_call 77; refine (specRight_any x 19 _ _ hx (by decide) (by decide) (by decide) (by decide) _).mono ?_; rintro e w1 ⟨rfl, n1, rfl⟩))
  go_ret
  refine ⟨?_, _, rfl⟩
  show Ending.returned (.int .u32 (bits .xor .u32 (bits .xor .u32 (rot 17 x : Int) (rot 19 x : Int)) ((x : Int) / 1024))) = _
  rw [show (x : Int) / 1024 = ((x / 1024 : Nat) : Int) from rfl]
  rw [u32_xor_nat _ _ (rot_lt (by decide) hx) (rot_lt (by decide) hx), u32_xor_nat _ _ (xor32 (rot_lt (by decide) hx) (rot_lt (by decide) hx)) (Nat.lt_of_le_of_lt (Nat.div_le_self _ _) hx)]
  rfl
theorem specS_b (x : Nat) (hx : x < 4294967296) (w : World) :
    Calls Try.prog 75 #[.int .u32 (x : Int), .int .u32 128, .int .u32 262144, .int .u32 8, .bool true] w fun e w' => e = .returned (.int .u32 (sg2 7 18 3 x : Int)) ∧ ∃ n, w' = w.drewN n := by
  go_enter Try.func75, Try.ntmps75
  go_wp2_with (first | (go_at_call 77; refine (specRight_any x 7 _ _ hx (by decide) (by decide) (by decide) (by decide) _).mono ?_; rintro e w1 ⟨rfl, n1, rfl⟩) | (go_at_call 77; refine (specRight_any x 18 _ _ hx (by decide) (by decide) (by decide) (by decide) _).mono ?_; rintro e w1 ⟨rfl, n1, rfl⟩))
  go_ret
  refine ⟨?_, _, rfl⟩
  show Ending.returned (.int .u32 (bits .xor .u32 (bits .xor .u32 (rot 7 x : Int) (rot 18 x : Int)) ((x : Int) / 8))) = _
  rw [show (x : Int) / 8 = ((x / 8 : Nat) : Int) from rfl]
  rw [u32_xor_nat _ _ (rot_lt (by decide) hx) (rot_lt (by decide) hx), u32_xor_nat _ _ (xor32 (rot_lt (by decide) hx) (rot_lt (by decide) hx)) (Nat.lt_of_le_of_lt (Nat.div_le_self _ _) hx)]
  rfl
theorem specS_c (x : Nat) (hx : x < 4294967296) (w : World) :
    Calls Try.prog 75 #[.int .u32 (x : Int), .int .u32 64, .int .u32 2048, .int .u32 33554432, .bool false] w fun e w' => e = .returned (.int .u32 (sg3 6 11 25 x : Int)) ∧ ∃ n, w' = w.drewN n := by
  go_enter Try.func75, Try.ntmps75
  go_wp2_with (first | (go_at_call 77; refine (specRight_any x 6 _ _ hx (by decide) (by decide) (by decide) (by decide) _).mono ?_; rintro e w1 ⟨rfl, n1, rfl⟩) | (go_at_call 77; refine (specRight_any x 11 _ _ hx (by decide) (by decide) (by decide) (by decide) _).mono ?_; rintro e w1 ⟨rfl, n1, rfl⟩) | (go_at_call 77; refine (specRight_any x 25 _ _ hx (by decide) (by decide) (by decide) (by decide) _).mono ?_; rintro e w1 ⟨rfl, n1, rfl⟩))
  go_ret
  refine ⟨?_, _, rfl⟩
  show Ending.returned (.int .u32 (bits .xor .u32 (bits .xor .u32 (rot 6 x : Int) (rot 11 x : Int)) (rot 25 x : Int))) = _
  rw [u32_xor_nat _ _ (rot_lt (by decide) hx) (rot_lt (by decide) hx), u32_xor_nat _ _ (xor32 (rot_lt (by decide) hx) (rot_lt (by decide) hx)) (rot_lt (by decide) hx)]
  rfl
theorem specS_d (x : Nat) (hx : x < 4294967296) (w : World) :
    Calls Try.prog 75 #[.int .u32 (x : Int), .int .u32 4, .int .u32 8192, .int .u32 4194304, .bool false] w fun e w' => e = .returned (.int .u32 (sg3 2 13 22 x : Int)) ∧ ∃ n, w' = w.drewN n := by
  go_enter Try.func75, Try.ntmps75
  go_wp2_with (first | (go_at_call 77; refine (specRight_any x 2 _ _ hx (by decide) (by decide) (by decide) (by decide) _).mono ?_; rintro e w1 ⟨rfl, n1, rfl⟩) | (go_at_call 77; refine (specRight_any x 13 _ _ hx (by decide) (by decide) (by decide) (by decide) _).mono ?_; rintro e w1 ⟨rfl, n1, rfl⟩) | (go_at_call 77; refine (specRight_any x 22 _ _ hx (by decide) (by decide) (by decide) (by decide) _).mono ?_; rintro e w1 ⟨rfl, n1, rfl⟩))
  go_ret
  refine ⟨?_, _, rfl⟩
  show Ending.returned (.int .u32 (bits .xor .u32 (bits .xor .u32 (rot 2 x : Int) (rot 13 x : Int)) (rot 22 x : Int))) = _
  rw [u32_xor_nat _ _ (rot_lt (by decide) hx) (rot_lt (by decide) hx), u32_xor_nat _ _ (xor32 (rot_lt (by decide) hx) (rot_lt (by decide) hx)) (rot_lt (by decide) hx)]
  rfl
set_option maxRecDepth 20000 in
set_option maxHeartbeats 1000000 in
theorem implWord_any (s : ByteArray) (i : Nat) (hi : i + 4 ≤ s.size) (hs : s.size ≤ 10000000) (w : World) :
    Calls Try.prog 70 #[.string s, .int .i64 (i : Int)] w fun e w' => e = .returned (.int .u32 (wAt s i : Int)) ∧ ∃ n, w' = w.drewN n := by
  have i1 : IntKind.i64.wrap ((i : Int) + 1) = (i : Int) + 1 := by rw [IntKind.wrap_i64]; omega
  have i2 : IntKind.i64.wrap ((i : Int) + 2) = (i : Int) + 2 := by rw [IntKind.wrap_i64]; omega
  have i3 : IntKind.i64.wrap ((i : Int) + 3) = (i : Int) + 3 := by rw [IntKind.wrap_i64]; omega
  have h0 : (i : Int) < (s.size : Int) := by omega
  have h1 : (i : Int) + 1 < (s.size : Int) := by omega
  have h2 : (i : Int) + 2 < (s.size : Int) := by omega
  have h3 : (i : Int) + 3 < (s.size : Int) := by omega
  have n1 : 0 ≤ (i : Int) + 1 := by omega
  have n2 : 0 ≤ (i : Int) + 2 := by omega
  have n3 : 0 ≤ (i : Int) + 3 := by omega
  have t1 : ((i : Int) + 1).toNat = i + 1 := by omega
  have t2 : ((i : Int) + 2).toNat = i + 2 := by omega
  have t3 : ((i : Int) + 3).toNat = i + 3 := by omega
  have b0 := hide (byteAt_eq s i (by omega))
  have b1 := hide (byteAt_eq s (i + 1) (by omega))
  have b2 := hide (byteAt_eq s (i + 2) (by omega))
  have b3 := hide (byteAt_eq s (i + 3) (by omega))
  have z0 := hide (byteAt_lt s i)
  have z1 := hide (byteAt_lt s (i + 1))
  have z2 := hide (byteAt_lt s (i + 2))
  have z3 := hide (byteAt_lt s (i + 3))
  go_enter Try.func70, Try.ntmps70
  go_wp2
  go_region
  go_wp2
  go_ret
  refine ⟨?_, 1, rfl⟩
  have b0 := unhide b0; have b1 := unhide b1; have b2 := unhide b2; have b3 := unhide b3
  have z0 := unhide z0; have z1 := unhide z1; have z2 := unhide z2; have z3 := unhide z3
  show Ending.returned (.int .u32 (bits .or .u32 (bits .or .u32 (bits .or .u32 ((s[i].toNat : Int) % 4294967296 * 16777216 % 4294967296) ((s[i + 1].toNat : Int) % 4294967296 * 65536 % 4294967296)) ((s[i + 2].toNat : Int) % 4294967296 * 256 % 4294967296)) ((s[i + 3].toNat : Int) % 4294967296))) = _
  rw [← b0, ← b1, ← b2, ← b3]
  unfold wAt
  generalize byteAt s i = p0 at z0
  generalize byteAt s (i + 1) = p1 at z1
  generalize byteAt s (i + 2) = p2 at z2
  generalize byteAt s (i + 3) = p3 at z3
  rw [show (p0 : Int) % 4294967296 * 16777216 % 4294967296 = ((p0 * 16777216 : Nat) : Int) by omega, show (p1 : Int) % 4294967296 * 65536 % 4294967296 = ((p1 * 65536 : Nat) : Int) by omega,
    show (p2 : Int) % 4294967296 * 256 % 4294967296 = ((p2 * 256 : Nat) : Int) by omega, show (p3 : Int) % 4294967296 = ((p3 : Nat) : Int) by omega]
  have o1 := or32 (show p0 * 16777216 < 4294967296 by omega) (show p1 * 65536 < 4294967296 by omega)
  have o2 := or32 o1 (show p2 * 256 < 4294967296 by omega)
  rw [u32_or_nat _ _ (by omega) (by omega), u32_or_nat _ _ o1 (by omega), u32_or_nat _ _ o2 (by omega), word_or z0 z1 z2 z3]
set_option maxRecDepth 20000 in
set_option maxHeartbeats 1000000 in
theorem specWord_any (s : ByteArray) (i : Nat) (hi : i + 4 ≤ s.size) (hs : s.size ≤ 10000000) (w : World) :
    Calls Try.prog 74 #[.string s, .int .i64 (i : Int)] w fun e w' => e = .returned (.int .u32 (wAt s i : Int)) ∧ ∃ n, w' = w.drewN n := by
  have i1 : IntKind.i64.wrap ((i : Int) + 1) = (i : Int) + 1 := by rw [IntKind.wrap_i64]; omega
  have i2 : IntKind.i64.wrap ((i : Int) + 2) = (i : Int) + 2 := by rw [IntKind.wrap_i64]; omega
  have i3 : IntKind.i64.wrap ((i : Int) + 3) = (i : Int) + 3 := by rw [IntKind.wrap_i64]; omega
  have h0 : (i : Int) < (s.size : Int) := by omega
  have h1 : (i : Int) + 1 < (s.size : Int) := by omega
  have h2 : (i : Int) + 2 < (s.size : Int) := by omega
  have h3 : (i : Int) + 3 < (s.size : Int) := by omega
  have n1 : 0 ≤ (i : Int) + 1 := by omega
  have n2 : 0 ≤ (i : Int) + 2 := by omega
  have n3 : 0 ≤ (i : Int) + 3 := by omega
  have t1 : ((i : Int) + 1).toNat = i + 1 := by omega
  have t2 : ((i : Int) + 2).toNat = i + 2 := by omega
  have t3 : ((i : Int) + 3).toNat = i + 3 := by omega
  have b0 := hide (byteAt_eq s i (by omega))
  have b1 := hide (byteAt_eq s (i + 1) (by omega))
  have b2 := hide (byteAt_eq s (i + 2) (by omega))
  have b3 := hide (byteAt_eq s (i + 3) (by omega))
  have z0 := hide (byteAt_lt s i)
  have z1 := hide (byteAt_lt s (i + 1))
  have z2 := hide (byteAt_lt s (i + 2))
  have z3 := hide (byteAt_lt s (i + 3))
  go_enter Try.func74, Try.ntmps74
  go_wp2
  go_region
  go_wp2
  go_ret
  refine ⟨?_, 1, rfl⟩
  have b0 := unhide b0; have b1 := unhide b1; have b2 := unhide b2; have b3 := unhide b3
  have z0 := unhide z0; have z1 := unhide z1; have z2 := unhide z2; have z3 := unhide z3
  show Ending.returned (.int .u32 ((((s[i].toNat : Int) % 4294967296 * 16777216 + (s[i + 1].toNat : Int) % 4294967296 * 65536 + (s[i + 2].toNat : Int) % 4294967296 * 256) % 4294967296 + (s[i + 3].toNat : Int) % 4294967296) % 4294967296)) = _
  rw [← b0, ← b1, ← b2, ← b3]
  unfold wAt wordN
  congr 2
  omega
set_option maxRecDepth 20000 in
set_option maxHeartbeats 1000000 in
theorem implThree_any (x a b c : Nat) (hx : x < 4294967296) (ha : 1 ≤ a) (ha2 : a ≤ 31) (hb : 1 ≤ b) (hb2 : b ≤ 31) (hc : 1 ≤ c) (hc2 : c ≤ 31) (w : World) :
    Calls Try.prog 59 #[.int .u32 (x : Int), .int .i64 (a : Int), .int .i64 (b : Int), .int .i64 (c : Int)] w fun e w' => e = .returned (.int .u32 (sg3 a b c x : Int)) ∧ ∃ n, w' = w.drewN n := by
  go_enter Try.func59, Try.ntmps59
  go_wp2_with (go_at_call 72; refine (implRot_any x _ hx (by first | exact ha | exact hb | exact hc) (by first | exact ha2 | exact hb2 | exact hc2) _).mono ?_; rintro e w1 ⟨rfl, n1, rfl⟩)
  go_ret
  refine ⟨?_, _, rfl⟩
  show Ending.returned (.int .u32 (bits .xor .u32 (bits .xor .u32 (rot a x : Int) (rot b x : Int)) (rot c x : Int))) = _
  rw [u32_xor_nat _ _ (rot_lt (by omega) hx) (rot_lt (by omega) hx), u32_xor_nat _ _ (xor32 (rot_lt (by omega) hx) (rot_lt (by omega) hx)) (rot_lt (by omega) hx)]
  rfl
set_option maxRecDepth 20000 in
set_option maxHeartbeats 1000000 in
theorem implTwo_any (x a b c : Nat) (hx : x < 4294967296) (ha : 1 ≤ a) (ha2 : a ≤ 31) (hb : 1 ≤ b) (hb2 : b ≤ 31) (hc : 1 ≤ c) (hc2 : c ≤ 31) (w : World) :
    Calls Try.prog 71 #[.int .u32 (x : Int), .int .i64 (a : Int), .int .i64 (b : Int), .int .i64 (c : Int)] w fun e w' => e = .returned (.int .u32 (sg2 a b c x : Int)) ∧ ∃ n, w' = w.drewN n := by
  go_enter Try.func71, Try.ntmps71
  go_wp2
  go_region_held3 (fun _ => True) (trivial) (first | (go_at_call 72; refine (implRot_any x _ hx (by first | exact ha | exact hb | exact hc) (by first | exact ha2 | exact hb2 | exact hc2) _).mono ?_; rintro e w1 ⟨rfl, n1, rfl⟩))
  go_wp2
  go_ret
  refine ⟨?_, _, rfl⟩
  show Ending.returned (.int .u32 (bits .xor .u32 (bits .xor .u32 (rot a x : Int) (rot b x : Int)) ((x : Int) / 2 ^ c))) = _
  rw [show (x : Int) / 2 ^ c = ((x / 2 ^ c : Nat) : Int) by rw [Int.natCast_ediv, Int.natCast_pow]; rfl]
  rw [u32_xor_nat _ _ (rot_lt (by omega) hx) (rot_lt (by omega) hx), u32_xor_nat _ _ (xor32 (rot_lt (by omega) hx) (rot_lt (by omega) hx)) (Nat.lt_of_le_of_lt (Nat.div_le_self _ _) hx)]
  rfl
end Go.Proofs.Ytecbpplocokedaa

/- Laws of no program: a block that holds an array of words. -/
namespace Go.Proofs.Ytecbpplocokedaa
open Go.RowKit

def u32v (x : Nat) : Value := .int .u32 (x : Int)
def ArrAt (w : World) (g : Nat) (T : TypeId) (l : List Nat) : Prop := w.heap[g]? = some (.cells (l.map u32v).toArray T (0, 0))
def aggV (l : List Nat) : Value := .agg (l.map u32v).toArray

theorem ArrAt.lt {w : World} {g : Nat} {T : TypeId} {l : List Nat} (h : ArrAt w g T l) : g < w.heap.size := by
  rcases Nat.lt_or_ge g w.heap.size with h1 | h1
  · exact h1
  · unfold ArrAt at h
    rw [Array.getElem?_eq_none h1] at h; cases h
theorem ArrAt.frozen {w : World} {g : Nat} {T : TypeId} {l : List Nat} (h : ArrAt w g T l) (k : Nat) : w.frozen? ⟨g, k, none⟩ = false := frozen_of_row w g k _ T h
theorem ArrAt.cell {w : World} {g : Nat} {T : TypeId} {l : List Nat} (h : ArrAt w g T l) (k : Nat) (hk : k < l.length) : w.cell? ⟨g, k, none⟩ = some (.int .u32 (at_ l k : Int)) := by
  unfold ArrAt at h
  unfold World.cell?
  simp [h, at_, hk, u32v]
theorem ArrAt.set {w : World} {g : Nat} {T : TypeId} {l : List Nat} (h : ArrAt w g T l) (k v : Nat) : ArrAt (w.setCell ⟨g, k, none⟩ (.int .u32 (v : Int))) g T (l.set k v) := by
  unfold ArrAt at h ⊢
  rw [heap_setCell_same w g k _ T (.int .u32 (v : Int)) h, List.map_set]
  simp [u32v]
theorem ArrAt.below {w w' : World} {g B : Nat} {T : TypeId} {l : List Nat} (h : ArrAt w g T l) (hb : Below B w w') (hg : g < B) : ArrAt w' g T l := by
  unfold ArrAt at h ⊢
  rw [hb.block g hg]; exact h
theorem ArrAt.alloc {w : World} {g : Nat} {T : TypeId} {l : List Nat} (h : ArrAt w g T l) (o : Obj) : ArrAt (w.alloc o) g T l := by
  have hl := h.lt
  unfold ArrAt at h ⊢
  unfold World.alloc
  simp only [Array.getElem?_push]
  rw [if_neg (by omega)]
  exact h
theorem ArrAt.new (w : World) (T : TypeId) (l : List Nat) : ArrAt (w.alloc (.cells (l.map u32v).toArray T (0, 0))) w.heap.size T l := by
  unfold ArrAt World.alloc
  simp
theorem ArrAt.drewN {w : World} {g : Nat} {T : TypeId} {l : List Nat} (h : ArrAt w g T l) (n : Nat) : ArrAt (w.drewN n) g T l := h
theorem arr_size (l : List Nat) : (l.map u32v).toArray.size = l.length := by simp
theorem arr_one (l : List Nat) : (l.map u32v).toArray.all (·.oneCell') = true := by
  rw [Array.all_eq_true_iff_forall_mem]
  intro v hv
  simp only [List.mem_toArray, List.mem_map] at hv
  obtain ⟨x, _, rfl⟩ := hv
  rfl
theorem ArrAt.setRow {w : World} {g : Nat} {T : TypeId} {l : List Nat} (h : ArrAt w g T l) (l' : List Nat) : ArrAt (w.setRow g (l'.map u32v).toArray) g T l' := setRow_heap w g _ _ T (0, 0) h
theorem ArrAt.setRow_other {w : World} {g k : Nat} {T : TypeId} {l : List Nat} (h : ArrAt w k T l) (cs : Array Value) (hk : k ≠ g) : ArrAt (w.setRow g cs) k T l := by
  unfold ArrAt
  rw [Go.setRow_other w g k cs hk]
  exact h
theorem wpList_load_arr {P : Program} {ops : Array Oper} {rest : List Oper} {o : Oper} {a : Act} {w : World} {Q : Exit → Act → World → Prop} (hgd : o.guard = none) (ty : TypeId) (x : Operand) (ho : o.op = .load ty x)
    (g : Nat) (hx : a.eval x = .pointer (some ⟨g, 0, none⟩)) (T : TypeId) (l : List Nat) (hA : ArrAt w g T l) (n : Nat) (e : TypeId) (hu : P.underlying ty = some (.array n e)) (hi : (P.info? ty).map (·.size) = some l.length)
    (h : wpList P ops Q rest (a.put o.dst (aggV l)) w) : wpList P ops Q (o :: rest) a w :=
  wpList_load_row hgd ty x ho g hx T _ (0, 0) _ hA hu rfl (by rw [arr_size]; exact hi) h
theorem wpList_store_arr {P : Program} {ops : Array Oper} {rest : List Oper} {o : Oper} {a : Act} {w : World} {Q : Exit → Act → World → Prop} (hgd : o.guard = none) (ty : TypeId) (x y : Operand) (ho : o.op = .store ty x y)
    (g : Nat) (l l0 : List Nat) (hx : a.eval x = .pointer (some ⟨g, 0, none⟩)) (hy : a.eval y = aggV l) (T : TypeId) (hA : ArrAt w g T l0) (hi : (P.info? ty).map (·.size) = some l.length) (hl : l0.length = l.length)
    (h : wpList P ops Q rest (a.put o.dst undef) (w.setRow g (l.map u32v).toArray)) : wpList P ops Q (o :: rest) a w :=
  wpList_store_row hgd ty x y ho g _ hx hy T _ hA (by rw [arr_size]; exact hi) (by rw [arr_size, arr_size]; exact hl) (arr_one l) h
theorem wpList_store_arr_as {P : Program} {ops : Array Oper} {rest : List Oper} {o : Oper} {a : Act} {w : World} {Q : Exit → Act → World → Prop} (hgd : o.guard = none) (ty : TypeId) (x y : Operand) (ho : o.op = .store ty x y)
    (g : Nat) (l l0 : List Nat) (hx : a.eval x = .pointer (some ⟨g, 0, none⟩)) (hy : a.eval y = aggV l) (T : TypeId) (hA : ArrAt w g T l0) (hi : (P.info? ty).map (·.size) = some l.length) (hl : l0.length = l.length)
    (h : ∀ w', ArrAt w' g T l → (∀ k T' l', k ≠ g → ArrAt w k T' l' → ArrAt w' k T' l') → Below g w w' → wpList P ops Q rest (a.put o.dst undef) w') : wpList P ops Q (o :: rest) a w :=
  wpList_store_arr hgd ty x y ho g l l0 hx hy T hA hi hl (h _ (hA.setRow l) (fun _ _ _ hk hA' => hA'.setRow_other _ hk) (Go.below_setRow (Below.refl _ _) (Nat.le_refl _) _))
theorem wpList_build_arr {P : Program} {ops : Array Oper} {rest : List Oper} {o : Oper} {a : Act} {w : World} {Q : Exit → Act → World → Prop} (hg : o.guard = none) (t : TypeId) (parts : Array (Nat × Operand)) (ho : o.op = .build t parts) (l : List Nat)
    (hb : P.built t (parts.map fun (i, x) => (i, a.eval x)).toList = some (l.map u32v).toArray)
    (h : wpList P ops Q rest (a.put o.dst (aggV l)) w) : wpList P ops Q (o :: rest) a w :=
  wpList_build hg t parts ho (by rw [hb]; rfl) (by rw [hb]; exact h)
theorem results_arr {P : Program} {fn : Func} {p : Tmp} {ty : TypeId} (h : fn.results = #[.cell p ty]) (tmps : Array Value) (w : World) (g : Nat) (T : TypeId) (l : List Nat) (n : Nat) (e : TypeId)
    (hp : tmps.getD p undef = .pointer (some ⟨g, 0, none⟩)) (hA : ArrAt w g T l) (hu : P.underlying ty = some (.array n e)) (hi : (P.info? ty).map (·.size) = some l.length) :
    (results fn tmps).run P w = .ok (aggV l) w :=
  results_cell_row h tmps w g T _ (0, 0) _ hp hA hu rfl (by rw [arr_size]; exact hi)
end Go.Proofs.Ytecbpplocokedaa

