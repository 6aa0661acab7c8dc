/- The project's rules: a map from numbers to closures, filled and looked into; the closures. -/
import Derived.Test.YtecbpplocokedaaThI1
import Derived.Carry
import Derived.Maps.OwnSet
namespace Go.Proofs.Ytecbpplocokedaa
open Go.RowKit
open Go.ChangeMaps (setBlock)
section
variable {P : Program} {ops : Array Oper} {rest : List Oper} {o : Oper} {a : Act} {Q : Exit → Act → World → Prop}
/-- An entry of a map's literal whose key is not there yet. -/
theorem wpList_insert_new (w : World) (hg : o.guard = none) (m x v : Operand) (t : TypeId) (hop : o.op = Op.insert t m x v) (k e : TypeId) (q : IntKind) (ht : P.underlying t = some (.map k e)) (hk : P.underlying k = some (.int q)) (b : Nat) (es : Array MapEntry) (clock : Nat) (hm : a.eval m = .map (some b)) (hb : w.heap[b]? = some (.map es clock)) (n : Int) (val : Value) (hx : a.eval x = .int q n) (hv : a.eval v = val) (hn : Instr.findNow (.int q) (.int q n) es.toList 0 = some none)
    (hK : wpList P ops Q rest (a.put o.dst undef) (setBlock w b (.map (es.push { key := .int q n, val := val, born := clock }) (clock + 1)))) : wpList P ops Q (o :: rest) a w := by
  refine wpList_plain hg fun K' hK' => ?_
  have hrun : (Instr.mapUpdate t (.map (some b)) (.int q n) val).run P w = .ok () (setBlock w b (.map (es.push { key := .int q n, val := val, born := clock }) (clock + 1))) := by
    simp [Instr.mapUpdate, run_underlying ht, MapKept.run_getObj_map hb, MapKept.run_checkKey (k := .int q n) hk (by simp [MapKept.IsKey]), MapKept.run_findKey hk hn, MapKept.run_setObj_map _ hb, Result.andThen, setBlock]
  unfold Oper.wp
  simp [execOp, hop, hm, hx, hv, hrun, Result.andThen]
  exact hK' _ _ hK
/-- A look that finds. -/
theorem run_lookup_at (w : World) (t k e : TypeId) (q : IntKind) (ht : P.underlying t = some (.map k e)) (hk : P.underlying k = some (.int q)) (b : Nat) (es : Array MapEntry) (clock : Nat) (hb : w.heap[b]? = some (.map es clock)) (n : Int) (i : Nat) (val : Value) (hn : Instr.findNow (.int q) (.int q n) es.toList 0 = some (some (i, val))) :
    (Instr.lookup t (.map (some b)) (.int q n) true).run P w = .ok (.tuple #[val, .bool true]) w := by
  simp [Instr.lookup, run_underlying ht, MapKept.run_getObj_map hb, MapKept.run_checkKey (k := .int q n) hk (by simp [MapKept.IsKey]), MapKept.run_findKey hk hn, Result.andThen]
/-- A look that does not. -/
theorem run_lookup_not (w : World) (t k e : TypeId) (q : IntKind) (ht : P.underlying t = some (.map k e)) (hk : P.underlying k = some (.int q)) (b : Nat) (es : Array MapEntry) (clock : Nat) (hb : w.heap[b]? = some (.map es clock)) (n : Int) (z : Value) (hz : (zeroValue e).run P w = .ok z w) (hn : Instr.findNow (.int q) (.int q n) es.toList 0 = some none) :
    (Instr.lookup t (.map (some b)) (.int q n) true).run P w = .ok (.tuple #[z, .bool false]) w := by
  simp [Instr.lookup, run_underlying ht, MapKept.run_getObj_map hb, MapKept.run_checkKey (k := .int q n) hk (by simp [MapKept.IsKey]), MapKept.run_findKey hk hn, hz, Result.andThen]
end
theorem setBlock_new (w : World) (b : Nat) (o : Obj) (hb : b < w.heap.size) : (setBlock w b o).heap[b]? = some o := by
  show (w.heap.setIfInBounds b o)[b]? = some o
  rw [Array.getElem?_setIfInBounds_self_of_lt hb]
theorem setBlock_other (w : World) (b c : Nat) (o : Obj) (hb : c ≠ b) : (setBlock w b o).heap[c]? = w.heap[c]? := by
  show (w.heap.setIfInBounds b o)[c]? = _
  rw [Array.getElem?_setIfInBounds_ne (fun e => hb e.symm)]
theorem setBlock_size (w : World) (b : Nat) (o : Obj) : (setBlock w b o).heap.size = w.heap.size := by
  show (w.heap.setIfInBounds b o).size = _
  simp
theorem setBlock_below {w w' : World} {B : Nat} (h : Below B w w') (b : Nat) (o : Obj) (hb : B ≤ b) : Below B w (setBlock w' b o) := by
  refine ⟨h.os, h.tape, h.output, ?_, fun i hi => ?_⟩
  · rw [setBlock_size]; exact h.size
  · rw [setBlock_other _ _ _ _ (by omega)]; exact h.block i hi
/-- The rules of the thing that lies in block g. -/
def rulV (f : Nat) (g : Nat) : Value := .func (.func f) #[] #[.pointer (some ⟨g, 0, none⟩)]
def rulE (g : Nat) : Array MapEntry := #[⟨.int .i64 1, rulV 42 g, 0⟩, ⟨.int .i64 2, rulV 43 g, 1⟩, ⟨.int .i64 3, rulV 44 g, 2⟩, ⟨.int .i64 4, rulV 45 g, 3⟩, ⟨.int .i64 5, .func (.func 46) #[] #[], 4⟩]
set_option maxRecDepth 20000 in
set_option maxHeartbeats 2000000 in
theorem rulesOf_any (x : Th) (w : World) :
    Calls Try.prog 31 #[.agg (thC x)] w fun e w' => e = .returned (.map (some (w.heap.size + 1))) ∧ w'.heap[w.heap.size + 1]? = some (.map (rulE w.heap.size) 5) ∧ CB w' w.heap.size 25 (thC x) ∧ Below w.heap.size w w' := by
  obtain ⟨W, hW, hC, hb, hlt⟩ := one_cb w (thC x) 25
  have hWs : W.heap.size = w.heap.size + 1 := by rw [← hW]; simp
  have hWs2 : (w.alloc (.cells (thC x) 25)).heap.size = w.heap.size + 1 := by simp
  have hmm : (Instr.makeMap 53 none).run Try.prog W = .ok (.map (some (w.heap.size + 1))) (W.alloc (.map #[] 0)) := by rw [← hWs]; rfl
  obtain ⟨M, hM⟩ : ∃ M, W.alloc (.map #[] 0) = M := ⟨_, rfl⟩
  rw [hM] at hmm
  have hm0 : M.heap[w.heap.size + 1]? = some (.map #[] 0) := by rw [← hM, ← hWs]; exact heap_alloc_new W _
  have hms : M.heap.size = w.heap.size + 2 := by rw [← hM]; simp [hWs]
  have hCM : CB M w.heap.size 25 (thC x) := by rw [← hM]; exact hC.alloc _
  have hbM : Below w.heap.size w M := by rw [← hM]; exact hb.alloc (by omega) _
  have hm1 : (setBlock M (w.heap.size + 1) (.map ((#[] : Array MapEntry).push ⟨.int .i64 1, rulV 42 w.heap.size, 0⟩) (0 + 1))).heap[w.heap.size + 1]? = some (.map (#[⟨.int .i64 1, rulV 42 w.heap.size, 0⟩] : Array MapEntry) 1) := setBlock_new _ _ _ (by omega)
  have hz1 : (setBlock M (w.heap.size + 1) (.map ((#[] : Array MapEntry).push ⟨.int .i64 1, rulV 42 w.heap.size, 0⟩) (0 + 1))).heap.size = w.heap.size + 2 := (setBlock_size _ _ _).trans (by omega)
  have hc1 : CB (setBlock M (w.heap.size + 1) (.map ((#[] : Array MapEntry).push ⟨.int .i64 1, rulV 42 w.heap.size, 0⟩) (0 + 1))) w.heap.size 25 (thC x) := (setBlock_other _ _ _ _ (by omega)).trans hCM
  have hd1 : Below w.heap.size w (setBlock M (w.heap.size + 1) (.map ((#[] : Array MapEntry).push ⟨.int .i64 1, rulV 42 w.heap.size, 0⟩) (0 + 1))) := setBlock_below hbM _ _ (by omega)
  obtain ⟨M1, hM1⟩ : ∃ X, setBlock M (w.heap.size + 1) (.map (#[⟨.int .i64 1, rulV 42 w.heap.size, 0⟩] : Array MapEntry) 1) = X := ⟨_, rfl⟩
  replace hm1 : M1.heap[w.heap.size + 1]? = some (.map (#[⟨.int .i64 1, rulV 42 w.heap.size, 0⟩] : Array MapEntry) 1) := by rw [← hM1]; exact hm1
  replace hz1 : M1.heap.size = w.heap.size + 2 := by rw [← hM1]; exact hz1
  replace hc1 : CB M1 w.heap.size 25 (thC x) := by rw [← hM1]; exact hc1
  replace hd1 : Below w.heap.size w M1 := by rw [← hM1]; exact hd1
  have hm2 : (setBlock M1 (w.heap.size + 1) (.map ((#[⟨.int .i64 1, rulV 42 w.heap.size, 0⟩] : Array MapEntry).push ⟨.int .i64 2, rulV 43 w.heap.size, 1⟩) (1 + 1))).heap[w.heap.size + 1]? = some (.map (#[⟨.int .i64 1, rulV 42 w.heap.size, 0⟩, ⟨.int .i64 2, rulV 43 w.heap.size, 1⟩] : Array MapEntry) 2) := setBlock_new _ _ _ (by omega)
  have hz2 : (setBlock M1 (w.heap.size + 1) (.map ((#[⟨.int .i64 1, rulV 42 w.heap.size, 0⟩] : Array MapEntry).push ⟨.int .i64 2, rulV 43 w.heap.size, 1⟩) (1 + 1))).heap.size = w.heap.size + 2 := (setBlock_size _ _ _).trans (by omega)
  have hc2 : CB (setBlock M1 (w.heap.size + 1) (.map ((#[⟨.int .i64 1, rulV 42 w.heap.size, 0⟩] : Array MapEntry).push ⟨.int .i64 2, rulV 43 w.heap.size, 1⟩) (1 + 1))) w.heap.size 25 (thC x) := (setBlock_other _ _ _ _ (by omega)).trans hc1
  have hd2 : Below w.heap.size w (setBlock M1 (w.heap.size + 1) (.map ((#[⟨.int .i64 1, rulV 42 w.heap.size, 0⟩] : Array MapEntry).push ⟨.int .i64 2, rulV 43 w.heap.size, 1⟩) (1 + 1))) := setBlock_below hd1 _ _ (by omega)
  obtain ⟨M2, hM2⟩ : ∃ X, setBlock M1 (w.heap.size + 1) (.map (#[⟨.int .i64 1, rulV 42 w.heap.size, 0⟩, ⟨.int .i64 2, rulV 43 w.heap.size, 1⟩] : Array MapEntry) 2) = X := ⟨_, rfl⟩
  replace hm2 : M2.heap[w.heap.size + 1]? = some (.map (#[⟨.int .i64 1, rulV 42 w.heap.size, 0⟩, ⟨.int .i64 2, rulV 43 w.heap.size, 1⟩] : Array MapEntry) 2) := by rw [← hM2]; exact hm2
  replace hz2 : M2.heap.size = w.heap.size + 2 := by rw [← hM2]; exact hz2
  replace hc2 : CB M2 w.heap.size 25 (thC x) := by rw [← hM2]; exact hc2
  replace hd2 : Below w.heap.size w M2 := by rw [← hM2]; exact hd2
  have hm3 : (setBlock M2 (w.heap.size + 1) (.map ((#[⟨.int .i64 1, rulV 42 w.heap.size, 0⟩, ⟨.int .i64 2, rulV 43 w.heap.size, 1⟩] : Array MapEntry).push ⟨.int .i64 3, rulV 44 w.heap.size, 2⟩) (2 + 1))).heap[w.heap.size + 1]? = some (.map (#[⟨.int .i64 1, rulV 42 w.heap.size, 0⟩, ⟨.int .i64 2, rulV 43 w.heap.size, 1⟩, ⟨.int .i64 3, rulV 44 w.heap.size, 2⟩] : Array MapEntry) 3) := setBlock_new _ _ _ (by omega)
  have hz3 : (setBlock M2 (w.heap.size + 1) (.map ((#[⟨.int .i64 1, rulV 42 w.heap.size, 0⟩, ⟨.int .i64 2, rulV 43 w.heap.size, 1⟩] : Array MapEntry).push ⟨.int .i64 3, rulV 44 w.heap.size, 2⟩) (2 + 1))).heap.size = w.heap.size + 2 := (setBlock_size _ _ _).trans (by omega)
  have hc3 : CB (setBlock M2 (w.heap.size + 1) (.map ((#[⟨.int .i64 1, rulV 42 w.heap.size, 0⟩, ⟨.int .i64 2, rulV 43 w.heap.size, 1⟩] : Array MapEntry).push ⟨.int .i64 3, rulV 44 w.heap.size, 2⟩) (2 + 1))) w.heap.size 25 (thC x) := (setBlock_other _ _ _ _ (by omega)).trans hc2
  have hd3 : Below w.heap.size w (setBlock M2 (w.heap.size + 1) (.map ((#[⟨.int .i64 1, rulV 42 w.heap.size, 0⟩, ⟨.int .i64 2, rulV 43 w.heap.size, 1⟩] : Array MapEntry).push ⟨.int .i64 3, rulV 44 w.heap.size, 2⟩) (2 + 1))) := setBlock_below hd2 _ _ (by omega)
  obtain ⟨M3, hM3⟩ : ∃ X, setBlock M2 (w.heap.size + 1) (.map (#[⟨.int .i64 1, rulV 42 w.heap.size, 0⟩, ⟨.int .i64 2, rulV 43 w.heap.size, 1⟩, ⟨.int .i64 3, rulV 44 w.heap.size, 2⟩] : Array MapEntry) 3) = X := ⟨_, rfl⟩
  replace hm3 : M3.heap[w.heap.size + 1]? = some (.map (#[⟨.int .i64 1, rulV 42 w.heap.size, 0⟩, ⟨.int .i64 2, rulV 43 w.heap.size, 1⟩, ⟨.int .i64 3, rulV 44 w.heap.size, 2⟩] : Array MapEntry) 3) := by rw [← hM3]; exact hm3
  replace hz3 : M3.heap.size = w.heap.size + 2 := by rw [← hM3]; exact hz3
  replace hc3 : CB M3 w.heap.size 25 (thC x) := by rw [← hM3]; exact hc3
  replace hd3 : Below w.heap.size w M3 := by rw [← hM3]; exact hd3
  have hm4 : (setBlock M3 (w.heap.size + 1) (.map ((#[⟨.int .i64 1, rulV 42 w.heap.size, 0⟩, ⟨.int .i64 2, rulV 43 w.heap.size, 1⟩, ⟨.int .i64 3, rulV 44 w.heap.size, 2⟩] : Array MapEntry).push ⟨.int .i64 4, rulV 45 w.heap.size, 3⟩) (3 + 1))).heap[w.heap.size + 1]? = some (.map (#[⟨.int .i64 1, rulV 42 w.heap.size, 0⟩, ⟨.int .i64 2, rulV 43 w.heap.size, 1⟩, ⟨.int .i64 3, rulV 44 w.heap.size, 2⟩, ⟨.int .i64 4, rulV 45 w.heap.size, 3⟩] : Array MapEntry) 4) := setBlock_new _ _ _ (by omega)
  have hz4 : (setBlock M3 (w.heap.size + 1) (.map ((#[⟨.int .i64 1, rulV 42 w.heap.size, 0⟩, ⟨.int .i64 2, rulV 43 w.heap.size, 1⟩, ⟨.int .i64 3, rulV 44 w.heap.size, 2⟩] : Array MapEntry).push ⟨.int .i64 4, rulV 45 w.heap.size, 3⟩) (3 + 1))).heap.size = w.heap.size + 2 := (setBlock_size _ _ _).trans (by omega)
  have hc4 : CB (setBlock M3 (w.heap.size + 1) (.map ((#[⟨.int .i64 1, rulV 42 w.heap.size, 0⟩, ⟨.int .i64 2, rulV 43 w.heap.size, 1⟩, ⟨.int .i64 3, rulV 44 w.heap.size, 2⟩] : Array MapEntry).push ⟨.int .i64 4, rulV 45 w.heap.size, 3⟩) (3 + 1))) w.heap.size 25 (thC x) := (setBlock_other _ _ _ _ (by omega)).trans hc3
  have hd4 : Below w.heap.size w (setBlock M3 (w.heap.size + 1) (.map ((#[⟨.int .i64 1, rulV 42 w.heap.size, 0⟩, ⟨.int .i64 2, rulV 43 w.heap.size, 1⟩, ⟨.int .i64 3, rulV 44 w.heap.size, 2⟩] : Array MapEntry).push ⟨.int .i64 4, rulV 45 w.heap.size, 3⟩) (3 + 1))) := setBlock_below hd3 _ _ (by omega)
  obtain ⟨M4, hM4⟩ : ∃ X, setBlock M3 (w.heap.size + 1) (.map (#[⟨.int .i64 1, rulV 42 w.heap.size, 0⟩, ⟨.int .i64 2, rulV 43 w.heap.size, 1⟩, ⟨.int .i64 3, rulV 44 w.heap.size, 2⟩, ⟨.int .i64 4, rulV 45 w.heap.size, 3⟩] : Array MapEntry) 4) = X := ⟨_, rfl⟩
  replace hm4 : M4.heap[w.heap.size + 1]? = some (.map (#[⟨.int .i64 1, rulV 42 w.heap.size, 0⟩, ⟨.int .i64 2, rulV 43 w.heap.size, 1⟩, ⟨.int .i64 3, rulV 44 w.heap.size, 2⟩, ⟨.int .i64 4, rulV 45 w.heap.size, 3⟩] : Array MapEntry) 4) := by rw [← hM4]; exact hm4
  replace hz4 : M4.heap.size = w.heap.size + 2 := by rw [← hM4]; exact hz4
  replace hc4 : CB M4 w.heap.size 25 (thC x) := by rw [← hM4]; exact hc4
  replace hd4 : Below w.heap.size w M4 := by rw [← hM4]; exact hd4
  have hm5 : (setBlock M4 (w.heap.size + 1) (.map ((#[⟨.int .i64 1, rulV 42 w.heap.size, 0⟩, ⟨.int .i64 2, rulV 43 w.heap.size, 1⟩, ⟨.int .i64 3, rulV 44 w.heap.size, 2⟩, ⟨.int .i64 4, rulV 45 w.heap.size, 3⟩] : Array MapEntry).push ⟨.int .i64 5, .func (.func 46) #[] #[], 4⟩) (4 + 1))).heap[w.heap.size + 1]? = some (.map (#[⟨.int .i64 1, rulV 42 w.heap.size, 0⟩, ⟨.int .i64 2, rulV 43 w.heap.size, 1⟩, ⟨.int .i64 3, rulV 44 w.heap.size, 2⟩, ⟨.int .i64 4, rulV 45 w.heap.size, 3⟩, ⟨.int .i64 5, .func (.func 46) #[] #[], 4⟩] : Array MapEntry) 5) := setBlock_new _ _ _ (by omega)
  have hz5 : (setBlock M4 (w.heap.size + 1) (.map ((#[⟨.int .i64 1, rulV 42 w.heap.size, 0⟩, ⟨.int .i64 2, rulV 43 w.heap.size, 1⟩, ⟨.int .i64 3, rulV 44 w.heap.size, 2⟩, ⟨.int .i64 4, rulV 45 w.heap.size, 3⟩] : Array MapEntry).push ⟨.int .i64 5, .func (.func 46) #[] #[], 4⟩) (4 + 1))).heap.size = w.heap.size + 2 := (setBlock_size _ _ _).trans (by omega)
  have hc5 : CB (setBlock M4 (w.heap.size + 1) (.map ((#[⟨.int .i64 1, rulV 42 w.heap.size, 0⟩, ⟨.int .i64 2, rulV 43 w.heap.size, 1⟩, ⟨.int .i64 3, rulV 44 w.heap.size, 2⟩, ⟨.int .i64 4, rulV 45 w.heap.size, 3⟩] : Array MapEntry).push ⟨.int .i64 5, .func (.func 46) #[] #[], 4⟩) (4 + 1))) w.heap.size 25 (thC x) := (setBlock_other _ _ _ _ (by omega)).trans hc4
  have hd5 : Below w.heap.size w (setBlock M4 (w.heap.size + 1) (.map ((#[⟨.int .i64 1, rulV 42 w.heap.size, 0⟩, ⟨.int .i64 2, rulV 43 w.heap.size, 1⟩, ⟨.int .i64 3, rulV 44 w.heap.size, 2⟩, ⟨.int .i64 4, rulV 45 w.heap.size, 3⟩] : Array MapEntry).push ⟨.int .i64 5, .func (.func 46) #[] #[], 4⟩) (4 + 1))) := setBlock_below hd4 _ _ (by omega)
  obtain ⟨M5, hM5⟩ : ∃ X, setBlock M4 (w.heap.size + 1) (.map (#[⟨.int .i64 1, rulV 42 w.heap.size, 0⟩, ⟨.int .i64 2, rulV 43 w.heap.size, 1⟩, ⟨.int .i64 3, rulV 44 w.heap.size, 2⟩, ⟨.int .i64 4, rulV 45 w.heap.size, 3⟩, ⟨.int .i64 5, .func (.func 46) #[] #[], 4⟩] : Array MapEntry) 5) = X := ⟨_, rfl⟩
  replace hm5 : M5.heap[w.heap.size + 1]? = some (.map (#[⟨.int .i64 1, rulV 42 w.heap.size, 0⟩, ⟨.int .i64 2, rulV 43 w.heap.size, 1⟩, ⟨.int .i64 3, rulV 44 w.heap.size, 2⟩, ⟨.int .i64 4, rulV 45 w.heap.size, 3⟩, ⟨.int .i64 5, .func (.func 46) #[] #[], 4⟩] : Array MapEntry) 5) := by rw [← hM5]; exact hm5
  replace hz5 : M5.heap.size = w.heap.size + 2 := by rw [← hM5]; exact hz5
  replace hc5 : CB M5 w.heap.size 25 (thC x) := by rw [← hM5]; exact hc5
  replace hd5 : Below w.heap.size w M5 := by rw [← hM5]; exact hd5
  clear hWs2
  go_enter Try.func31, Try.ntmps31
  go_wp2_with (first
    | (refine wpList_insert_new _ rfl _ _ _ 53 rfl 3 51 .i64 Try.underlying53 Try.underlying3 (w.heap.size + 1) (#[] : Array MapEntry) 0 rfl hm0 1 (rulV 42 w.heap.size) (by rfl) (by rfl) (by rfl) ?_; rw [show setBlock M (w.heap.size + 1) (.map ((#[] : Array MapEntry).push { key := .int .i64 1, val := rulV 42 w.heap.size, born := 0 }) (0 + 1)) = M1 from hM1])
    | (refine wpList_insert_new _ rfl _ _ _ 53 rfl 3 51 .i64 Try.underlying53 Try.underlying3 (w.heap.size + 1) (#[⟨.int .i64 1, rulV 42 w.heap.size, 0⟩] : Array MapEntry) 1 rfl hm1 2 (rulV 43 w.heap.size) (by rfl) (by rfl) (by rfl) ?_; rw [show setBlock M1 (w.heap.size + 1) (.map ((#[⟨.int .i64 1, rulV 42 w.heap.size, 0⟩] : Array MapEntry).push { key := .int .i64 2, val := rulV 43 w.heap.size, born := 1 }) (1 + 1)) = M2 from hM2])
    | (refine wpList_insert_new _ rfl _ _ _ 53 rfl 3 51 .i64 Try.underlying53 Try.underlying3 (w.heap.size + 1) (#[⟨.int .i64 1, rulV 42 w.heap.size, 0⟩, ⟨.int .i64 2, rulV 43 w.heap.size, 1⟩] : Array MapEntry) 2 rfl hm2 3 (rulV 44 w.heap.size) (by rfl) (by rfl) (by rfl) ?_; rw [show setBlock M2 (w.heap.size + 1) (.map ((#[⟨.int .i64 1, rulV 42 w.heap.size, 0⟩, ⟨.int .i64 2, rulV 43 w.heap.size, 1⟩] : Array MapEntry).push { key := .int .i64 3, val := rulV 44 w.heap.size, born := 2 }) (2 + 1)) = M3 from hM3])
    | (refine wpList_insert_new _ rfl _ _ _ 53 rfl 3 51 .i64 Try.underlying53 Try.underlying3 (w.heap.size + 1) (#[⟨.int .i64 1, rulV 42 w.heap.size, 0⟩, ⟨.int .i64 2, rulV 43 w.heap.size, 1⟩, ⟨.int .i64 3, rulV 44 w.heap.size, 2⟩] : Array MapEntry) 3 rfl hm3 4 (rulV 45 w.heap.size) (by rfl) (by rfl) (by rfl) ?_; rw [show setBlock M3 (w.heap.size + 1) (.map ((#[⟨.int .i64 1, rulV 42 w.heap.size, 0⟩, ⟨.int .i64 2, rulV 43 w.heap.size, 1⟩, ⟨.int .i64 3, rulV 44 w.heap.size, 2⟩] : Array MapEntry).push { key := .int .i64 4, val := rulV 45 w.heap.size, born := 3 }) (3 + 1)) = M4 from hM4])
    | (refine wpList_insert_new _ rfl _ _ _ 53 rfl 3 51 .i64 Try.underlying53 Try.underlying3 (w.heap.size + 1) (#[⟨.int .i64 1, rulV 42 w.heap.size, 0⟩, ⟨.int .i64 2, rulV 43 w.heap.size, 1⟩, ⟨.int .i64 3, rulV 44 w.heap.size, 2⟩, ⟨.int .i64 4, rulV 45 w.heap.size, 3⟩] : Array MapEntry) 4 rfl hm4 5 (.func (.func 46) #[] #[]) (by rfl) (by rfl) (by rfl) ?_; rw [show setBlock M4 (w.heap.size + 1) (.map ((#[⟨.int .i64 1, rulV 42 w.heap.size, 0⟩, ⟨.int .i64 2, rulV 43 w.heap.size, 1⟩, ⟨.int .i64 3, rulV 44 w.heap.size, 2⟩, ⟨.int .i64 4, rulV 45 w.heap.size, 3⟩] : Array MapEntry).push { key := .int .i64 5, val := .func (.func 46) #[] #[], born := 4 }) (4 + 1)) = M5 from hM5]))
  go_ret
  exact ⟨rfl, hm5, hc5, hd5⟩
theorem rule1_any (x : Th) (g : Nat) (w : World) (h : CB w g 25 (thC x)) : Calls Try.prog 42 #[.pointer (some ⟨g, 0, none⟩)] w fun e w' => e = .returned (.bool (!x.hid)) ∧ w' = w := by
  obtain ⟨id, kind, hid, fix, sgn, wrp, val, nxt⟩ := x
  unfold thC at h
  have c2 := h.cell 2 rfl
  clear h
  go_enter Try.func42, Try.ntmps42
  go_wp2
  go_ret
  exact ⟨rfl, rfl⟩
theorem rule2_any (x : Th) (g : Nat) (w : World) (h : CB w g 25 (thC x)) : Calls Try.prog 43 #[.pointer (some ⟨g, 0, none⟩)] w fun e w' => e = .returned (.bool (!x.fix && decide (x.kind ≠ 2))) ∧ w' = w := by
  obtain ⟨id, kind, hid, fix, sgn, wrp, val, nxt⟩ := x
  unfold thC at h
  have c1 := h.cell 1 rfl
  have c3 := h.cell 3 rfl
  clear h
  cases fix with
  | true =>
    go_enter Try.func43, Try.ntmps43
    go_wp2
    go_ret
    exact ⟨rfl, rfl⟩
  | false =>
    by_cases hk : kind = 2
    · subst hk
      go_enter Try.func43, Try.ntmps43
      go_wp2
      go_ret
      exact ⟨rfl, rfl⟩
    · have hk' : (kind == 2) = false := by rw [beq_eq_false_iff_ne]; exact hk
      have hk2 : decide (kind ≠ 2) = true := decide_eq_true hk
      go_enter Try.func43, Try.ntmps43
      go_wp2
      go_ret
      exact ⟨by simp [hk], rfl⟩
theorem rule3_any (x : Th) (g : Nat) (w : World) (h : CB w g 25 (thC x)) : Calls Try.prog 44 #[.pointer (some ⟨g, 0, none⟩)] w fun e w' => e = .returned (.bool x.sgn) ∧ w' = w := by
  obtain ⟨id, kind, hid, fix, sgn, wrp, val, nxt⟩ := x
  unfold thC at h
  have c4 := h.cell 4 rfl
  clear h
  go_enter Try.func44, Try.ntmps44
  go_wp2
  go_ret
  exact ⟨rfl, rfl⟩
theorem rule4_any (x : Th) (g : Nat) (w : World) (h : CB w g 25 (thC x)) : Calls Try.prog 45 #[.pointer (some ⟨g, 0, none⟩)] w fun e w' => e = .returned (.bool x.wrp) ∧ w' = w := by
  obtain ⟨id, kind, hid, fix, sgn, wrp, val, nxt⟩ := x
  unfold thC at h
  have c5 := h.cell 5 rfl
  clear h
  go_enter Try.func45, Try.ntmps45
  go_wp2
  go_ret
  exact ⟨rfl, rfl⟩
theorem rule5_any (w : World) : Calls Try.prog 46 #[] w fun e w' => e = .returned (.bool true) ∧ w' = w := by
  go_enter Try.func46, Try.ntmps46
  go_wp2
  go_ret
  exact ⟨rfl, rfl⟩
end Go.Proofs.Ytecbpplocokedaa
