/- Laws of no program: a block that holds an array of lanes. -/
import Derived.Test.YtkidgllmhdfgaanDoorStrs
import Derived.Test.YtkidgllmhdfgaanDoorKecI
import Derived.Laws.Rows
import Derived.Laws.Tables
import Derived.Laws.CopyOwn
import Derived.Laws.CopyRow
namespace Go.Proofs.YtkidgllmhdfgaanDoor
open Go.RowKit

def u64v (x : Nat) : Value := .int .u64 (x : Int)
def LnAt (w : World) (g : Nat) (T : TypeId) (l : List Nat) : Prop := w.heap[g]? = some (.cells (l.map u64v).toArray T (0, 0))
def aggL (l : List Nat) : Value := .agg (l.map u64v).toArray

theorem LnAt.lt {w : World} {g : Nat} {T : TypeId} {l : List Nat} (h : LnAt w g T l) : g < w.heap.size := by
  rcases Nat.lt_or_ge g w.heap.size with h1 | h1
  · exact h1
  · unfold LnAt at h
    rw [Array.getElem?_eq_none h1] at h; cases h
theorem LnAt.frozen {w : World} {g : Nat} {T : TypeId} {l : List Nat} (h : LnAt w g T l) (k : Nat) : w.frozen? ⟨g, k, none⟩ = false := frozen_of_row w g k _ T h
theorem LnAt.cell {w : World} {g : Nat} {T : TypeId} {l : List Nat} (h : LnAt w g T l) (k : Nat) (hk : k < l.length) : w.cell? ⟨g, k, none⟩ = some (.int .u64 (ln l k : Int)) := by
  unfold LnAt at h
  unfold World.cell?
  simp [h, ln, hk, u64v]
theorem LnAt.set {w : World} {g : Nat} {T : TypeId} {l : List Nat} (h : LnAt w g T l) (k v : Nat) : LnAt (w.setCell ⟨g, k, none⟩ (.int .u64 (v : Int))) g T (l.set k v) := by
  unfold LnAt at h ⊢
  rw [heap_setCell_same w g k _ T (.int .u64 (v : Int)) h, List.map_set]
  simp [u64v]
theorem LnAt.below {w w' : World} {g B : Nat} {T : TypeId} {l : List Nat} (h : LnAt w g T l) (hb : Below B w w') (hg : g < B) : LnAt w' g T l := by
  unfold LnAt at h ⊢
  rw [hb.block g hg]; exact h
theorem LnAt.alloc {w : World} {g : Nat} {T : TypeId} {l : List Nat} (h : LnAt w g T l) (o : Obj) : LnAt (w.alloc o) g T l := by
  have hl := h.lt
  unfold LnAt at h ⊢
  unfold World.alloc
  simp only [Array.getElem?_push]
  rw [if_neg (by omega)]
  exact h
theorem LnAt.new (w : World) (T : TypeId) (l : List Nat) : LnAt (w.alloc (.cells (l.map u64v).toArray T (0, 0))) w.heap.size T l := by
  unfold LnAt World.alloc
  simp
theorem LnAt.drewN {w : World} {g : Nat} {T : TypeId} {l : List Nat} (h : LnAt w g T l) (n : Nat) : LnAt (w.drewN n) g T l := h
theorem lan_size (l : List Nat) : (l.map u64v).toArray.size = l.length := by simp
theorem lan_one (l : List Nat) : (l.map u64v).toArray.all (·.oneCell') = true := by
  rw [Array.all_eq_true_iff_forall_mem]
  intro v hv
  simp only [List.mem_toArray, List.mem_map] at hv
  obtain ⟨x, _, rfl⟩ := hv
  rfl
theorem LnAt.setRow {w : World} {g : Nat} {T : TypeId} {l : List Nat} (h : LnAt w g T l) (l' : List Nat) : LnAt (w.setRow g (l'.map u64v).toArray) g T l' := setRow_heap w g _ _ T (0, 0) h
theorem LnAt.setRow_other {w : World} {g k : Nat} {T : TypeId} {l : List Nat} (h : LnAt w k T l) (cs : Array Value) (hk : k ≠ g) : LnAt (w.setRow g cs) k T l := by
  unfold LnAt
  rw [Go.setRow_other w g k cs hk]
  exact h
theorem wpList_load_lan {P : Program} {ops : Array Oper} {rest : List Oper} {o : Oper} {a : Act} {w : World} {Q : Exit → Act → World → Prop} (hgd : o.guard = none) (ty : TypeId) (x : Operand) (ho : o.op = .load ty x)
    (g : Nat) (hx : a.eval x = .pointer (some ⟨g, 0, none⟩)) (T : TypeId) (l : List Nat) (hA : LnAt w g T l) (n : Nat) (e : TypeId) (hu : P.underlying ty = some (.array n e)) (hi : (P.info? ty).map (·.size) = some l.length)
    (h : wpList P ops Q rest (a.put o.dst (aggL l)) w) : wpList P ops Q (o :: rest) a w :=
  wpList_load_row hgd ty x ho g hx T _ (0, 0) _ hA hu rfl (by rw [lan_size]; exact hi) h
theorem wpList_store_lan {P : Program} {ops : Array Oper} {rest : List Oper} {o : Oper} {a : Act} {w : World} {Q : Exit → Act → World → Prop} (hgd : o.guard = none) (ty : TypeId) (x y : Operand) (ho : o.op = .store ty x y)
    (g : Nat) (l l0 : List Nat) (hx : a.eval x = .pointer (some ⟨g, 0, none⟩)) (hy : a.eval y = aggL l) (T : TypeId) (hA : LnAt w g T l0) (hi : (P.info? ty).map (·.size) = some l.length) (hl : l0.length = l.length)
    (h : wpList P ops Q rest (a.put o.dst undef) (w.setRow g (l.map u64v).toArray)) : wpList P ops Q (o :: rest) a w :=
  wpList_store_row hgd ty x y ho g _ hx hy T _ hA (by rw [lan_size]; exact hi) (by rw [lan_size, lan_size]; exact hl) (lan_one l) h
theorem wpList_store_lan_as {P : Program} {ops : Array Oper} {rest : List Oper} {o : Oper} {a : Act} {w : World} {Q : Exit → Act → World → Prop} (hgd : o.guard = none) (ty : TypeId) (x y : Operand) (ho : o.op = .store ty x y)
    (g : Nat) (l l0 : List Nat) (hx : a.eval x = .pointer (some ⟨g, 0, none⟩)) (hy : a.eval y = aggL l) (T : TypeId) (hA : LnAt w g T l0) (hi : (P.info? ty).map (·.size) = some l.length) (hl : l0.length = l.length)
    (h : ∀ w', LnAt w' g T l → (∀ k T' l', k ≠ g → LnAt w k T' l' → LnAt w' k T' l') → Below g w w' → wpList P ops Q rest (a.put o.dst undef) w') : wpList P ops Q (o :: rest) a w :=
  wpList_store_lan hgd ty x y ho g l l0 hx hy T hA hi hl (h _ (hA.setRow l) (fun _ _ _ hk hA' => hA'.setRow_other _ hk) (Go.below_setRow (Below.refl _ _) (Nat.le_refl _) _))
theorem wpList_build_lan {P : Program} {ops : Array Oper} {rest : List Oper} {o : Oper} {a : Act} {w : World} {Q : Exit → Act → World → Prop} (hg : o.guard = none) (t : TypeId) (parts : Array (Nat × Operand)) (ho : o.op = .build t parts) (l : List Nat)
    (hb : P.built t (parts.map fun (i, x) => (i, a.eval x)).toList = some (l.map u64v).toArray)
    (h : wpList P ops Q rest (a.put o.dst (aggL l)) w) : wpList P ops Q (o :: rest) a w :=
  wpList_build hg t parts ho (by rw [hb]; rfl) (by rw [hb]; exact h)
theorem results_lan {P : Program} {fn : Func} {p : Tmp} {ty : TypeId} (h : fn.results = #[.cell p ty]) (tmps : Array Value) (w : World) (g : Nat) (T : TypeId) (l : List Nat) (n : Nat) (e : TypeId)
    (hp : tmps.getD p undef = .pointer (some ⟨g, 0, none⟩)) (hA : LnAt w g T l) (hu : P.underlying ty = some (.array n e)) (hi : (P.info? ty).map (·.size) = some l.length) :
    (results fn tmps).run P w = .ok (aggL l) w :=
  results_cell_row h tmps w g T _ (0, 0) _ hp hA hu rfl (by rw [lan_size]; exact hi)
theorem addr_add (g o j : Nat) : (⟨g, o, none⟩ : Addr).add j = ⟨g, o + j, none⟩ := by unfold Addr.add; split <;> simp_all
theorem run_loadVar_part {P : Program} (w : World) (g o m : Nat) (T ty : TypeId) (l : List Nat) (n : Nat) (e : TypeId) (hA : LnAt w g T l) (hm : o + m ≤ l.length) (hu : P.underlying ty = some (.array n e)) (hi : (P.info? ty).map (·.size) = some m) :
    (loadVar ty ⟨g, o, none⟩).run P w = .ok (aggL ((l.drop o).take m)) w := by
  have hlen : (((l.drop o).take m).map u64v).length = m := by simp; omega
  have hl : (loadCells ⟨g, o, none⟩ (((l.drop o).take m).map u64v).length).run P w = .ok (((l.drop o).take m).map u64v).toArray w :=
    run_loadCells_list (P := P) w ⟨g, o, none⟩ _ (fun j v hv => by
      rw [addr_add, cell_of_row w g (o + j) _ T (0, 0) hA]
      have hj : j < m := by rw [← hlen]; exact (List.getElem?_eq_some_iff.mp hv).1
      simp only [List.getElem?_toArray, List.getElem?_map, List.getElem?_take, List.getElem?_drop, if_pos hj] at hv ⊢
      exact hv)
  cases hq : P.info? ty with
  | none => simp [hq] at hi
  | some i =>
    have hs : i.size = m := by simpa [hq] using hi
    have hagg : (isAgg ty).run P w = .ok true w := by
      unfold isAgg
      rw [Sem.run_bind, run_underlying hu w]
      rfl
    rw [hlen] at hl
    simp [loadVar, Sem.run_bind, hagg, sizeOf, typeInfo, hq, hs, hl, aggL]
theorem wpList_load_part {P : Program} {ops : Array Oper} {rest : List Oper} {q : Oper} {a : Act} {w : World} {Q : Exit → Act → World → Prop} (hgd : q.guard = none) (ty : TypeId) (x : Operand) (ho : q.op = .load ty x)
    (g o m : Nat) (hx : a.eval x = .pointer (some ⟨g, o, none⟩)) (T : TypeId) (l : List Nat) (hA : LnAt w g T l) (hm : o + m ≤ l.length) (n : Nat) (e : TypeId) (hu : P.underlying ty = some (.array n e)) (hi : (P.info? ty).map (·.size) = some m)
    (h : wpList P ops Q rest (a.put q.dst (aggL ((l.drop o).take m))) w) : wpList P ops Q (q :: rest) a w := by
  refine wpList_plain hgd fun _ hK => ?_
  unfold Oper.wp execOp
  simp only [ho, hx, Instr.loadAt, Instr.sureAddr, Sem.run_bind, Sem.run_pure, Result.andThen_ok, run_loadVar_part w g o m T ty l n e hA hm hu hi]
  exact hK _ _ h
def putL (l vs : List Nat) (o : Nat) : List Nat := l.take o ++ vs ++ l.drop (o + vs.length)
theorem wpList_store_part {P : Program} {ops : Array Oper} {rest : List Oper} {q : Oper} {a : Act} {w : World} {Q : Exit → Act → World → Prop} (hgd : q.guard = none) (ty : TypeId) (x y : Operand) (ho : q.op = .store ty x y)
    (g o : Nat) (l vs : List Nat) (hx : a.eval x = .pointer (some ⟨g, o, none⟩)) (hy : a.eval y = aggL vs) (T : TypeId) (hA : LnAt w g T l) (hm : o + vs.length ≤ l.length) (hi : (P.info? ty).map (·.size) = some vs.length)
    (h : wpList P ops Q rest (a.put q.dst undef) (w.setRow g ((putL l vs o).map u64v).toArray)) : wpList P ops Q (q :: rest) a w := by
  have hst := run_storeCells_at P g o T (vs.map u64v) 0 (l.map u64v).toArray w hA (by simp; omega) (by intro v hv; simp only [List.mem_map] at hv; obtain ⟨x, _, rfl⟩ := hv; rfl)
  have e : ((l.map u64v).toArray.toList.take (o + 0) ++ vs.map u64v ++ (l.map u64v).toArray.toList.drop (o + 0 + (vs.map u64v).length)) = (putL l vs o).map u64v := by
    unfold putL
    simp [List.map_take, List.map_drop]
  rw [e] at hst
  refine wpList_plain hgd fun _ hK => ?_
  unfold Oper.wp execOp
  cases hq : P.info? ty with
  | none => simp [hq] at hi
  | some i =>
    have hs : i.size = vs.length := by simpa [hq] using hi
    have hst' : (storeVar ty ⟨g, o, none⟩ (aggL vs)).run P w = .ok () (w.setRow g ((putL l vs o).map u64v).toArray) := by
      simp [storeVar, sizeOf, typeInfo, hq, Value.cells, hs, aggL, hst]
    simp only [ho, hx, hy, Instr.storeAt, Instr.sureAddr, Sem.run_bind, Sem.run_pure, Result.andThen_ok, hst']
    exact hK _ _ h
end Go.Proofs.YtkidgllmhdfgaanDoor
