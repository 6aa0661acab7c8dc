/- Laws of no program: a block that holds an array of words. -/
import Derived.Test.YtecbpplocokedaaStrs
import Derived.Test.YtecbpplocokedaaSha
import Derived.Laws.Rows
import Derived.Laws.Tables
import Derived.Laws.CopyOwn
namespace Go.Proofs.Ytecbpplocokedaa
open Go.RowKit

def u32v (x : Nat) : Value := .int .u32 (x : Int)
def ArrAt (w : World) (g : Nat) (T : TypeId) (l : List Nat) : Prop := w.heap[g]? = some (.cells (l.map u32v).toArray T (0, 0))
def aggV (l : List Nat) : Value := .agg (l.map u32v).toArray

theorem ArrAt.lt {w : World} {g : Nat} {T : TypeId} {l : List Nat} (h : ArrAt w g T l) : g < w.heap.size := by
  rcases Nat.lt_or_ge g w.heap.size with h1 | h1
  · exact h1
  · unfold ArrAt at h
    rw [Array.getElem?_eq_none h1] at h; cases h
theorem ArrAt.frozen {w : World} {g : Nat} {T : TypeId} {l : List Nat} (h : ArrAt w g T l) (k : Nat) : w.frozen? ⟨g, k, none⟩ = false := frozen_of_row w g k _ T h
theorem ArrAt.cell {w : World} {g : Nat} {T : TypeId} {l : List Nat} (h : ArrAt w g T l) (k : Nat) (hk : k < l.length) : w.cell? ⟨g, k, none⟩ = some (.int .u32 (at_ l k : Int)) := by
  unfold ArrAt at h
  unfold World.cell?
  simp [h, at_, hk, u32v]
theorem ArrAt.set {w : World} {g : Nat} {T : TypeId} {l : List Nat} (h : ArrAt w g T l) (k v : Nat) : ArrAt (w.setCell ⟨g, k, none⟩ (.int .u32 (v : Int))) g T (l.set k v) := by
  unfold ArrAt at h ⊢
  rw [heap_setCell_same w g k _ T (.int .u32 (v : Int)) h, List.map_set]
  simp [u32v]
theorem ArrAt.below {w w' : World} {g B : Nat} {T : TypeId} {l : List Nat} (h : ArrAt w g T l) (hb : Below B w w') (hg : g < B) : ArrAt w' g T l := by
  unfold ArrAt at h ⊢
  rw [hb.block g hg]; exact h
theorem ArrAt.alloc {w : World} {g : Nat} {T : TypeId} {l : List Nat} (h : ArrAt w g T l) (o : Obj) : ArrAt (w.alloc o) g T l := by
  have hl := h.lt
  unfold ArrAt at h ⊢
  unfold World.alloc
  simp only [Array.getElem?_push]
  rw [if_neg (by omega)]
  exact h
theorem ArrAt.new (w : World) (T : TypeId) (l : List Nat) : ArrAt (w.alloc (.cells (l.map u32v).toArray T (0, 0))) w.heap.size T l := by
  unfold ArrAt World.alloc
  simp
theorem ArrAt.drewN {w : World} {g : Nat} {T : TypeId} {l : List Nat} (h : ArrAt w g T l) (n : Nat) : ArrAt (w.drewN n) g T l := h
theorem arr_size (l : List Nat) : (l.map u32v).toArray.size = l.length := by simp
theorem arr_one (l : List Nat) : (l.map u32v).toArray.all (·.oneCell') = true := by
  rw [Array.all_eq_true_iff_forall_mem]
  intro v hv
  simp only [List.mem_toArray, List.mem_map] at hv
  obtain ⟨x, _, rfl⟩ := hv
  rfl
theorem ArrAt.setRow {w : World} {g : Nat} {T : TypeId} {l : List Nat} (h : ArrAt w g T l) (l' : List Nat) : ArrAt (w.setRow g (l'.map u32v).toArray) g T l' := setRow_heap w g _ _ T (0, 0) h
theorem ArrAt.setRow_other {w : World} {g k : Nat} {T : TypeId} {l : List Nat} (h : ArrAt w k T l) (cs : Array Value) (hk : k ≠ g) : ArrAt (w.setRow g cs) k T l := by
  unfold ArrAt
  rw [Go.setRow_other w g k cs hk]
  exact h
theorem wpList_load_arr {P : Program} {ops : Array Oper} {rest : List Oper} {o : Oper} {a : Act} {w : World} {Q : Exit → Act → World → Prop} (hgd : o.guard = none) (ty : TypeId) (x : Operand) (ho : o.op = .load ty x)
    (g : Nat) (hx : a.eval x = .pointer (some ⟨g, 0, none⟩)) (T : TypeId) (l : List Nat) (hA : ArrAt w g T l) (n : Nat) (e : TypeId) (hu : P.underlying ty = some (.array n e)) (hi : (P.info? ty).map (·.size) = some l.length)
    (h : wpList P ops Q rest (a.put o.dst (aggV l)) w) : wpList P ops Q (o :: rest) a w :=
  wpList_load_row hgd ty x ho g hx T _ (0, 0) _ hA hu rfl (by rw [arr_size]; exact hi) h
theorem wpList_store_arr {P : Program} {ops : Array Oper} {rest : List Oper} {o : Oper} {a : Act} {w : World} {Q : Exit → Act → World → Prop} (hgd : o.guard = none) (ty : TypeId) (x y : Operand) (ho : o.op = .store ty x y)
    (g : Nat) (l l0 : List Nat) (hx : a.eval x = .pointer (some ⟨g, 0, none⟩)) (hy : a.eval y = aggV l) (T : TypeId) (hA : ArrAt w g T l0) (hi : (P.info? ty).map (·.size) = some l.length) (hl : l0.length = l.length)
    (h : wpList P ops Q rest (a.put o.dst undef) (w.setRow g (l.map u32v).toArray)) : wpList P ops Q (o :: rest) a w :=
  wpList_store_row hgd ty x y ho g _ hx hy T _ hA (by rw [arr_size]; exact hi) (by rw [arr_size, arr_size]; exact hl) (arr_one l) h
theorem wpList_store_arr_as {P : Program} {ops : Array Oper} {rest : List Oper} {o : Oper} {a : Act} {w : World} {Q : Exit → Act → World → Prop} (hgd : o.guard = none) (ty : TypeId) (x y : Operand) (ho : o.op = .store ty x y)
    (g : Nat) (l l0 : List Nat) (hx : a.eval x = .pointer (some ⟨g, 0, none⟩)) (hy : a.eval y = aggV l) (T : TypeId) (hA : ArrAt w g T l0) (hi : (P.info? ty).map (·.size) = some l.length) (hl : l0.length = l.length)
    (h : ∀ w', ArrAt w' g T l → (∀ k T' l', k ≠ g → ArrAt w k T' l' → ArrAt w' k T' l') → Below g w w' → wpList P ops Q rest (a.put o.dst undef) w') : wpList P ops Q (o :: rest) a w :=
  wpList_store_arr hgd ty x y ho g l l0 hx hy T hA hi hl (h _ (hA.setRow l) (fun _ _ _ hk hA' => hA'.setRow_other _ hk) (Go.below_setRow (Below.refl _ _) (Nat.le_refl _) _))
theorem wpList_build_arr {P : Program} {ops : Array Oper} {rest : List Oper} {o : Oper} {a : Act} {w : World} {Q : Exit → Act → World → Prop} (hg : o.guard = none) (t : TypeId) (parts : Array (Nat × Operand)) (ho : o.op = .build t parts) (l : List Nat)
    (hb : P.built t (parts.map fun (i, x) => (i, a.eval x)).toList = some (l.map u32v).toArray)
    (h : wpList P ops Q rest (a.put o.dst (aggV l)) w) : wpList P ops Q (o :: rest) a w :=
  wpList_build hg t parts ho (by rw [hb]; rfl) (by rw [hb]; exact h)
theorem results_arr {P : Program} {fn : Func} {p : Tmp} {ty : TypeId} (h : fn.results = #[.cell p ty]) (tmps : Array Value) (w : World) (g : Nat) (T : TypeId) (l : List Nat) (n : Nat) (e : TypeId)
    (hp : tmps.getD p undef = .pointer (some ⟨g, 0, none⟩)) (hA : ArrAt w g T l) (hu : P.underlying ty = some (.array n e)) (hi : (P.info? ty).map (·.size) = some l.length) :
    (results fn tmps).run P w = .ok (aggV l) w :=
  results_cell_row h tmps w g T _ (0, 0) _ hp hA hu rfl (by rw [arr_size]; exact hi)
end Go.Proofs.Ytecbpplocokedaa
