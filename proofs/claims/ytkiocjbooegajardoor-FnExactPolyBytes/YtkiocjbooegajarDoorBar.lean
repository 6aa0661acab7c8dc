/- Laws of no program: a block that holds a row of bytes, and a text copied into it. -/
import Derived.Test.YtkiocjbooegajarDoorStrs
import Derived.Laws.Rows
import Derived.Laws.Tables
import Derived.Laws.CopyRow
import Derived.Laws.MakeOwn
import Derived.Laws.CopyOwn
namespace Go.Proofs.YtkiocjbooegajarDoor
open Go.RowKit
def RB (w : World) (g : Nat) (T : TypeId) (l : List UInt8) : Prop := w.heap[g]? = some (.cells (l.map bv).toArray T (0, 0))
theorem RB.lt {w : World} {g : Nat} {T : TypeId} {l : List UInt8} (h : RB w g T l) : g < w.heap.size := by
  rcases Nat.lt_or_ge g w.heap.size with h1 | h1
  · exact h1
  · unfold RB at h
    rw [Array.getElem?_eq_none h1] at h; cases h
theorem RB.frozen {w : World} {g : Nat} {T : TypeId} {l : List UInt8} (h : RB w g T l) (k : Nat) : w.frozen? ⟨g, k, none⟩ = false := frozen_of_row w g k _ T h
theorem RB.cell {w : World} {g : Nat} {T : TypeId} {l : List UInt8} (h : RB w g T l) {k : Nat} {b : UInt8} (hk : l[k]? = some b) : w.cell? ⟨g, k, none⟩ = some (.int .u8 (b.toNat : Int)) := by
  rw [cell_of_row w g k _ T (0, 0) h]
  simp [hk, bv]
theorem RB.set {w : World} {g : Nat} {T : TypeId} {l : List UInt8} (h : RB w g T l) (k x : Nat) (hx : x < 256) : RB (w.setCell ⟨g, k, none⟩ (.int .u8 (x : Int))) g T (l.set k (byteOf x)) := by
  unfold RB at h ⊢
  rw [heap_setCell_same w g k _ T (.int .u8 (x : Int)) h, List.map_set]
  simp [bv, byteOf_toNat hx]
theorem RB.new (w : World) (T : TypeId) (l : List UInt8) : RB (w.alloc (.cells (l.map bv).toArray T)) w.heap.size T l := heap_alloc_new w _
theorem RB.own {w : World} {g base n : Nat} {T : TypeId} {l : List UInt8} (h : RB w g T l) (hl : l.length = n) (hb : base ≤ g) (hn : n ≤ maxLen) : OwnB w base T (.slice (some ⟨g, 0, none⟩) n n) l := by
  subst hl
  refine ⟨by simp, .inr ⟨g, l.length, _, rfl, hb, h, Nat.le_refl _, hn, by simp, by simp [List.take_of_length_le]⟩⟩
theorem made_zero (n : Nat) : madeCells #[Value.int .u8 0] n = ((List.replicate n (0 : UInt8)).map bv).toArray := by
  unfold madeCells
  apply Array.ext
  · simp
  · intro i h1 h2
    simp only [Array.getElem_map, List.getElem_toArray, List.getElem_map, List.getElem_replicate, bv]
    generalize (Array.range n)[i]'_ = k
    show (#[Value.int .u8 0] : Array Value)[k % 1]! = _
    rw [Nat.mod_one]
    rfl
theorem run_copy_rb {P : Program} (w : World) (dT sT ty elem : TypeId) (g n c : Nat) (cur : Array Value) (t : TypeId) (k : ByteArray)
    (hu : P.underlying dT = some (.slice elem)) (hs : (P.info? elem).map (·.size) = some 1)
    (hg : w.heap[g]? = some (.cells cur t (0, 0))) (hkn : k.size ≤ n) (hfit : n ≤ cur.size) :
    (Builtin.copy_ #[dT, sT] ty #[.slice (some ⟨g, 0, none⟩) n c, .string k]).run P w =
      .ok (goInt k.size) (w.setRow g (k.data.toList.map bv ++ cur.toList.drop k.size).toArray) := by
  have hl : (k.data.toList.map bv).length = k.size := by rw [List.length_map]; rfl
  have h1 : ∀ v ∈ k.data.toList.map bv, v.oneCell' = true := by
    intro v hv
    obtain ⟨x, _, rfl⟩ := List.mem_map.1 hv
    rfl
  have hst := run_storeCells_at P g 0 t (k.data.toList.map bv) 0 cur w hg (by rw [hl]; omega) h1
  rw [hl, Nat.zero_add, List.take_zero, List.nil_append, Nat.zero_add] at hst
  have hm : Nat.min k.size n = k.size := Nat.min_eq_left hkn
  cases hq : P.info? elem with
  | none => simp [hq] at hs
  | some i =>
    have hx' : List.map (fun b : UInt8 => Value.int .u8 (b.toNat : Int)) k.data.toList = k.data.toList.map bv := rfl
    simp [Builtin.copy_, run_underlying hu, Builtin.lenOf, Builtin.firstCells, sizeOf, typeInfo, hq, hm, hx']
    rw [List.take_of_length_le (Nat.le_of_eq hl), hst]
    rfl
theorem wpList_copy_rb {P : Program} {w : World} {ops : Array Oper} {rest : List Oper} {o : Oper} {a : Act} {Q : Exit → Act → World → Prop} (hgd : o.guard = none) (d s : Operand) (dT sT : TypeId)
    (ho : o.op = .call { callee := .builtin .copy, args := #[d, s], argTypes := #[dT, sT] }) (elem : TypeId) (hu : P.underlying dT = some (.slice elem)) (hs : (P.info? elem).map (·.size) = some 1)
    (g n c : Nat) (l : List UInt8) (t : TypeId) (hA : RB w g t l) (k : ByteArray) (hd : a.eval d = .slice (some ⟨g, 0, none⟩) n c) (hk : a.eval s = .string k) (hkn : k.size ≤ n) (hl : l.length = n)
    (h : ∀ w', RB w' g t (k.data.toList ++ l.drop k.size) → Below g w w' → wpList P ops Q rest (a.put o.dst (goInt k.size)) w') : wpList P ops Q (o :: rest) a w := by
  refine wpList_plain hgd fun K hK => ?_
  have hr := run_copy_rb (P := P) w dT sT o.type elem g n c (l.map bv).toArray t k hu hs hA hkn (by simp; omega)
  have e : (k.data.toList.map bv ++ (l.map bv).toArray.toList.drop k.size) = (k.data.toList ++ l.drop k.size).map bv := by
    simp [List.map_append, List.map_drop]
  rw [e] at hr
  unfold Oper.wp execOp
  simp only [ho, resolve, invoke, builtin, Sem.run_bind, Sem.run_pure, Result.andThen_ok, List.map_toArray, List.map_cons, List.map_nil, hd, hk]
  simp only [hr, Result.andThen_ok]
  exact hK _ _ (h _ (setRow_heap w g _ _ t (0, 0) hA) (Go.below_setRow (Below.refl _ _) (Nat.le_refl _) _))
/- the last block, filled -/
def fill3 (rest : ByteArray) (n f : Nat) : List UInt8 := (rest.data.toList ++ List.replicate (n - rest.size) (0 : UInt8)).set rest.size (byteOf f)
def fillL (rest : ByteArray) (n f : Nat) : List UInt8 := (fill3 rest n f).set (n - 1) (byteOf (((fill3 rest n f).getD (n - 1) 0).toNat ^^^ 128))
theorem fill3_len (rest : ByteArray) (n f : Nat) (h : rest.size ≤ n) : (fill3 rest n f).length = n := by
  unfold fill3
  have : rest.data.toList.length = rest.size := rfl
  simp only [List.length_set, List.length_append, List.length_replicate, this]
  omega
theorem fillL_len (rest : ByteArray) (n f : Nat) (h : rest.size ≤ n) : (fillL rest n f).length = n := by
  unfold fillL
  rw [List.length_set, fill3_len rest n f h]
def fillT (rest : ByteArray) (n f : Nat) : ByteArray := ⟨(fillL rest n f).toArray⟩
theorem fillT_size (rest : ByteArray) (n f : Nat) (h : rest.size ≤ n) : (fillT rest n f).size = n := by
  show (fillL rest n f).toArray.size = n
  simp [fillL_len rest n f h]
end Go.Proofs.YtkiocjbooegajarDoor
