/- Merged: Base, Strs, Cur, ArgCode, Files, Rows1. -/
import Derived.WalkKit
import Derived.WalkLawsBesides
import Derived.Laws.IdiomStrings
import Derived.Laws.BytesArg
import Derived.Deep.RegionLaw
import Derived.Test.YtjgnjjphankhnaaProg
import Derived.Test.YtjgnjjphankhnaaChecked
import Derived.Laws.BitsLemmas
import Derived.Deep.RegionHeld3
import Derived.Deep.QuietTactic
import Derived.BigQuiet
import Derived.Deep.Slices
import Derived.Deep.Strs
import Derived.ChangeSame
import Derived.OpenShut
import Derived.ShutString
import Derived.ProofKit
import Derived.Lib.SmallJoins
/- Laws of no program: a row of bytes that the call itself owns, read as a text; the bytes of a number as the document lays them. -/
namespace Go.Proofs.Ytjgnjjphankhnaa
open Go.RowKit

theorem hide {p : Prop} (h : p) : Hid p := h
theorem unhide {p : Prop} (h : Hid p) : p := h

/-- A byte as a cell. -/
def bv (b : UInt8) : Value := .int .u8 (b.toNat : Int)

/-- A number below 256 as a byte (a name that the walk does not open). -/
def byteOf (n : Nat) : UInt8 := UInt8.ofNat n
theorem byteOf_toNat {n : Nat} (h : n < 256) : (byteOf n).toNat = n := by unfold byteOf; simp; omega

/-- The slice value v is a row of the call's own (blocks from base on) that holds just the bytes l. -/
def OwnB (w : World) (base : Nat) (e : TypeId) (v : Value) (l : List UInt8) : Prop := w.ownsRow base e 1 v l.length (l.map bv)

theorem run_string_owned {P : Program} (w : World) (src dst e : TypeId) (base : Nat) (v : Value) (l : List UInt8)
    (hs : P.underlying src = some (.slice e)) (he : P.underlying e = some (.int .u8)) (hd : P.underlying dst = some .string)
    (hown' : OwnB w base e v l) : (convert src dst v).run P w = .ok (.string ⟨l.toArray⟩) w := by
  have hown : w.ownsRow base e 1 v l.length (l.map bv) := hown'
  rcases hown.2 with ⟨hv, hn⟩ | ⟨g, cap, cur, hv, _⟩
  · have : l = [] := by cases l with
      | nil => rfl
      | cons a t => simp at hn
    subst this; subst hv
    rw [run_convert_bytes_nil w src e hs he 0 0 dst hd]
    rfl
  · have hc := hown.cells (g := g) (by rw [hv]; rfl)
    subst hv
    exact run_convert_bytes_back w src dst e ⟨g, 0, none⟩ cap l hs he hd (fun j hj => by
      apply hc j
      simp [List.getElem?_eq_getElem hj, bv])

theorem OwnB.alloc {w : World} {base : Nat} {e : TypeId} {v : Value} {l : List UInt8} (h : OwnB w base e v l) (o : Obj) : OwnB (w.alloc o) base e v l := World.ownsRow.alloc h o
theorem OwnB.drew {w : World} {base : Nat} {e : TypeId} {v : Value} {l : List UInt8} (h : OwnB w base e v l) : OwnB w.drew base e v l := h
theorem OwnB.drewN {w : World} {base : Nat} {e : TypeId} {v : Value} {l : List UInt8} (n : Nat) (h : OwnB w base e v l) : OwnB (w.drewN n) base e v l := h

/-- 'out = append(out, b0, ..)' where out is a row of bytes of the call's own, and the new ones lie in a block: in ONE way. -/
theorem wp_append_bytes {P : Program} {W : World} {o : Oper} {a : Act} {K : Act → World → Prop} {Q : Exit → Act → World → Prop} (s x : Operand) (t : TypeId)
    (ho : o.op = .call { callee := .builtin .append, args := #[s, x], argTypes := #[t, t] })
    (base B : Nat) (e : TypeId) (i : TypeInfo) (ht : P.underlying t = some (.slice e)) (hi : P.info? e = some i) (hz : i.zero = some (.int .u8 0)) (hsize : i.size = 1) (hby : i.bytes = 1)
    (v : Value) (l : List UInt8) (hs : a.eval s = v) (hown' : OwnB W base e v l)
    (nb : Nat) (cs : Array Value) (hblk : W.heap[nb]? = some (.cells cs e (0, 0))) (news : List UInt8) (hcs : cs.toList = news.map bv) (m c : Nat) (hm : news.length = m) (hx : a.eval x = .slice (some ⟨nb, 0, none⟩) m c)
    (hlen : l.length + m ≤ 140737488355328) (hB : B ≤ base) (hbase : base ≤ W.heap.size) {w00 : World} (hbel : Below B w00 W)
    (h : ∀ v' w', OwnB w' base e v' (l ++ news) → Below B w00 w' → K (a.put o.dst v') w') : o.wp P a W K Q := by
  subst hm
  have hown : W.ownsRow base e 1 v l.length (l.map bv) := hown'
  have hcell : ∀ j u, (news.map bv)[j]? = some u → W.cell? ((⟨nb, 0, none⟩ : Addr).add j) = some u := by
    intro j u hu
    have hadd : (⟨nb, 0, none⟩ : Addr).add j = ⟨nb, j, none⟩ := by unfold Addr.add; split <;> simp_all
    rw [hadd, cell_of_row W nb j cs e (0, 0) hblk]
    rw [← hcs] at hu
    simpa using hu
  refine wp_append_own W s x t ho base e i (.int .u8 0) 1 1 ht hi hz hsize hby rfl (by decide) v l.length (l.map bv) hs hown
    ⟨nb, 0, none⟩ news.length c (news.map bv) hx (by simp) hcell (by intro u hu; simp only [List.mem_map] at hu; obtain ⟨b, _, rfl⟩ := hu; rfl) (by unfold maxLen; omega) (by omega) hbase ?_
  intro v' w' h1 h2 _
  refine h v' w' (by unfold OwnB; simpa using h1) ?_
  refine hbel.grown h2 (by omega) ?_
  intro k hk
  have := (hown.lt k hk).1
  omega

theorem wpList_append_bytes {P : Program} {w : World} {ops : Array Oper} {rest : List Oper} {o : Oper} {a : Act} {Q : Exit → Act → World → Prop} (hgd : o.guard = none) (s x : Operand) (t : TypeId)
    (ho : o.op = .call { callee := .builtin .append, args := #[s, x], argTypes := #[t, t] })
    (base B : Nat) (e : TypeId) (i : TypeInfo) (ht : P.underlying t = some (.slice e)) (hi : P.info? e = some i) (hz : i.zero = some (.int .u8 0)) (hsize : i.size = 1) (hby : i.bytes = 1)
    (v : Value) (l : List UInt8) (hs : a.eval s = v) (hown' : OwnB w base e v l)
    (cs : Array Value) (news : List UInt8) (hcs : cs.toList = news.map bv) (m c : Nat) (hm : news.length = m) (hx : a.eval x = .slice (some ⟨w.heap.size, 0, none⟩) m c)
    (hlen : l.length + m ≤ 140737488355328) (hB : B ≤ base) (hbase : base ≤ w.heap.size) {w00 : World} (hbel : Below B w00 w)
    (h : ∀ v' w', OwnB w' base e v' (l ++ news) → Below B w00 w' → wpList P ops Q rest (a.put o.dst v') w') :
    wpList P ops Q (o :: rest) a (w.alloc (.cells cs e)) :=
  wpList_plain hgd fun _ hK => wp_append_bytes s x t ho base B e i ht hi hz hsize hby v l hs (hown'.alloc _) w.heap.size cs (heap_alloc_new w _) news hcs m c hm hx hlen hB (by simp; omega) (hbel.alloc (by omega) _) fun v' w' h2 h3 => hK _ _ (h v' w' h2 h3)

/-- The same inside a region that draws its order. -/
theorem step_append_bytes {P : Program} {w W : World} {ops : Array Oper} {o : Oper} {a : Act} {K : Act → World → Prop} {Q : Exit → Act → World → Prop} {E : Prop} (hg : o.guard = none) (s x : Operand) (t : TypeId)
    (ho : o.op = .call { callee := .builtin .append, args := #[s, x], argTypes := #[t, t] })
    (base B : Nat) (e : TypeId) (i : TypeInfo) (ht : P.underlying t = some (.slice e)) (hi : P.info? e = some i) (hz : i.zero = some (.int .u8 0)) (hsize : i.size = 1) (hby : i.bytes = 1)
    (v : Value) (l : List UInt8) (hs : a.eval s = v) (hown' : OwnB w base e v l)
    (cs : Array Value) (news : List UInt8) (hcs : cs.toList = news.map bv) (m c : Nat) (hm : news.length = m) (hx : a.eval x = .slice (some ⟨w.heap.size, 0, none⟩) m c)
    (hW : W = (w.alloc (.cells cs e)).drew)
    (hlen : l.length + m ≤ 140737488355328) (hB : B ≤ base) (hbase : base ≤ w.heap.size) {w00 : World} (hbel : Below B w00 w)
    (h : ∀ v' w', OwnB w' base e v' (l ++ news) → Below B w00 w' → K (a.put o.dst v') w') :
    if Region.wanted o (yielded ops a.tmps) = true then Oper.wp P o a W K Q else E := by
  subst hW
  have hw : Region.wanted o (yielded ops a.tmps) = true := by simp [Region.wanted, hg]
  rw [if_pos hw]
  exact wp_append_bytes (W := (w.alloc (.cells cs e)).drew) s x t ho base B e i ht hi hz hsize hby v l hs ((hown'.alloc _).drew) w.heap.size cs (heap_alloc_new w _) news hcs m c hm hx hlen hB (by show base ≤ (w.alloc (.cells cs e)).heap.size; simp; omega) ((hbel.alloc (by omega) _).drew) h

/-- The bytes of a number: seven bits a byte, the lowest first (f: how many bytes may go on). -/
def varF : Nat → Nat → List UInt8
  | 0, n => [byteOf n]
  | f + 1, n => if n ≤ 127 then [byteOf n] else byteOf (n % 128 + 128) :: varF f (n / 128)
def varB (n : Nat) : List UInt8 := varF n n

theorem varF_more : ∀ (f g n : Nat), n ≤ f → n ≤ g → varF f n = varF g n := by
  intro f
  induction f with
  | zero =>
    intro g n h1 h2
    have : n = 0 := by omega
    subst this
    cases g with
    | zero => rfl
    | succ g => rfl
  | succ f ih =>
    intro g n h1 h2
    cases g with
    | zero =>
      have : n = 0 := by omega
      subst this
      rfl
    | succ g =>
      unfold varF
      by_cases h : n ≤ 127
      · rw [if_pos h, if_pos h]
      · rw [if_neg h, if_neg h, ih g (n / 128) (by omega) (by omega)]
theorem varB_small {n : Nat} (h : n ≤ 127) : varB n = [byteOf n] := by
  unfold varB
  cases n with
  | zero => rfl
  | succ n => unfold varF; rw [if_pos h]
theorem varB_big {n : Nat} (h : ¬ n ≤ 127) : varB n = byteOf (n % 128 + 128) :: varB (n / 128) := by
  unfold varB
  cases n with
  | zero => omega
  | succ n =>
    rw [varF, if_neg h, varF_more n ((n + 1) / 128) ((n + 1) / 128) (by omega) (Nat.le_refl _)]
theorem varB_len (n : Nat) : 1 ≤ (varB n).length ∧ (varB n).length ≤ n + 1 := by
  induction n using Nat.strongRecOn with
  | _ n ih =>
    by_cases h : n ≤ 127
    · rw [varB_small h]; simp
    · rw [varB_big h]
      have := ih (n / 128) (by omega)
      simp only [List.length_cons]
      omega
end Go.Proofs.Ytjgnjjphankhnaa

/- Laws of no program: a row of one-cell values that the call itself owns. -/
namespace Go.Proofs.Ytjgnjjphankhnaa
open Go.RowKit

/-- The slice value v is a row of the call's own (blocks from base on) that holds just the cells xs. -/
def OwnV (w : World) (base : Nat) (e : TypeId) (v : Value) (xs : List Value) : Prop := w.ownsRow base e 1 v xs.length xs

theorem OwnV.alloc {w : World} {base : Nat} {e : TypeId} {v : Value} {xs : List Value} (h : OwnV w base e v xs) (o : Obj) : OwnV (w.alloc o) base e v xs := World.ownsRow.alloc h o
theorem OwnV.drew {w : World} {base : Nat} {e : TypeId} {v : Value} {xs : List Value} (h : OwnV w base e v xs) : OwnV w.drew base e v xs := h
theorem OwnV.below {w w' : World} {base : Nat} {e : TypeId} {v : Value} {xs : List Value} (h : OwnV w base e v xs) (hb : Below w.heap.size w w') : OwnV w' base e v xs :=
  World.ownsRow.kept (row := none) h ⟨hb.os, hb.tape, hb.output, hb.size, fun k hk _ => hb.block k hk⟩ (by cases hv : v.ownBlock <;> simp)
theorem OwnV.below_at {w w' : World} {base B : Nat} {e : TypeId} {v : Value} {xs : List Value} (h : OwnV w base e v xs) (hb : Below B w w') (hB : ∀ g, v.ownBlock = some g → g < B) : OwnV w' base e v xs := by
  refine ⟨h.1, ?_⟩
  rcases h.2 with hn | ⟨g, cap, cur, rfl, hbg, hgg, rest⟩
  · exact .inl hn
  · refine .inr ⟨g, cap, cur, rfl, hbg, ?_, rest⟩
    rw [hb.block g (hB g rfl)]
    exact hgg
theorem OwnV.low {w : World} {base base' : Nat} {e : TypeId} {v : Value} {xs : List Value} (h : OwnV w base e v xs) (hb : base' ≤ base) : OwnV w base' e v xs := by
  refine ⟨h.1, ?_⟩
  rcases h.2 with hn | ⟨g, cap, cur, rfl, hbg, rest⟩
  · exact .inl hn
  · exact .inr ⟨g, cap, cur, rfl, by omega, rest⟩
theorem OwnV.lt {w : World} {base : Nat} {e : TypeId} {v : Value} {xs : List Value} (h : OwnV w base e v xs) : ∀ g, v.ownBlock = some g → base ≤ g ∧ g < w.heap.size := World.ownsRow.lt h
theorem OwnV.shape {w : World} {base : Nat} {e : TypeId} {v : Value} {xs : List Value} (h : OwnV w base e v xs) : ∃ a c, v = .slice a xs.length c := by
  rcases h.2 with ⟨h1, h2⟩ | ⟨g, cap, cur, h1, _⟩
  · exact ⟨none, 0, by rw [h1, h2]⟩
  · exact ⟨_, cap, h1⟩
theorem OwnV.cell {w : World} {base g n c : Nat} {e : TypeId} {xs : List Value} (h : OwnV w base e (.slice (some ⟨g, 0, none⟩) n c) xs) {k : Nat} {u : Value} (hk : xs[k]? = some u) : w.cell? ⟨g, k, none⟩ = some u := by
  have := World.ownsRow.cells h (g := g) rfl k u hk
  have hadd : (⟨g, 0, none⟩ : Addr).add k = ⟨g, k, none⟩ := by unfold Addr.add; split <;> simp_all
  rw [hadd] at this
  exact this
theorem OwnV.row {w : World} {base g n c : Nat} {e : TypeId} {xs : List Value} (h : OwnV w base e (.slice (some ⟨g, 0, none⟩) n c) xs) : ∃ cur, w.heap[g]? = some (.cells cur e (0, 0)) := by
  rcases h.2 with ⟨h1, _⟩ | ⟨g', cap, cur, h1, _, h2, _⟩
  · cases h1
  · simp only [Value.slice.injEq, Option.some.injEq, Addr.mk.injEq] at h1
    obtain ⟨⟨rfl, _⟩, _⟩ := h1
    exact ⟨cur, h2⟩
theorem OwnV.frozen {w : World} {base g n c : Nat} {e : TypeId} {xs : List Value} (h : OwnV w base e (.slice (some ⟨g, 0, none⟩) n c) xs) (k : Nat) : w.frozen? ⟨g, k, none⟩ = false := by
  obtain ⟨cur, hc⟩ := h.row
  exact frozen_of_row w g k cur e hc
theorem OwnV.set {w : World} {base g n c : Nat} {e : TypeId} {xs : List Value} (h : OwnV w base e (.slice (some ⟨g, 0, none⟩) n c) xs) (k : Nat) (u : Value) : OwnV (w.setCell ⟨g, k, none⟩ u) base e (.slice (some ⟨g, 0, none⟩) n c) (xs.set k u) := by
  refine ⟨by rw [Nat.mul_one], ?_⟩
  rcases h.2 with ⟨h1, _⟩ | ⟨g', cap, cur, h1, hb, h2, h3, h4, h5, h6⟩
  · cases h1
  · simp only [Value.slice.injEq, Option.some.injEq, Addr.mk.injEq] at h1
    obtain ⟨⟨rfl, _⟩, rfl, rfl⟩ := h1
    refine .inr ⟨g, c, cur.setIfInBounds k u, by rw [List.length_set], hb, heap_setCell_same w g k cur e u h2, by rw [List.length_set]; exact h3, h4, by rw [Array.size_setIfInBounds]; exact h5, ?_⟩
    rw [List.length_set, Array.toList_setIfInBounds, List.take_set, h6]
theorem OwnV.nil (w : World) (base : Nat) (e : TypeId) : OwnV w base e (.slice none 0 0) [] := World.ownsRow_nil w base e 1

theorem wp_append_vals {P : Program} {W : World} {o : Oper} {a : Act} {K : Act → World → Prop} {Q : Exit → Act → World → Prop} (s x : Operand) (t : TypeId)
    (ho : o.op = .call { callee := .builtin .append, args := #[s, x], argTypes := #[t, t] })
    (base B : Nat) (e : TypeId) (i : TypeInfo) (z : Value) (nb : Nat) (ht : P.underlying t = some (.slice e)) (hi : P.info? e = some i) (hz : i.zero = some z) (hsize : i.size = 1) (hby : i.bytes = nb) (hzs : z.cells.size = 1)
    (v : Value) (xs : List Value) (hs : a.eval s = v) (hown : OwnV W base e v xs)
    (blk : Nat) (cs : Array Value) (hblk : W.heap[blk]? = some (.cells cs e (0, 0))) (news : List Value) (hcs : cs.toList = news) (h1 : ∀ u ∈ news, u.oneCell' = true) (m c : Nat) (hm : news.length = m) (hx : a.eval x = .slice (some ⟨blk, 0, none⟩) m c)
    (h63 : xs.length + m ≤ maxLen) (hbytes : (xs.length + m) * nb ≤ 140737488355328) (hB : B ≤ base) (hbase : base ≤ W.heap.size) {w00 : World} (hbel : Below B w00 W)
    (h : ∀ v' w', OwnV w' base e v' (xs ++ news) → Below B w00 w' → K (a.put o.dst v') w') : o.wp P a W K Q := by
  subst hm
  have hcell : ∀ j u, news[j]? = some u → W.cell? ((⟨blk, 0, none⟩ : Addr).add j) = some u := by
    intro j u hu
    have hadd : (⟨blk, 0, none⟩ : Addr).add j = ⟨blk, j, none⟩ := by unfold Addr.add; split <;> simp_all
    rw [hadd, cell_of_row W blk j cs e (0, 0) hblk]
    rw [← hcs] at hu
    simpa using hu
  refine wp_append_own W s x t ho base e i z 1 nb ht hi hz hsize hby hzs (by decide) v xs.length xs hs hown
    ⟨blk, 0, none⟩ news.length c news hx (by simp) hcell h1 h63 hbytes hbase ?_
  intro v' w' h2 h3 _
  refine h v' w' (by unfold OwnV; simpa using h2) ?_
  refine hbel.grown h3 (by omega) ?_
  intro k hk
  have := (hown.lt k hk).1
  omega

theorem wpList_append_vals {P : Program} {w : World} {ops : Array Oper} {rest : List Oper} {o : Oper} {a : Act} {Q : Exit → Act → World → Prop} (hgd : o.guard = none) (s x : Operand) (t : TypeId)
    (ho : o.op = .call { callee := .builtin .append, args := #[s, x], argTypes := #[t, t] })
    (base B : Nat) (e : TypeId) (i : TypeInfo) (z : Value) (nb : Nat) (ht : P.underlying t = some (.slice e)) (hi : P.info? e = some i) (hz : i.zero = some z) (hsize : i.size = 1) (hby : i.bytes = nb) (hzs : z.cells.size = 1)
    (v : Value) (xs : List Value) (hs : a.eval s = v) (hown : OwnV w base e v xs)
    (cs : Array Value) (news : List Value) (hcs : cs.toList = news) (h1 : ∀ u ∈ news, u.oneCell' = true) (m c : Nat) (hm : news.length = m) (hx : a.eval x = .slice (some ⟨w.heap.size, 0, none⟩) m c)
    (h63 : xs.length + m ≤ maxLen) (hbytes : (xs.length + m) * nb ≤ 140737488355328) (hB : B ≤ base) (hbase : base ≤ w.heap.size) {w00 : World} (hbel : Below B w00 w)
    (h : ∀ v' w', OwnV w' base e v' (xs ++ news) → Below B w00 w' → wpList P ops Q rest (a.put o.dst v') w') :
    wpList P ops Q (o :: rest) a (w.alloc (.cells cs e)) :=
  wpList_plain hgd fun _ hK => wp_append_vals s x t ho base B e i z nb ht hi hz hsize hby hzs v xs hs (hown.alloc _) w.heap.size cs (heap_alloc_new w _) news hcs h1 m c hm hx h63 hbytes hB (by simp; omega) (hbel.alloc (by omega) _) fun v' w' h2 h3 => hK _ _ (h v' w' h2 h3)
end Go.Proofs.Ytjgnjjphankhnaa

/- The cursor that the draws go by: a struct of the call's own that holds the code, a place in it and a number; what the draws of a byte, of a number and of a text come to. -/
namespace Go.Proofs.Ytjgnjjphankhnaa
open Go.RowKit

theorem and255 (y : Int) : ∃ x : Nat, x < 256 ∧ bits .and .i64 y 255 = (x : Int) := by
  refine ⟨(BitVec.ofInt 64 y &&& BitVec.ofInt 64 255).toNat, ?_, ?_⟩
  · rw [BitVec.toNat_and]
    exact Nat.lt_of_le_of_lt Nat.and_le_right (by decide)
  · have h : (BitVec.ofInt 64 y &&& BitVec.ofInt 64 255).toNat < 256 := by
      rw [BitVec.toNat_and]
      exact Nat.lt_of_le_of_lt Nat.and_le_right (by decide)
    show IntKind.i64.wrap (((BitVec.ofInt 64 y &&& BitVec.ofInt 64 255).toNat : Nat) : Int) = _
    rw [IntKind.wrap_i64]
    omega

theorem and30 (y : Int) : ∃ x : Nat, x ≤ 1073741823 ∧ bits .and .i64 y 1073741823 = (x : Int) := by
  have h : (BitVec.ofInt 64 y &&& BitVec.ofInt 64 1073741823).toNat ≤ 1073741823 := by
    rw [BitVec.toNat_and]
    exact Nat.le_trans Nat.and_le_right (by decide)
  refine ⟨_, h, ?_⟩
  show IntKind.i64.wrap (((BitVec.ofInt 64 y &&& BitVec.ofInt 64 1073741823).toNat : Nat) : Int) = _
  rw [IntKind.wrap_i64]
  omega

/-- The bytes that the code holds. -/
def Src (w : World) (base : Nat) (o : Option Addr) (n : Nat) : Prop :=
  ∀ j, j < n → ∃ (b off z : Nat), o = some ⟨b, off, none⟩ ∧ b < base ∧ z < 256 ∧ w.cell? ⟨b, off + j, none⟩ = some (.int .u8 (z : Int))
theorem Src.below {w w' : World} {base B n : Nat} {o : Option Addr} (h : Src w base o n) (hb : Below B w w') (hB : base ≤ B) : Src w' base o n := by
  intro j hj
  obtain ⟨b, off, z, h1, h2, h3, h4⟩ := h j hj
  exact ⟨b, off, z, h1, h2, h3, by rw [hb.cell (by show b < B; omega)]; exact h4⟩
theorem Src.up {w : World} {base B n : Nat} {o : Option Addr} (h : Src w base o n) (hB : base ≤ B) : Src w B o n := by
  intro j hj
  obtain ⟨b, off, z, h1, h2, h3, h4⟩ := h j hj
  exact ⟨b, off, z, h1, by omega, h3, h4⟩

/-- A cursor in block g (of the call's own, from base on) over the code. -/
structure Cur (w : World) (base g : Nat) (o : Option Addr) (n c : Nat) : Prop where
  lo : base ≤ g
  blk : ∃ i h : Int, 0 ≤ i ∧ w.heap[g]? = some (.cells #[.slice o n c, .int .i64 i, .int .i64 h] 76 (0, 0))
  src : Src w base o n

theorem Cur.lt {w : World} {base g n c : Nat} {o : Option Addr} (h : Cur w base g o n c) : g < w.heap.size := by
  obtain ⟨i, k, _, hh⟩ := h.blk
  exact (Array.getElem?_eq_some_iff.1 hh).1
theorem Cur.below {w w' : World} {base B g n c : Nat} {o : Option Addr} (h : Cur w base g o n c) (hb : Below B w w') (hB : g < B) : Cur w' base g o n c := by
  obtain ⟨i, k, hi, hh⟩ := h.blk
  exact ⟨h.lo, ⟨i, k, hi, by rw [hb.block g hB]; exact hh⟩, h.src.below hb (by have := h.lo; omega)⟩

/-- Nothing but block g has turned. -/
structure Only (g : Nat) (w w' : World) : Prop where
  os : w'.os = w.os
  tape : w'.tape = w.tape
  output : w'.output = w.output
  size : w'.heap.size = w.heap.size
  block : ∀ k, k ≠ g → w'.heap[k]? = w.heap[k]?
theorem Only.below {g base : Nat} {w w' : World} (h : Only g w w') (hb : base ≤ g) : Below base w w' := ⟨h.os, h.tape, h.output, by rw [h.size]; exact Nat.le_refl _, fun k hk => h.block k (by omega)⟩
theorem Only.refl (g : Nat) (w : World) : Only g w w := ⟨rfl, rfl, rfl, rfl, fun _ _ => rfl⟩
theorem Only.trans {g : Nat} {a b c : World} (h : Only g a b) (k : Only g b c) : Only g a c :=
  ⟨k.os.trans h.os, k.tape.trans h.tape, k.output.trans h.output, k.size.trans h.size, fun i hi => (k.block i hi).trans (h.block i hi)⟩
theorem Only.drewN {g : Nat} {a b : World} (h : Only g a b) (n : Nat) : Only g a (b.drewN n) := ⟨h.os, h.tape, h.output, h.size, h.block⟩
theorem Only.drew {g : Nat} {a b : World} (h : Only g a b) : Only g a b.drew := ⟨h.os, h.tape, h.output, h.size, h.block⟩
theorem Only.setCell {g : Nat} {a w : World} (h : Only g a w) (k : Nat) (u : Value) : Only g a (w.setCell ⟨g, k, none⟩ u) :=
  h.trans ⟨rfl, rfl, rfl, by simp [World.setCell], fun k hk => Below.heap_setCell _ _ _ _ (by simpa using hk)⟩
theorem OwnB.only {w w' : World} {base g : Nat} {e : TypeId} {v : Value} {l : List UInt8} (h : OwnB w base e v l) (ho : Only g w w') (hg : g < base) : OwnB w' base e v l := by
  refine ⟨h.1, ?_⟩
  rcases h.2 with hn | ⟨g', cap, cur, rfl, hbg, hgg, rest⟩
  · exact .inl hn
  · exact .inr ⟨g', cap, cur, rfl, hbg, by rw [ho.block g' (by omega)]; exact hgg, rest⟩
theorem OwnV.only {w w' : World} {base g : Nat} {e : TypeId} {v : Value} {xs : List Value} (h : OwnV w base e v xs) (ho : Only g w w') (hg : g < base) : OwnV w' base e v xs := by
  refine ⟨h.1, ?_⟩
  rcases h.2 with hn | ⟨g', cap, cur, rfl, hbg, hgg, rest⟩
  · exact .inl hn
  · exact .inr ⟨g', cap, cur, rfl, hbg, by rw [ho.block g' (by omega)]; exact hgg, rest⟩

theorem heap_set3 {w : World} {g : Nat} {a b c : Value} {T : TypeId} (h : w.heap[g]? = some (.cells #[a, b, c] T (0, 0))) (u : Value) :
    (w.setCell ⟨g, 2, none⟩ u).heap[g]? = some (.cells #[a, b, u] T (0, 0)) := heap_setCell_same w g 2 #[a, b, c] T u h
theorem heap_set2 {w : World} {g : Nat} {a b c : Value} {T : TypeId} (h : w.heap[g]? = some (.cells #[a, b, c] T (0, 0))) (u : Value) :
    (w.setCell ⟨g, 1, none⟩ u).heap[g]? = some (.cells #[a, u, c] T (0, 0)) := heap_setCell_same w g 1 #[a, b, c] T u h

set_option maxRecDepth 20000 in
set_option maxHeartbeats 400000 in
theorem l01Byte_end (w : World) (g n c : Nat) (o : Option Addr) (i h : Int) (hh : Hid (w.heap[g]? = some (.cells #[.slice o n c, .int .i64 i, .int .i64 h] 76 (0, 0)))) (hi0 : 0 ≤ i) (hi : ¬ i < (n : Int)) :
    Calls Try.prog 86 #[.pointer (some ⟨g, 0, none⟩)] w fun e w' => ∃ x : Nat, x < 256 ∧ e = .returned (.int .i64 (x : Int)) ∧ Only g w w' ∧ ∃ i h : Int, 0 ≤ i ∧ w'.heap[g]? = some (.cells #[.slice o n c, .int .i64 i, .int .i64 h] 76 (0, 0)) := by
  have hc0 : w.cell? ⟨g, 0, none⟩ = some (.slice o n c) := by rw [cell_of_row w g 0 _ _ (0, 0) (unhide hh)]; rfl
  have hc1 : w.cell? ⟨g, 1, none⟩ = some (.int .i64 i) := by rw [cell_of_row w g 1 _ _ (0, 0) (unhide hh)]; rfl
  have hc2 : w.cell? ⟨g, 2, none⟩ = some (.int .i64 h) := by rw [cell_of_row w g 2 _ _ (0, 0) (unhide hh)]; rfl
  have hf1 : w.frozen? ⟨g, 1, none⟩ = false := frozen_of_row w g 1 _ _ (unhide hh)
  have hf2 : w.frozen? ⟨g, 2, none⟩ = false := frozen_of_row w g 2 _ _ (unhide hh)
  obtain ⟨h1, e1⟩ : ∃ h1, wrap64 (wrap64 (h * 6364136223846793005) + 1442695040888963407) = h1 := ⟨_, rfl⟩
  obtain ⟨x, hx, e2⟩ := and255 (bits .xor .i64 (h1 / 8589934592) (h1 / 35184372088832))
  have HH := hide (heap_set3 (unhide hh) (.int .i64 h1))
  have hd : decide (i < (n : Int)) = false := by rw [decide_eq_false_iff_not]; exact hi
  go_enter Try.func86, Try.ntmps86
  go_wp2
  go_quiet (fail)
  go_wp2
  go_quiet (fail)
  go_wp2
  go_ret
  exact ⟨x, hx, rfl, (((Only.refl g w).setCell 2 _).drewN _).drewN _, i, h1, hi0, unhide HH⟩

set_option maxRecDepth 20000 in
set_option maxHeartbeats 400000 in
theorem l01Byte_more (w : World) (g n c : Nat) (b off z : Nat) (k : Nat) (h : Int) (hh : Hid (w.heap[g]? = some (.cells #[.slice (some ⟨b, off, none⟩) n c, .int .i64 (k : Int), .int .i64 h] 76 (0, 0)))) (hi : (k : Int) < (n : Int))
    (hn : n ≤ 1048576) (hz : z < 256) (hcell : w.cell? ⟨b, off + k, none⟩ = some (.int .u8 (z : Int))) (hbg : b ≠ g) :
    Calls Try.prog 86 #[.pointer (some ⟨g, 0, none⟩)] w fun e w' => ∃ x : Nat, x < 256 ∧ e = .returned (.int .i64 (x : Int)) ∧ Only g w w' ∧ ∃ i h : Int, 0 ≤ i ∧ w'.heap[g]? = some (.cells #[.slice (some ⟨b, off, none⟩) n c, .int .i64 i, .int .i64 h] 76 (0, 0)) := by
  have hc0 : w.cell? ⟨g, 0, none⟩ = some (.slice (some ⟨b, off, none⟩) n c) := by rw [cell_of_row w g 0 _ _ (0, 0) (unhide hh)]; rfl
  have hc1 : w.cell? ⟨g, 1, none⟩ = some (.int .i64 (k : Int)) := by rw [cell_of_row w g 1 _ _ (0, 0) (unhide hh)]; rfl
  have hc2 : w.cell? ⟨g, 2, none⟩ = some (.int .i64 h) := by rw [cell_of_row w g 2 _ _ (0, 0) (unhide hh)]; rfl
  have hf1 : w.frozen? ⟨g, 1, none⟩ = false := frozen_of_row w g 1 _ _ (unhide hh)
  have hf2 : w.frozen? ⟨g, 2, none⟩ = false := frozen_of_row w g 2 _ _ (unhide hh)
  obtain ⟨h1, e1⟩ : ∃ h1, wrap64 (wrap64 (h * 6364136223846793005) + 1442695040888963407) = h1 := ⟨_, rfl⟩
  obtain ⟨x, hx, e2⟩ := and255 (bits .xor .i64 (h1 / 8589934592) (h1 / 35184372088832))
  obtain ⟨x2, hx2, e3⟩ := and255 ((x : Int) + (z : Int))
  have HH := hide (heap_set2 (heap_set3 (unhide hh) (.int .i64 h1)) (.int .i64 ((k + 1 : Nat) : Int)))
  have hd : decide ((k : Int) < (n : Int)) = true := by rw [decide_eq_true_iff]; exact hi
  have hk0 : (0 : Int) ≤ (k : Int) := by omega
  go_enter Try.func86, Try.ntmps86
  go_wp2
  go_quiet (fail)
  go_wp2
  go_quiet (fail)
  go_wp2
  go_quiet (fail)
  go_wp2
  go_ret
  exact ⟨x2, hx2, rfl, (((Only.refl g w).setCell 2 _).drewN _).setCell 1 _, (k + 1 : Nat), h1, by omega, unhide HH⟩

/-- A drawn byte. -/
theorem l01Byte_any {w : World} {base g n c : Nat} {o : Option Addr} (h : Cur w base g o n c) (hn : n ≤ 1048576) :
    Calls Try.prog 86 #[.pointer (some ⟨g, 0, none⟩)] w fun e w' => ∃ x : Nat, x < 256 ∧ e = .returned (.int .i64 (x : Int)) ∧ Only g w w' ∧ Cur w' base g o n c := by
  obtain ⟨i, k, hi, hh⟩ := h.blk
  have fin : ∀ (e : Ending) (w' : World), (∃ x : Nat, x < 256 ∧ e = .returned (.int .i64 (x : Int)) ∧ Only g w w' ∧ ∃ i h : Int, 0 ≤ i ∧ w'.heap[g]? = some (.cells #[.slice o n c, .int .i64 i, .int .i64 h] 76 (0, 0))) →
      ∃ x : Nat, x < 256 ∧ e = .returned (.int .i64 (x : Int)) ∧ Only g w w' ∧ Cur w' base g o n c := by
    rintro e w' ⟨x, hx, he, ho, hb⟩
    exact ⟨x, hx, he, ho, ⟨h.lo, hb, h.src.below (ho.below h.lo) (Nat.le_refl _)⟩⟩
  by_cases hlt : i < (n : Int)
  · obtain ⟨j, rfl⟩ := Int.eq_ofNat_of_zero_le hi
    obtain ⟨b, off, z, rfl, hb, hz, hc⟩ := h.src j (by omega)
    exact (l01Byte_more w g n c b off z j k (hide hh) hlt hn hz hc (by have := h.lo; omega)).mono fin
  · exact (l01Byte_end w g n c o i k (hide hh) hi hlt).mono fin

set_option maxRecDepth 20000 in
set_option maxHeartbeats 400000 in
/-- A drawn number below m. -/
theorem l01Below_any {w : World} {base g n c : Nat} {o : Option Addr} (h : Cur w base g o n c) (hn : n ≤ 1048576) (m : Nat) (hm : 0 < m) (hm2 : m ≤ 4294967296) :
    Calls Try.prog 61 #[.pointer (some ⟨g, 0, none⟩), .int .i64 (m : Int)] w fun e w' => ∃ x : Nat, x < m ∧ e = .returned (.int .i64 (x : Int)) ∧ Only g w w' ∧ Cur w' base g o n c := by
  have H := hide h
  clear h
  have h0 : ¬ (m : Int) ≤ 0 := by omega
  by_cases h1 : (m : Int) ≤ 256
  · go_enter Try.func61, Try.ntmps61
    go_wp2_with (go_at_call 86; refine (l01Byte_any (unhide H) hn).mono ?_; rintro e w1 ⟨x, hx, rfl, ho, hc⟩; replace hc := hide hc)
    go_ret
    exact ⟨x % m, Nat.mod_lt _ hm, rfl, ho, unhide hc⟩
  · go_enter Try.func61, Try.ntmps61
    go_wp2_with fail
    go_at_call 86
    refine (l01Byte_any (unhide H) hn).mono ?_
    rintro e w1 ⟨x1, hx1, rfl, ho1, hc1⟩
    replace hc1 := hide hc1
    go_wp2_with fail
    go_at_call 86
    refine (l01Byte_any (unhide hc1) hn).mono ?_
    rintro e w2 ⟨x2, hx2, rfl, ho2, hc2⟩
    replace hc2 := hide hc2
    go_wp2_with fail
    go_at_call 86
    refine (l01Byte_any (unhide hc2) hn).mono ?_
    rintro e w3 ⟨x3, hx3, rfl, ho3, hc3⟩
    replace hc3 := hide hc3
    go_wp2_with fail
    go_at_call 86
    refine (l01Byte_any (unhide hc3) hn).mono ?_
    rintro e w4 ⟨x4, hx4, rfl, ho4, hc4⟩
    replace hc4 := hide hc4
    go_wp2
    go_ret
    exact ⟨(x1 * 16777216 + x2 * 65536 + x3 * 256 + x4) % m, Nat.mod_lt _ hm, rfl, ((ho1.trans ho2).trans ho3).trans ho4, unhide hc4⟩

theorem cs_at {b : UInt8} {v : Int} (h : (b.toNat : Int) = v) : (#[Value.int .u8 v] : Array Value).toList = [b].map bv := by subst h; rfl

theorem Try.infoBC : (Try.prog.info? 5).map (fun i => (i.zero, i.size, i.bytes)) = some (some (.int .u8 0), 1, 1) := by kernel_rfl

set_option maxRecDepth 20000 in
set_option maxHeartbeats 400000 in
/-- A drawn text of m bytes. -/
theorem l01Text_any {w : World} {base g n c : Nat} {o : Option Addr} (h : Cur w base g o n c) (hn : n ≤ 1048576) (m : Nat) (hm : m ≤ 5000) :
    Calls Try.prog 60 #[.pointer (some ⟨g, 0, none⟩), .int .i64 (m : Int)] w fun e w' => ∃ l : List UInt8, l.length = m ∧ e = .returned (.string ⟨l.toArray⟩) ∧ Below base w w' ∧ Cur w' base g o n c := by
  obtain ⟨i0, hi, hz0, hz1, hz2⟩ := info_parts Try.infoBC
  have H := hide h
  clear h
  have h0 : ¬ (5000 : Int) < (m : Int) := by omega
  go_enter Try.func60, Try.ntmps60
  go_wp2
  have hg := (unhide H).lt
  have hlo := (unhide H).lo
  go_loopw [5, 6] (fun v ti wr => ∃ (k : Nat) (pre : List UInt8), k ≤ m ∧ pre.length = k ∧ ti = .int .i64 (k : Int) ∧ OwnB wr w.heap.size 5 v pre ∧ Below base w wr ∧ Hid (Cur wr base g o n c))
    (fun _ ti _ => m - (intOf ti).toNat)
  case atStart => exact ⟨0, [], Nat.zero_le _, rfl, rfl, World.ownsRow_made w #[] 0 (Nat.le_refl _) (by decide) (by simp), (Below.refl base w).alloc (by omega) _, (unhide H).below ((Below.refl (g + 1) w).alloc (by omega) _) (by omega)⟩
  case round =>
    clear H h0
    obtain ⟨k, pre, hk, hpl, rfl, hown, hb, HC⟩ := hrel
    have hsz := hb.size
    by_cases hlt : k < m
    · go_wp2_with fail
      go_at_call 86
      refine (l01Byte_any (unhide HC) hn).mono ?_
      rintro e w1 ⟨x, hx, rfl, ho, hc1⟩
      have hown1 := hown.only ho hg
      have hb1 := hb.trans (ho.below hlo)
      have hsz1 := hb1.size
      replace hc1 := hide hc1
      replace ho := hide ho
      clear hown hb HC
      have hbx : ((byteOf x).toNat : Int) = (x : Int) := by rw [byteOf_toNat hx]
      go_wp2_with (at_builtin; refine wpList_append_bytes rfl (.tmp 15) (.tmp 19) 22 rfl w.heap.size w.heap.size 5 i0 Try.underlying22 hi hz0 hz1 hz2 _ pre rfl hown1 _ [byteOf x] (cs_at hbx) 1 1 rfl rfl (by omega) (Nat.le_refl _) hsz1 (Below.refl _ w1) ?_; intro v' w2 hown' hb2)
      have hc2 := hide ((unhide hc1).below hb2 hg)
      have hb' := hb1.trans (hb2.mono (show base ≤ w.heap.size by omega))
      clear hown1 hb1 hb2 hc1
      go_wp2
      go_roundw
      case rel => exact ⟨k + 1, pre ++ [byteOf x], by omega, by simp [hpl], by go_num, hown', hb', hc2⟩
      case measure => simp [intOf]; omega
    · have hke : k = m := by omega
      have hc := run_string_owned (P := Try.prog) wr 22 9 5 w.heap.size _ _ Try.underlying22 Try.underlying5 Try.underlying9 hown
      clear hown
      go_wp2
      go_ret
      exact ⟨pre, by omega, rfl, hb, unhide HC⟩

set_option maxRecDepth 20000 in
set_option maxHeartbeats 400000 in
/-- A new cursor over the code. -/
theorem l01New_any (w : World) (o : Option Addr) (n c : Nat) (hs : Src w w.heap.size o n) (hn : n ≤ 1048576) :
    Calls Try.prog 31 #[.slice o n c] w fun e w' => e = .returned (.pointer (some ⟨w.heap.size, 0, none⟩)) ∧ Below w.heap.size w w' ∧ Cur w' w.heap.size w.heap.size o n c := by
  have HS := hide hs
  clear hs
  go_enter Try.func31, Try.ntmps31
  go_wp2
  go_loop [3, 4] (fun th ti => ∃ h k : Nat, h ≤ 1073741823 ∧ k ≤ n ∧ th = .int .i64 (h : Int) ∧ ti = .int .i64 (k : Int)) (fun _ ti => n - (intOf ti).toNat)
  case atStart => exact ⟨27401 + n, 0, by omega, Nat.zero_le _, by simp, rfl⟩
  case round =>
    obtain ⟨h, k, hh, hk, rfl, rfl⟩ := hrel
    by_cases hlt : (k : Int) < (n : Int)
    · have hd : decide ((k : Int) < (n : Int)) = true := by rw [decide_eq_true_iff]; exact hlt
      by_cases hlt2 : (k : Int) < 4000
      · have hd2 : decide ((k : Int) < 4000) = true := by rw [decide_eq_true_iff]; exact hlt2
        obtain ⟨b, off, z, rfl, hb, hz, hcell⟩ := (unhide HS) k (by omega)
        obtain ⟨x, hx, e3⟩ := and30 ((h : Int) * 131 + (z : Int) + 7)
        have hk0 : (0 : Int) ≤ (k : Int) := by omega
        go_wp2
        go_round
        case rel => exact ⟨x, k + 1, by omega, by omega, rfl, by go_num⟩
        case measure => simp [intOf]; omega
      · have hd2 : decide ((k : Int) < 4000) = false := by rw [decide_eq_false_iff_not]; exact hlt2
        go_wp2
        go_ret
        exact ⟨rfl, (Below.refl _ _).alloc (Nat.le_refl _) _, Nat.le_refl _, ⟨0, h, by omega, heap_alloc_new w _⟩, (unhide HS).below ((Below.refl _ _).alloc (Nat.le_refl _) _) (Nat.le_refl _)⟩
    · have hd : decide ((k : Int) < (n : Int)) = false := by rw [decide_eq_false_iff_not]; exact hlt
      go_wp2
      go_ret
      exact ⟨rfl, (Below.refl _ _).alloc (Nat.le_refl _) _, Nat.le_refl _, ⟨0, h, by omega, heap_alloc_new w _⟩, (unhide HS).below ((Below.refl _ _).alloc (Nat.le_refl _) _) (Nat.le_refl _)⟩

end Go.Proofs.Ytjgnjjphankhnaa

/- A code that comes in as an argument, read as a row of bytes. -/
namespace Go.Proofs.Ytjgnjjphankhnaa
open Go.ChangeShapes Go.WideShapes Go.ChangeAt Go.RowKit Go.WideElems
set_option maxRecDepth 20000 in
theorem src_of {H : Type} {enc : TypeId × Value → H} {W : World} {o : Option Addr} {len cap : Nat} {d : DataW H} {ps : List MemPlace} (h0 : DataW.Trod enc Try.prog W 0 (fun _ => true) true 22 (.slice o len cap) d ps) (hlt : ∀ x ∈ ps, x.block < W.heap.size) :
    ∀ j, j < len → ∃ (b off z : Nat), o = some ⟨b, off, none⟩ ∧ b < W.heap.size ∧ z < 256 ∧ W.cell? ⟨b, off + j, none⟩ = some (.int .u8 (z : Int)) := by
  obtain ⟨fuel, hf⟩ := h0
  rcases open_ints Try.underlying22 Try.underlying5 (by kernel_rfl) hf with ⟨hcs, hx⟩ | ⟨a, len', cap', zs, hcs, _, hl, hm, hz, hx, hcell, hwz⟩
  · simp [Value.cells] at hcs
    obtain ⟨rfl, rfl, rfl⟩ := hcs
    intro j hj
    omega
  · simp [Value.cells] at hcs
    obtain ⟨rfl, rfl, rfl⟩ := hcs
    simp only [Prod.mk.injEq] at hx
    obtain ⟨rfl, rfl⟩ := hx
    simp only [if_true] at hz
    intro j hj
    have hpos : 0 < zs.length := by omega
    have hj' : j < zs.length := by omega
    obtain ⟨b, off, rfl, hc2⟩ := ints_at hcell hpos
    have hb : b < W.heap.size := hlt (.cell b off) (MemPlace.mem_row.2 ⟨0, hpos, by simp⟩)
    have hget : zs.getD j 0 = zs[j] := by simp [List.getD, List.getElem?_eq_getElem hj']
    have hw := bounds_u8 (hwz zs[j] (List.getElem_mem hj'))
    refine ⟨b, off, zs[j].toNat, rfl, hb, by omega, ?_⟩
    rw [hc2 j hj', hget, Int.toNat_of_nonneg hw.1]
end Go.Proofs.Ytjgnjjphankhnaa

/- Laws of no program: a file as three cells, a row of files that can be read, a row of files of the call's own. -/
namespace Go.Proofs.Ytjgnjjphankhnaa
open Go.RowKit

theorem bcell {W w1 : World} (hb : Below W.heap.size W w1) : (∀ b o, b < W.heap.size → w1.cell? ⟨b, o, none⟩ = W.cell? ⟨b, o, none⟩) ∧ (∀ b o, b < W.heap.size → w1.frozen? ⟨b, o, none⟩ = W.frozen? ⟨b, o, none⟩) :=
  ⟨fun b o h => hb.cell (p := ⟨b, o, none⟩) h, fun b o h => hb.frozen (p := ⟨b, o, none⟩) h⟩

theorem bDN {B : Nat} {w w' : World} (h : Below B w w') (n : Nat) : Below B w (w'.drewN n) := ⟨h.os, h.tape, h.output, h.size, h.block⟩
theorem bAD (w : World) (o : Obj) (n : Nat) : Below w.heap.size w ((w.alloc o).drewN n) := bDN ((Below.refl _ w).alloc (Nat.le_refl _) _) n
theorem bADT {w w1 : World} {o : Obj} {n : Nat} (h : Below ((w.alloc o).drewN n).heap.size ((w.alloc o).drewN n) w1) : Below w.heap.size w w1 := (bAD w o n).trans (h.mono (by show _ ≤ (w.alloc o).heap.size; simp))
theorem retB {a b : Bool} (h : b = a) : Ending.returned (.bool a) = .returned (.bool b) := by rw [h]

structure Fl where
  nm : ByteArray
  tx : ByteArray
  kp : Int

def flc (f : Fl) : List Value := [.string f.nm, .string f.tx, .int .i64 f.kp]
abbrev flv (f : Fl) : Value := .agg #[.string f.nm, .string f.tx, .int .i64 f.kp]

theorem gB {w w' : World} (hb : Below w.heap.size w w') (r : Option Nat) : w.grownBy w' r := ⟨hb.os, hb.tape, hb.output, hb.size, fun k hk _ => hb.block k hk⟩
theorem gS (w : World) (g o : Nat) (u : Value) : w.grownBy (w.setCell ⟨g, o, none⟩ u) (some g) := ⟨rfl, rfl, rfl, by simp, fun k _ hk => RowKit.Below.heap_setCell _ _ _ _ (fun e => hk (by rw [e]))⟩
theorem gT {a b c : World} {r : Option Nat} (h : a.grownBy b r) (k : b.grownBy c r) : a.grownBy c r :=
  ⟨k.os.trans h.os, k.tape.trans h.tape, k.output.trans h.output, Nat.le_trans h.size k.size, fun i hi hr => (k.block i (Nat.lt_of_lt_of_le hi h.size) hr).trans (h.block i hi hr)⟩
theorem gR (w : World) (r : Option Nat) : w.grownBy w r := ⟨rfl, rfl, rfl, Nat.le_refl _, fun _ _ _ => rfl⟩
theorem gBelow {w w' : World} {r : Option Nat} (h : w.grownBy w' r) {B : Nat} (hB : B ≤ w.heap.size) (hr : ∀ k, r = some k → B ≤ k) : Below B w w' := (Below.refl B w).grown h hB hr

/-- The three cells of a file stand at p. -/
def FlAt (w : World) (g o : Nat) (f : Fl) : Prop :=
  w.cell? ⟨g, o, none⟩ = some (.string f.nm) ∧ w.cell? ⟨g, o + 1, none⟩ = some (.string f.tx) ∧ w.cell? ⟨g, o + 2, none⟩ = some (.int .i64 f.kp)

/-- The slice value v is a row in which the files fs can be read. -/
def RdF (w : World) (v : Value) (fs : List Fl) : Prop :=
  (∃ a c, v = .slice a 0 c ∧ fs = []) ∨ ∃ g o c, v = .slice (some ⟨g, o, none⟩) fs.length c ∧ 0 < fs.length ∧ g < w.heap.size ∧ ∀ j f, fs[j]? = some f → FlAt w g (o + j * 3) f

theorem FlAt.below {w w' : World} {g o : Nat} {f : Fl} (h : FlAt w g o f) {B : Nat} (hb : Below B w w') (hg : g < B) : FlAt w' g o f :=
  ⟨(hb.cell (p := ⟨g, o, none⟩) hg).trans h.1, (hb.cell (p := ⟨g, o + 1, none⟩) hg).trans h.2.1, (hb.cell (p := ⟨g, o + 2, none⟩) hg).trans h.2.2⟩

theorem RdF.below_at {w w' : World} {v : Value} {fs : List Fl} (h : RdF w v fs) {B : Nat} (hb : Below B w w') (hB : ∀ g, v.ownBlock = some g → g < B) : RdF w' v fs := by
  rcases h with h | ⟨g, o, c, rfl, hn, hg, hc⟩
  · exact .inl h
  · exact .inr ⟨g, o, c, rfl, hn, Nat.lt_of_lt_of_le hg hb.size, fun j f hj => (hc j f hj).below hb (hB g rfl)⟩
theorem RdF.below {w w' : World} {v : Value} {fs : List Fl} (h : RdF w v fs) (hb : Below w.heap.size w w') : RdF w' v fs := by
  rcases h with h | ⟨g, o, c, rfl, hn, hg, hc⟩
  · exact .inl h
  · exact .inr ⟨g, o, c, rfl, hn, Nat.lt_of_lt_of_le hg hb.size, fun j f hj => (hc j f hj).below hb hg⟩
theorem RdF.alloc {w : World} {v : Value} {fs : List Fl} (h : RdF w v fs) (o : Obj) : RdF (w.alloc o) v fs := h.below ((Below.refl _ _).alloc (Nat.le_refl _) _)
theorem RdF.drew {w : World} {v : Value} {fs : List Fl} (h : RdF w v fs) : RdF w.drew v fs := h.below (Below.refl _ _).drew
theorem RdF.shape {w : World} {v : Value} {fs : List Fl} (h : RdF w v fs) : ∃ a c, v = .slice a fs.length c := by
  rcases h with ⟨a, c, rfl, rfl⟩ | ⟨g, o, c, rfl, _⟩
  · exact ⟨_, _, rfl⟩
  · exact ⟨_, _, rfl⟩

theorem RdF.open {w : World} {v : Value} {fs : List Fl} (h : RdF w v fs) : ∃ a c, v = .slice a fs.length c ∧ ∀ j f, fs[j]? = some f → ∃ g o, a = some ⟨g, o, none⟩ ∧ g < w.heap.size ∧ FlAt w g (o + j * 3) f := by
  rcases h with ⟨a, c, rfl, rfl⟩ | ⟨g, o, c, rfl, _, hg, hc⟩
  · exact ⟨a, c, rfl, fun j f hj => by simp at hj⟩
  · exact ⟨_, c, rfl, fun j f hj => ⟨g, o, rfl, hg, hc j f hj⟩⟩

/-- The slice value v is a row of files of the call's own (blocks from base on). -/
def OwnF (w : World) (base : Nat) (e : TypeId) (v : Value) (fs : List Fl) : Prop := w.ownsRow base e 3 v fs.length (fs.flatMap flc)

theorem flc_len (fs : List Fl) : (fs.flatMap flc).length = fs.length * 3 := by
  induction fs with
  | nil => rfl
  | cons f r ih => rw [List.flatMap_cons, List.length_append, ih]; simp only [flc, List.length_cons, List.length_nil]; omega
theorem flc_get (fs : List Fl) : ∀ (j : Nat) (f : Fl), fs[j]? = some f → (fs.flatMap flc)[j * 3]? = some (.string f.nm) ∧ (fs.flatMap flc)[j * 3 + 1]? = some (.string f.tx) ∧ (fs.flatMap flc)[j * 3 + 2]? = some (.int .i64 f.kp) := by
  induction fs with
  | nil => intro j f h; simp at h
  | cons x r ih =>
    intro j f h
    cases j with
    | zero =>
      simp only [List.getElem?_cons_zero, Option.some.injEq] at h
      subst h
      simp [flc]
    | succ j =>
      simp only [List.getElem?_cons_succ] at h
      obtain ⟨h1, h2, h3⟩ := ih j f h
      have e : (x :: r).flatMap flc = flc x ++ r.flatMap flc := rfl
      rw [e]
      have hl : (flc x).length = 3 := rfl
      refine ⟨?_, ?_, ?_⟩
      · rw [List.getElem?_append_right (by omega), hl, show (j + 1) * 3 - 3 = j * 3 by omega]; exact h1
      · rw [List.getElem?_append_right (by omega), hl, show (j + 1) * 3 + 1 - 3 = j * 3 + 1 by omega]; exact h2
      · rw [List.getElem?_append_right (by omega), hl, show (j + 1) * 3 + 2 - 3 = j * 3 + 2 by omega]; exact h3

theorem OwnF.below {w w' : World} {base : Nat} {e : TypeId} {v : Value} {fs : List Fl} (h : OwnF w base e v fs) (hb : Below w.heap.size w w') : OwnF w' base e v fs :=
  World.ownsRow.kept (row := none) h ⟨hb.os, hb.tape, hb.output, hb.size, fun k hk _ => hb.block k hk⟩ (by cases hv : v.ownBlock <;> simp)
theorem OwnF.below_at {w w' : World} {base B : Nat} {e : TypeId} {v : Value} {fs : List Fl} (h : OwnF w base e v fs) (hb : Below B w w') (hB : ∀ g, v.ownBlock = some g → g < B) : OwnF w' base e v fs := by
  refine ⟨h.1, ?_⟩
  rcases h.2 with hn | ⟨g, cap, cur, rfl, hbg, hgg, rest⟩
  · exact .inl hn
  · refine .inr ⟨g, cap, cur, rfl, hbg, ?_, rest⟩
    rw [hb.block g (hB g rfl)]
    exact hgg
theorem OwnF.grown {w w' : World} {base : Nat} {e : TypeId} {v : Value} {fs : List Fl} {r : Option Nat} (h : OwnF w base e v fs) (hg : w.grownBy w' r) (hne : ∀ k, v.ownBlock = some k → r ≠ some k) : OwnF w' base e v fs :=
  World.ownsRow.kept h hg (by cases hv : v.ownBlock with
    | none => exact .inl rfl
    | some k => exact .inr (fun e => hne k hv e.symm))
theorem OwnF.alloc {w : World} {base : Nat} {e : TypeId} {v : Value} {fs : List Fl} (h : OwnF w base e v fs) (o : Obj) : OwnF (w.alloc o) base e v fs := World.ownsRow.alloc h o
theorem OwnF.drew {w : World} {base : Nat} {e : TypeId} {v : Value} {fs : List Fl} (h : OwnF w base e v fs) : OwnF w.drew base e v fs := h
theorem OwnF.low {w : World} {base base' : Nat} {e : TypeId} {v : Value} {fs : List Fl} (h : OwnF w base e v fs) (hb : base' ≤ base) : OwnF w base' e v fs := by
  refine ⟨h.1, ?_⟩
  rcases h.2 with hn | ⟨g, cap, cur, rfl, hbg, rest⟩
  · exact .inl hn
  · exact .inr ⟨g, cap, cur, rfl, by omega, rest⟩
theorem OwnF.lt {w : World} {base : Nat} {e : TypeId} {v : Value} {fs : List Fl} (h : OwnF w base e v fs) : ∀ g, v.ownBlock = some g → base ≤ g ∧ g < w.heap.size := World.ownsRow.lt h
theorem OwnF.nil (w : World) (base : Nat) (e : TypeId) : OwnF w base e (.slice none 0 0) [] := World.ownsRow_nil w base e 3

theorem OwnF.rd {w : World} {base : Nat} {e : TypeId} {v : Value} {fs : List Fl} (h : OwnF w base e v fs) : RdF w v fs := by
  rcases h.2 with ⟨h1, h2⟩ | ⟨g, cap, cur, h1, hb, hg, _⟩
  · exact .inl ⟨none, 0, h1, List.eq_nil_of_length_eq_zero h2⟩
  · by_cases hz : fs.length = 0
    · exact .inl ⟨_, cap, by rw [h1, hz], List.eq_nil_of_length_eq_zero hz⟩
    · refine .inr ⟨g, 0, cap, h1, by omega, (Array.getElem?_eq_some_iff.1 hg).1, ?_⟩
      intro j f hj
      have hc := World.ownsRow.cells h (g := g) (by rw [h1]; rfl)
      have hadd : ∀ k, (⟨g, 0, none⟩ : Addr).add k = ⟨g, k, none⟩ := fun k => by unfold Addr.add; split <;> simp_all
      obtain ⟨e1, e2, e3⟩ := flc_get fs j f hj
      have c1 := hc _ _ e1
      have c2 := hc _ _ e2
      have c3 := hc _ _ e3
      rw [hadd] at c1 c2 c3
      exact ⟨by rw [Nat.zero_add]; exact c1, by rw [Nat.zero_add]; exact c2, by rw [Nat.zero_add]; exact c3⟩

theorem OwnF.other {w : World} {base : Nat} {e : TypeId} {v : Value} {fs : List Fl} (h : OwnF w base e v fs) {a : Addr} (ha : a.block < base) (u : Value) : OwnF (w.setCell a u) base e v fs := by
  refine ⟨h.1, ?_⟩
  rcases h.2 with hn | ⟨g, cap, cur, rfl, hbg, hgg, rest⟩
  · exact .inl hn
  · refine .inr ⟨g, cap, cur, rfl, hbg, ?_, rest⟩
    rw [RowKit.Below.heap_setCell _ _ _ _ (by omega)]
    exact hgg

/-- 'out = append(out, f)' on a row of files of the call's own. -/
theorem wp_append_file {P : Program} {W : World} {o : Oper} {a : Act} {K : Act → World → Prop} {Q : Exit → Act → World → Prop} (s x : Operand) (t : TypeId)
    (ho : o.op = .call { callee := .builtin .append, args := #[s, x], argTypes := #[t, t] })
    (base B : Nat) (e : TypeId) (i : TypeInfo) (z : Value) (nb : Nat) (ht : P.underlying t = some (.slice e)) (hi : P.info? e = some i) (hz : i.zero = some z) (hsize : i.size = 3) (hby : i.bytes = nb) (hzs : z.cells.size = 3)
    (v : Value) (fs : List Fl) (hs : a.eval s = v) (hown : OwnF W base e v fs)
    (blk : Nat) (cs : Array Value) (hblk : W.heap[blk]? = some (.cells cs e (0, 0))) (f : Fl) (hcs : cs.toList = flc f) (c : Nat) (hx : a.eval x = .slice (some ⟨blk, 0, none⟩) 1 c)
    (hlen : fs.length ≤ 2000000) (hnb : nb ≤ 1000) (hB : B ≤ base) (hbase : base ≤ W.heap.size) {w00 : World} (hbel : Below B w00 W)
    (h : ∀ v' w', OwnF w' base e v' (fs ++ [f]) → Below B w00 w' → K (a.put o.dst v') w') : o.wp P a W K Q := by
  have hcell : ∀ j u, (flc f)[j]? = some u → W.cell? ((⟨blk, 0, none⟩ : Addr).add j) = some u := by
    intro j u hu
    have hadd : (⟨blk, 0, none⟩ : Addr).add j = ⟨blk, j, none⟩ := by unfold Addr.add; split <;> simp_all
    rw [hadd, cell_of_row W blk j cs e (0, 0) hblk]
    rw [← hcs] at hu
    simpa using hu
  have hmul : (fs.length + 1) * nb ≤ 140737488355328 := Nat.le_trans (Nat.mul_le_mul (show fs.length + 1 ≤ 2000001 by omega) hnb) (by decide)
  refine wp_append_own W s x t ho base e i z 3 nb ht hi hz hsize hby hzs (by decide) v fs.length (fs.flatMap flc) hs hown
    ⟨blk, 0, none⟩ 1 c (flc f) hx rfl hcell (by intro u hu; simp only [flc, List.mem_cons, List.mem_nil_iff, or_false] at hu; rcases hu with rfl | rfl | rfl <;> rfl) (by unfold maxLen; omega) hmul hbase ?_
  intro v' w' h2 h3 _
  refine h v' w' (by unfold OwnF; rw [List.length_append, List.flatMap_append]; simpa using h2) ?_
  refine hbel.grown h3 (by omega) ?_
  intro k hk
  have := (World.ownsRow.lt hown k hk).1
  omega

theorem wpList_append_file {P : Program} {w : World} {ops : Array Oper} {rest : List Oper} {o : Oper} {a : Act} {Q : Exit → Act → World → Prop} (hgd : o.guard = none) (s x : Operand) (t : TypeId)
    (ho : o.op = .call { callee := .builtin .append, args := #[s, x], argTypes := #[t, t] })
    (base B : Nat) (e : TypeId) (i : TypeInfo) (z : Value) (nb : Nat) (ht : P.underlying t = some (.slice e)) (hi : P.info? e = some i) (hz : i.zero = some z) (hsize : i.size = 3) (hby : i.bytes = nb) (hzs : z.cells.size = 3)
    (v : Value) (fs : List Fl) (hs : a.eval s = v) (hown : OwnF w base e v fs)
    (cs : Array Value) (f : Fl) (hcs : cs.toList = flc f) (c : Nat) (hx : a.eval x = .slice (some ⟨w.heap.size, 0, none⟩) 1 c)
    (hlen : fs.length ≤ 2000000) (hnb : nb ≤ 1000) (hB : B ≤ base) (hbase : base ≤ w.heap.size) {w00 : World} (hbel : Below B w00 w)
    (h : ∀ v' w', OwnF w' base e v' (fs ++ [f]) → Below B w00 w' → wpList P ops Q rest (a.put o.dst v') w') :
    wpList P ops Q (o :: rest) a (w.alloc (.cells cs e)) :=
  wpList_plain hgd fun _ hK => wp_append_file s x t ho base B e i z nb ht hi hz hsize hby hzs v fs hs (hown.alloc _) w.heap.size cs (heap_alloc_new w _) f hcs c hx hlen hnb hB (by simp; omega) (hbel.alloc (by omega) _) fun v' w' h2 h3 => hK _ _ (h v' w' h2 h3)

theorem flc_set0 (s : ByteArray) : ∀ (fs : List Fl) (k : Nat) (f : Fl), fs[k]? = some f → (fs.flatMap flc).set (k * 3) (.string s) = (fs.set k { f with nm := s }).flatMap flc
  | [], k, f, h => by simp at h
  | x :: r, 0, f, h => by
    simp only [List.getElem?_cons_zero, Option.some.injEq] at h
    subst h; rfl
  | x :: r, k + 1, f, h => by
    have ih := flc_set0 s r k f (by simpa using h)
    rw [show (k + 1) * 3 = k * 3 + 1 + 1 + 1 by omega]
    show Value.string x.nm :: Value.string x.tx :: Value.int .i64 x.kp :: (r.flatMap flc).set (k * 3) (.string s) = _
    rw [ih]; rfl
theorem flc_set1 (s : ByteArray) : ∀ (fs : List Fl) (k : Nat) (f : Fl), fs[k]? = some f → (fs.flatMap flc).set (k * 3 + 1) (.string s) = (fs.set k { f with tx := s }).flatMap flc
  | [], k, f, h => by simp at h
  | x :: r, 0, f, h => by
    simp only [List.getElem?_cons_zero, Option.some.injEq] at h
    subst h; rfl
  | x :: r, k + 1, f, h => by
    have ih := flc_set1 s r k f (by simpa using h)
    rw [show (k + 1) * 3 + 1 = k * 3 + 1 + 1 + 1 + 1 by omega]
    show Value.string x.nm :: Value.string x.tx :: Value.int .i64 x.kp :: (r.flatMap flc).set (k * 3 + 1) (.string s) = _
    rw [ih]; rfl
theorem flc_set2 (s : Int) : ∀ (fs : List Fl) (k : Nat) (f : Fl), fs[k]? = some f → (fs.flatMap flc).set (k * 3 + 2) (.int .i64 s) = (fs.set k { f with kp := s }).flatMap flc
  | [], k, f, h => by simp at h
  | x :: r, 0, f, h => by
    simp only [List.getElem?_cons_zero, Option.some.injEq] at h
    subst h; rfl
  | x :: r, k + 1, f, h => by
    have ih := flc_set2 s r k f (by simpa using h)
    rw [show (k + 1) * 3 + 2 = k * 3 + 2 + 1 + 1 + 1 by omega]
    show Value.string x.nm :: Value.string x.tx :: Value.int .i64 x.kp :: (r.flatMap flc).set (k * 3 + 2) (.int .i64 s) = _
    rw [ih]; rfl

theorem ownsRow_set {w : World} {base g n c sz : Nat} {e : TypeId} {xs : List Value} (h : w.ownsRow base e sz (.slice (some ⟨g, 0, none⟩) n c) n xs) (k : Nat) (u : Value) :
    (w.setCell ⟨g, k, none⟩ u).ownsRow base e sz (.slice (some ⟨g, 0, none⟩) n c) n (xs.set k u) := by
  refine ⟨by rw [List.length_set]; exact h.1, ?_⟩
  rcases h.2 with ⟨h1, _⟩ | ⟨g', cap, cur, h1, hb, h2, h3, h4, h5, h6⟩
  · cases h1
  · simp only [Value.slice.injEq, Option.some.injEq, Addr.mk.injEq] at h1
    obtain ⟨⟨rfl, _⟩, _, rfl⟩ := h1
    refine .inr ⟨g, c, cur.setIfInBounds k u, rfl, hb, heap_setCell_same w g k cur e u h2, h3, h4, by rw [Array.size_setIfInBounds]; exact h5, ?_⟩
    rw [Array.toList_setIfInBounds, List.take_set, h6]
theorem OwnF.len {w : World} {base n : Nat} {a : Option Addr} {c : Nat} {e : TypeId} {fs : List Fl} (h : OwnF w base e (.slice a n c) fs) : fs.length = n := by
  rcases h.2 with ⟨h1, h2⟩ | ⟨g', cap, cur, h1, _⟩
  · simp only [Value.slice.injEq] at h1; omega
  · simp only [Value.slice.injEq] at h1; exact h1.2.1.symm
theorem OwnF.set0 {w : World} {base g n c : Nat} {e : TypeId} {fs : List Fl} (h : OwnF w base e (.slice (some ⟨g, 0, none⟩) n c) fs) {k : Nat} {f : Fl} (hk : fs[k]? = some f) (s : ByteArray) :
    OwnF (w.setCell ⟨g, k * 3, none⟩ (.string s)) base e (.slice (some ⟨g, 0, none⟩) n c) (fs.set k { f with nm := s }) := by
  have hl := h.len
  unfold OwnF at h ⊢
  rw [List.length_set, ← flc_set0 s fs k f hk]
  rw [hl] at h ⊢
  exact ownsRow_set h _ _
theorem OwnF.set1 {w : World} {base g n c : Nat} {e : TypeId} {fs : List Fl} (h : OwnF w base e (.slice (some ⟨g, 0, none⟩) n c) fs) {k : Nat} {f : Fl} (hk : fs[k]? = some f) (s : ByteArray) :
    OwnF (w.setCell ⟨g, k * 3 + 1, none⟩ (.string s)) base e (.slice (some ⟨g, 0, none⟩) n c) (fs.set k { f with tx := s }) := by
  have hl := h.len
  unfold OwnF at h ⊢
  rw [List.length_set, ← flc_set1 s fs k f hk]
  rw [hl] at h ⊢
  exact ownsRow_set h _ _
theorem OwnF.set2 {w : World} {base g n c : Nat} {e : TypeId} {fs : List Fl} (h : OwnF w base e (.slice (some ⟨g, 0, none⟩) n c) fs) {k : Nat} {f : Fl} (hk : fs[k]? = some f) (s : Int) :
    OwnF (w.setCell ⟨g, k * 3 + 2, none⟩ (.int .i64 s)) base e (.slice (some ⟨g, 0, none⟩) n c) (fs.set k { f with kp := s }) := by
  have hl := h.len
  unfold OwnF at h ⊢
  rw [List.length_set, ← flc_set2 s fs k f hk]
  rw [hl] at h ⊢
  exact ownsRow_set h _ _
theorem set_get {fs : List Fl} {k : Nat} {f : Fl} (h : fs[k]? = some f) (x : Fl) : (fs.set k x)[k]? = some x := by
  rw [List.getElem?_set]
  simp [(List.getElem?_eq_some_iff.1 h).1]
/-- The three cells of one file written. -/
theorem OwnF.set3 {w : World} {base g n c : Nat} {e : TypeId} {fs : List Fl} (h : OwnF w base e (.slice (some ⟨g, 0, none⟩) n c) fs) {k : Nat} (hk : k < n) (x : Fl) :
    OwnF (((w.setCell ⟨g, k * 3, none⟩ (.string x.nm)).setCell ⟨g, k * 3 + 1, none⟩ (.string x.tx)).setCell ⟨g, k * 3 + 2, none⟩ (.int .i64 x.kp)) base e (.slice (some ⟨g, 0, none⟩) n c) (fs.set k x) := by
  have hl := h.len
  have hf := List.getElem?_eq_getElem (show k < fs.length by omega)
  have h1 := h.set0 hf x.nm
  have h2 := h1.set1 (set_get hf _) x.tx
  have h3 := h2.set2 (set_get (set_get hf _) _) x.kp
  rw [List.set_set, List.set_set] at h3
  exact h3
theorem OwnF.rowf {w : World} {base g n c : Nat} {e : TypeId} {fs : List Fl} (h : OwnF w base e (.slice (some ⟨g, 0, none⟩) n c) fs) : ∃ cur, w.heap[g]? = some (.cells cur e (0, 0)) := by
  rcases h.2 with ⟨h1, _⟩ | ⟨g', cap, cur, h1, _, h2, _⟩
  · cases h1
  · simp only [Value.slice.injEq, Option.some.injEq, Addr.mk.injEq] at h1
    obtain ⟨⟨rfl, _⟩, _⟩ := h1
    exact ⟨cur, h2⟩
theorem OwnF.frozen {w : World} {base g n c : Nat} {e : TypeId} {fs : List Fl} (h : OwnF w base e (.slice (some ⟨g, 0, none⟩) n c) fs) (k : Nat) : w.frozen? ⟨g, k, none⟩ = false := by
  obtain ⟨cur, hc⟩ := h.rowf
  exact frozen_of_row w g k cur e hc
theorem OwnF.at {w : World} {base g n c : Nat} {e : TypeId} {fs : List Fl} (h : OwnF w base e (.slice (some ⟨g, 0, none⟩) n c) fs) {k : Nat} {f : Fl} (hf : fs[k]? = some f) : FlAt w g (k * 3) f := by
  have hc := World.ownsRow.cells h (g := g) rfl
  have hadd : ∀ k, (⟨g, 0, none⟩ : Addr).add k = ⟨g, k, none⟩ := fun k => by unfold Addr.add; split <;> simp_all
  obtain ⟨e1, e2, e3⟩ := flc_get fs k _ hf
  have c1 := hc _ _ e1
  have c2 := hc _ _ e2
  have c3 := hc _ _ e3
  rw [hadd] at c1 c2 c3
  exact ⟨c1, c2, c3⟩
theorem OwnF.cells3 {w : World} {base g n c : Nat} {e : TypeId} {fs : List Fl} (h : OwnF w base e (.slice (some ⟨g, 0, none⟩) n c) fs) {k : Nat} (hk : k < n) :
    ∃ f : Fl, fs[k]? = some f ∧ FlAt w g (k * 3) f := by
  have hl := h.len
  have hf := List.getElem?_eq_getElem (show k < fs.length by omega)
  exact ⟨_, hf, h.at hf⟩

def flz : Fl := ⟨ByteArray.empty, ByteArray.empty, 0⟩
theorem madeF (n : Nat) : (madeCells (flv flz).cells (n * 3)).toList = (List.replicate n flz).flatMap flc := by
  have hc : (flv flz).cells = #[.string ByteArray.empty, .string ByteArray.empty, .int .i64 0] := rfl
  rw [hc]
  unfold madeCells
  apply List.ext_getElem?
  intro j
  rw [Array.toList_map, Array.toList_range, List.getElem?_map]
  by_cases hj : j < n * 3
  · rw [List.getElem?_range hj]
    obtain ⟨q, r, rfl, hr⟩ : ∃ q r, j = q * 3 + r ∧ r < 3 := ⟨j / 3, j % 3, by omega, by omega⟩
    have hq : (List.replicate n flz)[q]? = some flz := by rw [List.getElem?_replicate, if_pos (by omega)]
    obtain ⟨e0, e1, e2⟩ := flc_get _ _ _ hq
    have hm : (q * 3 + r) % 3 = r := by omega
    show some (#[Value.string ByteArray.empty, .string ByteArray.empty, .int .i64 0][(q * 3 + r) % 3]!) = _
    rw [hm]
    have hr3 : r = 0 ∨ r = 1 ∨ r = 2 := by omega
    rcases hr3 with rfl | rfl | rfl
    · exact e0.symm
    · exact e1.symm
    · exact e2.symm
  · rw [List.getElem?_eq_none (by simp; omega), List.getElem?_eq_none (by rw [flc_len, List.length_replicate]; omega)]
    rfl
theorem OwnF.made {w : World} {base n : Nat} {e : TypeId} {g : Nat} (h : w.ownsRow base e 3 (.slice (some ⟨g, 0, none⟩) n n) n (madeCells (flv flz).cells (n * 3)).toList) :
    OwnF w base e (.slice (some ⟨g, 0, none⟩) n n) (List.replicate n flz) := by
  rw [madeF] at h
  unfold OwnF
  rw [List.length_replicate]
  exact h
theorem take_fill {fs : List Fl} {k n : Nat} {f : Fl} (hf : fs[k]? = some f) (hn : fs.length = n) :
    (fs.take k ++ List.replicate (n - k) flz).set k f = fs.take (k + 1) ++ List.replicate (n - (k + 1)) flz := by
  have hk : k < fs.length := (List.getElem?_eq_some_iff.1 hf).1
  have hl : (fs.take k).length = k := by rw [List.length_take]; omega
  rw [List.set_append_right _ _ (by omega), hl, Nat.sub_self, show n - k = (n - (k + 1)) + 1 by omega, List.replicate_succ, List.set_cons_zero, List.take_add_one, hf, List.append_assoc]
  rfl
end Go.Proofs.Ytjgnjjphankhnaa

/- Laws of no program: rows of one-cell values that can be read; one more file appended inside a region that draws. -/
namespace Go.Proofs.Ytjgnjjphankhnaa
open Go.RowKit

/-- The slice value v is a row in which the one-cell values xs can be read. -/
def RdV (w : World) (v : Value) (xs : List Value) : Prop :=
  (∃ a c, v = .slice a 0 c ∧ xs = []) ∨ ∃ g o c, v = .slice (some ⟨g, o, none⟩) xs.length c ∧ 0 < xs.length ∧ g < w.heap.size ∧ ∀ (j : Nat) (x : Value), xs[j]? = some x → w.cell? ⟨g, o + j, none⟩ = some x
theorem RdV.below {w w' : World} {v : Value} {xs : List Value} (h : RdV w v xs) (hb : Below w.heap.size w w') : RdV w' v xs := by
  rcases h with h | ⟨g, o, c, rfl, hn, hg, hc⟩
  · exact .inl h
  · exact .inr ⟨g, o, c, rfl, hn, Nat.lt_of_lt_of_le hg hb.size, fun j f hj => (hb.cell (p := ⟨g, o + j, none⟩) hg).trans (hc j f hj)⟩
theorem RdV.below_at {w w' : World} {v : Value} {xs : List Value} (h : RdV w v xs) {B : Nat} (hb : Below B w w') (hB : ∀ g, v.ownBlock = some g → g < B) : RdV w' v xs := by
  rcases h with h | ⟨g, o, c, rfl, hn, hg, hc⟩
  · exact .inl h
  · exact .inr ⟨g, o, c, rfl, hn, Nat.lt_of_lt_of_le hg hb.size, fun j f hj => (hb.cell (p := ⟨g, o + j, none⟩) (hB g rfl)).trans (hc j f hj)⟩
theorem RdV.alloc {w : World} {v : Value} {xs : List Value} (h : RdV w v xs) (o : Obj) : RdV (w.alloc o) v xs := h.below ((Below.refl _ _).alloc (Nat.le_refl _) _)
theorem RdV.drew {w : World} {v : Value} {xs : List Value} (h : RdV w v xs) : RdV w.drew v xs := h.below (Below.refl _ _).drew
theorem RdV.open {w : World} {v : Value} {xs : List Value} (h : RdV w v xs) : ∃ a c, v = .slice a xs.length c ∧ ∀ (j : Nat) (x : Value), xs[j]? = some x → ∃ g o, a = some ⟨g, o, none⟩ ∧ g < w.heap.size ∧ w.cell? ⟨g, o + j, none⟩ = some x := by
  rcases h with ⟨a, c, rfl, rfl⟩ | ⟨g, o, c, rfl, _, hg, hc⟩
  · exact ⟨a, c, rfl, fun j f hj => by simp at hj⟩
  · exact ⟨_, c, rfl, fun j f hj => ⟨g, o, rfl, hg, hc j f hj⟩⟩
theorem RdV.shape {w : World} {v : Value} {xs : List Value} (h : RdV w v xs) : ∃ a c, v = .slice a xs.length c := by
  obtain ⟨a, c, h, _⟩ := h.open
  exact ⟨a, c, h⟩
theorem OwnV.rdv {w : World} {base : Nat} {e : TypeId} {v : Value} {xs : List Value} (h : OwnV w base e v xs) : RdV w v xs := by
  rcases h.2 with ⟨h1, h2⟩ | ⟨g, cap, cur, h1, hb, hg, _⟩
  · exact .inl ⟨none, 0, h1, List.eq_nil_of_length_eq_zero h2⟩
  · by_cases hz : xs.length = 0
    · exact .inl ⟨_, cap, by rw [h1, hz], List.eq_nil_of_length_eq_zero hz⟩
    · subst h1
      exact .inr ⟨g, 0, cap, rfl, by omega, (Array.getElem?_eq_some_iff.1 hg).1, fun j x hj => by rw [Nat.zero_add]; exact h.cell hj⟩

theorem RdV.grown {w w' : World} {v : Value} {xs : List Value} {r : Option Nat} (h : RdV w v xs) (hg : w.grownBy w' r) (hne : ∀ k, v.ownBlock = some k → r ≠ some k) : RdV w' v xs := by
  rcases h with h | ⟨g, o, c, rfl, hn, hgl, hc⟩
  · exact .inl h
  · refine .inr ⟨g, o, c, rfl, hn, Nat.lt_of_lt_of_le hgl hg.size, fun j f hj => ?_⟩
    rw [← hc j f hj]
    unfold World.cell?
    rw [hg.block g hgl (fun e => hne g rfl e.symm)]
theorem RdF.grown {w w' : World} {v : Value} {fs : List Fl} {r : Option Nat} (h : RdF w v fs) (hg : w.grownBy w' r) (hne : ∀ k, v.ownBlock = some k → r ≠ some k) : RdF w' v fs := by
  rcases h with h | ⟨g, o, c, rfl, hn, hgl, hc⟩
  · exact .inl h
  · refine .inr ⟨g, o, c, rfl, hn, Nat.lt_of_lt_of_le hgl hg.size, fun j f hj => ?_⟩
    obtain ⟨e1, e2, e3⟩ := hc j f hj
    refine ⟨?_, ?_, ?_⟩
    · rw [← e1]; unfold World.cell?; rw [hg.block g hgl (fun e => hne g rfl e.symm)]
    · rw [← e2]; unfold World.cell?; rw [hg.block g hgl (fun e => hne g rfl e.symm)]
    · rw [← e3]; unfold World.cell?; rw [hg.block g hgl (fun e => hne g rfl e.symm)]
theorem OwnV.grown {w w' : World} {base : Nat} {e : TypeId} {v : Value} {xs : List Value} {r : Option Nat} (h : OwnV w base e v xs) (hg : w.grownBy w' r) (hne : ∀ k, v.ownBlock = some k → r ≠ some k) : OwnV w' base e v xs :=
  World.ownsRow.kept h hg (by cases hv : v.ownBlock with
    | none => exact .inl rfl
    | some k => exact .inr (fun e => hne k hv e.symm))

/-- A number as a cell. -/
def iv (z : Int) : Value := .int .i64 z

theorem OwnF.shaped {w : World} {base : Nat} {e : TypeId} {v : Value} {fs : List Fl} (h : OwnF w base e v fs) : ∃ a c, v = .slice a fs.length c := h.rd.shape

/-- 'out = append(out, f)' inside a region that draws its order, or outside one. -/
theorem wp_append_file' {P : Program} {W : World} {o : Oper} {a : Act} {K : Act → World → Prop} {Q : Exit → Act → World → Prop} (s x : Operand) (t : TypeId)
    (ho : o.op = .call { callee := .builtin .append, args := #[s, x], argTypes := #[t, t] })
    (base B : Nat) (e : TypeId) (i : TypeInfo) (z : Value) (nb : Nat) (ht : P.underlying t = some (.slice e)) (hi : P.info? e = some i) (hz : i.zero = some z) (hsize : i.size = 3) (hby : i.bytes = nb) (hzs : z.cells.size = 3)
    (v : Value) (fs : List Fl) (hs : a.eval s = v) (hown : OwnF W base e v fs)
    (blk : Nat) (cs : Array Value) (hblk : W.heap[blk]? = some (.cells cs e (0, 0))) (f : Fl) (hcs : cs.toList = flc f) (c : Nat) (hx : a.eval x = .slice (some ⟨blk, 0, none⟩) 1 c)
    (n : Nat) (hfn : fs.length = n) (hlen : n ≤ 2000000) (hnb : nb ≤ 1000) (hB : B ≤ base) (hbase : base ≤ W.heap.size) {w00 : World} (hbel : Below B w00 W)
    (h : ∀ a' c' w', OwnF w' base e (.slice a' (n + 1) c') (fs ++ [f]) → Below B w00 w' → (∀ k, k < W.heap.size → v.ownBlock ≠ some k → w'.heap[k]? = W.heap[k]?) → W.heap.size ≤ w'.heap.size → K (a.put o.dst (.slice a' (n + 1) c')) w') : o.wp P a W K Q := by
  subst hfn
  have hcell : ∀ j u, (flc f)[j]? = some u → W.cell? ((⟨blk, 0, none⟩ : Addr).add j) = some u := by
    intro j u hu
    have hadd : (⟨blk, 0, none⟩ : Addr).add j = ⟨blk, j, none⟩ := by unfold Addr.add; split <;> simp_all
    rw [hadd, cell_of_row W blk j cs e (0, 0) hblk]
    rw [← hcs] at hu
    simpa using hu
  have hmul : (fs.length + 1) * nb ≤ 140737488355328 := Nat.le_trans (Nat.mul_le_mul (show fs.length + 1 ≤ 2000001 by omega) hnb) (by decide)
  refine wp_append_own W s x t ho base e i z 3 nb ht hi hz hsize hby hzs (by decide) v fs.length (fs.flatMap flc) hs hown
    ⟨blk, 0, none⟩ 1 c (flc f) hx rfl hcell (by intro u hu; simp only [flc, List.mem_cons, List.mem_nil_iff, or_false] at hu; rcases hu with rfl | rfl | rfl <;> rfl) (by unfold maxLen; omega) hmul hbase ?_
  intro v' w' h2 h3 _
  have h2' : OwnF w' base e v' (fs ++ [f]) := by unfold OwnF; rw [List.length_append, List.flatMap_append]; simpa using h2
  obtain ⟨a', c', rfl⟩ := h2'.shaped
  rw [List.length_append] at h2' ⊢
  refine h a' c' w' h2' (hbel.grown h3 (by omega) ?_) (fun k hk hne => h3.block k hk (fun e => hne e.symm)) h3.size
  intro k hk
  have := (World.ownsRow.lt hown k hk).1
  omega

theorem wpList_append_file' {P : Program} {W : World} {ops : Array Oper} {rest : List Oper} {o : Oper} {a : Act} {Q : Exit → Act → World → Prop} (hgd : o.guard = none) (s x : Operand) (t : TypeId)
    (ho : o.op = .call { callee := .builtin .append, args := #[s, x], argTypes := #[t, t] })
    (base B : Nat) (e : TypeId) (i : TypeInfo) (z : Value) (nb : Nat) (ht : P.underlying t = some (.slice e)) (hi : P.info? e = some i) (hz : i.zero = some z) (hsize : i.size = 3) (hby : i.bytes = nb) (hzs : z.cells.size = 3)
    (v : Value) (fs : List Fl) (hs : a.eval s = v) (hown : OwnF W base e v fs)
    (blk : Nat) (cs : Array Value) (hblk : W.heap[blk]? = some (.cells cs e (0, 0))) (f : Fl) (hcs : cs.toList = flc f) (c : Nat) (hx : a.eval x = .slice (some ⟨blk, 0, none⟩) 1 c)
    (n : Nat) (hfn : fs.length = n) (hlen : n ≤ 2000000) (hnb : nb ≤ 1000) (hB : B ≤ base) (hbase : base ≤ W.heap.size) {w00 : World} (hbel : Below B w00 W)
    (h : ∀ a' c' w', OwnF w' base e (.slice a' (n + 1) c') (fs ++ [f]) → Below B w00 w' → (∀ k, k < W.heap.size → v.ownBlock ≠ some k → w'.heap[k]? = W.heap[k]?) → W.heap.size ≤ w'.heap.size → wpList P ops Q rest (a.put o.dst (.slice a' (n + 1) c')) w') :
    wpList P ops Q (o :: rest) a W :=
  wpList_plain hgd fun _ hK => wp_append_file' s x t ho base B e i z nb ht hi hz hsize hby hzs v fs hs hown blk cs hblk f hcs c hx n hfn hlen hnb hB hbase hbel fun a' c' w' h2 h3 h4 h5 => hK _ _ (h a' c' w' h2 h3 h4 h5)

theorem step_append_file {P : Program} {W : World} {ops : Array Oper} {o : Oper} {a : Act} {K : Act → World → Prop} {Q : Exit → Act → World → Prop} {E : Prop} (hg : o.guard = none) (s x : Operand) (t : TypeId)
    (ho : o.op = .call { callee := .builtin .append, args := #[s, x], argTypes := #[t, t] })
    (base B : Nat) (e : TypeId) (i : TypeInfo) (z : Value) (nb : Nat) (ht : P.underlying t = some (.slice e)) (hi : P.info? e = some i) (hz : i.zero = some z) (hsize : i.size = 3) (hby : i.bytes = nb) (hzs : z.cells.size = 3)
    (v : Value) (fs : List Fl) (hs : a.eval s = v) (hown : OwnF W base e v fs)
    (blk : Nat) (cs : Array Value) (hblk : W.heap[blk]? = some (.cells cs e (0, 0))) (f : Fl) (hcs : cs.toList = flc f) (c : Nat) (hx : a.eval x = .slice (some ⟨blk, 0, none⟩) 1 c)
    (n : Nat) (hfn : fs.length = n) (hlen : n ≤ 2000000) (hnb : nb ≤ 1000) (hB : B ≤ base) (hbase : base ≤ W.heap.size) {w00 : World} (hbel : Below B w00 W)
    (h : ∀ a' c' w', OwnF w' base e (.slice a' (n + 1) c') (fs ++ [f]) → Below B w00 w' → (∀ k, k < W.heap.size → v.ownBlock ≠ some k → w'.heap[k]? = W.heap[k]?) → W.heap.size ≤ w'.heap.size → K (a.put o.dst (.slice a' (n + 1) c')) w') :
    if Region.wanted o (yielded ops a.tmps) = true then Oper.wp P o a W K Q else E := by
  have hw : Region.wanted o (yielded ops a.tmps) = true := by simp [Region.wanted, hg]
  rw [if_pos hw]
  exact wp_append_file' s x t ho base B e i z nb ht hi hz hsize hby hzs v fs hs hown blk cs hblk f hcs c hx n hfn hlen hnb hB hbase hbel h

/-- A call of a Go function by its contract, inside a region that draws its order. -/
theorem step_call {P : Program} {W : World} {ops : Array Oper} {o : Oper} {a : Act} {K : Act → World → Prop} {Q : Exit → Act → World → Prop} {E : Prop} (hg : o.guard = none) {F : FuncId} {args : Array Value} {R : Ending → World → Prop}
    (C : Calls P F args W R) (hrun : (execOp a.eval o).run P W = .ok (.enter F args) W)
    (h : ∀ e w', R e w' → ∃ v, e = .returned v ∧ K (a.put o.dst v) w') :
    if Region.wanted o (yielded ops a.tmps) = true then Oper.wp P o a W K Q else E := by
  have hw : Region.wanted o (yielded ops a.tmps) = true := by simp [Region.wanted, hg]
  rw [if_pos hw]
  unfold Oper.wp
  rw [hrun, Oper.upon_enter]
  refine C.mono fun e w' hR => ?_
  obtain ⟨v, rfl, hK⟩ := h e w' hR
  exact hK
end Go.Proofs.Ytjgnjjphankhnaa

