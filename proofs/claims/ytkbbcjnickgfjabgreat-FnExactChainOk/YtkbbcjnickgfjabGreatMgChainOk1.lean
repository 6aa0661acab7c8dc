/- Merged: Base, Strs, ByY, Var, Rv, ReadVar, Trv, Rvo, Thg0, ArgThg, Sha, ShaI, Arr. -/
import Derived.WalkKit
import Derived.WalkLawsBesides
import Derived.Laws.IdiomStrings
import Derived.Laws.BytesArg
import Derived.Deep.RegionLaw
import Derived.Test.YtkbbcjnickgfjabGreatProg
import Derived.Test.YtkbbcjnickgfjabGreatChecked
import Derived.Deep.RegionHeld3
import Derived.BigQuiet
import Derived.Lib.AppendStr
import Derived.Lib.ConvBytes
import Derived.Below
import Derived.Carry
import Derived.ProofKit
import Derived.OpenShut
import Derived.ShutString
import Derived.WideShapes
import Derived.Deep.Strs
import Derived.Laws.BitsLemmas
import Derived.Laws.BitsAllLaws
import Derived.Deep.RegionWith
import Derived.Laws.Rows
import Derived.Laws.Tables
import Derived.Laws.CopyOwn
/- Laws of no program: a row of bytes that the call itself owns, read as a text; the bytes of a number as the document lays them. -/
namespace Go.Proofs.YtkbbcjnickgfjabGreat
open Go.RowKit

theorem hide {p : Prop} (h : p) : Hid p := h
theorem unhide {p : Prop} (h : Hid p) : p := h

/-- A byte as a cell. -/
def bv (b : UInt8) : Value := .int .u8 (b.toNat : Int)

/-- A number below 256 as a byte (a name that the walk does not open). -/
def byteOf (n : Nat) : UInt8 := UInt8.ofNat n
theorem byteOf_toNat {n : Nat} (h : n < 256) : (byteOf n).toNat = n := by unfold byteOf; simp; omega

/-- The slice value v is a row of the call's own (blocks from base on) that holds just the bytes l. -/
def OwnB (w : World) (base : Nat) (e : TypeId) (v : Value) (l : List UInt8) : Prop := w.ownsRow base e 1 v l.length (l.map bv)

theorem run_string_owned {P : Program} (w : World) (src dst e : TypeId) (base : Nat) (v : Value) (l : List UInt8)
    (hs : P.underlying src = some (.slice e)) (he : P.underlying e = some (.int .u8)) (hd : P.underlying dst = some .string)
    (hown' : OwnB w base e v l) : (convert src dst v).run P w = .ok (.string ⟨l.toArray⟩) w := by
  have hown : w.ownsRow base e 1 v l.length (l.map bv) := hown'
  rcases hown.2 with ⟨hv, hn⟩ | ⟨g, cap, cur, hv, _⟩
  · have : l = [] := by cases l with
      | nil => rfl
      | cons a t => simp at hn
    subst this; subst hv
    rw [run_convert_bytes_nil w src e hs he 0 0 dst hd]
    rfl
  · have hc := hown.cells (g := g) (by rw [hv]; rfl)
    subst hv
    exact run_convert_bytes_back w src dst e ⟨g, 0, none⟩ cap l hs he hd (fun j hj => by
      apply hc j
      simp [List.getElem?_eq_getElem hj, bv])

theorem OwnB.alloc {w : World} {base : Nat} {e : TypeId} {v : Value} {l : List UInt8} (h : OwnB w base e v l) (o : Obj) : OwnB (w.alloc o) base e v l := World.ownsRow.alloc h o
theorem OwnB.drew {w : World} {base : Nat} {e : TypeId} {v : Value} {l : List UInt8} (h : OwnB w base e v l) : OwnB w.drew base e v l := h
theorem OwnB.drewN {w : World} {base : Nat} {e : TypeId} {v : Value} {l : List UInt8} (n : Nat) (h : OwnB w base e v l) : OwnB (w.drewN n) base e v l := h

/-- 'out = append(out, b0, ..)' where out is a row of bytes of the call's own, and the new ones lie in a block: in ONE way. -/
theorem wp_append_bytes {P : Program} {W : World} {o : Oper} {a : Act} {K : Act → World → Prop} {Q : Exit → Act → World → Prop} (s x : Operand) (t : TypeId)
    (ho : o.op = .call { callee := .builtin .append, args := #[s, x], argTypes := #[t, t] })
    (base B : Nat) (e : TypeId) (i : TypeInfo) (ht : P.underlying t = some (.slice e)) (hi : P.info? e = some i) (hz : i.zero = some (.int .u8 0)) (hsize : i.size = 1) (hby : i.bytes = 1)
    (v : Value) (l : List UInt8) (hs : a.eval s = v) (hown' : OwnB W base e v l)
    (nb : Nat) (cs : Array Value) (hblk : W.heap[nb]? = some (.cells cs e (0, 0))) (news : List UInt8) (hcs : cs.toList = news.map bv) (m c : Nat) (hm : news.length = m) (hx : a.eval x = .slice (some ⟨nb, 0, none⟩) m c)
    (hlen : l.length + m ≤ 140737488355328) (hB : B ≤ base) (hbase : base ≤ W.heap.size) {w00 : World} (hbel : Below B w00 W)
    (h : ∀ v' w', OwnB w' base e v' (l ++ news) → Below B w00 w' → K (a.put o.dst v') w') : o.wp P a W K Q := by
  subst hm
  have hown : W.ownsRow base e 1 v l.length (l.map bv) := hown'
  have hcell : ∀ j u, (news.map bv)[j]? = some u → W.cell? ((⟨nb, 0, none⟩ : Addr).add j) = some u := by
    intro j u hu
    have hadd : (⟨nb, 0, none⟩ : Addr).add j = ⟨nb, j, none⟩ := by unfold Addr.add; split <;> simp_all
    rw [hadd, cell_of_row W nb j cs e (0, 0) hblk]
    rw [← hcs] at hu
    simpa using hu
  refine wp_append_own W s x t ho base e i (.int .u8 0) 1 1 ht hi hz hsize hby rfl (by decide) v l.length (l.map bv) hs hown
    ⟨nb, 0, none⟩ news.length c (news.map bv) hx (by simp) hcell (by intro u hu; simp only [List.mem_map] at hu; obtain ⟨b, _, rfl⟩ := hu; rfl) (by unfold maxLen; omega) (by omega) hbase ?_
  intro v' w' h1 h2 _
  refine h v' w' (by unfold OwnB; simpa using h1) ?_
  refine hbel.grown h2 (by omega) ?_
  intro k hk
  have := (hown.lt k hk).1
  omega

theorem wpList_append_bytes {P : Program} {w : World} {ops : Array Oper} {rest : List Oper} {o : Oper} {a : Act} {Q : Exit → Act → World → Prop} (hgd : o.guard = none) (s x : Operand) (t : TypeId)
    (ho : o.op = .call { callee := .builtin .append, args := #[s, x], argTypes := #[t, t] })
    (base B : Nat) (e : TypeId) (i : TypeInfo) (ht : P.underlying t = some (.slice e)) (hi : P.info? e = some i) (hz : i.zero = some (.int .u8 0)) (hsize : i.size = 1) (hby : i.bytes = 1)
    (v : Value) (l : List UInt8) (hs : a.eval s = v) (hown' : OwnB w base e v l)
    (cs : Array Value) (news : List UInt8) (hcs : cs.toList = news.map bv) (m c : Nat) (hm : news.length = m) (hx : a.eval x = .slice (some ⟨w.heap.size, 0, none⟩) m c)
    (hlen : l.length + m ≤ 140737488355328) (hB : B ≤ base) (hbase : base ≤ w.heap.size) {w00 : World} (hbel : Below B w00 w)
    (h : ∀ v' w', OwnB w' base e v' (l ++ news) → Below B w00 w' → wpList P ops Q rest (a.put o.dst v') w') :
    wpList P ops Q (o :: rest) a (w.alloc (.cells cs e)) :=
  wpList_plain hgd fun _ hK => wp_append_bytes s x t ho base B e i ht hi hz hsize hby v l hs (hown'.alloc _) w.heap.size cs (heap_alloc_new w _) news hcs m c hm hx hlen hB (by simp; omega) (hbel.alloc (by omega) _) fun v' w' h2 h3 => hK _ _ (h v' w' h2 h3)

/-- The same inside a region that draws its order. -/
theorem step_append_bytes {P : Program} {w W : World} {ops : Array Oper} {o : Oper} {a : Act} {K : Act → World → Prop} {Q : Exit → Act → World → Prop} {E : Prop} (hg : o.guard = none) (s x : Operand) (t : TypeId)
    (ho : o.op = .call { callee := .builtin .append, args := #[s, x], argTypes := #[t, t] })
    (base B : Nat) (e : TypeId) (i : TypeInfo) (ht : P.underlying t = some (.slice e)) (hi : P.info? e = some i) (hz : i.zero = some (.int .u8 0)) (hsize : i.size = 1) (hby : i.bytes = 1)
    (v : Value) (l : List UInt8) (hs : a.eval s = v) (hown' : OwnB w base e v l)
    (cs : Array Value) (news : List UInt8) (hcs : cs.toList = news.map bv) (m c : Nat) (hm : news.length = m) (hx : a.eval x = .slice (some ⟨w.heap.size, 0, none⟩) m c)
    (hW : W = (w.alloc (.cells cs e)).drew)
    (hlen : l.length + m ≤ 140737488355328) (hB : B ≤ base) (hbase : base ≤ w.heap.size) {w00 : World} (hbel : Below B w00 w)
    (h : ∀ v' w', OwnB w' base e v' (l ++ news) → Below B w00 w' → K (a.put o.dst v') w') :
    if Region.wanted o (yielded ops a.tmps) = true then Oper.wp P o a W K Q else E := by
  subst hW
  have hw : Region.wanted o (yielded ops a.tmps) = true := by simp [Region.wanted, hg]
  rw [if_pos hw]
  exact wp_append_bytes (W := (w.alloc (.cells cs e)).drew) s x t ho base B e i ht hi hz hsize hby v l hs ((hown'.alloc _).drew) w.heap.size cs (heap_alloc_new w _) news hcs m c hm hx hlen hB (by show base ≤ (w.alloc (.cells cs e)).heap.size; simp; omega) ((hbel.alloc (by omega) _).drew) h

/-- The bytes of a number: seven bits a byte, the lowest first (f: how many bytes may go on). -/
def varF : Nat → Nat → List UInt8
  | 0, n => [byteOf n]
  | f + 1, n => if n ≤ 127 then [byteOf n] else byteOf (n % 128 + 128) :: varF f (n / 128)
def varB (n : Nat) : List UInt8 := varF n n

theorem varF_more : ∀ (f g n : Nat), n ≤ f → n ≤ g → varF f n = varF g n := by
  intro f
  induction f with
  | zero =>
    intro g n h1 h2
    have : n = 0 := by omega
    subst this
    cases g with
    | zero => rfl
    | succ g => rfl
  | succ f ih =>
    intro g n h1 h2
    cases g with
    | zero =>
      have : n = 0 := by omega
      subst this
      rfl
    | succ g =>
      unfold varF
      by_cases h : n ≤ 127
      · rw [if_pos h, if_pos h]
      · rw [if_neg h, if_neg h, ih g (n / 128) (by omega) (by omega)]
theorem varB_small {n : Nat} (h : n ≤ 127) : varB n = [byteOf n] := by
  unfold varB
  cases n with
  | zero => rfl
  | succ n => unfold varF; rw [if_pos h]
theorem varB_big {n : Nat} (h : ¬ n ≤ 127) : varB n = byteOf (n % 128 + 128) :: varB (n / 128) := by
  unfold varB
  cases n with
  | zero => omega
  | succ n =>
    rw [varF, if_neg h, varF_more n ((n + 1) / 128) ((n + 1) / 128) (by omega) (Nat.le_refl _)]
theorem varB_len (n : Nat) : 1 ≤ (varB n).length ∧ (varB n).length ≤ n + 1 := by
  induction n using Nat.strongRecOn with
  | _ n ih =>
    by_cases h : n ≤ 127
    · rw [varB_small h]; simp
    · rw [varB_big h]
      have := ih (n / 128) (by omega)
      simp only [List.length_cons]
      omega
end Go.Proofs.YtkbbcjnickgfjabGreat

/- Laws of no program: a row of one-cell values that the call itself owns. -/
namespace Go.Proofs.YtkbbcjnickgfjabGreat
open Go.RowKit

/-- The slice value v is a row of the call's own (blocks from base on) that holds just the cells xs. -/
def OwnV (w : World) (base : Nat) (e : TypeId) (v : Value) (xs : List Value) : Prop := w.ownsRow base e 1 v xs.length xs

theorem OwnV.alloc {w : World} {base : Nat} {e : TypeId} {v : Value} {xs : List Value} (h : OwnV w base e v xs) (o : Obj) : OwnV (w.alloc o) base e v xs := World.ownsRow.alloc h o
theorem OwnV.drew {w : World} {base : Nat} {e : TypeId} {v : Value} {xs : List Value} (h : OwnV w base e v xs) : OwnV w.drew base e v xs := h
theorem OwnV.below {w w' : World} {base : Nat} {e : TypeId} {v : Value} {xs : List Value} (h : OwnV w base e v xs) (hb : Below w.heap.size w w') : OwnV w' base e v xs :=
  World.ownsRow.kept (row := none) h ⟨hb.os, hb.tape, hb.output, hb.size, fun k hk _ => hb.block k hk⟩ (by cases hv : v.ownBlock <;> simp)
theorem OwnV.below_at {w w' : World} {base B : Nat} {e : TypeId} {v : Value} {xs : List Value} (h : OwnV w base e v xs) (hb : Below B w w') (hB : ∀ g, v.ownBlock = some g → g < B) : OwnV w' base e v xs := by
  refine ⟨h.1, ?_⟩
  rcases h.2 with hn | ⟨g, cap, cur, rfl, hbg, hgg, rest⟩
  · exact .inl hn
  · refine .inr ⟨g, cap, cur, rfl, hbg, ?_, rest⟩
    rw [hb.block g (hB g rfl)]
    exact hgg
theorem OwnV.low {w : World} {base base' : Nat} {e : TypeId} {v : Value} {xs : List Value} (h : OwnV w base e v xs) (hb : base' ≤ base) : OwnV w base' e v xs := by
  refine ⟨h.1, ?_⟩
  rcases h.2 with hn | ⟨g, cap, cur, rfl, hbg, rest⟩
  · exact .inl hn
  · exact .inr ⟨g, cap, cur, rfl, by omega, rest⟩
theorem OwnV.lt {w : World} {base : Nat} {e : TypeId} {v : Value} {xs : List Value} (h : OwnV w base e v xs) : ∀ g, v.ownBlock = some g → base ≤ g ∧ g < w.heap.size := World.ownsRow.lt h
theorem OwnV.shape {w : World} {base : Nat} {e : TypeId} {v : Value} {xs : List Value} (h : OwnV w base e v xs) : ∃ a c, v = .slice a xs.length c := by
  rcases h.2 with ⟨h1, h2⟩ | ⟨g, cap, cur, h1, _⟩
  · exact ⟨none, 0, by rw [h1, h2]⟩
  · exact ⟨_, cap, h1⟩
theorem OwnV.cell {w : World} {base g n c : Nat} {e : TypeId} {xs : List Value} (h : OwnV w base e (.slice (some ⟨g, 0, none⟩) n c) xs) {k : Nat} {u : Value} (hk : xs[k]? = some u) : w.cell? ⟨g, k, none⟩ = some u := by
  have := World.ownsRow.cells h (g := g) rfl k u hk
  have hadd : (⟨g, 0, none⟩ : Addr).add k = ⟨g, k, none⟩ := by unfold Addr.add; split <;> simp_all
  rw [hadd] at this
  exact this
theorem OwnV.row {w : World} {base g n c : Nat} {e : TypeId} {xs : List Value} (h : OwnV w base e (.slice (some ⟨g, 0, none⟩) n c) xs) : ∃ cur, w.heap[g]? = some (.cells cur e (0, 0)) := by
  rcases h.2 with ⟨h1, _⟩ | ⟨g', cap, cur, h1, _, h2, _⟩
  · cases h1
  · simp only [Value.slice.injEq, Option.some.injEq, Addr.mk.injEq] at h1
    obtain ⟨⟨rfl, _⟩, _⟩ := h1
    exact ⟨cur, h2⟩
theorem OwnV.frozen {w : World} {base g n c : Nat} {e : TypeId} {xs : List Value} (h : OwnV w base e (.slice (some ⟨g, 0, none⟩) n c) xs) (k : Nat) : w.frozen? ⟨g, k, none⟩ = false := by
  obtain ⟨cur, hc⟩ := h.row
  exact frozen_of_row w g k cur e hc
theorem OwnV.set {w : World} {base g n c : Nat} {e : TypeId} {xs : List Value} (h : OwnV w base e (.slice (some ⟨g, 0, none⟩) n c) xs) (k : Nat) (u : Value) : OwnV (w.setCell ⟨g, k, none⟩ u) base e (.slice (some ⟨g, 0, none⟩) n c) (xs.set k u) := by
  refine ⟨by rw [Nat.mul_one], ?_⟩
  rcases h.2 with ⟨h1, _⟩ | ⟨g', cap, cur, h1, hb, h2, h3, h4, h5, h6⟩
  · cases h1
  · simp only [Value.slice.injEq, Option.some.injEq, Addr.mk.injEq] at h1
    obtain ⟨⟨rfl, _⟩, rfl, rfl⟩ := h1
    refine .inr ⟨g, c, cur.setIfInBounds k u, by rw [List.length_set], hb, heap_setCell_same w g k cur e u h2, by rw [List.length_set]; exact h3, h4, by rw [Array.size_setIfInBounds]; exact h5, ?_⟩
    rw [List.length_set, Array.toList_setIfInBounds, List.take_set, h6]
theorem OwnV.nil (w : World) (base : Nat) (e : TypeId) : OwnV w base e (.slice none 0 0) [] := World.ownsRow_nil w base e 1

theorem wp_append_vals {P : Program} {W : World} {o : Oper} {a : Act} {K : Act → World → Prop} {Q : Exit → Act → World → Prop} (s x : Operand) (t : TypeId)
    (ho : o.op = .call { callee := .builtin .append, args := #[s, x], argTypes := #[t, t] })
    (base B : Nat) (e : TypeId) (i : TypeInfo) (z : Value) (nb : Nat) (ht : P.underlying t = some (.slice e)) (hi : P.info? e = some i) (hz : i.zero = some z) (hsize : i.size = 1) (hby : i.bytes = nb) (hzs : z.cells.size = 1)
    (v : Value) (xs : List Value) (hs : a.eval s = v) (hown : OwnV W base e v xs)
    (blk : Nat) (cs : Array Value) (hblk : W.heap[blk]? = some (.cells cs e (0, 0))) (news : List Value) (hcs : cs.toList = news) (h1 : ∀ u ∈ news, u.oneCell' = true) (m c : Nat) (hm : news.length = m) (hx : a.eval x = .slice (some ⟨blk, 0, none⟩) m c)
    (h63 : xs.length + m ≤ maxLen) (hbytes : (xs.length + m) * nb ≤ 140737488355328) (hB : B ≤ base) (hbase : base ≤ W.heap.size) {w00 : World} (hbel : Below B w00 W)
    (h : ∀ v' w', OwnV w' base e v' (xs ++ news) → Below B w00 w' → K (a.put o.dst v') w') : o.wp P a W K Q := by
  subst hm
  have hcell : ∀ j u, news[j]? = some u → W.cell? ((⟨blk, 0, none⟩ : Addr).add j) = some u := by
    intro j u hu
    have hadd : (⟨blk, 0, none⟩ : Addr).add j = ⟨blk, j, none⟩ := by unfold Addr.add; split <;> simp_all
    rw [hadd, cell_of_row W blk j cs e (0, 0) hblk]
    rw [← hcs] at hu
    simpa using hu
  refine wp_append_own W s x t ho base e i z 1 nb ht hi hz hsize hby hzs (by decide) v xs.length xs hs hown
    ⟨blk, 0, none⟩ news.length c news hx (by simp) hcell h1 h63 hbytes hbase ?_
  intro v' w' h2 h3 _
  refine h v' w' (by unfold OwnV; simpa using h2) ?_
  refine hbel.grown h3 (by omega) ?_
  intro k hk
  have := (hown.lt k hk).1
  omega

theorem wpList_append_vals {P : Program} {w : World} {ops : Array Oper} {rest : List Oper} {o : Oper} {a : Act} {Q : Exit → Act → World → Prop} (hgd : o.guard = none) (s x : Operand) (t : TypeId)
    (ho : o.op = .call { callee := .builtin .append, args := #[s, x], argTypes := #[t, t] })
    (base B : Nat) (e : TypeId) (i : TypeInfo) (z : Value) (nb : Nat) (ht : P.underlying t = some (.slice e)) (hi : P.info? e = some i) (hz : i.zero = some z) (hsize : i.size = 1) (hby : i.bytes = nb) (hzs : z.cells.size = 1)
    (v : Value) (xs : List Value) (hs : a.eval s = v) (hown : OwnV w base e v xs)
    (cs : Array Value) (news : List Value) (hcs : cs.toList = news) (h1 : ∀ u ∈ news, u.oneCell' = true) (m c : Nat) (hm : news.length = m) (hx : a.eval x = .slice (some ⟨w.heap.size, 0, none⟩) m c)
    (h63 : xs.length + m ≤ maxLen) (hbytes : (xs.length + m) * nb ≤ 140737488355328) (hB : B ≤ base) (hbase : base ≤ w.heap.size) {w00 : World} (hbel : Below B w00 w)
    (h : ∀ v' w', OwnV w' base e v' (xs ++ news) → Below B w00 w' → wpList P ops Q rest (a.put o.dst v') w') :
    wpList P ops Q (o :: rest) a (w.alloc (.cells cs e)) :=
  wpList_plain hgd fun _ hK => wp_append_vals s x t ho base B e i z nb ht hi hz hsize hby hzs v xs hs (hown.alloc _) w.heap.size cs (heap_alloc_new w _) news hcs h1 m c hm hx h63 hbytes hB (by simp; omega) (hbel.alloc (by omega) _) fun v' w' h2 h3 => hK _ _ (h v' w' h2 h3)
end Go.Proofs.YtkbbcjnickgfjabGreat

/- One byte of a number, by the given model, over the loaded program. -/
namespace Go.Proofs.YtkbbcjnickgfjabGreat
open Go.RowKit
def b256 (z : Int) : Nat := (z % 256).toNat
theorem b256_lt (z : Int) : b256 z < 256 := by unfold b256; omega
def oneY (z : Int) : ByteArray := ⟨#[UInt8.ofNat (b256 z)]⟩
theorem conv_oneY (w : World) (x : Nat) (hx : x < 256) : (convert 73 9 (.slice (some ⟨w.heap.size, 0, none⟩) 1 1)).run Tryz.prog (w.alloc (.cells #[.int .u8 (x : Int)] 5)) = .ok (.string ⟨#[UInt8.ofNat x]⟩) (w.alloc (.cells #[.int .u8 (x : Int)] 5)) := by
  refine run_convert_bytes_back (P := Tryz.prog) _ 73 9 5 ⟨w.heap.size, 0, none⟩ 1 [UInt8.ofNat x] Tryz.underlying73 Tryz.underlying5 Tryz.underlying9 (fun j hj => ?_)
  have hj0 : j = 0 := by simpa using hj
  subst hj0
  have hadd : (⟨w.heap.size, 0, none⟩ : Addr).add 0 = ⟨w.heap.size, 0, none⟩ := by unfold Addr.add; split <;> simp_all
  rw [hadd, cell_of_row _ w.heap.size 0 _ _ (0, 0) (heap_alloc_new w _)]
  have hb : (UInt8.ofNat x).toNat = x := byteOf_toNat hx
  simp [hb]
set_option maxRecDepth 20000 in
set_option maxHeartbeats 400000 in
theorem specByteY_any (z : Int) (w : World) :
    Calls Tryz.prog 87 #[.int .i64 z] w fun e w' => e = .returned (.string (oneY z)) ∧ Below w.heap.size w w' := by
  have hx := b256_lt z
  have E := hide (show oneY z = ⟨#[UInt8.ofNat (b256 z)]⟩ from rfl)
  rw [unhide E]
  have hm : (z.tmod 256 = (b256 z : Int)) ∨ (z.tmod 256 < 0 ∧ z.tmod 256 + 256 = (b256 z : Int)) := by
    have e := @Int.tmod_eq_emod z 256
    unfold b256
    split at e
    · left; rw [e]; omega
    · rename_i hn
      right
      have h0 : ¬ 256 ∣ z := fun hd => hn (.inr hd)
      have e2 : z.tmod 256 = z % 256 - 256 := e
      rw [e2]
      omega
  generalize b256 z = x at *
  have ew : IntKind.u8.wrap (x : Int) = (x : Int) := by rw [IntKind.wrap_u8]; omega
  have ew8 : (x : Int) % 256 = (x : Int) := by omega
  have ew2 : IntKind.i64.wrap (x : Int) = (x : Int) := by rw [IntKind.wrap_i64]; omega
  have hcv := conv_oneY w x hx
  have hb : Below w.heap.size w (w.alloc (.cells #[.int .u8 (x : Int)] 5)) := (Below.refl w.heap.size w).alloc (Nat.le_refl _) _
  rcases hm with h | ⟨h1, h2⟩
  · have e3 : ¬ (x : Int) < 0 := by omega
    go_enter Tryz.func87, Tryz.ntmps87
    go_wp2
    go_ret
    exact ⟨rfl, hb⟩
  · obtain ⟨t, ht⟩ : ∃ t, t = z.tmod 256 := ⟨_, rfl⟩
    rw [← ht] at h1 h2
    have ht' := ht.symm
    have ew3 : IntKind.i64.wrap t = t := by rw [IntKind.wrap_i64]; omega
    have ew4 : IntKind.i64.wrap (t + 256) = (x : Int) := by rw [h2]; exact ew2
    clear ht
    replace h2 := hide h2
    go_enter Tryz.func87, Tryz.ntmps87
    go_wp2
    go_ret
    exact ⟨rfl, hb⟩
end Go.Proofs.YtkbbcjnickgfjabGreat

/- What spec.l01Var and impl.VarText come to, over the loaded program: the bytes of a number. -/
namespace Go.Proofs.YtkbbcjnickgfjabGreat
open Go.RowKit

theorem Tryz.infoB : (Tryz.prog.info? 5).map (fun i => (i.zero, i.size, i.bytes)) = some (some (.int .u8 0), 1, 1) := by kernel_rfl

theorem cs_one {c : Int} {b : UInt8} (h : c = (b.toNat : Int)) : (#[Value.int .u8 c] : Array Value).toList = [b].map bv := by simp [bv, h]

theorem var_hi (m : Nat) : (m : Int) % 128 + 128 = ((byteOf (m % 128 + 128)).toNat : Int) := by rw [byteOf_toNat (by omega)]; omega
theorem var_lo {m : Nat} (h : m ≤ 127) : (m : Int) = ((byteOf m).toNat : Int) := by rw [byteOf_toNat (by omega)]

theorem var_step {n m : Nat} {pre : List UInt8} (h : pre ++ varB m = varB n) (hm : 127 < m) :
    (pre ++ [byteOf (m % 128 + 128)]) ++ varB (m / 128) = varB n ∧ (pre ++ [byteOf (m % 128 + 128)]).length ≤ n := by
  rw [varB_big (by omega)] at h
  have h1 : (pre ++ [byteOf (m % 128 + 128)]) ++ varB (m / 128) = varB n := by rw [← h]; simp
  refine ⟨h1, ?_⟩
  have := congrArg List.length h1
  have := varB_len n
  have := varB_len (m / 128)
  simp only [List.length_append] at *
  omega
theorem var_end {n m : Nat} {pre : List UInt8} (h : pre ++ varB m = varB n) (hm : ¬ 127 < m) : pre ++ [byteOf m] = varB n := by
  rw [varB_small (by omega)] at h; exact h

set_option maxRecDepth 20000 in
set_option maxHeartbeats 400000 in
theorem l01Var_any (n : Nat) (w : World) (hn : n ≤ 1000000000) :
    Calls Tryz.prog 57 #[.int .i64 n] w fun e w' => e = .returned (.string ⟨(varB n).toArray⟩) ∧ Below w.heap.size w w' := by
  obtain ⟨i0, hi, hz0, hz1, hz2⟩ := info_parts Tryz.infoB
  go_enter Tryz.func57, Tryz.ntmps57
  go_wp2
  go_loopw [0, 3] (fun i v wr => ∃ (m : Nat) (pre : List UInt8), m ≤ 1000000000 ∧ i = .int .i64 m ∧ Hid (pre ++ varB m = varB n) ∧ pre.length ≤ n ∧ OwnB wr w.heap.size 5 v pre ∧ Below w.heap.size w wr)
    (fun i _ _ => (intOf i).toNat)
  case atStart => exact ⟨n, [], hn, rfl, rfl, by simp, World.ownsRow_made w #[] 0 (Nat.le_refl _) (by decide) (by simp), (Below.refl _ _).alloc (Nat.le_refl _) _⟩
  case round =>
    obtain ⟨m, pre, hm, rfl, hpre, hpl, hown, hb⟩ := hrel
    have hsz := hb.size
    by_cases hlt : 127 < m
    · go_wp2_with (at_builtin; refine wpList_append_bytes rfl (.tmp 7) (.tmp 12) 73 rfl w.heap.size w.heap.size 5 i0 Tryz.underlying73 hi hz0 hz1 hz2 _ pre rfl hown _ [byteOf (m % 128 + 128)] (cs_one (var_hi m)) 1 1 rfl rfl (by omega) (Nat.le_refl _) hsz hb ?_; intro v' w1 hown' hb')
      have R := var_step hpre hlt
      clear hown hb hpre
      go_wp2
      go_roundw
      case rel => exact ⟨m / 128, _, by omega, by go_num, R.1, R.2, hown', hb'⟩
      case measure => simp [intOf]; omega
    · go_wp2_with (at_builtin; refine wpList_append_bytes rfl (.tmp 16) (.tmp 19) 73 rfl w.heap.size w.heap.size 5 i0 Tryz.underlying73 hi hz0 hz1 hz2 _ pre rfl hown _ [byteOf m] (cs_one (var_lo (by omega))) 1 1 rfl rfl (by omega) (Nat.le_refl _) hsz hb ?_; intro v' w1 hown' hb'; rw [var_end hpre hlt] at hown'; have hc := run_string_owned (P := Tryz.prog) w1 73 9 5 w.heap.size v' (varB n) Tryz.underlying73 Tryz.underlying5 Tryz.underlying9 hown')
      go_ret
      exact ⟨rfl, hb'⟩

/-! impl.VarText -/
set_option maxRecDepth 20000 in
set_option maxHeartbeats 400000 in
theorem implVar_yes (n : Nat) (w : World) (hn : n ≤ 1000000000) :
    Calls Tryz.prog 91 #[.int .i64 n] w fun e w' => e = .returned (.tuple #[.string ⟨(varB n).toArray⟩, .bool true]) ∧ Below w.heap.size w w' := by
  obtain ⟨i0, hi, hz0, hz1, hz2⟩ := info_parts Tryz.infoB
  have h0 : ¬ (n : Int) < 0 := by omega
  have h1 : ¬ (1000000000 : Int) < (n : Int) := by omega
  go_enter Tryz.func91, Tryz.ntmps91
  go_wp2
  go_loopw [0, 4] (fun i v wr => ∃ (m : Nat) (pre : List UInt8), m ≤ 1000000000 ∧ i = .int .i64 m ∧ Hid (pre ++ varB m = varB n) ∧ pre.length ≤ n ∧ OwnB wr w.heap.size 5 v pre ∧ Below w.heap.size w wr)
    (fun i _ _ => (intOf i).toNat)
  case atStart => exact ⟨n, [], hn, rfl, rfl, by simp, World.ownsRow_nil _ _ _ _, Below.refl _ _⟩
  case round =>
    obtain ⟨m, pre, hm, rfl, hpre, hpl, hown, hb⟩ := hrel
    have hsz := hb.size
    by_cases hlt : 127 < m
    · go_wp2_with (at_builtin; refine wpList_append_bytes rfl (.tmp 15) (.tmp 20) 73 rfl w.heap.size w.heap.size 5 i0 Tryz.underlying73 hi hz0 hz1 hz2 _ pre rfl hown _ [byteOf (m % 128 + 128)] (cs_one (var_hi m)) 1 1 rfl rfl (by omega) (Nat.le_refl _) hsz hb ?_; intro v' w1 hown' hb')
      have R := var_step hpre hlt
      clear hown hb hpre
      go_wp2
      go_roundw
      case rel => exact ⟨m / 128, _, by omega, by go_num, R.1, R.2, hown', hb'⟩
      case measure => simp [intOf]; omega
    · go_wp2_with (at_builtin; refine wpList_append_bytes rfl (.tmp 22) (.tmp 25) 73 rfl w.heap.size w.heap.size 5 i0 Tryz.underlying73 hi hz0 hz1 hz2 _ pre rfl hown _ [byteOf m] (cs_one (var_lo (by omega))) 1 1 rfl rfl (by omega) (Nat.le_refl _) hsz hb ?_; intro v' w1 hown' hb'; rw [var_end hpre hlt] at hown'; have hc := run_string_owned (P := Tryz.prog) w1 73 9 5 w.heap.size v' (varB n) Tryz.underlying73 Tryz.underlying5 Tryz.underlying9 hown')
      go_ret2
      exact ⟨rfl, hb'⟩

set_option maxRecDepth 20000 in
set_option maxHeartbeats 400000 in
theorem implVar_no (n : Int) (w : World) (hn : n < 0 ∨ 1000000000 < n) :
    Calls Tryz.prog 91 #[.int .i64 n] w fun e w' => e = .returned (.tuple #[.string ⟨#[]⟩, .bool false]) ∧ w' = w := by
  by_cases h0 : n < 0
  · go_enter Tryz.func91, Tryz.ntmps91
    go_wp2
    go_ret2
    exact ⟨rfl, rfl⟩
  · have h1 : 1000000000 < n := by omega
    go_enter Tryz.func91, Tryz.ntmps91
    go_wp2
    go_ret2
    exact ⟨rfl, rfl⟩

/-! spec.VarText -/
theorem l01In_any (x a b : Int) (w : World) : Calls Tryz.prog 56 #[.int .i64 x, .int .i64 a, .int .i64 b] w fun e w' => e = .returned (.bool (decide (a ≤ x) && decide (x ≤ b))) ∧ w' = w := by
  by_cases h0 : a ≤ x
  · by_cases h1 : x ≤ b
    all_goals
      go_enter Tryz.func56, Tryz.ntmps56
      go_wp2
      go_ret
      exact ⟨by simp [h0, h1], rfl⟩
  · go_enter Tryz.func56, Tryz.ntmps56
    go_wp2
    go_ret
    exact ⟨by simp; omega, rfl⟩

theorem l01In_yes (x a b : Int) (w : World) (h1 : a ≤ x) (h2 : x ≤ b) : Calls Tryz.prog 56 #[.int .i64 x, .int .i64 a, .int .i64 b] w fun e w' => e = .returned (.bool true) ∧ w' = w := by
  refine (l01In_any x a b w).mono ?_
  rintro e w' ⟨rfl, rfl⟩
  exact ⟨by simp [h1, h2], rfl⟩

theorem l01In_no (x a b : Int) (w : World) (h : x < a ∨ b < x) : Calls Tryz.prog 56 #[.int .i64 x, .int .i64 a, .int .i64 b] w fun e w' => e = .returned (.bool false) ∧ w' = w := by
  refine (l01In_any x a b w).mono ?_
  rintro e w' ⟨rfl, rfl⟩
  refine ⟨?_, rfl⟩
  have : (decide (a ≤ x) && decide (x ≤ b)) = false := by simp; omega
  rw [this]

end Go.Proofs.YtkbbcjnickgfjabGreat

/- The number whose bytes stand in a text: the mathematics, of no program. -/
namespace Go.Proofs.YtkbbcjnickgfjabGreat

/-- What is read from place i on, when the bytes from the place at on gave n so far, and the next counts u (f: how many may come). -/
def rvF (s : ByteArray) (at' : Nat) : Nat → Nat → Nat → Nat → Option (Nat × Nat)
  | 0, _, _, _ => none
  | f + 1, i, u, n =>
    if h : i < s.size ∧ i < at' + 5 then
      if 127 < s[i].toNat then rvF s at' f (i + 1) (u * 128) (n + s[i].toNat % 128 * u)
      else if (s[i].toNat = 0 ∧ at' < i) ∨ 1000000000 < n + s[i].toNat % 128 * u then none
      else some (n + s[i].toNat % 128 * u, i + 1)
    else none
def rvRun (s : ByteArray) (at' i u n : Nat) : Option (Nat × Nat) := rvF s at' (s.size - i) i u n

theorem rvRun_out {s : ByteArray} {a i u n : Nat} (h : ¬ (i < s.size ∧ i < a + 5)) : rvRun s a i u n = none := by
  unfold rvRun
  cases s.size - i with
  | zero => rfl
  | succ f => rw [rvF, dif_neg h]
theorem rvRun_in {s : ByteArray} {a i u n : Nat} (h : i < s.size) (h5 : i < a + 5) :
    rvRun s a i u n = if 127 < s[i].toNat then rvRun s a (i + 1) (u * 128) (n + s[i].toNat % 128 * u)
      else if (s[i].toNat = 0 ∧ a < i) ∨ 1000000000 < n + s[i].toNat % 128 * u then none else some (n + s[i].toNat % 128 * u, i + 1) := by
  unfold rvRun
  rw [show s.size - i = (s.size - (i + 1)) + 1 by omega, rvF, dif_pos ⟨h, h5⟩]
theorem rvRun_on {s : ByteArray} {a i u n : Nat} (h : i < s.size) (h5 : i < a + 5) (hb : 127 < s[i].toNat) :
    rvRun s a i u n = rvRun s a (i + 1) (u * 128) (n + s[i].toNat % 128 * u) := by
  rw [rvRun_in h h5, if_pos hb]
theorem rvRun_no {s : ByteArray} {a i u n : Nat} (h : i < s.size) (h5 : i < a + 5) (hb : ¬ 127 < s[i].toNat) (hn : (s[i].toNat = 0 ∧ a < i) ∨ 1000000000 < n + s[i].toNat % 128 * u) :
    rvRun s a i u n = none := by
  rw [rvRun_in h h5, if_neg hb, if_pos hn]
theorem rvRun_yes {s : ByteArray} {a i u n : Nat} (h : i < s.size) (h5 : i < a + 5) (hb : ¬ 127 < s[i].toNat) (hn : ¬ ((s[i].toNat = 0 ∧ a < i) ∨ 1000000000 < n + s[i].toNat % 128 * u)) :
    rvRun s a i u n = some (n + s[i].toNat % 128 * u, i + 1) := by
  rw [rvRun_in h h5, if_neg hb, if_neg hn]

theorem rv_cast (n b u : Nat) : (n : Int) + (b : Int) % 128 * (u : Int) = ((n + b % 128 * u : Nat) : Int) := by push_cast; rfl

/-- Where it stands behind i - a bytes that go on. -/
structure RvAt (s : ByteArray) (a i u n : Nat) : Prop where
  unit : u = 128 ^ (i - a)
  less : n < u
  bytes : ∀ m, 1 ≤ m → varB (n + m * u) = (s.data.toList.drop a).take (i - a) ++ varB m
  zero : i = a → n = 0
  same : rvRun s a i u n = rvRun s a a 1 0

theorem RvAt.start (s : ByteArray) (a : Nat) : RvAt s a a 1 0 :=
  ⟨by simp, by omega, fun m _ => by simp, fun _ => rfl, rfl⟩

theorem RvAt.bound {s : ByteArray} {a i u n : Nat} (h : RvAt s a i u n) (h5 : i ≤ a + 5) (ha : a ≤ i) : u ≤ 34359738368 ∧ (i < a + 5 → u ≤ 268435456) ∧ (¬ i < a + 5 → u = 34359738368) := by
  have := h.unit
  obtain ⟨k, rfl⟩ : ∃ k, i = a + k := ⟨i - a, by omega⟩
  have hk : k ≤ 5 := by omega
  simp only [Nat.add_sub_cancel_left] at this
  have : k = 0 ∨ k = 1 ∨ k = 2 ∨ k = 3 ∨ k = 4 ∨ k = 5 := by omega
  rcases this with rfl | rfl | rfl | rfl | rfl | rfl <;> simp at * <;> omega

theorem take_step (s : ByteArray) (a i : Nat) (ha : a ≤ i) (h : i < s.size) : (s.data.toList.drop a).take (i + 1 - a) = (s.data.toList.drop a).take (i - a) ++ [s[i]] := by
  have e : i + 1 - a = (i - a) + 1 := by omega
  have hl : i - a < (s.data.toList.drop a).length := by
    have : s.data.toList.length = s.size := rfl
    simp only [List.length_drop, this]; omega
  rw [e, List.take_succ_eq_append_getElem hl]
  congr 2
  rw [List.getElem_drop]
  have : a + (i - a) = i := by omega
  simp only [this]
  rfl

theorem RvAt.next {s : ByteArray} {a i u n : Nat} (h : RvAt s a i u n) (ha : a ≤ i) (hi : i < s.size) (h5 : i < a + 5) (hb : 127 < s[i].toNat) :
    RvAt s a (i + 1) (u * 128) (n + s[i].toNat % 128 * u) := by
  have hlt : s[i].toNat < 256 := s[i].toNat_lt
  refine ⟨?_, ?_, ?_, fun e => by omega, ?_⟩
  · rw [h.unit, show i + 1 - a = (i - a) + 1 by omega, Nat.pow_succ]
  · have := h.less
    have h2 : s[i].toNat % 128 ≤ 127 := by omega
    have := Nat.mul_le_mul_right u h2
    omega
  · intro m hm
    have e : n + s[i].toNat % 128 * u + m * (u * 128) = n + (s[i].toNat % 128 + 128 * m) * u := by
      rw [Nat.add_mul, ← Nat.mul_assoc, Nat.mul_comm (m * u) 128, Nat.mul_assoc 128 m u]; omega
    rw [e, h.bytes _ (by omega), take_step s a i ha hi, varB_big (by omega)]
    have e1 : (s[i].toNat % 128 + 128 * m) % 128 + 128 = s[i].toNat := by omega
    have e2 : (s[i].toNat % 128 + 128 * m) / 128 = m := by omega
    rw [e1, e2]
    have e3 : byteOf s[i].toNat = s[i] := by unfold byteOf; simp
    rw [e3]
    simp
  · rw [← h.same, rvRun_on hi h5 hb]

theorem varB_end0 : ∀ (p : List UInt8) (n : Nat), varB n = p ++ [0] → p = [] := by
  intro p
  induction p with
  | nil => intro n _; rfl
  | cons b t ih =>
    intro n h
    exfalso
    by_cases hn : n ≤ 127
    · rw [varB_small hn] at h
      simp at h
    · rw [varB_big hn] at h
      simp only [List.cons_append, List.cons.injEq] at h
      have ht := ih _ h.2
      subst ht
      simp only [List.nil_append] at h
      by_cases hm : n / 128 ≤ 127
      · rw [varB_small hm] at h
        have := h.2
        simp only [List.cons.injEq, and_true] at this
        have := congrArg UInt8.toNat this
        rw [byteOf_toNat (by omega)] at this
        simp at this
        omega
      · have hv := varB_big hm
        have := varB_len (n / 128 / 128)
        have h2 := congrArg List.length h.2
        rw [hv] at h2
        simp only [List.length_cons, List.length_nil] at h2
        omega

/-- The bytes that were met are the number's own just where no longer form stands there. -/
theorem RvAt.own {s : ByteArray} {a i u n : Nat} (h : RvAt s a i u n) (ha : a ≤ i) (hi : i < s.size) (hb : ¬ 127 < s[i].toNat) :
    varB (n + s[i].toNat % 128 * u) = (s.data.toList.drop a).take (i + 1 - a) ↔ ¬ (s[i].toNat = 0 ∧ a < i) := by
  have hm : s[i].toNat % 128 = s[i].toNat := by omega
  rw [take_step s a i ha hi, hm]
  have e3 : byteOf s[i].toNat = s[i] := by unfold byteOf; simp
  constructor
  · intro hv hz
    have e0 : s[i] = 0 := by
      apply UInt8.toNat_inj.1; rw [hz.1]; rfl
    rw [e0] at hv
    have := varB_end0 _ _ hv
    have hl := congrArg List.length this
    have : s.data.toList.length = s.size := rfl
    simp only [List.length_take, List.length_drop, this, List.length_nil] at hl
    omega
  · intro hz
    by_cases h0 : s[i].toNat = 0
    · have hia : i = a := by omega
      have hn := h.zero hia
      rw [h0, hn]
      simp only [Nat.zero_mul, Nat.add_zero]
      subst hia
      rw [Nat.sub_self, List.take_zero, List.nil_append, varB_small (by omega), ← e3, h0]
    · rw [h.bytes _ (by omega), varB_small (by omega), e3]

theorem extract_toList (s : ByteArray) (a b : Nat) : (s.extract a b).toList = (s.data.toList.drop a).take (b - a) := by
  rw [ByteArray.toList_eq, ByteArray.data_extract]
  simp

theorem RvAt.test {s : ByteArray} {a i u n : Nat} (h : RvAt s a i u n) (ha : a ≤ i) (hi : i < s.size) (hb : ¬ 127 < s[i].toNat) :
    (¬ (s[i].toNat = 0 ∧ a < i) → (!(varB (n + s[i].toNat % 128 * u) == (s.extract a (i + 1)).toList)) = false) ∧ ((s[i].toNat = 0 ∧ a < i) → (!(varB (n + s[i].toNat % 128 * u) == (s.extract a (i + 1)).toList)) = true) := by
  rw [extract_toList]
  have := h.own ha hi hb
  constructor
  · intro hz; rw [Bool.not_eq_false', beq_iff_eq]; exact this.2 hz
  · intro hz; rw [Bool.not_eq_true', beq_eq_false_iff_ne]; intro e; exact (this.1 e) hz
end Go.Proofs.YtkbbcjnickgfjabGreat

/- What spec.ReadVar and impl.ReadVar come to, over the loaded program. -/
namespace Go.Proofs.YtkbbcjnickgfjabGreat
open Go.RowKit

/-- The three results of ReadVar. -/
def rvTup : Option (Nat × Nat) → Value
  | none => .tuple #[.int .i64 0, .int .i64 0, .bool false]
  | some (n, j) => .tuple #[.int .i64 (n : Int), .int .i64 (j : Int), .bool true]

theorem rvTup_none {x : Option (Nat × Nat)} (h : x = none) : Ending.returned (.tuple #[.int .i64 0, .int .i64 0, .bool false]) = .returned (rvTup x) := by subst h; rfl
theorem rvTup_some {x : Option (Nat × Nat)} {n j : Nat} (h : x = some (n, j)) : Ending.returned (.tuple #[.int .i64 (n : Int), .int .i64 (j : Int), .bool true]) = .returned (rvTup x) := by subst h; rfl



end Go.Proofs.YtkbbcjnickgfjabGreat

/- What is written comes back: numbers in bytes. -/
namespace Go.Proofs.YtkbbcjnickgfjabGreat
open Go.RowKit
theorem drop_head {s : ByteArray} {i : Nat} {x : UInt8} {t : List UInt8} (h : s.data.toList.drop i = x :: t) : ∃ hi : i < s.size, s[i] = x ∧ s.data.toList.drop (i + 1) = t := by
  have hi : i < s.data.toList.length := by
    rcases Nat.lt_or_ge i s.data.toList.length with h1 | h1
    · exact h1
    · rw [List.drop_eq_nil_of_le h1] at h; cases h
  rw [List.drop_eq_getElem_cons hi] at h
  simp only [List.cons.injEq] at h
  exact ⟨hi, h.1, h.2⟩

theorem read_varB (s : ByteArray) (a : Nat) (rest : List UInt8) : ∀ (f k i u m : Nat), k ≤ f → s.data.toList.drop i = varB k ++ rest → a ≤ i → u = 128 ^ (i - a) → (a < i → 0 < k) → m + k * u ≤ 1000000000 →
    rvRun s a i u m = some (m + k * u, i + (varB k).length) := by
  intro f
  induction f with
  | zero =>
    intro k i u m hk hd ha hu hp hm
    have : k = 0 := by omega
    subst this
    have hia : i = a := by omega
    subst hia
    rw [varB_small (by omega)] at hd
    obtain ⟨hi, hx, _⟩ := drop_head hd
    have hx' : s[i].toNat = 0 := by rw [hx, byteOf_toNat (by omega)]
    rw [rvRun_yes hi (by omega) (by omega) (by rw [hx']; omega), hx', varB_small (by omega)]
    simp
  | succ f ih =>
    intro k i u m hk hd ha hu hp hm
    have h5 : i < a + 5 := by
      rcases Nat.lt_or_ge i (a + 5) with h | h
      · exact h
      · have h1 : 128 ^ 5 ≤ 128 ^ (i - a) := Nat.pow_le_pow_right (by decide) (by omega)
        have h2 : 1 * u ≤ k * u := Nat.mul_le_mul_right u (hp (by omega))
        have h3 : (128 : Nat) ^ 5 = 34359738368 := by decide
        omega
    by_cases hs : k ≤ 127
    · rw [varB_small hs] at hd
      obtain ⟨hi, hx, _⟩ := drop_head hd
      have hx' : s[i].toNat = k := by rw [hx, byteOf_toNat (by omega)]
      have hk128 : k % 128 = k := by omega
      rw [rvRun_yes hi h5 (by omega) (by rw [hx', hk128]; intro hh; rcases hh with ⟨h1, h2⟩ | h1; have := hp h2; omega; omega), hx', hk128, varB_small hs]
      rfl
    · rw [varB_big hs] at hd
      obtain ⟨hi, hx, ht⟩ := drop_head hd
      have hx' : s[i].toNat = k % 128 + 128 := by rw [hx, byteOf_toNat (by omega)]
      have e1 : (k % 128 + 128) % 128 = k % 128 := by omega
      have e2 : k / 128 * (u * 128) = 128 * (k / 128) * u := by rw [← Nat.mul_assoc, Nat.mul_comm, ← Nat.mul_assoc]
      have e3 : m + k % 128 * u + k / 128 * (u * 128) = m + k * u := by
        rw [e2, Nat.add_assoc, ← Nat.add_mul]
        have := Nat.div_add_mod k 128
        rw [show k % 128 + 128 * (k / 128) = k by omega]
      have hr := ih (k / 128) (i + 1) (u * 128) (m + k % 128 * u) (by omega) ht (by omega) (by rw [hu, show i + 1 - a = (i - a) + 1 by omega, Nat.pow_succ]) (by omega) (by rw [e3]; exact hm)
      rw [rvRun_on hi h5 (by omega), hx', e1, hr, e3, varB_big hs]
      simp only [List.length_cons, Option.some.injEq, Prod.mk.injEq, true_and]
      omega

theorem read_var (s : ByteArray) (a n : Nat) (rest : List UInt8) (h : s.data.toList.drop a = varB n ++ rest) (hn : n ≤ 1000000000) : rvRun s a a 1 0 = some (n, a + (varB n).length) := by
  have := read_varB s a rest n n a 1 0 (Nat.le_refl _) h (Nat.le_refl _) (by simp) (by omega) (by omega)
  simpa using this

end Go.Proofs.YtkbbcjnickgfjabGreat

/- What is read of a number's bytes, reckoned. -/
namespace Go.Proofs.YtkbbcjnickgfjabGreat
theorem rvRun_has {s : ByteArray} {a : Nat} : ∀ (f i u n : Nat), s.size - i ≤ f → RvAt s a i u n → a ≤ i → i ≤ s.size → ∀ m j, rvRun s a i u n = some (m, j) →
    i < j ∧ j ≤ s.size ∧ j ≤ a + 5 ∧ m ≤ 1000000000 ∧ varB m = (s.data.toList.drop a).take (j - a) := by
  intro f
  induction f with
  | zero =>
    intro i u n hf _ _ _ m j h
    rw [rvRun_out (by omega)] at h
    cases h
  | succ f ih =>
    intro i u n hf hat ha hi m j h
    by_cases hlt : i < s.size ∧ i < a + 5
    · obtain ⟨h1, h5⟩ := hlt
      by_cases hb : 127 < s[i].toNat
      · rw [rvRun_on h1 h5 hb] at h
        obtain ⟨r1, r2, r3, r4, r5⟩ := ih (i + 1) _ _ (by omega) (hat.next ha h1 h5 hb) (by omega) (by omega) m j h
        exact ⟨by omega, r2, r3, r4, r5⟩
      · by_cases hn : (s[i].toNat = 0 ∧ a < i) ∨ 1000000000 < n + s[i].toNat % 128 * u
        · rw [rvRun_no h1 h5 hb hn] at h
          cases h
        · rw [rvRun_yes h1 h5 hb hn] at h
          simp only [Option.some.injEq, Prod.mk.injEq] at h
          obtain ⟨rfl, rfl⟩ := h
          exact ⟨by omega, by omega, by omega, by omega, (hat.own ha h1 hb).2 (fun x => hn (.inl x))⟩
    · rw [rvRun_out hlt] at h
      cases h

theorem rvRun_own {s : ByteArray} {p m j : Nat} (hp : p ≤ s.size) (h : rvRun s p p 1 0 = some (m, j)) :
    p < j ∧ j ≤ s.size ∧ j ≤ p + 5 ∧ m ≤ 1000000000 ∧ varB m = (s.data.toList.drop p).take (j - p) :=
  rvRun_has (s.size - p) p 1 0 (Nat.le_refl _) (RvAt.start s p) (Nat.le_refl _) hp m j h

end Go.Proofs.YtkbbcjnickgfjabGreat

/- Things, reckoned: their cells, what is right, their texts, and how a text is read. -/
namespace Go.Proofs.YtkbbcjnickgfjabGreat
open Go.RowKit
theorem varB_two9 {n : Nat} (h : n ≤ 16383) : (varB n).length ≤ 2 := by
  by_cases h1 : n ≤ 127
  · rw [varB_small h1]; simp
  · rw [varB_big h1, List.length_cons, varB_small (by omega)]
    simp
structure Th where
  id : Int
  kind : Int
  hid : Bool
  fix : Bool
  sgn : Bool
  wrp : Bool
  val : ByteArray
  nxt : Int
def thC (x : Th) : Array Value := #[.int .i64 x.id, .int .i64 x.kind, .bool x.hid, .bool x.fix, .bool x.sgn, .bool x.wrp, .string x.val, .int .i64 x.nxt]
def thZ : Th := ⟨0, 0, false, false, false, false, ⟨#[]⟩, 0⟩
abbrev ThOk (x : Th) : Prop := 1 ≤ x.id ∧ x.id ≤ 1000 ∧ 1 ≤ x.kind ∧ x.kind ≤ 3 ∧ 0 ≤ x.nxt ∧ x.nxt ≤ 16 ∧ (x.kind ≠ 2 → x.nxt = 0 ∧ x.sgn = false) ∧ (x.kind ≠ 1 → x.wrp = false) ∧ (x.kind = 3 → x.val.size ≤ 100) ∧ (x.kind ≠ 3 → x.val.size = 32)
def thOk (x : Th) : Bool := decide (ThOk x)
theorem thOk_iff (x : Th) : thOk x = true ↔ ThOk x := by unfold thOk; exact decide_eq_true_iff
theorem thOk_not (x : Th) : thOk x = false ↔ ¬ ThOk x := by unfold thOk; exact decide_eq_false_iff_not
def flB (b : Bool) (n : Nat) : Nat := if b then n else 0
def fl (x : Th) : Nat := flB x.hid 1 + flB x.fix 2 + flB x.sgn 4 + flB x.wrp 8
theorem fl_lt (x : Th) : fl x ≤ 15 := by
  unfold fl flB
  split <;> split <;> split <;> split <;> omega
def flN (h f s w : Bool) : Nat := flB h 1 + flB f 2 + flB s 4 + flB w 8
theorem flN_bits (h f s w : Bool) : decide (flN h f s w % 2 = 1) = h ∧ decide (flN h f s w / 2 % 2 = 1) = f ∧ decide (flN h f s w / 4 % 2 = 1) = s ∧ decide (flN h f s w / 8 % 2 = 1) = w := by
  cases h <;> cases f <;> cases s <;> cases w <;> decide
theorem fl_bits (x : Th) : decide (fl x % 2 = 1) = x.hid ∧ decide (fl x / 2 % 2 = 1) = x.fix ∧ decide (fl x / 4 % 2 = 1) = x.sgn ∧ decide (fl x / 8 % 2 = 1) = x.wrp := flN_bits x.hid x.fix x.sgn x.wrp
/-- The text of a thing, a byte behind the other. -/
def thL (x : Th) : List UInt8 := varB x.id.toNat ++ (byteOf x.kind.toNat :: byteOf (fl x) :: (varB x.val.size ++ (x.val.data.toList ++ varB x.nxt.toNat)))
def thT (x : Th) : ByteArray := ⟨(thL x).toArray⟩
def byA9 (s : ByteArray) (i : Nat) : Nat := (s.data.getD i 0).toNat
/-- A reader's place in a text, and whether it went wrong. -/
def vrS (t : ByteArray) (a : Nat) (b : Bool) : Nat × Nat × Bool := if b then (0, a, true) else match rvRun t a a 1 0 with | none => (0, a, true) | some (n, j) => (n, j, false)
def tkS (t : ByteArray) (a : Nat) (b : Bool) (n : Nat) : ByteArray × Nat × Bool := if b = true ∨ t.size - a < n then (⟨#[]⟩, a, true) else (t.extract a (a + n), a + n, false)
def onS (t : ByteArray) (a : Nat) (b : Bool) : Nat × Nat × Bool := if (tkS t a b 1).2.2 then (0, (tkS t a b 1).2) else (byA9 (tkS t a b 1).1 0, (tkS t a b 1).2)
def shS (t : ByteArray) (a : Nat) (b : Bool) : ByteArray × Nat × Bool := tkS t (vrS t a b).2.1 (vrS t a b).2.2 (vrS t a b).1
theorem vrS_le (t : ByteArray) (a : Nat) (b : Bool) (h : a ≤ t.size) : (vrS t a b).2.1 ≤ t.size := by
  unfold vrS
  split
  · exact h
  · split
    · exact h
    · rename_i n j hr
      exact (rvRun_own h hr).2.1
theorem vrS_num (t : ByteArray) (a : Nat) (b : Bool) (h : a ≤ t.size) : (vrS t a b).1 ≤ 1000000000 := by
  unfold vrS
  split
  · exact Nat.zero_le _
  · split
    · exact Nat.zero_le _
    · rename_i n j hr
      exact (rvRun_own h hr).2.2.2.1
theorem tkS_le (t : ByteArray) (a : Nat) (b : Bool) (n : Nat) (h : a ≤ t.size) : (tkS t a b n).2.1 ≤ t.size := by
  unfold tkS
  split
  · exact h
  · rename_i hc
    show a + n ≤ t.size
    omega
theorem onS_le (t : ByteArray) (a : Nat) (b : Bool) (h : a ≤ t.size) : (onS t a b).2.1 ≤ t.size := by
  unfold onS
  split <;> exact tkS_le t a b 1 h
theorem onS_lt (t : ByteArray) (a : Nat) (b : Bool) : (onS t a b).1 < 256 := by
  unfold onS
  split
  · show 0 < 256; omega
  · exact UInt8.toNat_lt _
theorem shS_le (t : ByteArray) (a : Nat) (b : Bool) (h : a ≤ t.size) : (shS t a b).2.1 ≤ t.size := tkS_le _ _ _ _ (vrS_le t a b h)
theorem tkS_size (t : ByteArray) (a : Nat) (b : Bool) (n : Nat) : (tkS t a b n).1.size ≤ t.size := by
  unfold tkS
  split
  · exact Nat.zero_le _
  · show (t.extract a (a + n)).size ≤ _
    rw [ByteArray.size_extract]; omega
/-- What is read of a text, right or not. -/
def rdX (t : ByteArray) : Th × Bool :=
  let r1 := vrS t 0 false
  let r2 := onS t r1.2.1 r1.2.2
  let r3 := onS t r2.2.1 r2.2.2
  let r4 := shS t r3.2.1 r3.2.2
  let r5 := vrS t r4.2.1 r4.2.2
  (⟨(r1.1 : Int), (r2.1 : Int), decide (r3.1 % 2 = 1), decide (r3.1 / 2 % 2 = 1), decide (r3.1 / 4 % 2 = 1), decide (r3.1 / 8 % 2 = 1), r4.1, (r5.1 : Int)⟩, r5.2.2)
def rdOk (t : ByteArray) : Bool := decide ((rdX t).2 = false ∧ ThOk (rdX t).1 ∧ thT (rdX t).1 = t)
def rdTh (t : ByteArray) : Th := if rdOk t = true then (rdX t).1 else thZ
theorem rdOk_iff (t : ByteArray) : rdOk t = true ↔ ((rdX t).2 = false ∧ ThOk (rdX t).1 ∧ thT (rdX t).1 = t) := by unfold rdOk; exact decide_eq_true_iff
theorem rd_right {t : ByteArray} (h : rdOk t = true) : thOk (rdTh t) = true ∧ thT (rdTh t) = t := by
  have h1 := (rdOk_iff t).1 h
  unfold rdTh
  rw [if_pos h]
  exact ⟨(thOk_iff _).2 h1.2.1, h1.2.2⟩
theorem vr_at {t : ByteArray} {a n : Nat} {rest : List UInt8} (h : t.data.toList.drop a = varB n ++ rest) (hn : n ≤ 1000000000) : vrS t a false = (n, a + (varB n).length, false) ∧ t.data.toList.drop (a + (varB n).length) = rest := by
  constructor
  · unfold vrS
    rw [if_neg (by simp), read_var t a n rest h hn]
  · rw [← List.drop_drop, h, List.drop_left]
theorem tk_at {t : ByteArray} {a : Nat} {x rest : List UInt8} (h : t.data.toList.drop a = x ++ rest) (_ : a ≤ t.size) : tkS t a false x.length = (⟨x.toArray⟩, a + x.length, false) ∧ t.data.toList.drop (a + x.length) = rest := by
  have hl : t.size - a = x.length + rest.length := by
    have := congrArg List.length h
    rw [List.length_drop, List.length_append] at this
    exact this
  constructor
  · unfold tkS
    rw [if_neg (by simp; omega)]
    refine Prod.ext ?_ rfl
    show t.extract a (a + x.length) = _
    apply ByteArray.ext
    apply Array.toList_inj.1
    have e : (t.extract a (a + x.length)).data.toList = (t.data.toList.drop a).take (a + x.length - a) := by rw [ByteArray.data_extract]; simp
    rw [e, h, show a + x.length - a = x.length by omega, List.take_left]
  · rw [← List.drop_drop, h, List.drop_left]
theorem on_at {t : ByteArray} {a : Nat} {b : UInt8} {rest : List UInt8} (h : t.data.toList.drop a = b :: rest) (ha : a ≤ t.size) : onS t a false = (b.toNat, a + 1, false) ∧ t.data.toList.drop (a + 1) = rest := by
  have h1 := tk_at (x := [b]) (rest := rest) h ha
  refine ⟨?_, h1.2⟩
  unfold onS
  have e : tkS t a false 1 = (⟨#[b]⟩, a + 1, false) := h1.1
  rw [e]
  rfl
theorem le_of_drop {t : ByteArray} {a : Nat} {x : UInt8} {l : List UInt8} (h : t.data.toList.drop a = x :: l) : a ≤ t.size := by
  have e := congrArg List.length h
  rw [List.length_drop, List.length_cons] at e
  have : t.data.toList.length = t.size := rfl
  omega
/-- What is written of a right thing is read so. -/
theorem rdX_thT {x : Th} (h : ThOk x) : rdX (thT x) = (x, false) := by
  obtain ⟨i1, i2, k1, k2, n1, n2, _, _, hv3, hv2⟩ := h
  have hvz : x.val.size ≤ 100 := by
    by_cases e : x.kind = 3
    · exact hv3 e
    · have := hv2 e; omega
  have hf := fl_lt x
  have h0 : (thT x).data.toList.drop 0 = varB x.id.toNat ++ (byteOf x.kind.toNat :: byteOf (fl x) :: (varB x.val.size ++ (x.val.data.toList ++ varB x.nxt.toNat))) := rfl
  obtain ⟨e1, h1⟩ := vr_at h0 (by omega)
  obtain ⟨e2, h2⟩ := on_at h1 (le_of_drop h1)
  obtain ⟨e3, h3⟩ := on_at h2 (le_of_drop h2)
  obtain ⟨e4, h4⟩ := vr_at h3 (by omega)
  have hle : 0 + (varB x.id.toNat).length + 1 + 1 + (varB x.val.size).length ≤ (thT x).size := by
    have e := congrArg List.length h0
    rw [List.length_drop] at e
    have : (thT x).data.toList.length = (thT x).size := rfl
    simp only [List.length_append, List.length_cons] at e
    omega
  obtain ⟨e5, h5⟩ := tk_at h4 hle
  have h5' : (thT x).data.toList.drop (0 + (varB x.id.toNat).length + 1 + 1 + (varB x.val.size).length + x.val.data.toList.length) = varB x.nxt.toNat ++ [] := by rw [List.append_nil]; exact h5
  obtain ⟨e6, _⟩ := vr_at h5' (by omega)
  have e45 : shS (thT x) (0 + (varB x.id.toNat).length + 1 + 1) false = (⟨x.val.data.toList.toArray⟩, 0 + (varB x.id.toNat).length + 1 + 1 + (varB x.val.size).length + x.val.data.toList.length, false) := by
    unfold shS
    rw [e4]
    exact e5
  have hfl := fl_bits x
  have hkb : (byteOf x.kind.toNat).toNat = x.kind.toNat := byteOf_toNat (by omega)
  have hfb : (byteOf (fl x)).toNat = fl x := byteOf_toNat (by omega)
  unfold rdX
  simp only [e1, e2, e3, e45, e6, hkb, hfb]
  obtain ⟨b1, b2, b3, b4⟩ := hfl
  rw [b1, b2, b3, b4]
  have hi : ((x.id.toNat : Nat) : Int) = x.id := by omega
  have hk : ((x.kind.toNat : Nat) : Int) = x.kind := by omega
  have hn : ((x.nxt.toNat : Nat) : Int) = x.nxt := by omega
  have hvv : (⟨x.val.data.toList.toArray⟩ : ByteArray) = x.val := by simp
  rw [hi, hk, hn, hvv]
theorem rd_thT {x : Th} (h : thOk x = true) : rdOk (thT x) = true ∧ rdTh (thT x) = x := by
  have h1 := rdX_thT ((thOk_iff x).1 h)
  have h2 : rdOk (thT x) = true := by
    rw [rdOk_iff, h1]
    exact ⟨rfl, (thOk_iff x).1 h, rfl⟩
  refine ⟨h2, ?_⟩
  unfold rdTh
  rw [if_pos h2, h1]
theorem thT_inj {x y : Th} (hx : thOk x = true) (hy : thOk y = true) (h : thT x = thT y) : x = y := by
  have h1 := (rd_thT hx).2
  have h2 := (rd_thT hy).2
  rw [← h1, h, h2]
theorem rd_not {t : ByteArray} (h : rdOk t = false) (x : Th) (hx : thOk x = true) : ¬ thT x = t := by
  intro e
  have h1 := (rd_thT hx).1
  rw [e, h] at h1
  cases h1
theorem rdTh_no {t : ByteArray} (h : rdOk t = false) : rdTh t = thZ := by
  unfold rdTh
  rw [if_neg (by rw [h]; simp)]
theorem thT_le {x : Th} (h : thOk x = true) : (thT x).size ≤ 200 := by
  have hh := (thOk_iff x).1 h
  obtain ⟨i1, i2, k1, k2, n1, n2, _, _, hv3, hv2⟩ := hh
  have hvz : x.val.size ≤ 100 := by
    by_cases e : x.kind = 3
    · exact hv3 e
    · have := hv2 e; omega
  show (thL x).length ≤ 200
  unfold thL
  have a1 := varB_two9 (n := x.id.toNat) (by omega)
  have a2 := varB_two9 (n := x.val.size) (by omega)
  have a3 := varB_two9 (n := x.nxt.toNat) (by omega)
  have a4 : x.val.data.toList.length = x.val.size := rfl
  simp only [List.length_append, List.length_cons]
  omega
end Go.Proofs.YtkbbcjnickgfjabGreat

/- A thing that comes in as an argument, read as its eight fields. -/
namespace Go.Proofs.YtkbbcjnickgfjabGreat
open Go.ChangeShapes Go.WideShapes Go.ChangeAt Go.RowKit Go.WideElems
theorem list8 {α : Type} {l : List α} (h : l.length = 8) : ∃ a b c d e f g i, l = [a, b, c, d, e, f, g, i] := by
  match l, h with
  | [a, b, c, d, e, f, g, i], _ => exact ⟨a, b, c, d, e, f, g, i, rfl⟩
set_option maxRecDepth 20000 in
theorem thing_at {H : Type} {enc : TypeId × Value → H} {W : World} {spare : Nat → Bool} {held : Bool} (k : Nat) (cs : List Value) (y : DataW H × List MemPlace) (h : DataW.trod enc Tryz.prog W 0 spare held k 41 cs = some y) : ∃ x : Th, cs = (thC x).toList ∧ x.val.size ≤ maxLen := by
  obtain ⟨xs, n, _, rfl, hl, hlen, hf⟩ := DataW.trod_struct Tryz.underlying41 h
  have h8 : Tryz.prog.cellsOf 41 = 8 := by kernel_rfl
  have ci : Tryz.prog.cellsOf 3 = 1 := by kernel_rfl
  have cb : Tryz.prog.cellsOf 4 = 1 := by kernel_rfl
  have cs1 : Tryz.prog.cellsOf 9 = 1 := by kernel_rfl
  rw [h8] at hl
  obtain ⟨v0, v1, v2, v3, v4, v5, v6, v7, rfl⟩ := list8 hl
  obtain ⟨y0, y1, y2, y3, y4, y5, y6, y7, rfl⟩ := list8 hlen
  have g0 : DataW.trod enc Tryz.prog W 0 spare held n 3 [v0] = some y0 := by simpa [ci] using hf 0 _ rfl
  have g1 : DataW.trod enc Tryz.prog W 0 spare held n 3 [v1] = some y1 := by simpa [ci] using hf 1 _ rfl
  have g2 : DataW.trod enc Tryz.prog W 0 spare held n 4 [v2] = some y2 := by simpa [cb] using hf 2 _ rfl
  have g3 : DataW.trod enc Tryz.prog W 0 spare held n 4 [v3] = some y3 := by simpa [cb] using hf 3 _ rfl
  have g4 : DataW.trod enc Tryz.prog W 0 spare held n 4 [v4] = some y4 := by simpa [cb] using hf 4 _ rfl
  have g5 : DataW.trod enc Tryz.prog W 0 spare held n 4 [v5] = some y5 := by simpa [cb] using hf 5 _ rfl
  have g6 : DataW.trod enc Tryz.prog W 0 spare held n 9 [v6] = some y6 := by simpa [cs1] using hf 6 _ rfl
  have g7 : DataW.trod enc Tryz.prog W 0 spare held n 3 [v7] = some y7 := by simpa [ci] using hf 7 _ rfl
  obtain ⟨x0, e0, _, _⟩ := DataW.trod_int Tryz.underlying3 g0
  obtain ⟨x1, e1, _, _⟩ := DataW.trod_int Tryz.underlying3 g1
  obtain ⟨x2, e2, _⟩ := DataW.trod_bool Tryz.underlying4 g2
  obtain ⟨x3, e3, _⟩ := DataW.trod_bool Tryz.underlying4 g3
  obtain ⟨x4, e4, _⟩ := DataW.trod_bool Tryz.underlying4 g4
  obtain ⟨x5, e5, _⟩ := DataW.trod_bool Tryz.underlying4 g5
  obtain ⟨x6, e6, _, w6⟩ := DataW.trod_string Tryz.underlying9 g6
  obtain ⟨x7, e7, _, _⟩ := DataW.trod_int Tryz.underlying3 g7
  simp only [List.cons.injEq, and_true] at e0 e1 e2 e3 e4 e5 e6 e7
  subst e0 e1 e2 e3 e4 e5 e6 e7
  exact ⟨⟨x0, x1, x2, x3, x4, x5, x6, x7⟩, rfl, w6⟩
set_option maxRecDepth 20000 in
theorem open_thing {H : Type} {enc : TypeId × Value → H} {W : World} {base : Nat} {v : Value} {d : DataW H} {ps : List MemPlace} (hv : Value.okWide Tryz.prog W .any base 41 v)
    (h : DataW.Trod enc Tryz.prog W 0 (fun _ => true) true 41 v d ps) : ∃ x : Th, v = .agg (thC x) ∧ x.val.size ≤ maxLen := by
  obtain ⟨cs, rfl, hsz⟩ := okWide_struct Tryz.underlying41 hv
  obtain ⟨fuel, hf⟩ := h
  obtain ⟨x, hx, hok⟩ := thing_at _ _ _ hf
  refine ⟨x, ?_, hok⟩
  have e : cs.toList = (thC x).toList := by simpa [Value.cells] using hx
  rw [Array.toList_inj.1 e]
end Go.Proofs.YtkbbcjnickgfjabGreat

/- The digest's words, reckoned on whole numbers below 2^32. -/
namespace Go.Proofs.YtkbbcjnickgfjabGreat
open Go.RowKit

def rot (k x : Nat) : Nat := x / 2 ^ k + x % 2 ^ k * 2 ^ (32 - k)
def sg3 (a b c x : Nat) : Nat := rot a x ^^^ rot b x ^^^ rot c x
def sg2 (a b c x : Nat) : Nat := rot a x ^^^ rot b x ^^^ (x / 2 ^ c)
def chN (e f g : Nat) : Nat := (e &&& f) ^^^ ((4294967295 - e) &&& g)
def majN (a b c : Nat) : Nat := (a &&& b) ^^^ (a &&& c) ^^^ (b &&& c)
def wordN (a b c d : Nat) : Nat := a * 16777216 + b * 65536 + c * 256 + d

theorem two_split {k : Nat} (hk : k ≤ 32) : 2 ^ k * 2 ^ (32 - k) = 4294967296 := by
  rw [← Nat.pow_add, show k + (32 - k) = 32 by omega]

theorem rot_parts {k x : Nat} (hk : k ≤ 32) (hx : x < 4294967296) : x / 2 ^ k < 2 ^ (32 - k) ∧ x % 2 ^ k * 2 ^ (32 - k) + 2 ^ (32 - k) ≤ 4294967296 := by
  have h := two_split hk
  refine ⟨Nat.div_lt_of_lt_mul (by rw [h]; exact hx), ?_⟩
  have hm : x % 2 ^ k < 2 ^ k := Nat.mod_lt _ (Nat.two_pow_pos k)
  have := Nat.mul_le_mul_right (2 ^ (32 - k)) (show x % 2 ^ k + 1 ≤ 2 ^ k by omega)
  rw [h, Nat.add_mul] at this
  omega

theorem rot_lt {k x : Nat} (hk : k ≤ 32) (hx : x < 4294967296) : rot k x < 4294967296 := by
  have := rot_parts hk hx
  unfold rot
  omega

theorem xor32 {a b : Nat} (ha : a < 4294967296) (hb : b < 4294967296) : a ^^^ b < 4294967296 := Nat.xor_lt_two_pow (n := 32) ha hb
theorem and32 {a b : Nat} (ha : a < 4294967296) : a &&& b < 4294967296 := Nat.lt_of_le_of_lt Nat.and_le_left ha
theorem or32 {a b : Nat} (ha : a < 4294967296) (hb : b < 4294967296) : a ||| b < 4294967296 := Nat.or_lt_two_pow (n := 32) ha hb

theorem sg3_lt {a b c x : Nat} (ha : a ≤ 32) (hb : b ≤ 32) (hc : c ≤ 32) (hx : x < 4294967296) : sg3 a b c x < 4294967296 :=
  xor32 (xor32 (rot_lt ha hx) (rot_lt hb hx)) (rot_lt hc hx)
theorem sg2_lt {a b c x : Nat} (ha : a ≤ 32) (hb : b ≤ 32) (hx : x < 4294967296) : sg2 a b c x < 4294967296 :=
  xor32 (xor32 (rot_lt ha hx) (rot_lt hb hx)) (Nat.lt_of_le_of_lt (Nat.div_le_self _ _) hx)
theorem chN_lt {e f g : Nat} (he : e < 4294967296) : chN e f g < 4294967296 := xor32 (and32 he) (and32 (by omega))
theorem majN_lt {a b c : Nat} (ha : a < 4294967296) (hb : b < 4294967296) : majN a b c < 4294967296 := xor32 (xor32 (and32 ha) (and32 ha)) (and32 hb)

theorem not_bit {e : Nat} (he : e < 4294967296) (i : Nat) : (4294967295 - e).testBit i = (decide (i < 32) && !e.testBit i) := by
  have := Nat.testBit_two_pow_sub_succ (n := 32) (x := e) he i
  rw [show (2 : Nat) ^ 32 - (e + 1) = 4294967295 - e by omega] at this
  exact this

theorem ch_or {e f g : Nat} (he : e < 4294967296) : (e &&& f) ||| ((4294967295 - e) &&& g) = chN e f g := by
  unfold chN
  apply Nat.eq_of_testBit_eq
  intro i
  rw [Nat.testBit_or, Nat.testBit_xor, Nat.testBit_and, Nat.testBit_and, not_bit he]
  cases e.testBit i <;> cases f.testBit i <;> cases g.testBit i <;> cases decide (i < 32) <;> rfl

theorem maj_or (a b c : Nat) : (a &&& b) ||| (a &&& c) ||| (b &&& c) = majN a b c := by
  unfold majN
  apply Nat.eq_of_testBit_eq
  intro i
  simp only [Nat.testBit_or, Nat.testBit_xor, Nat.testBit_and]
  cases a.testBit i <;> cases b.testBit i <;> cases c.testBit i <;> rfl

theorem word_or {a b c d : Nat} (_ : a < 256) (hb : b < 256) (hc : c < 256) (hd : d < 256) : (((a * 16777216) ||| (b * 65536)) ||| (c * 256)) ||| d = wordN a b c d := by
  unfold wordN
  rw [nat_join 24 (a * 16777216) (b * 65536) (by omega) (by omega)]
  rw [nat_join 16 (a * 16777216 + b * 65536) (c * 256) (by omega) (by omega)]
  rw [nat_join 8 (a * 16777216 + b * 65536 + c * 256) d (by omega) (by omega)]
theorem wordN_lt {a b c d : Nat} (ha : a < 256) (hb : b < 256) (hc : c < 256) (hd : d < 256) : wordN a b c d < 4294967296 := by unfold wordN; omega

theorem rot_or {k x : Nat} (hk : k ≤ 32) (hx : x < 4294967296) : (x * 2 ^ (32 - k) % 4294967296) ||| (x / 2 ^ k) = rot k x := by
  have hp := rot_parts hk hx
  have h := two_split hk
  have e : x * 2 ^ (32 - k) % 4294967296 = x % 2 ^ k * 2 ^ (32 - k) := by
    rw [← h, Nat.mul_mod_mul_right]
  rw [e, nat_join (32 - k) _ _ (Nat.mul_mod_left _ _) hp.1]
  unfold rot
  omega

/- the bytes of a word, and of words -/
def bytesW (x : Nat) : List UInt8 := [byteOf (x / 16777216 % 256), byteOf (x / 65536 % 256), byteOf (x / 256 % 256), byteOf (x % 256)]
def bytesL : List Nat → List UInt8
  | [] => []
  | x :: l => bytesW x ++ bytesL l
theorem bytesL_len (l : List Nat) : (bytesL l).length = 4 * l.length := by
  induction l with
  | nil => rfl
  | cons x l ih => simp only [bytesL, List.length_append, List.length_cons, ih]; simp [bytesW]; omega
theorem bytesL_append (l m : List Nat) : bytesL (l ++ m) = bytesL l ++ bytesL m := by
  induction l with
  | nil => rfl
  | cons x l ih => simp only [List.cons_append, bytesL, ih, List.append_assoc]

/- the words of a row of bytes: n of them -/
def byteAt (s : ByteArray) (i : Nat) : Nat := (s.data.toList.getD i 0).toNat
def wAt (s : ByteArray) (i : Nat) : Nat := wordN (byteAt s i) (byteAt s (i + 1)) (byteAt s (i + 2)) (byteAt s (i + 3))
theorem byteAt_lt (s : ByteArray) (i : Nat) : byteAt s i < 256 := (s.data.toList.getD i 0).toNat_lt
theorem byteAt_eq (s : ByteArray) (i : Nat) (h : i < s.size) : byteAt s i = s[i].toNat := by
  have hl : i < s.data.toList.length := by simpa using h
  unfold byteAt
  rw [List.getD_eq_getElem?_getD, List.getElem?_eq_getElem hl]
  rfl
theorem wAt_lt (s : ByteArray) (i : Nat) : wAt s i < 4294967296 := wordN_lt (byteAt_lt _ _) (byteAt_lt _ _) (byteAt_lt _ _) (byteAt_lt _ _)
def wordsN (s : ByteArray) (n : Nat) : List Nat := (List.range n).map fun i => wAt s (4 * i)
theorem wordsN_len (s : ByteArray) (n : Nat) : (wordsN s n).length = n := by simp [wordsN]
theorem wordsN_succ (s : ByteArray) (n : Nat) : wordsN s (n + 1) = wordsN s n ++ [wAt s (4 * n)] := by
  unfold wordsN; rw [List.range_succ, List.map_append]; rfl

/- one more word of the sixty-four -/
def at_ (l : List Nat) (i : Nat) : Nat := l.getD i 0
def moreW (l : List Nat) (t : Nat) : Nat := (sg2 17 19 10 (at_ l (t - 2)) + at_ l (t - 7) + sg2 7 18 3 (at_ l (t - 15)) + at_ l (t - 16)) % 4294967296
def schedN (l : List Nat) : Nat → List Nat
  | 0 => l
  | n + 1 => schedN l n ++ [moreW (schedN l n) (16 + n)]
theorem schedN_len (l : List Nat) (h : l.length = 16) (n : Nat) : (schedN l n).length = 16 + n := by
  induction n with
  | zero => exact h
  | succ n ih => simp only [schedN, List.length_append, ih, List.length_singleton]; omega

def kTab : List Nat := [1116352408, 1899447441, 3049323471, 3921009573, 961987163, 1508970993, 2453635748, 2870763221, 3624381080, 310598401, 607225278, 1426881987, 1925078388, 2162078206, 2614888103, 3248222580, 3835390401, 4022224774, 264347078, 604807628, 770255983, 1249150122, 1555081692, 1996064986, 2554220882, 2821834349, 2952996808, 3210313671, 3336571891, 3584528711, 113926993, 338241895, 666307205, 773529912, 1294757372, 1396182291, 1695183700, 1986661051, 2177026350, 2456956037, 2730485921, 2820302411, 3259730800, 3345764771, 3516065817, 3600352804, 4094571909, 275423344, 430227734, 506948616, 659060556, 883997877, 958139571, 1322822218, 1537002063, 1747873779, 1955562222, 2024104815, 2227730452, 2361852424, 2428436474, 2756734187, 3204031479, 3329325298]
def firstSt : List Nat := [1779033703, 3144134277, 1013904242, 2773480762, 1359893119, 2600822924, 528734635, 1541459225]

/- one of the sixty-four steps, and a block's round -/
structure V8 where
  a : Nat
  b : Nat
  c : Nat
  d : Nat
  e : Nat
  f : Nat
  g : Nat
  h : Nat
def V8.toL (v : V8) : List Nat := [v.a, v.b, v.c, v.d, v.e, v.f, v.g, v.h]
def V8.ok (v : V8) : Prop := v.a < 4294967296 ∧ v.b < 4294967296 ∧ v.c < 4294967296 ∧ v.d < 4294967296 ∧ v.e < 4294967296 ∧ v.f < 4294967296 ∧ v.g < 4294967296 ∧ v.h < 4294967296
def V8.t1 (v : V8) (k w : Nat) : Nat := (v.h + sg3 6 11 25 v.e + chN v.e v.f v.g + k + w) % 4294967296
def V8.t2 (v : V8) : Nat := (sg3 2 13 22 v.a + majN v.a v.b v.c) % 4294967296
def V8.step (v : V8) (k w : Nat) : V8 := ⟨(v.t1 k w + v.t2) % 4294967296, v.a, v.b, v.c, (v.d + v.t1 k w) % 4294967296, v.e, v.f, v.g⟩
def V8.steps (ws : List Nat) : Nat → V8 → V8
  | 0, v => v
  | n + 1, v => (V8.steps ws n v).step (at_ kTab n) (at_ ws n)
def V8.plus (v u : V8) : V8 := ⟨(v.a + u.a) % 4294967296, (v.b + u.b) % 4294967296, (v.c + u.c) % 4294967296, (v.d + u.d) % 4294967296, (v.e + u.e) % 4294967296, (v.f + u.f) % 4294967296, (v.g + u.g) % 4294967296, (v.h + u.h) % 4294967296⟩
def roundW (v : V8) (block : ByteArray) : V8 := v.plus (V8.steps (schedN (wordsN block 16) 48) 64 v)
theorem V8.step_ok {v : V8} (h : v.ok) (k w : Nat) : (v.step k w).ok := by
  obtain ⟨h1, h2, h3, h4, h5, h6, h7, h8⟩ := h
  exact ⟨Nat.mod_lt _ (by decide), h1, h2, h3, Nat.mod_lt _ (by decide), h5, h6, h7⟩
theorem V8.steps_ok {v : V8} (h : v.ok) (ws : List Nat) (n : Nat) : (V8.steps ws n v).ok := by
  induction n with
  | zero => exact h
  | succ n ih => exact V8.step_ok ih _ _
theorem V8.plus_ok (v u : V8) : (v.plus u).ok := ⟨Nat.mod_lt _ (by decide), Nat.mod_lt _ (by decide), Nat.mod_lt _ (by decide), Nat.mod_lt _ (by decide), Nat.mod_lt _ (by decide), Nat.mod_lt _ (by decide), Nat.mod_lt _ (by decide), Nat.mod_lt _ (by decide)⟩
theorem roundW_ok (v : V8) (b : ByteArray) : (roundW v b).ok := V8.plus_ok _ _
/- n blocks of a text, from its place p on -/
def blocksW (v : V8) (s : ByteArray) (p : Nat) : Nat → V8
  | 0 => v
  | n + 1 => roundW (blocksW v s p n) (s.extract (p + 64 * n) (p + 64 * n + 64))
theorem blocksW_ok {v : V8} (h : v.ok) (s : ByteArray) (p n : Nat) : (blocksW v s p n).ok := by
  cases n with
  | zero => exact h
  | succ n => exact roundW_ok _ _

def stOf (s : ByteArray) : V8 := ⟨wAt s 0, wAt s 4, wAt s 8, wAt s 12, wAt s 16, wAt s 20, wAt s 24, wAt s 28⟩
theorem stOf_ok (s : ByteArray) : (stOf s).ok := ⟨wAt_lt _ _, wAt_lt _ _, wAt_lt _ _, wAt_lt _ _, wAt_lt _ _, wAt_lt _ _, wAt_lt _ _, wAt_lt _ _⟩
theorem stOf_toL (s : ByteArray) : (stOf s).toL = wordsN s 8 := rfl
def first8 : V8 := ⟨1779033703, 3144134277, 1013904242, 2773480762, 1359893119, 2600822924, 528734635, 1541459225⟩
theorem first8_ok : first8.ok := by unfold first8 V8.ok; decide
def V8.text (v : V8) : ByteArray := ⟨(bytesL v.toL).toArray⟩
theorem V8.text_size (v : V8) : v.text.size = 32 := by
  show (bytesL v.toL).toArray.size = 32
  rw [List.size_toArray, bytesL_len]; rfl
end Go.Proofs.YtkbbcjnickgfjabGreat

/- The small functions of impl's digest, over the loaded program. -/
namespace Go.Proofs.YtkbbcjnickgfjabGreat
open Go.RowKit

theorem max_xor (x : Nat) (hx : x < 4294967296) : bits .xor .u32 IntKind.u32.max (x : Int) = ((4294967295 - x : Nat) : Int) := by
  have e : (4294967295 : Nat) ^^^ x = 4294967295 - x := by
    apply Nat.eq_of_testBit_eq
    intro i
    rw [Nat.testBit_xor, not_bit hx, show (4294967295 : Nat) = 2 ^ 32 - 1 by rfl, Nat.testBit_two_pow_sub_one]
    by_cases h : i < 32
    · simp [h]
    · have : x.testBit i = false := Nat.testBit_lt_two_pow (Nat.lt_of_lt_of_le hx (Nat.pow_le_pow_right (n := 2) (by omega) (show 32 ≤ i by omega)))
      simp [h, this]
  rw [← e]
  exact u32_xor_nat 4294967295 x (by omega) hx
theorem rotl_any (x k : Nat) (hx : x < 4294967296) (hk : 1 ≤ k) (hk2 : k ≤ 31) (w : World) :
    Calls Tryz.prog 110 #[.int .u32 (x : Int), .int .i64 (-(k : Int))] w fun e w' => e = .returned (.int .u32 (rot k x : Int)) ∧ ∃ n, w' = w.drewN n := by
  go_enter Tryz.func110, Tryz.ntmps110
  have e1 : IntKind.u64.wrap (-(k : Int)) = ((18446744073709551616 - k : Nat) : Int) := by rw [IntKind.wrap_u64]; omega
  have e2 : bits .and .u64 ((18446744073709551616 - k : Nat) : Int) 31 = ((32 - k : Nat) : Int) := by
    rw [show (31 : Int) = ((31 : Nat) : Int) by rfl, u64_and_nat _ _ (by omega) (by omega), nat_mask5]; omega
  go_wp2
  go_ret
  refine ⟨?_, 0, rfl⟩
  show Ending.returned (.int .u32 (bits .or .u32 ((x : Int) * 2 ^ (32 - k) % 4294967296) ((x : Int) / 2 ^ (32 - (32 - k))))) = _
  have e3 : (x : Int) * 2 ^ (32 - k) % 4294967296 = ((x * 2 ^ (32 - k) % 4294967296 : Nat) : Int) := by
    rw [Int.natCast_emod, Int.natCast_mul, Int.natCast_pow]; rfl
  have e4 : (x : Int) / 2 ^ (32 - (32 - k)) = ((x / 2 ^ k : Nat) : Int) := by
    rw [show 32 - (32 - k) = k by omega, Int.natCast_ediv, Int.natCast_pow]; rfl
  rw [e3, e4, u32_or_nat _ _ (Nat.mod_lt _ (by decide)) (Nat.lt_of_le_of_lt (Nat.div_le_self _ _) hx), rot_or (by omega) hx]
theorem implRot_any (x k : Nat) (hx : x < 4294967296) (hk : 1 ≤ k) (hk2 : k ≤ 31) (w : World) :
    Calls Tryz.prog 100 #[.int .u32 (x : Int), .int .i64 (k : Int)] w fun e w' => e = .returned (.int .u32 (rot k x : Int)) ∧ ∃ n, w' = w.drewN n := by
  go_enter Tryz.func100, Tryz.ntmps100
  have e1 : IntKind.i64.wrap (-(k : Int)) = -(k : Int) := by rw [IntKind.wrap_i64]; omega
  go_wp2_with (go_at_call 110; refine (rotl_any x k hx hk hk2 _).mono ?_; rintro e w1 ⟨rfl, n1, rfl⟩)
  go_ret
  exact ⟨rfl, _, rfl⟩
theorem implCh_any (x y z : Nat) (hx : x < 4294967296) (hy : y < 4294967296) (hz : z < 4294967296) (w : World) :
    Calls Tryz.prog 77 #[.int .u32 (x : Int), .int .u32 (y : Int), .int .u32 (z : Int)] w fun e w' => e = .returned (.int .u32 (chN x y z : Int)) ∧ ∃ n, w' = w.drewN n := by
  go_enter Tryz.func77, Tryz.ntmps77
  go_wp2
  go_ret
  refine ⟨?_, 0, rfl⟩
  show Ending.returned (.int .u32 (bits .or .u32 (bits .and .u32 (x : Int) (y : Int)) (bits .and .u32 (bits .xor .u32 IntKind.u32.max (x : Int)) (z : Int)))) = _
  rw [max_xor x hx, u32_and_nat x y hx hy, u32_and_nat _ z (by omega) hz, u32_or_nat _ _ (and32 hx) (and32 (by omega)), ch_or hx]
theorem implMaj_any (x y z : Nat) (hx : x < 4294967296) (hy : y < 4294967296) (hz : z < 4294967296) (w : World) :
    Calls Tryz.prog 78 #[.int .u32 (x : Int), .int .u32 (y : Int), .int .u32 (z : Int)] w fun e w' => e = .returned (.int .u32 (majN x y z : Int)) ∧ ∃ n, w' = w.drewN n := by
  go_enter Tryz.func78, Tryz.ntmps78
  go_wp2
  go_ret
  refine ⟨?_, 0, rfl⟩
  show Ending.returned (.int .u32 (bits .or .u32 (bits .or .u32 (bits .and .u32 (x : Int) (y : Int)) (bits .and .u32 (x : Int) (z : Int))) (bits .and .u32 (y : Int) (z : Int)))) = _
  rw [u32_and_nat x y hx hy, u32_and_nat x z hx hz, u32_and_nat y z hy hz, u32_or_nat _ _ (and32 hx) (and32 hx), u32_or_nat _ _ (or32 (and32 hx) (and32 hx)) (and32 hy), maj_or]
theorem specRight_any (x k : Nat) (A H : Int) (hx : x < 4294967296) (hk : 1 ≤ k) (hk2 : k ≤ 31) (hA : A = ((2 ^ k : Nat) : Int)) (hH : H = ((2 ^ (32 - k) : Nat) : Int)) (w : World) :
    Calls Tryz.prog 104 #[.int .u32 (x : Int), .int .u32 A, .int .u32 H] w fun e w' => e = .returned (.int .u32 (rot k x : Int)) ∧ ∃ n, w' = w.drewN n := by
  have HP := hide (rot_parts (show k ≤ 32 by omega) hx)
  have HT := hide (two_split (show k ≤ 32 by omega))
  have HR : Hid (rot k x = x / 2 ^ k + x % 2 ^ k * 2 ^ (32 - k)) := hide rfl
  have ha : 0 < 2 ^ k := Nat.two_pow_pos k
  have hh : 0 < 2 ^ (32 - k) := Nat.two_pow_pos _
  have ha2 : 2 ^ k < 4294967296 := Nat.lt_of_lt_of_le (Nat.pow_lt_pow_right (a := 2) (m := k) (n := 32) (by omega) (by omega)) (by decide)
  have hh2 : 2 ^ (32 - k) < 4294967296 := Nat.lt_of_lt_of_le (Nat.pow_lt_pow_right (a := 2) (m := 32 - k) (n := 32) (by omega) (by omega)) (by decide)
  generalize 2 ^ k = a at hA ha ha2 HP HT HR
  generalize 2 ^ (32 - k) = h at hH hh hh2 HP HT HR
  subst hA hH
  have f1 : (x : Int).tdiv (a : Int) = ((x / a : Nat) : Int) := by rw [Int.tdiv_eq_ediv_of_nonneg (by omega)]; rfl
  have f2 : (x : Int).tmod (a : Int) = ((x % a : Nat) : Int) := by rw [Int.tmod_eq_emod_of_nonneg (by omega)]; rfl
  go_enter Tryz.func104, Tryz.ntmps104
  go_wp2
  go_region
  go_wp2
  go_ret
  refine ⟨?_, 1, rfl⟩
  show Ending.returned (.int .u32 (((x : Int) / (a : Int) % 4294967296 + (x : Int) % (a : Int) * (h : Int) % 4294967296) % 4294967296)) = _
  rw [unhide HR]
  have hp := unhide HP
  congr 2
  have g1 : (x : Int) / (a : Int) = ((x / a : Nat) : Int) := rfl
  have g2 : (x : Int) % (a : Int) * (h : Int) = ((x % a * h : Nat) : Int) := by rw [Int.natCast_mul]; rfl
  rw [g1, g2]
  generalize x / a = p at hp
  generalize x % a * h = q at hp
  omega
theorem specS_a (x : Nat) (hx : x < 4294967296) (w : World) :
    Calls Tryz.prog 90 #[.int .u32 (x : Int), .int .u32 131072, .int .u32 524288, .int .u32 1024, .bool true] w fun e w' => e = .returned (.int .u32 (sg2 17 19 10 x : Int)) ∧ ∃ n, w' = w.drewN n := by
  go_enter Tryz.func90, Tryz.ntmps90
  go_wp2_with (first | (go_at_call 104; refine (specRight_any x 17 _ _ hx (by decide) (by decide) (by decide) (by decide) _).mono ?_; rintro e w1 ⟨rfl, n1, rfl⟩) | (go_at_call 104; refine (specRight_any x 19 _ _ hx (by decide) (by decide) (by decide) (by decide) _).mono ?_; rintro e w1 ⟨rfl, n1, rfl⟩))
  go_ret
  refine ⟨?_, _, rfl⟩
  show Ending.returned (.int .u32 (bits .xor .u32 (bits .xor .u32 (rot 17 x : Int) (rot 19 x : Int)) ((x : Int) / 1024))) = _
  rw [show (x : Int) / 1024 = ((x / 1024 : Nat) : Int) from rfl]
  rw [u32_xor_nat _ _ (rot_lt (by decide) hx) (rot_lt (by decide) hx), u32_xor_nat _ _ (xor32 (rot_lt (by decide) hx) (rot_lt (by decide) hx)) (Nat.lt_of_le_of_lt (Nat.div_le_self _ _) hx)]
  rfl
theorem specS_b (x : Nat) (hx : x < 4294967296) (w : World) :
    Calls Tryz.prog 90 #[.int .u32 (x : Int), .int .u32 128, .int .u32 262144, .int .u32 8, .bool true] w fun e w' => e = .returned (.int .u32 (sg2 7 18 3 x : Int)) ∧ ∃ n, w' = w.drewN n := by
  go_enter Tryz.func90, Tryz.ntmps90
  go_wp2_with (first | (go_at_call 104; refine (specRight_any x 7 _ _ hx (by decide) (by decide) (by decide) (by decide) _).mono ?_; rintro e w1 ⟨rfl, n1, rfl⟩) | (go_at_call 104; refine (specRight_any x 18 _ _ hx (by decide) (by decide) (by decide) (by decide) _).mono ?_; rintro e w1 ⟨rfl, n1, rfl⟩))
  go_ret
  refine ⟨?_, _, rfl⟩
  show Ending.returned (.int .u32 (bits .xor .u32 (bits .xor .u32 (rot 7 x : Int) (rot 18 x : Int)) ((x : Int) / 8))) = _
  rw [show (x : Int) / 8 = ((x / 8 : Nat) : Int) from rfl]
  rw [u32_xor_nat _ _ (rot_lt (by decide) hx) (rot_lt (by decide) hx), u32_xor_nat _ _ (xor32 (rot_lt (by decide) hx) (rot_lt (by decide) hx)) (Nat.lt_of_le_of_lt (Nat.div_le_self _ _) hx)]
  rfl
theorem specS_c (x : Nat) (hx : x < 4294967296) (w : World) :
    Calls Tryz.prog 90 #[.int .u32 (x : Int), .int .u32 64, .int .u32 2048, .int .u32 33554432, .bool false] w fun e w' => e = .returned (.int .u32 (sg3 6 11 25 x : Int)) ∧ ∃ n, w' = w.drewN n := by
  go_enter Tryz.func90, Tryz.ntmps90
  go_wp2_with (first | (go_at_call 104; refine (specRight_any x 6 _ _ hx (by decide) (by decide) (by decide) (by decide) _).mono ?_; rintro e w1 ⟨rfl, n1, rfl⟩) | (go_at_call 104; refine (specRight_any x 11 _ _ hx (by decide) (by decide) (by decide) (by decide) _).mono ?_; rintro e w1 ⟨rfl, n1, rfl⟩) | (go_at_call 104; refine (specRight_any x 25 _ _ hx (by decide) (by decide) (by decide) (by decide) _).mono ?_; rintro e w1 ⟨rfl, n1, rfl⟩))
  go_ret
  refine ⟨?_, _, rfl⟩
  show Ending.returned (.int .u32 (bits .xor .u32 (bits .xor .u32 (rot 6 x : Int) (rot 11 x : Int)) (rot 25 x : Int))) = _
  rw [u32_xor_nat _ _ (rot_lt (by decide) hx) (rot_lt (by decide) hx), u32_xor_nat _ _ (xor32 (rot_lt (by decide) hx) (rot_lt (by decide) hx)) (rot_lt (by decide) hx)]
  rfl
theorem specS_d (x : Nat) (hx : x < 4294967296) (w : World) :
    Calls Tryz.prog 90 #[.int .u32 (x : Int), .int .u32 4, .int .u32 8192, .int .u32 4194304, .bool false] w fun e w' => e = .returned (.int .u32 (sg3 2 13 22 x : Int)) ∧ ∃ n, w' = w.drewN n := by
  go_enter Tryz.func90, Tryz.ntmps90
  go_wp2_with (first | (go_at_call 104; refine (specRight_any x 2 _ _ hx (by decide) (by decide) (by decide) (by decide) _).mono ?_; rintro e w1 ⟨rfl, n1, rfl⟩) | (go_at_call 104; refine (specRight_any x 13 _ _ hx (by decide) (by decide) (by decide) (by decide) _).mono ?_; rintro e w1 ⟨rfl, n1, rfl⟩) | (go_at_call 104; refine (specRight_any x 22 _ _ hx (by decide) (by decide) (by decide) (by decide) _).mono ?_; rintro e w1 ⟨rfl, n1, rfl⟩))
  go_ret
  refine ⟨?_, _, rfl⟩
  show Ending.returned (.int .u32 (bits .xor .u32 (bits .xor .u32 (rot 2 x : Int) (rot 13 x : Int)) (rot 22 x : Int))) = _
  rw [u32_xor_nat _ _ (rot_lt (by decide) hx) (rot_lt (by decide) hx), u32_xor_nat _ _ (xor32 (rot_lt (by decide) hx) (rot_lt (by decide) hx)) (rot_lt (by decide) hx)]
  rfl
set_option maxRecDepth 20000 in
set_option maxHeartbeats 1000000 in
theorem implWord_any (s : ByteArray) (i : Nat) (hi : i + 4 ≤ s.size) (hs : s.size ≤ 10000000) (w : World) :
    Calls Tryz.prog 98 #[.string s, .int .i64 (i : Int)] w fun e w' => e = .returned (.int .u32 (wAt s i : Int)) ∧ ∃ n, w' = w.drewN n := by
  have i1 : IntKind.i64.wrap ((i : Int) + 1) = (i : Int) + 1 := by rw [IntKind.wrap_i64]; omega
  have i2 : IntKind.i64.wrap ((i : Int) + 2) = (i : Int) + 2 := by rw [IntKind.wrap_i64]; omega
  have i3 : IntKind.i64.wrap ((i : Int) + 3) = (i : Int) + 3 := by rw [IntKind.wrap_i64]; omega
  have h0 : (i : Int) < (s.size : Int) := by omega
  have h1 : (i : Int) + 1 < (s.size : Int) := by omega
  have h2 : (i : Int) + 2 < (s.size : Int) := by omega
  have h3 : (i : Int) + 3 < (s.size : Int) := by omega
  have n1 : 0 ≤ (i : Int) + 1 := by omega
  have n2 : 0 ≤ (i : Int) + 2 := by omega
  have n3 : 0 ≤ (i : Int) + 3 := by omega
  have t1 : ((i : Int) + 1).toNat = i + 1 := by omega
  have t2 : ((i : Int) + 2).toNat = i + 2 := by omega
  have t3 : ((i : Int) + 3).toNat = i + 3 := by omega
  have b0 := hide (byteAt_eq s i (by omega))
  have b1 := hide (byteAt_eq s (i + 1) (by omega))
  have b2 := hide (byteAt_eq s (i + 2) (by omega))
  have b3 := hide (byteAt_eq s (i + 3) (by omega))
  have z0 := hide (byteAt_lt s i)
  have z1 := hide (byteAt_lt s (i + 1))
  have z2 := hide (byteAt_lt s (i + 2))
  have z3 := hide (byteAt_lt s (i + 3))
  go_enter Tryz.func98, Tryz.ntmps98
  go_wp2
  go_region
  go_wp2
  go_ret
  refine ⟨?_, 1, rfl⟩
  have b0 := unhide b0; have b1 := unhide b1; have b2 := unhide b2; have b3 := unhide b3
  have z0 := unhide z0; have z1 := unhide z1; have z2 := unhide z2; have z3 := unhide z3
  show Ending.returned (.int .u32 (bits .or .u32 (bits .or .u32 (bits .or .u32 ((s[i].toNat : Int) % 4294967296 * 16777216 % 4294967296) ((s[i + 1].toNat : Int) % 4294967296 * 65536 % 4294967296)) ((s[i + 2].toNat : Int) % 4294967296 * 256 % 4294967296)) ((s[i + 3].toNat : Int) % 4294967296))) = _
  rw [← b0, ← b1, ← b2, ← b3]
  unfold wAt
  generalize byteAt s i = p0 at z0
  generalize byteAt s (i + 1) = p1 at z1
  generalize byteAt s (i + 2) = p2 at z2
  generalize byteAt s (i + 3) = p3 at z3
  rw [show (p0 : Int) % 4294967296 * 16777216 % 4294967296 = ((p0 * 16777216 : Nat) : Int) by omega, show (p1 : Int) % 4294967296 * 65536 % 4294967296 = ((p1 * 65536 : Nat) : Int) by omega,
    show (p2 : Int) % 4294967296 * 256 % 4294967296 = ((p2 * 256 : Nat) : Int) by omega, show (p3 : Int) % 4294967296 = ((p3 : Nat) : Int) by omega]
  have o1 := or32 (show p0 * 16777216 < 4294967296 by omega) (show p1 * 65536 < 4294967296 by omega)
  have o2 := or32 o1 (show p2 * 256 < 4294967296 by omega)
  rw [u32_or_nat _ _ (by omega) (by omega), u32_or_nat _ _ o1 (by omega), u32_or_nat _ _ o2 (by omega), word_or z0 z1 z2 z3]
set_option maxRecDepth 20000 in
set_option maxHeartbeats 1000000 in
theorem specWord_any (s : ByteArray) (i : Nat) (hi : i + 4 ≤ s.size) (hs : s.size ≤ 10000000) (w : World) :
    Calls Tryz.prog 89 #[.string s, .int .i64 (i : Int)] w fun e w' => e = .returned (.int .u32 (wAt s i : Int)) ∧ ∃ n, w' = w.drewN n := by
  have i1 : IntKind.i64.wrap ((i : Int) + 1) = (i : Int) + 1 := by rw [IntKind.wrap_i64]; omega
  have i2 : IntKind.i64.wrap ((i : Int) + 2) = (i : Int) + 2 := by rw [IntKind.wrap_i64]; omega
  have i3 : IntKind.i64.wrap ((i : Int) + 3) = (i : Int) + 3 := by rw [IntKind.wrap_i64]; omega
  have h0 : (i : Int) < (s.size : Int) := by omega
  have h1 : (i : Int) + 1 < (s.size : Int) := by omega
  have h2 : (i : Int) + 2 < (s.size : Int) := by omega
  have h3 : (i : Int) + 3 < (s.size : Int) := by omega
  have n1 : 0 ≤ (i : Int) + 1 := by omega
  have n2 : 0 ≤ (i : Int) + 2 := by omega
  have n3 : 0 ≤ (i : Int) + 3 := by omega
  have t1 : ((i : Int) + 1).toNat = i + 1 := by omega
  have t2 : ((i : Int) + 2).toNat = i + 2 := by omega
  have t3 : ((i : Int) + 3).toNat = i + 3 := by omega
  have b0 := hide (byteAt_eq s i (by omega))
  have b1 := hide (byteAt_eq s (i + 1) (by omega))
  have b2 := hide (byteAt_eq s (i + 2) (by omega))
  have b3 := hide (byteAt_eq s (i + 3) (by omega))
  have z0 := hide (byteAt_lt s i)
  have z1 := hide (byteAt_lt s (i + 1))
  have z2 := hide (byteAt_lt s (i + 2))
  have z3 := hide (byteAt_lt s (i + 3))
  go_enter Tryz.func89, Tryz.ntmps89
  go_wp2
  go_region
  go_wp2
  go_ret
  refine ⟨?_, 1, rfl⟩
  have b0 := unhide b0; have b1 := unhide b1; have b2 := unhide b2; have b3 := unhide b3
  have z0 := unhide z0; have z1 := unhide z1; have z2 := unhide z2; have z3 := unhide z3
  show Ending.returned (.int .u32 ((((s[i].toNat : Int) % 4294967296 * 16777216 + (s[i + 1].toNat : Int) % 4294967296 * 65536 + (s[i + 2].toNat : Int) % 4294967296 * 256) % 4294967296 + (s[i + 3].toNat : Int) % 4294967296) % 4294967296)) = _
  rw [← b0, ← b1, ← b2, ← b3]
  unfold wAt wordN
  congr 2
  omega
set_option maxRecDepth 20000 in
set_option maxHeartbeats 1000000 in
theorem implThree_any (x a b c : Nat) (hx : x < 4294967296) (ha : 1 ≤ a) (ha2 : a ≤ 31) (hb : 1 ≤ b) (hb2 : b ≤ 31) (hc : 1 ≤ c) (hc2 : c ≤ 31) (w : World) :
    Calls Tryz.prog 76 #[.int .u32 (x : Int), .int .i64 (a : Int), .int .i64 (b : Int), .int .i64 (c : Int)] w fun e w' => e = .returned (.int .u32 (sg3 a b c x : Int)) ∧ ∃ n, w' = w.drewN n := by
  go_enter Tryz.func76, Tryz.ntmps76
  go_wp2_with (go_at_call 100; refine (implRot_any x _ hx (by first | exact ha | exact hb | exact hc) (by first | exact ha2 | exact hb2 | exact hc2) _).mono ?_; rintro e w1 ⟨rfl, n1, rfl⟩)
  go_ret
  refine ⟨?_, _, rfl⟩
  show Ending.returned (.int .u32 (bits .xor .u32 (bits .xor .u32 (rot a x : Int) (rot b x : Int)) (rot c x : Int))) = _
  rw [u32_xor_nat _ _ (rot_lt (by omega) hx) (rot_lt (by omega) hx), u32_xor_nat _ _ (xor32 (rot_lt (by omega) hx) (rot_lt (by omega) hx)) (rot_lt (by omega) hx)]
  rfl
set_option maxRecDepth 20000 in
set_option maxHeartbeats 1000000 in
theorem implTwo_any (x a b c : Nat) (hx : x < 4294967296) (ha : 1 ≤ a) (ha2 : a ≤ 31) (hb : 1 ≤ b) (hb2 : b ≤ 31) (hc : 1 ≤ c) (hc2 : c ≤ 31) (w : World) :
    Calls Tryz.prog 99 #[.int .u32 (x : Int), .int .i64 (a : Int), .int .i64 (b : Int), .int .i64 (c : Int)] w fun e w' => e = .returned (.int .u32 (sg2 a b c x : Int)) ∧ ∃ n, w' = w.drewN n := by
  go_enter Tryz.func99, Tryz.ntmps99
  go_wp2
  go_region_held3 (fun _ => True) (trivial) (first | (go_at_call 100; refine (implRot_any x _ hx (by first | exact ha | exact hb | exact hc) (by first | exact ha2 | exact hb2 | exact hc2) _).mono ?_; rintro e w1 ⟨rfl, n1, rfl⟩))
  go_wp2
  go_ret
  refine ⟨?_, _, rfl⟩
  show Ending.returned (.int .u32 (bits .xor .u32 (bits .xor .u32 (rot a x : Int) (rot b x : Int)) ((x : Int) / 2 ^ c))) = _
  rw [show (x : Int) / 2 ^ c = ((x / 2 ^ c : Nat) : Int) by rw [Int.natCast_ediv, Int.natCast_pow]; rfl]
  rw [u32_xor_nat _ _ (rot_lt (by omega) hx) (rot_lt (by omega) hx), u32_xor_nat _ _ (xor32 (rot_lt (by omega) hx) (rot_lt (by omega) hx)) (Nat.lt_of_le_of_lt (Nat.div_le_self _ _) hx)]
  rfl
end Go.Proofs.YtkbbcjnickgfjabGreat

/- Laws of no program: a block that holds an array of words. -/
namespace Go.Proofs.YtkbbcjnickgfjabGreat
open Go.RowKit

def u32v (x : Nat) : Value := .int .u32 (x : Int)
def ArrAt (w : World) (g : Nat) (T : TypeId) (l : List Nat) : Prop := w.heap[g]? = some (.cells (l.map u32v).toArray T (0, 0))
def aggV (l : List Nat) : Value := .agg (l.map u32v).toArray

theorem ArrAt.lt {w : World} {g : Nat} {T : TypeId} {l : List Nat} (h : ArrAt w g T l) : g < w.heap.size := by
  rcases Nat.lt_or_ge g w.heap.size with h1 | h1
  · exact h1
  · unfold ArrAt at h
    rw [Array.getElem?_eq_none h1] at h; cases h
theorem ArrAt.frozen {w : World} {g : Nat} {T : TypeId} {l : List Nat} (h : ArrAt w g T l) (k : Nat) : w.frozen? ⟨g, k, none⟩ = false := frozen_of_row w g k _ T h
theorem ArrAt.cell {w : World} {g : Nat} {T : TypeId} {l : List Nat} (h : ArrAt w g T l) (k : Nat) (hk : k < l.length) : w.cell? ⟨g, k, none⟩ = some (.int .u32 (at_ l k : Int)) := by
  unfold ArrAt at h
  unfold World.cell?
  simp [h, at_, hk, u32v]
theorem ArrAt.set {w : World} {g : Nat} {T : TypeId} {l : List Nat} (h : ArrAt w g T l) (k v : Nat) : ArrAt (w.setCell ⟨g, k, none⟩ (.int .u32 (v : Int))) g T (l.set k v) := by
  unfold ArrAt at h ⊢
  rw [heap_setCell_same w g k _ T (.int .u32 (v : Int)) h, List.map_set]
  simp [u32v]
theorem ArrAt.below {w w' : World} {g B : Nat} {T : TypeId} {l : List Nat} (h : ArrAt w g T l) (hb : Below B w w') (hg : g < B) : ArrAt w' g T l := by
  unfold ArrAt at h ⊢
  rw [hb.block g hg]; exact h
theorem ArrAt.alloc {w : World} {g : Nat} {T : TypeId} {l : List Nat} (h : ArrAt w g T l) (o : Obj) : ArrAt (w.alloc o) g T l := by
  have hl := h.lt
  unfold ArrAt at h ⊢
  unfold World.alloc
  simp only [Array.getElem?_push]
  rw [if_neg (by omega)]
  exact h
theorem ArrAt.new (w : World) (T : TypeId) (l : List Nat) : ArrAt (w.alloc (.cells (l.map u32v).toArray T (0, 0))) w.heap.size T l := by
  unfold ArrAt World.alloc
  simp
theorem ArrAt.drewN {w : World} {g : Nat} {T : TypeId} {l : List Nat} (h : ArrAt w g T l) (n : Nat) : ArrAt (w.drewN n) g T l := h
theorem arr_size (l : List Nat) : (l.map u32v).toArray.size = l.length := by simp
theorem arr_one (l : List Nat) : (l.map u32v).toArray.all (·.oneCell') = true := by
  rw [Array.all_eq_true_iff_forall_mem]
  intro v hv
  simp only [List.mem_toArray, List.mem_map] at hv
  obtain ⟨x, _, rfl⟩ := hv
  rfl
theorem ArrAt.setRow {w : World} {g : Nat} {T : TypeId} {l : List Nat} (h : ArrAt w g T l) (l' : List Nat) : ArrAt (w.setRow g (l'.map u32v).toArray) g T l' := setRow_heap w g _ _ T (0, 0) h
theorem ArrAt.setRow_other {w : World} {g k : Nat} {T : TypeId} {l : List Nat} (h : ArrAt w k T l) (cs : Array Value) (hk : k ≠ g) : ArrAt (w.setRow g cs) k T l := by
  unfold ArrAt
  rw [Go.setRow_other w g k cs hk]
  exact h
theorem wpList_load_arr {P : Program} {ops : Array Oper} {rest : List Oper} {o : Oper} {a : Act} {w : World} {Q : Exit → Act → World → Prop} (hgd : o.guard = none) (ty : TypeId) (x : Operand) (ho : o.op = .load ty x)
    (g : Nat) (hx : a.eval x = .pointer (some ⟨g, 0, none⟩)) (T : TypeId) (l : List Nat) (hA : ArrAt w g T l) (n : Nat) (e : TypeId) (hu : P.underlying ty = some (.array n e)) (hi : (P.info? ty).map (·.size) = some l.length)
    (h : wpList P ops Q rest (a.put o.dst (aggV l)) w) : wpList P ops Q (o :: rest) a w :=
  wpList_load_row hgd ty x ho g hx T _ (0, 0) _ hA hu rfl (by rw [arr_size]; exact hi) h
theorem wpList_store_arr {P : Program} {ops : Array Oper} {rest : List Oper} {o : Oper} {a : Act} {w : World} {Q : Exit → Act → World → Prop} (hgd : o.guard = none) (ty : TypeId) (x y : Operand) (ho : o.op = .store ty x y)
    (g : Nat) (l l0 : List Nat) (hx : a.eval x = .pointer (some ⟨g, 0, none⟩)) (hy : a.eval y = aggV l) (T : TypeId) (hA : ArrAt w g T l0) (hi : (P.info? ty).map (·.size) = some l.length) (hl : l0.length = l.length)
    (h : wpList P ops Q rest (a.put o.dst undef) (w.setRow g (l.map u32v).toArray)) : wpList P ops Q (o :: rest) a w :=
  wpList_store_row hgd ty x y ho g _ hx hy T _ hA (by rw [arr_size]; exact hi) (by rw [arr_size, arr_size]; exact hl) (arr_one l) h
theorem wpList_store_arr_as {P : Program} {ops : Array Oper} {rest : List Oper} {o : Oper} {a : Act} {w : World} {Q : Exit → Act → World → Prop} (hgd : o.guard = none) (ty : TypeId) (x y : Operand) (ho : o.op = .store ty x y)
    (g : Nat) (l l0 : List Nat) (hx : a.eval x = .pointer (some ⟨g, 0, none⟩)) (hy : a.eval y = aggV l) (T : TypeId) (hA : ArrAt w g T l0) (hi : (P.info? ty).map (·.size) = some l.length) (hl : l0.length = l.length)
    (h : ∀ w', ArrAt w' g T l → (∀ k T' l', k ≠ g → ArrAt w k T' l' → ArrAt w' k T' l') → Below g w w' → wpList P ops Q rest (a.put o.dst undef) w') : wpList P ops Q (o :: rest) a w :=
  wpList_store_arr hgd ty x y ho g l l0 hx hy T hA hi hl (h _ (hA.setRow l) (fun _ _ _ hk hA' => hA'.setRow_other _ hk) (Go.below_setRow (Below.refl _ _) (Nat.le_refl _) _))
theorem wpList_build_arr {P : Program} {ops : Array Oper} {rest : List Oper} {o : Oper} {a : Act} {w : World} {Q : Exit → Act → World → Prop} (hg : o.guard = none) (t : TypeId) (parts : Array (Nat × Operand)) (ho : o.op = .build t parts) (l : List Nat)
    (hb : P.built t (parts.map fun (i, x) => (i, a.eval x)).toList = some (l.map u32v).toArray)
    (h : wpList P ops Q rest (a.put o.dst (aggV l)) w) : wpList P ops Q (o :: rest) a w :=
  wpList_build hg t parts ho (by rw [hb]; rfl) (by rw [hb]; exact h)
theorem results_arr {P : Program} {fn : Func} {p : Tmp} {ty : TypeId} (h : fn.results = #[.cell p ty]) (tmps : Array Value) (w : World) (g : Nat) (T : TypeId) (l : List Nat) (n : Nat) (e : TypeId)
    (hp : tmps.getD p undef = .pointer (some ⟨g, 0, none⟩)) (hA : ArrAt w g T l) (hu : P.underlying ty = some (.array n e)) (hi : (P.info? ty).map (·.size) = some l.length) :
    (results fn tmps).run P w = .ok (aggV l) w :=
  results_cell_row h tmps w g T _ (0, 0) _ hp hA hu rfl (by rw [arr_size]; exact hi)
end Go.Proofs.YtkbbcjnickgfjabGreat

