/- Merged: Base, Strs, Cur, ArgCode, ByY, Var, Rv, ReadVar, Trv, Rvo, Thg0. -/
import Derived.WalkKit
import Derived.WalkLawsBesides
import Derived.Laws.IdiomStrings
import Derived.Laws.BytesArg
import Derived.Deep.RegionLaw
import Derived.Test.YtecbpplocokedaaProg
import Derived.Test.YtecbpplocokedaaChecked
import Derived.Laws.BitsLemmas
import Derived.Deep.RegionHeld3
import Derived.Deep.QuietTactic
import Derived.BigQuiet
import Derived.Deep.Slices
import Derived.Deep.Strs
import Derived.ChangeSame
import Derived.OpenShut
import Derived.ShutString
import Derived.ProofKit
import Derived.Lib.SmallJoins
import Derived.Lib.AppendStr
import Derived.Lib.ConvBytes
/- Laws of no program: a row of bytes that the call itself owns, read as a text; the bytes of a number as the document lays them. -/
namespace Go.Proofs.Ytecbpplocokedaa
open Go.RowKit

theorem hide {p : Prop} (h : p) : Hid p := h
theorem unhide {p : Prop} (h : Hid p) : p := h

/-- A byte as a cell. -/
def bv (b : UInt8) : Value := .int .u8 (b.toNat : Int)

/-- A number below 256 as a byte (a name that the walk does not open). -/
def byteOf (n : Nat) : UInt8 := UInt8.ofNat n
theorem byteOf_toNat {n : Nat} (h : n < 256) : (byteOf n).toNat = n := by unfold byteOf; simp; omega

/-- The slice value v is a row of the call's own (blocks from base on) that holds just the bytes l. -/
def OwnB (w : World) (base : Nat) (e : TypeId) (v : Value) (l : List UInt8) : Prop := w.ownsRow base e 1 v l.length (l.map bv)

theorem run_string_owned {P : Program} (w : World) (src dst e : TypeId) (base : Nat) (v : Value) (l : List UInt8)
    (hs : P.underlying src = some (.slice e)) (he : P.underlying e = some (.int .u8)) (hd : P.underlying dst = some .string)
    (hown' : OwnB w base e v l) : (convert src dst v).run P w = .ok (.string ⟨l.toArray⟩) w := by
  have hown : w.ownsRow base e 1 v l.length (l.map bv) := hown'
  rcases hown.2 with ⟨hv, hn⟩ | ⟨g, cap, cur, hv, _⟩
  · have : l = [] := by cases l with
      | nil => rfl
      | cons a t => simp at hn
    subst this; subst hv
    rw [run_convert_bytes_nil w src e hs he 0 0 dst hd]
    rfl
  · have hc := hown.cells (g := g) (by rw [hv]; rfl)
    subst hv
    exact run_convert_bytes_back w src dst e ⟨g, 0, none⟩ cap l hs he hd (fun j hj => by
      apply hc j
      simp [List.getElem?_eq_getElem hj, bv])

theorem OwnB.alloc {w : World} {base : Nat} {e : TypeId} {v : Value} {l : List UInt8} (h : OwnB w base e v l) (o : Obj) : OwnB (w.alloc o) base e v l := World.ownsRow.alloc h o
theorem OwnB.drew {w : World} {base : Nat} {e : TypeId} {v : Value} {l : List UInt8} (h : OwnB w base e v l) : OwnB w.drew base e v l := h
theorem OwnB.drewN {w : World} {base : Nat} {e : TypeId} {v : Value} {l : List UInt8} (n : Nat) (h : OwnB w base e v l) : OwnB (w.drewN n) base e v l := h

/-- 'out = append(out, b0, ..)' where out is a row of bytes of the call's own, and the new ones lie in a block: in ONE way. -/
theorem wp_append_bytes {P : Program} {W : World} {o : Oper} {a : Act} {K : Act → World → Prop} {Q : Exit → Act → World → Prop} (s x : Operand) (t : TypeId)
    (ho : o.op = .call { callee := .builtin .append, args := #[s, x], argTypes := #[t, t] })
    (base B : Nat) (e : TypeId) (i : TypeInfo) (ht : P.underlying t = some (.slice e)) (hi : P.info? e = some i) (hz : i.zero = some (.int .u8 0)) (hsize : i.size = 1) (hby : i.bytes = 1)
    (v : Value) (l : List UInt8) (hs : a.eval s = v) (hown' : OwnB W base e v l)
    (nb : Nat) (cs : Array Value) (hblk : W.heap[nb]? = some (.cells cs e (0, 0))) (news : List UInt8) (hcs : cs.toList = news.map bv) (m c : Nat) (hm : news.length = m) (hx : a.eval x = .slice (some ⟨nb, 0, none⟩) m c)
    (hlen : l.length + m ≤ 140737488355328) (hB : B ≤ base) (hbase : base ≤ W.heap.size) {w00 : World} (hbel : Below B w00 W)
    (h : ∀ v' w', OwnB w' base e v' (l ++ news) → Below B w00 w' → K (a.put o.dst v') w') : o.wp P a W K Q := by
  subst hm
  have hown : W.ownsRow base e 1 v l.length (l.map bv) := hown'
  have hcell : ∀ j u, (news.map bv)[j]? = some u → W.cell? ((⟨nb, 0, none⟩ : Addr).add j) = some u := by
    intro j u hu
    have hadd : (⟨nb, 0, none⟩ : Addr).add j = ⟨nb, j, none⟩ := by unfold Addr.add; split <;> simp_all
    rw [hadd, cell_of_row W nb j cs e (0, 0) hblk]
    rw [← hcs] at hu
    simpa using hu
  refine wp_append_own W s x t ho base e i (.int .u8 0) 1 1 ht hi hz hsize hby rfl (by decide) v l.length (l.map bv) hs hown
    ⟨nb, 0, none⟩ news.length c (news.map bv) hx (by simp) hcell (by intro u hu; simp only [List.mem_map] at hu; obtain ⟨b, _, rfl⟩ := hu; rfl) (by unfold maxLen; omega) (by omega) hbase ?_
  intro v' w' h1 h2 _
  refine h v' w' (by unfold OwnB; simpa using h1) ?_
  refine hbel.grown h2 (by omega) ?_
  intro k hk
  have := (hown.lt k hk).1
  omega

theorem wpList_append_bytes {P : Program} {w : World} {ops : Array Oper} {rest : List Oper} {o : Oper} {a : Act} {Q : Exit → Act → World → Prop} (hgd : o.guard = none) (s x : Operand) (t : TypeId)
    (ho : o.op = .call { callee := .builtin .append, args := #[s, x], argTypes := #[t, t] })
    (base B : Nat) (e : TypeId) (i : TypeInfo) (ht : P.underlying t = some (.slice e)) (hi : P.info? e = some i) (hz : i.zero = some (.int .u8 0)) (hsize : i.size = 1) (hby : i.bytes = 1)
    (v : Value) (l : List UInt8) (hs : a.eval s = v) (hown' : OwnB w base e v l)
    (cs : Array Value) (news : List UInt8) (hcs : cs.toList = news.map bv) (m c : Nat) (hm : news.length = m) (hx : a.eval x = .slice (some ⟨w.heap.size, 0, none⟩) m c)
    (hlen : l.length + m ≤ 140737488355328) (hB : B ≤ base) (hbase : base ≤ w.heap.size) {w00 : World} (hbel : Below B w00 w)
    (h : ∀ v' w', OwnB w' base e v' (l ++ news) → Below B w00 w' → wpList P ops Q rest (a.put o.dst v') w') :
    wpList P ops Q (o :: rest) a (w.alloc (.cells cs e)) :=
  wpList_plain hgd fun _ hK => wp_append_bytes s x t ho base B e i ht hi hz hsize hby v l hs (hown'.alloc _) w.heap.size cs (heap_alloc_new w _) news hcs m c hm hx hlen hB (by simp; omega) (hbel.alloc (by omega) _) fun v' w' h2 h3 => hK _ _ (h v' w' h2 h3)

/-- The same inside a region that draws its order. -/
theorem step_append_bytes {P : Program} {w W : World} {ops : Array Oper} {o : Oper} {a : Act} {K : Act → World → Prop} {Q : Exit → Act → World → Prop} {E : Prop} (hg : o.guard = none) (s x : Operand) (t : TypeId)
    (ho : o.op = .call { callee := .builtin .append, args := #[s, x], argTypes := #[t, t] })
    (base B : Nat) (e : TypeId) (i : TypeInfo) (ht : P.underlying t = some (.slice e)) (hi : P.info? e = some i) (hz : i.zero = some (.int .u8 0)) (hsize : i.size = 1) (hby : i.bytes = 1)
    (v : Value) (l : List UInt8) (hs : a.eval s = v) (hown' : OwnB w base e v l)
    (cs : Array Value) (news : List UInt8) (hcs : cs.toList = news.map bv) (m c : Nat) (hm : news.length = m) (hx : a.eval x = .slice (some ⟨w.heap.size, 0, none⟩) m c)
    (hW : W = (w.alloc (.cells cs e)).drew)
    (hlen : l.length + m ≤ 140737488355328) (hB : B ≤ base) (hbase : base ≤ w.heap.size) {w00 : World} (hbel : Below B w00 w)
    (h : ∀ v' w', OwnB w' base e v' (l ++ news) → Below B w00 w' → K (a.put o.dst v') w') :
    if Region.wanted o (yielded ops a.tmps) = true then Oper.wp P o a W K Q else E := by
  subst hW
  have hw : Region.wanted o (yielded ops a.tmps) = true := by simp [Region.wanted, hg]
  rw [if_pos hw]
  exact wp_append_bytes (W := (w.alloc (.cells cs e)).drew) s x t ho base B e i ht hi hz hsize hby v l hs ((hown'.alloc _).drew) w.heap.size cs (heap_alloc_new w _) news hcs m c hm hx hlen hB (by show base ≤ (w.alloc (.cells cs e)).heap.size; simp; omega) ((hbel.alloc (by omega) _).drew) h

/-- The bytes of a number: seven bits a byte, the lowest first (f: how many bytes may go on). -/
def varF : Nat → Nat → List UInt8
  | 0, n => [byteOf n]
  | f + 1, n => if n ≤ 127 then [byteOf n] else byteOf (n % 128 + 128) :: varF f (n / 128)
def varB (n : Nat) : List UInt8 := varF n n

theorem varF_more : ∀ (f g n : Nat), n ≤ f → n ≤ g → varF f n = varF g n := by
  intro f
  induction f with
  | zero =>
    intro g n h1 h2
    have : n = 0 := by omega
    subst this
    cases g with
    | zero => rfl
    | succ g => rfl
  | succ f ih =>
    intro g n h1 h2
    cases g with
    | zero =>
      have : n = 0 := by omega
      subst this
      rfl
    | succ g =>
      unfold varF
      by_cases h : n ≤ 127
      · rw [if_pos h, if_pos h]
      · rw [if_neg h, if_neg h, ih g (n / 128) (by omega) (by omega)]
theorem varB_small {n : Nat} (h : n ≤ 127) : varB n = [byteOf n] := by
  unfold varB
  cases n with
  | zero => rfl
  | succ n => unfold varF; rw [if_pos h]
theorem varB_big {n : Nat} (h : ¬ n ≤ 127) : varB n = byteOf (n % 128 + 128) :: varB (n / 128) := by
  unfold varB
  cases n with
  | zero => omega
  | succ n =>
    rw [varF, if_neg h, varF_more n ((n + 1) / 128) ((n + 1) / 128) (by omega) (Nat.le_refl _)]
theorem varB_len (n : Nat) : 1 ≤ (varB n).length ∧ (varB n).length ≤ n + 1 := by
  induction n using Nat.strongRecOn with
  | _ n ih =>
    by_cases h : n ≤ 127
    · rw [varB_small h]; simp
    · rw [varB_big h]
      have := ih (n / 128) (by omega)
      simp only [List.length_cons]
      omega
end Go.Proofs.Ytecbpplocokedaa

/- Laws of no program: a row of one-cell values that the call itself owns. -/
namespace Go.Proofs.Ytecbpplocokedaa
open Go.RowKit

/-- The slice value v is a row of the call's own (blocks from base on) that holds just the cells xs. -/
def OwnV (w : World) (base : Nat) (e : TypeId) (v : Value) (xs : List Value) : Prop := w.ownsRow base e 1 v xs.length xs

theorem OwnV.alloc {w : World} {base : Nat} {e : TypeId} {v : Value} {xs : List Value} (h : OwnV w base e v xs) (o : Obj) : OwnV (w.alloc o) base e v xs := World.ownsRow.alloc h o
theorem OwnV.drew {w : World} {base : Nat} {e : TypeId} {v : Value} {xs : List Value} (h : OwnV w base e v xs) : OwnV w.drew base e v xs := h
theorem OwnV.below {w w' : World} {base : Nat} {e : TypeId} {v : Value} {xs : List Value} (h : OwnV w base e v xs) (hb : Below w.heap.size w w') : OwnV w' base e v xs :=
  World.ownsRow.kept (row := none) h ⟨hb.os, hb.tape, hb.output, hb.size, fun k hk _ => hb.block k hk⟩ (by cases hv : v.ownBlock <;> simp)
theorem OwnV.below_at {w w' : World} {base B : Nat} {e : TypeId} {v : Value} {xs : List Value} (h : OwnV w base e v xs) (hb : Below B w w') (hB : ∀ g, v.ownBlock = some g → g < B) : OwnV w' base e v xs := by
  refine ⟨h.1, ?_⟩
  rcases h.2 with hn | ⟨g, cap, cur, rfl, hbg, hgg, rest⟩
  · exact .inl hn
  · refine .inr ⟨g, cap, cur, rfl, hbg, ?_, rest⟩
    rw [hb.block g (hB g rfl)]
    exact hgg
theorem OwnV.low {w : World} {base base' : Nat} {e : TypeId} {v : Value} {xs : List Value} (h : OwnV w base e v xs) (hb : base' ≤ base) : OwnV w base' e v xs := by
  refine ⟨h.1, ?_⟩
  rcases h.2 with hn | ⟨g, cap, cur, rfl, hbg, rest⟩
  · exact .inl hn
  · exact .inr ⟨g, cap, cur, rfl, by omega, rest⟩
theorem OwnV.lt {w : World} {base : Nat} {e : TypeId} {v : Value} {xs : List Value} (h : OwnV w base e v xs) : ∀ g, v.ownBlock = some g → base ≤ g ∧ g < w.heap.size := World.ownsRow.lt h
theorem OwnV.shape {w : World} {base : Nat} {e : TypeId} {v : Value} {xs : List Value} (h : OwnV w base e v xs) : ∃ a c, v = .slice a xs.length c := by
  rcases h.2 with ⟨h1, h2⟩ | ⟨g, cap, cur, h1, _⟩
  · exact ⟨none, 0, by rw [h1, h2]⟩
  · exact ⟨_, cap, h1⟩
theorem OwnV.cell {w : World} {base g n c : Nat} {e : TypeId} {xs : List Value} (h : OwnV w base e (.slice (some ⟨g, 0, none⟩) n c) xs) {k : Nat} {u : Value} (hk : xs[k]? = some u) : w.cell? ⟨g, k, none⟩ = some u := by
  have := World.ownsRow.cells h (g := g) rfl k u hk
  have hadd : (⟨g, 0, none⟩ : Addr).add k = ⟨g, k, none⟩ := by unfold Addr.add; split <;> simp_all
  rw [hadd] at this
  exact this
theorem OwnV.row {w : World} {base g n c : Nat} {e : TypeId} {xs : List Value} (h : OwnV w base e (.slice (some ⟨g, 0, none⟩) n c) xs) : ∃ cur, w.heap[g]? = some (.cells cur e (0, 0)) := by
  rcases h.2 with ⟨h1, _⟩ | ⟨g', cap, cur, h1, _, h2, _⟩
  · cases h1
  · simp only [Value.slice.injEq, Option.some.injEq, Addr.mk.injEq] at h1
    obtain ⟨⟨rfl, _⟩, _⟩ := h1
    exact ⟨cur, h2⟩
theorem OwnV.frozen {w : World} {base g n c : Nat} {e : TypeId} {xs : List Value} (h : OwnV w base e (.slice (some ⟨g, 0, none⟩) n c) xs) (k : Nat) : w.frozen? ⟨g, k, none⟩ = false := by
  obtain ⟨cur, hc⟩ := h.row
  exact frozen_of_row w g k cur e hc
theorem OwnV.set {w : World} {base g n c : Nat} {e : TypeId} {xs : List Value} (h : OwnV w base e (.slice (some ⟨g, 0, none⟩) n c) xs) (k : Nat) (u : Value) : OwnV (w.setCell ⟨g, k, none⟩ u) base e (.slice (some ⟨g, 0, none⟩) n c) (xs.set k u) := by
  refine ⟨by rw [Nat.mul_one], ?_⟩
  rcases h.2 with ⟨h1, _⟩ | ⟨g', cap, cur, h1, hb, h2, h3, h4, h5, h6⟩
  · cases h1
  · simp only [Value.slice.injEq, Option.some.injEq, Addr.mk.injEq] at h1
    obtain ⟨⟨rfl, _⟩, rfl, rfl⟩ := h1
    refine .inr ⟨g, c, cur.setIfInBounds k u, by rw [List.length_set], hb, heap_setCell_same w g k cur e u h2, by rw [List.length_set]; exact h3, h4, by rw [Array.size_setIfInBounds]; exact h5, ?_⟩
    rw [List.length_set, Array.toList_setIfInBounds, List.take_set, h6]
theorem OwnV.nil (w : World) (base : Nat) (e : TypeId) : OwnV w base e (.slice none 0 0) [] := World.ownsRow_nil w base e 1

theorem wp_append_vals {P : Program} {W : World} {o : Oper} {a : Act} {K : Act → World → Prop} {Q : Exit → Act → World → Prop} (s x : Operand) (t : TypeId)
    (ho : o.op = .call { callee := .builtin .append, args := #[s, x], argTypes := #[t, t] })
    (base B : Nat) (e : TypeId) (i : TypeInfo) (z : Value) (nb : Nat) (ht : P.underlying t = some (.slice e)) (hi : P.info? e = some i) (hz : i.zero = some z) (hsize : i.size = 1) (hby : i.bytes = nb) (hzs : z.cells.size = 1)
    (v : Value) (xs : List Value) (hs : a.eval s = v) (hown : OwnV W base e v xs)
    (blk : Nat) (cs : Array Value) (hblk : W.heap[blk]? = some (.cells cs e (0, 0))) (news : List Value) (hcs : cs.toList = news) (h1 : ∀ u ∈ news, u.oneCell' = true) (m c : Nat) (hm : news.length = m) (hx : a.eval x = .slice (some ⟨blk, 0, none⟩) m c)
    (h63 : xs.length + m ≤ maxLen) (hbytes : (xs.length + m) * nb ≤ 140737488355328) (hB : B ≤ base) (hbase : base ≤ W.heap.size) {w00 : World} (hbel : Below B w00 W)
    (h : ∀ v' w', OwnV w' base e v' (xs ++ news) → Below B w00 w' → K (a.put o.dst v') w') : o.wp P a W K Q := by
  subst hm
  have hcell : ∀ j u, news[j]? = some u → W.cell? ((⟨blk, 0, none⟩ : Addr).add j) = some u := by
    intro j u hu
    have hadd : (⟨blk, 0, none⟩ : Addr).add j = ⟨blk, j, none⟩ := by unfold Addr.add; split <;> simp_all
    rw [hadd, cell_of_row W blk j cs e (0, 0) hblk]
    rw [← hcs] at hu
    simpa using hu
  refine wp_append_own W s x t ho base e i z 1 nb ht hi hz hsize hby hzs (by decide) v xs.length xs hs hown
    ⟨blk, 0, none⟩ news.length c news hx (by simp) hcell h1 h63 hbytes hbase ?_
  intro v' w' h2 h3 _
  refine h v' w' (by unfold OwnV; simpa using h2) ?_
  refine hbel.grown h3 (by omega) ?_
  intro k hk
  have := (hown.lt k hk).1
  omega

theorem wpList_append_vals {P : Program} {w : World} {ops : Array Oper} {rest : List Oper} {o : Oper} {a : Act} {Q : Exit → Act → World → Prop} (hgd : o.guard = none) (s x : Operand) (t : TypeId)
    (ho : o.op = .call { callee := .builtin .append, args := #[s, x], argTypes := #[t, t] })
    (base B : Nat) (e : TypeId) (i : TypeInfo) (z : Value) (nb : Nat) (ht : P.underlying t = some (.slice e)) (hi : P.info? e = some i) (hz : i.zero = some z) (hsize : i.size = 1) (hby : i.bytes = nb) (hzs : z.cells.size = 1)
    (v : Value) (xs : List Value) (hs : a.eval s = v) (hown : OwnV w base e v xs)
    (cs : Array Value) (news : List Value) (hcs : cs.toList = news) (h1 : ∀ u ∈ news, u.oneCell' = true) (m c : Nat) (hm : news.length = m) (hx : a.eval x = .slice (some ⟨w.heap.size, 0, none⟩) m c)
    (h63 : xs.length + m ≤ maxLen) (hbytes : (xs.length + m) * nb ≤ 140737488355328) (hB : B ≤ base) (hbase : base ≤ w.heap.size) {w00 : World} (hbel : Below B w00 w)
    (h : ∀ v' w', OwnV w' base e v' (xs ++ news) → Below B w00 w' → wpList P ops Q rest (a.put o.dst v') w') :
    wpList P ops Q (o :: rest) a (w.alloc (.cells cs e)) :=
  wpList_plain hgd fun _ hK => wp_append_vals s x t ho base B e i z nb ht hi hz hsize hby hzs v xs hs (hown.alloc _) w.heap.size cs (heap_alloc_new w _) news hcs h1 m c hm hx h63 hbytes hB (by simp; omega) (hbel.alloc (by omega) _) fun v' w' h2 h3 => hK _ _ (h v' w' h2 h3)
end Go.Proofs.Ytecbpplocokedaa

/- The cursor that the draws go by: a struct of the call's own that holds the code, a place in it and a number; what the draws of a byte, of a number and of a text come to. -/
namespace Go.Proofs.Ytecbpplocokedaa
open Go.RowKit

theorem and255 (y : Int) : ∃ x : Nat, x < 256 ∧ bits .and .i64 y 255 = (x : Int) := by
  refine ⟨(BitVec.ofInt 64 y &&& BitVec.ofInt 64 255).toNat, ?_, ?_⟩
  · rw [BitVec.toNat_and]
    exact Nat.lt_of_le_of_lt Nat.and_le_right (by decide)
  · have h : (BitVec.ofInt 64 y &&& BitVec.ofInt 64 255).toNat < 256 := by
      rw [BitVec.toNat_and]
      exact Nat.lt_of_le_of_lt Nat.and_le_right (by decide)
    show IntKind.i64.wrap (((BitVec.ofInt 64 y &&& BitVec.ofInt 64 255).toNat : Nat) : Int) = _
    rw [IntKind.wrap_i64]
    omega

theorem and30 (y : Int) : ∃ x : Nat, x ≤ 1073741823 ∧ bits .and .i64 y 1073741823 = (x : Int) := by
  have h : (BitVec.ofInt 64 y &&& BitVec.ofInt 64 1073741823).toNat ≤ 1073741823 := by
    rw [BitVec.toNat_and]
    exact Nat.le_trans Nat.and_le_right (by decide)
  refine ⟨_, h, ?_⟩
  show IntKind.i64.wrap (((BitVec.ofInt 64 y &&& BitVec.ofInt 64 1073741823).toNat : Nat) : Int) = _
  rw [IntKind.wrap_i64]
  omega

/-- The bytes that the code holds. -/
def Src (w : World) (base : Nat) (o : Option Addr) (n : Nat) : Prop :=
  ∀ j, j < n → ∃ (b off z : Nat), o = some ⟨b, off, none⟩ ∧ b < base ∧ z < 256 ∧ w.cell? ⟨b, off + j, none⟩ = some (.int .u8 (z : Int))
theorem Src.below {w w' : World} {base B n : Nat} {o : Option Addr} (h : Src w base o n) (hb : Below B w w') (hB : base ≤ B) : Src w' base o n := by
  intro j hj
  obtain ⟨b, off, z, h1, h2, h3, h4⟩ := h j hj
  exact ⟨b, off, z, h1, h2, h3, by rw [hb.cell (by show b < B; omega)]; exact h4⟩
theorem Src.up {w : World} {base B n : Nat} {o : Option Addr} (h : Src w base o n) (hB : base ≤ B) : Src w B o n := by
  intro j hj
  obtain ⟨b, off, z, h1, h2, h3, h4⟩ := h j hj
  exact ⟨b, off, z, h1, by omega, h3, h4⟩

/-- A cursor in block g (of the call's own, from base on) over the code. -/
structure Cur (w : World) (base g : Nat) (o : Option Addr) (n c : Nat) : Prop where
  lo : base ≤ g
  blk : ∃ i h : Int, 0 ≤ i ∧ w.heap[g]? = some (.cells #[.slice o n c, .int .i64 i, .int .i64 h] 61 (0, 0))
  src : Src w base o n

theorem Cur.lt {w : World} {base g n c : Nat} {o : Option Addr} (h : Cur w base g o n c) : g < w.heap.size := by
  obtain ⟨i, k, _, hh⟩ := h.blk
  exact (Array.getElem?_eq_some_iff.1 hh).1
theorem Cur.below {w w' : World} {base B g n c : Nat} {o : Option Addr} (h : Cur w base g o n c) (hb : Below B w w') (hB : g < B) : Cur w' base g o n c := by
  obtain ⟨i, k, hi, hh⟩ := h.blk
  exact ⟨h.lo, ⟨i, k, hi, by rw [hb.block g hB]; exact hh⟩, h.src.below hb (by have := h.lo; omega)⟩

/-- Nothing but block g has turned. -/
structure Only (g : Nat) (w w' : World) : Prop where
  os : w'.os = w.os
  tape : w'.tape = w.tape
  output : w'.output = w.output
  size : w'.heap.size = w.heap.size
  block : ∀ k, k ≠ g → w'.heap[k]? = w.heap[k]?
theorem Only.below {g base : Nat} {w w' : World} (h : Only g w w') (hb : base ≤ g) : Below base w w' := ⟨h.os, h.tape, h.output, by rw [h.size]; exact Nat.le_refl _, fun k hk => h.block k (by omega)⟩
theorem Only.refl (g : Nat) (w : World) : Only g w w := ⟨rfl, rfl, rfl, rfl, fun _ _ => rfl⟩
theorem Only.trans {g : Nat} {a b c : World} (h : Only g a b) (k : Only g b c) : Only g a c :=
  ⟨k.os.trans h.os, k.tape.trans h.tape, k.output.trans h.output, k.size.trans h.size, fun i hi => (k.block i hi).trans (h.block i hi)⟩
theorem Only.drewN {g : Nat} {a b : World} (h : Only g a b) (n : Nat) : Only g a (b.drewN n) := ⟨h.os, h.tape, h.output, h.size, h.block⟩
theorem Only.drew {g : Nat} {a b : World} (h : Only g a b) : Only g a b.drew := ⟨h.os, h.tape, h.output, h.size, h.block⟩
theorem Only.setCell {g : Nat} {a w : World} (h : Only g a w) (k : Nat) (u : Value) : Only g a (w.setCell ⟨g, k, none⟩ u) :=
  h.trans ⟨rfl, rfl, rfl, by simp [World.setCell], fun k hk => Below.heap_setCell _ _ _ _ (by simpa using hk)⟩
theorem OwnB.only {w w' : World} {base g : Nat} {e : TypeId} {v : Value} {l : List UInt8} (h : OwnB w base e v l) (ho : Only g w w') (hg : g < base) : OwnB w' base e v l := by
  refine ⟨h.1, ?_⟩
  rcases h.2 with hn | ⟨g', cap, cur, rfl, hbg, hgg, rest⟩
  · exact .inl hn
  · exact .inr ⟨g', cap, cur, rfl, hbg, by rw [ho.block g' (by omega)]; exact hgg, rest⟩
theorem OwnV.only {w w' : World} {base g : Nat} {e : TypeId} {v : Value} {xs : List Value} (h : OwnV w base e v xs) (ho : Only g w w') (hg : g < base) : OwnV w' base e v xs := by
  refine ⟨h.1, ?_⟩
  rcases h.2 with hn | ⟨g', cap, cur, rfl, hbg, hgg, rest⟩
  · exact .inl hn
  · exact .inr ⟨g', cap, cur, rfl, hbg, by rw [ho.block g' (by omega)]; exact hgg, rest⟩

theorem heap_set3 {w : World} {g : Nat} {a b c : Value} {T : TypeId} (h : w.heap[g]? = some (.cells #[a, b, c] T (0, 0))) (u : Value) :
    (w.setCell ⟨g, 2, none⟩ u).heap[g]? = some (.cells #[a, b, u] T (0, 0)) := heap_setCell_same w g 2 #[a, b, c] T u h
theorem heap_set2 {w : World} {g : Nat} {a b c : Value} {T : TypeId} (h : w.heap[g]? = some (.cells #[a, b, c] T (0, 0))) (u : Value) :
    (w.setCell ⟨g, 1, none⟩ u).heap[g]? = some (.cells #[a, u, c] T (0, 0)) := heap_setCell_same w g 1 #[a, b, c] T u h

set_option maxRecDepth 20000 in
set_option maxHeartbeats 400000 in
theorem l01Byte_end (w : World) (g n c : Nat) (o : Option Addr) (i h : Int) (hh : Hid (w.heap[g]? = some (.cells #[.slice o n c, .int .i64 i, .int .i64 h] 61 (0, 0)))) (hi0 : 0 ≤ i) (hi : ¬ i < (n : Int)) :
    Calls Try.prog 47 #[.pointer (some ⟨g, 0, none⟩)] w fun e w' => ∃ x : Nat, x < 256 ∧ e = .returned (.int .i64 (x : Int)) ∧ Only g w w' ∧ ∃ i h : Int, 0 ≤ i ∧ w'.heap[g]? = some (.cells #[.slice o n c, .int .i64 i, .int .i64 h] 61 (0, 0)) := by
  have hc0 : w.cell? ⟨g, 0, none⟩ = some (.slice o n c) := by rw [cell_of_row w g 0 _ _ (0, 0) (unhide hh)]; rfl
  have hc1 : w.cell? ⟨g, 1, none⟩ = some (.int .i64 i) := by rw [cell_of_row w g 1 _ _ (0, 0) (unhide hh)]; rfl
  have hc2 : w.cell? ⟨g, 2, none⟩ = some (.int .i64 h) := by rw [cell_of_row w g 2 _ _ (0, 0) (unhide hh)]; rfl
  have hf1 : w.frozen? ⟨g, 1, none⟩ = false := frozen_of_row w g 1 _ _ (unhide hh)
  have hf2 : w.frozen? ⟨g, 2, none⟩ = false := frozen_of_row w g 2 _ _ (unhide hh)
  obtain ⟨h1, e1⟩ : ∃ h1, wrap64 (wrap64 (h * 6364136223846793005) + 1442695040888963407) = h1 := ⟨_, rfl⟩
  obtain ⟨x, hx, e2⟩ := and255 (bits .xor .i64 (h1 / 8589934592) (h1 / 35184372088832))
  have HH := hide (heap_set3 (unhide hh) (.int .i64 h1))
  have hd : decide (i < (n : Int)) = false := by rw [decide_eq_false_iff_not]; exact hi
  go_enter Try.func47, Try.ntmps47
  go_wp2
  go_quiet (fail)
  go_wp2
  go_quiet (fail)
  go_wp2
  go_ret
  exact ⟨x, hx, rfl, (((Only.refl g w).setCell 2 _).drewN _).drewN _, i, h1, hi0, unhide HH⟩

set_option maxRecDepth 20000 in
set_option maxHeartbeats 400000 in
theorem l01Byte_more (w : World) (g n c : Nat) (b off z : Nat) (k : Nat) (h : Int) (hh : Hid (w.heap[g]? = some (.cells #[.slice (some ⟨b, off, none⟩) n c, .int .i64 (k : Int), .int .i64 h] 61 (0, 0)))) (hi : (k : Int) < (n : Int))
    (hn : n ≤ 1048576) (hz : z < 256) (hcell : w.cell? ⟨b, off + k, none⟩ = some (.int .u8 (z : Int))) (hbg : b ≠ g) :
    Calls Try.prog 47 #[.pointer (some ⟨g, 0, none⟩)] w fun e w' => ∃ x : Nat, x < 256 ∧ e = .returned (.int .i64 (x : Int)) ∧ Only g w w' ∧ ∃ i h : Int, 0 ≤ i ∧ w'.heap[g]? = some (.cells #[.slice (some ⟨b, off, none⟩) n c, .int .i64 i, .int .i64 h] 61 (0, 0)) := by
  have hc0 : w.cell? ⟨g, 0, none⟩ = some (.slice (some ⟨b, off, none⟩) n c) := by rw [cell_of_row w g 0 _ _ (0, 0) (unhide hh)]; rfl
  have hc1 : w.cell? ⟨g, 1, none⟩ = some (.int .i64 (k : Int)) := by rw [cell_of_row w g 1 _ _ (0, 0) (unhide hh)]; rfl
  have hc2 : w.cell? ⟨g, 2, none⟩ = some (.int .i64 h) := by rw [cell_of_row w g 2 _ _ (0, 0) (unhide hh)]; rfl
  have hf1 : w.frozen? ⟨g, 1, none⟩ = false := frozen_of_row w g 1 _ _ (unhide hh)
  have hf2 : w.frozen? ⟨g, 2, none⟩ = false := frozen_of_row w g 2 _ _ (unhide hh)
  obtain ⟨h1, e1⟩ : ∃ h1, wrap64 (wrap64 (h * 6364136223846793005) + 1442695040888963407) = h1 := ⟨_, rfl⟩
  obtain ⟨x, hx, e2⟩ := and255 (bits .xor .i64 (h1 / 8589934592) (h1 / 35184372088832))
  obtain ⟨x2, hx2, e3⟩ := and255 ((x : Int) + (z : Int))
  have HH := hide (heap_set2 (heap_set3 (unhide hh) (.int .i64 h1)) (.int .i64 ((k + 1 : Nat) : Int)))
  have hd : decide ((k : Int) < (n : Int)) = true := by rw [decide_eq_true_iff]; exact hi
  have hk0 : (0 : Int) ≤ (k : Int) := by omega
  go_enter Try.func47, Try.ntmps47
  go_wp2
  go_quiet (fail)
  go_wp2
  go_quiet (fail)
  go_wp2
  go_quiet (fail)
  go_wp2
  go_ret
  exact ⟨x2, hx2, rfl, (((Only.refl g w).setCell 2 _).drewN _).setCell 1 _, (k + 1 : Nat), h1, by omega, unhide HH⟩

/-- A drawn byte. -/
theorem l01Byte_any {w : World} {base g n c : Nat} {o : Option Addr} (h : Cur w base g o n c) (hn : n ≤ 1048576) :
    Calls Try.prog 47 #[.pointer (some ⟨g, 0, none⟩)] w fun e w' => ∃ x : Nat, x < 256 ∧ e = .returned (.int .i64 (x : Int)) ∧ Only g w w' ∧ Cur w' base g o n c := by
  obtain ⟨i, k, hi, hh⟩ := h.blk
  have fin : ∀ (e : Ending) (w' : World), (∃ x : Nat, x < 256 ∧ e = .returned (.int .i64 (x : Int)) ∧ Only g w w' ∧ ∃ i h : Int, 0 ≤ i ∧ w'.heap[g]? = some (.cells #[.slice o n c, .int .i64 i, .int .i64 h] 61 (0, 0))) →
      ∃ x : Nat, x < 256 ∧ e = .returned (.int .i64 (x : Int)) ∧ Only g w w' ∧ Cur w' base g o n c := by
    rintro e w' ⟨x, hx, he, ho, hb⟩
    exact ⟨x, hx, he, ho, ⟨h.lo, hb, h.src.below (ho.below h.lo) (Nat.le_refl _)⟩⟩
  by_cases hlt : i < (n : Int)
  · obtain ⟨j, rfl⟩ := Int.eq_ofNat_of_zero_le hi
    obtain ⟨b, off, z, rfl, hb, hz, hc⟩ := h.src j (by omega)
    exact (l01Byte_more w g n c b off z j k (hide hh) hlt hn hz hc (by have := h.lo; omega)).mono fin
  · exact (l01Byte_end w g n c o i k (hide hh) hi hlt).mono fin

set_option maxRecDepth 20000 in
set_option maxHeartbeats 400000 in
/-- A drawn number below m. -/
theorem l01Below_any {w : World} {base g n c : Nat} {o : Option Addr} (h : Cur w base g o n c) (hn : n ≤ 1048576) (m : Nat) (hm : 0 < m) (hm2 : m ≤ 4294967296) :
    Calls Try.prog 35 #[.pointer (some ⟨g, 0, none⟩), .int .i64 (m : Int)] w fun e w' => ∃ x : Nat, x < m ∧ e = .returned (.int .i64 (x : Int)) ∧ Only g w w' ∧ Cur w' base g o n c := by
  have H := hide h
  clear h
  have h0 : ¬ (m : Int) ≤ 0 := by omega
  by_cases h1 : (m : Int) ≤ 256
  · go_enter Try.func35, Try.ntmps35
    go_wp2_with (go_at_call 47; refine (l01Byte_any (unhide H) hn).mono ?_; rintro e w1 ⟨x, hx, rfl, ho, hc⟩; replace hc := hide hc)
    go_ret
    exact ⟨x % m, Nat.mod_lt _ hm, rfl, ho, unhide hc⟩
  · go_enter Try.func35, Try.ntmps35
    go_wp2_with fail
    go_at_call 47
    refine (l01Byte_any (unhide H) hn).mono ?_
    rintro e w1 ⟨x1, hx1, rfl, ho1, hc1⟩
    replace hc1 := hide hc1
    go_wp2_with fail
    go_at_call 47
    refine (l01Byte_any (unhide hc1) hn).mono ?_
    rintro e w2 ⟨x2, hx2, rfl, ho2, hc2⟩
    replace hc2 := hide hc2
    go_wp2_with fail
    go_at_call 47
    refine (l01Byte_any (unhide hc2) hn).mono ?_
    rintro e w3 ⟨x3, hx3, rfl, ho3, hc3⟩
    replace hc3 := hide hc3
    go_wp2_with fail
    go_at_call 47
    refine (l01Byte_any (unhide hc3) hn).mono ?_
    rintro e w4 ⟨x4, hx4, rfl, ho4, hc4⟩
    replace hc4 := hide hc4
    go_wp2
    go_ret
    exact ⟨(x1 * 16777216 + x2 * 65536 + x3 * 256 + x4) % m, Nat.mod_lt _ hm, rfl, ((ho1.trans ho2).trans ho3).trans ho4, unhide hc4⟩

theorem cs_at {b : UInt8} {v : Int} (h : (b.toNat : Int) = v) : (#[Value.int .u8 v] : Array Value).toList = [b].map bv := by subst h; rfl

theorem Try.infoBC : (Try.prog.info? 5).map (fun i => (i.zero, i.size, i.bytes)) = some (some (.int .u8 0), 1, 1) := by kernel_rfl

set_option maxRecDepth 20000 in
set_option maxHeartbeats 400000 in
/-- A drawn text of m bytes. -/
theorem l01Text_any {w : World} {base g n c : Nat} {o : Option Addr} (h : Cur w base g o n c) (hn : n ≤ 1048576) (m : Nat) (hm : m ≤ 5000) :
    Calls Try.prog 36 #[.pointer (some ⟨g, 0, none⟩), .int .i64 (m : Int)] w fun e w' => ∃ l : List UInt8, l.length = m ∧ e = .returned (.string ⟨l.toArray⟩) ∧ Below base w w' ∧ Cur w' base g o n c := by
  obtain ⟨i0, hi, hz0, hz1, hz2⟩ := info_parts Try.infoBC
  have H := hide h
  clear h
  have h0 : ¬ (5000 : Int) < (m : Int) := by omega
  go_enter Try.func36, Try.ntmps36
  go_wp2
  have hg := (unhide H).lt
  have hlo := (unhide H).lo
  go_loopw [5, 6] (fun v ti wr => ∃ (k : Nat) (pre : List UInt8), k ≤ m ∧ pre.length = k ∧ ti = .int .i64 (k : Int) ∧ OwnB wr w.heap.size 5 v pre ∧ Below base w wr ∧ Hid (Cur wr base g o n c))
    (fun _ ti _ => m - (intOf ti).toNat)
  case atStart => exact ⟨0, [], Nat.zero_le _, rfl, rfl, World.ownsRow_made w #[] 0 (Nat.le_refl _) (by decide) (by simp), (Below.refl base w).alloc (by omega) _, (unhide H).below ((Below.refl (g + 1) w).alloc (by omega) _) (by omega)⟩
  case round =>
    clear H h0
    obtain ⟨k, pre, hk, hpl, rfl, hown, hb, HC⟩ := hrel
    have hsz := hb.size
    by_cases hlt : k < m
    · go_wp2_with fail
      go_at_call 47
      refine (l01Byte_any (unhide HC) hn).mono ?_
      rintro e w1 ⟨x, hx, rfl, ho, hc1⟩
      have hown1 := hown.only ho hg
      have hb1 := hb.trans (ho.below hlo)
      have hsz1 := hb1.size
      replace hc1 := hide hc1
      replace ho := hide ho
      clear hown hb HC
      have hbx : ((byteOf x).toNat : Int) = (x : Int) := by rw [byteOf_toNat hx]
      go_wp2_with (at_builtin; refine wpList_append_bytes rfl (.tmp 15) (.tmp 19) 22 rfl w.heap.size w.heap.size 5 i0 Try.underlying22 hi hz0 hz1 hz2 _ pre rfl hown1 _ [byteOf x] (cs_at hbx) 1 1 rfl rfl (by omega) (Nat.le_refl _) hsz1 (Below.refl _ w1) ?_; intro v' w2 hown' hb2)
      have hc2 := hide ((unhide hc1).below hb2 hg)
      have hb' := hb1.trans (hb2.mono (show base ≤ w.heap.size by omega))
      clear hown1 hb1 hb2 hc1
      go_wp2
      go_roundw
      case rel => exact ⟨k + 1, pre ++ [byteOf x], by omega, by simp [hpl], by go_num, hown', hb', hc2⟩
      case measure => simp [intOf]; omega
    · have hke : k = m := by omega
      have hc := run_string_owned (P := Try.prog) wr 22 9 5 w.heap.size _ _ Try.underlying22 Try.underlying5 Try.underlying9 hown
      clear hown
      go_wp2
      go_ret
      exact ⟨pre, by omega, rfl, hb, unhide HC⟩

set_option maxRecDepth 20000 in
set_option maxHeartbeats 400000 in
/-- A new cursor over the code. -/
theorem l01New_any (w : World) (o : Option Addr) (n c : Nat) (hs : Src w w.heap.size o n) (hn : n ≤ 1048576) :
    Calls Try.prog 26 #[.slice o n c] w fun e w' => e = .returned (.pointer (some ⟨w.heap.size, 0, none⟩)) ∧ Below w.heap.size w w' ∧ Cur w' w.heap.size w.heap.size o n c := by
  have HS := hide hs
  clear hs
  go_enter Try.func26, Try.ntmps26
  go_wp2
  go_loop [3, 4] (fun th ti => ∃ h k : Nat, h ≤ 1073741823 ∧ k ≤ n ∧ th = .int .i64 (h : Int) ∧ ti = .int .i64 (k : Int)) (fun _ ti => n - (intOf ti).toNat)
  case atStart => exact ⟨27401 + n, 0, by omega, Nat.zero_le _, by simp, rfl⟩
  case round =>
    obtain ⟨h, k, hh, hk, rfl, rfl⟩ := hrel
    by_cases hlt : (k : Int) < (n : Int)
    · have hd : decide ((k : Int) < (n : Int)) = true := by rw [decide_eq_true_iff]; exact hlt
      by_cases hlt2 : (k : Int) < 4000
      · have hd2 : decide ((k : Int) < 4000) = true := by rw [decide_eq_true_iff]; exact hlt2
        obtain ⟨b, off, z, rfl, hb, hz, hcell⟩ := (unhide HS) k (by omega)
        obtain ⟨x, hx, e3⟩ := and30 ((h : Int) * 131 + (z : Int) + 7)
        have hk0 : (0 : Int) ≤ (k : Int) := by omega
        go_wp2
        go_round
        case rel => exact ⟨x, k + 1, by omega, by omega, rfl, by go_num⟩
        case measure => simp [intOf]; omega
      · have hd2 : decide ((k : Int) < 4000) = false := by rw [decide_eq_false_iff_not]; exact hlt2
        go_wp2
        go_ret
        exact ⟨rfl, (Below.refl _ _).alloc (Nat.le_refl _) _, Nat.le_refl _, ⟨0, h, by omega, heap_alloc_new w _⟩, (unhide HS).below ((Below.refl _ _).alloc (Nat.le_refl _) _) (Nat.le_refl _)⟩
    · have hd : decide ((k : Int) < (n : Int)) = false := by rw [decide_eq_false_iff_not]; exact hlt
      go_wp2
      go_ret
      exact ⟨rfl, (Below.refl _ _).alloc (Nat.le_refl _) _, Nat.le_refl _, ⟨0, h, by omega, heap_alloc_new w _⟩, (unhide HS).below ((Below.refl _ _).alloc (Nat.le_refl _) _) (Nat.le_refl _)⟩

end Go.Proofs.Ytecbpplocokedaa

/- A code that comes in as an argument, read as a row of bytes. -/
namespace Go.Proofs.Ytecbpplocokedaa
open Go.ChangeShapes Go.WideShapes Go.ChangeAt Go.RowKit Go.WideElems
set_option maxRecDepth 20000 in
theorem src_of {H : Type} {enc : TypeId × Value → H} {W : World} {o : Option Addr} {len cap : Nat} {d : DataW H} {ps : List MemPlace} (h0 : DataW.Trod enc Try.prog W 0 (fun _ => true) true 22 (.slice o len cap) d ps) (hlt : ∀ x ∈ ps, x.block < W.heap.size) :
    ∀ j, j < len → ∃ (b off z : Nat), o = some ⟨b, off, none⟩ ∧ b < W.heap.size ∧ z < 256 ∧ W.cell? ⟨b, off + j, none⟩ = some (.int .u8 (z : Int)) := by
  obtain ⟨fuel, hf⟩ := h0
  rcases open_ints Try.underlying22 Try.underlying5 (by kernel_rfl) hf with ⟨hcs, hx⟩ | ⟨a, len', cap', zs, hcs, _, hl, hm, hz, hx, hcell, hwz⟩
  · simp [Value.cells] at hcs
    obtain ⟨rfl, rfl, rfl⟩ := hcs
    intro j hj
    omega
  · simp [Value.cells] at hcs
    obtain ⟨rfl, rfl, rfl⟩ := hcs
    simp only [Prod.mk.injEq] at hx
    obtain ⟨rfl, rfl⟩ := hx
    simp only [if_true] at hz
    intro j hj
    have hpos : 0 < zs.length := by omega
    have hj' : j < zs.length := by omega
    obtain ⟨b, off, rfl, hc2⟩ := ints_at hcell hpos
    have hb : b < W.heap.size := hlt (.cell b off) (MemPlace.mem_row.2 ⟨0, hpos, by simp⟩)
    have hget : zs.getD j 0 = zs[j] := by simp [List.getD, List.getElem?_eq_getElem hj']
    have hw := bounds_u8 (hwz zs[j] (List.getElem_mem hj'))
    refine ⟨b, off, zs[j].toNat, rfl, hb, by omega, ?_⟩
    rw [hc2 j hj', hget, Int.toNat_of_nonneg hw.1]
end Go.Proofs.Ytecbpplocokedaa

/- One byte of a number, by the given model, over the loaded program. -/
namespace Go.Proofs.Ytecbpplocokedaa
open Go.RowKit
def b256 (z : Int) : Nat := (z % 256).toNat
theorem b256_lt (z : Int) : b256 z < 256 := by unfold b256; omega
def oneY (z : Int) : ByteArray := ⟨#[UInt8.ofNat (b256 z)]⟩
theorem conv_oneY (w : World) (x : Nat) (hx : x < 256) : (convert 22 9 (.slice (some ⟨w.heap.size, 0, none⟩) 1 1)).run Try.prog (w.alloc (.cells #[.int .u8 (x : Int)] 5)) = .ok (.string ⟨#[UInt8.ofNat x]⟩) (w.alloc (.cells #[.int .u8 (x : Int)] 5)) := by
  refine run_convert_bytes_back (P := Try.prog) _ 22 9 5 ⟨w.heap.size, 0, none⟩ 1 [UInt8.ofNat x] Try.underlying22 Try.underlying5 Try.underlying9 (fun j hj => ?_)
  have hj0 : j = 0 := by simpa using hj
  subst hj0
  have hadd : (⟨w.heap.size, 0, none⟩ : Addr).add 0 = ⟨w.heap.size, 0, none⟩ := by unfold Addr.add; split <;> simp_all
  rw [hadd, cell_of_row _ w.heap.size 0 _ _ (0, 0) (heap_alloc_new w _)]
  have hb : (UInt8.ofNat x).toNat = x := byteOf_toNat hx
  simp [hb]
end Go.Proofs.Ytecbpplocokedaa

/- What spec.l01Var and impl.VarText come to, over the loaded program: the bytes of a number. -/
namespace Go.Proofs.Ytecbpplocokedaa
open Go.RowKit

theorem Try.infoB : (Try.prog.info? 5).map (fun i => (i.zero, i.size, i.bytes)) = some (some (.int .u8 0), 1, 1) := by kernel_rfl

theorem cs_one {c : Int} {b : UInt8} (h : c = (b.toNat : Int)) : (#[Value.int .u8 c] : Array Value).toList = [b].map bv := by simp [bv, h]

theorem var_hi (m : Nat) : (m : Int) % 128 + 128 = ((byteOf (m % 128 + 128)).toNat : Int) := by rw [byteOf_toNat (by omega)]; omega
theorem var_lo {m : Nat} (h : m ≤ 127) : (m : Int) = ((byteOf m).toNat : Int) := by rw [byteOf_toNat (by omega)]

theorem var_step {n m : Nat} {pre : List UInt8} (h : pre ++ varB m = varB n) (hm : 127 < m) :
    (pre ++ [byteOf (m % 128 + 128)]) ++ varB (m / 128) = varB n ∧ (pre ++ [byteOf (m % 128 + 128)]).length ≤ n := by
  rw [varB_big (by omega)] at h
  have h1 : (pre ++ [byteOf (m % 128 + 128)]) ++ varB (m / 128) = varB n := by rw [← h]; simp
  refine ⟨h1, ?_⟩
  have := congrArg List.length h1
  have := varB_len n
  have := varB_len (m / 128)
  simp only [List.length_append] at *
  omega
theorem var_end {n m : Nat} {pre : List UInt8} (h : pre ++ varB m = varB n) (hm : ¬ 127 < m) : pre ++ [byteOf m] = varB n := by
  rw [varB_small (by omega)] at h; exact h


/-! spec.VarText -/
theorem l01In_any (x a b : Int) (w : World) : Calls Try.prog 30 #[.int .i64 x, .int .i64 a, .int .i64 b] w fun e w' => e = .returned (.bool (decide (a ≤ x) && decide (x ≤ b))) ∧ w' = w := by
  by_cases h0 : a ≤ x
  · by_cases h1 : x ≤ b
    all_goals
      go_enter Try.func30, Try.ntmps30
      go_wp2
      go_ret
      exact ⟨by simp [h0, h1], rfl⟩
  · go_enter Try.func30, Try.ntmps30
    go_wp2
    go_ret
    exact ⟨by simp; omega, rfl⟩

theorem l01In_yes (x a b : Int) (w : World) (h1 : a ≤ x) (h2 : x ≤ b) : Calls Try.prog 30 #[.int .i64 x, .int .i64 a, .int .i64 b] w fun e w' => e = .returned (.bool true) ∧ w' = w := by
  refine (l01In_any x a b w).mono ?_
  rintro e w' ⟨rfl, rfl⟩
  exact ⟨by simp [h1, h2], rfl⟩

theorem l01In_no (x a b : Int) (w : World) (h : x < a ∨ b < x) : Calls Try.prog 30 #[.int .i64 x, .int .i64 a, .int .i64 b] w fun e w' => e = .returned (.bool false) ∧ w' = w := by
  refine (l01In_any x a b w).mono ?_
  rintro e w' ⟨rfl, rfl⟩
  refine ⟨?_, rfl⟩
  have : (decide (a ≤ x) && decide (x ≤ b)) = false := by simp; omega
  rw [this]

end Go.Proofs.Ytecbpplocokedaa

/- The number whose bytes stand in a text: the mathematics, of no program. -/
namespace Go.Proofs.Ytecbpplocokedaa

/-- What is read from place i on, when the bytes from the place at on gave n so far, and the next counts u (f: how many may come). -/
def rvF (s : ByteArray) (at' : Nat) : Nat → Nat → Nat → Nat → Option (Nat × Nat)
  | 0, _, _, _ => none
  | f + 1, i, u, n =>
    if h : i < s.size ∧ i < at' + 5 then
      if 127 < s[i].toNat then rvF s at' f (i + 1) (u * 128) (n + s[i].toNat % 128 * u)
      else if (s[i].toNat = 0 ∧ at' < i) ∨ 1000000000 < n + s[i].toNat % 128 * u then none
      else some (n + s[i].toNat % 128 * u, i + 1)
    else none
def rvRun (s : ByteArray) (at' i u n : Nat) : Option (Nat × Nat) := rvF s at' (s.size - i) i u n

theorem rvRun_out {s : ByteArray} {a i u n : Nat} (h : ¬ (i < s.size ∧ i < a + 5)) : rvRun s a i u n = none := by
  unfold rvRun
  cases s.size - i with
  | zero => rfl
  | succ f => rw [rvF, dif_neg h]
theorem rvRun_in {s : ByteArray} {a i u n : Nat} (h : i < s.size) (h5 : i < a + 5) :
    rvRun s a i u n = if 127 < s[i].toNat then rvRun s a (i + 1) (u * 128) (n + s[i].toNat % 128 * u)
      else if (s[i].toNat = 0 ∧ a < i) ∨ 1000000000 < n + s[i].toNat % 128 * u then none else some (n + s[i].toNat % 128 * u, i + 1) := by
  unfold rvRun
  rw [show s.size - i = (s.size - (i + 1)) + 1 by omega, rvF, dif_pos ⟨h, h5⟩]
theorem rvRun_on {s : ByteArray} {a i u n : Nat} (h : i < s.size) (h5 : i < a + 5) (hb : 127 < s[i].toNat) :
    rvRun s a i u n = rvRun s a (i + 1) (u * 128) (n + s[i].toNat % 128 * u) := by
  rw [rvRun_in h h5, if_pos hb]
theorem rvRun_no {s : ByteArray} {a i u n : Nat} (h : i < s.size) (h5 : i < a + 5) (hb : ¬ 127 < s[i].toNat) (hn : (s[i].toNat = 0 ∧ a < i) ∨ 1000000000 < n + s[i].toNat % 128 * u) :
    rvRun s a i u n = none := by
  rw [rvRun_in h h5, if_neg hb, if_pos hn]
theorem rvRun_yes {s : ByteArray} {a i u n : Nat} (h : i < s.size) (h5 : i < a + 5) (hb : ¬ 127 < s[i].toNat) (hn : ¬ ((s[i].toNat = 0 ∧ a < i) ∨ 1000000000 < n + s[i].toNat % 128 * u)) :
    rvRun s a i u n = some (n + s[i].toNat % 128 * u, i + 1) := by
  rw [rvRun_in h h5, if_neg hb, if_neg hn]

theorem rv_cast (n b u : Nat) : (n : Int) + (b : Int) % 128 * (u : Int) = ((n + b % 128 * u : Nat) : Int) := by push_cast; rfl

/-- Where it stands behind i - a bytes that go on. -/
structure RvAt (s : ByteArray) (a i u n : Nat) : Prop where
  unit : u = 128 ^ (i - a)
  less : n < u
  bytes : ∀ m, 1 ≤ m → varB (n + m * u) = (s.data.toList.drop a).take (i - a) ++ varB m
  zero : i = a → n = 0
  same : rvRun s a i u n = rvRun s a a 1 0

theorem RvAt.start (s : ByteArray) (a : Nat) : RvAt s a a 1 0 :=
  ⟨by simp, by omega, fun m _ => by simp, fun _ => rfl, rfl⟩

theorem RvAt.bound {s : ByteArray} {a i u n : Nat} (h : RvAt s a i u n) (h5 : i ≤ a + 5) (ha : a ≤ i) : u ≤ 34359738368 ∧ (i < a + 5 → u ≤ 268435456) ∧ (¬ i < a + 5 → u = 34359738368) := by
  have := h.unit
  obtain ⟨k, rfl⟩ : ∃ k, i = a + k := ⟨i - a, by omega⟩
  have hk : k ≤ 5 := by omega
  simp only [Nat.add_sub_cancel_left] at this
  have : k = 0 ∨ k = 1 ∨ k = 2 ∨ k = 3 ∨ k = 4 ∨ k = 5 := by omega
  rcases this with rfl | rfl | rfl | rfl | rfl | rfl <;> simp at * <;> omega

theorem take_step (s : ByteArray) (a i : Nat) (ha : a ≤ i) (h : i < s.size) : (s.data.toList.drop a).take (i + 1 - a) = (s.data.toList.drop a).take (i - a) ++ [s[i]] := by
  have e : i + 1 - a = (i - a) + 1 := by omega
  have hl : i - a < (s.data.toList.drop a).length := by
    have : s.data.toList.length = s.size := rfl
    simp only [List.length_drop, this]; omega
  rw [e, List.take_succ_eq_append_getElem hl]
  congr 2
  rw [List.getElem_drop]
  have : a + (i - a) = i := by omega
  simp only [this]
  rfl

theorem RvAt.next {s : ByteArray} {a i u n : Nat} (h : RvAt s a i u n) (ha : a ≤ i) (hi : i < s.size) (h5 : i < a + 5) (hb : 127 < s[i].toNat) :
    RvAt s a (i + 1) (u * 128) (n + s[i].toNat % 128 * u) := by
  have hlt : s[i].toNat < 256 := s[i].toNat_lt
  refine ⟨?_, ?_, ?_, fun e => by omega, ?_⟩
  · rw [h.unit, show i + 1 - a = (i - a) + 1 by omega, Nat.pow_succ]
  · have := h.less
    have h2 : s[i].toNat % 128 ≤ 127 := by omega
    have := Nat.mul_le_mul_right u h2
    omega
  · intro m hm
    have e : n + s[i].toNat % 128 * u + m * (u * 128) = n + (s[i].toNat % 128 + 128 * m) * u := by
      rw [Nat.add_mul, ← Nat.mul_assoc, Nat.mul_comm (m * u) 128, Nat.mul_assoc 128 m u]; omega
    rw [e, h.bytes _ (by omega), take_step s a i ha hi, varB_big (by omega)]
    have e1 : (s[i].toNat % 128 + 128 * m) % 128 + 128 = s[i].toNat := by omega
    have e2 : (s[i].toNat % 128 + 128 * m) / 128 = m := by omega
    rw [e1, e2]
    have e3 : byteOf s[i].toNat = s[i] := by unfold byteOf; simp
    rw [e3]
    simp
  · rw [← h.same, rvRun_on hi h5 hb]

theorem varB_end0 : ∀ (p : List UInt8) (n : Nat), varB n = p ++ [0] → p = [] := by
  intro p
  induction p with
  | nil => intro n _; rfl
  | cons b t ih =>
    intro n h
    exfalso
    by_cases hn : n ≤ 127
    · rw [varB_small hn] at h
      simp at h
    · rw [varB_big hn] at h
      simp only [List.cons_append, List.cons.injEq] at h
      have ht := ih _ h.2
      subst ht
      simp only [List.nil_append] at h
      by_cases hm : n / 128 ≤ 127
      · rw [varB_small hm] at h
        have := h.2
        simp only [List.cons.injEq, and_true] at this
        have := congrArg UInt8.toNat this
        rw [byteOf_toNat (by omega)] at this
        simp at this
        omega
      · have hv := varB_big hm
        have := varB_len (n / 128 / 128)
        have h2 := congrArg List.length h.2
        rw [hv] at h2
        simp only [List.length_cons, List.length_nil] at h2
        omega

/-- The bytes that were met are the number's own just where no longer form stands there. -/
theorem RvAt.own {s : ByteArray} {a i u n : Nat} (h : RvAt s a i u n) (ha : a ≤ i) (hi : i < s.size) (hb : ¬ 127 < s[i].toNat) :
    varB (n + s[i].toNat % 128 * u) = (s.data.toList.drop a).take (i + 1 - a) ↔ ¬ (s[i].toNat = 0 ∧ a < i) := by
  have hm : s[i].toNat % 128 = s[i].toNat := by omega
  rw [take_step s a i ha hi, hm]
  have e3 : byteOf s[i].toNat = s[i] := by unfold byteOf; simp
  constructor
  · intro hv hz
    have e0 : s[i] = 0 := by
      apply UInt8.toNat_inj.1; rw [hz.1]; rfl
    rw [e0] at hv
    have := varB_end0 _ _ hv
    have hl := congrArg List.length this
    have : s.data.toList.length = s.size := rfl
    simp only [List.length_take, List.length_drop, this, List.length_nil] at hl
    omega
  · intro hz
    by_cases h0 : s[i].toNat = 0
    · have hia : i = a := by omega
      have hn := h.zero hia
      rw [h0, hn]
      simp only [Nat.zero_mul, Nat.add_zero]
      subst hia
      rw [Nat.sub_self, List.take_zero, List.nil_append, varB_small (by omega), ← e3, h0]
    · rw [h.bytes _ (by omega), varB_small (by omega), e3]

theorem extract_toList (s : ByteArray) (a b : Nat) : (s.extract a b).toList = (s.data.toList.drop a).take (b - a) := by
  rw [ByteArray.toList_eq, ByteArray.data_extract]
  simp

theorem RvAt.test {s : ByteArray} {a i u n : Nat} (h : RvAt s a i u n) (ha : a ≤ i) (hi : i < s.size) (hb : ¬ 127 < s[i].toNat) :
    (¬ (s[i].toNat = 0 ∧ a < i) → (!(varB (n + s[i].toNat % 128 * u) == (s.extract a (i + 1)).toList)) = false) ∧ ((s[i].toNat = 0 ∧ a < i) → (!(varB (n + s[i].toNat % 128 * u) == (s.extract a (i + 1)).toList)) = true) := by
  rw [extract_toList]
  have := h.own ha hi hb
  constructor
  · intro hz; rw [Bool.not_eq_false', beq_iff_eq]; exact this.2 hz
  · intro hz; rw [Bool.not_eq_true', beq_eq_false_iff_ne]; intro e; exact (this.1 e) hz
end Go.Proofs.Ytecbpplocokedaa

/- What spec.ReadVar and impl.ReadVar come to, over the loaded program. -/
namespace Go.Proofs.Ytecbpplocokedaa
open Go.RowKit

/-- The three results of ReadVar. -/
def rvTup : Option (Nat × Nat) → Value
  | none => .tuple #[.int .i64 0, .int .i64 0, .bool false]
  | some (n, j) => .tuple #[.int .i64 (n : Int), .int .i64 (j : Int), .bool true]

theorem rvTup_none {x : Option (Nat × Nat)} (h : x = none) : Ending.returned (.tuple #[.int .i64 0, .int .i64 0, .bool false]) = .returned (rvTup x) := by subst h; rfl
theorem rvTup_some {x : Option (Nat × Nat)} {n j : Nat} (h : x = some (n, j)) : Ending.returned (.tuple #[.int .i64 (n : Int), .int .i64 (j : Int), .bool true]) = .returned (rvTup x) := by subst h; rfl



end Go.Proofs.Ytecbpplocokedaa

/- What is written comes back: numbers in bytes. -/
namespace Go.Proofs.Ytecbpplocokedaa
open Go.RowKit
theorem drop_head {s : ByteArray} {i : Nat} {x : UInt8} {t : List UInt8} (h : s.data.toList.drop i = x :: t) : ∃ hi : i < s.size, s[i] = x ∧ s.data.toList.drop (i + 1) = t := by
  have hi : i < s.data.toList.length := by
    rcases Nat.lt_or_ge i s.data.toList.length with h1 | h1
    · exact h1
    · rw [List.drop_eq_nil_of_le h1] at h; cases h
  rw [List.drop_eq_getElem_cons hi] at h
  simp only [List.cons.injEq] at h
  exact ⟨hi, h.1, h.2⟩

theorem read_varB (s : ByteArray) (a : Nat) (rest : List UInt8) : ∀ (f k i u m : Nat), k ≤ f → s.data.toList.drop i = varB k ++ rest → a ≤ i → u = 128 ^ (i - a) → (a < i → 0 < k) → m + k * u ≤ 1000000000 →
    rvRun s a i u m = some (m + k * u, i + (varB k).length) := by
  intro f
  induction f with
  | zero =>
    intro k i u m hk hd ha hu hp hm
    have : k = 0 := by omega
    subst this
    have hia : i = a := by omega
    subst hia
    rw [varB_small (by omega)] at hd
    obtain ⟨hi, hx, _⟩ := drop_head hd
    have hx' : s[i].toNat = 0 := by rw [hx, byteOf_toNat (by omega)]
    rw [rvRun_yes hi (by omega) (by omega) (by rw [hx']; omega), hx', varB_small (by omega)]
    simp
  | succ f ih =>
    intro k i u m hk hd ha hu hp hm
    have h5 : i < a + 5 := by
      rcases Nat.lt_or_ge i (a + 5) with h | h
      · exact h
      · have h1 : 128 ^ 5 ≤ 128 ^ (i - a) := Nat.pow_le_pow_right (by decide) (by omega)
        have h2 : 1 * u ≤ k * u := Nat.mul_le_mul_right u (hp (by omega))
        have h3 : (128 : Nat) ^ 5 = 34359738368 := by decide
        omega
    by_cases hs : k ≤ 127
    · rw [varB_small hs] at hd
      obtain ⟨hi, hx, _⟩ := drop_head hd
      have hx' : s[i].toNat = k := by rw [hx, byteOf_toNat (by omega)]
      have hk128 : k % 128 = k := by omega
      rw [rvRun_yes hi h5 (by omega) (by rw [hx', hk128]; intro hh; rcases hh with ⟨h1, h2⟩ | h1; have := hp h2; omega; omega), hx', hk128, varB_small hs]
      rfl
    · rw [varB_big hs] at hd
      obtain ⟨hi, hx, ht⟩ := drop_head hd
      have hx' : s[i].toNat = k % 128 + 128 := by rw [hx, byteOf_toNat (by omega)]
      have e1 : (k % 128 + 128) % 128 = k % 128 := by omega
      have e2 : k / 128 * (u * 128) = 128 * (k / 128) * u := by rw [← Nat.mul_assoc, Nat.mul_comm, ← Nat.mul_assoc]
      have e3 : m + k % 128 * u + k / 128 * (u * 128) = m + k * u := by
        rw [e2, Nat.add_assoc, ← Nat.add_mul]
        have := Nat.div_add_mod k 128
        rw [show k % 128 + 128 * (k / 128) = k by omega]
      have hr := ih (k / 128) (i + 1) (u * 128) (m + k % 128 * u) (by omega) ht (by omega) (by rw [hu, show i + 1 - a = (i - a) + 1 by omega, Nat.pow_succ]) (by omega) (by rw [e3]; exact hm)
      rw [rvRun_on hi h5 (by omega), hx', e1, hr, e3, varB_big hs]
      simp only [List.length_cons, Option.some.injEq, Prod.mk.injEq, true_and]
      omega

theorem read_var (s : ByteArray) (a n : Nat) (rest : List UInt8) (h : s.data.toList.drop a = varB n ++ rest) (hn : n ≤ 1000000000) : rvRun s a a 1 0 = some (n, a + (varB n).length) := by
  have := read_varB s a rest n n a 1 0 (Nat.le_refl _) h (Nat.le_refl _) (by simp) (by omega) (by omega)
  simpa using this

end Go.Proofs.Ytecbpplocokedaa

/- What is read of a number's bytes, reckoned. -/
namespace Go.Proofs.Ytecbpplocokedaa
theorem rvRun_has {s : ByteArray} {a : Nat} : ∀ (f i u n : Nat), s.size - i ≤ f → RvAt s a i u n → a ≤ i → i ≤ s.size → ∀ m j, rvRun s a i u n = some (m, j) →
    i < j ∧ j ≤ s.size ∧ j ≤ a + 5 ∧ m ≤ 1000000000 ∧ varB m = (s.data.toList.drop a).take (j - a) := by
  intro f
  induction f with
  | zero =>
    intro i u n hf _ _ _ m j h
    rw [rvRun_out (by omega)] at h
    cases h
  | succ f ih =>
    intro i u n hf hat ha hi m j h
    by_cases hlt : i < s.size ∧ i < a + 5
    · obtain ⟨h1, h5⟩ := hlt
      by_cases hb : 127 < s[i].toNat
      · rw [rvRun_on h1 h5 hb] at h
        obtain ⟨r1, r2, r3, r4, r5⟩ := ih (i + 1) _ _ (by omega) (hat.next ha h1 h5 hb) (by omega) (by omega) m j h
        exact ⟨by omega, r2, r3, r4, r5⟩
      · by_cases hn : (s[i].toNat = 0 ∧ a < i) ∨ 1000000000 < n + s[i].toNat % 128 * u
        · rw [rvRun_no h1 h5 hb hn] at h
          cases h
        · rw [rvRun_yes h1 h5 hb hn] at h
          simp only [Option.some.injEq, Prod.mk.injEq] at h
          obtain ⟨rfl, rfl⟩ := h
          exact ⟨by omega, by omega, by omega, by omega, (hat.own ha h1 hb).2 (fun x => hn (.inl x))⟩
    · rw [rvRun_out hlt] at h
      cases h

theorem rvRun_own {s : ByteArray} {p m j : Nat} (hp : p ≤ s.size) (h : rvRun s p p 1 0 = some (m, j)) :
    p < j ∧ j ≤ s.size ∧ j ≤ p + 5 ∧ m ≤ 1000000000 ∧ varB m = (s.data.toList.drop p).take (j - p) :=
  rvRun_has (s.size - p) p 1 0 (Nat.le_refl _) (RvAt.start s p) (Nat.le_refl _) hp m j h

end Go.Proofs.Ytecbpplocokedaa

/- Things, reckoned: their cells, what is right, their texts, and how a text is read. -/
namespace Go.Proofs.Ytecbpplocokedaa
open Go.RowKit
theorem varB_two9 {n : Nat} (h : n ≤ 16383) : (varB n).length ≤ 2 := by
  by_cases h1 : n ≤ 127
  · rw [varB_small h1]; simp
  · rw [varB_big h1, List.length_cons, varB_small (by omega)]
    simp
structure Th where
  id : Int
  kind : Int
  hid : Bool
  fix : Bool
  sgn : Bool
  wrp : Bool
  val : ByteArray
  nxt : Int
def thC (x : Th) : Array Value := #[.int .i64 x.id, .int .i64 x.kind, .bool x.hid, .bool x.fix, .bool x.sgn, .bool x.wrp, .string x.val, .int .i64 x.nxt]
def thZ : Th := ⟨0, 0, false, false, false, false, ⟨#[]⟩, 0⟩
abbrev ThOk (x : Th) : Prop := 1 ≤ x.id ∧ x.id ≤ 1000 ∧ 1 ≤ x.kind ∧ x.kind ≤ 3 ∧ 0 ≤ x.nxt ∧ x.nxt ≤ 16 ∧ (x.kind ≠ 2 → x.nxt = 0 ∧ x.sgn = false) ∧ (x.kind ≠ 1 → x.wrp = false) ∧ (x.kind = 3 → x.val.size ≤ 100) ∧ (x.kind ≠ 3 → x.val.size = 32)
def thOk (x : Th) : Bool := decide (ThOk x)
theorem thOk_iff (x : Th) : thOk x = true ↔ ThOk x := by unfold thOk; exact decide_eq_true_iff
theorem thOk_not (x : Th) : thOk x = false ↔ ¬ ThOk x := by unfold thOk; exact decide_eq_false_iff_not
def flB (b : Bool) (n : Nat) : Nat := if b then n else 0
def fl (x : Th) : Nat := flB x.hid 1 + flB x.fix 2 + flB x.sgn 4 + flB x.wrp 8
theorem fl_lt (x : Th) : fl x ≤ 15 := by
  unfold fl flB
  split <;> split <;> split <;> split <;> omega
def flN (h f s w : Bool) : Nat := flB h 1 + flB f 2 + flB s 4 + flB w 8
theorem flN_bits (h f s w : Bool) : decide (flN h f s w % 2 = 1) = h ∧ decide (flN h f s w / 2 % 2 = 1) = f ∧ decide (flN h f s w / 4 % 2 = 1) = s ∧ decide (flN h f s w / 8 % 2 = 1) = w := by
  cases h <;> cases f <;> cases s <;> cases w <;> decide
theorem fl_bits (x : Th) : decide (fl x % 2 = 1) = x.hid ∧ decide (fl x / 2 % 2 = 1) = x.fix ∧ decide (fl x / 4 % 2 = 1) = x.sgn ∧ decide (fl x / 8 % 2 = 1) = x.wrp := flN_bits x.hid x.fix x.sgn x.wrp
/-- The text of a thing, a byte behind the other. -/
def thL (x : Th) : List UInt8 := varB x.id.toNat ++ (byteOf x.kind.toNat :: byteOf (fl x) :: (varB x.val.size ++ (x.val.data.toList ++ varB x.nxt.toNat)))
def thT (x : Th) : ByteArray := ⟨(thL x).toArray⟩
def byA9 (s : ByteArray) (i : Nat) : Nat := (s.data.getD i 0).toNat
/-- A reader's place in a text, and whether it went wrong. -/
def vrS (t : ByteArray) (a : Nat) (b : Bool) : Nat × Nat × Bool := if b then (0, a, true) else match rvRun t a a 1 0 with | none => (0, a, true) | some (n, j) => (n, j, false)
def tkS (t : ByteArray) (a : Nat) (b : Bool) (n : Nat) : ByteArray × Nat × Bool := if b = true ∨ t.size - a < n then (⟨#[]⟩, a, true) else (t.extract a (a + n), a + n, false)
def onS (t : ByteArray) (a : Nat) (b : Bool) : Nat × Nat × Bool := if (tkS t a b 1).2.2 then (0, (tkS t a b 1).2) else (byA9 (tkS t a b 1).1 0, (tkS t a b 1).2)
def shS (t : ByteArray) (a : Nat) (b : Bool) : ByteArray × Nat × Bool := tkS t (vrS t a b).2.1 (vrS t a b).2.2 (vrS t a b).1
theorem vrS_le (t : ByteArray) (a : Nat) (b : Bool) (h : a ≤ t.size) : (vrS t a b).2.1 ≤ t.size := by
  unfold vrS
  split
  · exact h
  · split
    · exact h
    · rename_i n j hr
      exact (rvRun_own h hr).2.1
theorem vrS_num (t : ByteArray) (a : Nat) (b : Bool) (h : a ≤ t.size) : (vrS t a b).1 ≤ 1000000000 := by
  unfold vrS
  split
  · exact Nat.zero_le _
  · split
    · exact Nat.zero_le _
    · rename_i n j hr
      exact (rvRun_own h hr).2.2.2.1
theorem tkS_le (t : ByteArray) (a : Nat) (b : Bool) (n : Nat) (h : a ≤ t.size) : (tkS t a b n).2.1 ≤ t.size := by
  unfold tkS
  split
  · exact h
  · rename_i hc
    show a + n ≤ t.size
    omega
theorem onS_le (t : ByteArray) (a : Nat) (b : Bool) (h : a ≤ t.size) : (onS t a b).2.1 ≤ t.size := by
  unfold onS
  split <;> exact tkS_le t a b 1 h
theorem onS_lt (t : ByteArray) (a : Nat) (b : Bool) : (onS t a b).1 < 256 := by
  unfold onS
  split
  · show 0 < 256; omega
  · exact UInt8.toNat_lt _
theorem shS_le (t : ByteArray) (a : Nat) (b : Bool) (h : a ≤ t.size) : (shS t a b).2.1 ≤ t.size := tkS_le _ _ _ _ (vrS_le t a b h)
theorem tkS_size (t : ByteArray) (a : Nat) (b : Bool) (n : Nat) : (tkS t a b n).1.size ≤ t.size := by
  unfold tkS
  split
  · exact Nat.zero_le _
  · show (t.extract a (a + n)).size ≤ _
    rw [ByteArray.size_extract]; omega
/-- What is read of a text, right or not. -/
def rdX (t : ByteArray) : Th × Bool :=
  let r1 := vrS t 0 false
  let r2 := onS t r1.2.1 r1.2.2
  let r3 := onS t r2.2.1 r2.2.2
  let r4 := shS t r3.2.1 r3.2.2
  let r5 := vrS t r4.2.1 r4.2.2
  (⟨(r1.1 : Int), (r2.1 : Int), decide (r3.1 % 2 = 1), decide (r3.1 / 2 % 2 = 1), decide (r3.1 / 4 % 2 = 1), decide (r3.1 / 8 % 2 = 1), r4.1, (r5.1 : Int)⟩, r5.2.2)
def rdOk (t : ByteArray) : Bool := decide ((rdX t).2 = false ∧ ThOk (rdX t).1 ∧ thT (rdX t).1 = t)
def rdTh (t : ByteArray) : Th := if rdOk t = true then (rdX t).1 else thZ
theorem rdOk_iff (t : ByteArray) : rdOk t = true ↔ ((rdX t).2 = false ∧ ThOk (rdX t).1 ∧ thT (rdX t).1 = t) := by unfold rdOk; exact decide_eq_true_iff
theorem rd_right {t : ByteArray} (h : rdOk t = true) : thOk (rdTh t) = true ∧ thT (rdTh t) = t := by
  have h1 := (rdOk_iff t).1 h
  unfold rdTh
  rw [if_pos h]
  exact ⟨(thOk_iff _).2 h1.2.1, h1.2.2⟩
theorem vr_at {t : ByteArray} {a n : Nat} {rest : List UInt8} (h : t.data.toList.drop a = varB n ++ rest) (hn : n ≤ 1000000000) : vrS t a false = (n, a + (varB n).length, false) ∧ t.data.toList.drop (a + (varB n).length) = rest := by
  constructor
  · unfold vrS
    rw [if_neg (by simp), read_var t a n rest h hn]
  · rw [← List.drop_drop, h, List.drop_left]
theorem tk_at {t : ByteArray} {a : Nat} {x rest : List UInt8} (h : t.data.toList.drop a = x ++ rest) (_ : a ≤ t.size) : tkS t a false x.length = (⟨x.toArray⟩, a + x.length, false) ∧ t.data.toList.drop (a + x.length) = rest := by
  have hl : t.size - a = x.length + rest.length := by
    have := congrArg List.length h
    rw [List.length_drop, List.length_append] at this
    exact this
  constructor
  · unfold tkS
    rw [if_neg (by simp; omega)]
    refine Prod.ext ?_ rfl
    show t.extract a (a + x.length) = _
    apply ByteArray.ext
    apply Array.toList_inj.1
    have e : (t.extract a (a + x.length)).data.toList = (t.data.toList.drop a).take (a + x.length - a) := by rw [ByteArray.data_extract]; simp
    rw [e, h, show a + x.length - a = x.length by omega, List.take_left]
  · rw [← List.drop_drop, h, List.drop_left]
theorem on_at {t : ByteArray} {a : Nat} {b : UInt8} {rest : List UInt8} (h : t.data.toList.drop a = b :: rest) (ha : a ≤ t.size) : onS t a false = (b.toNat, a + 1, false) ∧ t.data.toList.drop (a + 1) = rest := by
  have h1 := tk_at (x := [b]) (rest := rest) h ha
  refine ⟨?_, h1.2⟩
  unfold onS
  have e : tkS t a false 1 = (⟨#[b]⟩, a + 1, false) := h1.1
  rw [e]
  rfl
theorem le_of_drop {t : ByteArray} {a : Nat} {x : UInt8} {l : List UInt8} (h : t.data.toList.drop a = x :: l) : a ≤ t.size := by
  have e := congrArg List.length h
  rw [List.length_drop, List.length_cons] at e
  have : t.data.toList.length = t.size := rfl
  omega
/-- What is written of a right thing is read so. -/
theorem rdX_thT {x : Th} (h : ThOk x) : rdX (thT x) = (x, false) := by
  obtain ⟨i1, i2, k1, k2, n1, n2, _, _, hv3, hv2⟩ := h
  have hvz : x.val.size ≤ 100 := by
    by_cases e : x.kind = 3
    · exact hv3 e
    · have := hv2 e; omega
  have hf := fl_lt x
  have h0 : (thT x).data.toList.drop 0 = varB x.id.toNat ++ (byteOf x.kind.toNat :: byteOf (fl x) :: (varB x.val.size ++ (x.val.data.toList ++ varB x.nxt.toNat))) := rfl
  obtain ⟨e1, h1⟩ := vr_at h0 (by omega)
  obtain ⟨e2, h2⟩ := on_at h1 (le_of_drop h1)
  obtain ⟨e3, h3⟩ := on_at h2 (le_of_drop h2)
  obtain ⟨e4, h4⟩ := vr_at h3 (by omega)
  have hle : 0 + (varB x.id.toNat).length + 1 + 1 + (varB x.val.size).length ≤ (thT x).size := by
    have e := congrArg List.length h0
    rw [List.length_drop] at e
    have : (thT x).data.toList.length = (thT x).size := rfl
    simp only [List.length_append, List.length_cons] at e
    omega
  obtain ⟨e5, h5⟩ := tk_at h4 hle
  have h5' : (thT x).data.toList.drop (0 + (varB x.id.toNat).length + 1 + 1 + (varB x.val.size).length + x.val.data.toList.length) = varB x.nxt.toNat ++ [] := by rw [List.append_nil]; exact h5
  obtain ⟨e6, _⟩ := vr_at h5' (by omega)
  have e45 : shS (thT x) (0 + (varB x.id.toNat).length + 1 + 1) false = (⟨x.val.data.toList.toArray⟩, 0 + (varB x.id.toNat).length + 1 + 1 + (varB x.val.size).length + x.val.data.toList.length, false) := by
    unfold shS
    rw [e4]
    exact e5
  have hfl := fl_bits x
  have hkb : (byteOf x.kind.toNat).toNat = x.kind.toNat := byteOf_toNat (by omega)
  have hfb : (byteOf (fl x)).toNat = fl x := byteOf_toNat (by omega)
  unfold rdX
  simp only [e1, e2, e3, e45, e6, hkb, hfb]
  obtain ⟨b1, b2, b3, b4⟩ := hfl
  rw [b1, b2, b3, b4]
  have hi : ((x.id.toNat : Nat) : Int) = x.id := by omega
  have hk : ((x.kind.toNat : Nat) : Int) = x.kind := by omega
  have hn : ((x.nxt.toNat : Nat) : Int) = x.nxt := by omega
  have hvv : (⟨x.val.data.toList.toArray⟩ : ByteArray) = x.val := by simp
  rw [hi, hk, hn, hvv]
theorem rd_thT {x : Th} (h : thOk x = true) : rdOk (thT x) = true ∧ rdTh (thT x) = x := by
  have h1 := rdX_thT ((thOk_iff x).1 h)
  have h2 : rdOk (thT x) = true := by
    rw [rdOk_iff, h1]
    exact ⟨rfl, (thOk_iff x).1 h, rfl⟩
  refine ⟨h2, ?_⟩
  unfold rdTh
  rw [if_pos h2, h1]
theorem thT_inj {x y : Th} (hx : thOk x = true) (hy : thOk y = true) (h : thT x = thT y) : x = y := by
  have h1 := (rd_thT hx).2
  have h2 := (rd_thT hy).2
  rw [← h1, h, h2]
theorem rd_not {t : ByteArray} (h : rdOk t = false) (x : Th) (hx : thOk x = true) : ¬ thT x = t := by
  intro e
  have h1 := (rd_thT hx).1
  rw [e, h] at h1
  cases h1
theorem rdTh_no {t : ByteArray} (h : rdOk t = false) : rdTh t = thZ := by
  unfold rdTh
  rw [if_neg (by rw [h]; simp)]
theorem thT_le {x : Th} (h : thOk x = true) : (thT x).size ≤ 200 := by
  have hh := (thOk_iff x).1 h
  obtain ⟨i1, i2, k1, k2, n1, n2, _, _, hv3, hv2⟩ := hh
  have hvz : x.val.size ≤ 100 := by
    by_cases e : x.kind = 3
    · exact hv3 e
    · have := hv2 e; omega
  show (thL x).length ≤ 200
  unfold thL
  have a1 := varB_two9 (n := x.id.toNat) (by omega)
  have a2 := varB_two9 (n := x.val.size) (by omega)
  have a3 := varB_two9 (n := x.nxt.toNat) (by omega)
  have a4 : x.val.data.toList.length = x.val.size := rfl
  simp only [List.length_append, List.length_cons]
  omega
end Go.Proofs.Ytecbpplocokedaa

