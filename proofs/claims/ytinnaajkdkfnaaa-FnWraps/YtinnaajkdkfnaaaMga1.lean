/- Merged: Base, Strs, Cur, ArgCode, DrawT, DrawN, DrawH, DrawK. -/
import Derived.WalkKit
import Derived.WalkLawsBesides
import Derived.Laws.IdiomStrings
import Derived.Laws.BytesArg
import Derived.Deep.RegionLaw
import Derived.Test.YtinnaajkdkfnaaaProg
import Derived.Test.YtinnaajkdkfnaaaChecked
import Derived.Laws.BitsLemmas
import Derived.Deep.RegionHeld3
import Derived.Deep.QuietTactic
import Derived.BigQuiet
import Derived.Deep.Slices
import Derived.Deep.Strs
import Derived.ChangeSame
import Derived.OpenShut
import Derived.ShutString
import Derived.ProofKit
import Derived.Lib.SmallJoins
/- Laws of no program: a row of bytes that the call itself owns, read as a text; the bytes of a number as the document lays them. -/
namespace Go.Proofs.Ytinnaajkdkfnaaa
open Go.RowKit

theorem hide {p : Prop} (h : p) : Hid p := h
theorem unhide {p : Prop} (h : Hid p) : p := h

/-- A byte as a cell. -/
def bv (b : UInt8) : Value := .int .u8 (b.toNat : Int)

/-- A number below 256 as a byte (a name that the walk does not open). -/
def byteOf (n : Nat) : UInt8 := UInt8.ofNat n
theorem byteOf_toNat {n : Nat} (h : n < 256) : (byteOf n).toNat = n := by unfold byteOf; simp; omega

/-- The slice value v is a row of the call's own (blocks from base on) that holds just the bytes l. -/
def OwnB (w : World) (base : Nat) (e : TypeId) (v : Value) (l : List UInt8) : Prop := w.ownsRow base e 1 v l.length (l.map bv)

theorem run_string_owned {P : Program} (w : World) (src dst e : TypeId) (base : Nat) (v : Value) (l : List UInt8)
    (hs : P.underlying src = some (.slice e)) (he : P.underlying e = some (.int .u8)) (hd : P.underlying dst = some .string)
    (hown' : OwnB w base e v l) : (convert src dst v).run P w = .ok (.string ⟨l.toArray⟩) w := by
  have hown : w.ownsRow base e 1 v l.length (l.map bv) := hown'
  rcases hown.2 with ⟨hv, hn⟩ | ⟨g, cap, cur, hv, _⟩
  · have : l = [] := by cases l with
      | nil => rfl
      | cons a t => simp at hn
    subst this; subst hv
    rw [run_convert_bytes_nil w src e hs he 0 0 dst hd]
    rfl
  · have hc := hown.cells (g := g) (by rw [hv]; rfl)
    subst hv
    exact run_convert_bytes_back w src dst e ⟨g, 0, none⟩ cap l hs he hd (fun j hj => by
      apply hc j
      simp [List.getElem?_eq_getElem hj, bv])

theorem OwnB.alloc {w : World} {base : Nat} {e : TypeId} {v : Value} {l : List UInt8} (h : OwnB w base e v l) (o : Obj) : OwnB (w.alloc o) base e v l := World.ownsRow.alloc h o
theorem OwnB.drew {w : World} {base : Nat} {e : TypeId} {v : Value} {l : List UInt8} (h : OwnB w base e v l) : OwnB w.drew base e v l := h
theorem OwnB.drewN {w : World} {base : Nat} {e : TypeId} {v : Value} {l : List UInt8} (n : Nat) (h : OwnB w base e v l) : OwnB (w.drewN n) base e v l := h

/-- 'out = append(out, b0, ..)' where out is a row of bytes of the call's own, and the new ones lie in a block: in ONE way. -/
theorem wp_append_bytes {P : Program} {W : World} {o : Oper} {a : Act} {K : Act → World → Prop} {Q : Exit → Act → World → Prop} (s x : Operand) (t : TypeId)
    (ho : o.op = .call { callee := .builtin .append, args := #[s, x], argTypes := #[t, t] })
    (base B : Nat) (e : TypeId) (i : TypeInfo) (ht : P.underlying t = some (.slice e)) (hi : P.info? e = some i) (hz : i.zero = some (.int .u8 0)) (hsize : i.size = 1) (hby : i.bytes = 1)
    (v : Value) (l : List UInt8) (hs : a.eval s = v) (hown' : OwnB W base e v l)
    (nb : Nat) (cs : Array Value) (hblk : W.heap[nb]? = some (.cells cs e (0, 0))) (news : List UInt8) (hcs : cs.toList = news.map bv) (m c : Nat) (hm : news.length = m) (hx : a.eval x = .slice (some ⟨nb, 0, none⟩) m c)
    (hlen : l.length + m ≤ 140737488355328) (hB : B ≤ base) (hbase : base ≤ W.heap.size) {w00 : World} (hbel : Below B w00 W)
    (h : ∀ v' w', OwnB w' base e v' (l ++ news) → Below B w00 w' → K (a.put o.dst v') w') : o.wp P a W K Q := by
  subst hm
  have hown : W.ownsRow base e 1 v l.length (l.map bv) := hown'
  have hcell : ∀ j u, (news.map bv)[j]? = some u → W.cell? ((⟨nb, 0, none⟩ : Addr).add j) = some u := by
    intro j u hu
    have hadd : (⟨nb, 0, none⟩ : Addr).add j = ⟨nb, j, none⟩ := by unfold Addr.add; split <;> simp_all
    rw [hadd, cell_of_row W nb j cs e (0, 0) hblk]
    rw [← hcs] at hu
    simpa using hu
  refine wp_append_own W s x t ho base e i (.int .u8 0) 1 1 ht hi hz hsize hby rfl (by decide) v l.length (l.map bv) hs hown
    ⟨nb, 0, none⟩ news.length c (news.map bv) hx (by simp) hcell (by intro u hu; simp only [List.mem_map] at hu; obtain ⟨b, _, rfl⟩ := hu; rfl) (by unfold maxLen; omega) (by omega) hbase ?_
  intro v' w' h1 h2 _
  refine h v' w' (by unfold OwnB; simpa using h1) ?_
  refine hbel.grown h2 (by omega) ?_
  intro k hk
  have := (hown.lt k hk).1
  omega

theorem wpList_append_bytes {P : Program} {w : World} {ops : Array Oper} {rest : List Oper} {o : Oper} {a : Act} {Q : Exit → Act → World → Prop} (hgd : o.guard = none) (s x : Operand) (t : TypeId)
    (ho : o.op = .call { callee := .builtin .append, args := #[s, x], argTypes := #[t, t] })
    (base B : Nat) (e : TypeId) (i : TypeInfo) (ht : P.underlying t = some (.slice e)) (hi : P.info? e = some i) (hz : i.zero = some (.int .u8 0)) (hsize : i.size = 1) (hby : i.bytes = 1)
    (v : Value) (l : List UInt8) (hs : a.eval s = v) (hown' : OwnB w base e v l)
    (cs : Array Value) (news : List UInt8) (hcs : cs.toList = news.map bv) (m c : Nat) (hm : news.length = m) (hx : a.eval x = .slice (some ⟨w.heap.size, 0, none⟩) m c)
    (hlen : l.length + m ≤ 140737488355328) (hB : B ≤ base) (hbase : base ≤ w.heap.size) {w00 : World} (hbel : Below B w00 w)
    (h : ∀ v' w', OwnB w' base e v' (l ++ news) → Below B w00 w' → wpList P ops Q rest (a.put o.dst v') w') :
    wpList P ops Q (o :: rest) a (w.alloc (.cells cs e)) :=
  wpList_plain hgd fun _ hK => wp_append_bytes s x t ho base B e i ht hi hz hsize hby v l hs (hown'.alloc _) w.heap.size cs (heap_alloc_new w _) news hcs m c hm hx hlen hB (by simp; omega) (hbel.alloc (by omega) _) fun v' w' h2 h3 => hK _ _ (h v' w' h2 h3)

/-- The same inside a region that draws its order. -/
theorem step_append_bytes {P : Program} {w W : World} {ops : Array Oper} {o : Oper} {a : Act} {K : Act → World → Prop} {Q : Exit → Act → World → Prop} {E : Prop} (hg : o.guard = none) (s x : Operand) (t : TypeId)
    (ho : o.op = .call { callee := .builtin .append, args := #[s, x], argTypes := #[t, t] })
    (base B : Nat) (e : TypeId) (i : TypeInfo) (ht : P.underlying t = some (.slice e)) (hi : P.info? e = some i) (hz : i.zero = some (.int .u8 0)) (hsize : i.size = 1) (hby : i.bytes = 1)
    (v : Value) (l : List UInt8) (hs : a.eval s = v) (hown' : OwnB w base e v l)
    (cs : Array Value) (news : List UInt8) (hcs : cs.toList = news.map bv) (m c : Nat) (hm : news.length = m) (hx : a.eval x = .slice (some ⟨w.heap.size, 0, none⟩) m c)
    (hW : W = (w.alloc (.cells cs e)).drew)
    (hlen : l.length + m ≤ 140737488355328) (hB : B ≤ base) (hbase : base ≤ w.heap.size) {w00 : World} (hbel : Below B w00 w)
    (h : ∀ v' w', OwnB w' base e v' (l ++ news) → Below B w00 w' → K (a.put o.dst v') w') :
    if Region.wanted o (yielded ops a.tmps) = true then Oper.wp P o a W K Q else E := by
  subst hW
  have hw : Region.wanted o (yielded ops a.tmps) = true := by simp [Region.wanted, hg]
  rw [if_pos hw]
  exact wp_append_bytes (W := (w.alloc (.cells cs e)).drew) s x t ho base B e i ht hi hz hsize hby v l hs ((hown'.alloc _).drew) w.heap.size cs (heap_alloc_new w _) news hcs m c hm hx hlen hB (by show base ≤ (w.alloc (.cells cs e)).heap.size; simp; omega) ((hbel.alloc (by omega) _).drew) h

/-- The bytes of a number: seven bits a byte, the lowest first (f: how many bytes may go on). -/
def varF : Nat → Nat → List UInt8
  | 0, n => [byteOf n]
  | f + 1, n => if n ≤ 127 then [byteOf n] else byteOf (n % 128 + 128) :: varF f (n / 128)
def varB (n : Nat) : List UInt8 := varF n n

theorem varF_more : ∀ (f g n : Nat), n ≤ f → n ≤ g → varF f n = varF g n := by
  intro f
  induction f with
  | zero =>
    intro g n h1 h2
    have : n = 0 := by omega
    subst this
    cases g with
    | zero => rfl
    | succ g => rfl
  | succ f ih =>
    intro g n h1 h2
    cases g with
    | zero =>
      have : n = 0 := by omega
      subst this
      rfl
    | succ g =>
      unfold varF
      by_cases h : n ≤ 127
      · rw [if_pos h, if_pos h]
      · rw [if_neg h, if_neg h, ih g (n / 128) (by omega) (by omega)]
theorem varB_small {n : Nat} (h : n ≤ 127) : varB n = [byteOf n] := by
  unfold varB
  cases n with
  | zero => rfl
  | succ n => unfold varF; rw [if_pos h]
theorem varB_big {n : Nat} (h : ¬ n ≤ 127) : varB n = byteOf (n % 128 + 128) :: varB (n / 128) := by
  unfold varB
  cases n with
  | zero => omega
  | succ n =>
    rw [varF, if_neg h, varF_more n ((n + 1) / 128) ((n + 1) / 128) (by omega) (Nat.le_refl _)]
theorem varB_len (n : Nat) : 1 ≤ (varB n).length ∧ (varB n).length ≤ n + 1 := by
  induction n using Nat.strongRecOn with
  | _ n ih =>
    by_cases h : n ≤ 127
    · rw [varB_small h]; simp
    · rw [varB_big h]
      have := ih (n / 128) (by omega)
      simp only [List.length_cons]
      omega
end Go.Proofs.Ytinnaajkdkfnaaa

/- Laws of no program: a row of one-cell values that the call itself owns. -/
namespace Go.Proofs.Ytinnaajkdkfnaaa
open Go.RowKit

/-- The slice value v is a row of the call's own (blocks from base on) that holds just the cells xs. -/
def OwnV (w : World) (base : Nat) (e : TypeId) (v : Value) (xs : List Value) : Prop := w.ownsRow base e 1 v xs.length xs

theorem OwnV.alloc {w : World} {base : Nat} {e : TypeId} {v : Value} {xs : List Value} (h : OwnV w base e v xs) (o : Obj) : OwnV (w.alloc o) base e v xs := World.ownsRow.alloc h o
theorem OwnV.drew {w : World} {base : Nat} {e : TypeId} {v : Value} {xs : List Value} (h : OwnV w base e v xs) : OwnV w.drew base e v xs := h
theorem OwnV.below {w w' : World} {base : Nat} {e : TypeId} {v : Value} {xs : List Value} (h : OwnV w base e v xs) (hb : Below w.heap.size w w') : OwnV w' base e v xs :=
  World.ownsRow.kept (row := none) h ⟨hb.os, hb.tape, hb.output, hb.size, fun k hk _ => hb.block k hk⟩ (by cases hv : v.ownBlock <;> simp)
theorem OwnV.below_at {w w' : World} {base B : Nat} {e : TypeId} {v : Value} {xs : List Value} (h : OwnV w base e v xs) (hb : Below B w w') (hB : ∀ g, v.ownBlock = some g → g < B) : OwnV w' base e v xs := by
  refine ⟨h.1, ?_⟩
  rcases h.2 with hn | ⟨g, cap, cur, rfl, hbg, hgg, rest⟩
  · exact .inl hn
  · refine .inr ⟨g, cap, cur, rfl, hbg, ?_, rest⟩
    rw [hb.block g (hB g rfl)]
    exact hgg
theorem OwnV.low {w : World} {base base' : Nat} {e : TypeId} {v : Value} {xs : List Value} (h : OwnV w base e v xs) (hb : base' ≤ base) : OwnV w base' e v xs := by
  refine ⟨h.1, ?_⟩
  rcases h.2 with hn | ⟨g, cap, cur, rfl, hbg, rest⟩
  · exact .inl hn
  · exact .inr ⟨g, cap, cur, rfl, by omega, rest⟩
theorem OwnV.lt {w : World} {base : Nat} {e : TypeId} {v : Value} {xs : List Value} (h : OwnV w base e v xs) : ∀ g, v.ownBlock = some g → base ≤ g ∧ g < w.heap.size := World.ownsRow.lt h
theorem OwnV.shape {w : World} {base : Nat} {e : TypeId} {v : Value} {xs : List Value} (h : OwnV w base e v xs) : ∃ a c, v = .slice a xs.length c := by
  rcases h.2 with ⟨h1, h2⟩ | ⟨g, cap, cur, h1, _⟩
  · exact ⟨none, 0, by rw [h1, h2]⟩
  · exact ⟨_, cap, h1⟩
theorem OwnV.cell {w : World} {base g n c : Nat} {e : TypeId} {xs : List Value} (h : OwnV w base e (.slice (some ⟨g, 0, none⟩) n c) xs) {k : Nat} {u : Value} (hk : xs[k]? = some u) : w.cell? ⟨g, k, none⟩ = some u := by
  have := World.ownsRow.cells h (g := g) rfl k u hk
  have hadd : (⟨g, 0, none⟩ : Addr).add k = ⟨g, k, none⟩ := by unfold Addr.add; split <;> simp_all
  rw [hadd] at this
  exact this
theorem OwnV.row {w : World} {base g n c : Nat} {e : TypeId} {xs : List Value} (h : OwnV w base e (.slice (some ⟨g, 0, none⟩) n c) xs) : ∃ cur, w.heap[g]? = some (.cells cur e (0, 0)) := by
  rcases h.2 with ⟨h1, _⟩ | ⟨g', cap, cur, h1, _, h2, _⟩
  · cases h1
  · simp only [Value.slice.injEq, Option.some.injEq, Addr.mk.injEq] at h1
    obtain ⟨⟨rfl, _⟩, _⟩ := h1
    exact ⟨cur, h2⟩
theorem OwnV.frozen {w : World} {base g n c : Nat} {e : TypeId} {xs : List Value} (h : OwnV w base e (.slice (some ⟨g, 0, none⟩) n c) xs) (k : Nat) : w.frozen? ⟨g, k, none⟩ = false := by
  obtain ⟨cur, hc⟩ := h.row
  exact frozen_of_row w g k cur e hc
theorem OwnV.set {w : World} {base g n c : Nat} {e : TypeId} {xs : List Value} (h : OwnV w base e (.slice (some ⟨g, 0, none⟩) n c) xs) (k : Nat) (u : Value) : OwnV (w.setCell ⟨g, k, none⟩ u) base e (.slice (some ⟨g, 0, none⟩) n c) (xs.set k u) := by
  refine ⟨by rw [Nat.mul_one], ?_⟩
  rcases h.2 with ⟨h1, _⟩ | ⟨g', cap, cur, h1, hb, h2, h3, h4, h5, h6⟩
  · cases h1
  · simp only [Value.slice.injEq, Option.some.injEq, Addr.mk.injEq] at h1
    obtain ⟨⟨rfl, _⟩, rfl, rfl⟩ := h1
    refine .inr ⟨g, c, cur.setIfInBounds k u, by rw [List.length_set], hb, heap_setCell_same w g k cur e u h2, by rw [List.length_set]; exact h3, h4, by rw [Array.size_setIfInBounds]; exact h5, ?_⟩
    rw [List.length_set, Array.toList_setIfInBounds, List.take_set, h6]
theorem OwnV.nil (w : World) (base : Nat) (e : TypeId) : OwnV w base e (.slice none 0 0) [] := World.ownsRow_nil w base e 1

theorem wp_append_vals {P : Program} {W : World} {o : Oper} {a : Act} {K : Act → World → Prop} {Q : Exit → Act → World → Prop} (s x : Operand) (t : TypeId)
    (ho : o.op = .call { callee := .builtin .append, args := #[s, x], argTypes := #[t, t] })
    (base B : Nat) (e : TypeId) (i : TypeInfo) (z : Value) (nb : Nat) (ht : P.underlying t = some (.slice e)) (hi : P.info? e = some i) (hz : i.zero = some z) (hsize : i.size = 1) (hby : i.bytes = nb) (hzs : z.cells.size = 1)
    (v : Value) (xs : List Value) (hs : a.eval s = v) (hown : OwnV W base e v xs)
    (blk : Nat) (cs : Array Value) (hblk : W.heap[blk]? = some (.cells cs e (0, 0))) (news : List Value) (hcs : cs.toList = news) (h1 : ∀ u ∈ news, u.oneCell' = true) (m c : Nat) (hm : news.length = m) (hx : a.eval x = .slice (some ⟨blk, 0, none⟩) m c)
    (h63 : xs.length + m ≤ maxLen) (hbytes : (xs.length + m) * nb ≤ 140737488355328) (hB : B ≤ base) (hbase : base ≤ W.heap.size) {w00 : World} (hbel : Below B w00 W)
    (h : ∀ v' w', OwnV w' base e v' (xs ++ news) → Below B w00 w' → K (a.put o.dst v') w') : o.wp P a W K Q := by
  subst hm
  have hcell : ∀ j u, news[j]? = some u → W.cell? ((⟨blk, 0, none⟩ : Addr).add j) = some u := by
    intro j u hu
    have hadd : (⟨blk, 0, none⟩ : Addr).add j = ⟨blk, j, none⟩ := by unfold Addr.add; split <;> simp_all
    rw [hadd, cell_of_row W blk j cs e (0, 0) hblk]
    rw [← hcs] at hu
    simpa using hu
  refine wp_append_own W s x t ho base e i z 1 nb ht hi hz hsize hby hzs (by decide) v xs.length xs hs hown
    ⟨blk, 0, none⟩ news.length c news hx (by simp) hcell h1 h63 hbytes hbase ?_
  intro v' w' h2 h3 _
  refine h v' w' (by unfold OwnV; simpa using h2) ?_
  refine hbel.grown h3 (by omega) ?_
  intro k hk
  have := (hown.lt k hk).1
  omega

theorem wpList_append_vals {P : Program} {w : World} {ops : Array Oper} {rest : List Oper} {o : Oper} {a : Act} {Q : Exit → Act → World → Prop} (hgd : o.guard = none) (s x : Operand) (t : TypeId)
    (ho : o.op = .call { callee := .builtin .append, args := #[s, x], argTypes := #[t, t] })
    (base B : Nat) (e : TypeId) (i : TypeInfo) (z : Value) (nb : Nat) (ht : P.underlying t = some (.slice e)) (hi : P.info? e = some i) (hz : i.zero = some z) (hsize : i.size = 1) (hby : i.bytes = nb) (hzs : z.cells.size = 1)
    (v : Value) (xs : List Value) (hs : a.eval s = v) (hown : OwnV w base e v xs)
    (cs : Array Value) (news : List Value) (hcs : cs.toList = news) (h1 : ∀ u ∈ news, u.oneCell' = true) (m c : Nat) (hm : news.length = m) (hx : a.eval x = .slice (some ⟨w.heap.size, 0, none⟩) m c)
    (h63 : xs.length + m ≤ maxLen) (hbytes : (xs.length + m) * nb ≤ 140737488355328) (hB : B ≤ base) (hbase : base ≤ w.heap.size) {w00 : World} (hbel : Below B w00 w)
    (h : ∀ v' w', OwnV w' base e v' (xs ++ news) → Below B w00 w' → wpList P ops Q rest (a.put o.dst v') w') :
    wpList P ops Q (o :: rest) a (w.alloc (.cells cs e)) :=
  wpList_plain hgd fun _ hK => wp_append_vals s x t ho base B e i z nb ht hi hz hsize hby hzs v xs hs (hown.alloc _) w.heap.size cs (heap_alloc_new w _) news hcs h1 m c hm hx h63 hbytes hB (by simp; omega) (hbel.alloc (by omega) _) fun v' w' h2 h3 => hK _ _ (h v' w' h2 h3)
end Go.Proofs.Ytinnaajkdkfnaaa

/- The cursor that the draws go by: a struct of the call's own that holds the code, a place in it and a number; what the draws of a byte, of a number and of a text come to. -/
namespace Go.Proofs.Ytinnaajkdkfnaaa
open Go.RowKit

theorem and255 (y : Int) : ∃ x : Nat, x < 256 ∧ bits .and .i64 y 255 = (x : Int) := by
  refine ⟨(BitVec.ofInt 64 y &&& BitVec.ofInt 64 255).toNat, ?_, ?_⟩
  · rw [BitVec.toNat_and]
    exact Nat.lt_of_le_of_lt Nat.and_le_right (by decide)
  · have h : (BitVec.ofInt 64 y &&& BitVec.ofInt 64 255).toNat < 256 := by
      rw [BitVec.toNat_and]
      exact Nat.lt_of_le_of_lt Nat.and_le_right (by decide)
    show IntKind.i64.wrap (((BitVec.ofInt 64 y &&& BitVec.ofInt 64 255).toNat : Nat) : Int) = _
    rw [IntKind.wrap_i64]
    omega

theorem and30 (y : Int) : ∃ x : Nat, x ≤ 1073741823 ∧ bits .and .i64 y 1073741823 = (x : Int) := by
  have h : (BitVec.ofInt 64 y &&& BitVec.ofInt 64 1073741823).toNat ≤ 1073741823 := by
    rw [BitVec.toNat_and]
    exact Nat.le_trans Nat.and_le_right (by decide)
  refine ⟨_, h, ?_⟩
  show IntKind.i64.wrap (((BitVec.ofInt 64 y &&& BitVec.ofInt 64 1073741823).toNat : Nat) : Int) = _
  rw [IntKind.wrap_i64]
  omega

/-- The bytes that the code holds. -/
def Src (w : World) (base : Nat) (o : Option Addr) (n : Nat) : Prop :=
  ∀ j, j < n → ∃ (b off z : Nat), o = some ⟨b, off, none⟩ ∧ b < base ∧ z < 256 ∧ w.cell? ⟨b, off + j, none⟩ = some (.int .u8 (z : Int))
theorem Src.below {w w' : World} {base B n : Nat} {o : Option Addr} (h : Src w base o n) (hb : Below B w w') (hB : base ≤ B) : Src w' base o n := by
  intro j hj
  obtain ⟨b, off, z, h1, h2, h3, h4⟩ := h j hj
  exact ⟨b, off, z, h1, h2, h3, by rw [hb.cell (by show b < B; omega)]; exact h4⟩
theorem Src.up {w : World} {base B n : Nat} {o : Option Addr} (h : Src w base o n) (hB : base ≤ B) : Src w B o n := by
  intro j hj
  obtain ⟨b, off, z, h1, h2, h3, h4⟩ := h j hj
  exact ⟨b, off, z, h1, by omega, h3, h4⟩

/-- A cursor in block g (of the call's own, from base on) over the code. -/
structure Cur (w : World) (base g : Nat) (o : Option Addr) (n c : Nat) : Prop where
  lo : base ≤ g
  blk : ∃ i h : Int, 0 ≤ i ∧ w.heap[g]? = some (.cells #[.slice o n c, .int .i64 i, .int .i64 h] 58 (0, 0))
  src : Src w base o n

theorem Cur.lt {w : World} {base g n c : Nat} {o : Option Addr} (h : Cur w base g o n c) : g < w.heap.size := by
  obtain ⟨i, k, _, hh⟩ := h.blk
  exact (Array.getElem?_eq_some_iff.1 hh).1
theorem Cur.below {w w' : World} {base B g n c : Nat} {o : Option Addr} (h : Cur w base g o n c) (hb : Below B w w') (hB : g < B) : Cur w' base g o n c := by
  obtain ⟨i, k, hi, hh⟩ := h.blk
  exact ⟨h.lo, ⟨i, k, hi, by rw [hb.block g hB]; exact hh⟩, h.src.below hb (by have := h.lo; omega)⟩

/-- Nothing but block g has turned. -/
structure Only (g : Nat) (w w' : World) : Prop where
  os : w'.os = w.os
  tape : w'.tape = w.tape
  output : w'.output = w.output
  size : w'.heap.size = w.heap.size
  block : ∀ k, k ≠ g → w'.heap[k]? = w.heap[k]?
theorem Only.below {g base : Nat} {w w' : World} (h : Only g w w') (hb : base ≤ g) : Below base w w' := ⟨h.os, h.tape, h.output, by rw [h.size]; exact Nat.le_refl _, fun k hk => h.block k (by omega)⟩
theorem Only.refl (g : Nat) (w : World) : Only g w w := ⟨rfl, rfl, rfl, rfl, fun _ _ => rfl⟩
theorem Only.trans {g : Nat} {a b c : World} (h : Only g a b) (k : Only g b c) : Only g a c :=
  ⟨k.os.trans h.os, k.tape.trans h.tape, k.output.trans h.output, k.size.trans h.size, fun i hi => (k.block i hi).trans (h.block i hi)⟩
theorem Only.drewN {g : Nat} {a b : World} (h : Only g a b) (n : Nat) : Only g a (b.drewN n) := ⟨h.os, h.tape, h.output, h.size, h.block⟩
theorem Only.drew {g : Nat} {a b : World} (h : Only g a b) : Only g a b.drew := ⟨h.os, h.tape, h.output, h.size, h.block⟩
theorem Only.setCell {g : Nat} {a w : World} (h : Only g a w) (k : Nat) (u : Value) : Only g a (w.setCell ⟨g, k, none⟩ u) :=
  h.trans ⟨rfl, rfl, rfl, by simp [World.setCell], fun k hk => Below.heap_setCell _ _ _ _ (by simpa using hk)⟩
theorem OwnB.only {w w' : World} {base g : Nat} {e : TypeId} {v : Value} {l : List UInt8} (h : OwnB w base e v l) (ho : Only g w w') (hg : g < base) : OwnB w' base e v l := by
  refine ⟨h.1, ?_⟩
  rcases h.2 with hn | ⟨g', cap, cur, rfl, hbg, hgg, rest⟩
  · exact .inl hn
  · exact .inr ⟨g', cap, cur, rfl, hbg, by rw [ho.block g' (by omega)]; exact hgg, rest⟩
theorem OwnV.only {w w' : World} {base g : Nat} {e : TypeId} {v : Value} {xs : List Value} (h : OwnV w base e v xs) (ho : Only g w w') (hg : g < base) : OwnV w' base e v xs := by
  refine ⟨h.1, ?_⟩
  rcases h.2 with hn | ⟨g', cap, cur, rfl, hbg, hgg, rest⟩
  · exact .inl hn
  · exact .inr ⟨g', cap, cur, rfl, hbg, by rw [ho.block g' (by omega)]; exact hgg, rest⟩

theorem heap_set3 {w : World} {g : Nat} {a b c : Value} {T : TypeId} (h : w.heap[g]? = some (.cells #[a, b, c] T (0, 0))) (u : Value) :
    (w.setCell ⟨g, 2, none⟩ u).heap[g]? = some (.cells #[a, b, u] T (0, 0)) := heap_setCell_same w g 2 #[a, b, c] T u h
theorem heap_set2 {w : World} {g : Nat} {a b c : Value} {T : TypeId} (h : w.heap[g]? = some (.cells #[a, b, c] T (0, 0))) (u : Value) :
    (w.setCell ⟨g, 1, none⟩ u).heap[g]? = some (.cells #[a, u, c] T (0, 0)) := heap_setCell_same w g 1 #[a, b, c] T u h

set_option maxRecDepth 20000 in
set_option maxHeartbeats 400000 in
theorem l01Byte_end (w : World) (g n c : Nat) (o : Option Addr) (i h : Int) (hh : Hid (w.heap[g]? = some (.cells #[.slice o n c, .int .i64 i, .int .i64 h] 58 (0, 0)))) (hi0 : 0 ≤ i) (hi : ¬ i < (n : Int)) :
    Calls Try.prog 59 #[.pointer (some ⟨g, 0, none⟩)] w fun e w' => ∃ x : Nat, x < 256 ∧ e = .returned (.int .i64 (x : Int)) ∧ Only g w w' ∧ ∃ i h : Int, 0 ≤ i ∧ w'.heap[g]? = some (.cells #[.slice o n c, .int .i64 i, .int .i64 h] 58 (0, 0)) := by
  have hc0 : w.cell? ⟨g, 0, none⟩ = some (.slice o n c) := by rw [cell_of_row w g 0 _ _ (0, 0) (unhide hh)]; rfl
  have hc1 : w.cell? ⟨g, 1, none⟩ = some (.int .i64 i) := by rw [cell_of_row w g 1 _ _ (0, 0) (unhide hh)]; rfl
  have hc2 : w.cell? ⟨g, 2, none⟩ = some (.int .i64 h) := by rw [cell_of_row w g 2 _ _ (0, 0) (unhide hh)]; rfl
  have hf1 : w.frozen? ⟨g, 1, none⟩ = false := frozen_of_row w g 1 _ _ (unhide hh)
  have hf2 : w.frozen? ⟨g, 2, none⟩ = false := frozen_of_row w g 2 _ _ (unhide hh)
  obtain ⟨h1, e1⟩ : ∃ h1, wrap64 (wrap64 (h * 6364136223846793005) + 1442695040888963407) = h1 := ⟨_, rfl⟩
  obtain ⟨x, hx, e2⟩ := and255 (bits .xor .i64 (h1 / 8589934592) (h1 / 35184372088832))
  have HH := hide (heap_set3 (unhide hh) (.int .i64 h1))
  have hd : decide (i < (n : Int)) = false := by rw [decide_eq_false_iff_not]; exact hi
  go_enter Try.func59, Try.ntmps59
  go_wp2
  go_quiet (fail)
  go_wp2
  go_quiet (fail)
  go_wp2
  go_ret
  exact ⟨x, hx, rfl, (((Only.refl g w).setCell 2 _).drewN _).drewN _, i, h1, hi0, unhide HH⟩

set_option maxRecDepth 20000 in
set_option maxHeartbeats 400000 in
theorem l01Byte_more (w : World) (g n c : Nat) (b off z : Nat) (k : Nat) (h : Int) (hh : Hid (w.heap[g]? = some (.cells #[.slice (some ⟨b, off, none⟩) n c, .int .i64 (k : Int), .int .i64 h] 58 (0, 0)))) (hi : (k : Int) < (n : Int))
    (hn : n ≤ 1048576) (hz : z < 256) (hcell : w.cell? ⟨b, off + k, none⟩ = some (.int .u8 (z : Int))) (hbg : b ≠ g) :
    Calls Try.prog 59 #[.pointer (some ⟨g, 0, none⟩)] w fun e w' => ∃ x : Nat, x < 256 ∧ e = .returned (.int .i64 (x : Int)) ∧ Only g w w' ∧ ∃ i h : Int, 0 ≤ i ∧ w'.heap[g]? = some (.cells #[.slice (some ⟨b, off, none⟩) n c, .int .i64 i, .int .i64 h] 58 (0, 0)) := by
  have hc0 : w.cell? ⟨g, 0, none⟩ = some (.slice (some ⟨b, off, none⟩) n c) := by rw [cell_of_row w g 0 _ _ (0, 0) (unhide hh)]; rfl
  have hc1 : w.cell? ⟨g, 1, none⟩ = some (.int .i64 (k : Int)) := by rw [cell_of_row w g 1 _ _ (0, 0) (unhide hh)]; rfl
  have hc2 : w.cell? ⟨g, 2, none⟩ = some (.int .i64 h) := by rw [cell_of_row w g 2 _ _ (0, 0) (unhide hh)]; rfl
  have hf1 : w.frozen? ⟨g, 1, none⟩ = false := frozen_of_row w g 1 _ _ (unhide hh)
  have hf2 : w.frozen? ⟨g, 2, none⟩ = false := frozen_of_row w g 2 _ _ (unhide hh)
  obtain ⟨h1, e1⟩ : ∃ h1, wrap64 (wrap64 (h * 6364136223846793005) + 1442695040888963407) = h1 := ⟨_, rfl⟩
  obtain ⟨x, hx, e2⟩ := and255 (bits .xor .i64 (h1 / 8589934592) (h1 / 35184372088832))
  obtain ⟨x2, hx2, e3⟩ := and255 ((x : Int) + (z : Int))
  have HH := hide (heap_set2 (heap_set3 (unhide hh) (.int .i64 h1)) (.int .i64 ((k + 1 : Nat) : Int)))
  have hd : decide ((k : Int) < (n : Int)) = true := by rw [decide_eq_true_iff]; exact hi
  have hk0 : (0 : Int) ≤ (k : Int) := by omega
  go_enter Try.func59, Try.ntmps59
  go_wp2
  go_quiet (fail)
  go_wp2
  go_quiet (fail)
  go_wp2
  go_quiet (fail)
  go_wp2
  go_ret
  exact ⟨x2, hx2, rfl, (((Only.refl g w).setCell 2 _).drewN _).setCell 1 _, (k + 1 : Nat), h1, by omega, unhide HH⟩

/-- A drawn byte. -/
theorem l01Byte_any {w : World} {base g n c : Nat} {o : Option Addr} (h : Cur w base g o n c) (hn : n ≤ 1048576) :
    Calls Try.prog 59 #[.pointer (some ⟨g, 0, none⟩)] w fun e w' => ∃ x : Nat, x < 256 ∧ e = .returned (.int .i64 (x : Int)) ∧ Only g w w' ∧ Cur w' base g o n c := by
  obtain ⟨i, k, hi, hh⟩ := h.blk
  have fin : ∀ (e : Ending) (w' : World), (∃ x : Nat, x < 256 ∧ e = .returned (.int .i64 (x : Int)) ∧ Only g w w' ∧ ∃ i h : Int, 0 ≤ i ∧ w'.heap[g]? = some (.cells #[.slice o n c, .int .i64 i, .int .i64 h] 58 (0, 0))) →
      ∃ x : Nat, x < 256 ∧ e = .returned (.int .i64 (x : Int)) ∧ Only g w w' ∧ Cur w' base g o n c := by
    rintro e w' ⟨x, hx, he, ho, hb⟩
    exact ⟨x, hx, he, ho, ⟨h.lo, hb, h.src.below (ho.below h.lo) (Nat.le_refl _)⟩⟩
  by_cases hlt : i < (n : Int)
  · obtain ⟨j, rfl⟩ := Int.eq_ofNat_of_zero_le hi
    obtain ⟨b, off, z, rfl, hb, hz, hc⟩ := h.src j (by omega)
    exact (l01Byte_more w g n c b off z j k (hide hh) hlt hn hz hc (by have := h.lo; omega)).mono fin
  · exact (l01Byte_end w g n c o i k (hide hh) hi hlt).mono fin

set_option maxRecDepth 20000 in
set_option maxHeartbeats 400000 in
/-- A drawn number below m. -/
theorem l01Below_any {w : World} {base g n c : Nat} {o : Option Addr} (h : Cur w base g o n c) (hn : n ≤ 1048576) (m : Nat) (hm : 0 < m) (hm2 : m ≤ 4294967296) :
    Calls Try.prog 36 #[.pointer (some ⟨g, 0, none⟩), .int .i64 (m : Int)] w fun e w' => ∃ x : Nat, x < m ∧ e = .returned (.int .i64 (x : Int)) ∧ Only g w w' ∧ Cur w' base g o n c := by
  have H := hide h
  clear h
  have h0 : ¬ (m : Int) ≤ 0 := by omega
  by_cases h1 : (m : Int) ≤ 256
  · go_enter Try.func36, Try.ntmps36
    go_wp2_with (go_at_call 59; refine (l01Byte_any (unhide H) hn).mono ?_; rintro e w1 ⟨x, hx, rfl, ho, hc⟩; replace hc := hide hc)
    go_ret
    exact ⟨x % m, Nat.mod_lt _ hm, rfl, ho, unhide hc⟩
  · go_enter Try.func36, Try.ntmps36
    go_wp2_with fail
    go_at_call 59
    refine (l01Byte_any (unhide H) hn).mono ?_
    rintro e w1 ⟨x1, hx1, rfl, ho1, hc1⟩
    replace hc1 := hide hc1
    go_wp2_with fail
    go_at_call 59
    refine (l01Byte_any (unhide hc1) hn).mono ?_
    rintro e w2 ⟨x2, hx2, rfl, ho2, hc2⟩
    replace hc2 := hide hc2
    go_wp2_with fail
    go_at_call 59
    refine (l01Byte_any (unhide hc2) hn).mono ?_
    rintro e w3 ⟨x3, hx3, rfl, ho3, hc3⟩
    replace hc3 := hide hc3
    go_wp2_with fail
    go_at_call 59
    refine (l01Byte_any (unhide hc3) hn).mono ?_
    rintro e w4 ⟨x4, hx4, rfl, ho4, hc4⟩
    replace hc4 := hide hc4
    go_wp2
    go_ret
    exact ⟨(x1 * 16777216 + x2 * 65536 + x3 * 256 + x4) % m, Nat.mod_lt _ hm, rfl, ((ho1.trans ho2).trans ho3).trans ho4, unhide hc4⟩

theorem cs_at {b : UInt8} {v : Int} (h : (b.toNat : Int) = v) : (#[Value.int .u8 v] : Array Value).toList = [b].map bv := by subst h; rfl

theorem Try.infoBC : (Try.prog.info? 5).map (fun i => (i.zero, i.size, i.bytes)) = some (some (.int .u8 0), 1, 1) := by kernel_rfl

set_option maxRecDepth 20000 in
set_option maxHeartbeats 400000 in
/-- A drawn text of m bytes. -/
theorem l01Text_any {w : World} {base g n c : Nat} {o : Option Addr} (h : Cur w base g o n c) (hn : n ≤ 1048576) (m : Nat) (hm : m ≤ 5000) :
    Calls Try.prog 50 #[.pointer (some ⟨g, 0, none⟩), .int .i64 (m : Int)] w fun e w' => ∃ l : List UInt8, l.length = m ∧ e = .returned (.string ⟨l.toArray⟩) ∧ Below base w w' ∧ Cur w' base g o n c := by
  obtain ⟨i0, hi, hz0, hz1, hz2⟩ := info_parts Try.infoBC
  have H := hide h
  clear h
  have h0 : ¬ (5000 : Int) < (m : Int) := by omega
  go_enter Try.func50, Try.ntmps50
  go_wp2
  have hg := (unhide H).lt
  have hlo := (unhide H).lo
  go_loopw [5, 6] (fun v ti wr => ∃ (k : Nat) (pre : List UInt8), k ≤ m ∧ pre.length = k ∧ ti = .int .i64 (k : Int) ∧ OwnB wr w.heap.size 5 v pre ∧ Below base w wr ∧ Hid (Cur wr base g o n c))
    (fun _ ti _ => m - (intOf ti).toNat)
  case atStart => exact ⟨0, [], Nat.zero_le _, rfl, rfl, World.ownsRow_made w #[] 0 (Nat.le_refl _) (by decide) (by simp), (Below.refl base w).alloc (by omega) _, (unhide H).below ((Below.refl (g + 1) w).alloc (by omega) _) (by omega)⟩
  case round =>
    clear H h0
    obtain ⟨k, pre, hk, hpl, rfl, hown, hb, HC⟩ := hrel
    have hsz := hb.size
    by_cases hlt : k < m
    · go_wp2_with fail
      go_at_call 59
      refine (l01Byte_any (unhide HC) hn).mono ?_
      rintro e w1 ⟨x, hx, rfl, ho, hc1⟩
      have hown1 := hown.only ho hg
      have hb1 := hb.trans (ho.below hlo)
      have hsz1 := hb1.size
      replace hc1 := hide hc1
      replace ho := hide ho
      clear hown hb HC
      have hbx : ((byteOf x).toNat : Int) = (x : Int) := by rw [byteOf_toNat hx]
      go_wp2_with (at_builtin; refine wpList_append_bytes rfl (.tmp 15) (.tmp 19) 22 rfl w.heap.size w.heap.size 5 i0 Try.underlying22 hi hz0 hz1 hz2 _ pre rfl hown1 _ [byteOf x] (cs_at hbx) 1 1 rfl rfl (by omega) (Nat.le_refl _) hsz1 (Below.refl _ w1) ?_; intro v' w2 hown' hb2)
      have hc2 := hide ((unhide hc1).below hb2 hg)
      have hb' := hb1.trans (hb2.mono (show base ≤ w.heap.size by omega))
      clear hown1 hb1 hb2 hc1
      go_wp2
      go_roundw
      case rel => exact ⟨k + 1, pre ++ [byteOf x], by omega, by simp [hpl], by go_num, hown', hb', hc2⟩
      case measure => simp [intOf]; omega
    · have hke : k = m := by omega
      have hc := run_string_owned (P := Try.prog) wr 22 9 5 w.heap.size _ _ Try.underlying22 Try.underlying5 Try.underlying9 hown
      clear hown
      go_wp2
      go_ret
      exact ⟨pre, by omega, rfl, hb, unhide HC⟩

set_option maxRecDepth 20000 in
set_option maxHeartbeats 400000 in
/-- A new cursor over the code. -/
theorem l01New_any (w : World) (o : Option Addr) (n c : Nat) (hs : Src w w.heap.size o n) (hn : n ≤ 1048576) :
    Calls Try.prog 25 #[.slice o n c] w fun e w' => e = .returned (.pointer (some ⟨w.heap.size, 0, none⟩)) ∧ Below w.heap.size w w' ∧ Cur w' w.heap.size w.heap.size o n c := by
  have HS := hide hs
  clear hs
  go_enter Try.func25, Try.ntmps25
  go_wp2
  go_loop [3, 4] (fun th ti => ∃ h k : Nat, h ≤ 1073741823 ∧ k ≤ n ∧ th = .int .i64 (h : Int) ∧ ti = .int .i64 (k : Int)) (fun _ ti => n - (intOf ti).toNat)
  case atStart => exact ⟨27401 + n, 0, by omega, Nat.zero_le _, by simp, rfl⟩
  case round =>
    obtain ⟨h, k, hh, hk, rfl, rfl⟩ := hrel
    by_cases hlt : (k : Int) < (n : Int)
    · have hd : decide ((k : Int) < (n : Int)) = true := by rw [decide_eq_true_iff]; exact hlt
      by_cases hlt2 : (k : Int) < 4000
      · have hd2 : decide ((k : Int) < 4000) = true := by rw [decide_eq_true_iff]; exact hlt2
        obtain ⟨b, off, z, rfl, hb, hz, hcell⟩ := (unhide HS) k (by omega)
        obtain ⟨x, hx, e3⟩ := and30 ((h : Int) * 131 + (z : Int) + 7)
        have hk0 : (0 : Int) ≤ (k : Int) := by omega
        go_wp2
        go_round
        case rel => exact ⟨x, k + 1, by omega, by omega, rfl, by go_num⟩
        case measure => simp [intOf]; omega
      · have hd2 : decide ((k : Int) < 4000) = false := by rw [decide_eq_false_iff_not]; exact hlt2
        go_wp2
        go_ret
        exact ⟨rfl, (Below.refl _ _).alloc (Nat.le_refl _) _, Nat.le_refl _, ⟨0, h, by omega, heap_alloc_new w _⟩, (unhide HS).below ((Below.refl _ _).alloc (Nat.le_refl _) _) (Nat.le_refl _)⟩
    · have hd : decide ((k : Int) < (n : Int)) = false := by rw [decide_eq_false_iff_not]; exact hlt
      go_wp2
      go_ret
      exact ⟨rfl, (Below.refl _ _).alloc (Nat.le_refl _) _, Nat.le_refl _, ⟨0, h, by omega, heap_alloc_new w _⟩, (unhide HS).below ((Below.refl _ _).alloc (Nat.le_refl _) _) (Nat.le_refl _)⟩

end Go.Proofs.Ytinnaajkdkfnaaa

/- A code that comes in as an argument, read as a row of bytes. -/
namespace Go.Proofs.Ytinnaajkdkfnaaa
open Go.ChangeShapes Go.WideShapes Go.ChangeAt Go.RowKit Go.WideElems
set_option maxRecDepth 20000 in
theorem src_of {H : Type} {enc : TypeId × Value → H} {W : World} {o : Option Addr} {len cap : Nat} {d : DataW H} {ps : List MemPlace} (h0 : DataW.Trod enc Try.prog W 0 (fun _ => true) true 22 (.slice o len cap) d ps) (hlt : ∀ x ∈ ps, x.block < W.heap.size) :
    ∀ j, j < len → ∃ (b off z : Nat), o = some ⟨b, off, none⟩ ∧ b < W.heap.size ∧ z < 256 ∧ W.cell? ⟨b, off + j, none⟩ = some (.int .u8 (z : Int)) := by
  obtain ⟨fuel, hf⟩ := h0
  rcases open_ints Try.underlying22 Try.underlying5 (by kernel_rfl) hf with ⟨hcs, hx⟩ | ⟨a, len', cap', zs, hcs, _, hl, hm, hz, hx, hcell, hwz⟩
  · simp [Value.cells] at hcs
    obtain ⟨rfl, rfl, rfl⟩ := hcs
    intro j hj
    omega
  · simp [Value.cells] at hcs
    obtain ⟨rfl, rfl, rfl⟩ := hcs
    simp only [Prod.mk.injEq] at hx
    obtain ⟨rfl, rfl⟩ := hx
    simp only [if_true] at hz
    intro j hj
    have hpos : 0 < zs.length := by omega
    have hj' : j < zs.length := by omega
    obtain ⟨b, off, rfl, hc2⟩ := ints_at hcell hpos
    have hb : b < W.heap.size := hlt (.cell b off) (MemPlace.mem_row.2 ⟨0, hpos, by simp⟩)
    have hget : zs.getD j 0 = zs[j] := by simp [List.getD, List.getElem?_eq_getElem hj']
    have hw := bounds_u8 (hwz zs[j] (List.getElem_mem hj'))
    refine ⟨b, off, zs[j].toNat, rfl, hb, by omega, ?_⟩
    rw [hc2 j hj', hget, Int.toNat_of_nonneg hw.1]
end Go.Proofs.Ytinnaajkdkfnaaa

/- What big, DrawSumOf and DrawPlaces come to: some text of fewer than 40 bytes; twelve numbers below 10000. -/
namespace Go.Proofs.Ytinnaajkdkfnaaa
open Go.RowKit

set_option maxRecDepth 20000 in
set_option maxHeartbeats 400000 in
theorem big_any (w : World) (o : Option Addr) (n c : Nat) :
    Calls Try.prog 9 #[.slice o n c] w fun e w' => e = .returned (.bool (decide ((1048576 : Int) < (n : Int)))) ∧ w' = w := by
  go_enter Try.func9, Try.ntmps9
  go_wp2
  go_ret
  exact ⟨rfl, rfl⟩


theorem Try.infoIC : (Try.prog.info? 3).map (fun i => (i.zero, i.size, i.bytes)) = some (some (.int .i64 0), 1, 8) := by kernel_rfl

def ints (xs : List Nat) : List Value := xs.map fun (x : Nat) => Value.int .i64 (x : Int)


end Go.Proofs.Ytinnaajkdkfnaaa

/- More draws by contracts: once in so many times, one of a list of numbers, many bytes of one kind, a number, a text. -/
namespace Go.Proofs.Ytinnaajkdkfnaaa
open Go.RowKit

set_option maxRecDepth 20000 in
set_option maxHeartbeats 400000 in
theorem l01Once_any {w : World} {base g n c : Nat} {o : Option Addr} (h : Cur w base g o n c) (hn : n ≤ 1048576) (m : Nat) (hm : 0 < m) (hm2 : m ≤ 4294967296) :
    Calls Try.prog 40 #[.pointer (some ⟨g, 0, none⟩), .int .i64 (m : Int)] w fun e w' => ∃ b : Bool, e = .returned (.bool b) ∧ Only g w w' ∧ Cur w' base g o n c := by
  have H := hide h
  clear h
  go_enter Try.func40, Try.ntmps40
  go_wp2_with (go_at_call 36; refine (l01Below_any (unhide H) hn m hm hm2).mono ?_; rintro e w1 ⟨x, hx, rfl, ho, hc⟩; replace hc := hide hc)
  go_ret
  exact ⟨_, rfl, ho, unhide hc⟩

/-- A row of numbers in block b. -/
def Nums (w : World) (b k : Nat) : Prop := ∀ j, j < k → ∃ z : Int, -9223372036854775808 ≤ z ∧ z ≤ 9223372036854775807 ∧ w.cell? ⟨b, j, none⟩ = some (.int .i64 z)

set_option maxRecDepth 20000 in
set_option maxHeartbeats 400000 in
theorem l01PickInt_any {w : World} {base g n c : Nat} {o : Option Addr} (h : Cur w base g o n c) (hn : n ≤ 1048576) (b k cap : Nat) (hk : 0 < k) (hk2 : k ≤ 1000) (hN : Nums w b k) (hbg : b ≠ g) :
    Calls Try.prog 51 #[.pointer (some ⟨g, 0, none⟩), .slice (some ⟨b, 0, none⟩) k cap] w fun e w' => ∃ z : Int, -9223372036854775808 ≤ z ∧ z ≤ 9223372036854775807 ∧ e = .returned (.int .i64 z) ∧ Only g w w' ∧ Cur w' base g o n c := by
  have H := hide h
  have HN := hide hN
  clear h hN
  go_enter Try.func51, Try.ntmps51
  go_wp2_with fail
  go_at_call 36
  refine (l01Below_any (unhide H) hn k hk (by omega)).mono ?_
  rintro e w1 ⟨x, hx, rfl, ho, hc⟩
  replace hc := hide hc
  obtain ⟨z, hz1, hz2, hcell⟩ := (unhide HN) x hx
  have hcell1 : w1.cell? ⟨b, x, none⟩ = some (.int .i64 z) := (World.cell?_of_block (w := w) (ho.block b hbg)).trans hcell
  replace ho := hide ho
  have hx0 : (0 : Int) ≤ (x : Int) := by omega
  have hx1 : (x : Int) < (k : Int) := by omega
  go_wp2
  go_ret
  exact ⟨z, hz1, hz2, rfl, unhide ho, unhide hc⟩


theorem map_set_bv (l : List UInt8) (k x : Nat) (hx : x < 256) : (l.map bv).set k (.int .u8 (x : Int)) = (l.set k (byteOf x)).map bv := by
  rw [List.map_set]
  congr 1
  simp only [bv, byteOf_toNat hx]
theorem rep_bv (n : Nat) : List.replicate n (Value.int .u8 0) = (List.replicate n (0 : UInt8)).map bv := by
  rw [List.map_replicate]; rfl

set_option maxRecDepth 20000 in
set_option maxHeartbeats 400000 in
theorem l01Long_any (m x : Nat) (w : World) (hm : 0 < m) (hm2 : m ≤ 1000000) (hx : x < 256) :
    Calls Try.prog 41 #[.int .i64 (m : Int), .int .u8 (x : Int)] w fun e w' => ∃ l : List UInt8, l.length = m ∧ e = .returned (.string ⟨l.toArray⟩) ∧ Below w.heap.size w w' := by
  obtain ⟨i0, hi, hz0, hz1, hz2⟩ := info_parts Try.infoBC
  go_enter Try.func41, Try.ntmps41
  go_wp2_with (at_make; refine wpList_make_full _ rfl _ _ 22 rfl w.heap.size 5 i0 (.int .u8 0) 1 Try.underlying22 hi hz0 hz1 _ _ _ _ m rfl rfl rfl rfl (by rw [hz2]; omega) (by unfold maxLen; omega) (Nat.le_refl _) ?_; intro w1 hown1 hgrow1)
  have hb1 : Below w.heap.size w w1 := (Below.refl _ _).grown hgrow1 (Nat.le_refl _) (fun k hk => by cases hk)
  have hown0 : OwnB w1 w.heap.size 5 (.slice (some ⟨w.heap.size, 0, none⟩) m m) (List.replicate m (0 : UInt8)) := by
    have e1 : (madeCells (Value.int .u8 0).cells (m * 1)).toList = (List.replicate m (0 : UInt8)).map bv := by
      show (madeCells #[Value.int .u8 0] (m * 1)).toList = _
      rw [Nat.mul_one, toList_madeCells_one, rep_bv]
    rw [e1] at hown1
    unfold OwnB
    rw [List.length_replicate]
    exact hown1
  clear hown1 hgrow1
  go_loopw [6] (fun ti wr => ∃ (k : Nat) (l : List UInt8), k ≤ m ∧ ti = .int .i64 (k : Int) ∧ l.length = m ∧ OwnB wr w.heap.size 5 (.slice (some ⟨w.heap.size, 0, none⟩) m m) l ∧ Below w.heap.size w wr)
    (fun ti _ => m - (intOf ti).toNat)
  case atStart => exact ⟨0, _, Nat.zero_le _, rfl, List.length_replicate, hown0, hb1⟩
  case round =>
    obtain ⟨k, l, hk, rfl, hl, hown, hb⟩ := hrel
    clear hown0 hb1
    by_cases hlt : k < m
    · have hownV : OwnV wr w.heap.size 5 (.slice (some ⟨w.heap.size, 0, none⟩) m m) (l.map bv) := by unfold OwnV; rw [List.length_map]; exact hown
      have hset := hownV.set k (.int .u8 (x : Int))
      rw [map_set_bv l k x hx] at hset
      have hown2 : OwnB (wr.setCell ⟨w.heap.size, k, none⟩ (.int .u8 (x : Int))) w.heap.size 5 (.slice (some ⟨w.heap.size, 0, none⟩) m m) (l.set k (byteOf x)) := by
        unfold OwnV at hset; rw [List.length_map] at hset; exact hset
      have hcell : wr.cell? ⟨w.heap.size, k, none⟩ = some (bv (l[k]'(by omega))) := hownV.cell (by rw [List.getElem?_map, List.getElem?_eq_getElem (by omega)]; rfl)
      have hfr := hownV.frozen k
      have hb2 := hb.setCell (p := ⟨w.heap.size, k, none⟩) (Nat.le_refl _) (.int .u8 (x : Int))
      have hl2 : (l.set k (byteOf x)).length = m := by rw [List.length_set]; exact hl
      replace hset := hide hset
      replace hownV := hide hownV
      replace hown2 := hide hown2
      replace hb2 := hide hb2
      replace hown := hide hown
      replace hl2 := hide hl2
      clear hb
      go_wp2
      go_roundw
      case rel => exact ⟨k + 1, _, by omega, by go_num, unhide hl2, unhide hown2, unhide hb2⟩
      case measure => simp [intOf]; omega
    · have hc := run_string_owned (P := Try.prog) wr 22 9 5 w.heap.size _ _ Try.underlying22 Try.underlying5 Try.underlying9 hown
      replace hown := hide hown
      go_wp2
      go_ret
      exact ⟨l, hl, rfl, hb⟩

end Go.Proofs.Ytinnaajkdkfnaaa

/- The draws of chapter 5 by contracts, over the loaded program. -/
namespace Go.Proofs.Ytinnaajkdkfnaaa
open Go.RowKit
set_option maxRecDepth 20000 in
set_option maxHeartbeats 400000 in
theorem l01PickP_any {w : World} {base g n c : Nat} {o : Option Addr} (p : Int → Prop) (h : Cur w base g o n c) (hn : n ≤ 1048576) (b k cap : Nat) (hk : 0 < k) (hk2 : k ≤ 1000) (hN : ∀ j, j < k → ∃ z, w.cell? ⟨b, j, none⟩ = some (.int .i64 z) ∧ p z) (hbg : b ≠ g) :
    Calls Try.prog 51 #[.pointer (some ⟨g, 0, none⟩), .slice (some ⟨b, 0, none⟩) k cap] w fun e w' => ∃ z : Int, p z ∧ e = .returned (.int .i64 z) ∧ Only g w w' ∧ Cur w' base g o n c := by
  have H := hide h
  have HN := hide hN
  clear h hN
  go_enter Try.func51, Try.ntmps51
  go_wp2_with fail
  go_at_call 36
  refine (l01Below_any (unhide H) hn k hk (by omega)).mono ?_
  rintro e w1 ⟨x, hx, rfl, ho, hc⟩
  replace hc := hide hc
  obtain ⟨z, hcell, hz⟩ := (unhide HN) x hx
  have hcell1 : w1.cell? ⟨b, x, none⟩ = some (.int .i64 z) := (World.cell?_of_block (w := w) (ho.block b hbg)).trans hcell
  replace ho := hide ho
  replace hz := hide hz
  have hx0 : (0 : Int) ≤ (x : Int) := by omega
  have hx1 : (x : Int) < (k : Int) := by omega
  go_wp2
  go_ret
  exact ⟨z, unhide hz, rfl, unhide ho, unhide hc⟩
set_option maxRecDepth 20000 in
set_option maxHeartbeats 400000 in
theorem l01Long0_any (m x : Nat) (w : World) (hm2 : m ≤ 1000000) (hx : x < 256) :
    Calls Try.prog 41 #[.int .i64 (m : Int), .int .u8 (x : Int)] w fun e w' => ∃ l : List UInt8, l.length = m ∧ e = .returned (.string ⟨l.toArray⟩) ∧ Below w.heap.size w w' := by
  obtain ⟨i0, hi, hz0, hz1, hz2⟩ := info_parts Try.infoBC
  go_enter Try.func41, Try.ntmps41
  go_wp2_with (at_make; refine wpList_make_full _ rfl _ _ 22 rfl w.heap.size 5 i0 (.int .u8 0) 1 Try.underlying22 hi hz0 hz1 _ _ _ _ m rfl rfl rfl rfl (by rw [hz2]; omega) (by unfold maxLen; omega) (Nat.le_refl _) ?_; intro w1 hown1 hgrow1)
  have hb1 : Below w.heap.size w w1 := (Below.refl _ _).grown hgrow1 (Nat.le_refl _) (fun k hk => by cases hk)
  have hown0 : OwnB w1 w.heap.size 5 (.slice (some ⟨w.heap.size, 0, none⟩) m m) (List.replicate m (0 : UInt8)) := by
    have e1 : (madeCells (Value.int .u8 0).cells (m * 1)).toList = (List.replicate m (0 : UInt8)).map bv := by
      show (madeCells #[Value.int .u8 0] (m * 1)).toList = _
      rw [Nat.mul_one, toList_madeCells_one, rep_bv]
    rw [e1] at hown1
    unfold OwnB
    rw [List.length_replicate]
    exact hown1
  clear hown1 hgrow1
  go_loopw [6] (fun ti wr => ∃ (k : Nat) (l : List UInt8), k ≤ m ∧ ti = .int .i64 (k : Int) ∧ l.length = m ∧ OwnB wr w.heap.size 5 (.slice (some ⟨w.heap.size, 0, none⟩) m m) l ∧ Below w.heap.size w wr)
    (fun ti _ => m - (intOf ti).toNat)
  case atStart => exact ⟨0, _, Nat.zero_le _, rfl, List.length_replicate, hown0, hb1⟩
  case round =>
    obtain ⟨k, l, hk, rfl, hl, hown, hb⟩ := hrel
    clear hown0 hb1
    by_cases hlt : k < m
    · have hownV : OwnV wr w.heap.size 5 (.slice (some ⟨w.heap.size, 0, none⟩) m m) (l.map bv) := by unfold OwnV; rw [List.length_map]; exact hown
      have hset := hownV.set k (.int .u8 (x : Int))
      rw [map_set_bv l k x hx] at hset
      have hown2 : OwnB (wr.setCell ⟨w.heap.size, k, none⟩ (.int .u8 (x : Int))) w.heap.size 5 (.slice (some ⟨w.heap.size, 0, none⟩) m m) (l.set k (byteOf x)) := by
        unfold OwnV at hset; rw [List.length_map] at hset; exact hset
      have hcell : wr.cell? ⟨w.heap.size, k, none⟩ = some (bv (l[k]'(by omega))) := hownV.cell (by rw [List.getElem?_map, List.getElem?_eq_getElem (by omega)]; rfl)
      have hfr := hownV.frozen k
      have hb2 := hb.setCell (p := ⟨w.heap.size, k, none⟩) (Nat.le_refl _) (.int .u8 (x : Int))
      have hl2 : (l.set k (byteOf x)).length = m := by rw [List.length_set]; exact hl
      replace hset := hide hset
      replace hownV := hide hownV
      replace hown2 := hide hown2
      replace hb2 := hide hb2
      replace hown := hide hown
      replace hl2 := hide hl2
      clear hb
      go_wp2
      go_roundw
      case rel => exact ⟨k + 1, _, by omega, by go_num, unhide hl2, unhide hown2, unhide hb2⟩
      case measure => simp [intOf]; omega
    · have hc := run_string_owned (P := Try.prog) wr 22 9 5 w.heap.size _ _ Try.underlying22 Try.underlying5 Try.underlying9 hown
      replace hown := hide hown
      go_wp2
      go_ret
      exact ⟨l, hl, rfl, hb⟩
end Go.Proofs.Ytinnaajkdkfnaaa

/- A drawn key, over the loaded program. -/
namespace Go.Proofs.Ytinnaajkdkfnaaa
open Go.RowKit
theorem nums8 (w : World) (T : TypeId) : ∀ j, j < 8 → ∃ z, (w.alloc (.cells #[.int .i64 0, .int .i64 0, .int .i64 26, .int .i64 58, .int .i64 63, .int .i64 64, .int .i64 65, .int .i64 80] T)).cell? ⟨w.heap.size, j, none⟩ = some (.int .i64 z) ∧ (0 ≤ z ∧ z ≤ 80) := by
  intro j hj
  rw [cell_of_row _ w.heap.size j _ T (0, 0) (heap_alloc_new w _)]
  match j, hj with
  | 0, _ => exact ⟨0, rfl, by decide⟩
  | 1, _ => exact ⟨0, rfl, by decide⟩
  | 2, _ => exact ⟨26, rfl, by decide⟩
  | 3, _ => exact ⟨58, rfl, by decide⟩
  | 4, _ => exact ⟨63, rfl, by decide⟩
  | 5, _ => exact ⟨64, rfl, by decide⟩
  | 6, _ => exact ⟨65, rfl, by decide⟩
  | 7, _ => exact ⟨80, rfl, by decide⟩
  | j + 8, hj => exact absurd hj (by omega)
set_option maxRecDepth 20000 in
set_option maxHeartbeats 400000 in
theorem l06Key_any {w : World} {base g n c : Nat} {o : Option Addr} (h : Cur w base g o n c) (hn : n ≤ 1048576) :
    Calls Try.prog 26 #[.pointer (some ⟨g, 0, none⟩)] w fun e w' => ∃ s : ByteArray, s.size ≤ 200 ∧ e = .returned (.string s) ∧ Below base w w' ∧ Cur w' base g o n c := by
  have hlo := h.lo
  have H := hide h
  clear h
  go_enter Try.func26, Try.ntmps26
  go_wp2_with fail
  refine (l01Below_any (unhide H) hn 6 (by omega) (by omega)).mono ?_
  rintro e w3 ⟨x, hx, rfl, ho3, hc3⟩
  have hb3 := ho3.below hlo
  replace hc3 := hide hc3
  clear ho3 H
  go_wp2_with fail
  refine (l01Text_any (unhide hc3) hn x (by omega)).mono ?_
  rintro e w4 ⟨l, hl, rfl, hb34, hc4⟩
  have hb4 := hb3.trans hb34
  have hgl := hc4.lt
  have H1 := hide (hc4.below ((Below.refl w4.heap.size w4).alloc (Nat.le_refl _) (.cells #[.int .i64 0, .int .i64 0, .int .i64 26, .int .i64 58, .int .i64 63, .int .i64 64, .int .i64 65, .int .i64 80] 3)) hgl)
  have HN := hide (nums8 w4 3)
  have hb5 : Below base w (w4.alloc (.cells #[.int .i64 0, .int .i64 0, .int .i64 26, .int .i64 58, .int .i64 63, .int .i64 64, .int .i64 65, .int .i64 80] 3)) := hb4.alloc (by omega) _
  have hne : w4.heap.size ≠ g := by omega
  have hls : (⟨l.toArray⟩ : ByteArray).size ≤ 10 := by show l.length ≤ 10; omega
  generalize (⟨l.toArray⟩ : ByteArray) = tl at *
  clear hb3 hb34 hc3 hc4
  go_wp2_with fail
  generalize w4.alloc (.cells #[.int .i64 0, .int .i64 0, .int .i64 26, .int .i64 58, .int .i64 63, .int .i64 64, .int .i64 65, .int .i64 80] 3) = w5 at *
  refine (l01PickP_any (fun z => 0 ≤ z ∧ z ≤ 80) (unhide H1) hn w4.heap.size 8 8 (by omega) (by omega) (unhide HN) hne).mono ?_
  rintro e w6 ⟨z, ⟨hz0, hz1⟩, rfl, ho6, hc6⟩
  obtain ⟨m, rfl⟩ : ∃ m : Nat, z = (m : Int) := ⟨z.toNat, by omega⟩
  have hb6 := hb5.trans (ho6.below hlo)
  have hgl6 := hc6.lt
  replace hc6 := hide hc6
  clear hb5 ho6 H1 HN
  go_wp2_with fail
  refine (l01Long0_any m 7 w6 (by omega) (by omega)).mono ?_
  rintro e w7 ⟨l2, hl2, rfl, hb67⟩
  have hc7 := (unhide hc6).below hb67 hgl6
  have hb7 := hb6.trans (hb67.mono (by omega))
  have hls2 : (⟨l2.toArray⟩ : ByteArray).size ≤ 80 := by show l2.length ≤ 80; omega
  generalize (⟨l2.toArray⟩ : ByteArray) = tl2 at *
  clear hb6 hb67 hc6
  go_wp2
  go_ret
  refine ⟨_, ?_, rfl, hb7, hc7⟩
  rw [ByteArray.size_append]
  omega
set_option maxRecDepth 20000 in
set_option maxHeartbeats 400000 in
theorem begins_any (a b : ByteArray) (h : a.size ≤ b.size) (hx : b.extract 0 a.size = a) (w : World) :
    Calls Try.prog 17 #[.string a, .string b] w fun e w' => e = .returned (.bool true) ∧ Below w.heap.size w w' := by
  have h1 : (a.size : Int) ≤ (b.size : Int) := by omega
  have hX := hide hx
  clear hx
  go_enter Try.func17, Try.ntmps17
  go_wp2
  go_ret
  refine ⟨?_, Below.refl _ _⟩
  simp [unhide hX]
end Go.Proofs.Ytinnaajkdkfnaaa

