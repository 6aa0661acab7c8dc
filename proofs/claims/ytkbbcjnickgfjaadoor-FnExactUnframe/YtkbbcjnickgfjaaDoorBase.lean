/- Laws of no program: a row of bytes that the call itself owns, read as a text; the bytes of a number as the document lays them. -/
import Derived.WalkKit
import Derived.WalkLawsBesides
import Derived.Laws.IdiomStrings
import Derived.Laws.BytesArg
import Derived.Deep.RegionLaw
namespace Go.Proofs.YtkbbcjnickgfjaaDoor
open Go.RowKit

theorem hide {p : Prop} (h : p) : Hid p := h
theorem unhide {p : Prop} (h : Hid p) : p := h

/-- A byte as a cell. -/
def bv (b : UInt8) : Value := .int .u8 (b.toNat : Int)

/-- A number below 256 as a byte (a name that the walk does not open). -/
def byteOf (n : Nat) : UInt8 := UInt8.ofNat n
theorem byteOf_toNat {n : Nat} (h : n < 256) : (byteOf n).toNat = n := by unfold byteOf; simp; omega

/-- The slice value v is a row of the call's own (blocks from base on) that holds just the bytes l. -/
def OwnB (w : World) (base : Nat) (e : TypeId) (v : Value) (l : List UInt8) : Prop := w.ownsRow base e 1 v l.length (l.map bv)

theorem run_string_owned {P : Program} (w : World) (src dst e : TypeId) (base : Nat) (v : Value) (l : List UInt8)
    (hs : P.underlying src = some (.slice e)) (he : P.underlying e = some (.int .u8)) (hd : P.underlying dst = some .string)
    (hown' : OwnB w base e v l) : (convert src dst v).run P w = .ok (.string ⟨l.toArray⟩) w := by
  have hown : w.ownsRow base e 1 v l.length (l.map bv) := hown'
  rcases hown.2 with ⟨hv, hn⟩ | ⟨g, cap, cur, hv, _⟩
  · have : l = [] := by cases l with
      | nil => rfl
      | cons a t => simp at hn
    subst this; subst hv
    rw [run_convert_bytes_nil w src e hs he 0 0 dst hd]
    rfl
  · have hc := hown.cells (g := g) (by rw [hv]; rfl)
    subst hv
    exact run_convert_bytes_back w src dst e ⟨g, 0, none⟩ cap l hs he hd (fun j hj => by
      apply hc j
      simp [List.getElem?_eq_getElem hj, bv])

theorem OwnB.alloc {w : World} {base : Nat} {e : TypeId} {v : Value} {l : List UInt8} (h : OwnB w base e v l) (o : Obj) : OwnB (w.alloc o) base e v l := World.ownsRow.alloc h o
theorem OwnB.drew {w : World} {base : Nat} {e : TypeId} {v : Value} {l : List UInt8} (h : OwnB w base e v l) : OwnB w.drew base e v l := h
theorem OwnB.drewN {w : World} {base : Nat} {e : TypeId} {v : Value} {l : List UInt8} (n : Nat) (h : OwnB w base e v l) : OwnB (w.drewN n) base e v l := h

/-- 'out = append(out, b0, ..)' where out is a row of bytes of the call's own, and the new ones lie in a block: in ONE way. -/
theorem wp_append_bytes {P : Program} {W : World} {o : Oper} {a : Act} {K : Act → World → Prop} {Q : Exit → Act → World → Prop} (s x : Operand) (t : TypeId)
    (ho : o.op = .call { callee := .builtin .append, args := #[s, x], argTypes := #[t, t] })
    (base B : Nat) (e : TypeId) (i : TypeInfo) (ht : P.underlying t = some (.slice e)) (hi : P.info? e = some i) (hz : i.zero = some (.int .u8 0)) (hsize : i.size = 1) (hby : i.bytes = 1)
    (v : Value) (l : List UInt8) (hs : a.eval s = v) (hown' : OwnB W base e v l)
    (nb : Nat) (cs : Array Value) (hblk : W.heap[nb]? = some (.cells cs e (0, 0))) (news : List UInt8) (hcs : cs.toList = news.map bv) (m c : Nat) (hm : news.length = m) (hx : a.eval x = .slice (some ⟨nb, 0, none⟩) m c)
    (hlen : l.length + m ≤ 140737488355328) (hB : B ≤ base) (hbase : base ≤ W.heap.size) {w00 : World} (hbel : Below B w00 W)
    (h : ∀ v' w', OwnB w' base e v' (l ++ news) → Below B w00 w' → K (a.put o.dst v') w') : o.wp P a W K Q := by
  subst hm
  have hown : W.ownsRow base e 1 v l.length (l.map bv) := hown'
  have hcell : ∀ j u, (news.map bv)[j]? = some u → W.cell? ((⟨nb, 0, none⟩ : Addr).add j) = some u := by
    intro j u hu
    have hadd : (⟨nb, 0, none⟩ : Addr).add j = ⟨nb, j, none⟩ := by unfold Addr.add; split <;> simp_all
    rw [hadd, cell_of_row W nb j cs e (0, 0) hblk]
    rw [← hcs] at hu
    simpa using hu
  refine wp_append_own W s x t ho base e i (.int .u8 0) 1 1 ht hi hz hsize hby rfl (by decide) v l.length (l.map bv) hs hown
    ⟨nb, 0, none⟩ news.length c (news.map bv) hx (by simp) hcell (by intro u hu; simp only [List.mem_map] at hu; obtain ⟨b, _, rfl⟩ := hu; rfl) (by unfold maxLen; omega) (by omega) hbase ?_
  intro v' w' h1 h2 _
  refine h v' w' (by unfold OwnB; simpa using h1) ?_
  refine hbel.grown h2 (by omega) ?_
  intro k hk
  have := (hown.lt k hk).1
  omega

theorem wpList_append_bytes {P : Program} {w : World} {ops : Array Oper} {rest : List Oper} {o : Oper} {a : Act} {Q : Exit → Act → World → Prop} (hgd : o.guard = none) (s x : Operand) (t : TypeId)
    (ho : o.op = .call { callee := .builtin .append, args := #[s, x], argTypes := #[t, t] })
    (base B : Nat) (e : TypeId) (i : TypeInfo) (ht : P.underlying t = some (.slice e)) (hi : P.info? e = some i) (hz : i.zero = some (.int .u8 0)) (hsize : i.size = 1) (hby : i.bytes = 1)
    (v : Value) (l : List UInt8) (hs : a.eval s = v) (hown' : OwnB w base e v l)
    (cs : Array Value) (news : List UInt8) (hcs : cs.toList = news.map bv) (m c : Nat) (hm : news.length = m) (hx : a.eval x = .slice (some ⟨w.heap.size, 0, none⟩) m c)
    (hlen : l.length + m ≤ 140737488355328) (hB : B ≤ base) (hbase : base ≤ w.heap.size) {w00 : World} (hbel : Below B w00 w)
    (h : ∀ v' w', OwnB w' base e v' (l ++ news) → Below B w00 w' → wpList P ops Q rest (a.put o.dst v') w') :
    wpList P ops Q (o :: rest) a (w.alloc (.cells cs e)) :=
  wpList_plain hgd fun _ hK => wp_append_bytes s x t ho base B e i ht hi hz hsize hby v l hs (hown'.alloc _) w.heap.size cs (heap_alloc_new w _) news hcs m c hm hx hlen hB (by simp; omega) (hbel.alloc (by omega) _) fun v' w' h2 h3 => hK _ _ (h v' w' h2 h3)

/-- The same inside a region that draws its order. -/
theorem step_append_bytes {P : Program} {w W : World} {ops : Array Oper} {o : Oper} {a : Act} {K : Act → World → Prop} {Q : Exit → Act → World → Prop} {E : Prop} (hg : o.guard = none) (s x : Operand) (t : TypeId)
    (ho : o.op = .call { callee := .builtin .append, args := #[s, x], argTypes := #[t, t] })
    (base B : Nat) (e : TypeId) (i : TypeInfo) (ht : P.underlying t = some (.slice e)) (hi : P.info? e = some i) (hz : i.zero = some (.int .u8 0)) (hsize : i.size = 1) (hby : i.bytes = 1)
    (v : Value) (l : List UInt8) (hs : a.eval s = v) (hown' : OwnB w base e v l)
    (cs : Array Value) (news : List UInt8) (hcs : cs.toList = news.map bv) (m c : Nat) (hm : news.length = m) (hx : a.eval x = .slice (some ⟨w.heap.size, 0, none⟩) m c)
    (hW : W = (w.alloc (.cells cs e)).drew)
    (hlen : l.length + m ≤ 140737488355328) (hB : B ≤ base) (hbase : base ≤ w.heap.size) {w00 : World} (hbel : Below B w00 w)
    (h : ∀ v' w', OwnB w' base e v' (l ++ news) → Below B w00 w' → K (a.put o.dst v') w') :
    if Region.wanted o (yielded ops a.tmps) = true then Oper.wp P o a W K Q else E := by
  subst hW
  have hw : Region.wanted o (yielded ops a.tmps) = true := by simp [Region.wanted, hg]
  rw [if_pos hw]
  exact wp_append_bytes (W := (w.alloc (.cells cs e)).drew) s x t ho base B e i ht hi hz hsize hby v l hs ((hown'.alloc _).drew) w.heap.size cs (heap_alloc_new w _) news hcs m c hm hx hlen hB (by show base ≤ (w.alloc (.cells cs e)).heap.size; simp; omega) ((hbel.alloc (by omega) _).drew) h

/-- The bytes of a number: seven bits a byte, the lowest first (f: how many bytes may go on). -/
def varF : Nat → Nat → List UInt8
  | 0, n => [byteOf n]
  | f + 1, n => if n ≤ 127 then [byteOf n] else byteOf (n % 128 + 128) :: varF f (n / 128)
def varB (n : Nat) : List UInt8 := varF n n

theorem varF_more : ∀ (f g n : Nat), n ≤ f → n ≤ g → varF f n = varF g n := by
  intro f
  induction f with
  | zero =>
    intro g n h1 h2
    have : n = 0 := by omega
    subst this
    cases g with
    | zero => rfl
    | succ g => rfl
  | succ f ih =>
    intro g n h1 h2
    cases g with
    | zero =>
      have : n = 0 := by omega
      subst this
      rfl
    | succ g =>
      unfold varF
      by_cases h : n ≤ 127
      · rw [if_pos h, if_pos h]
      · rw [if_neg h, if_neg h, ih g (n / 128) (by omega) (by omega)]
theorem varB_small {n : Nat} (h : n ≤ 127) : varB n = [byteOf n] := by
  unfold varB
  cases n with
  | zero => rfl
  | succ n => unfold varF; rw [if_pos h]
theorem varB_big {n : Nat} (h : ¬ n ≤ 127) : varB n = byteOf (n % 128 + 128) :: varB (n / 128) := by
  unfold varB
  cases n with
  | zero => omega
  | succ n =>
    rw [varF, if_neg h, varF_more n ((n + 1) / 128) ((n + 1) / 128) (by omega) (Nat.le_refl _)]
theorem varB_len (n : Nat) : 1 ≤ (varB n).length ∧ (varB n).length ≤ n + 1 := by
  induction n using Nat.strongRecOn with
  | _ n ih =>
    by_cases h : n ≤ 127
    · rw [varB_small h]; simp
    · rw [varB_big h]
      have := ih (n / 128) (by omega)
      simp only [List.length_cons]
      omega
end Go.Proofs.YtkbbcjnickgfjaaDoor
