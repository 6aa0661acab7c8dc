/- Merged: Thg3, Thg4, Bok0, Rwn, ThgH, Bok1, Rwo, ArgBk, Tsz, Dec, Hex. -/
import Derived.Test.YtkbbcjnickgfjabGreatMgChainOk1
import Derived.Test.YtkbbcjnickgfjabGreatMgChainOk2
import Derived.Test.YtkbbcjnickgfjabGreatMgChainOk3
import Derived.Test.YtkbbcjnickgfjabGreatMgChainOk4
import Derived.Laws.CopyOwn
import Derived.Laws.Rows
import Derived.Laws.Tables
import Derived.Laws.CopyRow
import Derived.Deep.Slices
import Derived.ChangeSame
import Derived.Lib.SmallJoins
import Derived.Test.YtkbbcjnickgfjabGreatChecked
import Derived.Deep.RegionWith
import Derived.Deep.RegionLaw
import Derived.Deep.RegionHeld3
/- Readers of texts by the given model, and things that are read, over the loaded program. -/
namespace Go.Proofs.YtkbbcjnickgfjabGreat
open Go.RowKit
abbrev cuC (t : ByteArray) (a : Nat) (b : Bool) : Array Value := #[.string t, .int .i64 (a : Int), .bool b]
theorem gB9 {w w' : World} (hb : Below w.heap.size w w') (r : Option Nat) : w.grownBy w' r := ⟨hb.os, hb.tape, hb.output, hb.size, fun k hk _ => hb.block k hk⟩
theorem gT9 {a b c : World} {r : Option Nat} (h : a.grownBy b r) (k : b.grownBy c r) : a.grownBy c r :=
  ⟨k.os.trans h.os, k.tape.trans h.tape, k.output.trans h.output, Nat.le_trans h.size k.size, fun i hi hr => (k.block i (Nat.lt_of_lt_of_le hi h.size) hr).trans (h.block i hi hr)⟩
theorem gD9 {w w' : World} {r : Option Nat} (h : w.grownBy w' r) (n : Nat) : w.grownBy (w'.drewN n) r := ⟨h.os, h.tape, h.output, h.size, h.block⟩
theorem below_gr {a b c : World} {g : Nat} (h : Below a.heap.size a b) (k : b.grownBy c (some g)) (hg : a.heap.size ≤ g) : Below a.heap.size a c :=
  ⟨k.os.trans h.os, k.tape.trans h.tape, k.output.trans h.output, Nat.le_trans h.size k.size, fun q hq => (k.block q (Nat.lt_of_lt_of_le hq h.size) (fun e => by have := Option.some.inj e; omega)).trans (h.block q hq)⟩
end Go.Proofs.YtkbbcjnickgfjabGreat

/- Things that are read, by the given model, over the loaded program. -/
namespace Go.Proofs.YtkbbcjnickgfjabGreat
open Go.RowKit
theorem neStr9 {a b : ByteArray} (h : ¬ a = b) : (a.toList == b.toList) = false := by
  rw [← beq_toListBytes]
  show (a.data == b.data) = false
  rw [beq_eq_false_iff_ne]
  intro e
  apply h
  cases a
  cases b
  simp_all
theorem bit_eq (n : Nat) : (((n : Int) % 2 == 1) = decide (n % 2 = 1)) := by
  by_cases h : n % 2 = 1
  · rw [decide_eq_true h]; simp; omega
  · rw [decide_eq_false h, beq_eq_false_iff_ne]; omega
theorem rdX_eq {t : ByteArray} {n1 a1 n2 a2 n3 a3 a4 n5 a5 : Nat} {b1 b2 b3 b4 b5 : Bool} {s4 : ByteArray} (h1 : vrS t 0 false = (n1, a1, b1)) (h2 : onS t a1 b1 = (n2, a2, b2)) (h3 : onS t a2 b2 = (n3, a3, b3)) (h4 : shS t a3 b3 = (s4, a4, b4)) (h5 : vrS t a4 b4 = (n5, a5, b5)) :
    rdX t = (⟨(n1 : Int), (n2 : Int), decide (n3 % 2 = 1), decide (n3 / 2 % 2 = 1), decide (n3 / 4 % 2 = 1), decide (n3 / 8 % 2 = 1), s4, (n5 : Int)⟩, b5) := by
  unfold rdX
  simp only [h1, h2, h3, h4, h5]
theorem th_one (x : Th) : (thC x).all (·.oneCell') = true := by unfold thC; simp [Value.oneCell']
theorem th_size (x : Th) : (Tryz.prog.info? 48).map (·.size) = some (thC x).size := by
  have h : (Tryz.prog.info? 48).map (·.size) = some 8 := by kernel_rfl
  rw [h]; rfl
end Go.Proofs.YtkbbcjnickgfjabGreat

/- Books, reckoned: records and their texts; what is right; what is entered. -/
namespace Go.Proofs.YtkbbcjnickgfjabGreat
/-- A record. -/
structure Rc where
  kd : Int
  tx : ByteArray
  nm : Int
  th : Th
def rcC (r : Rc) : Array Value := #[.int .i64 r.kd, .string r.tx, .int .i64 r.nm, .int .i64 r.th.id, .int .i64 r.th.kind, .bool r.th.hid, .bool r.th.fix, .bool r.th.sgn, .bool r.th.wrp, .string r.th.val, .int .i64 r.th.nxt]
def rcZ : Rc := ⟨0, ⟨#[]⟩, 0, thZ⟩
abbrev ThNo (x : Th) : Prop := x.id = 0 ∧ x.kind = 0 ∧ x.hid = false ∧ x.fix = false ∧ x.sgn = false ∧ x.wrp = false ∧ x.val = ⟨#[]⟩ ∧ x.nxt = 0
def thNo (x : Th) : Bool := decide (ThNo x)
theorem thNo_is {x : Th} (h : ThNo x) : x = thZ := by
  obtain ⟨a, b, c, d, e, f, g, i⟩ := x
  obtain ⟨h1, h2, h3, h4, h5, h6, h7, h8⟩ := h
  dsimp only at h1 h2 h3 h4 h5 h6 h7 h8
  subst h1 h2 h3 h4 h5 h6 h7 h8
  rfl
theorem thNo_thZ : ThNo thZ := ⟨rfl, rfl, rfl, rfl, rfl, rfl, rfl, rfl⟩
abbrev RcOk (r : Rc) : Prop := (r.kd = 1 ∧ r.tx.size = 32 ∧ r.nm = 0 ∧ ThNo r.th) ∨ (r.kd = 2 ∧ r.tx.size = 0 ∧ ThNo r.th ∧ 0 ≤ r.nm ∧ r.nm ≤ 3) ∨ (r.kd = 3 ∧ ThOk r.th ∧ r.tx.size = 0 ∧ r.nm = 0) ∨ (r.kd = 4 ∧ r.tx.size = 0 ∧ ThNo r.th ∧ 1 ≤ r.nm ∧ r.nm ≤ 1000)
def rcOk (r : Rc) : Bool := decide (RcOk r)
theorem rcOk_iff (r : Rc) : rcOk r = true ↔ RcOk r := by unfold rcOk; exact decide_eq_true_iff
theorem rcOk_not (r : Rc) : rcOk r = false ↔ ¬ RcOk r := by unfold rcOk; exact decide_eq_false_iff_not
/-- The bytes of a right record. -/
def rcL (r : Rc) : List UInt8 := byteOf r.kd.toNat :: (if r.kd = 1 then r.tx.data.toList else if r.kd = 3 then thL r.th else varB r.nm.toNat)
def rcT (r : Rc) : ByteArray := if rcOk r = true then ⟨(rcL r).toArray⟩ else ⟨#[]⟩
theorem rcT_is {r : Rc} (h : RcOk r) : rcT r = ⟨(rcL r).toArray⟩ := by unfold rcT; rw [if_pos ((rcOk_iff r).2 h)]
/-- What is read of a text, right or not. -/
def rcX (t : ByteArray) : Rc × Bool :=
  let r1 := onS t 0 false
  if r1.1 = 1 then (⟨1, (tkS t r1.2.1 r1.2.2 32).1, 0, thZ⟩, (tkS t r1.2.1 r1.2.2 32).2.2)
  else if r1.1 = 2 ∨ r1.1 = 4 then (⟨(r1.1 : Int), ⟨#[]⟩, ((vrS t r1.2.1 r1.2.2).1 : Int), thZ⟩, (vrS t r1.2.1 r1.2.2).2.2)
  else if r1.1 = 3 then (⟨3, ⟨#[]⟩, 0, rdTh (t.extract 1 t.size)⟩, r1.2.2)
  else (⟨(r1.1 : Int), ⟨#[]⟩, 0, thZ⟩, r1.2.2)
def rcRdOk (t : ByteArray) : Bool := decide ((rcX t).2 = false ∧ RcOk (rcX t).1 ∧ rcT (rcX t).1 = t)
def rcRd (t : ByteArray) : Rc := if rcRdOk t = true then (rcX t).1 else rcZ
theorem rcRdOk_iff (t : ByteArray) : rcRdOk t = true ↔ ((rcX t).2 = false ∧ RcOk (rcX t).1 ∧ rcT (rcX t).1 = t) := by unfold rcRdOk; exact decide_eq_true_iff
theorem rcRd_right {t : ByteArray} (h : rcRdOk t = true) : RcOk (rcRd t) ∧ rcT (rcRd t) = t := by
  have h1 := (rcRdOk_iff t).1 h
  unfold rcRd
  rw [if_pos h]
  exact h1.2
theorem size_zero_is {s : ByteArray} (h : s.size = 0) : s = ⟨#[]⟩ := by
  apply ByteArray.ext
  exact Array.eq_empty_of_size_eq_zero h
/-- What is written of a right record is read so. -/
theorem rcX_rcT {r : Rc} (h : RcOk r) : rcX (rcT r) = (r, false) := by
  have e0 := rcT_is h
  obtain ⟨t, ht⟩ : ∃ t, t = rcT r := ⟨_, rfl⟩
  rw [← ht]
  have h0 : t.data.toList.drop 0 = rcL r := by rw [ht, e0]; rfl
  have hk : 1 ≤ r.kd ∧ r.kd ≤ 4 := by rcases h with h | h | h | h <;> omega
  have hkb : (byteOf r.kd.toNat).toNat = r.kd.toNat := byteOf_toNat (by omega)
  have hd : t.data.toList.drop 0 = byteOf r.kd.toNat :: (if r.kd = 1 then r.tx.data.toList else if r.kd = 3 then thL r.th else varB r.nm.toNat) := h0
  obtain ⟨e1, h1⟩ := on_at hd (Nat.zero_le _)
  rw [hkb] at e1
  obtain ⟨kd, tx, nm, th⟩ := r
  unfold RcOk at h
  dsimp only at h hk e1 h1 hd
  rcases h with ⟨rfl, h2, rfl, h3⟩ | ⟨rfl, h2, h3, h4, h5⟩ | ⟨rfl, h2, h3, rfl⟩ | ⟨rfl, h2, h3, h4, h5⟩
  · have e1' : onS t 0 false = (1, 0 + 1, false) := e1
    have h1' : t.data.toList.drop (0 + 1) = tx.data.toList ++ [] := by rw [List.append_nil]; exact h1
    have hle : 0 + 1 ≤ t.size := by
      have e := congrArg List.length hd
      rw [List.length_drop, List.length_cons] at e
      have : t.data.toList.length = t.size := rfl
      omega
    obtain ⟨e2, _⟩ := tk_at h1' hle
    have hl : tx.data.toList.length = 32 := h2
    rw [hl] at e2
    have hv : (⟨tx.data.toList.toArray⟩ : ByteArray) = tx := by simp
    unfold rcX
    simp only [e1', e2, if_true, hv]
    rw [thNo_is h3]
  · have e1' : onS t 0 false = (2, 0 + 1, false) := e1
    have h1' : t.data.toList.drop (0 + 1) = varB nm.toNat ++ [] := by rw [List.append_nil]; exact h1
    obtain ⟨e2, _⟩ := vr_at h1' (by omega)
    unfold rcX
    simp only [e1', e2]
    rw [if_neg (by decide), if_pos (by decide), thNo_is h3, size_zero_is h2]
    have : ((nm.toNat : Nat) : Int) = nm := by omega
    rw [this]
    rfl
  · have e1' : onS t 0 false = (3, 0 + 1, false) := e1
    have hx : t.extract 1 t.size = thT th := by
      apply ByteArray.ext
      apply Array.toList_inj.1
      have e : (t.extract 1 t.size).data.toList = (t.data.toList.drop 1).take (t.size - 1) := by rw [ByteArray.data_extract]; simp
      have h1' : t.data.toList.drop 1 = thL th := h1
      have hl : t.size - 1 = (thL th).length := by
        have e3 := congrArg List.length h1'
        rw [List.length_drop] at e3
        exact e3
      rw [e, h1', hl, List.take_length]
      rfl
    unfold rcX
    simp only [e1']
    rw [if_neg (by decide), if_neg (by decide), if_pos trivial, hx, (rd_thT ((thOk_iff th).2 h2)).2, size_zero_is h3]
  · have e1' : onS t 0 false = (4, 0 + 1, false) := e1
    have h1' : t.data.toList.drop (0 + 1) = varB nm.toNat ++ [] := by rw [List.append_nil]; exact h1
    obtain ⟨e2, _⟩ := vr_at h1' (by omega)
    unfold rcX
    simp only [e1', e2]
    rw [if_neg (by decide), if_pos (by decide), thNo_is h3, size_zero_is h2]
    have : ((nm.toNat : Nat) : Int) = nm := by omega
    rw [this]
    rfl
theorem rcRd_rcT {r : Rc} (h : RcOk r) : rcRdOk (rcT r) = true ∧ rcRd (rcT r) = r := by
  have h1 := rcX_rcT h
  have h2 : rcRdOk (rcT r) = true := by
    rw [rcRdOk_iff, h1]
    exact ⟨rfl, h, rfl⟩
  refine ⟨h2, ?_⟩
  unfold rcRd
  rw [if_pos h2, h1]
/-- A book. -/
structure Bk where
  wd : ByteArray
  tr : Int
  ths : List Th
  la : Int
  ch : ByteArray
  ct : Int
def bkZ : Bk := ⟨⟨#[]⟩, 0, [], 0, ⟨#[]⟩, 0⟩
/-- Things in their order, each right, none above la. -/
def thsOk (la : Int) : List Th → Bool
  | [] => true
  | [x] => thOk x && decide (x.id ≤ la)
  | x :: y :: l => thOk x && decide (x.id ≤ la) && decide (x.id < y.id) && thsOk la (y :: l)
abbrev BkHead (b : Bk) : Prop := b.wd.size = 32 ∧ b.ch.size = 32 ∧ 0 ≤ b.tr ∧ b.tr ≤ 3 ∧ b.ths.length ≤ 8 ∧ 0 ≤ b.la ∧ b.la ≤ 1000 ∧ 0 ≤ b.ct ∧ b.ct ≤ 10000
def bkOk (b : Bk) : Bool := decide (BkHead b) && thsOk b.la b.ths
def hasT (l : List Th) (id : Int) : Bool := l.any fun x => decide (x.id = id)
def ofT (l : List Th) (id : Int) : Th := (l.find? fun x => decide (x.id = id)).getD thZ
def putT (l : List Th) (x : Th) : List Th := (l.filter fun y => decide (y.id < x.id)) ++ x :: l.filter fun y => decide (x.id < y.id)
def dropT (l : List Th) (id : Int) : List Th := l.filter fun y => decide (y.id ≠ id)
def grownB (a b : Th) : Bool := decide (a.kind = b.kind ∧ a.val = b.val ∧ a.sgn = b.sgn ∧ a.wrp = b.wrp ∧ a.nxt ≤ b.nxt ∧ (a.hid = true → b.hid = true) ∧ (a.fix = true → b.fix = true))
def bkNew : Bk := ⟨digB ⟨#[]⟩, 0, [], 0, ⟨(List.replicate 32 (0 : UInt8)).toArray⟩, 0⟩
/-- What a record makes of a book, its chain and count apart. -/
def entM (b : Bk) (r : Rc) : Option Bk :=
  if r.kd = 1 then some { b with wd := r.tx, tr := 0 }
  else if r.kd = 2 then some { b with tr := r.nm }
  else if r.kd = 3 then
    (if hasT b.ths r.th.id = true then (if grownB (ofT b.ths r.th.id) r.th = true then some { b with ths := putT b.ths r.th } else none)
     else if r.th.id = b.la + 1 ∧ b.ths.length ≠ 8 then some { b with la := r.th.id, ths := putT b.ths r.th } else none)
  else if hasT b.ths r.nm = true then some { b with ths := dropT b.ths r.nm } else none
def entEnd (b : Bk) (r : Rc) (o : Bk) : Option Bk := if bkOk { o with ch := digB (b.ch ++ rcT r), ct := b.ct + 1 } = true then some { o with ch := digB (b.ch ++ rcT r), ct := b.ct + 1 } else none
def entB (b : Bk) (r : Rc) : Option Bk := if bkOk b = true ∧ rcOk r = true ∧ b.ct ≠ 10000 then (entM b r).bind (entEnd b r) else none
def entAll : Bk → List Rc → Option Bk
  | b, [] => some b
  | b, r :: l => (entB b r).bind fun o => entAll o l
theorem entAll_app (b : Bk) (l m : List Rc) : entAll b (l ++ m) = (entAll b l).bind fun o => entAll o m := by
  induction l generalizing b with
  | nil => rfl
  | cons r l ih =>
    show (entB b r).bind (fun o => entAll o (l ++ m)) = ((entB b r).bind fun o => entAll o l).bind _
    cases entB b r with
    | none => rfl
    | some o => exact ih o
theorem entB_ok {b : Bk} {r : Rc} {o : Bk} (h : entB b r = some o) : bkOk o = true ∧ o.ct = b.ct + 1 ∧ o.ch = digB (b.ch ++ rcT r) := by
  unfold entB at h
  split at h
  · cases hm : entM b r with
    | none => rw [hm] at h; cases h
    | some q =>
      rw [hm] at h
      have h : entEnd b r q = some o := h
      unfold entEnd at h
      split at h
      · rename_i hk
        have h := Option.some.inj h
        subst h
        exact ⟨hk, rfl, rfl⟩
      · cases h
  · cases h
def chnB9 (b : Bk) (l : List Rc) : Bool := match entAll bkNew l with | none => false | some x => decide (x.ch = b.ch ∧ x.ct = b.ct)
end Go.Proofs.YtkbbcjnickgfjabGreat

/- Laws of no program: rows of values of several cells each, whatever they are: rows that can be read, rows of the call's own. -/
namespace Go.Proofs.YtkbbcjnickgfjabGreat
open Go.RowKit
/-- How a value of a kind lies in m cells. -/
structure Lay (α : Type) where
  m : Nat
  c : α → List Value
  pos : 0 < m
  len : ∀ x, (c x).length = m
  one : ∀ x, ∀ u ∈ c x, u.oneCell' = true
section
variable {α : Type} (L : Lay α)
/-- In block g, from o on, lie the cells of x. -/
def AtN (w : World) (g o : Nat) (x : α) : Prop := ∀ i u, (L.c x)[i]? = some u → w.cell? ⟨g, o + i, none⟩ = some u
/-- The slice value v is a row in which xs can be read. -/
def RdN (w : World) (v : Value) (xs : List α) : Prop :=
  (∃ a c, v = .slice a 0 c ∧ xs = []) ∨ ∃ g o c, v = .slice (some ⟨g, o, none⟩) xs.length c ∧ 0 < xs.length ∧ g < w.heap.size ∧ ∀ j x, xs[j]? = some x → AtN L w g (o + j * L.m) x
/-- The slice value v is a row of the call's own (blocks from base on). -/
def OwnN (w : World) (base : Nat) (e : TypeId) (v : Value) (xs : List α) : Prop := w.ownsRow base e L.m v xs.length (xs.flatMap L.c)
variable {L}
theorem AtN.below {w w' : World} {g o : Nat} {x : α} (h : AtN L w g o x) {B : Nat} (hb : Below B w w') (hg : g < B) : AtN L w' g o x := fun i u hu => (hb.cell (p := ⟨g, o + i, none⟩) hg).trans (h i u hu)
theorem RdN.below_at {w w' : World} {v : Value} {xs : List α} (h : RdN L w v xs) {B : Nat} (hb : Below B w w') (hB : ∀ g, v.ownBlock = some g → g < B) : RdN L w' v xs := by
  rcases h with h | ⟨g, o, c, rfl, hn, hg, hc⟩
  · exact .inl h
  · exact .inr ⟨g, o, c, rfl, hn, Nat.lt_of_lt_of_le hg hb.size, fun j f hj => (hc j f hj).below hb (hB g rfl)⟩
theorem RdN.below {w w' : World} {v : Value} {xs : List α} (h : RdN L w v xs) (hb : Below w.heap.size w w') : RdN L w' v xs := by
  rcases h with h | ⟨g, o, c, rfl, hn, hg, hc⟩
  · exact .inl h
  · exact .inr ⟨g, o, c, rfl, hn, Nat.lt_of_lt_of_le hg hb.size, fun j f hj => (hc j f hj).below hb hg⟩
theorem RdN.alloc {w : World} {v : Value} {xs : List α} (h : RdN L w v xs) (o : Obj) : RdN L (w.alloc o) v xs := h.below ((Below.refl _ _).alloc (Nat.le_refl _) _)
theorem RdN.drew {w : World} {v : Value} {xs : List α} (h : RdN L w v xs) : RdN L w.drew v xs := h.below (Below.refl _ _).drew
theorem RdN.grown {w w' : World} {v : Value} {xs : List α} {r : Option Nat} (h : RdN L w v xs) (hg : w.grownBy w' r) (hne : ∀ k, v.ownBlock = some k → r ≠ some k) : RdN L w' v xs := by
  rcases h with h | ⟨g, o, c, rfl, hn, hlt, hc⟩
  · exact .inl h
  · refine .inr ⟨g, o, c, rfl, hn, Nat.lt_of_lt_of_le hlt hg.size, fun j f hj i u hu => ?_⟩
    have hb := hg.block g hlt (fun e => hne g rfl e.symm)
    have h1 := hc j f hj i u hu
    unfold World.cell? at h1 ⊢
    rw [hb]
    exact h1
theorem RdN.shape {w : World} {v : Value} {xs : List α} (h : RdN L w v xs) : ∃ a c, v = .slice a xs.length c := by
  rcases h with ⟨a, c, rfl, rfl⟩ | ⟨g, o, c, rfl, _⟩
  · exact ⟨_, _, rfl⟩
  · exact ⟨_, _, rfl⟩
theorem RdN.open {w : World} {v : Value} {xs : List α} (h : RdN L w v xs) : ∃ a c, v = .slice a xs.length c ∧ ∀ j x, xs[j]? = some x → ∃ g o, a = some ⟨g, o, none⟩ ∧ g < w.heap.size ∧ AtN L w g (o + j * L.m) x := by
  rcases h with ⟨a, c, rfl, rfl⟩ | ⟨g, o, c, rfl, _, hg, hc⟩
  · exact ⟨a, c, rfl, fun j f hj => by simp at hj⟩
  · exact ⟨_, c, rfl, fun j f hj => ⟨g, o, rfl, hg, hc j f hj⟩⟩
theorem lay_len (xs : List α) : (xs.flatMap L.c).length = xs.length * L.m := by
  induction xs with
  | nil => simp
  | cons f r ih => rw [List.flatMap_cons, List.length_append, ih, L.len, List.length_cons, Nat.succ_mul]; omega
theorem lay_get (xs : List α) : ∀ (j : Nat) (x : α), xs[j]? = some x → ∀ i u, (L.c x)[i]? = some u → (xs.flatMap L.c)[j * L.m + i]? = some u := by
  induction xs with
  | nil => intro j x h; simp at h
  | cons y r ih =>
    intro j x h i u hu
    have hi : i < L.m := by rw [← L.len x]; exact (List.getElem?_eq_some_iff.1 hu).1
    rw [List.flatMap_cons]
    cases j with
    | zero =>
      simp only [List.getElem?_cons_zero, Option.some.injEq] at h
      subst h
      rw [Nat.zero_mul, Nat.zero_add, List.getElem?_append_left (by rw [L.len]; exact hi)]
      exact hu
    | succ j =>
      simp only [List.getElem?_cons_succ] at h
      rw [List.getElem?_append_right (by rw [L.len, Nat.succ_mul]; omega), L.len, show (j + 1) * L.m + i - L.m = j * L.m + i by rw [Nat.succ_mul]; omega]
      exact ih j x h i u hu
theorem OwnN.below {w w' : World} {base : Nat} {e : TypeId} {v : Value} {xs : List α} (h : OwnN L w base e v xs) (hb : Below w.heap.size w w') : OwnN L w' base e v xs :=
  World.ownsRow.kept (row := none) h ⟨hb.os, hb.tape, hb.output, hb.size, fun k hk _ => hb.block k hk⟩ (by cases hv : v.ownBlock <;> simp)
theorem OwnN.grown {w w' : World} {base : Nat} {e : TypeId} {v : Value} {xs : List α} {r : Option Nat} (h : OwnN L w base e v xs) (hg : w.grownBy w' r) (hne : ∀ k, v.ownBlock = some k → r ≠ some k) : OwnN L w' base e v xs :=
  World.ownsRow.kept h hg (by cases hv : v.ownBlock with
    | none => exact .inl rfl
    | some k => exact .inr (fun e => hne k hv e.symm))
theorem OwnN.alloc {w : World} {base : Nat} {e : TypeId} {v : Value} {xs : List α} (h : OwnN L w base e v xs) (o : Obj) : OwnN L (w.alloc o) base e v xs := World.ownsRow.alloc h o
theorem OwnN.drew {w : World} {base : Nat} {e : TypeId} {v : Value} {xs : List α} (h : OwnN L w base e v xs) : OwnN L w.drew base e v xs := h
theorem OwnN.low {w : World} {base base' : Nat} {e : TypeId} {v : Value} {xs : List α} (h : OwnN L w base e v xs) (hb : base' ≤ base) : OwnN L w base' e v xs := by
  refine ⟨h.1, ?_⟩
  rcases h.2 with hn | ⟨g, cap, cur, rfl, hbg, rest⟩
  · exact .inl hn
  · exact .inr ⟨g, cap, cur, rfl, by omega, rest⟩
theorem OwnN.lt {w : World} {base : Nat} {e : TypeId} {v : Value} {xs : List α} (h : OwnN L w base e v xs) : ∀ g, v.ownBlock = some g → base ≤ g ∧ g < w.heap.size := World.ownsRow.lt h
theorem OwnN.nil (w : World) (base : Nat) (e : TypeId) : OwnN L w base e (.slice none 0 0) [] := World.ownsRow_nil w base e L.m
theorem OwnN.rd {w : World} {base : Nat} {e : TypeId} {v : Value} {xs : List α} (h : OwnN L w base e v xs) : RdN L w v xs := by
  rcases h.2 with ⟨h1, h2⟩ | ⟨g, cap, cur, h1, hb, hg, _⟩
  · exact .inl ⟨none, 0, h1, List.eq_nil_of_length_eq_zero h2⟩
  · by_cases hz : xs.length = 0
    · exact .inl ⟨_, cap, by rw [h1, hz], List.eq_nil_of_length_eq_zero hz⟩
    · refine .inr ⟨g, 0, cap, h1, by omega, (Array.getElem?_eq_some_iff.1 hg).1, fun j x hj i u hu => ?_⟩
      have hc := World.ownsRow.cells h (g := g) (by rw [h1]; rfl)
      have hadd : ∀ k, (⟨g, 0, none⟩ : Addr).add k = ⟨g, k, none⟩ := fun k => by unfold Addr.add; split <;> simp_all
      have c1 := hc _ _ (lay_get xs j x hj i u hu)
      rw [hadd] at c1
      rw [Nat.zero_add]
      exact c1
theorem OwnN.other {w : World} {base : Nat} {e : TypeId} {v : Value} {xs : List α} (h : OwnN L w base e v xs) {a : Addr} (ha : a.block < base) (u : Value) : OwnN L (w.setCell a u) base e v xs := by
  refine ⟨h.1, ?_⟩
  rcases h.2 with hn | ⟨g, cap, cur, rfl, hbg, hgg, rest⟩
  · exact .inl hn
  · refine .inr ⟨g, cap, cur, rfl, hbg, ?_, rest⟩
    rw [RowKit.Below.heap_setCell _ _ _ _ (by omega)]
    exact hgg
theorem OwnN.len {w : World} {base n : Nat} {a : Option Addr} {c : Nat} {e : TypeId} {xs : List α} (h : OwnN L w base e (.slice a n c) xs) : xs.length = n := by
  rcases h.2 with ⟨h1, h2⟩ | ⟨g', cap, cur, h1, _⟩
  · simp only [Value.slice.injEq] at h1; omega
  · simp only [Value.slice.injEq] at h1; exact h1.2.1.symm
theorem OwnN.shape {w : World} {base : Nat} {e : TypeId} {v : Value} {xs : List α} (h : OwnN L w base e v xs) : ∃ a c, v = .slice a xs.length c := h.rd.shape
theorem wp_append_n {P : Program} {W : World} {o : Oper} {a : Act} {K : Act → World → Prop} {Q : Exit → Act → World → Prop} (s x : Operand) (t : TypeId)
    (ho : o.op = .call { callee := .builtin .append, args := #[s, x], argTypes := #[t, t] })
    (base B : Nat) (e : TypeId) (i : TypeInfo) (z : Value) (nb : Nat) (ht : P.underlying t = some (.slice e)) (hi : P.info? e = some i) (hz : i.zero = some z) (hsize : i.size = L.m) (hby : i.bytes = nb) (hzs : z.cells.size = L.m)
    (v : Value) (xs : List α) (hs : a.eval s = v) (hown : OwnN L W base e v xs)
    (blk : Nat) (cs : Array Value) (hblk : W.heap[blk]? = some (.cells cs e (0, 0))) (f : α) (hcs : cs.toList = L.c f) (c : Nat) (hx : a.eval x = .slice (some ⟨blk, 0, none⟩) 1 c)
    (hlen : xs.length ≤ 2000000) (hnb : nb ≤ 1000) (hB : B ≤ base) (hbase : base ≤ W.heap.size) {w00 : World} (hbel : Below B w00 W)
    (h : ∀ v' w', OwnN L w' base e v' (xs ++ [f]) → Below B w00 w' → K (a.put o.dst v') w') : o.wp P a W K Q := by
  have hcell : ∀ j u, (L.c f)[j]? = some u → W.cell? ((⟨blk, 0, none⟩ : Addr).add j) = some u := by
    intro j u hu
    have hadd : (⟨blk, 0, none⟩ : Addr).add j = ⟨blk, j, none⟩ := by unfold Addr.add; split <;> simp_all
    rw [hadd, cell_of_row W blk j cs e (0, 0) hblk]
    rw [← hcs] at hu
    simpa using hu
  have hmul : (xs.length + 1) * nb ≤ 140737488355328 := Nat.le_trans (Nat.mul_le_mul (show xs.length + 1 ≤ 2000001 by omega) hnb) (by decide)
  refine wp_append_own W s x t ho base e i z L.m nb ht hi hz hsize hby hzs L.pos v xs.length (xs.flatMap L.c) hs hown
    ⟨blk, 0, none⟩ 1 c (L.c f) hx (by rw [L.len, Nat.one_mul]) hcell (L.one f) (by unfold maxLen; omega) hmul hbase ?_
  intro v' w' h2 h3 _
  refine h v' w' (by unfold OwnN; rw [List.length_append, List.flatMap_append]; simpa using h2) ?_
  refine hbel.grown h3 (by omega) ?_
  intro k hk
  have := (World.ownsRow.lt hown k hk).1
  omega
theorem wpList_append_n {P : Program} {w : World} {ops : Array Oper} {rest : List Oper} {o : Oper} {a : Act} {Q : Exit → Act → World → Prop} (hgd : o.guard = none) (s x : Operand) (t : TypeId)
    (ho : o.op = .call { callee := .builtin .append, args := #[s, x], argTypes := #[t, t] })
    (base B : Nat) (e : TypeId) (i : TypeInfo) (z : Value) (nb : Nat) (ht : P.underlying t = some (.slice e)) (hi : P.info? e = some i) (hz : i.zero = some z) (hsize : i.size = L.m) (hby : i.bytes = nb) (hzs : z.cells.size = L.m)
    (v : Value) (xs : List α) (hs : a.eval s = v) (hown : OwnN L w base e v xs)
    (cs : Array Value) (f : α) (hcs : cs.toList = L.c f) (c : Nat) (hx : a.eval x = .slice (some ⟨w.heap.size, 0, none⟩) 1 c)
    (hlen : xs.length ≤ 2000000) (hnb : nb ≤ 1000) (hB : B ≤ base) (hbase : base ≤ w.heap.size) {w00 : World} (hbel : Below B w00 w)
    (h : ∀ v' w', OwnN L w' base e v' (xs ++ [f]) → Below B w00 w' → wpList P ops Q rest (a.put o.dst v') w') :
    wpList P ops Q (o :: rest) a (w.alloc (.cells cs e)) :=
  wpList_plain hgd fun _ hK => wp_append_n s x t ho base B e i z nb ht hi hz hsize hby hzs v xs hs (hown.alloc _) w.heap.size cs (heap_alloc_new w _) f hcs c hx hlen hnb hB (by simp; omega) (hbel.alloc (by omega) _) fun v' w' h2 h3 => hK _ _ (h v' w' h2 h3)
theorem OwnN.rowf {w : World} {base g n c : Nat} {e : TypeId} {xs : List α} (h : OwnN L w base e (.slice (some ⟨g, 0, none⟩) n c) xs) : ∃ cur, w.heap[g]? = some (.cells cur e (0, 0)) := by
  rcases h.2 with ⟨h1, _⟩ | ⟨g', cap, cur, h1, _, h2, _⟩
  · cases h1
  · simp only [Value.slice.injEq, Option.some.injEq, Addr.mk.injEq] at h1
    obtain ⟨⟨rfl, _⟩, _⟩ := h1
    exact ⟨cur, h2⟩
theorem OwnN.frozen {w : World} {base g n c : Nat} {e : TypeId} {xs : List α} (h : OwnN L w base e (.slice (some ⟨g, 0, none⟩) n c) xs) (k : Nat) : w.frozen? ⟨g, k, none⟩ = false := by
  obtain ⟨cur, hc⟩ := h.rowf
  exact frozen_of_row w g k cur e hc
theorem OwnN.at {w : World} {base g n c : Nat} {e : TypeId} {xs : List α} (h : OwnN L w base e (.slice (some ⟨g, 0, none⟩) n c) xs) {k : Nat} {x : α} (hx : xs[k]? = some x) : AtN L w g (k * L.m) x := fun i u hu => by
  have hc := World.ownsRow.cells h (g := g) rfl
  have hadd : ∀ k, (⟨g, 0, none⟩ : Addr).add k = ⟨g, k, none⟩ := fun k => by unfold Addr.add; split <;> simp_all
  have c1 := hc _ _ (lay_get xs k x hx i u hu)
  rw [hadd] at c1
  exact c1
theorem lay_inj_at {xs : List α} {n : Nat} (zs : List Value) (hz : zs.length = n * L.m) (hn : xs.length = n) (h : ∀ j x, xs[j]? = some x → ∀ i u, (L.c x)[i]? = some u → zs[j * L.m + i]? = some u) : zs = xs.flatMap L.c := by
  apply List.ext_getElem?
  intro k
  by_cases hk : k < n * L.m
  · have hq : k / L.m < n := (Nat.div_lt_iff_lt_mul L.pos).2 hk
    have hr : k % L.m < L.m := Nat.mod_lt _ L.pos
    have hx := List.getElem?_eq_getElem (show k / L.m < xs.length by omega)
    have hu := List.getElem?_eq_getElem (show k % L.m < (L.c xs[k / L.m]).length by rw [L.len]; exact hr)
    have e : k / L.m * L.m + k % L.m = k := by rw [Nat.mul_comm]; exact Nat.div_add_mod k L.m
    have h1 := h _ _ hx _ _ hu
    have h2 := lay_get xs _ _ hx _ _ hu
    rw [e] at h1 h2
    rw [h1, h2]
  · rw [List.getElem?_eq_none (by omega), List.getElem?_eq_none (by rw [lay_len, hn]; omega)]
end
end Go.Proofs.YtkbbcjnickgfjabGreat

/- The laws' helpers on things, over the loaded program. -/
namespace Go.Proofs.YtkbbcjnickgfjabGreat
open Go.RowKit
theorem cb_eq {w : World} {g : Nat} {T : TypeId} {cs cs' : Array Value} (h : CB w g T cs) (e : cs' = cs) : CB w g T cs' := by rw [e]; exact h
theorem szThing_any (x : Th) (L : Int) (hL : 0 ≤ L ∧ L ≤ 1048576) (hv : x.val.size ≤ maxLen) (w : World) :
    Calls Tryz.prog 22 #[.agg (thC x), .int .i64 L] w fun e w' => (∃ z : Int, e = .returned (.int .i64 z) ∧ ((z < 0 ∧ L < (x.val.size : Int)) ∨ (z = L - (x.val.size : Int) ∧ (x.val.size : Int) ≤ L))) ∧ Below w.heap.size w w' := by
  obtain ⟨id, kind, hid, fix, sgn, wrp, val, nxt⟩ := x
  unfold thC
  simp only at hv ⊢
  unfold maxLen at hv
  obtain ⟨W, hW, hC, hb, hlt⟩ := one_cb w #[.int .i64 id, .int .i64 kind, .bool hid, .bool fix, .bool sgn, .bool wrp, .string val, .int .i64 nxt] 41
  have c6 := hC.cell 6 rfl
  clear hC
  obtain ⟨z, hz⟩ : ∃ z : Int, z = L - (val.size : Int) := ⟨_, rfl⟩
  have u1 : IntKind.i64.wrap (L - (val.size : Int)) = z := by rw [IntKind.wrap_i64]; omega
  have u1' : wrap64 (L - (val.size : Int)) = z := (IntWalk.i64_left _).symm.trans u1
  by_cases hn : z < 0
  · have HZ := hide (show (-1 : Int) < 0 ∧ L < (val.size : Int) from ⟨by omega, by omega⟩)
    replace hz := hide hz
    clear hL hv
    go_enter Tryz.func22, Tryz.ntmps22
    go_wp2
    go_ret
    exact ⟨⟨-1, rfl, .inl (unhide HZ)⟩, hb⟩
  · have HZ := hide (show z = L - (val.size : Int) ∧ (val.size : Int) ≤ L from ⟨hz, by omega⟩)
    replace hz := hide hz
    clear hL hv
    go_enter Tryz.func22, Tryz.ntmps22
    go_wp2
    go_ret
    exact ⟨⟨z, rfl, .inr (unhide HZ)⟩, hb⟩
set_option maxRecDepth 20000 in
set_option maxHeartbeats 2000000 in
theorem toThing_any (x : Th) (w : World) :
    Calls Tryz.prog 27 #[.agg (thC x)] w fun e w' => e = .returned (.agg (thC x)) ∧ Below w.heap.size w w' := by
  obtain ⟨id, kind, hid, fix, sgn, wrp, val, nxt⟩ := x
  unfold thC
  simp only
  go_enter Tryz.func27, Tryz.ntmps27
  go_wp2
  exact bodyPost_ret (v := .agg #[.int .i64 id, .int .i64 kind, .bool hid, .bool fix, .bool sgn, .bool wrp, .string val, .int .i64 nxt]) (by simp [results, Tryz.results27, go_sem]) rfl ⟨rfl, (((Below.refl w.heap.size w).alloc (Nat.le_refl _) _).alloc (by simp) _).alloc (by simp; omega) _⟩
set_option maxRecDepth 20000 in
set_option maxHeartbeats 1000000 in
theorem eqThing_any (x : Th) (w : World) :
    Calls Tryz.prog 32 #[.agg (thC x), .agg (thC x)] w fun e w' => e = .returned (.bool true) ∧ Below w.heap.size w w' := by
  obtain ⟨id, kind, hid, fix, sgn, wrp, val, nxt⟩ := x
  unfold thC
  simp only
  obtain ⟨W, hW, hA, hB, hb, hlt⟩ := two_cb w #[.int .i64 id, .int .i64 kind, .bool hid, .bool fix, .bool sgn, .bool wrp, .string val, .int .i64 nxt] #[.int .i64 id, .int .i64 kind, .bool hid, .bool fix, .bool sgn, .bool wrp, .string val, .int .i64 nxt] 48 48
  have a0 := hA.cell 0 rfl
  have b0 := hB.cell 0 rfl
  have a1 := hA.cell 1 rfl
  have b1 := hB.cell 1 rfl
  have a2 := hA.cell 2 rfl
  have b2 := hB.cell 2 rfl
  have a3 := hA.cell 3 rfl
  have b3 := hB.cell 3 rfl
  have a4 := hA.cell 4 rfl
  have b4 := hB.cell 4 rfl
  have a5 := hA.cell 5 rfl
  have b5 := hB.cell 5 rfl
  have a6 := hA.cell 6 rfl
  have b6 := hB.cell 6 rfl
  have a7 := hA.cell 7 rfl
  have b7 := hB.cell 7 rfl
  clear hA hB
  go_enter Tryz.func32, Tryz.ntmps32
  go_wp2
  go_ret
  exact ⟨rfl, hb⟩
end Go.Proofs.YtkbbcjnickgfjabGreat

/- Books: how things and records lie in cells; rows of them. -/
namespace Go.Proofs.YtkbbcjnickgfjabGreat
open Go.RowKit
def thY : Lay Th where
  m := 8
  c := fun x => (thC x).toList
  pos := by decide
  len := fun _ => rfl
  one := fun x u hu => by
    simp only [thC, List.mem_cons, List.mem_nil_iff, or_false] at hu
    rcases hu with rfl | rfl | rfl | rfl | rfl | rfl | rfl | rfl <;> rfl
def rcY : Lay Rc where
  m := 11
  c := fun x => (rcC x).toList
  pos := by decide
  len := fun _ => rfl
  one := fun x u hu => by
    simp only [rcC, List.mem_cons, List.mem_nil_iff, or_false] at hu
    rcases hu with rfl | rfl | rfl | rfl | rfl | rfl | rfl | rfl | rfl | rfl | rfl <;> rfl
theorem rc_size (x : Rc) : (rcC x).size = 11 := rfl
theorem rc_one (x : Rc) : (rcC x).all (·.oneCell') = true := by unfold rcC; simp [Value.oneCell']
/-- The eight cells of a thing, as they lie. -/
theorem AtN.th {w : World} {g o : Nat} {x : Th} (h : AtN thY w g o x) : w.cell? ⟨g, o, none⟩ = some (.int .i64 x.id) ∧ w.cell? ⟨g, o + 1, none⟩ = some (.int .i64 x.kind) ∧ w.cell? ⟨g, o + 2, none⟩ = some (.bool x.hid) ∧ w.cell? ⟨g, o + 3, none⟩ = some (.bool x.fix) ∧ w.cell? ⟨g, o + 4, none⟩ = some (.bool x.sgn) ∧ w.cell? ⟨g, o + 5, none⟩ = some (.bool x.wrp) ∧ w.cell? ⟨g, o + 6, none⟩ = some (.string x.val) ∧ w.cell? ⟨g, o + 7, none⟩ = some (.int .i64 x.nxt) :=
  ⟨h 0 _ rfl, h 1 _ rfl, h 2 _ rfl, h 3 _ rfl, h 4 _ rfl, h 5 _ rfl, h 6 _ rfl, h 7 _ rfl⟩
/-- The book b, read: its things lie in a row that can be read. -/
def bkv (b : Bk) (v : Value) : Value := .agg #[.string b.wd, .int .i64 b.tr, v, .int .i64 b.la, .string b.ch, .int .i64 b.ct]
def RdBk (w : World) (v : Value) (b : Bk) : Prop := ∃ u, v = bkv b u ∧ RdN thY w u b.ths
/-- The book b, its row of things of the call's own. -/
def OwnBk (w : World) (base : Nat) (e : TypeId) (v : Value) (b : Bk) : Prop := ∃ u, v = bkv b u ∧ OwnN thY w base e u b.ths
theorem OwnBk.rd {w : World} {base : Nat} {e : TypeId} {v : Value} {b : Bk} (h : OwnBk w base e v b) : RdBk w v b := by
  obtain ⟨u, e, h⟩ := h
  exact ⟨u, e, h.rd⟩
theorem RdBk.below {w w' : World} {v : Value} {b : Bk} (h : RdBk w v b) (hb : Below w.heap.size w w') : RdBk w' v b := by
  obtain ⟨u, e, h⟩ := h
  exact ⟨u, e, h.below hb⟩
theorem OwnBk.below {w w' : World} {base : Nat} {e : TypeId} {v : Value} {b : Bk} (h : OwnBk w base e v b) (hb : Below w.heap.size w w') : OwnBk w' base e v b := by
  obtain ⟨u, e, h⟩ := h
  exact ⟨u, e, h.below hb⟩
theorem OwnBk.low {w : World} {base base' : Nat} {e : TypeId} {v : Value} {b : Bk} (h : OwnBk w base e v b) (hb : base' ≤ base) : OwnBk w base' e v b := by
  obtain ⟨u, e, h⟩ := h
  exact ⟨u, e, h.low hb⟩
theorem RdBk.open {w : World} {v : Value} {b : Bk} (h : RdBk w v b) : ∃ a n c, v = .agg #[.string b.wd, .int .i64 b.tr, .slice a n c, .int .i64 b.la, .string b.ch, .int .i64 b.ct] ∧ n = b.ths.length ∧ RdN thY w (.slice a n c) b.ths := by
  obtain ⟨u, rfl, h⟩ := h
  obtain ⟨a, c, rfl⟩ := h.shape
  exact ⟨a, _, c, rfl, rfl, h⟩
end Go.Proofs.YtkbbcjnickgfjabGreat

/- Laws of no program: rows of values of several cells each: one of them loaded whole, stored whole, one cell of one of them set; a row of zeros; appends inside a region that draws. -/
namespace Go.Proofs.YtkbbcjnickgfjabGreat
open Go.RowKit
/-- Of a world only what is named is kept. -/
theorem wp_gen {P : Program} {c : Code} {Q : Exit → Act → World → Prop} {a : Act} {w : World} (Pr : World → Prop) (h : Pr w) (K : ∀ W, Pr W → Code.wp P c Q a W) : Code.wp P c Q a w := K w h
theorem calls_gen {P : Program} {F : FuncId} {args : Array Value} {R : Ending → World → Prop} {w : World} (Pr : World → Prop) (h : Pr w) (K : ∀ W, Pr W → Calls P F args W R) : Calls P F args w R := K w h
theorem wpList_gen {P : Program} {ops : Array Oper} {rest : List Oper} {a : Act} {Q : Exit → Act → World → Prop} {w : World} (Pr : World → Prop) (h : Pr w) (K : ∀ W, Pr W → wpList P ops Q rest a W) : wpList P ops Q rest a w := K w h
section
variable {α : Type} {L : Lay α}
theorem addr_addN (g o j : Nat) : (⟨g, o, none⟩ : Addr).add j = ⟨g, o + j, none⟩ := by unfold Addr.add; split <;> simp_all
theorem flat_set (L : Lay α) (j : Nat) (u : Value) : ∀ (xs : List α) (k : Nat) (x y : α), xs[k]? = some x → L.c y = (L.c x).set j u → j < L.m → (xs.flatMap L.c).set (k * L.m + j) u = (xs.set k y).flatMap L.c
  | [], k, x, y, h, _, _ => by simp at h
  | z :: r, 0, x, y, h, hy, hj => by
    simp only [List.getElem?_cons_zero, Option.some.injEq] at h
    subst h
    rw [Nat.zero_mul, Nat.zero_add, List.set_cons_zero, List.flatMap_cons, List.flatMap_cons, hy]
    rw [List.set_append_left _ _ (by rw [L.len]; exact hj)]
  | z :: r, k + 1, x, y, h, hy, hj => by
    have ih := flat_set L j u r k x y (by simpa using h) hy hj
    rw [List.set_cons_succ, List.flatMap_cons, List.flatMap_cons, ← ih]
    rw [List.set_append_right _ _ (by rw [L.len, Nat.succ_mul]; omega), L.len, show (k + 1) * L.m + j - L.m = k * L.m + j by rw [Nat.succ_mul]; omega]
theorem OwnN.set1 {w : World} {base g n c : Nat} {e : TypeId} {xs : List α} (h : OwnN L w base e (.slice (some ⟨g, 0, none⟩) n c) xs) {k : Nat} {x : α} (hk : xs[k]? = some x) (y : α) (j : Nat) (u : Value) (hj : j < L.m) (hy : L.c y = (L.c x).set j u) :
    OwnN L (w.setCell ⟨g, k * L.m + j, none⟩ u) base e (.slice (some ⟨g, 0, none⟩) n c) (xs.set k y) := by
  have hl := h.len
  unfold OwnN at h ⊢
  rw [List.length_set, ← flat_set L j u xs k x y hk hy hj]
  rw [hl] at h ⊢
  exact ownsRow_set h _ _
theorem set_getN {xs : List α} {k : Nat} {f : α} (h : xs[k]? = some f) (x : α) : (xs.set k x)[k]? = some x := by
  rw [List.getElem?_set]
  simp [(List.getElem?_eq_some_iff.1 h).1]
/-- What stands behind a store of several cells into a block at o. -/
def putC (l vs : List Value) (o : Nat) : List Value := l.take o ++ vs ++ l.drop (o + vs.length)
theorem flat_put (L : Lay α) : ∀ (xs : List α) (k : Nat) (y : α), k < xs.length → putC (xs.flatMap L.c) (L.c y) (k * L.m) = (xs.set k y).flatMap L.c
  | [], k, y, h => by simp at h
  | z :: r, 0, y, _ => by
    unfold putC
    rw [Nat.zero_mul, Nat.zero_add, List.take_zero, List.nil_append, List.set_cons_zero, List.flatMap_cons, List.flatMap_cons]
    rw [List.drop_append_of_le_length (by rw [L.len, L.len]; exact Nat.le_refl _)]
    rw [show (L.c z).drop (L.c y).length = [] from List.drop_of_length_le (by rw [L.len, L.len]; exact Nat.le_refl _), List.nil_append]
  | z :: r, k + 1, y, h => by
    have ih := flat_put L r k y (by simpa using h)
    unfold putC at ih ⊢
    rw [List.set_cons_succ, List.flatMap_cons, List.flatMap_cons, ← ih]
    have hz := L.len z
    have hy := L.len y
    rw [List.take_append, List.drop_append, List.take_of_length_le (by rw [hz, Nat.succ_mul]; omega), List.drop_of_length_le (by rw [hz, hy, Nat.succ_mul]; omega)]
    rw [hz, show (k + 1) * L.m - L.m = k * L.m by rw [Nat.succ_mul]; omega, show (k + 1) * L.m + (L.c y).length - L.m = k * L.m + (L.c y).length by rw [Nat.succ_mul]; omega]
    simp
theorem ownsRow_put {w : World} {base g n c : Nat} {e : TypeId} {xs : List α} (h : OwnN L w base e (.slice (some ⟨g, 0, none⟩) n c) xs) {k : Nat} (hk : k < n) (y : α) :
    ∃ cur, w.heap[g]? = some (.cells cur e (0, 0)) ∧ k * L.m + L.m ≤ cur.size ∧ OwnN L (w.setRow g (putC cur.toList (L.c y) (k * L.m)).toArray) base e (.slice (some ⟨g, 0, none⟩) n c) (xs.set k y) := by
  have hl := h.len
  unfold OwnN at h
  rcases h.2 with ⟨h1, _⟩ | ⟨g', cap, cur, h1, hb, h2, h3, h4, h5, h6⟩
  · cases h1
  · simp only [Value.slice.injEq, Option.some.injEq, Addr.mk.injEq] at h1
    obtain ⟨⟨rfl, _⟩, _, rfl⟩ := h1
    have hkm : k * L.m + L.m ≤ n * L.m := by rw [← Nat.succ_mul]; exact Nat.mul_le_mul_right _ hk
    have hnc : n * L.m ≤ cur.size := by rw [h5]; exact Nat.mul_le_mul_right _ (by omega)
    refine ⟨cur, h2, Nat.le_trans hkm hnc, ?_⟩
    unfold OwnN
    have hy := L.len y
    have hpl : (putC cur.toList (L.c y) (k * L.m)).length = cur.size := by
      unfold putC
      rw [List.length_append, List.length_append, List.length_take, List.length_drop, hy, Array.length_toList]
      omega
    have hcut : (putC cur.toList (L.c y) (k * L.m)).take (n * L.m) = (xs.set k y).flatMap L.c := by
      rw [← flat_put L xs k y (by omega)]
      have e6 : xs.flatMap L.c = cur.toList.take (n * L.m) := by rw [← hl]; exact h6.symm
      rw [e6]
      unfold putC
      rw [List.take_append, List.take_append]
      rw [List.length_append, List.length_take, hy, Array.length_toList, show min (k * L.m) cur.size = k * L.m by omega]
      rw [List.take_of_length_le (l := List.take (k * L.m) cur.toList) (by rw [List.length_take]; omega)]
      rw [List.take_of_length_le (l := L.c y) (by rw [hy]; omega)]
      rw [List.take_take, show min (k * L.m) (n * L.m) = k * L.m by omega, List.drop_take]
    refine ⟨by rw [lay_len, List.length_set], .inr ⟨g, c, (putC cur.toList (L.c y) (k * L.m)).toArray, ?_, hb, setRow_heap _ g _ _ e (0, 0) h2, by rw [List.length_set]; exact h3, h4, by rw [List.size_toArray, hpl]; exact h5, ?_⟩⟩
    · rw [List.length_set, hl]
    · rw [List.length_set, hl]; exact hcut
/-- A value of several cells loaded whole out of a place where it lies. -/
theorem run_loadVar_n {P : Program} (w : World) (g o : Nat) (ty : TypeId) (x : α) (hA : AtN L w g o x) (fs : Array Field) (hu : P.underlying ty = some (.struct fs)) (hi : (P.info? ty).map (·.size) = some L.m) :
    (loadVar ty ⟨g, o, none⟩).run P w = .ok (.agg (L.c x).toArray) w := by
  have hl : (loadCells ⟨g, o, none⟩ (L.c x).length).run P w = .ok (L.c x).toArray w :=
    run_loadCells_list (P := P) w ⟨g, o, none⟩ _ (fun j v hv => by rw [addr_addN]; exact hA j v hv)
  cases hq : P.info? ty with
  | none => simp [hq] at hi
  | some i =>
    have hs : i.size = L.m := by simpa [hq] using hi
    have hagg : (isAgg ty).run P w = .ok true w := by
      unfold isAgg
      rw [Sem.run_bind, run_underlying hu w]
      rfl
    rw [L.len] at hl
    simp [loadVar, Sem.run_bind, hagg, sizeOf, typeInfo, hq, hs, hl]
theorem run_load_n {P : Program} (w : World) (g o : Nat) (ty : TypeId) (x : α) (hA : AtN L w g o x) (fs : Array Field) (hu : P.underlying ty = some (.struct fs)) (hi : (P.info? ty).map (·.size) = some L.m) :
    (Instr.loadAt ty (.pointer (some ⟨g, o, none⟩))).run P w = .ok (.agg (L.c x).toArray) w := by
  simp only [Instr.loadAt, Instr.sureAddr, Sem.run_bind, Sem.run_pure, Result.andThen_ok, run_loadVar_n w g o ty x hA fs hu hi]
theorem wpList_load_n {P : Program} {ops : Array Oper} {rest : List Oper} {q : Oper} {a : Act} {w : World} {Q : Exit → Act → World → Prop} (hgd : q.guard = none) (ty : TypeId) (p : Operand) (ho : q.op = .load ty p)
    (g o : Nat) (hx : a.eval p = .pointer (some ⟨g, o, none⟩)) (x : α) (hA : AtN L w g o x) (fs : Array Field) (hu : P.underlying ty = some (.struct fs)) (hi : (P.info? ty).map (·.size) = some L.m)
    (h : wpList P ops Q rest (a.put q.dst (.agg (L.c x).toArray)) w) : wpList P ops Q (q :: rest) a w := by
  refine wpList_plain hgd fun _ hK => ?_
  unfold Oper.wp execOp
  simp only [ho, hx, Instr.loadAt, Instr.sureAddr, Sem.run_bind, Sem.run_pure, Result.andThen_ok, run_loadVar_n w g o ty x hA fs hu hi]
  exact hK _ _ h
theorem wpList_store_n {P : Program} {ops : Array Oper} {rest : List Oper} {q : Oper} {a : Act} {w : World} {Q : Exit → Act → World → Prop} (hgd : q.guard = none) (ty : TypeId) (p z : Operand) (ho : q.op = .store ty p z)
    {base g n c k : Nat} {e : TypeId} {xs : List α} (hx : a.eval p = .pointer (some ⟨g, k * L.m, none⟩)) (y : α) (hy : a.eval z = .agg (L.c y).toArray) (hown : OwnN L w base e (.slice (some ⟨g, 0, none⟩) n c) xs) (hk : k < n) (hi : (P.info? ty).map (·.size) = some L.m)
    (h : ∀ w', OwnN L w' base e (.slice (some ⟨g, 0, none⟩) n c) (xs.set k y) → w.grownBy w' (some g) → w'.heap.size = w.heap.size → wpList P ops Q rest (a.put q.dst undef) w') : wpList P ops Q (q :: rest) a w := by
  obtain ⟨cur, h2, hle, h3⟩ := ownsRow_put hown hk y
  have hst := run_storeCells_at P g (k * L.m) e (L.c y) 0 cur w h2 (by rw [L.len]; omega) (fun v hv => L.one y v hv)
  rw [show k * L.m + 0 = k * L.m from rfl, show cur.toList.take (k * L.m) ++ L.c y ++ cur.toList.drop (k * L.m + (L.c y).length) = putC cur.toList (L.c y) (k * L.m) from rfl] at hst
  have hG : w.grownBy (w.setRow g (putC cur.toList (L.c y) (k * L.m)).toArray) (some g) := by
    refine ⟨rfl, rfl, rfl, ?_, fun j hj hne => Go.setRow_other w g j _ (fun e => hne (by rw [e]))⟩
    have := Go.setRow_size w g (putC cur.toList (L.c y) (k * L.m)).toArray
    omega
  have hS : (w.setRow g (putC cur.toList (L.c y) (k * L.m)).toArray).heap.size = w.heap.size := Go.setRow_size w g _
  refine wpList_plain hgd fun _ hK => ?_
  unfold Oper.wp execOp
  cases hq : P.info? ty with
  | none => simp [hq] at hi
  | some i =>
    have hs : i.size = L.m := by simpa [hq] using hi
    have hst' : (storeVar ty ⟨g, k * L.m, none⟩ (.agg (L.c y).toArray)).run P w = .ok () (w.setRow g (putC cur.toList (L.c y) (k * L.m)).toArray) := by
      simp [storeVar, sizeOf, typeInfo, hq, Value.cells, hs, L.len, hst]
    simp only [ho, hx, hy, Instr.storeAt, Instr.sureAddr, Sem.run_bind, Sem.run_pure, Result.andThen_ok, hst']
    exact hK _ _ (h _ h3 hG hS)
theorem OwnN.below_at {w w' : World} {base B : Nat} {e : TypeId} {v : Value} {xs : List α} (h : OwnN L w base e v xs) (hb : Below B w w') (hB : ∀ g, v.ownBlock = some g → g < B) : OwnN L w' base e v xs := by
  refine ⟨h.1, ?_⟩
  rcases h.2 with hn | ⟨g, cap, cur, rfl, hbg, hgg, rest⟩
  · exact .inl hn
  · refine .inr ⟨g, cap, cur, rfl, hbg, ?_, rest⟩
    rw [hb.block g (hB g rfl)]
    exact hgg
/-- An older block is laid anew: the row stands. -/
theorem OwnN.setRow {w : World} {base g : Nat} {e : TypeId} {v : Value} {xs : List α} (h : OwnN L w base e v xs) (hg : g < base) (cs : Array Value) : OwnN L (w.setRow g cs) base e v xs := by
  refine ⟨h.1, ?_⟩
  rcases h.2 with hn | ⟨g', cap, cur, rfl, hbg, hgg, rest⟩
  · exact .inl hn
  · refine .inr ⟨g', cap, cur, rfl, hbg, ?_, rest⟩
    rw [Go.setRow_other w g g' cs (by omega)]
    exact hgg
theorem OwnN.open {w : World} {base : Nat} {e : TypeId} {v : Value} {xs : List α} (h : OwnN L w base e v xs) : (xs = [] ∧ ∃ a c, v = .slice a 0 c) ∨ ∃ g c, v = .slice (some ⟨g, 0, none⟩) xs.length c ∧ base ≤ g ∧ g < w.heap.size := by
  rcases h.2 with ⟨h1, h2⟩ | ⟨g, cap, cur, h1, hb, hg, _⟩
  · exact .inl ⟨List.eq_nil_of_length_eq_zero h2, none, 0, h1⟩
  · exact .inr ⟨g, cap, h1, hb, (Array.getElem?_eq_some_iff.1 hg).1⟩
theorem madeN (L : Lay α) (z : Value) (x : α) (hz : z.cells = (L.c x).toArray) (n : Nat) : (madeCells z.cells (n * L.m)).toList = (List.replicate n x).flatMap L.c := by
  rw [hz]
  unfold madeCells
  apply List.ext_getElem?
  intro j
  rw [Array.toList_map, Array.toList_range, List.getElem?_map]
  by_cases hj : j < n * L.m
  · rw [List.getElem?_range hj]
    have hq : j / L.m < n := (Nat.div_lt_iff_lt_mul L.pos).2 hj
    have hr : j % L.m < L.m := Nat.mod_lt _ L.pos
    have hx : (List.replicate n x)[j / L.m]? = some x := by rw [List.getElem?_replicate, if_pos hq]
    have hu := List.getElem?_eq_getElem (show j % L.m < (L.c x).length by rw [L.len]; exact hr)
    have h2 := lay_get (L := L) _ _ _ hx _ _ hu
    have e : j / L.m * L.m + j % L.m = j := by rw [Nat.mul_comm]; exact Nat.div_add_mod j L.m
    rw [e] at h2
    rw [h2, Option.map_some]
    have hs : (L.c x).toArray.size = L.m := by rw [List.size_toArray, L.len]
    rw [hs]
    congr 1
    rw [getElem!_pos _ _ (by rw [hs]; exact hr)]
    simp
  · rw [List.getElem?_eq_none (by simp; omega), List.getElem?_eq_none (by rw [lay_len, List.length_replicate]; omega)]
    rfl
theorem OwnN.made {w : World} {base n : Nat} {e : TypeId} {g : Nat} {z : Value} (x : α) (hz : z.cells = (L.c x).toArray) (h : w.ownsRow base e L.m (.slice (some ⟨g, 0, none⟩) n n) n (madeCells z.cells (n * L.m)).toList) :
    OwnN L w base e (.slice (some ⟨g, 0, none⟩) n n) (List.replicate n x) := by
  rw [madeN L z x hz] at h
  unfold OwnN
  rw [List.length_replicate]
  exact h
theorem take_fillN {xs : List α} {k n : Nat} {f z : α} (hf : xs[k]? = some f) (hn : xs.length = n) :
    (xs.take k ++ List.replicate (n - k) z).set k f = xs.take (k + 1) ++ List.replicate (n - (k + 1)) z := by
  have hk : k < xs.length := (List.getElem?_eq_some_iff.1 hf).1
  have hl : (xs.take k).length = k := by rw [List.length_take]; omega
  rw [List.set_append_right _ _ (by omega), hl, Nat.sub_self, show n - k = (n - (k + 1)) + 1 by omega, List.replicate_succ, List.set_cons_zero, List.take_add_one, hf, List.append_assoc]
  rfl
/-- 'out = append(out, x)' inside a region that draws its order, or outside one. -/
theorem wp_append_m {P : Program} {W : World} {o : Oper} {a : Act} {K : Act → World → Prop} {Q : Exit → Act → World → Prop} (s x : Operand) (t : TypeId)
    (ho : o.op = .call { callee := .builtin .append, args := #[s, x], argTypes := #[t, t] })
    (base B : Nat) (e : TypeId) (i : TypeInfo) (z : Value) (nb : Nat) (ht : P.underlying t = some (.slice e)) (hi : P.info? e = some i) (hz : i.zero = some z) (hsize : i.size = L.m) (hby : i.bytes = nb) (hzs : z.cells.size = L.m)
    (v : Value) (xs : List α) (hs : a.eval s = v) (hown : OwnN L W base e v xs)
    (blk : Nat) (cs : Array Value) (hblk : W.heap[blk]? = some (.cells cs e (0, 0))) (f : α) (hcs : cs.toList = L.c f) (c : Nat) (hx : a.eval x = .slice (some ⟨blk, 0, none⟩) 1 c)
    (n : Nat) (hfn : xs.length = n) (hlen : n ≤ 2000000) (hnb : nb ≤ 1000) (hB : B ≤ base) (hbase : base ≤ W.heap.size) {w00 : World} (hbel : Below B w00 W)
    (h : ∀ a' c' w', OwnN L w' base e (.slice a' (n + 1) c') (xs ++ [f]) → Below B w00 w' → (∀ k, k < W.heap.size → v.ownBlock ≠ some k → w'.heap[k]? = W.heap[k]?) → W.heap.size ≤ w'.heap.size → K (a.put o.dst (.slice a' (n + 1) c')) w') : o.wp P a W K Q := by
  subst hfn
  have hcell : ∀ j u, (L.c f)[j]? = some u → W.cell? ((⟨blk, 0, none⟩ : Addr).add j) = some u := by
    intro j u hu
    rw [addr_addN, Nat.zero_add, cell_of_row W blk j cs e (0, 0) hblk]
    rw [← hcs] at hu
    simpa using hu
  have hmul : (xs.length + 1) * nb ≤ 140737488355328 := Nat.le_trans (Nat.mul_le_mul (show xs.length + 1 ≤ 2000001 by omega) hnb) (by decide)
  refine wp_append_own W s x t ho base e i z L.m nb ht hi hz hsize hby hzs L.pos v xs.length (xs.flatMap L.c) hs hown
    ⟨blk, 0, none⟩ 1 c (L.c f) hx (by rw [L.len, Nat.one_mul]) hcell (L.one f) (by unfold maxLen; omega) hmul hbase ?_
  intro v' w' h2 h3 _
  have h2' : OwnN L w' base e v' (xs ++ [f]) := by unfold OwnN; rw [List.length_append, List.flatMap_append]; simpa using h2
  obtain ⟨a', c', rfl⟩ := h2'.shape
  rw [List.length_append] at h2' ⊢
  refine h a' c' w' h2' (hbel.grown h3 (by omega) ?_) (fun k hk hne => h3.block k hk (fun e => hne e.symm)) h3.size
  intro k hk
  have := (World.ownsRow.lt hown k hk).1
  omega
theorem wpList_append_m {P : Program} {W : World} {ops : Array Oper} {rest : List Oper} {o : Oper} {a : Act} {Q : Exit → Act → World → Prop} (hgd : o.guard = none) (s x : Operand) (t : TypeId)
    (ho : o.op = .call { callee := .builtin .append, args := #[s, x], argTypes := #[t, t] })
    (base B : Nat) (e : TypeId) (i : TypeInfo) (z : Value) (nb : Nat) (ht : P.underlying t = some (.slice e)) (hi : P.info? e = some i) (hz : i.zero = some z) (hsize : i.size = L.m) (hby : i.bytes = nb) (hzs : z.cells.size = L.m)
    (v : Value) (xs : List α) (hs : a.eval s = v) (hown : OwnN L W base e v xs)
    (blk : Nat) (cs : Array Value) (hblk : W.heap[blk]? = some (.cells cs e (0, 0))) (f : α) (hcs : cs.toList = L.c f) (c : Nat) (hx : a.eval x = .slice (some ⟨blk, 0, none⟩) 1 c)
    (n : Nat) (hfn : xs.length = n) (hlen : n ≤ 2000000) (hnb : nb ≤ 1000) (hB : B ≤ base) (hbase : base ≤ W.heap.size) {w00 : World} (hbel : Below B w00 W)
    (h : ∀ a' c' w', OwnN L w' base e (.slice a' (n + 1) c') (xs ++ [f]) → Below B w00 w' → (∀ k, k < W.heap.size → v.ownBlock ≠ some k → w'.heap[k]? = W.heap[k]?) → W.heap.size ≤ w'.heap.size → wpList P ops Q rest (a.put o.dst (.slice a' (n + 1) c')) w') :
    wpList P ops Q (o :: rest) a W :=
  wpList_plain hgd fun _ hK => wp_append_m s x t ho base B e i z nb ht hi hz hsize hby hzs v xs hs hown blk cs hblk f hcs c hx n hfn hlen hnb hB hbase hbel fun a' c' w' h2 h3 h4 h5 => hK _ _ (h a' c' w' h2 h3 h4 h5)
theorem step_append_m {P : Program} {W : World} {ops : Array Oper} {o : Oper} {a : Act} {K : Act → World → Prop} {Q : Exit → Act → World → Prop} {E : Prop} (hg : o.guard = none) (s x : Operand) (t : TypeId)
    (ho : o.op = .call { callee := .builtin .append, args := #[s, x], argTypes := #[t, t] })
    (base B : Nat) (e : TypeId) (i : TypeInfo) (z : Value) (nb : Nat) (ht : P.underlying t = some (.slice e)) (hi : P.info? e = some i) (hz : i.zero = some z) (hsize : i.size = L.m) (hby : i.bytes = nb) (hzs : z.cells.size = L.m)
    (v : Value) (xs : List α) (hs : a.eval s = v) (hown : OwnN L W base e v xs)
    (blk : Nat) (cs : Array Value) (hblk : W.heap[blk]? = some (.cells cs e (0, 0))) (f : α) (hcs : cs.toList = L.c f) (c : Nat) (hx : a.eval x = .slice (some ⟨blk, 0, none⟩) 1 c)
    (n : Nat) (hfn : xs.length = n) (hlen : n ≤ 2000000) (hnb : nb ≤ 1000) (hB : B ≤ base) (hbase : base ≤ W.heap.size) {w00 : World} (hbel : Below B w00 W)
    (h : ∀ a' c' w', OwnN L w' base e (.slice a' (n + 1) c') (xs ++ [f]) → Below B w00 w' → (∀ k, k < W.heap.size → v.ownBlock ≠ some k → w'.heap[k]? = W.heap[k]?) → W.heap.size ≤ w'.heap.size → K (a.put o.dst (.slice a' (n + 1) c')) w') :
    if Region.wanted o (yielded ops a.tmps) = true then Oper.wp P o a W K Q else E := by
  have hw : Region.wanted o (yielded ops a.tmps) = true := by simp [Region.wanted, hg]
  rw [if_pos hw]
  exact wp_append_m s x t ho base B e i z nb ht hi hz hsize hby hzs v xs hs hown blk cs hblk f hcs c hx n hfn hlen hnb hB hbase hbel h
theorem flat_at {w : World} {g o : Nat} {xs : List α} (h : ∀ j x, xs[j]? = some x → AtN L w g (o + j * L.m) x) (j : Nat) (u : Value) (hj : (xs.flatMap L.c)[j]? = some u) : w.cell? ⟨g, o + j, none⟩ = some u := by
  have hlt : j < xs.length * L.m := by rw [← lay_len (L := L)]; exact (List.getElem?_eq_some_iff.1 hj).1
  have hq : j / L.m < xs.length := (Nat.div_lt_iff_lt_mul L.pos).2 hlt
  have hr : j % L.m < L.m := Nat.mod_lt _ L.pos
  have hx := List.getElem?_eq_getElem hq
  have hu := List.getElem?_eq_getElem (show j % L.m < (L.c xs[j / L.m]).length by rw [L.len]; exact hr)
  have e : j / L.m * L.m + j % L.m = j := by rw [Nat.mul_comm]; exact Nat.div_add_mod j L.m
  have h2 := lay_get (L := L) xs _ _ hx _ _ hu
  rw [e, hj] at h2
  have h1 := h _ _ hx _ _ hu
  rw [Nat.add_assoc, e] at h1
  rw [h1, h2]
theorem flat_one (xs : List α) : ∀ u ∈ xs.flatMap L.c, u.oneCell' = true := by
  intro u hu
  obtain ⟨f, _, hf⟩ := List.mem_flatMap.1 hu
  exact L.one f u hf
theorem run_append_noneN {P : Program} {w : World} (base : Nat) (t ty e : TypeId) (i : TypeInfo) (size c : Nat) (ht : P.underlying t = some (.slice e)) (hi : P.info? e = some i)
    (v : Value) (n : Nat) (xs : List Value) (hown : w.ownsRow base e size v n xs) :
    (Builtin.append_ #[t, t] ty #[v, .slice none 0 c]).run P w = .ok v w := by
  rcases hown.2 with ⟨rfl, rfl⟩ | ⟨g, cap, cur, rfl, _, _, hnc, _⟩
  · simp [Builtin.append_, run_underlying ht, sizeOf, typeInfo, hi, Builtin.lenOf, Builtin.firstCells]
  · simp [Builtin.append_, run_underlying ht, sizeOf, typeInfo, hi, Builtin.lenOf, Builtin.firstCells, hnc, storeCells]
/-- 'append(out, row...)': a row that can be read behind a row of the call's own. -/
theorem wp_append_rd {P : Program} {W : World} {o : Oper} {a : Act} {K : Act → World → Prop} {Q : Exit → Act → World → Prop} (s x : Operand) (t : TypeId)
    (ho : o.op = .call { callee := .builtin .append, args := #[s, x], argTypes := #[t, t] })
    (base B : Nat) (e : TypeId) (i : TypeInfo) (z : Value) (nb : Nat) (ht : P.underlying t = some (.slice e)) (hi : P.info? e = some i) (hz : i.zero = some z) (hsize : i.size = L.m) (hby : i.bytes = nb) (hzs : z.cells.size = L.m)
    (v : Value) (ys : List α) (hs : a.eval s = v) (hown : OwnN L W base e v ys) (u : Value) (xs : List α) (hx : a.eval x = u) (hu : RdN L W u xs)
    (n : Nat) (hfn : ys.length + xs.length = n) (hlen : n ≤ 2000000) (hnb : nb ≤ 1000) (hB : B ≤ base) (hbase : base ≤ W.heap.size) {w00 : World} (hbel : Below B w00 W)
    (h : ∀ a' c' w', OwnN L w' base e (.slice a' n c') (ys ++ xs) → Below B w00 w' → W.grownBy w' v.ownBlock → K (a.put o.dst (.slice a' n c')) w') : o.wp P a W K Q := by
  subst hfn
  obtain ⟨a0, c0, rfl⟩ := hu.shape
  cases a0 with
  | none =>
    have hxs : xs = [] := by
      rcases hu with ⟨_, _, _, h⟩ | ⟨g, o', c', h, _⟩
      · exact h
      · simp at h
    subst hxs
    have hr := run_append_noneN (P := P) base t o.type e i L.m c0 ht hi v ys.length (ys.flatMap L.c) hown
    obtain ⟨a1, c1, rfl⟩ := hown.shape
    unfold Oper.wp execOp
    simp only [List.length_nil] at hx
    simp only [ho, resolve, invoke, builtin, Sem.run_bind, Sem.run_pure, Result.andThen_ok, List.map_toArray, List.map_cons, List.map_nil, hs, hx, hr]
    have h2 := h a1 c1 W (by rw [List.append_nil]; exact hown) hbel (gR _ _)
    exact h2
  | some ad =>
    have hcell : ∀ j u, (xs.flatMap L.c)[j]? = some u → W.cell? (ad.add j) = some u := by
      intro j u hj
      rcases hu with ⟨a', c', h1, h2⟩ | ⟨g, o', c', h1, _, _, h3⟩
      · subst h2
        simp at hj
      · simp only [Value.slice.injEq, Option.some.injEq] at h1
        rw [h1.1, addr_addN]
        exact flat_at h3 j u hj
    have hmul : (ys.length + xs.length) * nb ≤ 140737488355328 := Nat.le_trans (Nat.mul_le_mul hlen hnb) (by decide)
    refine wp_append_own W s x t ho base e i z L.m nb ht hi hz hsize hby hzs L.pos v ys.length (ys.flatMap L.c) hs hown
      ad xs.length c0 (xs.flatMap L.c) hx (lay_len xs) hcell (flat_one xs) (by unfold maxLen; omega) hmul hbase ?_
    intro v' w' h2 h3 _
    have h2' : OwnN L w' base e v' (ys ++ xs) := by unfold OwnN; rw [List.length_append, List.flatMap_append]; exact h2
    obtain ⟨a', c', rfl⟩ := h2'.shape
    rw [List.length_append] at h2' ⊢
    refine h a' c' w' h2' (hbel.grown h3 (by omega) ?_) h3
    intro k hk
    have := (World.ownsRow.lt hown k hk).1
    omega
theorem wpList_append_rd {P : Program} {W : World} {ops : Array Oper} {rest : List Oper} {o : Oper} {a : Act} {Q : Exit → Act → World → Prop} (hgd : o.guard = none) (s x : Operand) (t : TypeId)
    (ho : o.op = .call { callee := .builtin .append, args := #[s, x], argTypes := #[t, t] })
    (base B : Nat) (e : TypeId) (i : TypeInfo) (z : Value) (nb : Nat) (ht : P.underlying t = some (.slice e)) (hi : P.info? e = some i) (hz : i.zero = some z) (hsize : i.size = L.m) (hby : i.bytes = nb) (hzs : z.cells.size = L.m)
    (v : Value) (ys : List α) (hs : a.eval s = v) (hown : OwnN L W base e v ys) (u : Value) (xs : List α) (hx : a.eval x = u) (hu : RdN L W u xs)
    (n : Nat) (hfn : ys.length + xs.length = n) (hlen : n ≤ 2000000) (hnb : nb ≤ 1000) (hB : B ≤ base) (hbase : base ≤ W.heap.size) {w00 : World} (hbel : Below B w00 W)
    (h : ∀ a' c' w', OwnN L w' base e (.slice a' n c') (ys ++ xs) → Below B w00 w' → W.grownBy w' v.ownBlock → wpList P ops Q rest (a.put o.dst (.slice a' n c')) w') :
    wpList P ops Q (o :: rest) a W :=
  wpList_plain hgd fun _ hK => wp_append_rd s x t ho base B e i z nb ht hi hz hsize hby hzs v ys hs hown u xs hx hu n hfn hlen hnb hB hbase hbel fun a' c' w' h2 h3 h4 => hK _ _ (h a' c' w' h2 h3 h4)
theorem OwnN.lit0 (w : World) (base : Nat) (e : TypeId) (hb : base ≤ w.heap.size) : OwnN L (w.alloc (.cells #[] e)) base e (.slice (some ⟨w.heap.size, 0, none⟩) 0 0) [] :=
  World.ownsRow_made w #[] 0 hb (by decide) (by simp)
end
end Go.Proofs.YtkbbcjnickgfjabGreat

/- Books, records and rows of them that come in as arguments. -/
namespace Go.Proofs.YtkbbcjnickgfjabGreat
open Go.ChangeShapes Go.WideShapes Go.ChangeAt Go.RowKit Go.WideElems
theorem lt_of_cellB {w : World} {g o : Nat} {u : Value} (h : w.cell? ⟨g, o, none⟩ = some u) : g < w.heap.size := by
  rcases Nat.lt_or_ge g w.heap.size with hg | hg
  · exact hg
  · exfalso
    simp [World.cell?, Array.getElem?_eq_none hg] at h
theorem open_n_gen {α : Type} (L : Lay α) (ok : α → Prop) (z : α) {H : Type} {enc : TypeId × Value → H} {P : Program} {W : World} {spare : Nat → Bool} {held : Bool} {t e : TypeId} {n : Nat} {u : Value} {x : DataW H × List MemPlace} (ht : P.underlying t = some (.slice e)) (ce : P.cellsOf e = L.m)
    (hfile : ∀ k cs y, DataW.trod enc P W 0 spare held k e cs = some y → ∃ f : α, cs = L.c f ∧ ok f)
    (g0 : DataW.trod enc P W 0 spare held n t [u] = some x) :
    ∃ fs : List α, RdN L W u fs ∧ fs.length ≤ maxLen ∧ ∀ f ∈ fs, ok f := by
  rcases Go.Deep.open_slice ht g0 with ⟨hcs, hx⟩ | ⟨a, len, cap, m, n, D, Pl, hcs, _, hl, hm, hmm, hx, hcell⟩
  · simp only [List.cons.injEq, and_true] at hcs
    exact ⟨[], .inl ⟨none, 0, hcs, rfl⟩, by simp, fun f hf => by cases hf⟩
  · simp only [List.cons.injEq, and_true] at hcs
    have hlm : len ≤ m := by rw [hmm]; split <;> omega
    have each : ∀ i, i < len → ∃ f : α, ok f ∧ ∀ j v, (L.c f)[j]? = some v → W.cell? (a.add (i * L.m + j)) = some v := by
      intro i hi
      obtain ⟨cs', h1, h2⟩ := hcell i (by omega)
      obtain ⟨f, rfl, hok⟩ := hfile _ _ _ h2
      rw [ce] at h1
      obtain ⟨_, _, hc⟩ := World.cells?_some h1
      refine ⟨f, hok, fun j v hv => ?_⟩
      have hj : j < L.m := by rw [← L.len f]; exact (List.getElem?_eq_some_iff.1 hv).1
      have e0 := hc j hj
      rw [Go.Deep.add_add] at e0
      rw [e0]
      exact hv
    haveI : Inhabited α := ⟨z⟩
    obtain ⟨F, hF⟩ := Go.Deep.choose_lt each
    by_cases hz : len = 0
    · subst hz
      exact ⟨[], .inl ⟨_, cap, hcs, rfl⟩, by simp, fun f hf => by cases hf⟩
    · obtain ⟨g, o, spot⟩ := a
      have hp0 : 0 < (L.c (F 0)).length := by rw [L.len]; exact L.pos
      have hc0 := (hF 0 (by omega)).2 0 _ (List.getElem?_eq_getElem hp0)
      have hspot : spot = none := by simpa [Addr.add] using World.cell?_spot hc0
      subst hspot
      have hg : g < W.heap.size := by
        rw [add_plain] at hc0
        exact lt_of_cellB hc0
      refine ⟨(List.range len).map F, .inr ⟨g, o, cap, by simpa using hcs, by simp; omega, hg, ?_⟩, by simp; omega, ?_⟩
      · intro j f hj
        rw [List.getElem?_map] at hj
        have hjl : j < len := by
          rcases Nat.lt_or_ge j len with h | h
          · exact h
          · rw [List.getElem?_eq_none (by simpa using h)] at hj; cases hj
        rw [List.getElem?_range hjl] at hj
        simp only [Option.map_some, Option.some.injEq] at hj
        subst hj
        intro i u hu
        have e0 := (hF j hjl).2 i u hu
        rw [add_plain] at e0
        rw [Nat.add_assoc]
        exact e0
      · intro f hf
        obtain ⟨j, hj, rfl⟩ := List.mem_map.1 hf
        exact (hF j (List.mem_range.1 hj)).1
theorem list6 {α : Type} {l : List α} (h : l.length = 6) : ∃ a b c d e f, l = [a, b, c, d, e, f] := by
  match l, h with
  | [a, b, c, d, e, f], _ => exact ⟨a, b, c, d, e, f, rfl⟩
theorem list4B {α : Type} {l : List α} (h : l.length = 4) : ∃ a b c d, l = [a, b, c, d] := by
  match l, h with
  | [a, b, c, d], _ => exact ⟨a, b, c, d, rfl⟩
theorem list11 {α : Type} {l : List α} (h : l.length = 11) : ∃ x y z m, l = x :: y :: z :: m ∧ m.length = 8 := by
  match l, h with
  | x :: y :: z :: m, h => exact ⟨x, y, z, m, rfl, by simpa using h⟩
theorem cellsThingB : Tryz.prog.cellsOf 41 = 8 := by kernel_rfl
theorem cellsThingSB : Tryz.prog.cellsOf 22 = 1 := by kernel_rfl
theorem cellsIntB : Tryz.prog.cellsOf 3 = 1 := by kernel_rfl
theorem cellsStrB : Tryz.prog.cellsOf 9 = 1 := by kernel_rfl
theorem cellsBookB : Tryz.prog.cellsOf 24 = 6 := by kernel_rfl
/-- What a book that comes in reads as: how large its texts may be. -/
def BkIn (b : Bk) : Prop := b.wd.size ≤ maxLen ∧ b.ch.size ≤ maxLen ∧ b.ths.length ≤ maxLen ∧ ∀ x ∈ b.ths, x.val.size ≤ maxLen
set_option maxRecDepth 20000 in
theorem open_book {H : Type} {enc : TypeId × Value → H} {W : World} {base : Nat} {v : Value} {d : DataW H} {ps : List MemPlace} (hv : Value.okWide Tryz.prog W .any base 24 v)
    (h : DataW.Trod enc Tryz.prog W 0 (fun _ => true) true 24 v d ps) : ∃ b : Bk, RdBk W v b ∧ BkIn b := by
  obtain ⟨cs, rfl, hsz⟩ := okWide_struct Tryz.underlying24 hv
  obtain ⟨fuel, hf⟩ := h
  obtain ⟨xs, n, _, _, hl, hlen, hf⟩ := DataW.trod_struct Tryz.underlying24 hf
  rw [cellsBookB] at hl
  simp only [Value.cells] at hl hf
  obtain ⟨v0, v1, v2, v3, v4, v5, hcs⟩ := list6 hl
  obtain ⟨y0, y1, y2, y3, y4, y5, rfl⟩ := list6 hlen
  rw [hcs] at hf
  have g0 : DataW.trod enc Tryz.prog W 0 (fun _ => true) true n 9 [v0] = some y0 := by simpa [cellsStrB] using hf 0 _ rfl
  have g1 : DataW.trod enc Tryz.prog W 0 (fun _ => true) true n 3 [v1] = some y1 := by simpa [cellsIntB] using hf 1 _ rfl
  have g2 : DataW.trod enc Tryz.prog W 0 (fun _ => true) true n 22 [v2] = some y2 := by simpa [cellsThingSB] using hf 2 _ rfl
  have g3 : DataW.trod enc Tryz.prog W 0 (fun _ => true) true n 3 [v3] = some y3 := by simpa [cellsIntB] using hf 3 _ rfl
  have g4 : DataW.trod enc Tryz.prog W 0 (fun _ => true) true n 9 [v4] = some y4 := by simpa [cellsStrB] using hf 4 _ rfl
  have g5 : DataW.trod enc Tryz.prog W 0 (fun _ => true) true n 3 [v5] = some y5 := by simpa [cellsIntB] using hf 5 _ rfl
  obtain ⟨x0, e0, _, w0⟩ := DataW.trod_string Tryz.underlying9 g0
  obtain ⟨x1, e1, _, _⟩ := DataW.trod_int Tryz.underlying3 g1
  obtain ⟨fs, hr, hn, hz⟩ := open_n_gen thY (fun x => x.val.size ≤ maxLen) thZ Tryz.underlying22 cellsThingB (fun k cs y hk => thing_at (enc := enc) (W := W) (spare := fun _ => true) (held := true) k cs y hk) g2
  obtain ⟨x3, e3, _, _⟩ := DataW.trod_int Tryz.underlying3 g3
  obtain ⟨x4, e4, _, w4⟩ := DataW.trod_string Tryz.underlying9 g4
  obtain ⟨x5, e5, _, _⟩ := DataW.trod_int Tryz.underlying3 g5
  simp only [List.cons.injEq, and_true] at e0 e1 e3 e4 e5
  subst e0 e1 e3 e4 e5
  refine ⟨⟨x0, x1, fs, x3, x4, x5⟩, ⟨v2, ?_, hr⟩, w0, w4, hn, hz⟩
  have e : cs.toList = [.string x0, .int .i64 x1, v2, .int .i64 x3, .string x4, .int .i64 x5] := hcs
  obtain ⟨l⟩ := cs
  simp only at e
  rw [e]
  rfl
theorem cellsRecB : Tryz.prog.cellsOf 43 = 11 := by kernel_rfl
theorem cellsThingB9 : Tryz.prog.cellsOf 41 = 8 := by kernel_rfl
theorem cellsIntB9 : Tryz.prog.cellsOf 3 = 1 := by kernel_rfl
theorem cellsStrB9 : Tryz.prog.cellsOf 9 = 1 := by kernel_rfl
def RcIn (r : Rc) : Prop := r.tx.size ≤ maxLen ∧ r.th.val.size ≤ maxLen
theorem array8 (x : Th) : (thC x).toList = [.int .i64 x.id, .int .i64 x.kind, .bool x.hid, .bool x.fix, .bool x.sgn, .bool x.wrp, .string x.val, .int .i64 x.nxt] := rfl
set_option maxRecDepth 20000 in
theorem rec_at {H : Type} {enc : TypeId × Value → H} {W : World} {spare : Nat → Bool} {held : Bool} (k : Nat) (cs : List Value) (y : DataW H × List MemPlace) (h : DataW.trod enc Tryz.prog W 0 spare held k 43 cs = some y) : ∃ r : Rc, cs = (rcC r).toList ∧ RcIn r := by
  obtain ⟨xs, n, _, rfl, hl, hlen, hf⟩ := DataW.trod_struct Tryz.underlying43 h
  rw [cellsRecB] at hl
  obtain ⟨v0, v1, v2, m, rfl, hm⟩ := list11 hl
  obtain ⟨y0, y1, y2, y3, rfl⟩ := list4B hlen
  have g0 : DataW.trod enc Tryz.prog W 0 spare held n 3 [v0] = some y0 := by simpa [cellsIntB9] using hf 0 _ rfl
  have g1 : DataW.trod enc Tryz.prog W 0 spare held n 9 [v1] = some y1 := by simpa [cellsStrB9] using hf 1 _ rfl
  have g2 : DataW.trod enc Tryz.prog W 0 spare held n 3 [v2] = some y2 := by simpa [cellsIntB9] using hf 2 _ rfl
  have g3 : DataW.trod enc Tryz.prog W 0 spare held n 41 m = some y3 := by
    have := hf 3 _ rfl
    simpa [cellsThingB9, List.take_of_length_le (Nat.le_of_eq hm)] using this
  obtain ⟨x0, e0, _, _⟩ := DataW.trod_int Tryz.underlying3 g0
  obtain ⟨x1, e1, _, w1⟩ := DataW.trod_string Tryz.underlying9 g1
  obtain ⟨x2, e2, _, _⟩ := DataW.trod_int Tryz.underlying3 g2
  obtain ⟨x, hx, hok⟩ := thing_at _ _ _ g3
  simp only [List.cons.injEq, and_true] at e0 e1 e2
  subst e0 e1 e2
  exact ⟨⟨x0, x1, x2, x⟩, by rw [hx]; rfl, w1, hok⟩
set_option maxRecDepth 20000 in
theorem open_rec {H : Type} {enc : TypeId × Value → H} {W : World} {base : Nat} {v : Value} {d : DataW H} {ps : List MemPlace} (hv : Value.okWide Tryz.prog W .any base 43 v)
    (h : DataW.Trod enc Tryz.prog W 0 (fun _ => true) true 43 v d ps) : ∃ r : Rc, v = .agg (rcC r) ∧ RcIn r := by
  obtain ⟨cs, rfl, hsz⟩ := okWide_struct Tryz.underlying43 hv
  obtain ⟨fuel, hf⟩ := h
  obtain ⟨x, hx, hok⟩ := rec_at _ _ _ hf
  refine ⟨x, ?_, hok⟩
  have e : cs.toList = (rcC x).toList := by simpa [Value.cells] using hx
  rw [Array.toList_inj.1 e]
theorem open_recs {H : Type} {enc : TypeId × Value → H} {W : World} {o : Option Addr} {len cap : Nat} {d : DataW H} {ps : List MemPlace} (h : DataW.Trod enc Tryz.prog W 0 (fun _ => true) true 25 (.slice o len cap) d ps) :
    ∃ fs : List Rc, RdN rcY W (.slice o len cap) fs ∧ fs.length ≤ maxLen ∧ ∀ f ∈ fs, RcIn f := by
  obtain ⟨fuel, hf⟩ := h
  exact open_n_gen rcY RcIn rcZ Tryz.underlying25 cellsRecB (fun k cs y hk => rec_at (enc := enc) (W := W) (spare := fun _ => true) (held := true) k cs y hk) hf
end Go.Proofs.YtkbbcjnickgfjabGreat

/- The laws' helpers on rows of things: how much, a copy, whether they are the same. -/
namespace Go.Proofs.YtkbbcjnickgfjabGreat
open Go.RowKit
def thsSz : List Th → Nat
  | [] => 0
  | x :: r => x.val.size + thsSz r
theorem thsSz_append (a b : List Th) : thsSz (a ++ b) = thsSz a + thsSz b := by
  induction a with
  | nil => simp [thsSz]
  | cons f r ih => rw [List.cons_append, thsSz, thsSz, ih]; omega
theorem thsSz_mem {fs : List Th} {f : Th} (h : f ∈ fs) : f.val.size ≤ thsSz fs := by
  induction fs with
  | nil => cases h
  | cons x r ih =>
    rw [thsSz]
    rcases List.mem_cons.1 h with rfl | h
    · omega
    · have := ih h; omega
theorem thsSz_take {fs : List Th} {k : Nat} {f : Th} (h : fs[k]? = some f) : thsSz (fs.take (k + 1)) = thsSz (fs.take k) + f.val.size := by
  rw [List.take_add_one, h, thsSz_append]
  simp [thsSz]
/-- What the counted size of a row of things tells. -/
def TsEnd (L : Int) (xs : List Th) (z : Int) : Prop := z < 0 ∨ z = L - ((xs.length + thsSz xs : Nat) : Int) ∧ 0 ≤ z
theorem RdN.openT {w : World} {v : Value} {xs : List Th} (h : RdN thY w v xs) : ∃ a c, v = .slice a xs.length c ∧ ∀ j x, xs[j]? = some x → ∃ g o, a = some ⟨g, o, none⟩ ∧ g < w.heap.size ∧ AtN thY w g (o + j * 8) x := h.open
theorem infoThing : (Tryz.prog.info? 48).map (fun i => (i.zero, i.size, i.bytes)) = some (some (.agg (thC thZ)), 8, 48) := by kernel_rfl
set_option maxRecDepth 20000 in
set_option maxHeartbeats 1000000 in
theorem szThingS_any (xs : List Th) (v : Value) (L : Int) (hL : 0 ≤ L ∧ L ≤ 1048576) (w : World) (hr : RdN thY w v xs) (hn : xs.length ≤ maxLen) (hz : ∀ x ∈ xs, x.val.size ≤ maxLen) :
    Calls Tryz.prog 12 #[v, .int .i64 L] w fun e w' => (∃ z : Int, e = .returned (.int .i64 z) ∧ TsEnd L xs z) ∧ Below w.heap.size w w' := by
  obtain ⟨a, c, rfl, hc⟩ := hr.openT
  have hn' := hn
  unfold maxLen at hn'
  clear hr hn
  obtain ⟨n, hnn⟩ : ∃ n, xs.length = n := ⟨_, rfl⟩
  rw [hnn] at hn' ⊢
  replace hnn := hide hnn
  replace hz := hide hz
  by_cases c1 : L - (n : Int) < 0
  · go_enter Tryz.func12, Tryz.ntmps12
    go_wp2
    go_ret
    exact ⟨⟨-1, rfl, .inl (by decide)⟩, Below.refl _ _⟩
  · go_enter Tryz.func12, Tryz.ntmps12
    go_wp2
    go_loopw [1, 5] (fun tl ti wr => ∃ (k : Nat) (l : Int), k ≤ n ∧ ti = .int .i64 k ∧ tl = .int .i64 l ∧ Hid (l = L - ((n + thsSz (xs.take k) : Nat) : Int) ∧ 0 ≤ l) ∧ Below w.heap.size w wr) (fun _ ti _ => n - (intOf ti).toNat)
    case atStart => exact ⟨0, L - n, Nat.zero_le _, rfl, by go_num, ⟨by show _ = L - ((n + thsSz [] : Nat) : Int); simp [thsSz], by omega⟩, Below.refl _ _⟩
    case round =>
      obtain ⟨k, l, hk, rfl, rfl, hsum, hb⟩ := hrel
      by_cases hlt : k < n
      · have hk' : k < xs.length := by rw [unhide hnn]; exact hlt
        obtain ⟨f, hf⟩ : ∃ f, xs[k]? = some f := ⟨xs[k], List.getElem?_eq_getElem hk'⟩
        obtain ⟨g, o, rfl, hg, hat⟩ := hc k f hf
        obtain ⟨d0, d1, d2, d3, d4, d5, d6, d7⟩ := (hat.below hb hg).th
        have hzf := unhide hz f (List.mem_of_getElem? hf)
        have hl2 : 0 ≤ l ∧ l ≤ 1048576 := by have := unhide hsum; omega
        have HT := hide (thsSz_take hf)
        have C := hide (fun W => szThing_any f l hl2 hzf W)
        have hss := hb.size
        replace hf := hide hf
        clear hc hat hzf
        obtain ⟨id, kind, hid, fix, sgn, wrp, val, nxt⟩ := f
        go_wp2_with (go_at_call 22; refine ((unhide C) _).mono ?_; rintro e w1 ⟨⟨r, rfl, hr1⟩, hb1⟩)
        · go_ret
          exact ⟨⟨_, rfl, .inl (by decide)⟩, hb.trans (hb1.mono hss)⟩
        · go_roundw
          case rel =>
            refine ⟨k + 1, r, by omega, by go_num, rfl, ?_, hb.trans (hb1.mono hss)⟩
            have h3 := unhide HT
            have h4 := unhide hsum
            rcases hr1 with ⟨q, _⟩ | ⟨q, q2⟩
            · exact absurd q (by omega)
            · skip
              exact ⟨by rw [h3]; omega, by omega⟩
          case measure => simp [intOf]; omega
      · have e1 : k = n := by omega
        have e2 : xs.take k = xs := List.take_of_length_le (by rw [unhide hnn]; omega)
        rw [e2] at hsum
        go_wp2
        go_ret
        exact ⟨⟨l, rfl, .inr (by rw [unhide hnn]; exact unhide hsum)⟩, hb⟩
set_option maxRecDepth 20000 in
set_option maxHeartbeats 2000000 in
theorem toThingS_any (fs : List Th) (v : Value) (w : World) (hr : RdN thY w v fs) (hn : fs.length ≤ 1048576) :
    Calls Tryz.prog 16 #[v] w fun e w' => (∃ a c, e = .returned (.slice a fs.length c) ∧ OwnN thY w' w.heap.size 48 (.slice a fs.length c) fs) ∧ Below w.heap.size w w' := by
  obtain ⟨i0, hi, hz0, hz1, hz2⟩ := info_parts infoThing
  obtain ⟨a, c, rfl, hc⟩ := hr.openT
  clear hr
  obtain ⟨n, hnn⟩ : ∃ n, fs.length = n := ⟨_, rfl⟩
  rw [hnn] at hn ⊢
  replace hnn := hide hnn
  go_enter Tryz.func16, Tryz.ntmps16
  go_wp2_with (at_make; refine wpList_make_full _ rfl _ _ 29 rfl w.heap.size 48 i0 (.agg (thC thZ)) 8 Tryz.underlying29 hi hz0 hz1 _ _ _ _ n rfl rfl rfl rfl (by rw [hz2]; omega) (by unfold maxLen; omega) (Nat.le_refl _) ?_; intro w1 hown1 hgrow1)
  have hr0 : OwnN thY w1 w.heap.size 48 (.slice (some ⟨w.heap.size, 0, none⟩) n n) (fs.take 0 ++ List.replicate (n - 0) thZ) := OwnN.made thZ rfl hown1
  have hb0 : Below w.heap.size w w1 := (Below.refl w.heap.size w).grown hgrow1 (Nat.le_refl _) (fun k hk => by cases hk)
  clear hown1 hgrow1
  go_loopw [4] (fun ti wr => ∃ k : Nat, k ≤ n ∧ ti = .int .i64 k ∧ OwnN thY wr w.heap.size 48 (.slice (some ⟨w.heap.size, 0, none⟩) n n) (fs.take k ++ List.replicate (n - k) thZ) ∧ Below w.heap.size w wr) (fun ti _ => n - (intOf ti).toNat)
  case atStart => exact ⟨0, Nat.zero_le _, rfl, hr0, hb0⟩
  case round =>
    obtain ⟨k, hk, rfl, ho, hb⟩ := hrel
    by_cases hlt : k < n
    · have hk' : k < fs.length := by rw [unhide hnn]; exact hlt
      obtain ⟨f, hf⟩ : ∃ f, fs[k]? = some f := ⟨fs[k], List.getElem?_eq_getElem hk'⟩
      obtain ⟨g, o, rfl, hg, hat⟩ := hc k f hf
      have hatw := hat.below hb hg
      have hss := hb.size
      replace hf := hide hf
      have hlk : (k : Int) < (n : Int) := by omega
      clear hc hat hr0 hb0
      go_wp2_with (first
        | (refine wpList_load_n (L := thY) rfl 41 (.tmp 18) rfl g (o + k * 8) rfl f hatw _ Tryz.underlying41 rfl ?_)
        | (go_at_call 27; refine (toThing_any f _).mono ?_; rintro e w2 ⟨rfl, hb1⟩; have ho1 := ho.below hb1)
        | (refine wpList_store_n (L := thY) rfl 48 (.tmp 21) (.tmp 20) rfl (k := k) rfl f rfl ho1 hlt rfl ?_; intro w3 ho2 hg2 hs2))
      rw [take_fillN (unhide hf) (unhide hnn)] at ho2
      go_roundw
      case rel => exact ⟨k + 1, by omega, by go_num, ho2, (hb.trans (hb1.mono hss)).grown hg2 (by have := hb1.size; omega) (fun j hj => by cases hj; exact Nat.le_refl _)⟩
      case measure => simp [intOf]; omega
    · have e1 : k = n := by omega
      have e2 : fs.take k ++ List.replicate (n - k) thZ = fs := by
        rw [e1, Nat.sub_self, List.take_of_length_le (by rw [unhide hnn]; exact Nat.le_refl _)]
        simp
      rw [e2] at ho
      go_wp2
      go_ret
      exact ⟨⟨_, _, rfl, ho⟩, hb⟩
set_option maxRecDepth 20000 in
set_option maxHeartbeats 2000000 in
theorem eqThingS_any (fs : List Th) (v1 v2 : Value) (w : World) (hr1 : RdN thY w v1 fs) (hr2 : RdN thY w v2 fs) (hn : fs.length ≤ 2000000) :
    Calls Tryz.prog 20 #[v1, v2] w fun e w' => e = .returned (.bool true) ∧ Below w.heap.size w w' := by
  obtain ⟨a1, c1, rfl, hc1⟩ := hr1.openT
  obtain ⟨a2, c2, rfl, hc2⟩ := hr2.openT
  clear hr1 hr2
  obtain ⟨n, hnn⟩ : ∃ n, fs.length = n := ⟨_, rfl⟩
  rw [hnn] at hn ⊢
  replace hnn := hide hnn
  go_enter Tryz.func20, Tryz.ntmps20
  go_wp2
  go_loopw [5] (fun ti wr => ∃ k : Nat, k ≤ n ∧ ti = .int .i64 k ∧ Below w.heap.size w wr) (fun ti _ => n - (intOf ti).toNat)
  case atStart => exact ⟨0, Nat.zero_le _, rfl, Below.refl _ _⟩
  case round =>
    obtain ⟨k, hk, rfl, hb⟩ := hrel
    by_cases hlt : k < n
    · have hk' : k < fs.length := by rw [unhide hnn]; exact hlt
      obtain ⟨f, hf⟩ : ∃ f, fs[k]? = some f := ⟨fs[k], List.getElem?_eq_getElem hk'⟩
      obtain ⟨g1, o1, rfl, hg1, hat1⟩ := hc1 k f hf
      obtain ⟨g2, o2, rfl, hg2, hat2⟩ := hc2 k f hf
      have hA1 := hide (hat1.below hb hg1)
      have hA2 := hide (hat2.below hb hg2)
      have hss := hb.size
      have hgw1 : g1 < wr.heap.size := by omega
      have hgw2 : g2 < wr.heap.size := by omega
      have hi0 : (0 : Int) ≤ (k : Int) := by omega
      have hi1 : (k : Int) < (n : Int) := by omega
      replace hf := hide hf
      clear hc1 hc2 hat1 hat2
      have C := hide (fun W => eqThing_any f W)
      obtain ⟨id, kind, hid, fix, sgn, wrp, val, nxt⟩ := f
      obtain ⟨d0, d1, d2, d3, d4, d5, d6, d7⟩ := (unhide hA1).th
      obtain ⟨e0, e1, e2, e3, e4, e5, e6, e7⟩ := (unhide hA2).th
      go_wp2
      go_region_held3 (fun W => W.cell? ⟨g1, o1 + k * 8, none⟩ = some (.int .i64 id) ∧ W.cell? ⟨g1, o1 + k * 8 + 1, none⟩ = some (.int .i64 kind) ∧ W.cell? ⟨g1, o1 + k * 8 + 2, none⟩ = some (.bool hid) ∧ W.cell? ⟨g1, o1 + k * 8 + 3, none⟩ = some (.bool fix) ∧ W.cell? ⟨g1, o1 + k * 8 + 4, none⟩ = some (.bool sgn) ∧ W.cell? ⟨g1, o1 + k * 8 + 5, none⟩ = some (.bool wrp) ∧ W.cell? ⟨g1, o1 + k * 8 + 6, none⟩ = some (.string val) ∧ W.cell? ⟨g1, o1 + k * 8 + 7, none⟩ = some (.int .i64 nxt) ∧ W.cell? ⟨g2, o2 + k * 8, none⟩ = some (.int .i64 id) ∧ W.cell? ⟨g2, o2 + k * 8 + 1, none⟩ = some (.int .i64 kind) ∧ W.cell? ⟨g2, o2 + k * 8 + 2, none⟩ = some (.bool hid) ∧ W.cell? ⟨g2, o2 + k * 8 + 3, none⟩ = some (.bool fix) ∧ W.cell? ⟨g2, o2 + k * 8 + 4, none⟩ = some (.bool sgn) ∧ W.cell? ⟨g2, o2 + k * 8 + 5, none⟩ = some (.bool wrp) ∧ W.cell? ⟨g2, o2 + k * 8 + 6, none⟩ = some (.string val) ∧ W.cell? ⟨g2, o2 + k * 8 + 7, none⟩ = some (.int .i64 nxt)) (first | exact ⟨d0, d1, d2, d3, d4, d5, d6, d7, e0, e1, e2, e3, e4, e5, e6, e7⟩ | (obtain ⟨p0, p1, p2, p3, p4, p5, p6, p7⟩ := (AtN.below (w := wr.drew) (unhide hA1) hb1 hgw1).th; obtain ⟨q0, q1, q2, q3, q4, q5, q6, q7⟩ := (AtN.below (w := wr.drew) (unhide hA2) hb1 hgw2).th; exact ⟨p0, p1, p2, p3, p4, p5, p6, p7, q0, q1, q2, q3, q4, q5, q6, q7⟩)) (first | (go_at_call 32; refine ((unhide C) _).mono ?_; rintro e w1 ⟨rfl, hb1⟩))
      go_wp2
      go_roundw
      case rel => exact ⟨k + 1, by omega, by go_num, hb.drew.trans (hb1.mono hss)⟩
      case measure => simp [intOf]; omega
    · go_wp2
      go_ret
      exact ⟨rfl, hb⟩
end Go.Proofs.YtkbbcjnickgfjabGreat

/- Decimal figures of a number, and the number of figures: the mathematics, of no program. -/
namespace Go.Proofs.YtkbbcjnickgfjabGreat

/-- The decimal figures of u, the first ahead; one nought for 0 (f: how many may stand ahead). -/
def decF : Nat → Nat → List UInt8
  | 0, u => [byteOf (48 + u)]
  | f + 1, u => if u < 10 then [byteOf (48 + u)] else decF f (u / 10) ++ [byteOf (48 + u % 10)]
def decB (u : Nat) : List UInt8 := decF u u

theorem decF_more : ∀ (f g u : Nat), u ≤ f → u ≤ g → decF f u = decF g u := by
  intro f
  induction f with
  | zero =>
    intro g u h1 h2
    have : u = 0 := by omega
    subst this
    cases g with
    | zero => rfl
    | succ g => rfl
  | succ f ih =>
    intro g u h1 h2
    cases g with
    | zero =>
      have : u = 0 := by omega
      subst this
      rfl
    | succ g =>
      unfold decF
      by_cases h : u < 10
      · rw [if_pos h, if_pos h]
      · rw [if_neg h, if_neg h, ih g (u / 10) (by omega) (by omega)]
theorem decB_small {u : Nat} (h : u < 10) : decB u = [byteOf (48 + u)] := by
  unfold decB
  cases u with
  | zero => rfl
  | succ u => unfold decF; rw [if_pos h]
theorem decB_big {u : Nat} (h : ¬ u < 10) : decB u = decB (u / 10) ++ [byteOf (48 + u % 10)] := by
  unfold decB
  cases u with
  | zero => omega
  | succ u =>
    rw [decF, if_neg h, decF_more u ((u + 1) / 10) ((u + 1) / 10) (by omega) (Nat.le_refl _)]
theorem decB_len : ∀ (k u : Nat), u < 10 ^ (k + 1) → 1 ≤ (decB u).length ∧ (decB u).length ≤ k + 1 := by
  intro k
  induction k with
  | zero => intro u h; rw [decB_small (by omega)]; simp
  | succ k ih =>
    intro u h
    by_cases hu : u < 10
    · rw [decB_small hu]; simp
    · have := ih (u / 10) (by rw [Nat.pow_succ] at h; omega)
      rw [decB_big hu, List.length_append]
      simp only [List.length_singleton]
      omega
theorem decB_pos (u : Nat) : 1 ≤ (decB u).length := by
  by_cases hu : u < 10
  · rw [decB_small hu]; simp
  · rw [decB_big hu]; simp

/-- Is it a figure? -/
def isFig (c : UInt8) : Bool := decide (48 ≤ c.toNat ∧ c.toNat ≤ 57)
/-- The number of figures. -/
def valB (l : List UInt8) : Nat := l.foldl (fun n c => 10 * n + (c.toNat - 48)) 0
theorem valB_nil : valB [] = 0 := rfl
theorem valB_snoc (l : List UInt8) (c : UInt8) : valB (l ++ [c]) = 10 * valB l + (c.toNat - 48) := by unfold valB; simp
theorem foldl_ge (l : List UInt8) : ∀ n, n ≤ l.foldl (fun n c => 10 * n + (c.toNat - 48)) n := by
  induction l with
  | nil => intro n; exact Nat.le_refl _
  | cons c t ih => intro n; rw [List.foldl_cons]; exact Nat.le_trans (by omega) (ih _)
theorem valB_append_ge (l m : List UInt8) : valB l ≤ valB (l ++ m) := by
  unfold valB; rw [List.foldl_append]; exact foldl_ge _ _
theorem foldl_pow (l : List UInt8) : ∀ n, n * 10 ^ l.length ≤ l.foldl (fun n c => 10 * n + (c.toNat - 48)) n := by
  induction l with
  | nil => intro n; simp
  | cons c t ih =>
    intro n
    rw [List.foldl_cons, List.length_cons, Nat.pow_succ]
    refine Nat.le_trans ?_ (ih _)
    calc n * (10 ^ t.length * 10) = (10 * n) * 10 ^ t.length := by rw [Nat.mul_comm (10 ^ t.length) 10, ← Nat.mul_assoc, Nat.mul_comm n 10]
      _ ≤ _ := Nat.mul_le_mul_right _ (by omega)
theorem valB_cons_ge (c : UInt8) (t : List UInt8) (h : 49 ≤ c.toNat) : 10 ^ t.length ≤ valB (c :: t) := by
  unfold valB
  rw [List.foldl_cons]
  refine Nat.le_trans ?_ (foldl_pow t _)
  calc 10 ^ t.length = 1 * 10 ^ t.length := by omega
    _ ≤ _ := Nat.mul_le_mul_right _ (by omega)
theorem valB_lt (l : List UInt8) : (∀ c ∈ l, isFig c = true) → valB l < 10 ^ l.length := by
  intro h
  induction hl : l.length generalizing l with
  | zero => have : l = [] := List.length_eq_zero_iff.1 hl; subst this; simp [valB_nil]
  | succ k ih =>
    obtain ⟨l', c, rfl⟩ : ∃ l' c, l = l' ++ [c] := by
      have hne : l ≠ [] := by intro e; subst e; simp at hl
      exact ⟨l.dropLast, l.getLast hne, (List.dropLast_concat_getLast hne).symm⟩
    have h1 := ih l' (fun c hc => h c (by simp [hc])) (by simpa using hl)
    have h2 := h c (by simp)
    simp only [isFig, decide_eq_true_eq] at h2
    rw [valB_snoc, Nat.pow_succ]
    omega

/-- No needless nought stands ahead. -/
def plainFigs (l : List UInt8) : Prop := l ≠ [] ∧ (1 < l.length → l.head? ≠ some 48)

theorem valB_ge_one {l : List UInt8} (hf : ∀ c ∈ l, isFig c = true) (hn : l ≠ []) (h0 : l.head? ≠ some 48) : 1 ≤ valB l := by
  cases l with
  | nil => exact absurd rfl hn
  | cons c t =>
    have h2 := hf c (by simp)
    simp only [isFig, decide_eq_true_eq] at h2
    have h3 : c.toNat ≠ 48 := by
      intro e
      apply h0
      simp only [List.head?_cons, Option.some.injEq]
      apply UInt8.toNat_inj.1; rw [e]; rfl
    have := valB_cons_ge c t (by omega)
    have hp : 1 ≤ 10 ^ t.length := Nat.one_le_pow _ _ (by decide)
    omega

theorem decB_valB : ∀ (k : Nat) (l : List UInt8), l.length = k → (∀ c ∈ l, isFig c = true) → plainFigs l → decB (valB l) = l := by
  intro k
  induction k with
  | zero => intro l hl _ hp; exact absurd (List.length_eq_zero_iff.1 hl) hp.1
  | succ k ih =>
    intro l hl hf hp
    obtain ⟨l', c, rfl⟩ : ∃ l' c, l = l' ++ [c] := ⟨l.dropLast, l.getLast hp.1, (List.dropLast_concat_getLast hp.1).symm⟩
    have hc := hf c (by simp)
    simp only [isFig, decide_eq_true_eq] at hc
    have hbc : byteOf c.toNat = c := by unfold byteOf; simp
    rw [valB_snoc]
    by_cases hn : l' = []
    · subst hn
      rw [valB_nil, decB_small (by omega), show 48 + (10 * 0 + (c.toNat - 48)) = c.toNat by omega, hbc]
      rfl
    · have hlen : 0 < l'.length := List.length_pos_iff.2 hn
      have hh : l'.head? ≠ some 48 := by
        have := hp.2 (by simp; omega)
        cases l' with
        | nil => exact absurd rfl hn
        | cons a t => simpa using this
      have h1 := valB_ge_one (fun c hc => hf c (by simp [hc])) hn hh
      have h2 := ih l' (by simpa using hl) (fun c hc => hf c (by simp [hc])) ⟨hn, fun _ => hh⟩
      rw [decB_big (by omega), show (10 * valB l' + (c.toNat - 48)) / 10 = valB l' by omega, show 48 + (10 * valB l' + (c.toNat - 48)) % 10 = c.toNat by omega, h2, hbc]

theorem decB_head : ∀ (n : Nat) (t : List UInt8), decB n = 48 :: t → t = [] ∧ n = 0 := by
  intro n
  induction n using Nat.strongRecOn with
  | _ n ih =>
    intro t h
    by_cases hn : n < 10
    · rw [decB_small hn] at h
      simp only [List.cons.injEq] at h
      refine ⟨h.2.symm, ?_⟩
      have := congrArg UInt8.toNat h.1
      rw [byteOf_toNat (by omega)] at this
      simp at this
      omega
    · exfalso
      rw [decB_big hn] at h
      have hp := decB_pos (n / 10)
      cases hd : decB (n / 10) with
      | nil => rw [hd] at hp; simp at hp
      | cons y ys =>
        rw [hd] at h
        simp only [List.cons_append, List.cons.injEq] at h
        have := ih (n / 10) (by omega) ys (by rw [hd, h.1])
        omega

/-- The figures of the number that figures stand for are these just where no needless nought stands ahead. -/
theorem decB_iff {l : List UInt8} (hf : ∀ c ∈ l, isFig c = true) : decB (valB l) = l ↔ plainFigs l := by
  constructor
  · intro h
    refine ⟨?_, ?_⟩
    · intro e; subst e
      have hp := decB_pos (valB [])
      rw [h] at hp
      simp at hp
    · intro hl hh
      cases l with
      | nil => simp at hh
      | cons a t =>
        simp only [List.head?_cons, Option.some.injEq] at hh
        subst hh
        have := (decB_head _ _ h).1
        subst this
        simp at hl
  · exact decB_valB _ l rfl hf

/-- What is read. -/
def rdB (l : List UInt8) : Option Nat := if l.all isFig = true ∧ valB l ≤ 1000000000 ∧ decB (valB l) = l then some (valB l) else none
end Go.Proofs.YtkbbcjnickgfjabGreat

/- What spec.Hex and impl.Hex come to, over the loaded program. -/
namespace Go.Proofs.YtkbbcjnickgfjabGreat
open Go.RowKit

theorem Tryz.infoBH : (Tryz.prog.info? 5).map (fun i => (i.zero, i.size, i.bytes)) = some (some (.int .u8 0), 1, 1) := by kernel_rfl

/-- The figure of a half byte. -/
def fig (n : Nat) : UInt8 := byteOf (if n < 10 then 48 + n else 87 + n)
/-- Two figures for each byte. -/
def hexB (l : List UInt8) : List UInt8 := l.flatMap fun b => [fig (b.toNat / 16), fig (b.toNat % 16)]
theorem fig_toNat {n : Nat} (h : n < 16) : (fig n).toNat = if n < 10 then 48 + n else 87 + n := by
  unfold fig; rw [byteOf_toNat]; split <;> omega
theorem hexB_len (l : List UInt8) : (hexB l).length = 2 * l.length := by
  unfold hexB; induction l with
  | nil => rfl
  | cons a t ih => rw [List.flatMap_cons, List.length_append, ih]; simp; omega
theorem hexB_snoc (l : List UInt8) (b : UInt8) : hexB (l ++ [b]) = hexB l ++ [fig (b.toNat / 16), fig (b.toNat % 16)] := by
  unfold hexB; simp


theorem cs_two {c d : Int} {a b : UInt8} (h : c = (a.toNat : Int)) (h' : d = (b.toNat : Int)) : (#[Value.int .u8 c, Value.int .u8 d] : Array Value).toList = [a, b].map bv := by simp [bv, h, h']

theorem take_step0 (s : ByteArray) (k : Nat) (h : k < s.size) : s.data.toList.take (k + 1) = s.data.toList.take k ++ [s[k]] := by
  rw [List.take_succ_eq_append_getElem (by simpa using h)]; rfl

end Go.Proofs.YtkbbcjnickgfjabGreat

