/- Laws of no program: a file as three cells, a row of files that can be read, a row of files of the call's own. -/
import Derived.Test.YtecbpplocokedaaStrs
import Derived.Deep.RegionHeld3
import Derived.Deep.QuietTactic
import Derived.BigQuiet
namespace Go.Proofs.Ytecbpplocokedaa
open Go.RowKit

theorem bcell {W w1 : World} (hb : Below W.heap.size W w1) : (∀ b o, b < W.heap.size → w1.cell? ⟨b, o, none⟩ = W.cell? ⟨b, o, none⟩) ∧ (∀ b o, b < W.heap.size → w1.frozen? ⟨b, o, none⟩ = W.frozen? ⟨b, o, none⟩) :=
  ⟨fun b o h => hb.cell (p := ⟨b, o, none⟩) h, fun b o h => hb.frozen (p := ⟨b, o, none⟩) h⟩

theorem bDN {B : Nat} {w w' : World} (h : Below B w w') (n : Nat) : Below B w (w'.drewN n) := ⟨h.os, h.tape, h.output, h.size, h.block⟩
theorem bAD (w : World) (o : Obj) (n : Nat) : Below w.heap.size w ((w.alloc o).drewN n) := bDN ((Below.refl _ w).alloc (Nat.le_refl _) _) n
theorem bADT {w w1 : World} {o : Obj} {n : Nat} (h : Below ((w.alloc o).drewN n).heap.size ((w.alloc o).drewN n) w1) : Below w.heap.size w w1 := (bAD w o n).trans (h.mono (by show _ ≤ (w.alloc o).heap.size; simp))
theorem retB {a b : Bool} (h : b = a) : Ending.returned (.bool a) = .returned (.bool b) := by rw [h]

structure Fl where
  nm : ByteArray
  tx : ByteArray
  kp : Int

def flc (f : Fl) : List Value := [.string f.nm, .string f.tx, .int .i64 f.kp]
abbrev flv (f : Fl) : Value := .agg #[.string f.nm, .string f.tx, .int .i64 f.kp]

theorem gB {w w' : World} (hb : Below w.heap.size w w') (r : Option Nat) : w.grownBy w' r := ⟨hb.os, hb.tape, hb.output, hb.size, fun k hk _ => hb.block k hk⟩
theorem gS (w : World) (g o : Nat) (u : Value) : w.grownBy (w.setCell ⟨g, o, none⟩ u) (some g) := ⟨rfl, rfl, rfl, by simp, fun k _ hk => RowKit.Below.heap_setCell _ _ _ _ (fun e => hk (by rw [e]))⟩
theorem gT {a b c : World} {r : Option Nat} (h : a.grownBy b r) (k : b.grownBy c r) : a.grownBy c r :=
  ⟨k.os.trans h.os, k.tape.trans h.tape, k.output.trans h.output, Nat.le_trans h.size k.size, fun i hi hr => (k.block i (Nat.lt_of_lt_of_le hi h.size) hr).trans (h.block i hi hr)⟩
theorem gR (w : World) (r : Option Nat) : w.grownBy w r := ⟨rfl, rfl, rfl, Nat.le_refl _, fun _ _ _ => rfl⟩
theorem gBelow {w w' : World} {r : Option Nat} (h : w.grownBy w' r) {B : Nat} (hB : B ≤ w.heap.size) (hr : ∀ k, r = some k → B ≤ k) : Below B w w' := (Below.refl B w).grown h hB hr

/-- The three cells of a file stand at p. -/
def FlAt (w : World) (g o : Nat) (f : Fl) : Prop :=
  w.cell? ⟨g, o, none⟩ = some (.string f.nm) ∧ w.cell? ⟨g, o + 1, none⟩ = some (.string f.tx) ∧ w.cell? ⟨g, o + 2, none⟩ = some (.int .i64 f.kp)

/-- The slice value v is a row in which the files fs can be read. -/
def RdF (w : World) (v : Value) (fs : List Fl) : Prop :=
  (∃ a c, v = .slice a 0 c ∧ fs = []) ∨ ∃ g o c, v = .slice (some ⟨g, o, none⟩) fs.length c ∧ 0 < fs.length ∧ g < w.heap.size ∧ ∀ j f, fs[j]? = some f → FlAt w g (o + j * 3) f

theorem FlAt.below {w w' : World} {g o : Nat} {f : Fl} (h : FlAt w g o f) {B : Nat} (hb : Below B w w') (hg : g < B) : FlAt w' g o f :=
  ⟨(hb.cell (p := ⟨g, o, none⟩) hg).trans h.1, (hb.cell (p := ⟨g, o + 1, none⟩) hg).trans h.2.1, (hb.cell (p := ⟨g, o + 2, none⟩) hg).trans h.2.2⟩

theorem RdF.below_at {w w' : World} {v : Value} {fs : List Fl} (h : RdF w v fs) {B : Nat} (hb : Below B w w') (hB : ∀ g, v.ownBlock = some g → g < B) : RdF w' v fs := by
  rcases h with h | ⟨g, o, c, rfl, hn, hg, hc⟩
  · exact .inl h
  · exact .inr ⟨g, o, c, rfl, hn, Nat.lt_of_lt_of_le hg hb.size, fun j f hj => (hc j f hj).below hb (hB g rfl)⟩
theorem RdF.below {w w' : World} {v : Value} {fs : List Fl} (h : RdF w v fs) (hb : Below w.heap.size w w') : RdF w' v fs := by
  rcases h with h | ⟨g, o, c, rfl, hn, hg, hc⟩
  · exact .inl h
  · exact .inr ⟨g, o, c, rfl, hn, Nat.lt_of_lt_of_le hg hb.size, fun j f hj => (hc j f hj).below hb hg⟩
theorem RdF.alloc {w : World} {v : Value} {fs : List Fl} (h : RdF w v fs) (o : Obj) : RdF (w.alloc o) v fs := h.below ((Below.refl _ _).alloc (Nat.le_refl _) _)
theorem RdF.drew {w : World} {v : Value} {fs : List Fl} (h : RdF w v fs) : RdF w.drew v fs := h.below (Below.refl _ _).drew
theorem RdF.shape {w : World} {v : Value} {fs : List Fl} (h : RdF w v fs) : ∃ a c, v = .slice a fs.length c := by
  rcases h with ⟨a, c, rfl, rfl⟩ | ⟨g, o, c, rfl, _⟩
  · exact ⟨_, _, rfl⟩
  · exact ⟨_, _, rfl⟩

theorem RdF.open {w : World} {v : Value} {fs : List Fl} (h : RdF w v fs) : ∃ a c, v = .slice a fs.length c ∧ ∀ j f, fs[j]? = some f → ∃ g o, a = some ⟨g, o, none⟩ ∧ g < w.heap.size ∧ FlAt w g (o + j * 3) f := by
  rcases h with ⟨a, c, rfl, rfl⟩ | ⟨g, o, c, rfl, _, hg, hc⟩
  · exact ⟨a, c, rfl, fun j f hj => by simp at hj⟩
  · exact ⟨_, c, rfl, fun j f hj => ⟨g, o, rfl, hg, hc j f hj⟩⟩

/-- The slice value v is a row of files of the call's own (blocks from base on). -/
def OwnF (w : World) (base : Nat) (e : TypeId) (v : Value) (fs : List Fl) : Prop := w.ownsRow base e 3 v fs.length (fs.flatMap flc)

theorem flc_len (fs : List Fl) : (fs.flatMap flc).length = fs.length * 3 := by
  induction fs with
  | nil => rfl
  | cons f r ih => rw [List.flatMap_cons, List.length_append, ih]; simp only [flc, List.length_cons, List.length_nil]; omega
theorem flc_get (fs : List Fl) : ∀ (j : Nat) (f : Fl), fs[j]? = some f → (fs.flatMap flc)[j * 3]? = some (.string f.nm) ∧ (fs.flatMap flc)[j * 3 + 1]? = some (.string f.tx) ∧ (fs.flatMap flc)[j * 3 + 2]? = some (.int .i64 f.kp) := by
  induction fs with
  | nil => intro j f h; simp at h
  | cons x r ih =>
    intro j f h
    cases j with
    | zero =>
      simp only [List.getElem?_cons_zero, Option.some.injEq] at h
      subst h
      simp [flc]
    | succ j =>
      simp only [List.getElem?_cons_succ] at h
      obtain ⟨h1, h2, h3⟩ := ih j f h
      have e : (x :: r).flatMap flc = flc x ++ r.flatMap flc := rfl
      rw [e]
      have hl : (flc x).length = 3 := rfl
      refine ⟨?_, ?_, ?_⟩
      · rw [List.getElem?_append_right (by omega), hl, show (j + 1) * 3 - 3 = j * 3 by omega]; exact h1
      · rw [List.getElem?_append_right (by omega), hl, show (j + 1) * 3 + 1 - 3 = j * 3 + 1 by omega]; exact h2
      · rw [List.getElem?_append_right (by omega), hl, show (j + 1) * 3 + 2 - 3 = j * 3 + 2 by omega]; exact h3

theorem OwnF.below {w w' : World} {base : Nat} {e : TypeId} {v : Value} {fs : List Fl} (h : OwnF w base e v fs) (hb : Below w.heap.size w w') : OwnF w' base e v fs :=
  World.ownsRow.kept (row := none) h ⟨hb.os, hb.tape, hb.output, hb.size, fun k hk _ => hb.block k hk⟩ (by cases hv : v.ownBlock <;> simp)
theorem OwnF.below_at {w w' : World} {base B : Nat} {e : TypeId} {v : Value} {fs : List Fl} (h : OwnF w base e v fs) (hb : Below B w w') (hB : ∀ g, v.ownBlock = some g → g < B) : OwnF w' base e v fs := by
  refine ⟨h.1, ?_⟩
  rcases h.2 with hn | ⟨g, cap, cur, rfl, hbg, hgg, rest⟩
  · exact .inl hn
  · refine .inr ⟨g, cap, cur, rfl, hbg, ?_, rest⟩
    rw [hb.block g (hB g rfl)]
    exact hgg
theorem OwnF.grown {w w' : World} {base : Nat} {e : TypeId} {v : Value} {fs : List Fl} {r : Option Nat} (h : OwnF w base e v fs) (hg : w.grownBy w' r) (hne : ∀ k, v.ownBlock = some k → r ≠ some k) : OwnF w' base e v fs :=
  World.ownsRow.kept h hg (by cases hv : v.ownBlock with
    | none => exact .inl rfl
    | some k => exact .inr (fun e => hne k hv e.symm))
theorem OwnF.alloc {w : World} {base : Nat} {e : TypeId} {v : Value} {fs : List Fl} (h : OwnF w base e v fs) (o : Obj) : OwnF (w.alloc o) base e v fs := World.ownsRow.alloc h o
theorem OwnF.drew {w : World} {base : Nat} {e : TypeId} {v : Value} {fs : List Fl} (h : OwnF w base e v fs) : OwnF w.drew base e v fs := h
theorem OwnF.low {w : World} {base base' : Nat} {e : TypeId} {v : Value} {fs : List Fl} (h : OwnF w base e v fs) (hb : base' ≤ base) : OwnF w base' e v fs := by
  refine ⟨h.1, ?_⟩
  rcases h.2 with hn | ⟨g, cap, cur, rfl, hbg, rest⟩
  · exact .inl hn
  · exact .inr ⟨g, cap, cur, rfl, by omega, rest⟩
theorem OwnF.lt {w : World} {base : Nat} {e : TypeId} {v : Value} {fs : List Fl} (h : OwnF w base e v fs) : ∀ g, v.ownBlock = some g → base ≤ g ∧ g < w.heap.size := World.ownsRow.lt h
theorem OwnF.nil (w : World) (base : Nat) (e : TypeId) : OwnF w base e (.slice none 0 0) [] := World.ownsRow_nil w base e 3

theorem OwnF.rd {w : World} {base : Nat} {e : TypeId} {v : Value} {fs : List Fl} (h : OwnF w base e v fs) : RdF w v fs := by
  rcases h.2 with ⟨h1, h2⟩ | ⟨g, cap, cur, h1, hb, hg, _⟩
  · exact .inl ⟨none, 0, h1, List.eq_nil_of_length_eq_zero h2⟩
  · by_cases hz : fs.length = 0
    · exact .inl ⟨_, cap, by rw [h1, hz], List.eq_nil_of_length_eq_zero hz⟩
    · refine .inr ⟨g, 0, cap, h1, by omega, (Array.getElem?_eq_some_iff.1 hg).1, ?_⟩
      intro j f hj
      have hc := World.ownsRow.cells h (g := g) (by rw [h1]; rfl)
      have hadd : ∀ k, (⟨g, 0, none⟩ : Addr).add k = ⟨g, k, none⟩ := fun k => by unfold Addr.add; split <;> simp_all
      obtain ⟨e1, e2, e3⟩ := flc_get fs j f hj
      have c1 := hc _ _ e1
      have c2 := hc _ _ e2
      have c3 := hc _ _ e3
      rw [hadd] at c1 c2 c3
      exact ⟨by rw [Nat.zero_add]; exact c1, by rw [Nat.zero_add]; exact c2, by rw [Nat.zero_add]; exact c3⟩

theorem OwnF.other {w : World} {base : Nat} {e : TypeId} {v : Value} {fs : List Fl} (h : OwnF w base e v fs) {a : Addr} (ha : a.block < base) (u : Value) : OwnF (w.setCell a u) base e v fs := by
  refine ⟨h.1, ?_⟩
  rcases h.2 with hn | ⟨g, cap, cur, rfl, hbg, hgg, rest⟩
  · exact .inl hn
  · refine .inr ⟨g, cap, cur, rfl, hbg, ?_, rest⟩
    rw [RowKit.Below.heap_setCell _ _ _ _ (by omega)]
    exact hgg

/-- 'out = append(out, f)' on a row of files of the call's own. -/
theorem wp_append_file {P : Program} {W : World} {o : Oper} {a : Act} {K : Act → World → Prop} {Q : Exit → Act → World → Prop} (s x : Operand) (t : TypeId)
    (ho : o.op = .call { callee := .builtin .append, args := #[s, x], argTypes := #[t, t] })
    (base B : Nat) (e : TypeId) (i : TypeInfo) (z : Value) (nb : Nat) (ht : P.underlying t = some (.slice e)) (hi : P.info? e = some i) (hz : i.zero = some z) (hsize : i.size = 3) (hby : i.bytes = nb) (hzs : z.cells.size = 3)
    (v : Value) (fs : List Fl) (hs : a.eval s = v) (hown : OwnF W base e v fs)
    (blk : Nat) (cs : Array Value) (hblk : W.heap[blk]? = some (.cells cs e (0, 0))) (f : Fl) (hcs : cs.toList = flc f) (c : Nat) (hx : a.eval x = .slice (some ⟨blk, 0, none⟩) 1 c)
    (hlen : fs.length ≤ 2000000) (hnb : nb ≤ 1000) (hB : B ≤ base) (hbase : base ≤ W.heap.size) {w00 : World} (hbel : Below B w00 W)
    (h : ∀ v' w', OwnF w' base e v' (fs ++ [f]) → Below B w00 w' → K (a.put o.dst v') w') : o.wp P a W K Q := by
  have hcell : ∀ j u, (flc f)[j]? = some u → W.cell? ((⟨blk, 0, none⟩ : Addr).add j) = some u := by
    intro j u hu
    have hadd : (⟨blk, 0, none⟩ : Addr).add j = ⟨blk, j, none⟩ := by unfold Addr.add; split <;> simp_all
    rw [hadd, cell_of_row W blk j cs e (0, 0) hblk]
    rw [← hcs] at hu
    simpa using hu
  have hmul : (fs.length + 1) * nb ≤ 140737488355328 := Nat.le_trans (Nat.mul_le_mul (show fs.length + 1 ≤ 2000001 by omega) hnb) (by decide)
  refine wp_append_own W s x t ho base e i z 3 nb ht hi hz hsize hby hzs (by decide) v fs.length (fs.flatMap flc) hs hown
    ⟨blk, 0, none⟩ 1 c (flc f) hx rfl hcell (by intro u hu; simp only [flc, List.mem_cons, List.mem_nil_iff, or_false] at hu; rcases hu with rfl | rfl | rfl <;> rfl) (by unfold maxLen; omega) hmul hbase ?_
  intro v' w' h2 h3 _
  refine h v' w' (by unfold OwnF; rw [List.length_append, List.flatMap_append]; simpa using h2) ?_
  refine hbel.grown h3 (by omega) ?_
  intro k hk
  have := (World.ownsRow.lt hown k hk).1
  omega

theorem wpList_append_file {P : Program} {w : World} {ops : Array Oper} {rest : List Oper} {o : Oper} {a : Act} {Q : Exit → Act → World → Prop} (hgd : o.guard = none) (s x : Operand) (t : TypeId)
    (ho : o.op = .call { callee := .builtin .append, args := #[s, x], argTypes := #[t, t] })
    (base B : Nat) (e : TypeId) (i : TypeInfo) (z : Value) (nb : Nat) (ht : P.underlying t = some (.slice e)) (hi : P.info? e = some i) (hz : i.zero = some z) (hsize : i.size = 3) (hby : i.bytes = nb) (hzs : z.cells.size = 3)
    (v : Value) (fs : List Fl) (hs : a.eval s = v) (hown : OwnF w base e v fs)
    (cs : Array Value) (f : Fl) (hcs : cs.toList = flc f) (c : Nat) (hx : a.eval x = .slice (some ⟨w.heap.size, 0, none⟩) 1 c)
    (hlen : fs.length ≤ 2000000) (hnb : nb ≤ 1000) (hB : B ≤ base) (hbase : base ≤ w.heap.size) {w00 : World} (hbel : Below B w00 w)
    (h : ∀ v' w', OwnF w' base e v' (fs ++ [f]) → Below B w00 w' → wpList P ops Q rest (a.put o.dst v') w') :
    wpList P ops Q (o :: rest) a (w.alloc (.cells cs e)) :=
  wpList_plain hgd fun _ hK => wp_append_file s x t ho base B e i z nb ht hi hz hsize hby hzs v fs hs (hown.alloc _) w.heap.size cs (heap_alloc_new w _) f hcs c hx hlen hnb hB (by simp; omega) (hbel.alloc (by omega) _) fun v' w' h2 h3 => hK _ _ (h v' w' h2 h3)

theorem flc_set0 (s : ByteArray) : ∀ (fs : List Fl) (k : Nat) (f : Fl), fs[k]? = some f → (fs.flatMap flc).set (k * 3) (.string s) = (fs.set k { f with nm := s }).flatMap flc
  | [], k, f, h => by simp at h
  | x :: r, 0, f, h => by
    simp only [List.getElem?_cons_zero, Option.some.injEq] at h
    subst h; rfl
  | x :: r, k + 1, f, h => by
    have ih := flc_set0 s r k f (by simpa using h)
    rw [show (k + 1) * 3 = k * 3 + 1 + 1 + 1 by omega]
    show Value.string x.nm :: Value.string x.tx :: Value.int .i64 x.kp :: (r.flatMap flc).set (k * 3) (.string s) = _
    rw [ih]; rfl
theorem flc_set1 (s : ByteArray) : ∀ (fs : List Fl) (k : Nat) (f : Fl), fs[k]? = some f → (fs.flatMap flc).set (k * 3 + 1) (.string s) = (fs.set k { f with tx := s }).flatMap flc
  | [], k, f, h => by simp at h
  | x :: r, 0, f, h => by
    simp only [List.getElem?_cons_zero, Option.some.injEq] at h
    subst h; rfl
  | x :: r, k + 1, f, h => by
    have ih := flc_set1 s r k f (by simpa using h)
    rw [show (k + 1) * 3 + 1 = k * 3 + 1 + 1 + 1 + 1 by omega]
    show Value.string x.nm :: Value.string x.tx :: Value.int .i64 x.kp :: (r.flatMap flc).set (k * 3 + 1) (.string s) = _
    rw [ih]; rfl
theorem flc_set2 (s : Int) : ∀ (fs : List Fl) (k : Nat) (f : Fl), fs[k]? = some f → (fs.flatMap flc).set (k * 3 + 2) (.int .i64 s) = (fs.set k { f with kp := s }).flatMap flc
  | [], k, f, h => by simp at h
  | x :: r, 0, f, h => by
    simp only [List.getElem?_cons_zero, Option.some.injEq] at h
    subst h; rfl
  | x :: r, k + 1, f, h => by
    have ih := flc_set2 s r k f (by simpa using h)
    rw [show (k + 1) * 3 + 2 = k * 3 + 2 + 1 + 1 + 1 by omega]
    show Value.string x.nm :: Value.string x.tx :: Value.int .i64 x.kp :: (r.flatMap flc).set (k * 3 + 2) (.int .i64 s) = _
    rw [ih]; rfl

theorem ownsRow_set {w : World} {base g n c sz : Nat} {e : TypeId} {xs : List Value} (h : w.ownsRow base e sz (.slice (some ⟨g, 0, none⟩) n c) n xs) (k : Nat) (u : Value) :
    (w.setCell ⟨g, k, none⟩ u).ownsRow base e sz (.slice (some ⟨g, 0, none⟩) n c) n (xs.set k u) := by
  refine ⟨by rw [List.length_set]; exact h.1, ?_⟩
  rcases h.2 with ⟨h1, _⟩ | ⟨g', cap, cur, h1, hb, h2, h3, h4, h5, h6⟩
  · cases h1
  · simp only [Value.slice.injEq, Option.some.injEq, Addr.mk.injEq] at h1
    obtain ⟨⟨rfl, _⟩, _, rfl⟩ := h1
    refine .inr ⟨g, c, cur.setIfInBounds k u, rfl, hb, heap_setCell_same w g k cur e u h2, h3, h4, by rw [Array.size_setIfInBounds]; exact h5, ?_⟩
    rw [Array.toList_setIfInBounds, List.take_set, h6]
theorem OwnF.len {w : World} {base n : Nat} {a : Option Addr} {c : Nat} {e : TypeId} {fs : List Fl} (h : OwnF w base e (.slice a n c) fs) : fs.length = n := by
  rcases h.2 with ⟨h1, h2⟩ | ⟨g', cap, cur, h1, _⟩
  · simp only [Value.slice.injEq] at h1; omega
  · simp only [Value.slice.injEq] at h1; exact h1.2.1.symm
theorem OwnF.set0 {w : World} {base g n c : Nat} {e : TypeId} {fs : List Fl} (h : OwnF w base e (.slice (some ⟨g, 0, none⟩) n c) fs) {k : Nat} {f : Fl} (hk : fs[k]? = some f) (s : ByteArray) :
    OwnF (w.setCell ⟨g, k * 3, none⟩ (.string s)) base e (.slice (some ⟨g, 0, none⟩) n c) (fs.set k { f with nm := s }) := by
  have hl := h.len
  unfold OwnF at h ⊢
  rw [List.length_set, ← flc_set0 s fs k f hk]
  rw [hl] at h ⊢
  exact ownsRow_set h _ _
theorem OwnF.set1 {w : World} {base g n c : Nat} {e : TypeId} {fs : List Fl} (h : OwnF w base e (.slice (some ⟨g, 0, none⟩) n c) fs) {k : Nat} {f : Fl} (hk : fs[k]? = some f) (s : ByteArray) :
    OwnF (w.setCell ⟨g, k * 3 + 1, none⟩ (.string s)) base e (.slice (some ⟨g, 0, none⟩) n c) (fs.set k { f with tx := s }) := by
  have hl := h.len
  unfold OwnF at h ⊢
  rw [List.length_set, ← flc_set1 s fs k f hk]
  rw [hl] at h ⊢
  exact ownsRow_set h _ _
theorem OwnF.set2 {w : World} {base g n c : Nat} {e : TypeId} {fs : List Fl} (h : OwnF w base e (.slice (some ⟨g, 0, none⟩) n c) fs) {k : Nat} {f : Fl} (hk : fs[k]? = some f) (s : Int) :
    OwnF (w.setCell ⟨g, k * 3 + 2, none⟩ (.int .i64 s)) base e (.slice (some ⟨g, 0, none⟩) n c) (fs.set k { f with kp := s }) := by
  have hl := h.len
  unfold OwnF at h ⊢
  rw [List.length_set, ← flc_set2 s fs k f hk]
  rw [hl] at h ⊢
  exact ownsRow_set h _ _
theorem set_get {fs : List Fl} {k : Nat} {f : Fl} (h : fs[k]? = some f) (x : Fl) : (fs.set k x)[k]? = some x := by
  rw [List.getElem?_set]
  simp [(List.getElem?_eq_some_iff.1 h).1]
/-- The three cells of one file written. -/
theorem OwnF.set3 {w : World} {base g n c : Nat} {e : TypeId} {fs : List Fl} (h : OwnF w base e (.slice (some ⟨g, 0, none⟩) n c) fs) {k : Nat} (hk : k < n) (x : Fl) :
    OwnF (((w.setCell ⟨g, k * 3, none⟩ (.string x.nm)).setCell ⟨g, k * 3 + 1, none⟩ (.string x.tx)).setCell ⟨g, k * 3 + 2, none⟩ (.int .i64 x.kp)) base e (.slice (some ⟨g, 0, none⟩) n c) (fs.set k x) := by
  have hl := h.len
  have hf := List.getElem?_eq_getElem (show k < fs.length by omega)
  have h1 := h.set0 hf x.nm
  have h2 := h1.set1 (set_get hf _) x.tx
  have h3 := h2.set2 (set_get (set_get hf _) _) x.kp
  rw [List.set_set, List.set_set] at h3
  exact h3
theorem OwnF.rowf {w : World} {base g n c : Nat} {e : TypeId} {fs : List Fl} (h : OwnF w base e (.slice (some ⟨g, 0, none⟩) n c) fs) : ∃ cur, w.heap[g]? = some (.cells cur e (0, 0)) := by
  rcases h.2 with ⟨h1, _⟩ | ⟨g', cap, cur, h1, _, h2, _⟩
  · cases h1
  · simp only [Value.slice.injEq, Option.some.injEq, Addr.mk.injEq] at h1
    obtain ⟨⟨rfl, _⟩, _⟩ := h1
    exact ⟨cur, h2⟩
theorem OwnF.frozen {w : World} {base g n c : Nat} {e : TypeId} {fs : List Fl} (h : OwnF w base e (.slice (some ⟨g, 0, none⟩) n c) fs) (k : Nat) : w.frozen? ⟨g, k, none⟩ = false := by
  obtain ⟨cur, hc⟩ := h.rowf
  exact frozen_of_row w g k cur e hc
theorem OwnF.at {w : World} {base g n c : Nat} {e : TypeId} {fs : List Fl} (h : OwnF w base e (.slice (some ⟨g, 0, none⟩) n c) fs) {k : Nat} {f : Fl} (hf : fs[k]? = some f) : FlAt w g (k * 3) f := by
  have hc := World.ownsRow.cells h (g := g) rfl
  have hadd : ∀ k, (⟨g, 0, none⟩ : Addr).add k = ⟨g, k, none⟩ := fun k => by unfold Addr.add; split <;> simp_all
  obtain ⟨e1, e2, e3⟩ := flc_get fs k _ hf
  have c1 := hc _ _ e1
  have c2 := hc _ _ e2
  have c3 := hc _ _ e3
  rw [hadd] at c1 c2 c3
  exact ⟨c1, c2, c3⟩
theorem OwnF.cells3 {w : World} {base g n c : Nat} {e : TypeId} {fs : List Fl} (h : OwnF w base e (.slice (some ⟨g, 0, none⟩) n c) fs) {k : Nat} (hk : k < n) :
    ∃ f : Fl, fs[k]? = some f ∧ FlAt w g (k * 3) f := by
  have hl := h.len
  have hf := List.getElem?_eq_getElem (show k < fs.length by omega)
  exact ⟨_, hf, h.at hf⟩

def flz : Fl := ⟨ByteArray.empty, ByteArray.empty, 0⟩
theorem madeF (n : Nat) : (madeCells (flv flz).cells (n * 3)).toList = (List.replicate n flz).flatMap flc := by
  have hc : (flv flz).cells = #[.string ByteArray.empty, .string ByteArray.empty, .int .i64 0] := rfl
  rw [hc]
  unfold madeCells
  apply List.ext_getElem?
  intro j
  rw [Array.toList_map, Array.toList_range, List.getElem?_map]
  by_cases hj : j < n * 3
  · rw [List.getElem?_range hj]
    obtain ⟨q, r, rfl, hr⟩ : ∃ q r, j = q * 3 + r ∧ r < 3 := ⟨j / 3, j % 3, by omega, by omega⟩
    have hq : (List.replicate n flz)[q]? = some flz := by rw [List.getElem?_replicate, if_pos (by omega)]
    obtain ⟨e0, e1, e2⟩ := flc_get _ _ _ hq
    have hm : (q * 3 + r) % 3 = r := by omega
    show some (#[Value.string ByteArray.empty, .string ByteArray.empty, .int .i64 0][(q * 3 + r) % 3]!) = _
    rw [hm]
    have hr3 : r = 0 ∨ r = 1 ∨ r = 2 := by omega
    rcases hr3 with rfl | rfl | rfl
    · exact e0.symm
    · exact e1.symm
    · exact e2.symm
  · rw [List.getElem?_eq_none (by simp; omega), List.getElem?_eq_none (by rw [flc_len, List.length_replicate]; omega)]
    rfl
theorem OwnF.made {w : World} {base n : Nat} {e : TypeId} {g : Nat} (h : w.ownsRow base e 3 (.slice (some ⟨g, 0, none⟩) n n) n (madeCells (flv flz).cells (n * 3)).toList) :
    OwnF w base e (.slice (some ⟨g, 0, none⟩) n n) (List.replicate n flz) := by
  rw [madeF] at h
  unfold OwnF
  rw [List.length_replicate]
  exact h
theorem take_fill {fs : List Fl} {k n : Nat} {f : Fl} (hf : fs[k]? = some f) (hn : fs.length = n) :
    (fs.take k ++ List.replicate (n - k) flz).set k f = fs.take (k + 1) ++ List.replicate (n - (k + 1)) flz := by
  have hk : k < fs.length := (List.getElem?_eq_some_iff.1 hf).1
  have hl : (fs.take k).length = k := by rw [List.length_take]; omega
  rw [List.set_append_right _ _ (by omega), hl, Nat.sub_self, show n - k = (n - (k + 1)) + 1 by omega, List.replicate_succ, List.set_cons_zero, List.take_add_one, hf, List.append_assoc]
  rfl
end Go.Proofs.Ytecbpplocokedaa
