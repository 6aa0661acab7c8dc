/- Laws of no program: an act as four cells, a row of acts that can be read, a row of acts of the call's own. -/
import Derived.Test.YtkaaabpodhgbpaaShelfD
namespace Go.Proofs.Ytkaaabpodhgbpaa
open Go.RowKit

def acc (a : Ac) : List Value := [.int .i64 a.kd, .string a.nm, .string a.tx, .string a.to]
theorem acv_toList (a : Ac) : acv a = .agg (acc a).toArray := rfl

/-- The four cells of an act stand at p. -/
def AcAt (w : World) (g o : Nat) (a : Ac) : Prop :=
  w.cell? ⟨g, o, none⟩ = some (.int .i64 a.kd) ∧ w.cell? ⟨g, o + 1, none⟩ = some (.string a.nm) ∧ w.cell? ⟨g, o + 2, none⟩ = some (.string a.tx) ∧ w.cell? ⟨g, o + 3, none⟩ = some (.string a.to)

/-- The slice value v is a row in which the acts can be read. -/
def RdA (w : World) (v : Value) (as' : List Ac) : Prop :=
  (∃ a c, v = .slice a 0 c ∧ as' = []) ∨ ∃ g o c, v = .slice (some ⟨g, o, none⟩) as'.length c ∧ 0 < as'.length ∧ g < w.heap.size ∧ ∀ j f, as'[j]? = some f → AcAt w g (o + j * 4) f

theorem AcAt.below {w w' : World} {g o : Nat} {f : Ac} (h : AcAt w g o f) {B : Nat} (hb : Below B w w') (hg : g < B) : AcAt w' g o f :=
  ⟨(hb.cell (p := ⟨g, o, none⟩) hg).trans h.1, (hb.cell (p := ⟨g, o + 1, none⟩) hg).trans h.2.1, (hb.cell (p := ⟨g, o + 2, none⟩) hg).trans h.2.2.1, (hb.cell (p := ⟨g, o + 3, none⟩) hg).trans h.2.2.2⟩

theorem RdA.below_at {w w' : World} {v : Value} {fs : List Ac} (h : RdA w v fs) {B : Nat} (hb : Below B w w') (hB : ∀ g, v.ownBlock = some g → g < B) : RdA w' v fs := by
  rcases h with h | ⟨g, o, c, rfl, hn, hg, hc⟩
  · exact .inl h
  · exact .inr ⟨g, o, c, rfl, hn, Nat.lt_of_lt_of_le hg hb.size, fun j f hj => (hc j f hj).below hb (hB g rfl)⟩
theorem RdA.below {w w' : World} {v : Value} {fs : List Ac} (h : RdA w v fs) (hb : Below w.heap.size w w') : RdA w' v fs := by
  rcases h with h | ⟨g, o, c, rfl, hn, hg, hc⟩
  · exact .inl h
  · exact .inr ⟨g, o, c, rfl, hn, Nat.lt_of_lt_of_le hg hb.size, fun j f hj => (hc j f hj).below hb hg⟩
theorem RdA.alloc {w : World} {v : Value} {fs : List Ac} (h : RdA w v fs) (o : Obj) : RdA (w.alloc o) v fs := h.below ((Below.refl _ _).alloc (Nat.le_refl _) _)
theorem RdA.drew {w : World} {v : Value} {fs : List Ac} (h : RdA w v fs) : RdA w.drew v fs := h.below (Below.refl _ _).drew
theorem RdA.shape {w : World} {v : Value} {fs : List Ac} (h : RdA w v fs) : ∃ a c, v = .slice a fs.length c := by
  rcases h with ⟨a, c, rfl, rfl⟩ | ⟨g, o, c, rfl, _⟩
  · exact ⟨_, _, rfl⟩
  · exact ⟨_, _, rfl⟩

theorem RdA.open {w : World} {v : Value} {fs : List Ac} (h : RdA w v fs) : ∃ a c, v = .slice a fs.length c ∧ ∀ j f, fs[j]? = some f → ∃ g o, a = some ⟨g, o, none⟩ ∧ g < w.heap.size ∧ AcAt w g (o + j * 4) f := by
  rcases h with ⟨a, c, rfl, rfl⟩ | ⟨g, o, c, rfl, _, hg, hc⟩
  · exact ⟨a, c, rfl, fun j f hj => by simp at hj⟩
  · exact ⟨_, c, rfl, fun j f hj => ⟨g, o, rfl, hg, hc j f hj⟩⟩


theorem RdA.take {w : World} {v : Value} {as' : List Ac} (h : RdA w v as') (a : Option Addr) (n c m c' : Nat) (hv : v = .slice a n c) (hm : m ≤ as'.length) : RdA w (.slice a m c') (as'.take m) := by
  have hl : (as'.take m).length = m := by rw [List.length_take]; omega
  rcases h with ⟨a', c1, rfl, rfl⟩ | ⟨g, o, c1, rfl, hn, hg, hc⟩
  · simp only [List.length_nil, Nat.le_zero] at hm
    subst hm
    exact .inl ⟨_, _, rfl, rfl⟩
  · simp only [Value.slice.injEq] at hv
    by_cases h0 : m = 0
    · subst h0
      exact .inl ⟨_, _, rfl, by simp⟩
    · refine .inr ⟨g, o, c', by rw [hl, ← hv.1], by omega, hg, fun j f hj => hc j f ?_⟩
      have hjm : j < m := by
        rcases Nat.lt_or_ge j m with h' | h'
        · exact h'
        · rw [List.getElem?_eq_none (by omega)] at hj; cases hj
      rwa [List.getElem?_take, if_pos hjm] at hj

/-- The slice value v is a row of acts of the call's own (blocks from base on). -/
def OwnA (w : World) (base : Nat) (e : TypeId) (v : Value) (fs : List Ac) : Prop := w.ownsRow base e 4 v fs.length (fs.flatMap acc)

theorem acc_len (fs : List Ac) : (fs.flatMap acc).length = fs.length * 4 := by
  induction fs with
  | nil => rfl
  | cons f r ih => rw [List.flatMap_cons, List.length_append, ih]; simp only [acc, List.length_cons, List.length_nil]; omega
theorem acc_get (fs : List Ac) : ∀ (j : Nat) (f : Ac), fs[j]? = some f → (fs.flatMap acc)[j * 4]? = some (.int .i64 f.kd) ∧ (fs.flatMap acc)[j * 4 + 1]? = some (.string f.nm) ∧ (fs.flatMap acc)[j * 4 + 2]? = some (.string f.tx) ∧ (fs.flatMap acc)[j * 4 + 3]? = some (.string f.to) := by
  induction fs with
  | nil => intro j f h; simp at h
  | cons x r ih =>
    intro j f h
    cases j with
    | zero =>
      simp only [List.getElem?_cons_zero, Option.some.injEq] at h
      subst h
      simp [acc]
    | succ j =>
      simp only [List.getElem?_cons_succ] at h
      obtain ⟨h1, h2, h3, h4⟩ := ih j f h
      have e : (x :: r).flatMap acc = acc x ++ r.flatMap acc := rfl
      rw [e]
      have hl : (acc x).length = 4 := rfl
      refine ⟨?_, ?_, ?_, ?_⟩
      · rw [List.getElem?_append_right (by omega), hl, show (j + 1) * 4 - 4 = j * 4 by omega]; exact h1
      · rw [List.getElem?_append_right (by omega), hl, show (j + 1) * 4 + 1 - 4 = j * 4 + 1 by omega]; exact h2
      · rw [List.getElem?_append_right (by omega), hl, show (j + 1) * 4 + 2 - 4 = j * 4 + 2 by omega]; exact h3
      · rw [List.getElem?_append_right (by omega), hl, show (j + 1) * 4 + 3 - 4 = j * 4 + 3 by omega]; exact h4


theorem OwnA.below {w w' : World} {base : Nat} {e : TypeId} {v : Value} {fs : List Ac} (h : OwnA w base e v fs) (hb : Below w.heap.size w w') : OwnA w' base e v fs :=
  World.ownsRow.kept (row := none) h ⟨hb.os, hb.tape, hb.output, hb.size, fun k hk _ => hb.block k hk⟩ (by cases hv : v.ownBlock <;> simp)
theorem OwnA.below_at {w w' : World} {base B : Nat} {e : TypeId} {v : Value} {fs : List Ac} (h : OwnA w base e v fs) (hb : Below B w w') (hB : ∀ g, v.ownBlock = some g → g < B) : OwnA w' base e v fs := by
  refine ⟨h.1, ?_⟩
  rcases h.2 with hn | ⟨g, cap, cur, rfl, hbg, hgg, rest⟩
  · exact .inl hn
  · refine .inr ⟨g, cap, cur, rfl, hbg, ?_, rest⟩
    rw [hb.block g (hB g rfl)]
    exact hgg
theorem OwnA.grown {w w' : World} {base : Nat} {e : TypeId} {v : Value} {fs : List Ac} {r : Option Nat} (h : OwnA w base e v fs) (hg : w.grownBy w' r) (hne : ∀ k, v.ownBlock = some k → r ≠ some k) : OwnA w' base e v fs :=
  World.ownsRow.kept h hg (by cases hv : v.ownBlock with
    | none => exact .inl rfl
    | some k => exact .inr (fun e => hne k hv e.symm))
theorem OwnA.alloc {w : World} {base : Nat} {e : TypeId} {v : Value} {fs : List Ac} (h : OwnA w base e v fs) (o : Obj) : OwnA (w.alloc o) base e v fs := World.ownsRow.alloc h o
theorem OwnA.drew {w : World} {base : Nat} {e : TypeId} {v : Value} {fs : List Ac} (h : OwnA w base e v fs) : OwnA w.drew base e v fs := h
theorem OwnA.low {w : World} {base base' : Nat} {e : TypeId} {v : Value} {fs : List Ac} (h : OwnA w base e v fs) (hb : base' ≤ base) : OwnA w base' e v fs := by
  refine ⟨h.1, ?_⟩
  rcases h.2 with hn | ⟨g, cap, cur, rfl, hbg, rest⟩
  · exact .inl hn
  · exact .inr ⟨g, cap, cur, rfl, by omega, rest⟩
theorem OwnA.lt {w : World} {base : Nat} {e : TypeId} {v : Value} {fs : List Ac} (h : OwnA w base e v fs) : ∀ g, v.ownBlock = some g → base ≤ g ∧ g < w.heap.size := World.ownsRow.lt h
theorem OwnA.nil (w : World) (base : Nat) (e : TypeId) : OwnA w base e (.slice none 0 0) [] := World.ownsRow_nil w base e 4


theorem OwnA.rda {w : World} {base : Nat} {e : TypeId} {v : Value} {fs : List Ac} (h : OwnA w base e v fs) : RdA w v fs := by
  rcases h.2 with ⟨h1, h2⟩ | ⟨g, cap, cur, h1, hb, hg, _⟩
  · exact .inl ⟨none, 0, h1, List.eq_nil_of_length_eq_zero h2⟩
  · by_cases hz : fs.length = 0
    · exact .inl ⟨_, cap, by rw [h1, hz], List.eq_nil_of_length_eq_zero hz⟩
    · refine .inr ⟨g, 0, cap, h1, by omega, (Array.getElem?_eq_some_iff.1 hg).1, ?_⟩
      intro j f hj
      have hc := World.ownsRow.cells h (g := g) (by rw [h1]; rfl)
      have hadd : ∀ k, (⟨g, 0, none⟩ : Addr).add k = ⟨g, k, none⟩ := fun k => by unfold Addr.add; split <;> simp_all
      obtain ⟨e1, e2, e3, e4⟩ := acc_get fs j f hj
      have c1 := hc _ _ e1
      have c2 := hc _ _ e2
      have c3 := hc _ _ e3
      have c4 := hc _ _ e4
      rw [hadd] at c1 c2 c3 c4
      exact ⟨by rw [Nat.zero_add]; exact c1, by rw [Nat.zero_add]; exact c2, by rw [Nat.zero_add]; exact c3, by rw [Nat.zero_add]; exact c4⟩

theorem OwnA.other {w : World} {base : Nat} {e : TypeId} {v : Value} {fs : List Ac} (h : OwnA w base e v fs) {a : Addr} (ha : a.block < base) (u : Value) : OwnA (w.setCell a u) base e v fs := by
  refine ⟨h.1, ?_⟩
  rcases h.2 with hn | ⟨g, cap, cur, rfl, hbg, hgg, rest⟩
  · exact .inl hn
  · refine .inr ⟨g, cap, cur, rfl, hbg, ?_, rest⟩
    rw [RowKit.Below.heap_setCell _ _ _ _ (by omega)]
    exact hgg


theorem acc_set0 (s : Int) : ∀ (fs : List Ac) (k : Nat) (f : Ac), fs[k]? = some f → (fs.flatMap acc).set (k * 4) (.int .i64 s) = (fs.set k { f with kd := s }).flatMap acc
  | [], k, f, h => by simp at h
  | x :: r, 0, f, h => by
    simp only [List.getElem?_cons_zero, Option.some.injEq] at h
    subst h; rfl
  | x :: r, k + 1, f, h => by
    have ih := acc_set0 s r k f (by simpa using h)
    rw [show (k + 1) * 4 = k * 4 + 1 + 1 + 1 + 1 by omega]
    show Value.int .i64 x.kd :: Value.string x.nm :: Value.string x.tx :: Value.string x.to :: (r.flatMap acc).set (k * 4) (.int .i64 s) = _
    rw [ih]; rfl

theorem acc_set1 (s : ByteArray) : ∀ (fs : List Ac) (k : Nat) (f : Ac), fs[k]? = some f → (fs.flatMap acc).set (k * 4 + 1) (.string s) = (fs.set k { f with nm := s }).flatMap acc
  | [], k, f, h => by simp at h
  | x :: r, 0, f, h => by
    simp only [List.getElem?_cons_zero, Option.some.injEq] at h
    subst h; rfl
  | x :: r, k + 1, f, h => by
    have ih := acc_set1 s r k f (by simpa using h)
    rw [show (k + 1) * 4 + 1 = k * 4 + 1 + 1 + 1 + 1 + 1 by omega]
    show Value.int .i64 x.kd :: Value.string x.nm :: Value.string x.tx :: Value.string x.to :: (r.flatMap acc).set (k * 4 + 1) (.string s) = _
    rw [ih]; rfl

theorem acc_set2 (s : ByteArray) : ∀ (fs : List Ac) (k : Nat) (f : Ac), fs[k]? = some f → (fs.flatMap acc).set (k * 4 + 2) (.string s) = (fs.set k { f with tx := s }).flatMap acc
  | [], k, f, h => by simp at h
  | x :: r, 0, f, h => by
    simp only [List.getElem?_cons_zero, Option.some.injEq] at h
    subst h; rfl
  | x :: r, k + 1, f, h => by
    have ih := acc_set2 s r k f (by simpa using h)
    rw [show (k + 1) * 4 + 2 = k * 4 + 2 + 1 + 1 + 1 + 1 by omega]
    show Value.int .i64 x.kd :: Value.string x.nm :: Value.string x.tx :: Value.string x.to :: (r.flatMap acc).set (k * 4 + 2) (.string s) = _
    rw [ih]; rfl

theorem acc_set3 (s : ByteArray) : ∀ (fs : List Ac) (k : Nat) (f : Ac), fs[k]? = some f → (fs.flatMap acc).set (k * 4 + 3) (.string s) = (fs.set k { f with to := s }).flatMap acc
  | [], k, f, h => by simp at h
  | x :: r, 0, f, h => by
    simp only [List.getElem?_cons_zero, Option.some.injEq] at h
    subst h; rfl
  | x :: r, k + 1, f, h => by
    have ih := acc_set3 s r k f (by simpa using h)
    rw [show (k + 1) * 4 + 3 = k * 4 + 3 + 1 + 1 + 1 + 1 by omega]
    show Value.int .i64 x.kd :: Value.string x.nm :: Value.string x.tx :: Value.string x.to :: (r.flatMap acc).set (k * 4 + 3) (.string s) = _
    rw [ih]; rfl

theorem OwnA.len {w : World} {base n : Nat} {a : Option Addr} {c : Nat} {e : TypeId} {fs : List Ac} (h : OwnA w base e (.slice a n c) fs) : fs.length = n := by
  rcases h.2 with ⟨h1, h2⟩ | ⟨g', cap, cur, h1, _⟩
  · simp only [Value.slice.injEq] at h1; omega
  · simp only [Value.slice.injEq] at h1; exact h1.2.1.symm

theorem OwnA.set0 {w : World} {base g n c : Nat} {e : TypeId} {fs : List Ac} (h : OwnA w base e (.slice (some ⟨g, 0, none⟩) n c) fs) {k : Nat} {f : Ac} (hk : fs[k]? = some f) (s : Int) :
    OwnA (w.setCell ⟨g, k * 4, none⟩ (.int .i64 s)) base e (.slice (some ⟨g, 0, none⟩) n c) (fs.set k { f with kd := s }) := by
  have hl := h.len
  unfold OwnA at h ⊢
  rw [List.length_set, ← acc_set0 s fs k f hk]
  rw [hl] at h ⊢
  exact ownsRow_set h _ _

theorem OwnA.set1 {w : World} {base g n c : Nat} {e : TypeId} {fs : List Ac} (h : OwnA w base e (.slice (some ⟨g, 0, none⟩) n c) fs) {k : Nat} {f : Ac} (hk : fs[k]? = some f) (s : ByteArray) :
    OwnA (w.setCell ⟨g, k * 4 + 1, none⟩ (.string s)) base e (.slice (some ⟨g, 0, none⟩) n c) (fs.set k { f with nm := s }) := by
  have hl := h.len
  unfold OwnA at h ⊢
  rw [List.length_set, ← acc_set1 s fs k f hk]
  rw [hl] at h ⊢
  exact ownsRow_set h _ _

theorem OwnA.set2 {w : World} {base g n c : Nat} {e : TypeId} {fs : List Ac} (h : OwnA w base e (.slice (some ⟨g, 0, none⟩) n c) fs) {k : Nat} {f : Ac} (hk : fs[k]? = some f) (s : ByteArray) :
    OwnA (w.setCell ⟨g, k * 4 + 2, none⟩ (.string s)) base e (.slice (some ⟨g, 0, none⟩) n c) (fs.set k { f with tx := s }) := by
  have hl := h.len
  unfold OwnA at h ⊢
  rw [List.length_set, ← acc_set2 s fs k f hk]
  rw [hl] at h ⊢
  exact ownsRow_set h _ _

theorem OwnA.set3 {w : World} {base g n c : Nat} {e : TypeId} {fs : List Ac} (h : OwnA w base e (.slice (some ⟨g, 0, none⟩) n c) fs) {k : Nat} {f : Ac} (hk : fs[k]? = some f) (s : ByteArray) :
    OwnA (w.setCell ⟨g, k * 4 + 3, none⟩ (.string s)) base e (.slice (some ⟨g, 0, none⟩) n c) (fs.set k { f with to := s }) := by
  have hl := h.len
  unfold OwnA at h ⊢
  rw [List.length_set, ← acc_set3 s fs k f hk]
  rw [hl] at h ⊢
  exact ownsRow_set h _ _

theorem set_getA {fs : List Ac} {k : Nat} {f : Ac} (h : fs[k]? = some f) (x : Ac) : (fs.set k x)[k]? = some x := by
  rw [List.getElem?_set]
  simp [(List.getElem?_eq_some_iff.1 h).1]
/-- The four cells of one act written. -/
theorem OwnA.set4 {w : World} {base g n c : Nat} {e : TypeId} {fs : List Ac} (h : OwnA w base e (.slice (some ⟨g, 0, none⟩) n c) fs) {k : Nat} (hk : k < n) (x : Ac) :
    OwnA ((((w.setCell ⟨g, k * 4, none⟩ (.int .i64 x.kd)).setCell ⟨g, k * 4 + 1, none⟩ (.string x.nm)).setCell ⟨g, k * 4 + 2, none⟩ (.string x.tx)).setCell ⟨g, k * 4 + 3, none⟩ (.string x.to)) base e (.slice (some ⟨g, 0, none⟩) n c) (fs.set k x) := by
  have hl := h.len
  have hf := List.getElem?_eq_getElem (show k < fs.length by omega)
  have h0 := h.set0 hf x.kd
  have h1 := h0.set1 (set_getA hf _) x.nm
  have h2 := h1.set2 (set_getA (set_getA hf _) _) x.tx
  have h3 := h2.set3 (set_getA (set_getA (set_getA hf _) _) _) x.to
  rw [List.set_set, List.set_set, List.set_set] at h3
  exact h3

theorem OwnA.rowf {w : World} {base g n c : Nat} {e : TypeId} {fs : List Ac} (h : OwnA w base e (.slice (some ⟨g, 0, none⟩) n c) fs) : ∃ cur, w.heap[g]? = some (.cells cur e (0, 0)) := by
  rcases h.2 with ⟨h1, _⟩ | ⟨g', cap, cur, h1, _, h2, _⟩
  · cases h1
  · simp only [Value.slice.injEq, Option.some.injEq, Addr.mk.injEq] at h1
    obtain ⟨⟨rfl, _⟩, _⟩ := h1
    exact ⟨cur, h2⟩
theorem OwnA.frozen {w : World} {base g n c : Nat} {e : TypeId} {fs : List Ac} (h : OwnA w base e (.slice (some ⟨g, 0, none⟩) n c) fs) (k : Nat) : w.frozen? ⟨g, k, none⟩ = false := by
  obtain ⟨cur, hc⟩ := h.rowf
  exact frozen_of_row w g k cur e hc

theorem OwnA.at {w : World} {base g n c : Nat} {e : TypeId} {fs : List Ac} (h : OwnA w base e (.slice (some ⟨g, 0, none⟩) n c) fs) {k : Nat} {f : Ac} (hf : fs[k]? = some f) : AcAt w g (k * 4) f := by
  have hc := World.ownsRow.cells h (g := g) rfl
  have hadd : ∀ k, (⟨g, 0, none⟩ : Addr).add k = ⟨g, k, none⟩ := fun k => by unfold Addr.add; split <;> simp_all
  obtain ⟨e1, e2, e3, e4⟩ := acc_get fs k _ hf
  have c1 := hc _ _ e1
  have c2 := hc _ _ e2
  have c3 := hc _ _ e3
  have c4 := hc _ _ e4
  rw [hadd] at c1 c2 c3 c4
  exact ⟨c1, c2, c3, c4⟩
theorem OwnA.cells4 {w : World} {base g n c : Nat} {e : TypeId} {fs : List Ac} (h : OwnA w base e (.slice (some ⟨g, 0, none⟩) n c) fs) {k : Nat} (hk : k < n) :
    ∃ f : Ac, fs[k]? = some f ∧ AcAt w g (k * 4) f := by
  have hl := h.len
  have hf := List.getElem?_eq_getElem (show k < fs.length by omega)
  exact ⟨_, hf, h.at hf⟩

def acz : Ac := ⟨0, ByteArray.empty, ByteArray.empty, ByteArray.empty⟩
theorem madeA (n : Nat) : (madeCells (acv acz).cells (n * 4)).toList = (List.replicate n acz).flatMap acc := by
  have hc : (acv acz).cells = #[.int .i64 0, .string ByteArray.empty, .string ByteArray.empty, .string ByteArray.empty] := rfl
  rw [hc]
  unfold madeCells
  apply List.ext_getElem?
  intro j
  rw [Array.toList_map, Array.toList_range, List.getElem?_map]
  by_cases hj : j < n * 4
  · rw [List.getElem?_range hj]
    obtain ⟨q, r, rfl, hr⟩ : ∃ q r, j = q * 4 + r ∧ r < 4 := ⟨j / 4, j % 4, by omega, by omega⟩
    have hq : (List.replicate n acz)[q]? = some acz := by rw [List.getElem?_replicate, if_pos (by omega)]
    obtain ⟨e0, e1, e2, e3⟩ := acc_get _ _ _ hq
    have hm : (q * 4 + r) % 4 = r := by omega
    show some (#[Value.int .i64 0, .string ByteArray.empty, .string ByteArray.empty, .string ByteArray.empty][(q * 4 + r) % 4]!) = _
    rw [hm]
    have hr3 : r = 0 ∨ r = 1 ∨ r = 2 ∨ r = 3 := by omega
    rcases hr3 with rfl | rfl | rfl | rfl
    · exact e0.symm
    · exact e1.symm
    · exact e2.symm
    · exact e3.symm
  · rw [List.getElem?_eq_none (by simp; omega), List.getElem?_eq_none (by rw [acc_len, List.length_replicate]; omega)]
    rfl
theorem OwnA.made {w : World} {base n : Nat} {e : TypeId} {g : Nat} (h : w.ownsRow base e 4 (.slice (some ⟨g, 0, none⟩) n n) n (madeCells (acv acz).cells (n * 4)).toList) :
    OwnA w base e (.slice (some ⟨g, 0, none⟩) n n) (List.replicate n acz) := by
  rw [madeA] at h
  unfold OwnA
  rw [List.length_replicate]
  exact h
theorem take_fillA {fs : List Ac} {k n : Nat} {f : Ac} (hf : fs[k]? = some f) (hn : fs.length = n) :
    (fs.take k ++ List.replicate (n - k) acz).set k f = fs.take (k + 1) ++ List.replicate (n - (k + 1)) acz := by
  have hk : k < fs.length := (List.getElem?_eq_some_iff.1 hf).1
  have hl : (fs.take k).length = k := by rw [List.length_take]; omega
  rw [List.set_append_right _ _ (by omega), hl, Nat.sub_self, show n - k = (n - (k + 1)) + 1 by omega, List.replicate_succ, List.set_cons_zero, List.take_add_one, hf, List.append_assoc]
  rfl
end Go.Proofs.Ytkaaabpodhgbpaa
