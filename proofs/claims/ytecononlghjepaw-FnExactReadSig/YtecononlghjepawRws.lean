/- Laws of no program: a row of rows of numbers that the call itself owns, or that is only read. -/
import Derived.Test.YtecononlghjepawApg
import Derived.Test.YtecononlghjepawPly3
namespace Go.Proofs.Ytecononlghjepaw
open Go.RowKit
/-- A row of the call's own whose values are rows of numbers of the call's own. -/
def OwnR (w : World) (base : Nat) (T I : TypeId) (v : Value) (L : List (List Int)) : Prop :=
  ∃ vs : List Value, OwnV w base T v vs ∧ vs.length = L.length ∧ ∀ (i : Nat) (u : Value) (l : List Int), vs[i]? = some u → L[i]? = some l → OwnV w base I u (l.map iv)
/-- A row that is read, whose values are rows of numbers. -/
def RdR (w : World) (v : Value) (L : List (List Int)) : Prop :=
  ∃ vs : List Value, RdV w v vs ∧ vs.length = L.length ∧ ∀ (i : Nat) (u : Value) (l : List Int), vs[i]? = some u → L[i]? = some l → RdV w u (l.map iv)
theorem OwnR.below {w w' : World} {base : Nat} {T I : TypeId} {v : Value} {L : List (List Int)} (h : OwnR w base T I v L) (hb : Below w.heap.size w w') : OwnR w' base T I v L := by
  obtain ⟨vs, h1, h2, h3⟩ := h
  exact ⟨vs, h1.below hb, h2, fun i u l hu hl => (h3 i u l hu hl).below hb⟩
theorem OwnR.low {w : World} {base base' : Nat} {T I : TypeId} {v : Value} {L : List (List Int)} (h : OwnR w base T I v L) (hb : base' ≤ base) : OwnR w base' T I v L := by
  obtain ⟨vs, h1, h2, h3⟩ := h
  exact ⟨vs, h1.low hb, h2, fun i u l hu hl => (h3 i u l hu hl).low hb⟩
theorem OwnR.rd {w : World} {base : Nat} {T I : TypeId} {v : Value} {L : List (List Int)} (h : OwnR w base T I v L) : RdR w v L := by
  obtain ⟨vs, h1, h2, h3⟩ := h
  exact ⟨vs, h1.rdv, h2, fun i u l hu hl => (h3 i u l hu hl).rdv⟩
theorem RdR.below {w w' : World} {v : Value} {L : List (List Int)} (h : RdR w v L) (hb : Below w.heap.size w w') : RdR w' v L := by
  obtain ⟨vs, h1, h2, h3⟩ := h
  exact ⟨vs, h1.below hb, h2, fun i u l hu hl => (h3 i u l hu hl).below hb⟩
theorem OwnR.made (w : World) (T I : TypeId) : OwnR (w.alloc (.cells #[] T)) w.heap.size T I (.slice (some ⟨w.heap.size, 0, none⟩) 0 0) [] :=
  ⟨[], World.ownsRow_made w #[] 0 (Nat.le_refl _) (by decide) (by simp), rfl, fun i u l hu _ => by simp at hu⟩
theorem OwnR.shape {w : World} {base : Nat} {T I : TypeId} {v : Value} {L : List (List Int)} (h : OwnR w base T I v L) : ∃ a c, v = .slice a L.length c := by
  obtain ⟨vs, h1, h2, _⟩ := h
  rw [← h2]
  exact h1.shape
theorem RdR.shape {w : World} {v : Value} {L : List (List Int)} (h : RdR w v L) : ∃ a c, v = .slice a L.length c := by
  obtain ⟨vs, h1, h2, _⟩ := h
  rw [← h2]
  exact h1.shape
theorem RdR.open {w : World} {v : Value} {L : List (List Int)} (h : RdR w v L) : ∃ a c, v = .slice a L.length c ∧ ∀ (j : Nat) (l : List Int), L[j]? = some l → ∃ g o u, a = some ⟨g, o, none⟩ ∧ g < w.heap.size ∧ w.cell? ⟨g, o + j, none⟩ = some u ∧ RdV w u (l.map iv) := by
  obtain ⟨vs, h1, h2, h3⟩ := h
  obtain ⟨a, c, rfl, hc⟩ := h1.open
  refine ⟨a, c, by rw [h2], fun j l hl => ?_⟩
  have hj : j < vs.length := by rw [h2]; exact (List.getElem?_eq_some_iff.mp hl).1
  obtain ⟨g, o, e1, e2, e3⟩ := hc j _ (List.getElem?_eq_getElem hj)
  exact ⟨g, o, _, e1, e2, e3, h3 j _ l (List.getElem?_eq_getElem hj) hl⟩
/-- A row appended to a row of rows. -/
theorem wpList_append_row {P : Program} {w : World} {ops : Array Oper} {rest : List Oper} {o : Oper} {a : Act} {Q : Exit → Act → World → Prop} (hgd : o.guard = none) (s x : Operand) (t : TypeId)
    (ho : o.op = .call { callee := .builtin .append, args := #[s, x], argTypes := #[t, t] })
    (base : Nat) (T I : TypeId) (hTI : I ≠ T) (i : TypeInfo) (z : Value) (nb : Nat) (ht : P.underlying t = some (.slice T)) (hi : P.info? T = some i) (hz : i.zero = some z) (hsize : i.size = 1) (hby : i.bytes = nb) (hzs : z.cells.size = 1)
    (v : Value) (L : List (List Int)) (hs : a.eval s = v) (hown : OwnR w base T I v L) (u : Value) (l : List Int) (hu : OwnV w base I u (l.map iv)) (hx : a.eval x = .slice (some ⟨w.heap.size, 0, none⟩) 1 1)
    (hlen : L.length ≤ 1000) (hnb : nb ≤ 1000) {w0 : World} {B : Nat} (hB : Below B w0 w) (hBb : B ≤ base) (hbase : base ≤ w.heap.size)
    (h : ∀ v' w', OwnR w' base T I v' (L ++ [l]) → OwnV w' base I u (l.map iv) → Below B w0 w' → wpList P ops Q rest (a.put o.dst v') w') :
    wpList P ops Q (o :: rest) a (w.alloc (.cells #[u] T)) := by
  obtain ⟨vs, h1, h2, h3⟩ := hown
  have h1u : u.oneCell' = true := by
    obtain ⟨a1, c1, rfl⟩ := hu.shape
    rfl
  refine wpList_append_grow hgd s x t ho base T i z nb ht hi hz hsize hby hzs v vs hs h1 u h1u hx (by rw [h2]; unfold maxLen; omega) (by rw [h2]; exact Nat.le_trans (Nat.mul_le_mul (show L.length + 1 ≤ 1001 by omega) hnb) (by decide)) hbase ?_
  intro v' w' ho' hg'
  have hne : ∀ y ys, OwnV w base I y ys → ∀ n, y.ownBlock = some n → v.ownBlock ≠ some n := fun y ys hy n hn => hy.apart h1 hTI n hn
  refine h v' w' ⟨vs ++ [u], ho', by rw [List.length_append, List.length_append, h2]; rfl, fun j y m hy hm => ?_⟩ ((hu.alloc _).grown hg' (hne _ _ hu)) ?_
  · by_cases hj : j < vs.length
    · rw [List.getElem?_append_left hj] at hy
      rw [List.getElem?_append_left (by omega)] at hm
      exact ((h3 j y m hy hm).alloc _).grown hg' (hne y _ (h3 j y m hy hm))
    · have hje : j = vs.length := by
        have := (List.getElem?_eq_some_iff.mp hy).1
        rw [List.length_append] at this
        simp at this
        omega
      subst hje
      rw [List.getElem?_append_right (Nat.le_refl _), Nat.sub_self] at hy
      rw [List.getElem?_append_right (by omega), show vs.length - L.length = 0 by omega] at hm
      have e1 : u = y := by simpa using hy
      have e2 : l = m := by simpa using hm
      subst e1 e2
      exact (hu.alloc _).grown hg' (hne _ _ hu)
  · exact (hB.alloc (Nat.le_trans hBb hbase) (.cells #[u] T)).grown hg' (by simp; omega) (fun n hn => Nat.le_trans hBb (h1.lt n hn).1)
/-- A value appended to a row of the call's own. -/
theorem wpList_append_val {P : Program} {w : World} {ops : Array Oper} {rest : List Oper} {o : Oper} {a : Act} {Q : Exit → Act → World → Prop} (hgd : o.guard = none) (s x : Operand) (t : TypeId)
    (ho : o.op = .call { callee := .builtin .append, args := #[s, x], argTypes := #[t, t] })
    (base : Nat) (T : TypeId) (i : TypeInfo) (z : Value) (nb : Nat) (ht : P.underlying t = some (.slice T)) (hi : P.info? T = some i) (hz : i.zero = some z) (hsize : i.size = 1) (hby : i.bytes = nb) (hzs : z.cells.size = 1)
    (v : Value) (xs : List Value) (hs : a.eval s = v) (hown : OwnV w base T v xs) (u : Value) (h1 : u.oneCell' = true) (hx : a.eval x = .slice (some ⟨w.heap.size, 0, none⟩) 1 1)
    (hlen : xs.length ≤ 1000) (hnb : nb ≤ 1000) {w0 : World} {B : Nat} (hB : Below B w0 w) (hBb : B ≤ base) (hbase : base ≤ w.heap.size)
    (h : ∀ v' w', OwnV w' base T v' (xs ++ [u]) → Below B w0 w' → wpList P ops Q rest (a.put o.dst v') w') :
    wpList P ops Q (o :: rest) a (w.alloc (.cells #[u] T)) := by
  refine wpList_append_grow hgd s x t ho base T i z nb ht hi hz hsize hby hzs v xs hs hown u h1 hx (by unfold maxLen; omega) (Nat.le_trans (Nat.mul_le_mul (show xs.length + 1 ≤ 1001 by omega) hnb) (by decide)) hbase ?_
  intro v' w' ho' hg'
  exact h v' w' ho' ((hB.alloc (Nat.le_trans hBb hbase) (.cells #[u] T)).grown hg' (by simp; omega) (fun n hn => Nat.le_trans hBb (hown.lt n hn).1))
/-- A piece of a row of rows is read. -/
theorem OwnR.cut {w : World} {base g n c : Nat} {T I : TypeId} {L : List (List Int)} (h : OwnR w base T I (.slice (some ⟨g, 0, none⟩) n c) L) (k m c' : Nat) (L' : List (List Int)) (hm : L'.length = m) (h0 : 0 < m) (hL : ∀ (j : Nat) (l : List Int), L'[j]? = some l → L[k + j]? = some l) : RdR w (.slice (some ⟨g, k, none⟩) m c') L' := by
  obtain ⟨vs, h1, h2, h3⟩ := h
  have hkm : k + m ≤ vs.length := by
    have hx : m - 1 < L'.length := by omega
    have := (List.getElem?_eq_some_iff.mp (hL (m - 1) _ (List.getElem?_eq_getElem hx))).1
    omega
  have hg : ∀ (j : Nat) (x : Value), ((vs.drop k).take m)[j]? = some x → vs[k + j]? = some x := fun j x hx => by
    rw [List.getElem?_take] at hx
    split at hx
    · rw [List.getElem?_drop] at hx; exact hx
    · cases hx
  have hl : ((vs.drop k).take m).length = m := by rw [List.length_take, List.length_drop]; omega
  exact ⟨(vs.drop k).take m, .inr ⟨g, k, c', by rw [hl], by omega, (h1.lt g rfl).2, fun j x hx => h1.cell (hg j x hx)⟩, by rw [hl, hm], fun i u l hu hl' => (h3 (k + i) u l (hg i u hu) (hL i l hl')).rdv⟩
theorem OwnR.some {w : World} {base n c : Nat} {a : Option Addr} {T I : TypeId} {L : List (List Int)} (h : OwnR w base T I (.slice a n c) L) (hn : 0 < n) : ∃ g, a = some ⟨g, 0, none⟩ ∧ base ≤ g ∧ g < w.heap.size ∧ L.length ≤ c := by
  obtain ⟨vs, h1, h2, _⟩ := h
  rcases h1.2 with ⟨e, _⟩ | ⟨g, cap, cur, e, hb, hgr, hc, _⟩
  · simp only [Value.slice.injEq] at e; omega
  · simp only [Value.slice.injEq] at e
    obtain ⟨rfl, rfl, rfl⟩ := e
    exact ⟨g, rfl, hb, (Array.getElem?_eq_some_iff.1 hgr).1, by omega⟩
def preR (f : Nat → List Int) (k : Nat) : List (List Int) := (List.range k).map f
theorem preR_len (f : Nat → List Int) (k : Nat) : (preR f k).length = k := by unfold preR; rw [List.length_map, List.length_range]
theorem preR_succ (f : Nat → List Int) (k : Nat) : preR f (k + 1) = preR f k ++ [f k] := by unfold preR; rw [List.range_succ, List.map_append]; rfl
theorem preR_get (f : Nat → List Int) (k i : Nat) (h : i < k) : (preR f k)[i]? = some (f i) := by
  unfold preR
  rw [List.getElem?_map, List.getElem?_range h]
  rfl
end Go.Proofs.Ytecononlghjepaw
