/- Merged: Rwo, ArgBk, Shlr, Tsz, Dec, Hex, Decimal, MarkT, Tmk, Bkh. -/
import Derived.Test.YtoacaennpddoeaaMgBookNew1
import Derived.Test.YtoacaennpddoeaaMgBookNew2
import Derived.Test.YtoacaennpddoeaaMgBookNew3
import Derived.Test.YtoacaennpddoeaaMgBookNew4
import Derived.Test.YtoacaennpddoeaaMgBookNew5
import Derived.Laws.Rows
import Derived.Laws.Tables
import Derived.Laws.CopyOwn
import Derived.Laws.CopyRow
import Derived.Deep.Slices
import Derived.ChangeSame
import Derived.Lib.SmallJoins
import Derived.Shelf.Strings.Builder1
import Derived.Shelf.Strings.Builder2
import Derived.Shelf.Strings.BuilderF
import Derived.Shelf.LaysM
import Derived.Shelf.Strconv.Clone
import Derived.Shelf.Strings.Prefix
import Derived.Shelf.Bits.Mul64
import Derived.Shelf.Strings.Repeat
import Derived.Test.YtoacaennpddoeaaProg
import Derived.Test.YtoacaennpddoeaaChecked
import Derived.Deep.RegionWith
import Derived.Deep.RegionLaw
import Derived.Deep.RegionHeld3
import Derived.Deep.DeepCutAuto
/- Laws of no program: rows of values of several cells each: one of them loaded whole, stored whole, one cell of one of them set; a row of zeros; appends inside a region that draws. -/
namespace Go.Proofs.Ytoacaennpddoeaa
open Go.RowKit
/-- Of a world only what is named is kept. -/
theorem wp_gen {P : Program} {c : Code} {Q : Exit → Act → World → Prop} {a : Act} {w : World} (Pr : World → Prop) (h : Pr w) (K : ∀ W, Pr W → Code.wp P c Q a W) : Code.wp P c Q a w := K w h
theorem calls_gen {P : Program} {F : FuncId} {args : Array Value} {R : Ending → World → Prop} {w : World} (Pr : World → Prop) (h : Pr w) (K : ∀ W, Pr W → Calls P F args W R) : Calls P F args w R := K w h
theorem wpList_gen {P : Program} {ops : Array Oper} {rest : List Oper} {a : Act} {Q : Exit → Act → World → Prop} {w : World} (Pr : World → Prop) (h : Pr w) (K : ∀ W, Pr W → wpList P ops Q rest a W) : wpList P ops Q rest a w := K w h
section
variable {α : Type} {L : Lay α}
theorem addr_addN (g o j : Nat) : (⟨g, o, none⟩ : Addr).add j = ⟨g, o + j, none⟩ := by unfold Addr.add; split <;> simp_all
theorem flat_set (L : Lay α) (j : Nat) (u : Value) : ∀ (xs : List α) (k : Nat) (x y : α), xs[k]? = some x → L.c y = (L.c x).set j u → j < L.m → (xs.flatMap L.c).set (k * L.m + j) u = (xs.set k y).flatMap L.c
  | [], k, x, y, h, _, _ => by simp at h
  | z :: r, 0, x, y, h, hy, hj => by
    simp only [List.getElem?_cons_zero, Option.some.injEq] at h
    subst h
    rw [Nat.zero_mul, Nat.zero_add, List.set_cons_zero, List.flatMap_cons, List.flatMap_cons, hy]
    rw [List.set_append_left _ _ (by rw [L.len]; exact hj)]
  | z :: r, k + 1, x, y, h, hy, hj => by
    have ih := flat_set L j u r k x y (by simpa using h) hy hj
    rw [List.set_cons_succ, List.flatMap_cons, List.flatMap_cons, ← ih]
    rw [List.set_append_right _ _ (by rw [L.len, Nat.succ_mul]; omega), L.len, show (k + 1) * L.m + j - L.m = k * L.m + j by rw [Nat.succ_mul]; omega]
theorem OwnN.set1 {w : World} {base g n c : Nat} {e : TypeId} {xs : List α} (h : OwnN L w base e (.slice (some ⟨g, 0, none⟩) n c) xs) {k : Nat} {x : α} (hk : xs[k]? = some x) (y : α) (j : Nat) (u : Value) (hj : j < L.m) (hy : L.c y = (L.c x).set j u) :
    OwnN L (w.setCell ⟨g, k * L.m + j, none⟩ u) base e (.slice (some ⟨g, 0, none⟩) n c) (xs.set k y) := by
  have hl := h.len
  unfold OwnN at h ⊢
  rw [List.length_set, ← flat_set L j u xs k x y hk hy hj]
  rw [hl] at h ⊢
  exact ownsRow_set h _ _
theorem set_getN {xs : List α} {k : Nat} {f : α} (h : xs[k]? = some f) (x : α) : (xs.set k x)[k]? = some x := by
  rw [List.getElem?_set]
  simp [(List.getElem?_eq_some_iff.1 h).1]
/-- What stands behind a store of several cells into a block at o. -/
def putC (l vs : List Value) (o : Nat) : List Value := l.take o ++ vs ++ l.drop (o + vs.length)
theorem flat_put (L : Lay α) : ∀ (xs : List α) (k : Nat) (y : α), k < xs.length → putC (xs.flatMap L.c) (L.c y) (k * L.m) = (xs.set k y).flatMap L.c
  | [], k, y, h => by simp at h
  | z :: r, 0, y, _ => by
    unfold putC
    rw [Nat.zero_mul, Nat.zero_add, List.take_zero, List.nil_append, List.set_cons_zero, List.flatMap_cons, List.flatMap_cons]
    rw [List.drop_append_of_le_length (by rw [L.len, L.len]; exact Nat.le_refl _)]
    rw [show (L.c z).drop (L.c y).length = [] from List.drop_of_length_le (by rw [L.len, L.len]; exact Nat.le_refl _), List.nil_append]
  | z :: r, k + 1, y, h => by
    have ih := flat_put L r k y (by simpa using h)
    unfold putC at ih ⊢
    rw [List.set_cons_succ, List.flatMap_cons, List.flatMap_cons, ← ih]
    have hz := L.len z
    have hy := L.len y
    rw [List.take_append, List.drop_append, List.take_of_length_le (by rw [hz, Nat.succ_mul]; omega), List.drop_of_length_le (by rw [hz, hy, Nat.succ_mul]; omega)]
    rw [hz, show (k + 1) * L.m - L.m = k * L.m by rw [Nat.succ_mul]; omega, show (k + 1) * L.m + (L.c y).length - L.m = k * L.m + (L.c y).length by rw [Nat.succ_mul]; omega]
    simp
theorem ownsRow_put {w : World} {base g n c : Nat} {e : TypeId} {xs : List α} (h : OwnN L w base e (.slice (some ⟨g, 0, none⟩) n c) xs) {k : Nat} (hk : k < n) (y : α) :
    ∃ cur, w.heap[g]? = some (.cells cur e (0, 0)) ∧ k * L.m + L.m ≤ cur.size ∧ OwnN L (w.setRow g (putC cur.toList (L.c y) (k * L.m)).toArray) base e (.slice (some ⟨g, 0, none⟩) n c) (xs.set k y) := by
  have hl := h.len
  unfold OwnN at h
  rcases h.2 with ⟨h1, _⟩ | ⟨g', cap, cur, h1, hb, h2, h3, h4, h5, h6⟩
  · cases h1
  · simp only [Value.slice.injEq, Option.some.injEq, Addr.mk.injEq] at h1
    obtain ⟨⟨rfl, _⟩, _, rfl⟩ := h1
    have hkm : k * L.m + L.m ≤ n * L.m := by rw [← Nat.succ_mul]; exact Nat.mul_le_mul_right _ hk
    have hnc : n * L.m ≤ cur.size := by rw [h5]; exact Nat.mul_le_mul_right _ (by omega)
    refine ⟨cur, h2, Nat.le_trans hkm hnc, ?_⟩
    unfold OwnN
    have hy := L.len y
    have hpl : (putC cur.toList (L.c y) (k * L.m)).length = cur.size := by
      unfold putC
      rw [List.length_append, List.length_append, List.length_take, List.length_drop, hy, Array.length_toList]
      omega
    have hcut : (putC cur.toList (L.c y) (k * L.m)).take (n * L.m) = (xs.set k y).flatMap L.c := by
      rw [← flat_put L xs k y (by omega)]
      have e6 : xs.flatMap L.c = cur.toList.take (n * L.m) := by rw [← hl]; exact h6.symm
      rw [e6]
      unfold putC
      rw [List.take_append, List.take_append]
      rw [List.length_append, List.length_take, hy, Array.length_toList, show min (k * L.m) cur.size = k * L.m by omega]
      rw [List.take_of_length_le (l := List.take (k * L.m) cur.toList) (by rw [List.length_take]; omega)]
      rw [List.take_of_length_le (l := L.c y) (by rw [hy]; omega)]
      rw [List.take_take, show min (k * L.m) (n * L.m) = k * L.m by omega, List.drop_take]
    refine ⟨by rw [lay_len, List.length_set], .inr ⟨g, c, (putC cur.toList (L.c y) (k * L.m)).toArray, ?_, hb, setRow_heap _ g _ _ e (0, 0) h2, by rw [List.length_set]; exact h3, h4, by rw [List.size_toArray, hpl]; exact h5, ?_⟩⟩
    · rw [List.length_set, hl]
    · rw [List.length_set, hl]; exact hcut
/-- A value of several cells loaded whole out of a place where it lies. -/
theorem run_loadVar_n {P : Program} (w : World) (g o : Nat) (ty : TypeId) (x : α) (hA : AtN L w g o x) (fs : Array Field) (hu : P.underlying ty = some (.struct fs)) (hi : (P.info? ty).map (·.size) = some L.m) :
    (loadVar ty ⟨g, o, none⟩).run P w = .ok (.agg (L.c x).toArray) w := by
  have hl : (loadCells ⟨g, o, none⟩ (L.c x).length).run P w = .ok (L.c x).toArray w :=
    run_loadCells_list (P := P) w ⟨g, o, none⟩ _ (fun j v hv => by rw [addr_addN]; exact hA j v hv)
  cases hq : P.info? ty with
  | none => simp [hq] at hi
  | some i =>
    have hs : i.size = L.m := by simpa [hq] using hi
    have hagg : (isAgg ty).run P w = .ok true w := by
      unfold isAgg
      rw [Sem.run_bind, run_underlying hu w]
      rfl
    rw [L.len] at hl
    simp [loadVar, Sem.run_bind, hagg, sizeOf, typeInfo, hq, hs, hl]
theorem run_load_n {P : Program} (w : World) (g o : Nat) (ty : TypeId) (x : α) (hA : AtN L w g o x) (fs : Array Field) (hu : P.underlying ty = some (.struct fs)) (hi : (P.info? ty).map (·.size) = some L.m) :
    (Instr.loadAt ty (.pointer (some ⟨g, o, none⟩))).run P w = .ok (.agg (L.c x).toArray) w := by
  simp only [Instr.loadAt, Instr.sureAddr, Sem.run_bind, Sem.run_pure, Result.andThen_ok, run_loadVar_n w g o ty x hA fs hu hi]
theorem wpList_load_n {P : Program} {ops : Array Oper} {rest : List Oper} {q : Oper} {a : Act} {w : World} {Q : Exit → Act → World → Prop} (hgd : q.guard = none) (ty : TypeId) (p : Operand) (ho : q.op = .load ty p)
    (g o : Nat) (hx : a.eval p = .pointer (some ⟨g, o, none⟩)) (x : α) (hA : AtN L w g o x) (fs : Array Field) (hu : P.underlying ty = some (.struct fs)) (hi : (P.info? ty).map (·.size) = some L.m)
    (h : wpList P ops Q rest (a.put q.dst (.agg (L.c x).toArray)) w) : wpList P ops Q (q :: rest) a w := by
  refine wpList_plain hgd fun _ hK => ?_
  unfold Oper.wp execOp
  simp only [ho, hx, Instr.loadAt, Instr.sureAddr, Sem.run_bind, Sem.run_pure, Result.andThen_ok, run_loadVar_n w g o ty x hA fs hu hi]
  exact hK _ _ h
theorem wpList_store_n {P : Program} {ops : Array Oper} {rest : List Oper} {q : Oper} {a : Act} {w : World} {Q : Exit → Act → World → Prop} (hgd : q.guard = none) (ty : TypeId) (p z : Operand) (ho : q.op = .store ty p z)
    {base g n c k : Nat} {e : TypeId} {xs : List α} (hx : a.eval p = .pointer (some ⟨g, k * L.m, none⟩)) (y : α) (hy : a.eval z = .agg (L.c y).toArray) (hown : OwnN L w base e (.slice (some ⟨g, 0, none⟩) n c) xs) (hk : k < n) (hi : (P.info? ty).map (·.size) = some L.m)
    (h : ∀ w', OwnN L w' base e (.slice (some ⟨g, 0, none⟩) n c) (xs.set k y) → w.grownBy w' (some g) → w'.heap.size = w.heap.size → wpList P ops Q rest (a.put q.dst undef) w') : wpList P ops Q (q :: rest) a w := by
  obtain ⟨cur, h2, hle, h3⟩ := ownsRow_put hown hk y
  have hst := run_storeCells_at P g (k * L.m) e (L.c y) 0 cur w h2 (by rw [L.len]; omega) (fun v hv => L.one y v hv)
  rw [show k * L.m + 0 = k * L.m from rfl, show cur.toList.take (k * L.m) ++ L.c y ++ cur.toList.drop (k * L.m + (L.c y).length) = putC cur.toList (L.c y) (k * L.m) from rfl] at hst
  have hG : w.grownBy (w.setRow g (putC cur.toList (L.c y) (k * L.m)).toArray) (some g) := by
    refine ⟨rfl, rfl, rfl, ?_, fun j hj hne => Go.setRow_other w g j _ (fun e => hne (by rw [e]))⟩
    have := Go.setRow_size w g (putC cur.toList (L.c y) (k * L.m)).toArray
    omega
  have hS : (w.setRow g (putC cur.toList (L.c y) (k * L.m)).toArray).heap.size = w.heap.size := Go.setRow_size w g _
  refine wpList_plain hgd fun _ hK => ?_
  unfold Oper.wp execOp
  cases hq : P.info? ty with
  | none => simp [hq] at hi
  | some i =>
    have hs : i.size = L.m := by simpa [hq] using hi
    have hst' : (storeVar ty ⟨g, k * L.m, none⟩ (.agg (L.c y).toArray)).run P w = .ok () (w.setRow g (putC cur.toList (L.c y) (k * L.m)).toArray) := by
      simp [storeVar, sizeOf, typeInfo, hq, Value.cells, hs, L.len, hst]
    simp only [ho, hx, hy, Instr.storeAt, Instr.sureAddr, Sem.run_bind, Sem.run_pure, Result.andThen_ok, hst']
    exact hK _ _ (h _ h3 hG hS)
theorem OwnN.below_at {w w' : World} {base B : Nat} {e : TypeId} {v : Value} {xs : List α} (h : OwnN L w base e v xs) (hb : Below B w w') (hB : ∀ g, v.ownBlock = some g → g < B) : OwnN L w' base e v xs := by
  refine ⟨h.1, ?_⟩
  rcases h.2 with hn | ⟨g, cap, cur, rfl, hbg, hgg, rest⟩
  · exact .inl hn
  · refine .inr ⟨g, cap, cur, rfl, hbg, ?_, rest⟩
    rw [hb.block g (hB g rfl)]
    exact hgg
/-- An older block is laid anew: the row stands. -/
theorem OwnN.setRow {w : World} {base g : Nat} {e : TypeId} {v : Value} {xs : List α} (h : OwnN L w base e v xs) (hg : g < base) (cs : Array Value) : OwnN L (w.setRow g cs) base e v xs := by
  refine ⟨h.1, ?_⟩
  rcases h.2 with hn | ⟨g', cap, cur, rfl, hbg, hgg, rest⟩
  · exact .inl hn
  · refine .inr ⟨g', cap, cur, rfl, hbg, ?_, rest⟩
    rw [Go.setRow_other w g g' cs (by omega)]
    exact hgg
theorem OwnN.open {w : World} {base : Nat} {e : TypeId} {v : Value} {xs : List α} (h : OwnN L w base e v xs) : (xs = [] ∧ ∃ a c, v = .slice a 0 c) ∨ ∃ g c, v = .slice (some ⟨g, 0, none⟩) xs.length c ∧ base ≤ g ∧ g < w.heap.size := by
  rcases h.2 with ⟨h1, h2⟩ | ⟨g, cap, cur, h1, hb, hg, _⟩
  · exact .inl ⟨List.eq_nil_of_length_eq_zero h2, none, 0, h1⟩
  · exact .inr ⟨g, cap, h1, hb, (Array.getElem?_eq_some_iff.1 hg).1⟩
theorem madeN (L : Lay α) (z : Value) (x : α) (hz : z.cells = (L.c x).toArray) (n : Nat) : (madeCells z.cells (n * L.m)).toList = (List.replicate n x).flatMap L.c := by
  rw [hz]
  unfold madeCells
  apply List.ext_getElem?
  intro j
  rw [Array.toList_map, Array.toList_range, List.getElem?_map]
  by_cases hj : j < n * L.m
  · rw [List.getElem?_range hj]
    have hq : j / L.m < n := (Nat.div_lt_iff_lt_mul L.pos).2 hj
    have hr : j % L.m < L.m := Nat.mod_lt _ L.pos
    have hx : (List.replicate n x)[j / L.m]? = some x := by rw [List.getElem?_replicate, if_pos hq]
    have hu := List.getElem?_eq_getElem (show j % L.m < (L.c x).length by rw [L.len]; exact hr)
    have h2 := lay_get (L := L) _ _ _ hx _ _ hu
    have e : j / L.m * L.m + j % L.m = j := by rw [Nat.mul_comm]; exact Nat.div_add_mod j L.m
    rw [e] at h2
    rw [h2, Option.map_some]
    have hs : (L.c x).toArray.size = L.m := by rw [List.size_toArray, L.len]
    rw [hs]
    congr 1
    rw [getElem!_pos _ _ (by rw [hs]; exact hr)]
    simp
  · rw [List.getElem?_eq_none (by simp; omega), List.getElem?_eq_none (by rw [lay_len, List.length_replicate]; omega)]
    rfl
theorem OwnN.made {w : World} {base n : Nat} {e : TypeId} {g : Nat} {z : Value} (x : α) (hz : z.cells = (L.c x).toArray) (h : w.ownsRow base e L.m (.slice (some ⟨g, 0, none⟩) n n) n (madeCells z.cells (n * L.m)).toList) :
    OwnN L w base e (.slice (some ⟨g, 0, none⟩) n n) (List.replicate n x) := by
  rw [madeN L z x hz] at h
  unfold OwnN
  rw [List.length_replicate]
  exact h
theorem take_fillN {xs : List α} {k n : Nat} {f z : α} (hf : xs[k]? = some f) (hn : xs.length = n) :
    (xs.take k ++ List.replicate (n - k) z).set k f = xs.take (k + 1) ++ List.replicate (n - (k + 1)) z := by
  have hk : k < xs.length := (List.getElem?_eq_some_iff.1 hf).1
  have hl : (xs.take k).length = k := by rw [List.length_take]; omega
  rw [List.set_append_right _ _ (by omega), hl, Nat.sub_self, show n - k = (n - (k + 1)) + 1 by omega, List.replicate_succ, List.set_cons_zero, List.take_add_one, hf, List.append_assoc]
  rfl
/-- 'out = append(out, x)' inside a region that draws its order, or outside one. -/
theorem wp_append_m {P : Program} {W : World} {o : Oper} {a : Act} {K : Act → World → Prop} {Q : Exit → Act → World → Prop} (s x : Operand) (t : TypeId)
    (ho : o.op = .call { callee := .builtin .append, args := #[s, x], argTypes := #[t, t] })
    (base B : Nat) (e : TypeId) (i : TypeInfo) (z : Value) (nb : Nat) (ht : P.underlying t = some (.slice e)) (hi : P.info? e = some i) (hz : i.zero = some z) (hsize : i.size = L.m) (hby : i.bytes = nb) (hzs : z.cells.size = L.m)
    (v : Value) (xs : List α) (hs : a.eval s = v) (hown : OwnN L W base e v xs)
    (blk : Nat) (cs : Array Value) (hblk : W.heap[blk]? = some (.cells cs e (0, 0))) (f : α) (hcs : cs.toList = L.c f) (c : Nat) (hx : a.eval x = .slice (some ⟨blk, 0, none⟩) 1 c)
    (n : Nat) (hfn : xs.length = n) (hlen : n ≤ 2000000) (hnb : nb ≤ 1000) (hB : B ≤ base) (hbase : base ≤ W.heap.size) {w00 : World} (hbel : Below B w00 W)
    (h : ∀ a' c' w', OwnN L w' base e (.slice a' (n + 1) c') (xs ++ [f]) → Below B w00 w' → (∀ k, k < W.heap.size → v.ownBlock ≠ some k → w'.heap[k]? = W.heap[k]?) → W.heap.size ≤ w'.heap.size → K (a.put o.dst (.slice a' (n + 1) c')) w') : o.wp P a W K Q := by
  subst hfn
  have hcell : ∀ j u, (L.c f)[j]? = some u → W.cell? ((⟨blk, 0, none⟩ : Addr).add j) = some u := by
    intro j u hu
    rw [addr_addN, Nat.zero_add, cell_of_row W blk j cs e (0, 0) hblk]
    rw [← hcs] at hu
    simpa using hu
  have hmul : (xs.length + 1) * nb ≤ 140737488355328 := Nat.le_trans (Nat.mul_le_mul (show xs.length + 1 ≤ 2000001 by omega) hnb) (by decide)
  refine wp_append_own W s x t ho base e i z L.m nb ht hi hz hsize hby hzs L.pos v xs.length (xs.flatMap L.c) hs hown
    ⟨blk, 0, none⟩ 1 c (L.c f) hx (by rw [L.len, Nat.one_mul]) hcell (L.one f) (by unfold maxLen; omega) hmul hbase ?_
  intro v' w' h2 h3 _
  have h2' : OwnN L w' base e v' (xs ++ [f]) := by unfold OwnN; rw [List.length_append, List.flatMap_append]; simpa using h2
  obtain ⟨a', c', rfl⟩ := h2'.shape
  rw [List.length_append] at h2' ⊢
  refine h a' c' w' h2' (hbel.grown h3 (by omega) ?_) (fun k hk hne => h3.block k hk (fun e => hne e.symm)) h3.size
  intro k hk
  have := (World.ownsRow.lt hown k hk).1
  omega
theorem wpList_append_m {P : Program} {W : World} {ops : Array Oper} {rest : List Oper} {o : Oper} {a : Act} {Q : Exit → Act → World → Prop} (hgd : o.guard = none) (s x : Operand) (t : TypeId)
    (ho : o.op = .call { callee := .builtin .append, args := #[s, x], argTypes := #[t, t] })
    (base B : Nat) (e : TypeId) (i : TypeInfo) (z : Value) (nb : Nat) (ht : P.underlying t = some (.slice e)) (hi : P.info? e = some i) (hz : i.zero = some z) (hsize : i.size = L.m) (hby : i.bytes = nb) (hzs : z.cells.size = L.m)
    (v : Value) (xs : List α) (hs : a.eval s = v) (hown : OwnN L W base e v xs)
    (blk : Nat) (cs : Array Value) (hblk : W.heap[blk]? = some (.cells cs e (0, 0))) (f : α) (hcs : cs.toList = L.c f) (c : Nat) (hx : a.eval x = .slice (some ⟨blk, 0, none⟩) 1 c)
    (n : Nat) (hfn : xs.length = n) (hlen : n ≤ 2000000) (hnb : nb ≤ 1000) (hB : B ≤ base) (hbase : base ≤ W.heap.size) {w00 : World} (hbel : Below B w00 W)
    (h : ∀ a' c' w', OwnN L w' base e (.slice a' (n + 1) c') (xs ++ [f]) → Below B w00 w' → (∀ k, k < W.heap.size → v.ownBlock ≠ some k → w'.heap[k]? = W.heap[k]?) → W.heap.size ≤ w'.heap.size → wpList P ops Q rest (a.put o.dst (.slice a' (n + 1) c')) w') :
    wpList P ops Q (o :: rest) a W :=
  wpList_plain hgd fun _ hK => wp_append_m s x t ho base B e i z nb ht hi hz hsize hby hzs v xs hs hown blk cs hblk f hcs c hx n hfn hlen hnb hB hbase hbel fun a' c' w' h2 h3 h4 h5 => hK _ _ (h a' c' w' h2 h3 h4 h5)
theorem step_append_m {P : Program} {W : World} {ops : Array Oper} {o : Oper} {a : Act} {K : Act → World → Prop} {Q : Exit → Act → World → Prop} {E : Prop} (hg : o.guard = none) (s x : Operand) (t : TypeId)
    (ho : o.op = .call { callee := .builtin .append, args := #[s, x], argTypes := #[t, t] })
    (base B : Nat) (e : TypeId) (i : TypeInfo) (z : Value) (nb : Nat) (ht : P.underlying t = some (.slice e)) (hi : P.info? e = some i) (hz : i.zero = some z) (hsize : i.size = L.m) (hby : i.bytes = nb) (hzs : z.cells.size = L.m)
    (v : Value) (xs : List α) (hs : a.eval s = v) (hown : OwnN L W base e v xs)
    (blk : Nat) (cs : Array Value) (hblk : W.heap[blk]? = some (.cells cs e (0, 0))) (f : α) (hcs : cs.toList = L.c f) (c : Nat) (hx : a.eval x = .slice (some ⟨blk, 0, none⟩) 1 c)
    (n : Nat) (hfn : xs.length = n) (hlen : n ≤ 2000000) (hnb : nb ≤ 1000) (hB : B ≤ base) (hbase : base ≤ W.heap.size) {w00 : World} (hbel : Below B w00 W)
    (h : ∀ a' c' w', OwnN L w' base e (.slice a' (n + 1) c') (xs ++ [f]) → Below B w00 w' → (∀ k, k < W.heap.size → v.ownBlock ≠ some k → w'.heap[k]? = W.heap[k]?) → W.heap.size ≤ w'.heap.size → K (a.put o.dst (.slice a' (n + 1) c')) w') :
    if Region.wanted o (yielded ops a.tmps) = true then Oper.wp P o a W K Q else E := by
  have hw : Region.wanted o (yielded ops a.tmps) = true := by simp [Region.wanted, hg]
  rw [if_pos hw]
  exact wp_append_m s x t ho base B e i z nb ht hi hz hsize hby hzs v xs hs hown blk cs hblk f hcs c hx n hfn hlen hnb hB hbase hbel h
theorem flat_at {w : World} {g o : Nat} {xs : List α} (h : ∀ j x, xs[j]? = some x → AtN L w g (o + j * L.m) x) (j : Nat) (u : Value) (hj : (xs.flatMap L.c)[j]? = some u) : w.cell? ⟨g, o + j, none⟩ = some u := by
  have hlt : j < xs.length * L.m := by rw [← lay_len (L := L)]; exact (List.getElem?_eq_some_iff.1 hj).1
  have hq : j / L.m < xs.length := (Nat.div_lt_iff_lt_mul L.pos).2 hlt
  have hr : j % L.m < L.m := Nat.mod_lt _ L.pos
  have hx := List.getElem?_eq_getElem hq
  have hu := List.getElem?_eq_getElem (show j % L.m < (L.c xs[j / L.m]).length by rw [L.len]; exact hr)
  have e : j / L.m * L.m + j % L.m = j := by rw [Nat.mul_comm]; exact Nat.div_add_mod j L.m
  have h2 := lay_get (L := L) xs _ _ hx _ _ hu
  rw [e, hj] at h2
  have h1 := h _ _ hx _ _ hu
  rw [Nat.add_assoc, e] at h1
  rw [h1, h2]
theorem flat_one (xs : List α) : ∀ u ∈ xs.flatMap L.c, u.oneCell' = true := by
  intro u hu
  obtain ⟨f, _, hf⟩ := List.mem_flatMap.1 hu
  exact L.one f u hf
theorem run_append_noneN {P : Program} {w : World} (base : Nat) (t ty e : TypeId) (i : TypeInfo) (size c : Nat) (ht : P.underlying t = some (.slice e)) (hi : P.info? e = some i)
    (v : Value) (n : Nat) (xs : List Value) (hown : w.ownsRow base e size v n xs) :
    (Builtin.append_ #[t, t] ty #[v, .slice none 0 c]).run P w = .ok v w := by
  rcases hown.2 with ⟨rfl, rfl⟩ | ⟨g, cap, cur, rfl, _, _, hnc, _⟩
  · simp [Builtin.append_, run_underlying ht, sizeOf, typeInfo, hi, Builtin.lenOf, Builtin.firstCells]
  · simp [Builtin.append_, run_underlying ht, sizeOf, typeInfo, hi, Builtin.lenOf, Builtin.firstCells, hnc, storeCells]
/-- 'append(out, row...)': a row that can be read behind a row of the call's own. -/
theorem wp_append_rd {P : Program} {W : World} {o : Oper} {a : Act} {K : Act → World → Prop} {Q : Exit → Act → World → Prop} (s x : Operand) (t : TypeId)
    (ho : o.op = .call { callee := .builtin .append, args := #[s, x], argTypes := #[t, t] })
    (base B : Nat) (e : TypeId) (i : TypeInfo) (z : Value) (nb : Nat) (ht : P.underlying t = some (.slice e)) (hi : P.info? e = some i) (hz : i.zero = some z) (hsize : i.size = L.m) (hby : i.bytes = nb) (hzs : z.cells.size = L.m)
    (v : Value) (ys : List α) (hs : a.eval s = v) (hown : OwnN L W base e v ys) (u : Value) (xs : List α) (hx : a.eval x = u) (hu : RdN L W u xs)
    (n : Nat) (hfn : ys.length + xs.length = n) (hlen : n ≤ 2000000) (hnb : nb ≤ 1000) (hB : B ≤ base) (hbase : base ≤ W.heap.size) {w00 : World} (hbel : Below B w00 W)
    (h : ∀ a' c' w', OwnN L w' base e (.slice a' n c') (ys ++ xs) → Below B w00 w' → W.grownBy w' v.ownBlock → K (a.put o.dst (.slice a' n c')) w') : o.wp P a W K Q := by
  subst hfn
  obtain ⟨a0, c0, rfl⟩ := hu.shape
  cases a0 with
  | none =>
    have hxs : xs = [] := by
      rcases hu with ⟨_, _, _, h⟩ | ⟨g, o', c', h, _⟩
      · exact h
      · simp at h
    subst hxs
    have hr := run_append_noneN (P := P) base t o.type e i L.m c0 ht hi v ys.length (ys.flatMap L.c) hown
    obtain ⟨a1, c1, rfl⟩ := hown.shape
    unfold Oper.wp execOp
    simp only [List.length_nil] at hx
    simp only [ho, resolve, invoke, builtin, Sem.run_bind, Sem.run_pure, Result.andThen_ok, List.map_toArray, List.map_cons, List.map_nil, hs, hx, hr]
    have h2 := h a1 c1 W (by rw [List.append_nil]; exact hown) hbel (gR _ _)
    exact h2
  | some ad =>
    have hcell : ∀ j u, (xs.flatMap L.c)[j]? = some u → W.cell? (ad.add j) = some u := by
      intro j u hj
      rcases hu with ⟨a', c', h1, h2⟩ | ⟨g, o', c', h1, _, _, h3⟩
      · subst h2
        simp at hj
      · simp only [Value.slice.injEq, Option.some.injEq] at h1
        rw [h1.1, addr_addN]
        exact flat_at h3 j u hj
    have hmul : (ys.length + xs.length) * nb ≤ 140737488355328 := Nat.le_trans (Nat.mul_le_mul hlen hnb) (by decide)
    refine wp_append_own W s x t ho base e i z L.m nb ht hi hz hsize hby hzs L.pos v ys.length (ys.flatMap L.c) hs hown
      ad xs.length c0 (xs.flatMap L.c) hx (lay_len xs) hcell (flat_one xs) (by unfold maxLen; omega) hmul hbase ?_
    intro v' w' h2 h3 _
    have h2' : OwnN L w' base e v' (ys ++ xs) := by unfold OwnN; rw [List.length_append, List.flatMap_append]; exact h2
    obtain ⟨a', c', rfl⟩ := h2'.shape
    rw [List.length_append] at h2' ⊢
    refine h a' c' w' h2' (hbel.grown h3 (by omega) ?_) h3
    intro k hk
    have := (World.ownsRow.lt hown k hk).1
    omega
theorem wpList_append_rd {P : Program} {W : World} {ops : Array Oper} {rest : List Oper} {o : Oper} {a : Act} {Q : Exit → Act → World → Prop} (hgd : o.guard = none) (s x : Operand) (t : TypeId)
    (ho : o.op = .call { callee := .builtin .append, args := #[s, x], argTypes := #[t, t] })
    (base B : Nat) (e : TypeId) (i : TypeInfo) (z : Value) (nb : Nat) (ht : P.underlying t = some (.slice e)) (hi : P.info? e = some i) (hz : i.zero = some z) (hsize : i.size = L.m) (hby : i.bytes = nb) (hzs : z.cells.size = L.m)
    (v : Value) (ys : List α) (hs : a.eval s = v) (hown : OwnN L W base e v ys) (u : Value) (xs : List α) (hx : a.eval x = u) (hu : RdN L W u xs)
    (n : Nat) (hfn : ys.length + xs.length = n) (hlen : n ≤ 2000000) (hnb : nb ≤ 1000) (hB : B ≤ base) (hbase : base ≤ W.heap.size) {w00 : World} (hbel : Below B w00 W)
    (h : ∀ a' c' w', OwnN L w' base e (.slice a' n c') (ys ++ xs) → Below B w00 w' → W.grownBy w' v.ownBlock → wpList P ops Q rest (a.put o.dst (.slice a' n c')) w') :
    wpList P ops Q (o :: rest) a W :=
  wpList_plain hgd fun _ hK => wp_append_rd s x t ho base B e i z nb ht hi hz hsize hby hzs v ys hs hown u xs hx hu n hfn hlen hnb hB hbase hbel fun a' c' w' h2 h3 h4 => hK _ _ (h a' c' w' h2 h3 h4)
theorem OwnN.lit0 (w : World) (base : Nat) (e : TypeId) (hb : base ≤ w.heap.size) : OwnN L (w.alloc (.cells #[] e)) base e (.slice (some ⟨w.heap.size, 0, none⟩) 0 0) [] :=
  World.ownsRow_made w #[] 0 hb (by decide) (by simp)
end
end Go.Proofs.Ytoacaennpddoeaa

/- Books, records and rows of them that come in as arguments. -/
namespace Go.Proofs.Ytoacaennpddoeaa
open Go.ChangeShapes Go.WideShapes Go.ChangeAt Go.RowKit Go.WideElems
theorem lt_of_cellB {w : World} {g o : Nat} {u : Value} (h : w.cell? ⟨g, o, none⟩ = some u) : g < w.heap.size := by
  rcases Nat.lt_or_ge g w.heap.size with hg | hg
  · exact hg
  · exfalso
    simp [World.cell?, Array.getElem?_eq_none hg] at h
theorem open_n_gen {α : Type} (L : Lay α) (ok : α → Prop) (z : α) {H : Type} {enc : TypeId × Value → H} {P : Program} {W : World} {spare : Nat → Bool} {held : Bool} {t e : TypeId} {n : Nat} {u : Value} {x : DataW H × List MemPlace} (ht : P.underlying t = some (.slice e)) (ce : P.cellsOf e = L.m)
    (hfile : ∀ k cs y, DataW.trod enc P W 0 spare held k e cs = some y → ∃ f : α, cs = L.c f ∧ ok f)
    (g0 : DataW.trod enc P W 0 spare held n t [u] = some x) :
    ∃ fs : List α, RdN L W u fs ∧ fs.length ≤ maxLen ∧ ∀ f ∈ fs, ok f := by
  rcases Go.Deep.open_slice ht g0 with ⟨hcs, hx⟩ | ⟨a, len, cap, m, n, D, Pl, hcs, _, hl, hm, hmm, hx, hcell⟩
  · simp only [List.cons.injEq, and_true] at hcs
    exact ⟨[], .inl ⟨none, 0, hcs, rfl⟩, by simp, fun f hf => by cases hf⟩
  · simp only [List.cons.injEq, and_true] at hcs
    have hlm : len ≤ m := by rw [hmm]; split <;> omega
    have each : ∀ i, i < len → ∃ f : α, ok f ∧ ∀ j v, (L.c f)[j]? = some v → W.cell? (a.add (i * L.m + j)) = some v := by
      intro i hi
      obtain ⟨cs', h1, h2⟩ := hcell i (by omega)
      obtain ⟨f, rfl, hok⟩ := hfile _ _ _ h2
      rw [ce] at h1
      obtain ⟨_, _, hc⟩ := World.cells?_some h1
      refine ⟨f, hok, fun j v hv => ?_⟩
      have hj : j < L.m := by rw [← L.len f]; exact (List.getElem?_eq_some_iff.1 hv).1
      have e0 := hc j hj
      rw [Go.Deep.add_add] at e0
      rw [e0]
      exact hv
    haveI : Inhabited α := ⟨z⟩
    obtain ⟨F, hF⟩ := Go.Deep.choose_lt each
    by_cases hz : len = 0
    · subst hz
      exact ⟨[], .inl ⟨_, cap, hcs, rfl⟩, by simp, fun f hf => by cases hf⟩
    · obtain ⟨g, o, spot⟩ := a
      have hp0 : 0 < (L.c (F 0)).length := by rw [L.len]; exact L.pos
      have hc0 := (hF 0 (by omega)).2 0 _ (List.getElem?_eq_getElem hp0)
      have hspot : spot = none := by simpa [Addr.add] using World.cell?_spot hc0
      subst hspot
      have hg : g < W.heap.size := by
        rw [add_plain] at hc0
        exact lt_of_cellB hc0
      refine ⟨(List.range len).map F, .inr ⟨g, o, cap, by simpa using hcs, by simp; omega, hg, ?_⟩, by simp; omega, ?_⟩
      · intro j f hj
        rw [List.getElem?_map] at hj
        have hjl : j < len := by
          rcases Nat.lt_or_ge j len with h | h
          · exact h
          · rw [List.getElem?_eq_none (by simpa using h)] at hj; cases hj
        rw [List.getElem?_range hjl] at hj
        simp only [Option.map_some, Option.some.injEq] at hj
        subst hj
        intro i u hu
        have e0 := (hF j hjl).2 i u hu
        rw [add_plain] at e0
        rw [Nat.add_assoc]
        exact e0
      · intro f hf
        obtain ⟨j, hj, rfl⟩ := List.mem_map.1 hf
        exact (hF j (List.mem_range.1 hj)).1
theorem list6 {α : Type} {l : List α} (h : l.length = 6) : ∃ a b c d e f, l = [a, b, c, d, e, f] := by
  match l, h with
  | [a, b, c, d, e, f], _ => exact ⟨a, b, c, d, e, f, rfl⟩
theorem list4B {α : Type} {l : List α} (h : l.length = 4) : ∃ a b c d, l = [a, b, c, d] := by
  match l, h with
  | [a, b, c, d], _ => exact ⟨a, b, c, d, rfl⟩
theorem list11 {α : Type} {l : List α} (h : l.length = 11) : ∃ x y z m, l = x :: y :: z :: m ∧ m.length = 8 := by
  match l, h with
  | x :: y :: z :: m, h => exact ⟨x, y, z, m, rfl, by simpa using h⟩
theorem cellsThingB : Try.prog.cellsOf 54 = 8 := by kernel_rfl
theorem cellsThingSB : Try.prog.cellsOf 48 = 1 := by kernel_rfl
theorem cellsIntB : Try.prog.cellsOf 3 = 1 := by kernel_rfl
theorem cellsStrB : Try.prog.cellsOf 9 = 1 := by kernel_rfl
theorem cellsBookB : Try.prog.cellsOf 50 = 6 := by kernel_rfl
/-- What a book that comes in reads as: how large its texts may be. -/
def BkIn (b : Bk) : Prop := b.wd.size ≤ maxLen ∧ b.ch.size ≤ maxLen ∧ b.ths.length ≤ maxLen ∧ ∀ x ∈ b.ths, x.val.size ≤ maxLen
set_option maxRecDepth 20000 in
theorem open_book {H : Type} {enc : TypeId × Value → H} {W : World} {base : Nat} {v : Value} {d : DataW H} {ps : List MemPlace} (hv : Value.okWide Try.prog W .any base 50 v)
    (h : DataW.Trod enc Try.prog W 0 (fun _ => true) true 50 v d ps) : ∃ b : Bk, RdBk W v b ∧ BkIn b := by
  obtain ⟨cs, rfl, hsz⟩ := okWide_struct Try.underlying50 hv
  obtain ⟨fuel, hf⟩ := h
  obtain ⟨xs, n, _, _, hl, hlen, hf⟩ := DataW.trod_struct Try.underlying50 hf
  rw [cellsBookB] at hl
  simp only [Value.cells] at hl hf
  obtain ⟨v0, v1, v2, v3, v4, v5, hcs⟩ := list6 hl
  obtain ⟨y0, y1, y2, y3, y4, y5, rfl⟩ := list6 hlen
  rw [hcs] at hf
  have g0 : DataW.trod enc Try.prog W 0 (fun _ => true) true n 9 [v0] = some y0 := by simpa [cellsStrB] using hf 0 _ rfl
  have g1 : DataW.trod enc Try.prog W 0 (fun _ => true) true n 3 [v1] = some y1 := by simpa [cellsIntB] using hf 1 _ rfl
  have g2 : DataW.trod enc Try.prog W 0 (fun _ => true) true n 48 [v2] = some y2 := by simpa [cellsThingSB] using hf 2 _ rfl
  have g3 : DataW.trod enc Try.prog W 0 (fun _ => true) true n 3 [v3] = some y3 := by simpa [cellsIntB] using hf 3 _ rfl
  have g4 : DataW.trod enc Try.prog W 0 (fun _ => true) true n 9 [v4] = some y4 := by simpa [cellsStrB] using hf 4 _ rfl
  have g5 : DataW.trod enc Try.prog W 0 (fun _ => true) true n 3 [v5] = some y5 := by simpa [cellsIntB] using hf 5 _ rfl
  obtain ⟨x0, e0, _, w0⟩ := DataW.trod_string Try.underlying9 g0
  obtain ⟨x1, e1, _, _⟩ := DataW.trod_int Try.underlying3 g1
  obtain ⟨fs, hr, hn, hz⟩ := open_n_gen thY (fun x => x.val.size ≤ maxLen) thZ Try.underlying48 cellsThingB (fun k cs y hk => thing_at (enc := enc) (W := W) (spare := fun _ => true) (held := true) k cs y hk) g2
  obtain ⟨x3, e3, _, _⟩ := DataW.trod_int Try.underlying3 g3
  obtain ⟨x4, e4, _, w4⟩ := DataW.trod_string Try.underlying9 g4
  obtain ⟨x5, e5, _, _⟩ := DataW.trod_int Try.underlying3 g5
  simp only [List.cons.injEq, and_true] at e0 e1 e3 e4 e5
  subst e0 e1 e3 e4 e5
  refine ⟨⟨x0, x1, fs, x3, x4, x5⟩, ⟨v2, ?_, hr⟩, w0, w4, hn, hz⟩
  have e : cs.toList = [.string x0, .int .i64 x1, v2, .int .i64 x3, .string x4, .int .i64 x5] := hcs
  obtain ⟨l⟩ := cs
  simp only at e
  rw [e]
  rfl
theorem cellsRecB : Try.prog.cellsOf 56 = 11 := by kernel_rfl
theorem cellsThingB9 : Try.prog.cellsOf 54 = 8 := by kernel_rfl
theorem cellsIntB9 : Try.prog.cellsOf 3 = 1 := by kernel_rfl
theorem cellsStrB9 : Try.prog.cellsOf 9 = 1 := by kernel_rfl
def RcIn (r : Rc) : Prop := r.tx.size ≤ maxLen ∧ r.th.val.size ≤ maxLen
theorem array8 (x : Th) : (thC x).toList = [.int .i64 x.id, .int .i64 x.kind, .bool x.hid, .bool x.fix, .bool x.sgn, .bool x.wrp, .string x.val, .int .i64 x.nxt] := rfl
set_option maxRecDepth 20000 in
theorem rec_at {H : Type} {enc : TypeId × Value → H} {W : World} {spare : Nat → Bool} {held : Bool} (k : Nat) (cs : List Value) (y : DataW H × List MemPlace) (h : DataW.trod enc Try.prog W 0 spare held k 56 cs = some y) : ∃ r : Rc, cs = (rcC r).toList ∧ RcIn r := by
  obtain ⟨xs, n, _, rfl, hl, hlen, hf⟩ := DataW.trod_struct Try.underlying56 h
  rw [cellsRecB] at hl
  obtain ⟨v0, v1, v2, m, rfl, hm⟩ := list11 hl
  obtain ⟨y0, y1, y2, y3, rfl⟩ := list4B hlen
  have g0 : DataW.trod enc Try.prog W 0 spare held n 3 [v0] = some y0 := by simpa [cellsIntB9] using hf 0 _ rfl
  have g1 : DataW.trod enc Try.prog W 0 spare held n 9 [v1] = some y1 := by simpa [cellsStrB9] using hf 1 _ rfl
  have g2 : DataW.trod enc Try.prog W 0 spare held n 3 [v2] = some y2 := by simpa [cellsIntB9] using hf 2 _ rfl
  have g3 : DataW.trod enc Try.prog W 0 spare held n 54 m = some y3 := by
    have := hf 3 _ rfl
    simpa [cellsThingB9, List.take_of_length_le (Nat.le_of_eq hm)] using this
  obtain ⟨x0, e0, _, _⟩ := DataW.trod_int Try.underlying3 g0
  obtain ⟨x1, e1, _, w1⟩ := DataW.trod_string Try.underlying9 g1
  obtain ⟨x2, e2, _, _⟩ := DataW.trod_int Try.underlying3 g2
  obtain ⟨x, hx, hok⟩ := thing_at _ _ _ g3
  simp only [List.cons.injEq, and_true] at e0 e1 e2
  subst e0 e1 e2
  exact ⟨⟨x0, x1, x2, x⟩, by rw [hx]; rfl, w1, hok⟩
set_option maxRecDepth 20000 in
theorem open_rec {H : Type} {enc : TypeId × Value → H} {W : World} {base : Nat} {v : Value} {d : DataW H} {ps : List MemPlace} (hv : Value.okWide Try.prog W .any base 56 v)
    (h : DataW.Trod enc Try.prog W 0 (fun _ => true) true 56 v d ps) : ∃ r : Rc, v = .agg (rcC r) ∧ RcIn r := by
  obtain ⟨cs, rfl, hsz⟩ := okWide_struct Try.underlying56 hv
  obtain ⟨fuel, hf⟩ := h
  obtain ⟨x, hx, hok⟩ := rec_at _ _ _ hf
  refine ⟨x, ?_, hok⟩
  have e : cs.toList = (rcC x).toList := by simpa [Value.cells] using hx
  rw [Array.toList_inj.1 e]
end Go.Proofs.Ytoacaennpddoeaa

/- The library's functions that this seat's program calls, each by its contract, at this program's own numbers (laid by the shelf's own tools). -/
namespace Go.Proofs
open Go.Shelf
def Try.lays105_ren : Go.Shelf.Ren := ⟨fun | 105 => 61 | 212 => 97 | 99 => 98 | 165 => 99 | 166 => 100 | 170 => 101 | 169 => 102 | 263 => 128 | 264 => 129 | 206 => 130 | 240 => 131 | 241 => 132 | 276 => 143 | 277 => 144 | n => n, fun | 9 => 9 | 3 => 3 | 4 => 4 | 20 => 20 | 0 => 0 | 46 => 123 | 109 => 124 | 5 => 5 | 72 => 129 | 76 => 133 | 51 => 111 | 146 => 158 | 53 => 160 | 148 => 161 | 70 => 127 | 37 => 22 | 75 => 132 | 127 => 163 | 164 => 173 | 80 => 136 | n => n, fun | n => n⟩
theorem Try.lays105 : Go.Proofs.Lays.n105 Try.prog Try.lays105_ren := {
  mixed := by kernel_rfl
  f99 := Try.func98.trans (congrArg some (by kernel_rfl))
  f105 := Try.func61.trans (congrArg some (by kernel_rfl))
  f165 := Try.func99.trans (congrArg some (by kernel_rfl))
  f166 := Try.func100.trans (congrArg some (by kernel_rfl))
  f169 := Try.func102.trans (congrArg some (by kernel_rfl))
  f170 := Try.func101.trans (congrArg some (by kernel_rfl))
  f206 := Try.func130.trans (congrArg some (by kernel_rfl))
  f212 := Try.func97.trans (congrArg some (by kernel_rfl))
  f240 := Try.func131.trans (congrArg some (by kernel_rfl))
  f241 := Try.func132.trans (congrArg some (by kernel_rfl))
  f263 := Try.func128.trans (congrArg some (by kernel_rfl))
  f264 := Try.func129.trans (congrArg some (by kernel_rfl))
  f276 := Try.func143.trans (congrArg some (by kernel_rfl))
  f277 := Try.func144.trans (congrArg some (by kernel_rfl))
  t0 := Try.underlying0
  a0 := Try.isAgg0
  z0 := Try.sizeOf0
  v0 := Try.zeroValue0
  t3 := Try.underlying3
  a3 := Try.isAgg3
  z3 := Try.sizeOf3
  v3 := Try.zeroValue3
  t4 := Try.underlying4
  a4 := Try.isAgg4
  z4 := Try.sizeOf4
  v4 := Try.zeroValue4
  t5 := Try.underlying5
  a5 := Try.isAgg5
  z5 := Try.sizeOf5
  v5 := Try.zeroValue5
  t9 := Try.underlying9
  a9 := Try.isAgg9
  z9 := Try.sizeOf9
  v9 := Try.zeroValue9
  t20 := Try.underlying20
  a20 := Try.isAgg20
  z20 := Try.sizeOf20
  v20 := Try.zeroValue20
  t37 := Try.underlying22
  a37 := Try.isAgg22
  z37 := Try.sizeOf22
  v37 := Try.zeroValue22
  t46 := Try.underlying123
  a46 := Try.isAgg123
  z46 := Try.sizeOf123
  v46 := Try.zeroValue123
  t51 := Try.underlying111
  a51 := Try.isAgg111
  z51 := Try.sizeOf111
  v51 := Try.zeroValue111
  t53 := Try.underlying160
  a53 := Try.isAgg160
  z53 := Try.sizeOf160
  v53 := Try.zeroValue160
  t70 := Try.underlying127
  a70 := Try.isAgg127
  z70 := Try.sizeOf127
  v70 := Try.zeroValue127
  t72 := Try.underlying129
  a72 := Try.isAgg129
  z72 := Try.sizeOf129
  v72 := Try.zeroValue129
  t75 := Try.underlying132
  a75 := Try.isAgg132
  z75 := Try.sizeOf132
  v75 := Try.zeroValue132
  t76 := Try.underlying133
  a76 := Try.isAgg133
  z76 := Try.sizeOf133
  v76 := Try.zeroValue133
  t109 := Try.underlying124
  a109 := Try.isAgg124
  z109 := Try.sizeOf124
  v109 := Try.zeroValue124
  t127 := Try.underlying163
  a127 := Try.isAgg163
  z127 := Try.sizeOf163
  v127 := Try.zeroValue163
  t146 := Try.underlying158
  a146 := Try.isAgg158
  z146 := Try.sizeOf158
  v146 := Try.zeroValue158
  t148 := Try.underlying161
  a148 := Try.isAgg161
  z148 := Try.sizeOf161
  v148 := Try.zeroValue161
  t164 := Try.underlying173
  a164 := Try.isAgg173
  z164 := Try.sizeOf173
  v164 := Try.zeroValue173 }
theorem Try.Builder_Extra_105 : Builder.Extra Try.prog Try.lays105_ren := {
  sizeBuilder := by kernel_rfl
  liesBuilder := by kernel_rfl
  t5 := Try.underlying5
  a5 := Try.isAgg5
  z5 := Try.sizeOf5
  v5 := Try.zeroValue5
  infoByte := by kernel_rfl
  cellsByte := by kernel_rfl
  sizeByte := by kernel_rfl
  neB5 := by decide }
open Go.RowKit Go.Lib in
theorem Try.strings_Repeat (s : ByteArray) (c : Nat) (w : World) (hc : c ≤ 9223372036854775807) (hlen : s.size * c ≤ 140737488355328) :
    Calls Try.prog 61 #[.string s, .int .i64 c] w fun e w' => e = .returned (.string ⟨(Lib.repeatL s.data.toList c).toArray⟩) ∧ Below w.heap.size w w' := Any.strings_Repeat Try.lays105 Try.Builder_Extra_105 s c w hc hlen
end Go.Proofs

/- The laws' helpers on rows of things: how much, a copy, whether they are the same. -/
namespace Go.Proofs.Ytoacaennpddoeaa
open Go.RowKit
def thsSz : List Th → Nat
  | [] => 0
  | x :: r => x.val.size + thsSz r
theorem thsSz_append (a b : List Th) : thsSz (a ++ b) = thsSz a + thsSz b := by
  induction a with
  | nil => simp [thsSz]
  | cons f r ih => rw [List.cons_append, thsSz, thsSz, ih]; omega
theorem thsSz_mem {fs : List Th} {f : Th} (h : f ∈ fs) : f.val.size ≤ thsSz fs := by
  induction fs with
  | nil => cases h
  | cons x r ih =>
    rw [thsSz]
    rcases List.mem_cons.1 h with rfl | h
    · omega
    · have := ih h; omega
theorem thsSz_take {fs : List Th} {k : Nat} {f : Th} (h : fs[k]? = some f) : thsSz (fs.take (k + 1)) = thsSz (fs.take k) + f.val.size := by
  rw [List.take_add_one, h, thsSz_append]
  simp [thsSz]
/-- What the counted size of a row of things tells. -/
def TsEnd (L : Int) (xs : List Th) (z : Int) : Prop := z < 0 ∨ z = L - ((xs.length + thsSz xs : Nat) : Int) ∧ 0 ≤ z
theorem RdN.openT {w : World} {v : Value} {xs : List Th} (h : RdN thY w v xs) : ∃ a c, v = .slice a xs.length c ∧ ∀ j x, xs[j]? = some x → ∃ g o, a = some ⟨g, o, none⟩ ∧ g < w.heap.size ∧ AtN thY w g (o + j * 8) x := h.open
theorem infoThing : (Try.prog.info? 25).map (fun i => (i.zero, i.size, i.bytes)) = some (some (.agg (thC thZ)), 8, 48) := by kernel_rfl
set_option maxRecDepth 20000 in
set_option maxHeartbeats 1000000 in
theorem szThingS_any (xs : List Th) (v : Value) (L : Int) (hL : 0 ≤ L ∧ L ≤ 1048576) (w : World) (hr : RdN thY w v xs) (hn : xs.length ≤ maxLen) (hz : ∀ x ∈ xs, x.val.size ≤ maxLen) :
    Calls Try.prog 65 #[v, .int .i64 L] w fun e w' => (∃ z : Int, e = .returned (.int .i64 z) ∧ TsEnd L xs z) ∧ Below w.heap.size w w' := by
  obtain ⟨a, c, rfl, hc⟩ := hr.openT
  have hn' := hn
  unfold maxLen at hn'
  clear hr hn
  obtain ⟨n, hnn⟩ : ∃ n, xs.length = n := ⟨_, rfl⟩
  rw [hnn] at hn' ⊢
  replace hnn := hide hnn
  replace hz := hide hz
  by_cases c1 : L - (n : Int) < 0
  · go_enter Try.func65, Try.ntmps65
    go_wp2
    go_ret
    exact ⟨⟨-1, rfl, .inl (by decide)⟩, Below.refl _ _⟩
  · go_enter Try.func65, Try.ntmps65
    go_wp2
    go_loopw [1, 5] (fun tl ti wr => ∃ (k : Nat) (l : Int), k ≤ n ∧ ti = .int .i64 k ∧ tl = .int .i64 l ∧ Hid (l = L - ((n + thsSz (xs.take k) : Nat) : Int) ∧ 0 ≤ l) ∧ Below w.heap.size w wr) (fun _ ti _ => n - (intOf ti).toNat)
    case atStart => exact ⟨0, L - n, Nat.zero_le _, rfl, by go_num, ⟨by show _ = L - ((n + thsSz [] : Nat) : Int); simp [thsSz], by omega⟩, Below.refl _ _⟩
    case round =>
      obtain ⟨k, l, hk, rfl, rfl, hsum, hb⟩ := hrel
      by_cases hlt : k < n
      · have hk' : k < xs.length := by rw [unhide hnn]; exact hlt
        obtain ⟨f, hf⟩ : ∃ f, xs[k]? = some f := ⟨xs[k], List.getElem?_eq_getElem hk'⟩
        obtain ⟨g, o, rfl, hg, hat⟩ := hc k f hf
        obtain ⟨d0, d1, d2, d3, d4, d5, d6, d7⟩ := (hat.below hb hg).th
        have hzf := unhide hz f (List.mem_of_getElem? hf)
        have hl2 : 0 ≤ l ∧ l ≤ 1048576 := by have := unhide hsum; omega
        have HT := hide (thsSz_take hf)
        have C := hide (fun W => szThing_any f l hl2 hzf W)
        have hss := hb.size
        replace hf := hide hf
        clear hc hat hzf
        obtain ⟨id, kind, hid, fix, sgn, wrp, val, nxt⟩ := f
        go_wp2_with (go_at_call 67; refine ((unhide C) _).mono ?_; rintro e w1 ⟨⟨r, rfl, hr1⟩, hb1⟩)
        · go_ret
          exact ⟨⟨_, rfl, .inl (by decide)⟩, hb.trans (hb1.mono hss)⟩
        · go_roundw
          case rel =>
            refine ⟨k + 1, r, by omega, by go_num, rfl, ?_, hb.trans (hb1.mono hss)⟩
            have h3 := unhide HT
            have h4 := unhide hsum
            rcases hr1 with ⟨q, _⟩ | ⟨q, q2⟩
            · exact absurd q (by omega)
            · skip
              exact ⟨by rw [h3]; omega, by omega⟩
          case measure => simp [intOf]; omega
      · have e1 : k = n := by omega
        have e2 : xs.take k = xs := List.take_of_length_le (by rw [unhide hnn]; omega)
        rw [e2] at hsum
        go_wp2
        go_ret
        exact ⟨⟨l, rfl, .inr (by rw [unhide hnn]; exact unhide hsum)⟩, hb⟩
set_option maxRecDepth 20000 in
set_option maxHeartbeats 2000000 in
theorem toThingS_any (fs : List Th) (v : Value) (w : World) (hr : RdN thY w v fs) (hn : fs.length ≤ 1048576) :
    Calls Try.prog 66 #[v] w fun e w' => (∃ a c, e = .returned (.slice a fs.length c) ∧ OwnN thY w' w.heap.size 25 (.slice a fs.length c) fs) ∧ Below w.heap.size w w' := by
  obtain ⟨i0, hi, hz0, hz1, hz2⟩ := info_parts infoThing
  obtain ⟨a, c, rfl, hc⟩ := hr.openT
  clear hr
  obtain ⟨n, hnn⟩ : ∃ n, fs.length = n := ⟨_, rfl⟩
  rw [hnn] at hn ⊢
  replace hnn := hide hnn
  go_enter Try.func66, Try.ntmps66
  go_wp2_with (at_make; refine wpList_make_full _ rfl _ _ 34 rfl w.heap.size 25 i0 (.agg (thC thZ)) 8 Try.underlying34 hi hz0 hz1 _ _ _ _ n rfl rfl rfl rfl (by rw [hz2]; omega) (by unfold maxLen; omega) (Nat.le_refl _) ?_; intro w1 hown1 hgrow1)
  have hr0 : OwnN thY w1 w.heap.size 25 (.slice (some ⟨w.heap.size, 0, none⟩) n n) (fs.take 0 ++ List.replicate (n - 0) thZ) := OwnN.made thZ rfl hown1
  have hb0 : Below w.heap.size w w1 := (Below.refl w.heap.size w).grown hgrow1 (Nat.le_refl _) (fun k hk => by cases hk)
  clear hown1 hgrow1
  go_loopw [4] (fun ti wr => ∃ k : Nat, k ≤ n ∧ ti = .int .i64 k ∧ OwnN thY wr w.heap.size 25 (.slice (some ⟨w.heap.size, 0, none⟩) n n) (fs.take k ++ List.replicate (n - k) thZ) ∧ Below w.heap.size w wr) (fun ti _ => n - (intOf ti).toNat)
  case atStart => exact ⟨0, Nat.zero_le _, rfl, hr0, hb0⟩
  case round =>
    obtain ⟨k, hk, rfl, ho, hb⟩ := hrel
    by_cases hlt : k < n
    · have hk' : k < fs.length := by rw [unhide hnn]; exact hlt
      obtain ⟨f, hf⟩ : ∃ f, fs[k]? = some f := ⟨fs[k], List.getElem?_eq_getElem hk'⟩
      obtain ⟨g, o, rfl, hg, hat⟩ := hc k f hf
      have hatw := hat.below hb hg
      have hss := hb.size
      replace hf := hide hf
      have hlk : (k : Int) < (n : Int) := by omega
      clear hc hat hr0 hb0
      go_wp2_with (first
        | (refine wpList_load_n (L := thY) rfl 54 (.tmp 18) rfl g (o + k * 8) rfl f hatw _ Try.underlying54 rfl ?_)
        | (go_at_call 68; refine (toThing_any f _).mono ?_; rintro e w2 ⟨rfl, hb1⟩; have ho1 := ho.below hb1)
        | (refine wpList_store_n (L := thY) rfl 25 (.tmp 21) (.tmp 20) rfl (k := k) rfl f rfl ho1 hlt rfl ?_; intro w3 ho2 hg2 hs2))
      rw [take_fillN (unhide hf) (unhide hnn)] at ho2
      go_roundw
      case rel => exact ⟨k + 1, by omega, by go_num, ho2, (hb.trans (hb1.mono hss)).grown hg2 (by have := hb1.size; omega) (fun j hj => by cases hj; exact Nat.le_refl _)⟩
      case measure => simp [intOf]; omega
    · have e1 : k = n := by omega
      have e2 : fs.take k ++ List.replicate (n - k) thZ = fs := by
        rw [e1, Nat.sub_self, List.take_of_length_le (by rw [unhide hnn]; exact Nat.le_refl _)]
        simp
      rw [e2] at ho
      go_wp2
      go_ret
      exact ⟨⟨_, _, rfl, ho⟩, hb⟩
set_option maxRecDepth 20000 in
set_option maxHeartbeats 2000000 in
theorem eqThingS_any (fs : List Th) (v1 v2 : Value) (w : World) (hr1 : RdN thY w v1 fs) (hr2 : RdN thY w v2 fs) (hn : fs.length ≤ 2000000) :
    Calls Try.prog 62 #[v1, v2] w fun e w' => e = .returned (.bool true) ∧ Below w.heap.size w w' := by
  obtain ⟨a1, c1, rfl, hc1⟩ := hr1.openT
  obtain ⟨a2, c2, rfl, hc2⟩ := hr2.openT
  clear hr1 hr2
  obtain ⟨n, hnn⟩ : ∃ n, fs.length = n := ⟨_, rfl⟩
  rw [hnn] at hn ⊢
  replace hnn := hide hnn
  go_enter Try.func62, Try.ntmps62
  go_wp2
  go_loopw [5] (fun ti wr => ∃ k : Nat, k ≤ n ∧ ti = .int .i64 k ∧ Below w.heap.size w wr) (fun ti _ => n - (intOf ti).toNat)
  case atStart => exact ⟨0, Nat.zero_le _, rfl, Below.refl _ _⟩
  case round =>
    obtain ⟨k, hk, rfl, hb⟩ := hrel
    by_cases hlt : k < n
    · have hk' : k < fs.length := by rw [unhide hnn]; exact hlt
      obtain ⟨f, hf⟩ : ∃ f, fs[k]? = some f := ⟨fs[k], List.getElem?_eq_getElem hk'⟩
      obtain ⟨g1, o1, rfl, hg1, hat1⟩ := hc1 k f hf
      obtain ⟨g2, o2, rfl, hg2, hat2⟩ := hc2 k f hf
      have hA1 := hide (hat1.below hb hg1)
      have hA2 := hide (hat2.below hb hg2)
      have hss := hb.size
      have hgw1 : g1 < wr.heap.size := by omega
      have hgw2 : g2 < wr.heap.size := by omega
      have hi0 : (0 : Int) ≤ (k : Int) := by omega
      have hi1 : (k : Int) < (n : Int) := by omega
      replace hf := hide hf
      clear hc1 hc2 hat1 hat2
      have C := hide (fun W => eqThing_any f W)
      obtain ⟨id, kind, hid, fix, sgn, wrp, val, nxt⟩ := f
      obtain ⟨d0, d1, d2, d3, d4, d5, d6, d7⟩ := (unhide hA1).th
      obtain ⟨e0, e1, e2, e3, e4, e5, e6, e7⟩ := (unhide hA2).th
      go_wp2
      go_region_held3 (fun W => W.cell? ⟨g1, o1 + k * 8, none⟩ = some (.int .i64 id) ∧ W.cell? ⟨g1, o1 + k * 8 + 1, none⟩ = some (.int .i64 kind) ∧ W.cell? ⟨g1, o1 + k * 8 + 2, none⟩ = some (.bool hid) ∧ W.cell? ⟨g1, o1 + k * 8 + 3, none⟩ = some (.bool fix) ∧ W.cell? ⟨g1, o1 + k * 8 + 4, none⟩ = some (.bool sgn) ∧ W.cell? ⟨g1, o1 + k * 8 + 5, none⟩ = some (.bool wrp) ∧ W.cell? ⟨g1, o1 + k * 8 + 6, none⟩ = some (.string val) ∧ W.cell? ⟨g1, o1 + k * 8 + 7, none⟩ = some (.int .i64 nxt) ∧ W.cell? ⟨g2, o2 + k * 8, none⟩ = some (.int .i64 id) ∧ W.cell? ⟨g2, o2 + k * 8 + 1, none⟩ = some (.int .i64 kind) ∧ W.cell? ⟨g2, o2 + k * 8 + 2, none⟩ = some (.bool hid) ∧ W.cell? ⟨g2, o2 + k * 8 + 3, none⟩ = some (.bool fix) ∧ W.cell? ⟨g2, o2 + k * 8 + 4, none⟩ = some (.bool sgn) ∧ W.cell? ⟨g2, o2 + k * 8 + 5, none⟩ = some (.bool wrp) ∧ W.cell? ⟨g2, o2 + k * 8 + 6, none⟩ = some (.string val) ∧ W.cell? ⟨g2, o2 + k * 8 + 7, none⟩ = some (.int .i64 nxt)) (first | exact ⟨d0, d1, d2, d3, d4, d5, d6, d7, e0, e1, e2, e3, e4, e5, e6, e7⟩ | (obtain ⟨p0, p1, p2, p3, p4, p5, p6, p7⟩ := (AtN.below (w := wr.drew) (unhide hA1) hb1 hgw1).th; obtain ⟨q0, q1, q2, q3, q4, q5, q6, q7⟩ := (AtN.below (w := wr.drew) (unhide hA2) hb1 hgw2).th; exact ⟨p0, p1, p2, p3, p4, p5, p6, p7, q0, q1, q2, q3, q4, q5, q6, q7⟩)) (first | (go_at_call 103; refine ((unhide C) _).mono ?_; rintro e w1 ⟨rfl, hb1⟩))
      go_wp2
      go_roundw
      case rel => exact ⟨k + 1, by omega, by go_num, hb.drew.trans (hb1.mono hss)⟩
      case measure => simp [intOf]; omega
    · go_wp2
      go_ret
      exact ⟨rfl, hb⟩
end Go.Proofs.Ytoacaennpddoeaa

/- Decimal figures of a number, and the number of figures: the mathematics, of no program. -/
namespace Go.Proofs.Ytoacaennpddoeaa

/-- The decimal figures of u, the first ahead; one nought for 0 (f: how many may stand ahead). -/
def decF : Nat → Nat → List UInt8
  | 0, u => [byteOf (48 + u)]
  | f + 1, u => if u < 10 then [byteOf (48 + u)] else decF f (u / 10) ++ [byteOf (48 + u % 10)]
def decB (u : Nat) : List UInt8 := decF u u

theorem decF_more : ∀ (f g u : Nat), u ≤ f → u ≤ g → decF f u = decF g u := by
  intro f
  induction f with
  | zero =>
    intro g u h1 h2
    have : u = 0 := by omega
    subst this
    cases g with
    | zero => rfl
    | succ g => rfl
  | succ f ih =>
    intro g u h1 h2
    cases g with
    | zero =>
      have : u = 0 := by omega
      subst this
      rfl
    | succ g =>
      unfold decF
      by_cases h : u < 10
      · rw [if_pos h, if_pos h]
      · rw [if_neg h, if_neg h, ih g (u / 10) (by omega) (by omega)]
theorem decB_small {u : Nat} (h : u < 10) : decB u = [byteOf (48 + u)] := by
  unfold decB
  cases u with
  | zero => rfl
  | succ u => unfold decF; rw [if_pos h]
theorem decB_big {u : Nat} (h : ¬ u < 10) : decB u = decB (u / 10) ++ [byteOf (48 + u % 10)] := by
  unfold decB
  cases u with
  | zero => omega
  | succ u =>
    rw [decF, if_neg h, decF_more u ((u + 1) / 10) ((u + 1) / 10) (by omega) (Nat.le_refl _)]
theorem decB_len : ∀ (k u : Nat), u < 10 ^ (k + 1) → 1 ≤ (decB u).length ∧ (decB u).length ≤ k + 1 := by
  intro k
  induction k with
  | zero => intro u h; rw [decB_small (by omega)]; simp
  | succ k ih =>
    intro u h
    by_cases hu : u < 10
    · rw [decB_small hu]; simp
    · have := ih (u / 10) (by rw [Nat.pow_succ] at h; omega)
      rw [decB_big hu, List.length_append]
      simp only [List.length_singleton]
      omega
theorem decB_pos (u : Nat) : 1 ≤ (decB u).length := by
  by_cases hu : u < 10
  · rw [decB_small hu]; simp
  · rw [decB_big hu]; simp

/-- Is it a figure? -/
def isFig (c : UInt8) : Bool := decide (48 ≤ c.toNat ∧ c.toNat ≤ 57)
/-- The number of figures. -/
def valB (l : List UInt8) : Nat := l.foldl (fun n c => 10 * n + (c.toNat - 48)) 0
theorem valB_nil : valB [] = 0 := rfl
theorem valB_snoc (l : List UInt8) (c : UInt8) : valB (l ++ [c]) = 10 * valB l + (c.toNat - 48) := by unfold valB; simp
theorem foldl_ge (l : List UInt8) : ∀ n, n ≤ l.foldl (fun n c => 10 * n + (c.toNat - 48)) n := by
  induction l with
  | nil => intro n; exact Nat.le_refl _
  | cons c t ih => intro n; rw [List.foldl_cons]; exact Nat.le_trans (by omega) (ih _)
theorem valB_append_ge (l m : List UInt8) : valB l ≤ valB (l ++ m) := by
  unfold valB; rw [List.foldl_append]; exact foldl_ge _ _
theorem foldl_pow (l : List UInt8) : ∀ n, n * 10 ^ l.length ≤ l.foldl (fun n c => 10 * n + (c.toNat - 48)) n := by
  induction l with
  | nil => intro n; simp
  | cons c t ih =>
    intro n
    rw [List.foldl_cons, List.length_cons, Nat.pow_succ]
    refine Nat.le_trans ?_ (ih _)
    calc n * (10 ^ t.length * 10) = (10 * n) * 10 ^ t.length := by rw [Nat.mul_comm (10 ^ t.length) 10, ← Nat.mul_assoc, Nat.mul_comm n 10]
      _ ≤ _ := Nat.mul_le_mul_right _ (by omega)
theorem valB_cons_ge (c : UInt8) (t : List UInt8) (h : 49 ≤ c.toNat) : 10 ^ t.length ≤ valB (c :: t) := by
  unfold valB
  rw [List.foldl_cons]
  refine Nat.le_trans ?_ (foldl_pow t _)
  calc 10 ^ t.length = 1 * 10 ^ t.length := by omega
    _ ≤ _ := Nat.mul_le_mul_right _ (by omega)
theorem valB_lt (l : List UInt8) : (∀ c ∈ l, isFig c = true) → valB l < 10 ^ l.length := by
  intro h
  induction hl : l.length generalizing l with
  | zero => have : l = [] := List.length_eq_zero_iff.1 hl; subst this; simp [valB_nil]
  | succ k ih =>
    obtain ⟨l', c, rfl⟩ : ∃ l' c, l = l' ++ [c] := by
      have hne : l ≠ [] := by intro e; subst e; simp at hl
      exact ⟨l.dropLast, l.getLast hne, (List.dropLast_concat_getLast hne).symm⟩
    have h1 := ih l' (fun c hc => h c (by simp [hc])) (by simpa using hl)
    have h2 := h c (by simp)
    simp only [isFig, decide_eq_true_eq] at h2
    rw [valB_snoc, Nat.pow_succ]
    omega

/-- No needless nought stands ahead. -/
def plainFigs (l : List UInt8) : Prop := l ≠ [] ∧ (1 < l.length → l.head? ≠ some 48)

theorem valB_ge_one {l : List UInt8} (hf : ∀ c ∈ l, isFig c = true) (hn : l ≠ []) (h0 : l.head? ≠ some 48) : 1 ≤ valB l := by
  cases l with
  | nil => exact absurd rfl hn
  | cons c t =>
    have h2 := hf c (by simp)
    simp only [isFig, decide_eq_true_eq] at h2
    have h3 : c.toNat ≠ 48 := by
      intro e
      apply h0
      simp only [List.head?_cons, Option.some.injEq]
      apply UInt8.toNat_inj.1; rw [e]; rfl
    have := valB_cons_ge c t (by omega)
    have hp : 1 ≤ 10 ^ t.length := Nat.one_le_pow _ _ (by decide)
    omega

theorem decB_valB : ∀ (k : Nat) (l : List UInt8), l.length = k → (∀ c ∈ l, isFig c = true) → plainFigs l → decB (valB l) = l := by
  intro k
  induction k with
  | zero => intro l hl _ hp; exact absurd (List.length_eq_zero_iff.1 hl) hp.1
  | succ k ih =>
    intro l hl hf hp
    obtain ⟨l', c, rfl⟩ : ∃ l' c, l = l' ++ [c] := ⟨l.dropLast, l.getLast hp.1, (List.dropLast_concat_getLast hp.1).symm⟩
    have hc := hf c (by simp)
    simp only [isFig, decide_eq_true_eq] at hc
    have hbc : byteOf c.toNat = c := by unfold byteOf; simp
    rw [valB_snoc]
    by_cases hn : l' = []
    · subst hn
      rw [valB_nil, decB_small (by omega), show 48 + (10 * 0 + (c.toNat - 48)) = c.toNat by omega, hbc]
      rfl
    · have hlen : 0 < l'.length := List.length_pos_iff.2 hn
      have hh : l'.head? ≠ some 48 := by
        have := hp.2 (by simp; omega)
        cases l' with
        | nil => exact absurd rfl hn
        | cons a t => simpa using this
      have h1 := valB_ge_one (fun c hc => hf c (by simp [hc])) hn hh
      have h2 := ih l' (by simpa using hl) (fun c hc => hf c (by simp [hc])) ⟨hn, fun _ => hh⟩
      rw [decB_big (by omega), show (10 * valB l' + (c.toNat - 48)) / 10 = valB l' by omega, show 48 + (10 * valB l' + (c.toNat - 48)) % 10 = c.toNat by omega, h2, hbc]

theorem decB_head : ∀ (n : Nat) (t : List UInt8), decB n = 48 :: t → t = [] ∧ n = 0 := by
  intro n
  induction n using Nat.strongRecOn with
  | _ n ih =>
    intro t h
    by_cases hn : n < 10
    · rw [decB_small hn] at h
      simp only [List.cons.injEq] at h
      refine ⟨h.2.symm, ?_⟩
      have := congrArg UInt8.toNat h.1
      rw [byteOf_toNat (by omega)] at this
      simp at this
      omega
    · exfalso
      rw [decB_big hn] at h
      have hp := decB_pos (n / 10)
      cases hd : decB (n / 10) with
      | nil => rw [hd] at hp; simp at hp
      | cons y ys =>
        rw [hd] at h
        simp only [List.cons_append, List.cons.injEq] at h
        have := ih (n / 10) (by omega) ys (by rw [hd, h.1])
        omega

/-- The figures of the number that figures stand for are these just where no needless nought stands ahead. -/
theorem decB_iff {l : List UInt8} (hf : ∀ c ∈ l, isFig c = true) : decB (valB l) = l ↔ plainFigs l := by
  constructor
  · intro h
    refine ⟨?_, ?_⟩
    · intro e; subst e
      have hp := decB_pos (valB [])
      rw [h] at hp
      simp at hp
    · intro hl hh
      cases l with
      | nil => simp at hh
      | cons a t =>
        simp only [List.head?_cons, Option.some.injEq] at hh
        subst hh
        have := (decB_head _ _ h).1
        subst this
        simp at hl
  · exact decB_valB _ l rfl hf

/-- What is read. -/
def rdB (l : List UInt8) : Option Nat := if l.all isFig = true ∧ valB l ≤ 1000000000 ∧ decB (valB l) = l then some (valB l) else none
end Go.Proofs.Ytoacaennpddoeaa

/- What spec.Hex and impl.Hex come to, over the loaded program. -/
namespace Go.Proofs.Ytoacaennpddoeaa
open Go.RowKit

theorem Try.infoBH : (Try.prog.info? 5).map (fun i => (i.zero, i.size, i.bytes)) = some (some (.int .u8 0), 1, 1) := by kernel_rfl

/-- The figure of a half byte. -/
def fig (n : Nat) : UInt8 := byteOf (if n < 10 then 48 + n else 87 + n)
/-- Two figures for each byte. -/
def hexB (l : List UInt8) : List UInt8 := l.flatMap fun b => [fig (b.toNat / 16), fig (b.toNat % 16)]
theorem fig_toNat {n : Nat} (h : n < 16) : (fig n).toNat = if n < 10 then 48 + n else 87 + n := by
  unfold fig; rw [byteOf_toNat]; split <;> omega
theorem hexB_len (l : List UInt8) : (hexB l).length = 2 * l.length := by
  unfold hexB; induction l with
  | nil => rfl
  | cons a t ih => rw [List.flatMap_cons, List.length_append, ih]; simp; omega
theorem hexB_snoc (l : List UInt8) (b : UInt8) : hexB (l ++ [b]) = hexB l ++ [fig (b.toNat / 16), fig (b.toNat % 16)] := by
  unfold hexB; simp


theorem cs_two {c d : Int} {a b : UInt8} (h : c = (a.toNat : Int)) (h' : d = (b.toNat : Int)) : (#[Value.int .u8 c, Value.int .u8 d] : Array Value).toList = [a, b].map bv := by simp [bv, h, h']

theorem take_step0 (s : ByteArray) (k : Nat) (h : k < s.size) : s.data.toList.take (k + 1) = s.data.toList.take k ++ [s[k]] := by
  rw [List.take_succ_eq_append_getElem (by simpa using h)]; rfl

end Go.Proofs.Ytoacaennpddoeaa

/- What spec.Decimal comes to at numbers that are not below 0, over the loaded program. -/
namespace Go.Proofs.Ytoacaennpddoeaa
open Go.RowKit

/-- 'string([]byte{b})' -/
theorem run_string_new {P : Program} (src dst e : TypeId) (hs : P.underlying src = some (.slice e)) (he : P.underlying e = some (.int .u8)) (hd : P.underlying dst = some .string) (W : World) (b : UInt8) :
    (convert src dst (.slice (some ⟨W.heap.size, 0, none⟩) 1 1)).run P (W.alloc (.cells #[.int .u8 (b.toNat : Int)] e)) = .ok (.string ⟨#[b]⟩) (W.alloc (.cells #[.int .u8 (b.toNat : Int)] e)) := by
  have := run_convert_bytes_back (P := P) (W.alloc (.cells #[.int .u8 (b.toNat : Int)] e)) src dst e ⟨W.heap.size, 0, none⟩ 1 [b] hs he hd (fun j hj => by
    have h0 : j = 0 := by simpa using hj
    subst h0
    rw [show (⟨W.heap.size, 0, none⟩ : Addr).add 0 = ⟨W.heap.size, 0, none⟩ from rfl, cell_of_row (W.alloc (.cells #[.int .u8 (b.toNat : Int)] e)) W.heap.size 0 _ e (0, 0) (heap_alloc_new W _)]
    rfl)
  exact this

/-- What stands at the head of a round: the figures that are to come and those that lie ready. -/
def DecAt (n m : Nat) (t : List UInt8) : Prop := t.length ≤ 20 ∧ (if m = 0 then t = decB n else decB m ++ t = decB n)
theorem DecAt.start {n : Nat} (h : n ≠ 0) : DecAt n n [] := ⟨by simp, by rw [if_neg h]; simp⟩
theorem DecAt.next {n m : Nat} {t : List UInt8} (hn : n < 10 ^ 20) (h : DecAt n m t) (hm : m ≠ 0) : DecAt n (m / 10) (fig (m % 10) :: t) := by
  have hlen := (decB_len 19 n hn).2
  have hf : fig (m % 10) = byteOf (48 + m % 10) := by unfold fig; rw [if_pos (by omega)]
  have h2 := h.2
  rw [if_neg hm] at h2
  have key : (if m / 10 = 0 then fig (m % 10) :: t = decB n else decB (m / 10) ++ fig (m % 10) :: t = decB n) := by
    by_cases hs : m < 10
    · rw [if_pos (by omega), hf, show m % 10 = m by omega, ← h2, decB_small hs]
      rfl
    · rw [if_neg (by omega), hf, ← h2, decB_big hs]
      simp
  refine ⟨?_, key⟩
  split at key
  · have := congrArg List.length key
    simp only [List.length_cons] at *
    omega
  · have := congrArg List.length key
    simp only [List.length_cons, List.length_append] at *
    omega
theorem DecAt.done {n m : Nat} {t : List UInt8} (h : DecAt n m t) (hm : m = 0) : t = decB n := by
  have := h.2; rw [if_pos hm] at this; exact this

theorem ret_str {a b : List UInt8} (h : a = b) : Ending.returned (.string ⟨a.toArray⟩) = .returned (.string ⟨b.toArray⟩) := by rw [h]
theorem str_cons (b : UInt8) (t : List UInt8) : Value.string (ByteArray.mk #[b] ++ ByteArray.mk t.toArray) = Value.string ⟨(b :: t).toArray⟩ := by
  show Value.string (ByteArray.mk [b].toArray ++ ByteArray.mk t.toArray) = _
  rw [ByteArray.mk_append_mk]; rfl



end Go.Proofs.Ytoacaennpddoeaa

/- What laws.markText comes to. -/
namespace Go.Proofs.Ytoacaennpddoeaa
open Go.RowKit

/-- The text of a mark. -/
def mkS (k : Nat) : ByteArray := ⟨(109 :: decB k).toArray⟩
theorem fig_ten {m : Nat} (h : m < 10) : fig m = byteOf (48 + m) := by unfold fig; rw [if_pos h]
theorem ret_m {t l : List UInt8} (h : t = l) : Ending.returned (.string (ByteArray.mk #[109] ++ ByteArray.mk t.toArray)) = .returned (.string ⟨(109 :: l).toArray⟩) := by rw [str_cons, h]

set_option maxHeartbeats 400000 in
theorem markText_any (n : Nat) (w : World) (h0 : 1 ≤ n) (hn : n ≤ 1000000000) :
    Calls Try.prog 104 #[.int .i64 n] w fun e w' => e = .returned (.string (mkS n)) ∧ Below w.heap.size w w' := by
  have h1 : ¬ (n : Int) ≤ 0 := by omega
  go_enter Try.func104, Try.ntmps104
  go_wp2
  go_loopw [0, 3] (fun ti ts wr => ∃ (m : Nat) (t : List UInt8), m ≤ 1000000000 ∧ DecAt n m t ∧ ti = .int .i64 m ∧ ts = .string ⟨t.toArray⟩ ∧ Below w.heap.size w wr) (fun ti _ _ => (intOf ti).toNat)
  case atStart => exact ⟨n, [], hn, DecAt.start (by omega), rfl, rfl, Below.refl _ _⟩
  case round =>
    obtain ⟨m, t, hm, hat, rfl, rfl, hb⟩ := hrel
    clear h1
    have hsz := hb.size
    by_cases hz : m = 0
    · have hfin := hide (hat.done hz)
      have hl := hat.1
      subst hz
      go_wp2
      go_ret
      exact ⟨ret_m (unhide hfin), hb⟩
    · have hx := hat.next (by omega) hz
      have hl := hat.1
      have h3 : (0 : Int) < (m : Int) := by omega
      have hcv : ((fig (m % 10)).toNat : Int) = 48 + (m : Int) % 10 := by rw [fig_ten (by omega), byteOf_toNat (by omega)]; omega
      have hconv := fun (W : World) => run_string_new (P := Try.prog) 22 9 5 Try.underlying22 Try.underlying5 Try.underlying9 W (fig (m % 10))
      rw [hcv] at hconv
      clear hcv
      go_wp2
      go_roundw
      case rel => exact ⟨m / 10, fig (m % 10) :: t, by omega, hx, by go_num, str_cons _ _, hb.alloc hsz _⟩
      case measure => simp [intOf]; omega

theorem markText_at (z : Int) (n : Nat) (hz : z = n) (w : World) (h0 : 1 ≤ n) (hn : n ≤ 1000000000) :
    Calls Try.prog 104 #[.int .i64 z] w fun e w' => e = .returned (.string (mkS n)) ∧ Below w.heap.size w w' := by
  rw [hz]; exact markText_any n w h0 hn

end Go.Proofs.Ytoacaennpddoeaa

/- The laws' marks on rows of things of the call's own, and that they are found. -/
namespace Go.Proofs.Ytoacaennpddoeaa
open Go.RowKit
/-- A mark as a bool. -/
def mb3 (q : Nat) : Bool := decide ((q : Int) % 3 = 0)
def mkT0 (q : Nat) : Th := ⟨(q : Int), ((q + 1 : Nat) : Int), mb3 (q + 2), mb3 (q + 3), mb3 (q + 4), mb3 (q + 5), mkS (q + 6), ((q + 7 : Nat) : Int)⟩
theorem mkT0_is (q : Nat) : (⟨((q : Int)), ((q : Int) + 1), (((q : Int) + 1 + 1) % 3 == 0), (((q : Int) + 1 + 1 + 1) % 3 == 0), (((q : Int) + 1 + 1 + 1 + 1) % 3 == 0), (((q : Int) + 1 + 1 + 1 + 1 + 1) % 3 == 0), (mkS (q + 6)), ((q : Int) + 1 + 1 + 1 + 1 + 1 + 1 + 1)⟩ : Th) = mkT0 q := by
  unfold mkT0 mb3
  have e : ∀ z : Int, (z == 0) = decide (z = 0) := fun z => by rw [Bool.eq_iff_iff]; simp
  simp only [e]
  congr 1
def mkT1 (k i : Nat) : Th := mkT0 (k + 8 * i)
def mkT (k n : Nat) : List Th := (List.range n).map (mkT1 k)
theorem mkT_len (k n : Nat) : (mkT k n).length = n := by unfold mkT; simp
theorem mkT_succ (k n : Nat) : mkT k (n + 1) = mkT k n ++ [mkT1 k n] := by unfold mkT; rw [List.range_succ, List.map_append]; rfl
theorem mkT_at (k n i : Nat) (h : i < n) : (mkT k n)[i]? = some (mkT1 k i) := by unfold mkT; simp [h]
theorem mkT_set (k i : Nat) (fs : List Th) (h : i < fs.length) : (mkT k i ++ fs.drop i).set i (mkT1 k i) = mkT k (i + 1) ++ fs.drop (i + 1) := by
  rw [List.drop_eq_getElem_cons h, List.set_append_right _ _ (by rw [mkT_len]; exact Nat.le_refl _), mkT_len, Nat.sub_self, List.set_cons_zero, mkT_succ]
  simp
theorem OwnN.t0 {w : World} {base g n c : Nat} {e : TypeId} {xs : List Th} (h : OwnN thY w base e (.slice (some ⟨g, 0, none⟩) n c) xs) {k : Nat} {x : Th} (hk : xs[k]? = some x) (z : Int) :
    OwnN thY (w.setCell ⟨g, k * 8, none⟩ (.int .i64 z)) base e (.slice (some ⟨g, 0, none⟩) n c) (xs.set k { x with id := z }) :=
  h.set1 hk { x with id := z } 0 (.int .i64 z) (by decide) rfl
theorem OwnN.t1 {w : World} {base g n c : Nat} {e : TypeId} {xs : List Th} (h : OwnN thY w base e (.slice (some ⟨g, 0, none⟩) n c) xs) {k : Nat} {x : Th} (hk : xs[k]? = some x) (z : Int) :
    OwnN thY (w.setCell ⟨g, k * 8 + 1, none⟩ (.int .i64 z)) base e (.slice (some ⟨g, 0, none⟩) n c) (xs.set k { x with kind := z }) :=
  h.set1 hk { x with kind := z } 1 (.int .i64 z) (by decide) rfl
theorem OwnN.t2 {w : World} {base g n c : Nat} {e : TypeId} {xs : List Th} (h : OwnN thY w base e (.slice (some ⟨g, 0, none⟩) n c) xs) {k : Nat} {x : Th} (hk : xs[k]? = some x) (z : Bool) :
    OwnN thY (w.setCell ⟨g, k * 8 + 2, none⟩ (.bool z)) base e (.slice (some ⟨g, 0, none⟩) n c) (xs.set k { x with hid := z }) :=
  h.set1 hk { x with hid := z } 2 (.bool z) (by decide) rfl
theorem OwnN.t3 {w : World} {base g n c : Nat} {e : TypeId} {xs : List Th} (h : OwnN thY w base e (.slice (some ⟨g, 0, none⟩) n c) xs) {k : Nat} {x : Th} (hk : xs[k]? = some x) (z : Bool) :
    OwnN thY (w.setCell ⟨g, k * 8 + 3, none⟩ (.bool z)) base e (.slice (some ⟨g, 0, none⟩) n c) (xs.set k { x with fix := z }) :=
  h.set1 hk { x with fix := z } 3 (.bool z) (by decide) rfl
theorem OwnN.t4 {w : World} {base g n c : Nat} {e : TypeId} {xs : List Th} (h : OwnN thY w base e (.slice (some ⟨g, 0, none⟩) n c) xs) {k : Nat} {x : Th} (hk : xs[k]? = some x) (z : Bool) :
    OwnN thY (w.setCell ⟨g, k * 8 + 4, none⟩ (.bool z)) base e (.slice (some ⟨g, 0, none⟩) n c) (xs.set k { x with sgn := z }) :=
  h.set1 hk { x with sgn := z } 4 (.bool z) (by decide) rfl
theorem OwnN.t5 {w : World} {base g n c : Nat} {e : TypeId} {xs : List Th} (h : OwnN thY w base e (.slice (some ⟨g, 0, none⟩) n c) xs) {k : Nat} {x : Th} (hk : xs[k]? = some x) (z : Bool) :
    OwnN thY (w.setCell ⟨g, k * 8 + 5, none⟩ (.bool z)) base e (.slice (some ⟨g, 0, none⟩) n c) (xs.set k { x with wrp := z }) :=
  h.set1 hk { x with wrp := z } 5 (.bool z) (by decide) rfl
theorem OwnN.t6 {w : World} {base g n c : Nat} {e : TypeId} {xs : List Th} (h : OwnN thY w base e (.slice (some ⟨g, 0, none⟩) n c) xs) {k : Nat} {x : Th} (hk : xs[k]? = some x) (z : ByteArray) :
    OwnN thY (w.setCell ⟨g, k * 8 + 6, none⟩ (.string z)) base e (.slice (some ⟨g, 0, none⟩) n c) (xs.set k { x with val := z }) :=
  h.set1 hk { x with val := z } 6 (.string z) (by decide) rfl
theorem OwnN.t7 {w : World} {base g n c : Nat} {e : TypeId} {xs : List Th} (h : OwnN thY w base e (.slice (some ⟨g, 0, none⟩) n c) xs) {k : Nat} {x : Th} (hk : xs[k]? = some x) (z : Int) :
    OwnN thY (w.setCell ⟨g, k * 8 + 7, none⟩ (.int .i64 z)) base e (.slice (some ⟨g, 0, none⟩) n c) (xs.set k { x with nxt := z }) :=
  h.set1 hk { x with nxt := z } 7 (.int .i64 z) (by decide) rfl
theorem marks6 {P : Program} {F : FuncId} {args : Array Value} {R : Ending → World → Prop} {w : World} {base g n c : Nat} {e : TypeId} {xs : List Th} (h : OwnN thY w base e (.slice (some ⟨g, 0, none⟩) n c) xs) {k : Nat} {x : Th} (hk : xs[k]? = some x) {z0 z1 : Int} {z2 z3 z4 z5 : Bool}
    (K : ∀ W, OwnN thY W base e (.slice (some ⟨g, 0, none⟩) n c) (xs.set k ⟨z0, z1, z2, z3, z4, z5, x.val, x.nxt⟩) → w.grownBy W (some g) → Calls P F args W R) : Calls P F args ((((((w.setCell ⟨g, k * 8, none⟩ (.int .i64 z0)).setCell ⟨g, k * 8 + 1, none⟩ (.int .i64 z1)).setCell ⟨g, k * 8 + 2, none⟩ (.bool z2)).setCell ⟨g, k * 8 + 3, none⟩ (.bool z3)).setCell ⟨g, k * 8 + 4, none⟩ (.bool z4)).setCell ⟨g, k * 8 + 5, none⟩ (.bool z5)) R := by
  have s0 := h.t0 hk z0
  have h0 := set_getN hk { x with id := z0 }
  have s1 := s0.t1 h0 z1
  rw [List.set_set] at s1
  have h1 := set_getN hk { x with id := z0, kind := z1 }
  have s2 := s1.t2 h1 z2
  rw [List.set_set] at s2
  have h2 := set_getN hk { x with id := z0, kind := z1, hid := z2 }
  have s3 := s2.t3 h2 z3
  rw [List.set_set] at s3
  have h3 := set_getN hk { x with id := z0, kind := z1, hid := z2, fix := z3 }
  have s4 := s3.t4 h3 z4
  rw [List.set_set] at s4
  have h4 := set_getN hk { x with id := z0, kind := z1, hid := z2, fix := z3, sgn := z4 }
  have s5 := s4.t5 h4 z5
  rw [List.set_set] at s5
  exact K _ s5 (gT (gT (gT (gT (gT (gS w g _ _) (gS _ g _ _)) (gS _ g _ _)) (gS _ g _ _)) (gS _ g _ _)) (gS _ g _ _))
set_option maxRecDepth 20000 in
set_option maxHeartbeats 2000000 in
theorem markThingS_any (v : Value) (base k : Nat) (fs : List Th) (w : World) (hl : fs.length ≤ 2000000) (hk1 : 1 ≤ k) (hk : k ≤ 20000000) (hbase : base ≤ w.heap.size) (ho : OwnN thY w base 25 v fs) :
    Calls Try.prog 63 #[v, .int .i64 k] w fun e w' => e = .returned (.int .i64 ((k + 8 * fs.length : Nat) : Int)) ∧ OwnN thY w' base 25 v (mkT k fs.length) ∧ w.grownBy w' v.ownBlock := by
  rcases ho.open with ⟨rfl, a, c, rfl⟩ | ⟨g, c, rfl, hg1, hg2⟩
  · have HO := hide ho
    clear ho
    go_enter Try.func63, Try.ntmps63
    go_wp2
    refine wp_loop_rounds 1 ?_
    rw [rounds_succ]
    go_wp2
    go_ret
    exact ⟨rfl, unhide HO, gR _ _⟩
  · obtain ⟨n, hnn⟩ : ∃ n, fs.length = n := ⟨_, rfl⟩
    rw [hnn] at hl ho ⊢
    replace hnn := hide hnn
    go_enter Try.func63, Try.ntmps63
    go_wp2
    go_loopw [1, 5] (fun tk ti wr => ∃ i q : Nat, i ≤ n ∧ ti = .int .i64 i ∧ tk = .int .i64 q ∧ Hid (q = k + 8 * i) ∧ OwnN thY wr base 25 (.slice (some ⟨g, 0, none⟩) n c) (mkT k i ++ fs.drop i) ∧ w.grownBy wr (some g)) (fun _ ti _ => n - (intOf ti).toNat)
    case atStart => exact ⟨0, k, Nat.zero_le _, rfl, rfl, rfl, ho, gR _ _⟩
    case round =>
      obtain ⟨i, q, hi, rfl, rfl, hq, hown, hb⟩ := hrel
      clear ho
      have hsz := hb.size
      have hbase' : base ≤ wr.heap.size := by omega
      by_cases hlt : i < n
      · have hi' : i < fs.length := by rw [unhide hnn]; exact hlt
        have HS := hide (mkT_set k i fs hi')
        have hq1 : 1 ≤ q := by have := unhide hq; omega
        have hq2 : q ≤ 900000000 := by have := unhide hq; omega
        have hlx : i < (mkT k i ++ fs.drop i).length := by rw [hown.len]; exact hlt
        obtain ⟨f0, hf0⟩ : ∃ f0, (mkT k i ++ fs.drop i)[i]? = some f0 := ⟨_, List.getElem?_eq_getElem hlx⟩
        have hfz := hown.frozen
        have hat := hown.at hf0
        obtain ⟨d0, d1, d2, d3, d4, d5, d6, d7⟩ := AtN.th (o := i * 8) hat
        obtain ⟨id, kind, hid, fix, sgn, wrp, val, nxt⟩ := f0
        replace hf0 := hide hf0
        have hlt' : (i : Int) < (n : Int) := by omega
        clear hat hlx
        go_wp2_with fail
        refine marks6 hown (unhide hf0) (fun W2 s5 g5 => ?_)
        have hf6 := hide (set_getN (unhide hf0) (⟨(q : Int), (q : Int) + 1, ((q : Int) + 1 + 1) % 3 == 0, ((q : Int) + 1 + 1 + 1) % 3 == 0, ((q : Int) + 1 + 1 + 1 + 1) % 3 == 0, ((q : Int) + 1 + 1 + 1 + 1 + 1) % 3 == 0, val, nxt⟩ : Th))
        have bs5 := gT hb g5
        clear g5 hb hfz hown d0 d1 d2 d3 d4 d5 d6 d7
        refine (markText_at _ (q + 6) (by omega) _ (by omega) (by omega)).mono ?_
        rintro e w3 ⟨rfl, hb3⟩
        have t0 := s5.below hb3
        have bt0 := gT bs5 (gB hb3 (some g))
        have hfz := t0.frozen
        obtain ⟨d0, d1, d2, d3, d4, d5, d6, d7⟩ := AtN.th (o := i * 8) (t0.at (unhide hf6))
        have t1 : OwnN thY (w3.setCell ⟨g, i * 8 + 6, none⟩ (.string (mkS (q + 6)))) base 25 (.slice (some ⟨g, 0, none⟩) n c) _ := t0.t6 (unhide hf6) (mkS (q + 6))
        have t2 : OwnN thY ((w3.setCell ⟨g, i * 8 + 6, none⟩ (.string (mkS (q + 6)))).setCell ⟨g, i * 8 + 7, none⟩ (.int .i64 ((q : Int) + 1 + 1 + 1 + 1 + 1 + 1 + 1))) base 25 (.slice (some ⟨g, 0, none⟩) n c) _ := t1.t7 (set_getN (unhide hf6) _) ((q : Int) + 1 + 1 + 1 + 1 + 1 + 1 + 1)
        simp only [List.set_set] at t2
        have hfin : (⟨((q : Int)), ((q : Int) + 1), (((q : Int) + 1 + 1) % 3 == 0), (((q : Int) + 1 + 1 + 1) % 3 == 0), (((q : Int) + 1 + 1 + 1 + 1) % 3 == 0), (((q : Int) + 1 + 1 + 1 + 1 + 1) % 3 == 0), (mkS (q + 6)), ((q : Int) + 1 + 1 + 1 + 1 + 1 + 1 + 1)⟩ : Th) = mkT1 k i := by unfold mkT1; rw [← unhide hq]; exact mkT0_is q
        rw [hfin, unhide HS] at t2
        have bt2 := gT (gT bt0 (gS w3 g (i * 8 + 6) (.string (mkS (q + 6))))) (gS _ g (i * 8 + 7) (.int .i64 ((q : Int) + 1 + 1 + 1 + 1 + 1 + 1 + 1)))
        clear hfin t1 s5 bs5 hb3
        go_wp2
        have hk3 : ((q : Int) + 1 + 1 + 1 + 1 + 1 + 1 + 1 + 1) = ((k + 8 * (i + 1) : Nat) : Int) := by have := unhide hq; omega
        go_roundw
        case rel => exact ⟨i + 1, k + 8 * (i + 1), by omega, by go_num, by rw [← hk3], rfl, t2, bt2⟩
        case measure => simp [intOf]; omega
      · have he : i = n := by omega
        have hfin : ((k + 8 * n : Nat) : Int) = (q : Int) := by have := unhide hq; omega
        subst he
        rw [List.drop_of_length_le (by rw [unhide hnn]; exact Nat.le_refl _), List.append_nil] at hown
        replace hfin := hide hfin
        go_wp2
        go_ret
        exact ⟨by rw [unhide hfin]; rfl, hown, hb⟩
set_option maxRecDepth 20000 in
set_option maxHeartbeats 2000000 in
theorem heldThingS_any (v : Value) (k n : Nat) (w : World) (hl : n ≤ 2000000) (hk1 : 1 ≤ k) (hk : k ≤ 20000000) (hr : RdN thY w v (mkT k n)) :
    Calls Try.prog 64 #[v, .int .i64 k] w fun e w' => e = .returned (.int .i64 ((k + 8 * n : Nat) : Int)) ∧ Below w.heap.size w w' := by
  obtain ⟨a, c, rfl, hc⟩ := hr.openT
  rw [mkT_len]
  clear hr
  go_enter Try.func64, Try.ntmps64
  go_wp2
  go_loopw [1, 5] (fun tk ti wr => ∃ i q : Nat, i ≤ n ∧ ti = .int .i64 i ∧ tk = .int .i64 q ∧ Hid (q = k + 8 * i) ∧ Below w.heap.size w wr) (fun _ ti _ => n - (intOf ti).toNat)
  case atStart => exact ⟨0, k, Nat.zero_le _, rfl, rfl, rfl, Below.refl _ _⟩
  case round =>
    obtain ⟨i, q, hi, rfl, rfl, hq, hb⟩ := hrel
    have hsz := hb.size
    by_cases hlt : i < n
    · obtain ⟨g, o, rfl, hg, hat⟩ := hc i _ (mkT_at k n i hlt)
      have hA := hat.below hb hg
      rw [show mkT1 k i = mkT0 q by unfold mkT1; rw [unhide hq], ← mkT0_is q] at hA
      obtain ⟨d0, d1, d2, d3, d4, d5, d6, d7⟩ := AtN.th hA
      dsimp only at d0 d1 d2 d3 d4 d5 d6 d7
      have hq1 : 1 ≤ q := by have := unhide hq; omega
      have hq2 : q ≤ 900000000 := by have := unhide hq; omega
      have hlt' : (i : Int) < (n : Int) := by omega
      have hi0 : (0 : Int) ≤ (i : Int) := by omega
      have hgr : g < wr.heap.size := by omega
      clear hc hat hA
      go_wp2
      go_region_held3 (fun W => W.cell? ⟨g, o + i * 8 + 6, none⟩ = some (.string (mkS (q + 6)))) (first | exact d6 | exact (hb1.cell (p := ⟨g, o + i * 8 + 6, none⟩) hgr).trans d6) (first | (go_at_call 104; refine (markText_at _ (q + 6) (by omega) _ (by omega) (by omega)).mono ?_; rintro e w1 ⟨rfl, hb1⟩))
      have f7 : w1.cell? ⟨g, o + i * 8 + 7, none⟩ = _ := (hb1.cell (p := ⟨g, o + i * 8 + 7, none⟩) hgr).trans d7
      have hb01 := hb.drew.trans (hb1.mono hsz)
      clear d0 d1 d2 d3 d4 d5 d6 d7 hb1 hb
      go_wp2
      have hk3 : ((q : Int) + 1 + 1 + 1 + 1 + 1 + 1 + 1 + 1) = ((k + 8 * (i + 1) : Nat) : Int) := by have := unhide hq; omega
      go_roundw
      case rel => exact ⟨i + 1, k + 8 * (i + 1), by omega, by go_num, by rw [← hk3], rfl, hb01⟩
      case measure => simp [intOf]; omega
    · have he : i = n := by omega
      have hfin : ((k + 8 * n : Nat) : Int) = (q : Int) := by have := unhide hq; omega
      replace hfin := hide hfin
      go_wp2
      go_ret
      exact ⟨by rw [unhide hfin]; rfl, hb⟩
end Go.Proofs.Ytoacaennpddoeaa

/- The laws' helpers on books. -/
namespace Go.Proofs.Ytoacaennpddoeaa
open Go.RowKit
def bkSz (b : Bk) : Nat := b.wd.size + (b.ths.length + thsSz b.ths) + b.ch.size
/-- How large the texts of a book that comes in may be. -/
def BkTx (b : Bk) : Prop := b.wd.size ≤ maxLen ∧ b.ch.size ≤ maxLen ∧ b.ths.length ≤ maxLen ∧ ∀ x ∈ b.ths, x.val.size ≤ maxLen
set_option maxRecDepth 20000 in
set_option maxHeartbeats 2000000 in
theorem szBook_any (b : Bk) (v : Value) (L : Int) (hL : 0 ≤ L ∧ L ≤ 1048576) (w : World) (hr : RdBk w v b) (hz : BkTx b) :
    Calls Try.prog 27 #[v, .int .i64 L] w fun e w' => (∃ z : Int, e = .returned (.int .i64 z) ∧ (z < 0 ∨ z = L - (bkSz b : Int) ∧ 0 ≤ z)) ∧ Below w.heap.size w w' := by
  obtain ⟨wd, tr, ths, la, ch, ct⟩ := b
  obtain ⟨a, n, c, rfl, hn, hu⟩ := hr.open
  obtain ⟨z1, z2, z3, z4⟩ := hz
  dsimp only at hn hu z1 z2 z3 z4
  have C := hide (fun (l : Int) (hl : 0 ≤ l ∧ l ≤ 1048576) W (h : RdN thY W (.slice a n c) ths) => szThingS_any ths (.slice a n c) l hl W h z3 z4)
  unfold maxLen at z1 z2
  unfold bkSz
  dsimp only
  subst hn
  by_cases c1 : L - (wd.size : Int) < 0
  · clear C hu z3 z4
    go_enter Try.func27, Try.ntmps27
    go_wp2
    go_ret
    exact ⟨⟨-1, rfl, .inl (by decide)⟩, (Below.refl _ w).alloc (Nat.le_refl _) _⟩
  · have hl : 0 ≤ L - (wd.size : Int) ∧ L - (wd.size : Int) ≤ 1048576 := by omega
    clear z3 z4
    replace hu := hide hu
    go_enter Try.func27, Try.ntmps27
    go_wp2_with fail
    obtain ⟨W, hW, hX, hB, hs1⟩ := one_cb w #[.string wd, .int .i64 tr, .slice a ths.length c, .int .i64 la, .string ch, .int .i64 ct] 50
    rw [hW]
    clear hW
    refine (unhide C _ hl _ ((unhide hu).below hB)).mono ?_
    rintro e w1 ⟨⟨z, rfl, hz⟩, hb1⟩
    have T1 := hB.trans (hb1.mono hB.size)
    have hX1 := hX.step hb1
    clear hb1 hB hX C hu
    have x4 := hX1.cell 4 (v := .string ch) rfl
    rcases hz with hz | ⟨hz, hz0⟩
    · go_wp2
      go_ret
      exact ⟨⟨-1, rfl, .inl (by decide)⟩, T1⟩
    · have hz' : ¬ z < 0 := by omega
      have hz9 : z ≤ 1048576 := by omega
      replace hz := hide hz
      by_cases c2 : z - (ch.size : Int) < 0
      · go_wp2
        go_ret
        exact ⟨⟨-1, rfl, .inl (by decide)⟩, T1⟩
      · go_wp2
        go_ret
        exact ⟨⟨_, rfl, .inr ⟨by have := unhide hz; omega, by omega⟩⟩, T1⟩
theorem bkc_one (wd : ByteArray) (tr : Int) (a : Option Addr) (n c : Nat) (la : Int) (ch : ByteArray) (ct : Int) : (#[.string wd, .int .i64 tr, .slice a n c, .int .i64 la, .string ch, .int .i64 ct] : Array Value).all (·.oneCell') = true := by simp [Value.oneCell']
set_option maxRecDepth 20000 in
set_option maxHeartbeats 2000000 in
theorem toBook_any (b : Bk) (v : Value) (w : World) (hr : RdBk w v b) (hn9 : b.ths.length ≤ 1048576) :
    Calls Try.prog 28 #[v] w fun e w' => (∃ a c, e = .returned (bkv b (.slice a b.ths.length c)) ∧ OwnN thY w' w.heap.size 25 (.slice a b.ths.length c) b.ths) ∧ Below w.heap.size w w' := by
  obtain ⟨wd, tr, ths, la, ch, ct⟩ := b
  obtain ⟨a, n, c, rfl, hn, hu⟩ := hr.open
  dsimp only at hn hu hn9
  have C := hide (fun W (h : RdN thY W (.slice a n c) ths) => toThingS_any ths (.slice a n c) W h hn9)
  subst hn
  replace hu := hide hu
  go_enter Try.func28, Try.ntmps28
  go_wp2_with fail
  obtain ⟨W, hW, hX, hY, hZ, hB, hs1⟩ := three_cb w #[.string wd, .int .i64 tr, .slice a ths.length c, .int .i64 la, .string ch, .int .i64 ct] #[.string ⟨#[]⟩, .int .i64 0, .slice none 0 0, .int .i64 0, .string ⟨#[]⟩, .int .i64 0] #[.string wd, .int .i64 tr, .slice none 0 0, .int .i64 0, .string ⟨#[]⟩, .int .i64 0] 50 36 36
  rw [hW]
  clear hW
  refine (unhide C _ ((unhide hu).below hB)).mono ?_
  rintro e w1 ⟨⟨a1, c1, rfl, ho⟩, hb1⟩
  have T1 := hB.trans (hb1.mono hB.size)
  have hX1 := hX.step hb1
  have hY1 := hY.step hb1
  have hZ1 := hZ.step hb1
  have ho1 := ho.low (base' := w.heap.size + 1 + 1 + 1) (by omega)
  clear hb1 hB hX C hu hY hZ ho
  have x3 : w1.cell? ⟨w.heap.size, 3, none⟩ = some (.int .i64 la) := hX1.cell 3 rfl
  have z1 := hZ1.cell 2 (v := .slice none 0 0) rfl
  have z2 := hZ1.frozen 2
  have hZ2 := hZ1.set 2 (.slice a1 ths.length c1)
  have hX2 := hX1.set_other (h := w.heap.size + 1 + 1) (k := 2) (by omega) (.slice a1 ths.length c1)
  have y3 := hX2.cell 3 (v := .int .i64 la) rfl
  have z3 := hZ2.frozen 3
  have q3 := hZ2.cell 3 (v := .int .i64 0) rfl
  have hZ3 := hZ2.set 3 (.int .i64 la)
  have hX3 := hX2.set_other (h := w.heap.size + 1 + 1) (k := 3) (by omega) (.int .i64 la)
  have y4 := hX3.cell 4 (v := .string ch) rfl
  have z4 := hZ3.frozen 4
  have q4 := hZ3.cell 4 (v := .string ⟨#[]⟩) rfl
  have hZ4 := hZ3.set 4 (.string ch)
  have hX4 := hX3.set_other (h := w.heap.size + 1 + 1) (k := 4) (by omega) (.string ch)
  have y5 := hX4.cell 5 (v := .int .i64 ct) rfl
  have z5 := hZ4.frozen 5
  have q5 := hZ4.cell 5 (v := .int .i64 0) rfl
  have hZ5 := hZ4.set 5 (.int .i64 ct)
  clear hX2 hX3 hX4 hr
  have hZ6 := hide (cb_eq hZ5 (show (#[.string wd, .int .i64 tr, .slice a1 ths.length c1, .int .i64 la, .string ch, .int .i64 ct] : Array Value) = _ from rfl))
  have hY6 := hide ((((hY1.set_other (h := w.heap.size + 1 + 1) (k := 2) (by omega) (.slice a1 ths.length c1)).set_other (h := w.heap.size + 1 + 1) (k := 3) (by omega) (.int .i64 la)).set_other (h := w.heap.size + 1 + 1) (k := 4) (by omega) (.string ch)).set_other (h := w.heap.size + 1 + 1) (k := 5) (by omega) (.int .i64 ct))
  have T2 := hide ((((T1.setCell (p := ⟨w.heap.size + 1 + 1, 2, none⟩) (by show _ ≤ w.heap.size + 1 + 1; omega) (.slice a1 ths.length c1)).setCell (p := ⟨w.heap.size + 1 + 1, 3, none⟩) (by show _ ≤ w.heap.size + 1 + 1; omega) (.int .i64 la)).setCell (p := ⟨w.heap.size + 1 + 1, 4, none⟩) (by show _ ≤ w.heap.size + 1 + 1; omega) (.string ch)).setCell (p := ⟨w.heap.size + 1 + 1, 5, none⟩) (by show _ ≤ w.heap.size + 1 + 1; omega) (.int .i64 ct))
  have ho2 := hide ((((ho1.other (a := ⟨w.heap.size + 1 + 1, 2, none⟩) (by show w.heap.size + 1 + 1 < _; omega) (.slice a1 ths.length c1)).other (a := ⟨w.heap.size + 1 + 1, 3, none⟩) (by show w.heap.size + 1 + 1 < _; omega) (.int .i64 la)).other (a := ⟨w.heap.size + 1 + 1, 4, none⟩) (by show w.heap.size + 1 + 1 < _; omega) (.string ch)).other (a := ⟨w.heap.size + 1 + 1, 5, none⟩) (by show w.heap.size + 1 + 1 < _; omega) (.int .i64 ct))
  clear hZ1 hZ2 hZ3 hZ4 hZ5 hY1 T1 ho1
  clear hX1 hs1
  go_upto_region 8 with fail
  refine wp_gen (fun W5 => CB W5 (w.heap.size + 1 + 1) 36 #[.string wd, .int .i64 tr, .slice a1 ths.length c1, .int .i64 la, .string ch, .int .i64 ct] ∧ CB W5 (w.heap.size + 1) 36 #[.string ⟨#[]⟩, .int .i64 0, .slice none 0 0, .int .i64 0, .string ⟨#[]⟩, .int .i64 0] ∧ Below w.heap.size w W5 ∧ OwnN thY W5 (w.heap.size + 1 + 1 + 1) 25 (.slice a1 ths.length c1) ths) ⟨unhide hZ6, unhide hY6, unhide T2, unhide ho2⟩ ?_
  rintro W5 ⟨hZ7, hY7, T3, ho3⟩
  clear hZ6 hY6 T2 ho2
  go_wp2_with (first
    | (refine wpList_load_row rfl 36 (.tmp 3) rfl (w.heap.size + 1 + 1) rfl 36 #[.string wd, .int .i64 tr, .slice a1 ths.length c1, .int .i64 la, .string ch, .int .i64 ct] (0, 0) _ hZ7 Try.underlying36 rfl rfl ?_)
    | (refine wpList_store_row rfl 36 (.tmp 2) (.tmp 23) rfl (w.heap.size + 1) #[.string wd, .int .i64 tr, .slice a1 ths.length c1, .int .i64 la, .string ch, .int .i64 ct] rfl rfl 36 _ hY7 rfl rfl (bkc_one _ _ _ _ _ _ _ _) ?_))
  have hY8 := setRow_heap _ (w.heap.size + 1) _ #[.string wd, .int .i64 tr, .slice a1 ths.length c1, .int .i64 la, .string ch, .int .i64 ct] 36 (0, 0) hY7
  have T4 := Go.below_setRow T3 (show w.heap.size ≤ w.heap.size + 1 by omega) #[.string wd, .int .i64 tr, .slice a1 ths.length c1, .int .i64 la, .string ch, .int .i64 ct]
  have ho4 := ho3.setRow (g := w.heap.size + 1) (by omega) #[.string wd, .int .i64 tr, .slice a1 ths.length c1, .int .i64 la, .string ch, .int .i64 ct]
  exact bodyPost_ret (results_cb (by exact Try.results28) _ _ (w.heap.size + 1) 36 _ _ rfl hY8 Try.underlying36 rfl) rfl ⟨⟨_, _, rfl, ho4.low (by omega)⟩, T4⟩
set_option maxRecDepth 20000 in
set_option maxHeartbeats 1000000 in
theorem eqBook_any (b : Bk) (v1 v2 : Value) (w : World) (hr1 : RdBk w v1 b) (hr2 : RdBk w v2 b) (hn9 : b.ths.length ≤ 2000000) :
    Calls Try.prog 24 #[v1, v2] w fun e w' => e = .returned (.bool true) ∧ Below w.heap.size w w' := by
  obtain ⟨wd, tr, ths, la, ch, ct⟩ := b
  obtain ⟨a1, n1, c1, rfl, hn1, hu1⟩ := hr1.open
  obtain ⟨a2, n2, c2, rfl, hn2, hu2⟩ := hr2.open
  dsimp only at hn1 hu1 hn2 hu2 hn9
  subst hn1 hn2
  have C := hide (fun W (h1 : RdN thY W (.slice a1 ths.length c1) ths) (h2 : RdN thY W (.slice a2 ths.length c2) ths) => eqThingS_any ths (.slice a1 ths.length c1) (.slice a2 ths.length c2) W h1 h2 hn9)
  replace hu1 := hide hu1
  replace hu2 := hide hu2
  clear hr1 hr2
  go_enter Try.func24, Try.ntmps24
  go_wp2_with fail
  obtain ⟨W, hW, hX, hY, hB, hs1⟩ := two_cb w #[.string wd, .int .i64 tr, .slice a1 ths.length c1, .int .i64 la, .string ch, .int .i64 ct] #[.string wd, .int .i64 tr, .slice a2 ths.length c2, .int .i64 la, .string ch, .int .i64 ct] 36 36
  rw [hW]
  clear hW
  refine (unhide C _ ((unhide hu1).below hB) ((unhide hu2).below hB)).mono ?_
  rintro e w1 ⟨rfl, hb1⟩
  have T1 := hB.trans (hb1.mono hB.size)
  have hX1 := hX.step hb1
  have hY1 := hY.step hb1
  clear hb1 hB hX hY C hu1 hu2
  have x3 := hX1.cell 3 (v := .int .i64 la) rfl
  have x4 := hX1.cell 4 (v := .string ch) rfl
  have x5 := hX1.cell 5 (v := .int .i64 ct) rfl
  have y3 := hY1.cell 3 (v := .int .i64 la) rfl
  have y4 := hY1.cell 4 (v := .string ch) rfl
  have y5 := hY1.cell 5 (v := .int .i64 ct) rfl
  clear hX1 hY1
  go_wp2
  go_ret
  exact ⟨rfl, T1⟩
set_option maxRecDepth 20000 in
set_option maxHeartbeats 1000000 in
theorem markBook_any (b : Bk) (u : Value) (base k M : Nat) (w : World) (hM : M = k + 8 * b.ths.length) (hl : b.ths.length ≤ 2000000) (hk1 : 1 ≤ k) (hk : k ≤ 20000000) (hbase : base ≤ w.heap.size) (ho : OwnN thY w base 25 u b.ths) :
    Calls Try.prog 25 #[bkv b u, .int .i64 k] w fun e w' => e = .returned (.int .i64 (M : Int)) ∧ OwnN thY w' base 25 u (mkT k b.ths.length) ∧ w.grownBy w' u.ownBlock := by
  obtain ⟨wd, tr, ths, la, ch, ct⟩ := b
  dsimp only at hM hl ho ⊢
  have C := hide (fun W (h1 : base ≤ W.heap.size) (h2 : OwnN thY W base 25 u ths) => markThingS_any u base k ths W hl hk1 hk h1 h2)
  rw [← hM] at C
  obtain ⟨a, c, rfl⟩ := ho.rd.shape
  have HO := hide ho
  clear ho hM
  unfold bkv
  dsimp only
  go_enter Try.func25, Try.ntmps25
  go_wp2_with fail
  refine ((unhide C) _ (by simp; omega) (by exact (unhide HO).alloc _)).mono ?_
  rintro e w1 ⟨rfl, ho1, hb1⟩
  clear C HO
  go_wp2
  go_ret
  exact ⟨rfl, ho1, gT (gB ((Below.refl w.heap.size w).alloc (Nat.le_refl _) _) _) hb1⟩
set_option maxRecDepth 20000 in
set_option maxHeartbeats 1000000 in
theorem heldBook_any (b : Bk) (u : Value) (k n M : Nat) (w : World) (hM : M = k + 8 * n) (hl : n ≤ 2000000) (hk1 : 1 ≤ k) (hk : k ≤ 20000000) (ho : RdN thY w u (mkT k n)) :
    Calls Try.prog 26 #[bkv b u, .int .i64 k] w fun e w' => e = .returned (.int .i64 (M : Int)) ∧ Below w.heap.size w w' := by
  obtain ⟨wd, tr, ths, la, ch, ct⟩ := b
  have C := hide (fun W (h2 : RdN thY W u (mkT k n)) => heldThingS_any u k n W hl hk1 hk h2)
  rw [← hM] at C
  obtain ⟨a, c, rfl⟩ := ho.shape
  have HO := hide ho
  have hM0 : ¬ (M : Int) < 0 := by omega
  clear ho hM
  unfold bkv
  dsimp only
  go_enter Try.func26, Try.ntmps26
  go_wp2_with fail
  refine ((unhide C) _ (by exact (unhide HO).alloc _)).mono ?_
  rintro e w1 ⟨rfl, hb1⟩
  clear C HO
  go_wp2
  go_ret
  exact ⟨rfl, ((Below.refl w.heap.size w).alloc (Nat.le_refl _) _).trans (hb1.mono (by simp))⟩
end Go.Proofs.Ytoacaennpddoeaa

