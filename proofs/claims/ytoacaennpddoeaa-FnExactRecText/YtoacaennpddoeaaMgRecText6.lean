/- Merged: Rwo, ArgBk, Bok2, Bok3, EqR, ThI1, ThI2, Hld. -/
import Derived.Test.YtoacaennpddoeaaMgRecText1
import Derived.Test.YtoacaennpddoeaaMgRecText2
import Derived.Test.YtoacaennpddoeaaMgRecText3
import Derived.Test.YtoacaennpddoeaaMgRecText4
import Derived.Test.YtoacaennpddoeaaMgRecText5
import Derived.Laws.Rows
import Derived.Laws.Tables
import Derived.Laws.CopyOwn
import Derived.Laws.CopyRow
import Derived.Deep.Slices
import Derived.ChangeSame
import Derived.Lib.SmallJoins
import Derived.Deep.DeepCutAuto
import Derived.Deep.RegionHeld3
/- Laws of no program: rows of values of several cells each: one of them loaded whole, stored whole, one cell of one of them set; a row of zeros; appends inside a region that draws. -/
namespace Go.Proofs.Ytoacaennpddoeaa
open Go.RowKit
/-- Of a world only what is named is kept. -/
theorem wp_gen {P : Program} {c : Code} {Q : Exit → Act → World → Prop} {a : Act} {w : World} (Pr : World → Prop) (h : Pr w) (K : ∀ W, Pr W → Code.wp P c Q a W) : Code.wp P c Q a w := K w h
theorem calls_gen {P : Program} {F : FuncId} {args : Array Value} {R : Ending → World → Prop} {w : World} (Pr : World → Prop) (h : Pr w) (K : ∀ W, Pr W → Calls P F args W R) : Calls P F args w R := K w h
theorem wpList_gen {P : Program} {ops : Array Oper} {rest : List Oper} {a : Act} {Q : Exit → Act → World → Prop} {w : World} (Pr : World → Prop) (h : Pr w) (K : ∀ W, Pr W → wpList P ops Q rest a W) : wpList P ops Q rest a w := K w h
section
variable {α : Type} {L : Lay α}
theorem addr_addN (g o j : Nat) : (⟨g, o, none⟩ : Addr).add j = ⟨g, o + j, none⟩ := by unfold Addr.add; split <;> simp_all
theorem flat_set (L : Lay α) (j : Nat) (u : Value) : ∀ (xs : List α) (k : Nat) (x y : α), xs[k]? = some x → L.c y = (L.c x).set j u → j < L.m → (xs.flatMap L.c).set (k * L.m + j) u = (xs.set k y).flatMap L.c
  | [], k, x, y, h, _, _ => by simp at h
  | z :: r, 0, x, y, h, hy, hj => by
    simp only [List.getElem?_cons_zero, Option.some.injEq] at h
    subst h
    rw [Nat.zero_mul, Nat.zero_add, List.set_cons_zero, List.flatMap_cons, List.flatMap_cons, hy]
    rw [List.set_append_left _ _ (by rw [L.len]; exact hj)]
  | z :: r, k + 1, x, y, h, hy, hj => by
    have ih := flat_set L j u r k x y (by simpa using h) hy hj
    rw [List.set_cons_succ, List.flatMap_cons, List.flatMap_cons, ← ih]
    rw [List.set_append_right _ _ (by rw [L.len, Nat.succ_mul]; omega), L.len, show (k + 1) * L.m + j - L.m = k * L.m + j by rw [Nat.succ_mul]; omega]
theorem OwnN.set1 {w : World} {base g n c : Nat} {e : TypeId} {xs : List α} (h : OwnN L w base e (.slice (some ⟨g, 0, none⟩) n c) xs) {k : Nat} {x : α} (hk : xs[k]? = some x) (y : α) (j : Nat) (u : Value) (hj : j < L.m) (hy : L.c y = (L.c x).set j u) :
    OwnN L (w.setCell ⟨g, k * L.m + j, none⟩ u) base e (.slice (some ⟨g, 0, none⟩) n c) (xs.set k y) := by
  have hl := h.len
  unfold OwnN at h ⊢
  rw [List.length_set, ← flat_set L j u xs k x y hk hy hj]
  rw [hl] at h ⊢
  exact ownsRow_set h _ _
theorem set_getN {xs : List α} {k : Nat} {f : α} (h : xs[k]? = some f) (x : α) : (xs.set k x)[k]? = some x := by
  rw [List.getElem?_set]
  simp [(List.getElem?_eq_some_iff.1 h).1]
/-- What stands behind a store of several cells into a block at o. -/
def putC (l vs : List Value) (o : Nat) : List Value := l.take o ++ vs ++ l.drop (o + vs.length)
theorem flat_put (L : Lay α) : ∀ (xs : List α) (k : Nat) (y : α), k < xs.length → putC (xs.flatMap L.c) (L.c y) (k * L.m) = (xs.set k y).flatMap L.c
  | [], k, y, h => by simp at h
  | z :: r, 0, y, _ => by
    unfold putC
    rw [Nat.zero_mul, Nat.zero_add, List.take_zero, List.nil_append, List.set_cons_zero, List.flatMap_cons, List.flatMap_cons]
    rw [List.drop_append_of_le_length (by rw [L.len, L.len]; exact Nat.le_refl _)]
    rw [show (L.c z).drop (L.c y).length = [] from List.drop_of_length_le (by rw [L.len, L.len]; exact Nat.le_refl _), List.nil_append]
  | z :: r, k + 1, y, h => by
    have ih := flat_put L r k y (by simpa using h)
    unfold putC at ih ⊢
    rw [List.set_cons_succ, List.flatMap_cons, List.flatMap_cons, ← ih]
    have hz := L.len z
    have hy := L.len y
    rw [List.take_append, List.drop_append, List.take_of_length_le (by rw [hz, Nat.succ_mul]; omega), List.drop_of_length_le (by rw [hz, hy, Nat.succ_mul]; omega)]
    rw [hz, show (k + 1) * L.m - L.m = k * L.m by rw [Nat.succ_mul]; omega, show (k + 1) * L.m + (L.c y).length - L.m = k * L.m + (L.c y).length by rw [Nat.succ_mul]; omega]
    simp
theorem ownsRow_put {w : World} {base g n c : Nat} {e : TypeId} {xs : List α} (h : OwnN L w base e (.slice (some ⟨g, 0, none⟩) n c) xs) {k : Nat} (hk : k < n) (y : α) :
    ∃ cur, w.heap[g]? = some (.cells cur e (0, 0)) ∧ k * L.m + L.m ≤ cur.size ∧ OwnN L (w.setRow g (putC cur.toList (L.c y) (k * L.m)).toArray) base e (.slice (some ⟨g, 0, none⟩) n c) (xs.set k y) := by
  have hl := h.len
  unfold OwnN at h
  rcases h.2 with ⟨h1, _⟩ | ⟨g', cap, cur, h1, hb, h2, h3, h4, h5, h6⟩
  · cases h1
  · simp only [Value.slice.injEq, Option.some.injEq, Addr.mk.injEq] at h1
    obtain ⟨⟨rfl, _⟩, _, rfl⟩ := h1
    have hkm : k * L.m + L.m ≤ n * L.m := by rw [← Nat.succ_mul]; exact Nat.mul_le_mul_right _ hk
    have hnc : n * L.m ≤ cur.size := by rw [h5]; exact Nat.mul_le_mul_right _ (by omega)
    refine ⟨cur, h2, Nat.le_trans hkm hnc, ?_⟩
    unfold OwnN
    have hy := L.len y
    have hpl : (putC cur.toList (L.c y) (k * L.m)).length = cur.size := by
      unfold putC
      rw [List.length_append, List.length_append, List.length_take, List.length_drop, hy, Array.length_toList]
      omega
    have hcut : (putC cur.toList (L.c y) (k * L.m)).take (n * L.m) = (xs.set k y).flatMap L.c := by
      rw [← flat_put L xs k y (by omega)]
      have e6 : xs.flatMap L.c = cur.toList.take (n * L.m) := by rw [← hl]; exact h6.symm
      rw [e6]
      unfold putC
      rw [List.take_append, List.take_append]
      rw [List.length_append, List.length_take, hy, Array.length_toList, show min (k * L.m) cur.size = k * L.m by omega]
      rw [List.take_of_length_le (l := List.take (k * L.m) cur.toList) (by rw [List.length_take]; omega)]
      rw [List.take_of_length_le (l := L.c y) (by rw [hy]; omega)]
      rw [List.take_take, show min (k * L.m) (n * L.m) = k * L.m by omega, List.drop_take]
    refine ⟨by rw [lay_len, List.length_set], .inr ⟨g, c, (putC cur.toList (L.c y) (k * L.m)).toArray, ?_, hb, setRow_heap _ g _ _ e (0, 0) h2, by rw [List.length_set]; exact h3, h4, by rw [List.size_toArray, hpl]; exact h5, ?_⟩⟩
    · rw [List.length_set, hl]
    · rw [List.length_set, hl]; exact hcut
/-- A value of several cells loaded whole out of a place where it lies. -/
theorem run_loadVar_n {P : Program} (w : World) (g o : Nat) (ty : TypeId) (x : α) (hA : AtN L w g o x) (fs : Array Field) (hu : P.underlying ty = some (.struct fs)) (hi : (P.info? ty).map (·.size) = some L.m) :
    (loadVar ty ⟨g, o, none⟩).run P w = .ok (.agg (L.c x).toArray) w := by
  have hl : (loadCells ⟨g, o, none⟩ (L.c x).length).run P w = .ok (L.c x).toArray w :=
    run_loadCells_list (P := P) w ⟨g, o, none⟩ _ (fun j v hv => by rw [addr_addN]; exact hA j v hv)
  cases hq : P.info? ty with
  | none => simp [hq] at hi
  | some i =>
    have hs : i.size = L.m := by simpa [hq] using hi
    have hagg : (isAgg ty).run P w = .ok true w := by
      unfold isAgg
      rw [Sem.run_bind, run_underlying hu w]
      rfl
    rw [L.len] at hl
    simp [loadVar, Sem.run_bind, hagg, sizeOf, typeInfo, hq, hs, hl]
theorem run_load_n {P : Program} (w : World) (g o : Nat) (ty : TypeId) (x : α) (hA : AtN L w g o x) (fs : Array Field) (hu : P.underlying ty = some (.struct fs)) (hi : (P.info? ty).map (·.size) = some L.m) :
    (Instr.loadAt ty (.pointer (some ⟨g, o, none⟩))).run P w = .ok (.agg (L.c x).toArray) w := by
  simp only [Instr.loadAt, Instr.sureAddr, Sem.run_bind, Sem.run_pure, Result.andThen_ok, run_loadVar_n w g o ty x hA fs hu hi]
theorem wpList_load_n {P : Program} {ops : Array Oper} {rest : List Oper} {q : Oper} {a : Act} {w : World} {Q : Exit → Act → World → Prop} (hgd : q.guard = none) (ty : TypeId) (p : Operand) (ho : q.op = .load ty p)
    (g o : Nat) (hx : a.eval p = .pointer (some ⟨g, o, none⟩)) (x : α) (hA : AtN L w g o x) (fs : Array Field) (hu : P.underlying ty = some (.struct fs)) (hi : (P.info? ty).map (·.size) = some L.m)
    (h : wpList P ops Q rest (a.put q.dst (.agg (L.c x).toArray)) w) : wpList P ops Q (q :: rest) a w := by
  refine wpList_plain hgd fun _ hK => ?_
  unfold Oper.wp execOp
  simp only [ho, hx, Instr.loadAt, Instr.sureAddr, Sem.run_bind, Sem.run_pure, Result.andThen_ok, run_loadVar_n w g o ty x hA fs hu hi]
  exact hK _ _ h
theorem wpList_store_n {P : Program} {ops : Array Oper} {rest : List Oper} {q : Oper} {a : Act} {w : World} {Q : Exit → Act → World → Prop} (hgd : q.guard = none) (ty : TypeId) (p z : Operand) (ho : q.op = .store ty p z)
    {base g n c k : Nat} {e : TypeId} {xs : List α} (hx : a.eval p = .pointer (some ⟨g, k * L.m, none⟩)) (y : α) (hy : a.eval z = .agg (L.c y).toArray) (hown : OwnN L w base e (.slice (some ⟨g, 0, none⟩) n c) xs) (hk : k < n) (hi : (P.info? ty).map (·.size) = some L.m)
    (h : ∀ w', OwnN L w' base e (.slice (some ⟨g, 0, none⟩) n c) (xs.set k y) → w.grownBy w' (some g) → w'.heap.size = w.heap.size → wpList P ops Q rest (a.put q.dst undef) w') : wpList P ops Q (q :: rest) a w := by
  obtain ⟨cur, h2, hle, h3⟩ := ownsRow_put hown hk y
  have hst := run_storeCells_at P g (k * L.m) e (L.c y) 0 cur w h2 (by rw [L.len]; omega) (fun v hv => L.one y v hv)
  rw [show k * L.m + 0 = k * L.m from rfl, show cur.toList.take (k * L.m) ++ L.c y ++ cur.toList.drop (k * L.m + (L.c y).length) = putC cur.toList (L.c y) (k * L.m) from rfl] at hst
  have hG : w.grownBy (w.setRow g (putC cur.toList (L.c y) (k * L.m)).toArray) (some g) := by
    refine ⟨rfl, rfl, rfl, ?_, fun j hj hne => Go.setRow_other w g j _ (fun e => hne (by rw [e]))⟩
    have := Go.setRow_size w g (putC cur.toList (L.c y) (k * L.m)).toArray
    omega
  have hS : (w.setRow g (putC cur.toList (L.c y) (k * L.m)).toArray).heap.size = w.heap.size := Go.setRow_size w g _
  refine wpList_plain hgd fun _ hK => ?_
  unfold Oper.wp execOp
  cases hq : P.info? ty with
  | none => simp [hq] at hi
  | some i =>
    have hs : i.size = L.m := by simpa [hq] using hi
    have hst' : (storeVar ty ⟨g, k * L.m, none⟩ (.agg (L.c y).toArray)).run P w = .ok () (w.setRow g (putC cur.toList (L.c y) (k * L.m)).toArray) := by
      simp [storeVar, sizeOf, typeInfo, hq, Value.cells, hs, L.len, hst]
    simp only [ho, hx, hy, Instr.storeAt, Instr.sureAddr, Sem.run_bind, Sem.run_pure, Result.andThen_ok, hst']
    exact hK _ _ (h _ h3 hG hS)
theorem OwnN.below_at {w w' : World} {base B : Nat} {e : TypeId} {v : Value} {xs : List α} (h : OwnN L w base e v xs) (hb : Below B w w') (hB : ∀ g, v.ownBlock = some g → g < B) : OwnN L w' base e v xs := by
  refine ⟨h.1, ?_⟩
  rcases h.2 with hn | ⟨g, cap, cur, rfl, hbg, hgg, rest⟩
  · exact .inl hn
  · refine .inr ⟨g, cap, cur, rfl, hbg, ?_, rest⟩
    rw [hb.block g (hB g rfl)]
    exact hgg
/-- An older block is laid anew: the row stands. -/
theorem OwnN.setRow {w : World} {base g : Nat} {e : TypeId} {v : Value} {xs : List α} (h : OwnN L w base e v xs) (hg : g < base) (cs : Array Value) : OwnN L (w.setRow g cs) base e v xs := by
  refine ⟨h.1, ?_⟩
  rcases h.2 with hn | ⟨g', cap, cur, rfl, hbg, hgg, rest⟩
  · exact .inl hn
  · refine .inr ⟨g', cap, cur, rfl, hbg, ?_, rest⟩
    rw [Go.setRow_other w g g' cs (by omega)]
    exact hgg
theorem OwnN.open {w : World} {base : Nat} {e : TypeId} {v : Value} {xs : List α} (h : OwnN L w base e v xs) : (xs = [] ∧ ∃ a c, v = .slice a 0 c) ∨ ∃ g c, v = .slice (some ⟨g, 0, none⟩) xs.length c ∧ base ≤ g ∧ g < w.heap.size := by
  rcases h.2 with ⟨h1, h2⟩ | ⟨g, cap, cur, h1, hb, hg, _⟩
  · exact .inl ⟨List.eq_nil_of_length_eq_zero h2, none, 0, h1⟩
  · exact .inr ⟨g, cap, h1, hb, (Array.getElem?_eq_some_iff.1 hg).1⟩
theorem madeN (L : Lay α) (z : Value) (x : α) (hz : z.cells = (L.c x).toArray) (n : Nat) : (madeCells z.cells (n * L.m)).toList = (List.replicate n x).flatMap L.c := by
  rw [hz]
  unfold madeCells
  apply List.ext_getElem?
  intro j
  rw [Array.toList_map, Array.toList_range, List.getElem?_map]
  by_cases hj : j < n * L.m
  · rw [List.getElem?_range hj]
    have hq : j / L.m < n := (Nat.div_lt_iff_lt_mul L.pos).2 hj
    have hr : j % L.m < L.m := Nat.mod_lt _ L.pos
    have hx : (List.replicate n x)[j / L.m]? = some x := by rw [List.getElem?_replicate, if_pos hq]
    have hu := List.getElem?_eq_getElem (show j % L.m < (L.c x).length by rw [L.len]; exact hr)
    have h2 := lay_get (L := L) _ _ _ hx _ _ hu
    have e : j / L.m * L.m + j % L.m = j := by rw [Nat.mul_comm]; exact Nat.div_add_mod j L.m
    rw [e] at h2
    rw [h2, Option.map_some]
    have hs : (L.c x).toArray.size = L.m := by rw [List.size_toArray, L.len]
    rw [hs]
    congr 1
    rw [getElem!_pos _ _ (by rw [hs]; exact hr)]
    simp
  · rw [List.getElem?_eq_none (by simp; omega), List.getElem?_eq_none (by rw [lay_len, List.length_replicate]; omega)]
    rfl
theorem OwnN.made {w : World} {base n : Nat} {e : TypeId} {g : Nat} {z : Value} (x : α) (hz : z.cells = (L.c x).toArray) (h : w.ownsRow base e L.m (.slice (some ⟨g, 0, none⟩) n n) n (madeCells z.cells (n * L.m)).toList) :
    OwnN L w base e (.slice (some ⟨g, 0, none⟩) n n) (List.replicate n x) := by
  rw [madeN L z x hz] at h
  unfold OwnN
  rw [List.length_replicate]
  exact h
theorem take_fillN {xs : List α} {k n : Nat} {f z : α} (hf : xs[k]? = some f) (hn : xs.length = n) :
    (xs.take k ++ List.replicate (n - k) z).set k f = xs.take (k + 1) ++ List.replicate (n - (k + 1)) z := by
  have hk : k < xs.length := (List.getElem?_eq_some_iff.1 hf).1
  have hl : (xs.take k).length = k := by rw [List.length_take]; omega
  rw [List.set_append_right _ _ (by omega), hl, Nat.sub_self, show n - k = (n - (k + 1)) + 1 by omega, List.replicate_succ, List.set_cons_zero, List.take_add_one, hf, List.append_assoc]
  rfl
/-- 'out = append(out, x)' inside a region that draws its order, or outside one. -/
theorem wp_append_m {P : Program} {W : World} {o : Oper} {a : Act} {K : Act → World → Prop} {Q : Exit → Act → World → Prop} (s x : Operand) (t : TypeId)
    (ho : o.op = .call { callee := .builtin .append, args := #[s, x], argTypes := #[t, t] })
    (base B : Nat) (e : TypeId) (i : TypeInfo) (z : Value) (nb : Nat) (ht : P.underlying t = some (.slice e)) (hi : P.info? e = some i) (hz : i.zero = some z) (hsize : i.size = L.m) (hby : i.bytes = nb) (hzs : z.cells.size = L.m)
    (v : Value) (xs : List α) (hs : a.eval s = v) (hown : OwnN L W base e v xs)
    (blk : Nat) (cs : Array Value) (hblk : W.heap[blk]? = some (.cells cs e (0, 0))) (f : α) (hcs : cs.toList = L.c f) (c : Nat) (hx : a.eval x = .slice (some ⟨blk, 0, none⟩) 1 c)
    (n : Nat) (hfn : xs.length = n) (hlen : n ≤ 2000000) (hnb : nb ≤ 1000) (hB : B ≤ base) (hbase : base ≤ W.heap.size) {w00 : World} (hbel : Below B w00 W)
    (h : ∀ a' c' w', OwnN L w' base e (.slice a' (n + 1) c') (xs ++ [f]) → Below B w00 w' → (∀ k, k < W.heap.size → v.ownBlock ≠ some k → w'.heap[k]? = W.heap[k]?) → W.heap.size ≤ w'.heap.size → K (a.put o.dst (.slice a' (n + 1) c')) w') : o.wp P a W K Q := by
  subst hfn
  have hcell : ∀ j u, (L.c f)[j]? = some u → W.cell? ((⟨blk, 0, none⟩ : Addr).add j) = some u := by
    intro j u hu
    rw [addr_addN, Nat.zero_add, cell_of_row W blk j cs e (0, 0) hblk]
    rw [← hcs] at hu
    simpa using hu
  have hmul : (xs.length + 1) * nb ≤ 140737488355328 := Nat.le_trans (Nat.mul_le_mul (show xs.length + 1 ≤ 2000001 by omega) hnb) (by decide)
  refine wp_append_own W s x t ho base e i z L.m nb ht hi hz hsize hby hzs L.pos v xs.length (xs.flatMap L.c) hs hown
    ⟨blk, 0, none⟩ 1 c (L.c f) hx (by rw [L.len, Nat.one_mul]) hcell (L.one f) (by unfold maxLen; omega) hmul hbase ?_
  intro v' w' h2 h3 _
  have h2' : OwnN L w' base e v' (xs ++ [f]) := by unfold OwnN; rw [List.length_append, List.flatMap_append]; simpa using h2
  obtain ⟨a', c', rfl⟩ := h2'.shape
  rw [List.length_append] at h2' ⊢
  refine h a' c' w' h2' (hbel.grown h3 (by omega) ?_) (fun k hk hne => h3.block k hk (fun e => hne e.symm)) h3.size
  intro k hk
  have := (World.ownsRow.lt hown k hk).1
  omega
theorem wpList_append_m {P : Program} {W : World} {ops : Array Oper} {rest : List Oper} {o : Oper} {a : Act} {Q : Exit → Act → World → Prop} (hgd : o.guard = none) (s x : Operand) (t : TypeId)
    (ho : o.op = .call { callee := .builtin .append, args := #[s, x], argTypes := #[t, t] })
    (base B : Nat) (e : TypeId) (i : TypeInfo) (z : Value) (nb : Nat) (ht : P.underlying t = some (.slice e)) (hi : P.info? e = some i) (hz : i.zero = some z) (hsize : i.size = L.m) (hby : i.bytes = nb) (hzs : z.cells.size = L.m)
    (v : Value) (xs : List α) (hs : a.eval s = v) (hown : OwnN L W base e v xs)
    (blk : Nat) (cs : Array Value) (hblk : W.heap[blk]? = some (.cells cs e (0, 0))) (f : α) (hcs : cs.toList = L.c f) (c : Nat) (hx : a.eval x = .slice (some ⟨blk, 0, none⟩) 1 c)
    (n : Nat) (hfn : xs.length = n) (hlen : n ≤ 2000000) (hnb : nb ≤ 1000) (hB : B ≤ base) (hbase : base ≤ W.heap.size) {w00 : World} (hbel : Below B w00 W)
    (h : ∀ a' c' w', OwnN L w' base e (.slice a' (n + 1) c') (xs ++ [f]) → Below B w00 w' → (∀ k, k < W.heap.size → v.ownBlock ≠ some k → w'.heap[k]? = W.heap[k]?) → W.heap.size ≤ w'.heap.size → wpList P ops Q rest (a.put o.dst (.slice a' (n + 1) c')) w') :
    wpList P ops Q (o :: rest) a W :=
  wpList_plain hgd fun _ hK => wp_append_m s x t ho base B e i z nb ht hi hz hsize hby hzs v xs hs hown blk cs hblk f hcs c hx n hfn hlen hnb hB hbase hbel fun a' c' w' h2 h3 h4 h5 => hK _ _ (h a' c' w' h2 h3 h4 h5)
theorem step_append_m {P : Program} {W : World} {ops : Array Oper} {o : Oper} {a : Act} {K : Act → World → Prop} {Q : Exit → Act → World → Prop} {E : Prop} (hg : o.guard = none) (s x : Operand) (t : TypeId)
    (ho : o.op = .call { callee := .builtin .append, args := #[s, x], argTypes := #[t, t] })
    (base B : Nat) (e : TypeId) (i : TypeInfo) (z : Value) (nb : Nat) (ht : P.underlying t = some (.slice e)) (hi : P.info? e = some i) (hz : i.zero = some z) (hsize : i.size = L.m) (hby : i.bytes = nb) (hzs : z.cells.size = L.m)
    (v : Value) (xs : List α) (hs : a.eval s = v) (hown : OwnN L W base e v xs)
    (blk : Nat) (cs : Array Value) (hblk : W.heap[blk]? = some (.cells cs e (0, 0))) (f : α) (hcs : cs.toList = L.c f) (c : Nat) (hx : a.eval x = .slice (some ⟨blk, 0, none⟩) 1 c)
    (n : Nat) (hfn : xs.length = n) (hlen : n ≤ 2000000) (hnb : nb ≤ 1000) (hB : B ≤ base) (hbase : base ≤ W.heap.size) {w00 : World} (hbel : Below B w00 W)
    (h : ∀ a' c' w', OwnN L w' base e (.slice a' (n + 1) c') (xs ++ [f]) → Below B w00 w' → (∀ k, k < W.heap.size → v.ownBlock ≠ some k → w'.heap[k]? = W.heap[k]?) → W.heap.size ≤ w'.heap.size → K (a.put o.dst (.slice a' (n + 1) c')) w') :
    if Region.wanted o (yielded ops a.tmps) = true then Oper.wp P o a W K Q else E := by
  have hw : Region.wanted o (yielded ops a.tmps) = true := by simp [Region.wanted, hg]
  rw [if_pos hw]
  exact wp_append_m s x t ho base B e i z nb ht hi hz hsize hby hzs v xs hs hown blk cs hblk f hcs c hx n hfn hlen hnb hB hbase hbel h
theorem flat_at {w : World} {g o : Nat} {xs : List α} (h : ∀ j x, xs[j]? = some x → AtN L w g (o + j * L.m) x) (j : Nat) (u : Value) (hj : (xs.flatMap L.c)[j]? = some u) : w.cell? ⟨g, o + j, none⟩ = some u := by
  have hlt : j < xs.length * L.m := by rw [← lay_len (L := L)]; exact (List.getElem?_eq_some_iff.1 hj).1
  have hq : j / L.m < xs.length := (Nat.div_lt_iff_lt_mul L.pos).2 hlt
  have hr : j % L.m < L.m := Nat.mod_lt _ L.pos
  have hx := List.getElem?_eq_getElem hq
  have hu := List.getElem?_eq_getElem (show j % L.m < (L.c xs[j / L.m]).length by rw [L.len]; exact hr)
  have e : j / L.m * L.m + j % L.m = j := by rw [Nat.mul_comm]; exact Nat.div_add_mod j L.m
  have h2 := lay_get (L := L) xs _ _ hx _ _ hu
  rw [e, hj] at h2
  have h1 := h _ _ hx _ _ hu
  rw [Nat.add_assoc, e] at h1
  rw [h1, h2]
theorem flat_one (xs : List α) : ∀ u ∈ xs.flatMap L.c, u.oneCell' = true := by
  intro u hu
  obtain ⟨f, _, hf⟩ := List.mem_flatMap.1 hu
  exact L.one f u hf
theorem run_append_noneN {P : Program} {w : World} (base : Nat) (t ty e : TypeId) (i : TypeInfo) (size c : Nat) (ht : P.underlying t = some (.slice e)) (hi : P.info? e = some i)
    (v : Value) (n : Nat) (xs : List Value) (hown : w.ownsRow base e size v n xs) :
    (Builtin.append_ #[t, t] ty #[v, .slice none 0 c]).run P w = .ok v w := by
  rcases hown.2 with ⟨rfl, rfl⟩ | ⟨g, cap, cur, rfl, _, _, hnc, _⟩
  · simp [Builtin.append_, run_underlying ht, sizeOf, typeInfo, hi, Builtin.lenOf, Builtin.firstCells]
  · simp [Builtin.append_, run_underlying ht, sizeOf, typeInfo, hi, Builtin.lenOf, Builtin.firstCells, hnc, storeCells]
/-- 'append(out, row...)': a row that can be read behind a row of the call's own. -/
theorem wp_append_rd {P : Program} {W : World} {o : Oper} {a : Act} {K : Act → World → Prop} {Q : Exit → Act → World → Prop} (s x : Operand) (t : TypeId)
    (ho : o.op = .call { callee := .builtin .append, args := #[s, x], argTypes := #[t, t] })
    (base B : Nat) (e : TypeId) (i : TypeInfo) (z : Value) (nb : Nat) (ht : P.underlying t = some (.slice e)) (hi : P.info? e = some i) (hz : i.zero = some z) (hsize : i.size = L.m) (hby : i.bytes = nb) (hzs : z.cells.size = L.m)
    (v : Value) (ys : List α) (hs : a.eval s = v) (hown : OwnN L W base e v ys) (u : Value) (xs : List α) (hx : a.eval x = u) (hu : RdN L W u xs)
    (n : Nat) (hfn : ys.length + xs.length = n) (hlen : n ≤ 2000000) (hnb : nb ≤ 1000) (hB : B ≤ base) (hbase : base ≤ W.heap.size) {w00 : World} (hbel : Below B w00 W)
    (h : ∀ a' c' w', OwnN L w' base e (.slice a' n c') (ys ++ xs) → Below B w00 w' → W.grownBy w' v.ownBlock → K (a.put o.dst (.slice a' n c')) w') : o.wp P a W K Q := by
  subst hfn
  obtain ⟨a0, c0, rfl⟩ := hu.shape
  cases a0 with
  | none =>
    have hxs : xs = [] := by
      rcases hu with ⟨_, _, _, h⟩ | ⟨g, o', c', h, _⟩
      · exact h
      · simp at h
    subst hxs
    have hr := run_append_noneN (P := P) base t o.type e i L.m c0 ht hi v ys.length (ys.flatMap L.c) hown
    obtain ⟨a1, c1, rfl⟩ := hown.shape
    unfold Oper.wp execOp
    simp only [List.length_nil] at hx
    simp only [ho, resolve, invoke, builtin, Sem.run_bind, Sem.run_pure, Result.andThen_ok, List.map_toArray, List.map_cons, List.map_nil, hs, hx, hr]
    have h2 := h a1 c1 W (by rw [List.append_nil]; exact hown) hbel (gR _ _)
    exact h2
  | some ad =>
    have hcell : ∀ j u, (xs.flatMap L.c)[j]? = some u → W.cell? (ad.add j) = some u := by
      intro j u hj
      rcases hu with ⟨a', c', h1, h2⟩ | ⟨g, o', c', h1, _, _, h3⟩
      · subst h2
        simp at hj
      · simp only [Value.slice.injEq, Option.some.injEq] at h1
        rw [h1.1, addr_addN]
        exact flat_at h3 j u hj
    have hmul : (ys.length + xs.length) * nb ≤ 140737488355328 := Nat.le_trans (Nat.mul_le_mul hlen hnb) (by decide)
    refine wp_append_own W s x t ho base e i z L.m nb ht hi hz hsize hby hzs L.pos v ys.length (ys.flatMap L.c) hs hown
      ad xs.length c0 (xs.flatMap L.c) hx (lay_len xs) hcell (flat_one xs) (by unfold maxLen; omega) hmul hbase ?_
    intro v' w' h2 h3 _
    have h2' : OwnN L w' base e v' (ys ++ xs) := by unfold OwnN; rw [List.length_append, List.flatMap_append]; exact h2
    obtain ⟨a', c', rfl⟩ := h2'.shape
    rw [List.length_append] at h2' ⊢
    refine h a' c' w' h2' (hbel.grown h3 (by omega) ?_) h3
    intro k hk
    have := (World.ownsRow.lt hown k hk).1
    omega
theorem wpList_append_rd {P : Program} {W : World} {ops : Array Oper} {rest : List Oper} {o : Oper} {a : Act} {Q : Exit → Act → World → Prop} (hgd : o.guard = none) (s x : Operand) (t : TypeId)
    (ho : o.op = .call { callee := .builtin .append, args := #[s, x], argTypes := #[t, t] })
    (base B : Nat) (e : TypeId) (i : TypeInfo) (z : Value) (nb : Nat) (ht : P.underlying t = some (.slice e)) (hi : P.info? e = some i) (hz : i.zero = some z) (hsize : i.size = L.m) (hby : i.bytes = nb) (hzs : z.cells.size = L.m)
    (v : Value) (ys : List α) (hs : a.eval s = v) (hown : OwnN L W base e v ys) (u : Value) (xs : List α) (hx : a.eval x = u) (hu : RdN L W u xs)
    (n : Nat) (hfn : ys.length + xs.length = n) (hlen : n ≤ 2000000) (hnb : nb ≤ 1000) (hB : B ≤ base) (hbase : base ≤ W.heap.size) {w00 : World} (hbel : Below B w00 W)
    (h : ∀ a' c' w', OwnN L w' base e (.slice a' n c') (ys ++ xs) → Below B w00 w' → W.grownBy w' v.ownBlock → wpList P ops Q rest (a.put o.dst (.slice a' n c')) w') :
    wpList P ops Q (o :: rest) a W :=
  wpList_plain hgd fun _ hK => wp_append_rd s x t ho base B e i z nb ht hi hz hsize hby hzs v ys hs hown u xs hx hu n hfn hlen hnb hB hbase hbel fun a' c' w' h2 h3 h4 => hK _ _ (h a' c' w' h2 h3 h4)
theorem OwnN.lit0 (w : World) (base : Nat) (e : TypeId) (hb : base ≤ w.heap.size) : OwnN L (w.alloc (.cells #[] e)) base e (.slice (some ⟨w.heap.size, 0, none⟩) 0 0) [] :=
  World.ownsRow_made w #[] 0 hb (by decide) (by simp)
end
end Go.Proofs.Ytoacaennpddoeaa

/- Books, records and rows of them that come in as arguments. -/
namespace Go.Proofs.Ytoacaennpddoeaa
open Go.ChangeShapes Go.WideShapes Go.ChangeAt Go.RowKit Go.WideElems
theorem lt_of_cellB {w : World} {g o : Nat} {u : Value} (h : w.cell? ⟨g, o, none⟩ = some u) : g < w.heap.size := by
  rcases Nat.lt_or_ge g w.heap.size with hg | hg
  · exact hg
  · exfalso
    simp [World.cell?, Array.getElem?_eq_none hg] at h
theorem open_n_gen {α : Type} (L : Lay α) (ok : α → Prop) (z : α) {H : Type} {enc : TypeId × Value → H} {P : Program} {W : World} {spare : Nat → Bool} {held : Bool} {t e : TypeId} {n : Nat} {u : Value} {x : DataW H × List MemPlace} (ht : P.underlying t = some (.slice e)) (ce : P.cellsOf e = L.m)
    (hfile : ∀ k cs y, DataW.trod enc P W 0 spare held k e cs = some y → ∃ f : α, cs = L.c f ∧ ok f)
    (g0 : DataW.trod enc P W 0 spare held n t [u] = some x) :
    ∃ fs : List α, RdN L W u fs ∧ fs.length ≤ maxLen ∧ ∀ f ∈ fs, ok f := by
  rcases Go.Deep.open_slice ht g0 with ⟨hcs, hx⟩ | ⟨a, len, cap, m, n, D, Pl, hcs, _, hl, hm, hmm, hx, hcell⟩
  · simp only [List.cons.injEq, and_true] at hcs
    exact ⟨[], .inl ⟨none, 0, hcs, rfl⟩, by simp, fun f hf => by cases hf⟩
  · simp only [List.cons.injEq, and_true] at hcs
    have hlm : len ≤ m := by rw [hmm]; split <;> omega
    have each : ∀ i, i < len → ∃ f : α, ok f ∧ ∀ j v, (L.c f)[j]? = some v → W.cell? (a.add (i * L.m + j)) = some v := by
      intro i hi
      obtain ⟨cs', h1, h2⟩ := hcell i (by omega)
      obtain ⟨f, rfl, hok⟩ := hfile _ _ _ h2
      rw [ce] at h1
      obtain ⟨_, _, hc⟩ := World.cells?_some h1
      refine ⟨f, hok, fun j v hv => ?_⟩
      have hj : j < L.m := by rw [← L.len f]; exact (List.getElem?_eq_some_iff.1 hv).1
      have e0 := hc j hj
      rw [Go.Deep.add_add] at e0
      rw [e0]
      exact hv
    haveI : Inhabited α := ⟨z⟩
    obtain ⟨F, hF⟩ := Go.Deep.choose_lt each
    by_cases hz : len = 0
    · subst hz
      exact ⟨[], .inl ⟨_, cap, hcs, rfl⟩, by simp, fun f hf => by cases hf⟩
    · obtain ⟨g, o, spot⟩ := a
      have hp0 : 0 < (L.c (F 0)).length := by rw [L.len]; exact L.pos
      have hc0 := (hF 0 (by omega)).2 0 _ (List.getElem?_eq_getElem hp0)
      have hspot : spot = none := by simpa [Addr.add] using World.cell?_spot hc0
      subst hspot
      have hg : g < W.heap.size := by
        rw [add_plain] at hc0
        exact lt_of_cellB hc0
      refine ⟨(List.range len).map F, .inr ⟨g, o, cap, by simpa using hcs, by simp; omega, hg, ?_⟩, by simp; omega, ?_⟩
      · intro j f hj
        rw [List.getElem?_map] at hj
        have hjl : j < len := by
          rcases Nat.lt_or_ge j len with h | h
          · exact h
          · rw [List.getElem?_eq_none (by simpa using h)] at hj; cases hj
        rw [List.getElem?_range hjl] at hj
        simp only [Option.map_some, Option.some.injEq] at hj
        subst hj
        intro i u hu
        have e0 := (hF j hjl).2 i u hu
        rw [add_plain] at e0
        rw [Nat.add_assoc]
        exact e0
      · intro f hf
        obtain ⟨j, hj, rfl⟩ := List.mem_map.1 hf
        exact (hF j (List.mem_range.1 hj)).1
theorem list6 {α : Type} {l : List α} (h : l.length = 6) : ∃ a b c d e f, l = [a, b, c, d, e, f] := by
  match l, h with
  | [a, b, c, d, e, f], _ => exact ⟨a, b, c, d, e, f, rfl⟩
theorem list4B {α : Type} {l : List α} (h : l.length = 4) : ∃ a b c d, l = [a, b, c, d] := by
  match l, h with
  | [a, b, c, d], _ => exact ⟨a, b, c, d, rfl⟩
theorem list11 {α : Type} {l : List α} (h : l.length = 11) : ∃ x y z m, l = x :: y :: z :: m ∧ m.length = 8 := by
  match l, h with
  | x :: y :: z :: m, h => exact ⟨x, y, z, m, rfl, by simpa using h⟩
theorem cellsThingB : Try.prog.cellsOf 54 = 8 := by kernel_rfl
theorem cellsThingSB : Try.prog.cellsOf 48 = 1 := by kernel_rfl
theorem cellsIntB : Try.prog.cellsOf 3 = 1 := by kernel_rfl
theorem cellsStrB : Try.prog.cellsOf 9 = 1 := by kernel_rfl
theorem cellsBookB : Try.prog.cellsOf 50 = 6 := by kernel_rfl
/-- What a book that comes in reads as: how large its texts may be. -/
def BkIn (b : Bk) : Prop := b.wd.size ≤ maxLen ∧ b.ch.size ≤ maxLen ∧ b.ths.length ≤ maxLen ∧ ∀ x ∈ b.ths, x.val.size ≤ maxLen
set_option maxRecDepth 20000 in
theorem open_book {H : Type} {enc : TypeId × Value → H} {W : World} {base : Nat} {v : Value} {d : DataW H} {ps : List MemPlace} (hv : Value.okWide Try.prog W .any base 50 v)
    (h : DataW.Trod enc Try.prog W 0 (fun _ => true) true 50 v d ps) : ∃ b : Bk, RdBk W v b ∧ BkIn b := by
  obtain ⟨cs, rfl, hsz⟩ := okWide_struct Try.underlying50 hv
  obtain ⟨fuel, hf⟩ := h
  obtain ⟨xs, n, _, _, hl, hlen, hf⟩ := DataW.trod_struct Try.underlying50 hf
  rw [cellsBookB] at hl
  simp only [Value.cells] at hl hf
  obtain ⟨v0, v1, v2, v3, v4, v5, hcs⟩ := list6 hl
  obtain ⟨y0, y1, y2, y3, y4, y5, rfl⟩ := list6 hlen
  rw [hcs] at hf
  have g0 : DataW.trod enc Try.prog W 0 (fun _ => true) true n 9 [v0] = some y0 := by simpa [cellsStrB] using hf 0 _ rfl
  have g1 : DataW.trod enc Try.prog W 0 (fun _ => true) true n 3 [v1] = some y1 := by simpa [cellsIntB] using hf 1 _ rfl
  have g2 : DataW.trod enc Try.prog W 0 (fun _ => true) true n 48 [v2] = some y2 := by simpa [cellsThingSB] using hf 2 _ rfl
  have g3 : DataW.trod enc Try.prog W 0 (fun _ => true) true n 3 [v3] = some y3 := by simpa [cellsIntB] using hf 3 _ rfl
  have g4 : DataW.trod enc Try.prog W 0 (fun _ => true) true n 9 [v4] = some y4 := by simpa [cellsStrB] using hf 4 _ rfl
  have g5 : DataW.trod enc Try.prog W 0 (fun _ => true) true n 3 [v5] = some y5 := by simpa [cellsIntB] using hf 5 _ rfl
  obtain ⟨x0, e0, _, w0⟩ := DataW.trod_string Try.underlying9 g0
  obtain ⟨x1, e1, _, _⟩ := DataW.trod_int Try.underlying3 g1
  obtain ⟨fs, hr, hn, hz⟩ := open_n_gen thY (fun x => x.val.size ≤ maxLen) thZ Try.underlying48 cellsThingB (fun k cs y hk => thing_at (enc := enc) (W := W) (spare := fun _ => true) (held := true) k cs y hk) g2
  obtain ⟨x3, e3, _, _⟩ := DataW.trod_int Try.underlying3 g3
  obtain ⟨x4, e4, _, w4⟩ := DataW.trod_string Try.underlying9 g4
  obtain ⟨x5, e5, _, _⟩ := DataW.trod_int Try.underlying3 g5
  simp only [List.cons.injEq, and_true] at e0 e1 e3 e4 e5
  subst e0 e1 e3 e4 e5
  refine ⟨⟨x0, x1, fs, x3, x4, x5⟩, ⟨v2, ?_, hr⟩, w0, w4, hn, hz⟩
  have e : cs.toList = [.string x0, .int .i64 x1, v2, .int .i64 x3, .string x4, .int .i64 x5] := hcs
  obtain ⟨l⟩ := cs
  simp only at e
  rw [e]
  rfl
theorem cellsRecB : Try.prog.cellsOf 56 = 11 := by kernel_rfl
theorem cellsThingB9 : Try.prog.cellsOf 54 = 8 := by kernel_rfl
theorem cellsIntB9 : Try.prog.cellsOf 3 = 1 := by kernel_rfl
theorem cellsStrB9 : Try.prog.cellsOf 9 = 1 := by kernel_rfl
def RcIn (r : Rc) : Prop := r.tx.size ≤ maxLen ∧ r.th.val.size ≤ maxLen
theorem array8 (x : Th) : (thC x).toList = [.int .i64 x.id, .int .i64 x.kind, .bool x.hid, .bool x.fix, .bool x.sgn, .bool x.wrp, .string x.val, .int .i64 x.nxt] := rfl
set_option maxRecDepth 20000 in
theorem rec_at {H : Type} {enc : TypeId × Value → H} {W : World} {spare : Nat → Bool} {held : Bool} (k : Nat) (cs : List Value) (y : DataW H × List MemPlace) (h : DataW.trod enc Try.prog W 0 spare held k 56 cs = some y) : ∃ r : Rc, cs = (rcC r).toList ∧ RcIn r := by
  obtain ⟨xs, n, _, rfl, hl, hlen, hf⟩ := DataW.trod_struct Try.underlying56 h
  rw [cellsRecB] at hl
  obtain ⟨v0, v1, v2, m, rfl, hm⟩ := list11 hl
  obtain ⟨y0, y1, y2, y3, rfl⟩ := list4B hlen
  have g0 : DataW.trod enc Try.prog W 0 spare held n 3 [v0] = some y0 := by simpa [cellsIntB9] using hf 0 _ rfl
  have g1 : DataW.trod enc Try.prog W 0 spare held n 9 [v1] = some y1 := by simpa [cellsStrB9] using hf 1 _ rfl
  have g2 : DataW.trod enc Try.prog W 0 spare held n 3 [v2] = some y2 := by simpa [cellsIntB9] using hf 2 _ rfl
  have g3 : DataW.trod enc Try.prog W 0 spare held n 54 m = some y3 := by
    have := hf 3 _ rfl
    simpa [cellsThingB9, List.take_of_length_le (Nat.le_of_eq hm)] using this
  obtain ⟨x0, e0, _, _⟩ := DataW.trod_int Try.underlying3 g0
  obtain ⟨x1, e1, _, w1⟩ := DataW.trod_string Try.underlying9 g1
  obtain ⟨x2, e2, _, _⟩ := DataW.trod_int Try.underlying3 g2
  obtain ⟨x, hx, hok⟩ := thing_at _ _ _ g3
  simp only [List.cons.injEq, and_true] at e0 e1 e2
  subst e0 e1 e2
  exact ⟨⟨x0, x1, x2, x⟩, by rw [hx]; rfl, w1, hok⟩
set_option maxRecDepth 20000 in
theorem open_rec {H : Type} {enc : TypeId × Value → H} {W : World} {base : Nat} {v : Value} {d : DataW H} {ps : List MemPlace} (hv : Value.okWide Try.prog W .any base 56 v)
    (h : DataW.Trod enc Try.prog W 0 (fun _ => true) true 56 v d ps) : ∃ r : Rc, v = .agg (rcC r) ∧ RcIn r := by
  obtain ⟨cs, rfl, hsz⟩ := okWide_struct Try.underlying56 hv
  obtain ⟨fuel, hf⟩ := h
  obtain ⟨x, hx, hok⟩ := rec_at _ _ _ hf
  refine ⟨x, ?_, hok⟩
  have e : cs.toList = (rcC x).toList := by simpa [Value.cells] using hx
  rw [Array.toList_inj.1 e]
end Go.Proofs.Ytoacaennpddoeaa

/- A thing held against the zero thing, over the loaded program. -/
namespace Go.Proofs.Ytoacaennpddoeaa
open Go.RowKit
set_option maxRecDepth 20000 in
set_option maxHeartbeats 1600000 in
theorem eqZ (x : Th) (W : World) : (binOp .eql 25 (.agg (thC x)) (.agg #[.int .i64 0, .int .i64 0, .bool false, .bool false, .bool false, .bool false, .string ⟨#[]⟩, .int .i64 0])).run Try.prog W = .ok (.bool (thNo x)) W := by
  obtain ⟨id, kind, hid, fix, sgn, wrp, val, nxt⟩ := x
  simp only [thC]
  have HN : thNo ⟨id, kind, hid, fix, sgn, wrp, val, nxt⟩ = (decide (id = 0) && (decide (kind = 0) && (!hid && (!fix && (!sgn && (!wrp && (decide (val = ⟨#[]⟩) && decide (nxt = 0)))))))) := by
    unfold thNo ThNo
    cases hid <;> cases fix <;> cases sgn <;> cases wrp <;> simp
  rw [HN]
  by_cases h1 : id = 0
  · subst h1
    by_cases h2 : kind = 0
    · subst h2
      cases hid <;> cases fix <;> cases sgn <;> cases wrp
      all_goals
        by_cases h3 : val = ⟨#[]⟩
        · subst h3
          by_cases h4 : nxt = 0
          · subst h4; go_simp
          · go_simp
        · have h5 : ¬ val.toList = [] := fun h => h3 (ByteArray.ext (Array.toList_inj.1 (by rw [← ByteArray.toList_eq, h])))
          go_simp
    · go_simp
  · go_simp
end Go.Proofs.Ytoacaennpddoeaa

/- Records by the given model: texts, over the loaded program. -/
namespace Go.Proofs.Ytoacaennpddoeaa
open Go.RowKit
theorem pre21 (k : Nat) (s : ByteArray) : (⟨(byteOf k :: s.data.toList).toArray⟩ : ByteArray) = ⟨#[byteOf k]⟩ ++ s := by
  apply ByteArray.ext
  apply Array.toList_inj.1
  rw [ByteArray.data_append]
  simp
theorem ttB_le (x : Th) : (ttB x).size ≤ 200 := by
  unfold ttB
  split
  · exact thT_le ‹_›
  · exact Nat.zero_le _
set_option maxRecDepth 20000 in
set_option maxHeartbeats 6400000 in
theorem specRecText_any (r : Rc) (w : World) :
    Calls Try.prog 12 #[.agg (rcC r)] w fun e w' => e = .returned (.tuple #[.string (rcT r), .bool (rcOk r)]) ∧ Below w.heap.size w w' := by
  obtain ⟨kd, tx, nm, ⟨id, kind, hid, fix, sgn, wrp, val, nxt⟩⟩ := r
  obtain ⟨no, hno⟩ : ∃ b, b = thNo ⟨id, kind, hid, fix, sgn, wrp, val, nxt⟩ := ⟨_, rfl⟩
  obtain ⟨ot, hot⟩ : ∃ b, b = thOk ⟨id, kind, hid, fix, sgn, wrp, val, nxt⟩ := ⟨_, rfl⟩
  have N1 : no = true ↔ ThNo ⟨id, kind, hid, fix, sgn, wrp, val, nxt⟩ := by rw [hno]; unfold thNo; exact decide_eq_true_iff
  have N2 : ot = true ↔ ThOk ⟨id, kind, hid, fix, sgn, wrp, val, nxt⟩ := by rw [hot]; exact thOk_iff _
  have CV := hide (fun (n : Nat) (hn : n ≤ 1000000000) W => l01Var_any n W hn)
  have CI := hide (fun (a b : Int) W => l01In_any nm a b W)
  have CT := hide (fun W => specThingText_any ⟨id, kind, hid, fix, sgn, wrp, val, nxt⟩ W)
  rw [← hot] at CT
  have TB : ot = true → ttB ⟨id, kind, hid, fix, sgn, wrp, val, nxt⟩ = ⟨(thL ⟨id, kind, hid, fix, sgn, wrp, val, nxt⟩).toArray⟩ := fun h => by unfold ttB; rw [← hot, if_pos h]; rfl
  have HT := ttB_le ⟨id, kind, hid, fix, sgn, wrp, val, nxt⟩
  generalize ttB ⟨id, kind, hid, fix, sgn, wrp, val, nxt⟩ = tt at *
  replace HT := hide HT
  have RO := rcOk_iff ⟨kd, tx, nm, ⟨id, kind, hid, fix, sgn, wrp, val, nxt⟩⟩
  have RN := rcOk_not ⟨kd, tx, nm, ⟨id, kind, hid, fix, sgn, wrp, val, nxt⟩⟩
  have RT : rcT ⟨kd, tx, nm, ⟨id, kind, hid, fix, sgn, wrp, val, nxt⟩⟩ = if rcOk ⟨kd, tx, nm, ⟨id, kind, hid, fix, sgn, wrp, val, nxt⟩⟩ = true then ⟨(rcL ⟨kd, tx, nm, ⟨id, kind, hid, fix, sgn, wrp, val, nxt⟩⟩).toArray⟩ else ⟨#[]⟩ := rfl
  unfold RcOk at RO RN
  dsimp only at RO RN
  rw [← N1, ← N2] at RO RN
  unfold rcL at RT
  dsimp only at RT
  generalize thL ⟨id, kind, hid, fix, sgn, wrp, val, nxt⟩ = tl at *
  generalize rcOk ⟨kd, tx, nm, ⟨id, kind, hid, fix, sgn, wrp, val, nxt⟩⟩ = ok at *
  generalize rcT ⟨kd, tx, nm, ⟨id, kind, hid, fix, sgn, wrp, val, nxt⟩⟩ = rt at *
  simp only [rcC]
  replace CT := hide (show ∀ W, Calls Try.prog 40 #[.agg #[.int .i64 id, .int .i64 kind, .bool hid, .bool fix, .bool sgn, .bool wrp, .string val, .int .i64 nxt]] W (fun e w' => e = .returned (.tuple #[.string tt, .bool ot]) ∧ Below W.heap.size W w') from unhide CT)
  replace RO := hide RO; replace RN := hide RN; replace RT := hide RT; replace N2 := hide N2; replace TB := hide TB; replace hot := hide hot; replace N1 := hide N1
  have EZ := fun W => eqZ ⟨id, kind, hid, fix, sgn, wrp, val, nxt⟩ W
  rw [← hno] at EZ
  simp only [thC] at EZ
  replace hno := hide hno
  go_enter Try.func12, Try.ntmps12
  obtain ⟨W, hW, hX, hB, hs1⟩ := one_cb w #[.int .i64 kd, .string tx, .int .i64 nm, .int .i64 id, .int .i64 kind, .bool hid, .bool fix, .bool sgn, .bool wrp, .string val, .int .i64 nxt] 27
  have x0 := hX.cell 0 (v := (.int .i64 _)) rfl
  have x1 := hX.cell 1 (v := (.string _)) rfl
  have x2 := hX.cell 2 (v := (.int .i64 _)) rfl
  have x3 := hX.cell 3 (v := (.int .i64 _)) rfl
  have x4 := hX.cell 4 (v := (.int .i64 _)) rfl
  have x5 := hX.cell 5 (v := (.bool _)) rfl
  have x6 := hX.cell 6 (v := (.bool _)) rfl
  have x7 := hX.cell 7 (v := (.bool _)) rfl
  have x8 := hX.cell 8 (v := (.bool _)) rfl
  have x9 := hX.cell 9 (v := (.string _)) rfl
  have x10 := hX.cell 10 (v := (.int .i64 _)) rfl
  go_upto_region 3 with fail
  clear hW hno N1 hot N2 EZ
  by_cases k1 : kd = 1
  · subst k1
    by_cases c1 : tx.size = 32
    · have c1' : (tx.size : Int) = 32 := by omega
      by_cases c2 : nm = 0
      · cases no with
        | false =>
          have hok : ok = false := (unhide RN).2 (by rintro (⟨q1, q2, q3, q4⟩ | ⟨q1, q2, q3, q4, q5⟩ | ⟨q1, q2, q3, q4⟩ | ⟨q1, q2, q3, q4, q5⟩) <;> first | omega | (simp_all; done) | (exact absurd q1 (by decide)))
          have hrt := unhide RT
          rw [hok, if_neg (by decide)] at hrt
          subst hok
          subst hrt
          clear RO RN RT TB CV CI CT
          go_wp2
          go_ret2
          exact ⟨rfl, hB⟩
        | true =>
          have hok : ok = true := (unhide RO).2 (.inl ⟨rfl, c1, c2, rfl⟩)
          have hrt := unhide RT
          rw [hok, if_pos rfl, if_pos rfl] at hrt
          have hp : (⟨(byteOf (Int.toNat 1) :: tx.data.toList).toArray⟩ : ByteArray) = ⟨#[1]⟩ ++ tx := pre21 1 tx
          rw [hp] at hrt
          subst hok
          subst hrt
          clear hp
          have s1 : ¬ 9223372036854775807 < 1 + tx.size := by omega
          have s2 : 1 + tx.size ≤ 9223372036854775807 := by omega
          replace c1 := hide c1
          clear RO RN RT TB CV CI CT
          go_wp2
          go_ret2
          exact ⟨rfl, hB⟩
      · skip
        have hok : ok = false := (unhide RN).2 (by rintro (⟨q1, q2, q3, q4⟩ | ⟨q1, q2, q3, q4, q5⟩ | ⟨q1, q2, q3, q4⟩ | ⟨q1, q2, q3, q4, q5⟩) <;> first | omega | (simp_all; done) | (exact absurd q1 (by decide)))
        have hrt := unhide RT
        rw [hok, if_neg (by decide)] at hrt
        subst hok
        subst hrt
        clear RO RN RT TB CV CI CT
        go_wp2
        go_ret2
        exact ⟨rfl, hB⟩
    · have c1' : ¬ (tx.size : Int) = 32 := by omega
      have hok : ok = false := (unhide RN).2 (by rintro (⟨q1, q2, q3, q4⟩ | ⟨q1, q2, q3, q4, q5⟩ | ⟨q1, q2, q3, q4⟩ | ⟨q1, q2, q3, q4, q5⟩) <;> first | omega | (simp_all; done) | (exact absurd q1 (by decide)))
      have hrt := unhide RT
      rw [hok, if_neg (by decide)] at hrt
      subst hok
      subst hrt
      clear RO RN RT TB CV CI CT
      go_wp2
      go_ret2
      exact ⟨rfl, hB⟩
  · skip
    by_cases k2 : kd = 2
    · subst k2
      by_cases c1 : tx.size = 0
      · have e1 := size_zero_is c1
        subst e1
        cases no with
        | false =>
          have hok : ok = false := (unhide RN).2 (by rintro (⟨q1, q2, q3, q4⟩ | ⟨q1, q2, q3, q4, q5⟩ | ⟨q1, q2, q3, q4⟩ | ⟨q1, q2, q3, q4, q5⟩) <;> first | omega | (simp_all; done) | (exact absurd q1 (by decide)))
          have hrt := unhide RT
          rw [hok, if_neg (by decide)] at hrt
          subst hok
          subst hrt
          clear RO RN RT TB CV CI CT
          go_wp2
          go_ret2
          exact ⟨rfl, hB⟩
        | true =>
          by_cases c2 : 0 ≤ nm ∧ nm ≤ 3
          · obtain ⟨c2, c3⟩ := c2
            have d1 : decide ((0 : Int) ≤ nm) = true := decide_eq_true c2
            have d2 : decide (nm ≤ (3 : Int)) = true := decide_eq_true c3
            obtain ⟨m, hm⟩ : ∃ m : Nat, nm = (m : Int) := ⟨nm.toNat, by omega⟩
            subst hm
            have hok : ok = true := (unhide RO).2 (.inr (.inl ⟨rfl, rfl, rfl, c2, c3⟩))
            have hrt := unhide RT
            rw [hok, if_pos rfl, if_neg (by decide), if_neg (by decide)] at hrt
            subst hok
            have I1 := hide (unhide CI 0 3)
            have V1 := hide (unhide CV m (by omega))
            rw [d1, d2] at I1
            have hvs : (ByteArray.mk (varB m).toArray).size ≤ 2000 := by show (varB m).toArray.size ≤ 2000; simp; have := (varB_len m).2; omega
            have tn : ((m : Int)).toNat = m := Int.toNat_natCast m
            rw [tn] at hrt
            have hp : (⟨(byteOf (Int.toNat 2) :: varB m).toArray⟩ : ByteArray) = ⟨#[2]⟩ ++ ⟨(varB m).toArray⟩ := pre21 2 ⟨(varB m).toArray⟩
            rw [hp] at hrt
            generalize (ByteArray.mk (varB m).toArray) = vb at *
            subst hrt
            have s1 : ¬ 9223372036854775807 < 1 + vb.size := by omega
            have s2 : 1 + vb.size ≤ 9223372036854775807 := by omega
            clear RO RN RT TB CV CI CT d1 d2 hp tn
            go_wp2_with fail
            refine (unhide I1 _).mono ?_
            rintro e u1 ⟨rfl, hu1⟩
            subst hu1
            go_wp2_with fail
            refine (unhide V1 _).mono ?_
            rintro e u2 ⟨rfl, hb2⟩
            have T2 := hB.trans (hb2.mono hB.size)
            clear I1 V1 hb2
            go_wp2
            go_ret2
            exact ⟨rfl, T2⟩
          · have I1 := hide (unhide CI 0 3)
            have d1 : (decide ((0 : Int) ≤ nm) && decide (nm ≤ (3 : Int))) = false := by
              rw [Bool.and_eq_false_iff]
              rcases Int.lt_or_le nm 0 with q | q
              · exact .inl (decide_eq_false (by omega))
              · exact .inr (decide_eq_false (by omega))
            rw [d1] at I1
            have hok : ok = false := (unhide RN).2 (by rintro (⟨q1, q2, q3, q4⟩ | ⟨q1, q2, q3, q4, q5⟩ | ⟨q1, q2, q3, q4⟩ | ⟨q1, q2, q3, q4, q5⟩) <;> first | omega | (simp_all; done) | (exact absurd q1 (by decide)))
            have hrt := unhide RT
            rw [hok, if_neg (by decide)] at hrt
            subst hok
            subst hrt
            clear RO RN RT TB CV CI CT d1
            go_wp2_with fail
            refine (unhide I1 _).mono ?_
            rintro e u1 ⟨rfl, hu1⟩
            subst hu1
            go_wp2
            go_ret2
            exact ⟨rfl, hB⟩
      · have c1' : ¬ tx.toList = [] := fun h => c1 (by show tx.data.size = 0; rw [← Array.length_toList, ← ByteArray.toList_eq, h]; rfl)
        have hok : ok = false := (unhide RN).2 (by rintro (⟨q1, q2, q3, q4⟩ | ⟨q1, q2, q3, q4, q5⟩ | ⟨q1, q2, q3, q4⟩ | ⟨q1, q2, q3, q4, q5⟩) <;> first | omega | (simp_all; done) | (exact absurd q1 (by decide)))
        have hrt := unhide RT
        rw [hok, if_neg (by decide)] at hrt
        subst hok
        subst hrt
        clear RO RN RT TB CV CI CT
        go_wp2
        go_ret2
        exact ⟨rfl, hB⟩
    · skip
      by_cases k3 : kd = 3
      · subst k3
        cases ot with
        | false =>
          have hok : ok = false := (unhide RN).2 (by rintro (⟨q1, q2, q3, q4⟩ | ⟨q1, q2, q3, q4, q5⟩ | ⟨q1, q2, q3, q4⟩ | ⟨q1, q2, q3, q4, q5⟩) <;> first | omega | (simp_all; done) | (exact absurd q1 (by decide)))
          have hrt := unhide RT
          rw [hok, if_neg (by decide)] at hrt
          subst hok
          subst hrt
          clear RO RN RT TB CV CI
          go_wp2_with fail
          refine (unhide CT W).mono ?_
          rintro e u1 ⟨rfl, hb1⟩
          have T1 := hB.trans (hb1.mono hB.size)
          have hX1 := hX.step hb1
          clear hb1 hB hX x0 x1 x2 x3 x4 x5 x6 x7 x8 x9 x10 CT
          have x0 := hX1.cell 0 (v := (.int .i64 _)) rfl
          have x1 := hX1.cell 1 (v := (.string _)) rfl
          have x2 := hX1.cell 2 (v := (.int .i64 _)) rfl
          have x3 := hX1.cell 3 (v := (.int .i64 _)) rfl
          have x4 := hX1.cell 4 (v := (.int .i64 _)) rfl
          have x5 := hX1.cell 5 (v := (.bool _)) rfl
          have x6 := hX1.cell 6 (v := (.bool _)) rfl
          have x7 := hX1.cell 7 (v := (.bool _)) rfl
          have x8 := hX1.cell 8 (v := (.bool _)) rfl
          have x9 := hX1.cell 9 (v := (.string _)) rfl
          have x10 := hX1.cell 10 (v := (.int .i64 _)) rfl
          go_wp2
          go_ret2
          exact ⟨rfl, T1⟩
        | true =>
          by_cases c1 : tx.size = 0
          · have e1 := size_zero_is c1
            subst e1
            by_cases c2 : nm = 0
            · have hok : ok = true := (unhide RO).2 (.inr (.inr (.inl ⟨rfl, rfl, rfl, c2⟩)))
              have hrt := unhide RT
              rw [hok, if_pos rfl, if_neg (by decide), if_pos rfl] at hrt
              subst hok
              have htt := unhide TB rfl
              have hp : (⟨(byteOf (Int.toNat 3) :: tl).toArray⟩ : ByteArray) = ⟨#[3]⟩ ++ tt := by rw [htt]; exact pre21 3 ⟨tl.toArray⟩
              rw [hp] at hrt
              subst hrt
              have s0 := unhide HT
              have s1 : ¬ 9223372036854775807 < 1 + tt.size := by omega
              have s2 : 1 + tt.size ≤ 9223372036854775807 := by omega
              clear RO RN RT TB CV CI hp htt s0
              go_wp2_with fail
              refine (unhide CT W).mono ?_
              rintro e u1 ⟨rfl, hb1⟩
              have T1 := hB.trans (hb1.mono hB.size)
              have hX1 := hX.step hb1
              clear hb1 hB hX x0 x1 x2 x3 x4 x5 x6 x7 x8 x9 x10 CT
              have x0 := hX1.cell 0 (v := (.int .i64 _)) rfl
              have x1 := hX1.cell 1 (v := (.string _)) rfl
              have x2 := hX1.cell 2 (v := (.int .i64 _)) rfl
              have x3 := hX1.cell 3 (v := (.int .i64 _)) rfl
              have x4 := hX1.cell 4 (v := (.int .i64 _)) rfl
              have x5 := hX1.cell 5 (v := (.bool _)) rfl
              have x6 := hX1.cell 6 (v := (.bool _)) rfl
              have x7 := hX1.cell 7 (v := (.bool _)) rfl
              have x8 := hX1.cell 8 (v := (.bool _)) rfl
              have x9 := hX1.cell 9 (v := (.string _)) rfl
              have x10 := hX1.cell 10 (v := (.int .i64 _)) rfl
              go_wp2
              go_ret2
              exact ⟨rfl, T1⟩
            · skip
              have hok : ok = false := (unhide RN).2 (by rintro (⟨q1, q2, q3, q4⟩ | ⟨q1, q2, q3, q4, q5⟩ | ⟨q1, q2, q3, q4⟩ | ⟨q1, q2, q3, q4, q5⟩) <;> first | omega | (simp_all; done) | (exact absurd q1 (by decide)))
              have hrt := unhide RT
              rw [hok, if_neg (by decide)] at hrt
              subst hok
              subst hrt
              clear RO RN RT TB CV CI
              go_wp2_with fail
              refine (unhide CT W).mono ?_
              rintro e u1 ⟨rfl, hb1⟩
              have T1 := hB.trans (hb1.mono hB.size)
              have hX1 := hX.step hb1
              clear hb1 hB hX x0 x1 x2 x3 x4 x5 x6 x7 x8 x9 x10 CT
              have x0 := hX1.cell 0 (v := (.int .i64 _)) rfl
              have x1 := hX1.cell 1 (v := (.string _)) rfl
              have x2 := hX1.cell 2 (v := (.int .i64 _)) rfl
              have x3 := hX1.cell 3 (v := (.int .i64 _)) rfl
              have x4 := hX1.cell 4 (v := (.int .i64 _)) rfl
              have x5 := hX1.cell 5 (v := (.bool _)) rfl
              have x6 := hX1.cell 6 (v := (.bool _)) rfl
              have x7 := hX1.cell 7 (v := (.bool _)) rfl
              have x8 := hX1.cell 8 (v := (.bool _)) rfl
              have x9 := hX1.cell 9 (v := (.string _)) rfl
              have x10 := hX1.cell 10 (v := (.int .i64 _)) rfl
              go_wp2
              go_ret2
              exact ⟨rfl, T1⟩
          · have c1' : ¬ tx.toList = [] := fun h => c1 (by show tx.data.size = 0; rw [← Array.length_toList, ← ByteArray.toList_eq, h]; rfl)
            have hok : ok = false := (unhide RN).2 (by rintro (⟨q1, q2, q3, q4⟩ | ⟨q1, q2, q3, q4, q5⟩ | ⟨q1, q2, q3, q4⟩ | ⟨q1, q2, q3, q4, q5⟩) <;> first | omega | (simp_all; done) | (exact absurd q1 (by decide)))
            have hrt := unhide RT
            rw [hok, if_neg (by decide)] at hrt
            subst hok
            subst hrt
            clear RO RN RT TB CV CI
            go_wp2_with fail
            refine (unhide CT W).mono ?_
            rintro e u1 ⟨rfl, hb1⟩
            have T1 := hB.trans (hb1.mono hB.size)
            have hX1 := hX.step hb1
            clear hb1 hB hX x0 x1 x2 x3 x4 x5 x6 x7 x8 x9 x10 CT
            have x0 := hX1.cell 0 (v := (.int .i64 _)) rfl
            have x1 := hX1.cell 1 (v := (.string _)) rfl
            have x2 := hX1.cell 2 (v := (.int .i64 _)) rfl
            have x3 := hX1.cell 3 (v := (.int .i64 _)) rfl
            have x4 := hX1.cell 4 (v := (.int .i64 _)) rfl
            have x5 := hX1.cell 5 (v := (.bool _)) rfl
            have x6 := hX1.cell 6 (v := (.bool _)) rfl
            have x7 := hX1.cell 7 (v := (.bool _)) rfl
            have x8 := hX1.cell 8 (v := (.bool _)) rfl
            have x9 := hX1.cell 9 (v := (.string _)) rfl
            have x10 := hX1.cell 10 (v := (.int .i64 _)) rfl
            go_wp2
            go_ret2
            exact ⟨rfl, T1⟩
      · skip
        by_cases k4 : kd = 4
        · subst k4
          by_cases c1 : tx.size = 0
          · have e1 := size_zero_is c1
            subst e1
            cases no with
            | false =>
              have hok : ok = false := (unhide RN).2 (by rintro (⟨q1, q2, q3, q4⟩ | ⟨q1, q2, q3, q4, q5⟩ | ⟨q1, q2, q3, q4⟩ | ⟨q1, q2, q3, q4, q5⟩) <;> first | omega | (simp_all; done) | (exact absurd q1 (by decide)))
              have hrt := unhide RT
              rw [hok, if_neg (by decide)] at hrt
              subst hok
              subst hrt
              clear RO RN RT TB CV CI CT
              go_wp2
              go_ret2
              exact ⟨rfl, hB⟩
            | true =>
              by_cases c2 : 1 ≤ nm ∧ nm ≤ 1000
              · obtain ⟨c2, c3⟩ := c2
                have d1 : decide ((1 : Int) ≤ nm) = true := decide_eq_true c2
                have d2 : decide (nm ≤ (1000 : Int)) = true := decide_eq_true c3
                obtain ⟨m, hm⟩ : ∃ m : Nat, nm = (m : Int) := ⟨nm.toNat, by omega⟩
                subst hm
                have hok : ok = true := (unhide RO).2 (.inr (.inr (.inr ⟨rfl, rfl, rfl, c2, c3⟩)))
                have hrt := unhide RT
                rw [hok, if_pos rfl, if_neg (by decide), if_neg (by decide)] at hrt
                subst hok
                have I1 := hide (unhide CI 1 1000)
                have V1 := hide (unhide CV m (by omega))
                rw [d1, d2] at I1
                have hvs : (ByteArray.mk (varB m).toArray).size ≤ 2000 := by show (varB m).toArray.size ≤ 2000; simp; have := (varB_len m).2; omega
                have tn : ((m : Int)).toNat = m := Int.toNat_natCast m
                rw [tn] at hrt
                have hp : (⟨(byteOf (Int.toNat 4) :: varB m).toArray⟩ : ByteArray) = ⟨#[4]⟩ ++ ⟨(varB m).toArray⟩ := pre21 4 ⟨(varB m).toArray⟩
                rw [hp] at hrt
                generalize (ByteArray.mk (varB m).toArray) = vb at *
                subst hrt
                have s1 : ¬ 9223372036854775807 < 1 + vb.size := by omega
                have s2 : 1 + vb.size ≤ 9223372036854775807 := by omega
                clear RO RN RT TB CV CI CT d1 d2 hp tn
                go_wp2_with fail
                refine (unhide I1 _).mono ?_
                rintro e u1 ⟨rfl, hu1⟩
                subst hu1
                go_wp2_with fail
                refine (unhide V1 _).mono ?_
                rintro e u2 ⟨rfl, hb2⟩
                have T2 := hB.trans (hb2.mono hB.size)
                clear I1 V1 hb2
                go_wp2
                go_ret2
                exact ⟨rfl, T2⟩
              · have I1 := hide (unhide CI 1 1000)
                have d1 : (decide ((1 : Int) ≤ nm) && decide (nm ≤ (1000 : Int))) = false := by
                  rw [Bool.and_eq_false_iff]
                  rcases Int.lt_or_le nm 1 with q | q
                  · exact .inl (decide_eq_false (by omega))
                  · exact .inr (decide_eq_false (by omega))
                rw [d1] at I1
                have hok : ok = false := (unhide RN).2 (by rintro (⟨q1, q2, q3, q4⟩ | ⟨q1, q2, q3, q4, q5⟩ | ⟨q1, q2, q3, q4⟩ | ⟨q1, q2, q3, q4, q5⟩) <;> first | omega | (simp_all; done) | (exact absurd q1 (by decide)))
                have hrt := unhide RT
                rw [hok, if_neg (by decide)] at hrt
                subst hok
                subst hrt
                clear RO RN RT TB CV CI CT d1
                go_wp2_with fail
                refine (unhide I1 _).mono ?_
                rintro e u1 ⟨rfl, hu1⟩
                subst hu1
                go_wp2
                go_ret2
                exact ⟨rfl, hB⟩
          · have c1' : ¬ tx.toList = [] := fun h => c1 (by show tx.data.size = 0; rw [← Array.length_toList, ← ByteArray.toList_eq, h]; rfl)
            have hok : ok = false := (unhide RN).2 (by rintro (⟨q1, q2, q3, q4⟩ | ⟨q1, q2, q3, q4, q5⟩ | ⟨q1, q2, q3, q4⟩ | ⟨q1, q2, q3, q4, q5⟩) <;> first | omega | (simp_all; done) | (exact absurd q1 (by decide)))
            have hrt := unhide RT
            rw [hok, if_neg (by decide)] at hrt
            subst hok
            subst hrt
            clear RO RN RT TB CV CI CT
            go_wp2
            go_ret2
            exact ⟨rfl, hB⟩
        · skip
          have hok : ok = false := (unhide RN).2 (by rintro (⟨q1, q2, q3, q4⟩ | ⟨q1, q2, q3, q4, q5⟩ | ⟨q1, q2, q3, q4⟩ | ⟨q1, q2, q3, q4, q5⟩) <;> first | omega | (simp_all; done) | (exact absurd q1 (by decide)))
          have hrt := unhide RT
          rw [hok, if_neg (by decide)] at hrt
          subst hok
          subst hrt
          clear RO RN RT TB CV CI CT
          go_wp2
          go_ret2
          exact ⟨rfl, hB⟩
end Go.Proofs.Ytoacaennpddoeaa

/- Things and records held against each other, over the loaded program. -/
namespace Go.Proofs.Ytoacaennpddoeaa
open Go.RowKit
def thEq (x y : Th) : Bool := decide (x.id = y.id ∧ x.kind = y.kind ∧ x.hid = y.hid ∧ x.fix = y.fix ∧ x.sgn = y.sgn ∧ x.wrp = y.wrp ∧ x.val = y.val ∧ x.nxt = y.nxt)
def rcEq (x y : Rc) : Bool := decide (x.kd = y.kd ∧ x.tx = y.tx ∧ x.nm = y.nm ∧ thEq x.th y.th = true)
theorem thEq_iff (x y : Th) : thEq x y = true ↔ x = y := by
  unfold thEq
  rw [decide_eq_true_iff]
  obtain ⟨id, kind, hid, fix, sgn, wrp, val, nxt⟩ := x
  obtain ⟨yi, yk, yh, yf, ys, yw, yv, yn⟩ := y
  simp
theorem rcEq_iff (x y : Rc) : rcEq x y = true ↔ x = y := by
  unfold rcEq
  rw [decide_eq_true_iff, thEq_iff]
  obtain ⟨a, b, c, d⟩ := x
  obtain ⟨e, f, g, h⟩ := y
  simp
theorem toList_ne {a b : ByteArray} (h : ¬ a = b) : ¬ a.toList = b.toList := fun e => h (ByteArray.ext (Array.toList_inj.1 (by rw [← ByteArray.toList_eq, ← ByteArray.toList_eq, e])))
set_option maxRecDepth 20000 in
set_option maxHeartbeats 1600000 in
theorem eqTh_run (x y : Th) (W : World) : (binOp .eql 25 (.agg (thC x)) (.agg (thC y))).run Try.prog W = .ok (.bool (thEq x y)) W := by
  obtain ⟨id, kind, hid, fix, sgn, wrp, val, nxt⟩ := x
  obtain ⟨yi, yk, yh, yf, ys, yw, yv, yn⟩ := y
  simp only [thC]
  have HN : thEq ⟨id, kind, hid, fix, sgn, wrp, val, nxt⟩ ⟨yi, yk, yh, yf, ys, yw, yv, yn⟩ = (decide (id = yi) && (decide (kind = yk) && (decide (hid = yh) && (decide (fix = yf) && (decide (sgn = ys) && (decide (wrp = yw) && (decide (val = yv) && decide (nxt = yn)))))))) := by
    unfold thEq
    simp only [Bool.decide_and]
  rw [HN]
  by_cases h1 : id = yi
  · subst h1
    by_cases h2 : kind = yk
    · subst h2
      by_cases h3 : hid = yh
      · subst h3
        by_cases h4 : fix = yf
        · subst h4
          by_cases h5 : sgn = ys
          · subst h5
            by_cases h6 : wrp = yw
            · subst h6
              by_cases h7 : val = yv
              · subst h7
                by_cases h8 : nxt = yn
                · subst h8; go_simp
                · go_simp
              · have h9 := toList_ne h7
                go_simp
            · go_simp
          · go_simp
        · go_simp
      · go_simp
    · go_simp
  · go_simp
theorem rcGuard0 : Try.prog.eqGuardType Try.prog.depth 27 = false := by kernel_rfl
theorem guardRc (x y : Operand) (p q : Array Value) (W : World) : (eqGuard .neq 27 x y (.agg p) (.agg q)).run Try.prog W = .ok () W := run_eqGuard_agg W .neq _ x y _ _ rcGuard0
set_option maxRecDepth 20000 in
set_option maxHeartbeats 4000000 in
theorem neRc_run (x y : Rc) (W : World) : (binOp .neq 27 (.agg (rcC x)) (.agg (rcC y))).run Try.prog W = .ok (.bool (!rcEq x y)) W := by
  obtain ⟨kd, tx, nm, ⟨id, kind, hid, fix, sgn, wrp, val, nxt⟩⟩ := x
  obtain ⟨kd2, tx2, nm2, ⟨yi, yk, yh, yf, ys, yw, yv, yn⟩⟩ := y
  simp only [rcC]
  have HN : rcEq ⟨kd, tx, nm, ⟨id, kind, hid, fix, sgn, wrp, val, nxt⟩⟩ ⟨kd2, tx2, nm2, ⟨yi, yk, yh, yf, ys, yw, yv, yn⟩⟩ = (decide (kd = kd2) && (decide (tx = tx2) && (decide (nm = nm2) && (decide (id = yi) && (decide (kind = yk) && (decide (hid = yh) && (decide (fix = yf) && (decide (sgn = ys) && (decide (wrp = yw) && (decide (val = yv) && decide (nxt = yn))))))))))) := by
    unfold rcEq thEq
    simp only [Bool.decide_and, Bool.decide_eq_true]
  rw [HN]
  by_cases g1 : kd = kd2
  · subst g1
    by_cases g2 : tx = tx2
    · subst g2
      by_cases g3 : nm = nm2
      · subst g3
        by_cases h1 : id = yi
        · subst h1
          by_cases h2 : kind = yk
          · subst h2
            by_cases h3 : hid = yh
            · subst h3
              by_cases h4 : fix = yf
              · subst h4
                by_cases h5 : sgn = ys
                · subst h5
                  by_cases h6 : wrp = yw
                  · subst h6
                    by_cases h7 : val = yv
                    · subst h7
                      by_cases h8 : nxt = yn
                      · subst h8; go_simp
                      · go_simp
                    · have h9 := toList_ne h7
                      go_simp
                  · go_simp
                · go_simp
              · go_simp
            · go_simp
          · go_simp
        · go_simp
      · go_simp
    · have g9 := toList_ne g2
      go_simp
  · go_simp
end Go.Proofs.Ytoacaennpddoeaa

/- The project's things: what is right, flags, a byte, over the loaded program. -/
namespace Go.Proofs.Ytoacaennpddoeaa
open Go.RowKit
theorem idOk_yes (a : Int) (w : World) (h1 : 1 ≤ a) (h2 : a ≤ 1000) : Calls Try.prog 75 #[.int .i64 a] w fun e w' => e = .returned (.bool true) ∧ w' = w := by
  go_enter Try.func75, Try.ntmps75
  go_wp2
  go_ret
  exact ⟨rfl, rfl⟩
theorem idOk_no (a : Int) (w : World) (h : a < 1 ∨ 1000 < a) : Calls Try.prog 75 #[.int .i64 a] w fun e w' => e = .returned (.bool false) ∧ w' = w := by
  by_cases h1 : 1 ≤ a
  · have h2 : ¬ a ≤ 1000 := by omega
    clear h
    go_enter Try.func75, Try.ntmps75
    go_wp2
    go_ret
    exact ⟨rfl, rfl⟩
  · have h2 : decide (1 ≤ a) = false := by rw [decide_eq_false_iff_not]; exact h1
    clear h
    go_enter Try.func75, Try.ntmps75
    go_wp2
    go_ret
    exact ⟨rfl, rfl⟩
set_option maxRecDepth 20000 in
set_option maxHeartbeats 4000000 in
theorem implThingOk_any (x : Th) (w : World) :
    Calls Try.prog 94 #[.agg (thC x)] w fun e w' => e = .returned (.bool (thOk x)) ∧ Below w.heap.size w w' := by
  have HY := hide ((thOk_iff x).2)
  have HN := hide ((thOk_not x).2)
  generalize thOk x = r at *
  obtain ⟨id, kind, hid, fix, sgn, wrp, val, nxt⟩ := x
  unfold thC
  obtain ⟨W, hW, hC, hb, hlt⟩ := one_cb w #[.int .i64 id, .int .i64 kind, .bool hid, .bool fix, .bool sgn, .bool wrp, .string val, .int .i64 nxt] 25
  have c0 := hC.cell 0 rfl
  have c1 := hC.cell 1 rfl
  have c4 := hC.cell 4 rfl
  have c5 := hC.cell 5 rfl
  have c6 := hC.cell 6 rfl
  have c7 := hC.cell 7 rfl
  clear hC
  by_cases A1 : 1 ≤ id ∧ id ≤ 1000
  · have C1 := hide (fun W => idOk_yes id W A1.1 A1.2)
    by_cases k1 : kind = 1
    · subst k1
      by_cases hs : val.size = 32
      · by_cases hn : nxt = 0
        · subst hn
          cases sgn with
          | true =>
            obtain rfl := unhide HN (fun h => by have := (h.2.2.2.2.2.2.1 (by simp)).2; cases this)
            have hs' : ((val.size : Int) == 32) = true := by rw [beq_iff_eq]; omega
            clear HY HN A1
            go_enter Try.func94, Try.ntmps94
            go_wp2_with fail
            refine (unhide C1 W).mono ?_
            rintro e w1 ⟨rfl, hw1⟩
            subst hw1
            go_wp2
            go_ret
            exact ⟨rfl, hb⟩
          | false =>
            obtain rfl := unhide HY ⟨A1.1, A1.2, (by dsimp only; omega), (by dsimp only; omega), (by dsimp only; omega), (by dsimp only; omega), fun _ => ⟨rfl, rfl⟩, fun h => absurd rfl h, fun h => by simp at h, fun _ => hs⟩
            have hs' : ((val.size : Int) == 32) = true := by rw [beq_iff_eq]; omega
            clear HY HN A1
            go_enter Try.func94, Try.ntmps94
            go_wp2_with fail
            refine (unhide C1 W).mono ?_
            rintro e w1 ⟨rfl, hw1⟩
            subst hw1
            go_wp2
            go_ret
            exact ⟨rfl, hb⟩
        · obtain rfl := unhide HN (fun h => hn (h.2.2.2.2.2.2.1 (by simp)).1)
          have hs' : ((val.size : Int) == 32) = true := by rw [beq_iff_eq]; omega
          have hn' : (nxt == 0) = false := by rw [beq_eq_false_iff_ne]; exact hn
          clear HY HN A1
          go_enter Try.func94, Try.ntmps94
          go_wp2_with fail
          refine (unhide C1 W).mono ?_
          rintro e w1 ⟨rfl, hw1⟩
          subst hw1
          go_wp2
          go_ret
          exact ⟨rfl, hb⟩
      · obtain rfl := unhide HN (fun h => hs (h.2.2.2.2.2.2.2.2.2 (by simp)))
        have hs' : ((val.size : Int) == 32) = false := by rw [beq_eq_false_iff_ne]; omega
        clear HY HN A1
        go_enter Try.func94, Try.ntmps94
        go_wp2_with fail
        refine (unhide C1 W).mono ?_
        rintro e w1 ⟨rfl, hw1⟩
        subst hw1
        go_wp2
        go_ret
        exact ⟨rfl, hb⟩
    · by_cases k2 : kind = 2
      · subst k2
        by_cases hs : val.size = 32
        · by_cases hn : 0 ≤ nxt
          · by_cases hm : nxt ≤ 16
            · cases wrp with
              | true =>
                obtain rfl := unhide HN (fun h => by have := h.2.2.2.2.2.2.2.1 (by simp); cases this)
                have hs' : ((val.size : Int) == 32) = true := by rw [beq_iff_eq]; omega
                clear HY HN A1
                go_enter Try.func94, Try.ntmps94
                go_wp2_with fail
                refine (unhide C1 W).mono ?_
                rintro e w1 ⟨rfl, hw1⟩
                subst hw1
                go_wp2
                go_ret
                exact ⟨rfl, hb⟩
              | false =>
                obtain rfl := unhide HY ⟨A1.1, A1.2, (by dsimp only; omega), (by dsimp only; omega), hn, hm, fun h => absurd rfl h, fun _ => rfl, fun h => by simp at h, fun _ => hs⟩
                have hs' : ((val.size : Int) == 32) = true := by rw [beq_iff_eq]; omega
                clear HY HN A1
                go_enter Try.func94, Try.ntmps94
                go_wp2_with fail
                refine (unhide C1 W).mono ?_
                rintro e w1 ⟨rfl, hw1⟩
                subst hw1
                go_wp2
                go_ret
                exact ⟨rfl, hb⟩
            · obtain rfl := unhide HN (fun h => hm (h.2.2.2.2.2.1))
              have hs' : ((val.size : Int) == 32) = true := by rw [beq_iff_eq]; omega
              have hm' : decide (nxt ≤ 16) = false := by rw [decide_eq_false_iff_not]; exact hm
              clear HY HN A1
              go_enter Try.func94, Try.ntmps94
              go_wp2_with fail
              refine (unhide C1 W).mono ?_
              rintro e w1 ⟨rfl, hw1⟩
              subst hw1
              go_wp2
              go_ret
              exact ⟨rfl, hb⟩
          · obtain rfl := unhide HN (fun h => hn (h.2.2.2.2.1))
            have hs' : ((val.size : Int) == 32) = true := by rw [beq_iff_eq]; omega
            have hn' : decide (0 ≤ nxt) = false := by rw [decide_eq_false_iff_not]; exact hn
            clear HY HN A1
            go_enter Try.func94, Try.ntmps94
            go_wp2_with fail
            refine (unhide C1 W).mono ?_
            rintro e w1 ⟨rfl, hw1⟩
            subst hw1
            go_wp2
            go_ret
            exact ⟨rfl, hb⟩
        · obtain rfl := unhide HN (fun h => hs (h.2.2.2.2.2.2.2.2.2 (by simp)))
          have hs' : ((val.size : Int) == 32) = false := by rw [beq_eq_false_iff_ne]; omega
          clear HY HN A1
          go_enter Try.func94, Try.ntmps94
          go_wp2_with fail
          refine (unhide C1 W).mono ?_
          rintro e w1 ⟨rfl, hw1⟩
          subst hw1
          go_wp2
          go_ret
          exact ⟨rfl, hb⟩
      · by_cases k3 : kind = 3
        · subst k3
          by_cases hs : val.size ≤ 100
          · by_cases hn : nxt = 0
            · subst hn
              cases sgn with
              | true =>
                obtain rfl := unhide HN (fun h => by have := (h.2.2.2.2.2.2.1 (by simp)).2; cases this)
                have hs' : (val.size : Int) ≤ 100 := by omega
                clear HY HN A1
                go_enter Try.func94, Try.ntmps94
                go_wp2_with fail
                refine (unhide C1 W).mono ?_
                rintro e w1 ⟨rfl, hw1⟩
                subst hw1
                go_wp2
                go_ret
                exact ⟨rfl, hb⟩
              | false =>
                cases wrp with
                | true =>
                  obtain rfl := unhide HN (fun h => by have := h.2.2.2.2.2.2.2.1 (by simp); cases this)
                  have hs' : (val.size : Int) ≤ 100 := by omega
                  clear HY HN A1
                  go_enter Try.func94, Try.ntmps94
                  go_wp2_with fail
                  refine (unhide C1 W).mono ?_
                  rintro e w1 ⟨rfl, hw1⟩
                  subst hw1
                  go_wp2
                  go_ret
                  exact ⟨rfl, hb⟩
                | false =>
                  obtain rfl := unhide HY ⟨A1.1, A1.2, (by dsimp only; omega), (by dsimp only; omega), (by dsimp only; omega), (by dsimp only; omega), fun _ => ⟨rfl, rfl⟩, fun _ => rfl, fun _ => hs, fun h => absurd rfl h⟩
                  have hs' : (val.size : Int) ≤ 100 := by omega
                  clear HY HN A1
                  go_enter Try.func94, Try.ntmps94
                  go_wp2_with fail
                  refine (unhide C1 W).mono ?_
                  rintro e w1 ⟨rfl, hw1⟩
                  subst hw1
                  go_wp2
                  go_ret
                  exact ⟨rfl, hb⟩
            · obtain rfl := unhide HN (fun h => hn (h.2.2.2.2.2.2.1 (by simp)).1)
              have hs' : (val.size : Int) ≤ 100 := by omega
              have hn' : (nxt == 0) = false := by rw [beq_eq_false_iff_ne]; exact hn
              clear HY HN A1
              go_enter Try.func94, Try.ntmps94
              go_wp2_with fail
              refine (unhide C1 W).mono ?_
              rintro e w1 ⟨rfl, hw1⟩
              subst hw1
              go_wp2
              go_ret
              exact ⟨rfl, hb⟩
          · obtain rfl := unhide HN (fun h => hs (h.2.2.2.2.2.2.2.2.1 rfl))
            have hs1 : ¬ (val.size : Int) ≤ 100 := by omega
            have hs' : decide ((val.size : Int) ≤ 100) = false := by rw [decide_eq_false_iff_not]; omega
            clear HY HN A1
            go_enter Try.func94, Try.ntmps94
            go_wp2_with fail
            refine (unhide C1 W).mono ?_
            rintro e w1 ⟨rfl, hw1⟩
            subst hw1
            go_wp2
            go_ret
            exact ⟨rfl, hb⟩
        · obtain rfl := unhide HN (fun h => by have h1 := h.2.2.1; have h2 := h.2.2.2.1; dsimp only at h1 h2; omega)
          have k1' : (kind == 1) = false := by rw [beq_eq_false_iff_ne]; exact k1
          have k2' : (kind == 2) = false := by rw [beq_eq_false_iff_ne]; exact k2
          have k3' : (kind == 3) = false := by rw [beq_eq_false_iff_ne]; exact k3
          clear HY HN A1
          go_enter Try.func94, Try.ntmps94
          go_wp2_with fail
          refine (unhide C1 W).mono ?_
          rintro e w1 ⟨rfl, hw1⟩
          subst hw1
          go_wp2
          go_ret
          exact ⟨rfl, hb⟩
  · have C1 := hide (fun W => idOk_no id W (by omega))
    obtain rfl := unhide HN (fun h => A1 ⟨h.1, h.2.1⟩)
    clear HY HN A1
    go_enter Try.func94, Try.ntmps94
    go_wp2_with fail
    refine (unhide C1 W).mono ?_
    rintro e w1 ⟨rfl, hw1⟩
    subst hw1
    go_wp2
    go_ret
    exact ⟨rfl, hb⟩
theorem flagIf_any (b : Bool) (n : Int) (w : World) :
    Calls Try.prog 133 #[.bool b, .int .u8 n] w fun e w' => e = .returned (.int .u8 (flI b n)) ∧ w' = w := by
  cases b with
  | true =>
    go_enter Try.func133, Try.ntmps133
    go_wp2
    go_ret
    exact ⟨rfl, rfl⟩
  | false =>
    go_enter Try.func133, Try.ntmps133
    go_wp2
    go_ret
    exact ⟨rfl, rfl⟩
theorem fl_or (h f s w : Bool) : bits .or .u8 (bits .or .u8 (bits .or .u8 (flI h 1) (flI f 2)) (flI s 4)) (flI w 8) = ((flN h f s w : Nat) : Int) := by
  cases h <;> cases f <;> cases s <;> cases w <;> rfl
set_option maxRecDepth 20000 in
set_option maxHeartbeats 1000000 in
theorem flags_any (x : Th) (w : World) :
    Calls Try.prog 110 #[.agg (thC x)] w fun e w' => e = .returned (.int .u8 ((fl x : Nat) : Int)) ∧ Below w.heap.size w w' := by
  have CF := hide (fun b n W => flagIf_any b n W)
  have E := fl_or x.hid x.fix x.sgn x.wrp
  have E2 : flN x.hid x.fix x.sgn x.wrp = fl x := rfl
  rw [E2] at E
  clear E2
  generalize ((fl x : Nat) : Int) = F at *
  obtain ⟨id, kind, hid, fix, sgn, wrp, val, nxt⟩ := x
  unfold thC
  simp only at E
  have q1 := hide (fun W => unhide CF hid 1 W)
  have q2 := hide (fun W => unhide CF fix 2 W)
  have q4 := hide (fun W => unhide CF sgn 4 W)
  have q8 := hide (fun W => unhide CF wrp 8 W)
  clear CF
  generalize flI hid 1 = f1 at *
  generalize flI fix 2 = f2 at *
  generalize flI sgn 4 = f4 at *
  generalize flI wrp 8 = f8 at *
  obtain ⟨W, hW, hC, hb, hlt⟩ := one_cb w #[.int .i64 id, .int .i64 kind, .bool hid, .bool fix, .bool sgn, .bool wrp, .string val, .int .i64 nxt] 25
  have c2 := hC.cell 2 rfl
  have c3 := hC.cell 3 rfl
  have c4 := hC.cell 4 rfl
  have c5 := hC.cell 5 rfl
  clear hC
  go_enter Try.func110, Try.ntmps110
  go_wp2
  go_quiet ((first | (go_at_call 133; exact Calls.quiet_of_same (unhide q1 _)) | (go_at_call 133; exact Calls.quiet_of_same (unhide q2 _)) | (go_at_call 133; exact Calls.quiet_of_same (unhide q4 _)) | (go_at_call 133; exact Calls.quiet_of_same (unhide q8 _))))
  go_wp2
  go_ret
  exact ⟨by rw [← E]; rfl, bDN hb _⟩
set_option maxRecDepth 20000 in
set_option maxHeartbeats 400000 in
theorem implByteY9_any (z : Int) (w : World) :
    Calls Try.prog 36 #[.int .i64 z] w fun e w' => e = .returned (.string (oneY z)) ∧ Below w.heap.size w w' := by
  have hx := b256_lt z
  have E := hide (show oneY z = ⟨#[UInt8.ofNat (b256 z)]⟩ from rfl)
  rw [unhide E]
  have ew : IntKind.u8.wrap z = (b256 z : Int) := by rw [IntKind.wrap_u8]; unfold b256; omega
  have ew8 : z % 256 = (b256 z : Int) := by unfold b256; omega
  generalize b256 z = x at *
  have hcv := conv_oneY w x hx
  have hb : Below w.heap.size w (w.alloc (.cells #[.int .u8 (x : Int)] 5)) := (Below.refl w.heap.size w).alloc (Nat.le_refl _) _
  go_enter Try.func36, Try.ntmps36
  go_wp2
  go_ret
  exact ⟨rfl, hb⟩
end Go.Proofs.Ytoacaennpddoeaa

/- The project's things: their texts, over the loaded program. -/
namespace Go.Proofs.Ytoacaennpddoeaa
open Go.RowKit
set_option maxRecDepth 20000 in
set_option maxHeartbeats 400000 in
theorem implShort9_any (s : ByteArray) (hs : s.size ≤ 400) (w : World) :
    Calls Try.prog 109 #[.string s] w fun e w' => e = .returned (.tuple #[.string (shB s), .bool true]) ∧ Below w.heap.size w w' := by
  have CV := hide (fun W => implVar_yes s.size W (by omega))
  have hz : (⟨(varB s.size).toArray⟩ : ByteArray).size ≤ 3 := by
    show (varB s.size).toArray.size ≤ 3
    rw [List.size_toArray]; exact varB_len9 (by omega)
  have h1 : ¬ (20000 : Int) < (s.size : Int) := by omega
  unfold shB
  generalize (⟨(varB s.size).toArray⟩ : ByteArray) = vt at *
  have h2 : ¬ 9223372036854775807 < vt.size + s.size := by omega
  have h3 : vt.size + s.size ≤ 9223372036854775807 := by omega
  go_enter Try.func109, Try.ntmps109
  go_wp2_with fail
  refine (unhide CV w).mono ?_
  rintro e w1 ⟨rfl, hb1⟩
  clear CV
  go_wp2
  refine bodyPost_ret (v := .tuple #[.string (vt ++ s), .bool true]) (by simp [results, Try.results109, go_sem]) rfl ⟨rfl, hb1⟩
set_option maxRecDepth 20000 in
set_option maxHeartbeats 4000000 in
theorem implThingText_any (x : Th) (w : World) :
    Calls Try.prog 74 #[.agg (thC x)] w fun e w' => e = .returned (.tuple #[.string (ttB x), .bool (thOk x)]) ∧ Below w.heap.size w w' := by
  have CO := hide (fun W => implThingOk_any x W)
  cases hok : thOk x with
  | false =>
    have E : ttB x = ⟨#[]⟩ := by unfold ttB; rw [if_neg (by rw [hok]; simp)]
    rw [E]
    rw [hok] at CO
    clear hok E
    obtain ⟨id, kind, hid, fix, sgn, wrp, val, nxt⟩ := x
    unfold thC at CO ⊢
    obtain ⟨W, hW, hC, hb, hlt⟩ := one_cb w #[.int .i64 id, .int .i64 kind, .bool hid, .bool fix, .bool sgn, .bool wrp, .string val, .int .i64 nxt] 25
    have c0 := hC.cell 0 rfl
    have c1 := hC.cell 1 rfl
    have c2 := hC.cell 2 rfl
    have c3 := hC.cell 3 rfl
    have c4 := hC.cell 4 rfl
    have c5 := hC.cell 5 rfl
    have c6 := hC.cell 6 rfl
    have c7 := hC.cell 7 rfl
    clear hC
    go_enter Try.func74, Try.ntmps74
    go_wp2_with fail
    refine (unhide CO W).mono ?_
    rintro e w1 ⟨rfl, hb1⟩
    have hT := hb.trans (hb1.mono hb.size)
    clear c0 c1 c2 c3 c4 c5 c6 c7
    go_wp2
    go_ret2
    exact ⟨rfl, hT⟩
  | true =>
    have E : ttB x = thT x := by unfold ttB; rw [if_pos hok]
    have hO := (thOk_iff x).1 hok
    rw [E, thT_is hO]
    rw [hok] at CO
    have hvz : x.val.size ≤ 100 := by
      obtain ⟨i1, i2, k1, k2, n1, n2, _, _, hv3, hv2⟩ := hO
      by_cases e : x.kind = 3
      · exact hv3 e
      · have := hv2 e; omega
    have hi0 : x.id = ((x.id.toNat : Nat) : Int) := by omega
    have hn0 : x.nxt = ((x.nxt.toNat : Nat) : Int) := by omega
    have V1 := hide (fun W => implVar_yes x.id.toNat W (by omega))
    have V2 := hide (fun W => implVar_yes x.nxt.toNat W (by omega))
    have CS := hide (fun W => implShort9_any x.val (by omega) W)
    have CF := hide (fun W => flags_any x W)
    have z1 : (⟨(varB x.id.toNat).toArray⟩ : ByteArray).size ≤ 3 := by
      show (varB x.id.toNat).toArray.size ≤ 3
      rw [List.size_toArray]; exact varB_len9 (by omega)
    have z2 : (⟨(varB x.nxt.toNat).toArray⟩ : ByteArray).size ≤ 3 := by
      show (varB x.nxt.toNat).toArray.size ≤ 3
      rw [List.size_toArray]; exact varB_len9 (by omega)
    have z3 : (shB x.val).size ≤ 200 := by
      have : (⟨(varB x.val.size).toArray⟩ : ByteArray).size ≤ 3 := by
        show (varB x.val.size).toArray.size ≤ 3
        rw [List.size_toArray]; exact varB_len9 (by omega)
      unfold shB
      rw [ByteArray.size_append]; omega
    have hfl := fl_lt x
    rw [← hi0] at V1
    rw [← hn0] at V2
    obtain ⟨F, hF⟩ : ∃ F : Int, F = ((fl x : Nat) : Int) := ⟨_, rfl⟩
    rw [← hF] at CF ⊢
    have hF0 : 0 ≤ F := by omega
    have hF1 : F ≤ 15 := by omega
    have y1 := hide (fun W => implByteY9_any x.kind W)
    have y2 := hide (fun W => implByteY9_any F W)
    have zk : (oneY x.kind).size ≤ 1 := by rw [oneY_size9]; omega
    have zg : (oneY F).size ≤ 1 := by rw [oneY_size9]; omega
    clear hok E hO hvz hi0 hn0 hfl hF
    obtain ⟨id, kind, hid, fix, sgn, wrp, val, nxt⟩ := x
    unfold thC at CO CF ⊢
    simp only at V1 V2 CS z1 z2 z3 zk y1 ⊢
    generalize (⟨(varB id.toNat).toArray⟩ : ByteArray) = t1 at *
    generalize (⟨(varB nxt.toNat).toArray⟩ : ByteArray) = t2 at *
    generalize shB val = t3 at *
    obtain ⟨R, hR⟩ : ∃ R, R = t1 ++ oneY kind ++ oneY F ++ t3 ++ t2 := ⟨_, rfl⟩
    rw [← hR]
    generalize oneY kind = yk at *
    generalize oneY F = yg at *
    have u0 : IntKind.i64.wrap F = F := by rw [IntKind.wrap_i64]; omega
    have s1 : ∀ W : World, (Op.stringOp .add t1 yk).run Try.prog W = .ok (.string (t1 ++ yk)) W := fun W => run_string_add_sum W _ _ (by omega)
    have s2 : ∀ W : World, (Op.stringOp .add (t1 ++ yk) yg).run Try.prog W = .ok (.string (t1 ++ yk ++ yg)) W := fun W => run_string_add_sum W _ _ (by rw [ByteArray.size_append]; omega)
    have s3 : ∀ W : World, (Op.stringOp .add (t1 ++ yk ++ yg) t3).run Try.prog W = .ok (.string (t1 ++ yk ++ yg ++ t3)) W := fun W => run_string_add_sum W _ _ (by rw [ByteArray.size_append, ByteArray.size_append]; omega)
    have s4 : ∀ W : World, (Op.stringOp .add (t1 ++ yk ++ yg ++ t3) t2).run Try.prog W = .ok (.string (t1 ++ yk ++ yg ++ t3 ++ t2)) W := fun W => run_string_add_sum W _ _ (by rw [ByteArray.size_append, ByteArray.size_append, ByteArray.size_append]; omega)
    replace zk := hide zk; replace zg := hide zg; replace hR := hide hR; replace hF0 := hide hF0; replace hF1 := hide hF1; replace z1 := hide z1; replace z2 := hide z2; replace z3 := hide z3
    obtain ⟨W, hW, hC, hb, hlt⟩ := one_cb w #[.int .i64 id, .int .i64 kind, .bool hid, .bool fix, .bool sgn, .bool wrp, .string val, .int .i64 nxt] 25
    have c0 := hC.cell 0 rfl
    have c1 := hC.cell 1 rfl
    have c2 := hC.cell 2 rfl
    have c3 := hC.cell 3 rfl
    have c4 := hC.cell 4 rfl
    have c5 := hC.cell 5 rfl
    have c6 := hC.cell 6 rfl
    have c7 := hC.cell 7 rfl
    go_enter Try.func74, Try.ntmps74
    go_wp2_with fail
    refine (unhide CO W).mono ?_
    rintro e w1 ⟨rfl, hb1⟩
    have hT1 := hb.trans (hb1.mono hb.size)
    have hC1 := hC.step hb1
    have d0 := hC1.cell 0 rfl
    clear c0 c1 c2 c3 c4 c5 c6 c7 hC hb1 hb CO
    go_wp2_with fail
    refine (unhide V1 w1).mono ?_
    rintro e w2 ⟨rfl, hb2⟩
    have hT2 := hT1.trans (hb2.mono hT1.size)
    have hC2 := hC1.step hb2
    clear d0 hC1 hT1 hb2 V1
    have d6 := hC2.cell 6 rfl
    go_wp2_with fail
    refine (unhide CS w2).mono ?_
    rintro e w3 ⟨rfl, hb3⟩
    have hT3 := hT2.trans (hb3.mono hT2.size)
    have hC3 := hC2.step hb3
    clear d6 hC2 hT2 hb3 CS
    have d7 := hC3.cell 7 rfl
    go_wp2_with fail
    refine (unhide V2 w3).mono ?_
    rintro e w4 ⟨rfl, hb4⟩
    have hT4 := hT3.trans (hb4.mono hT3.size)
    have hC4 := hC3.step hb4
    clear d7 hC3 hT3 hb4 V2
    have e0 := hC4.cell 0 rfl
    have e1 := hC4.cell 1 rfl
    have e2 := hC4.cell 2 rfl
    have e3 := hC4.cell 3 rfl
    have e4 := hC4.cell 4 rfl
    have e5 := hC4.cell 5 rfl
    have e6 := hC4.cell 6 rfl
    have e7 := hC4.cell 7 rfl
    have hg4 := hC4.lt
    clear hC4
    have KS := hide (fun (W' : World) (h : Below w4.heap.size w4 W') => (⟨(h.cell (p := ⟨w.heap.size, 0, none⟩) hg4).trans e0, (h.cell (p := ⟨w.heap.size, 1, none⟩) hg4).trans e1, (h.cell (p := ⟨w.heap.size, 2, none⟩) hg4).trans e2, (h.cell (p := ⟨w.heap.size, 3, none⟩) hg4).trans e3, (h.cell (p := ⟨w.heap.size, 4, none⟩) hg4).trans e4, (h.cell (p := ⟨w.heap.size, 5, none⟩) hg4).trans e5, (h.cell (p := ⟨w.heap.size, 6, none⟩) hg4).trans e6, (h.cell (p := ⟨w.heap.size, 7, none⟩) hg4).trans e7⟩ : W'.cell? ⟨w.heap.size, 0, none⟩ = some (.int .i64 id) ∧ W'.cell? ⟨w.heap.size, 1, none⟩ = some (.int .i64 kind) ∧ W'.cell? ⟨w.heap.size, 2, none⟩ = some (.bool hid) ∧ W'.cell? ⟨w.heap.size, 3, none⟩ = some (.bool fix) ∧ W'.cell? ⟨w.heap.size, 4, none⟩ = some (.bool sgn) ∧ W'.cell? ⟨w.heap.size, 5, none⟩ = some (.bool wrp) ∧ W'.cell? ⟨w.heap.size, 6, none⟩ = some (.string val) ∧ W'.cell? ⟨w.heap.size, 7, none⟩ = some (.int .i64 nxt)))
    have hB0 := Below.refl w4.heap.size w4
    go_wp2
    go_region_held3 (fun W' => W'.cell? ⟨w.heap.size, 0, none⟩ = some (.int .i64 id) ∧ W'.cell? ⟨w.heap.size, 1, none⟩ = some (.int .i64 kind) ∧ W'.cell? ⟨w.heap.size, 2, none⟩ = some (.bool hid) ∧ W'.cell? ⟨w.heap.size, 3, none⟩ = some (.bool fix) ∧ W'.cell? ⟨w.heap.size, 4, none⟩ = some (.bool sgn) ∧ W'.cell? ⟨w.heap.size, 5, none⟩ = some (.bool wrp) ∧ W'.cell? ⟨w.heap.size, 6, none⟩ = some (.string val) ∧ W'.cell? ⟨w.heap.size, 7, none⟩ = some (.int .i64 nxt)) (first | exact ⟨e0, e1, e2, e3, e4, e5, e6, e7⟩ | exact (unhide KS) _ hB3 | exact (unhide KS) _ hB2 | exact (unhide KS) _ hB1 | fail) (first
      | (go_at_call 110; have hB1' := hB1; refine ((unhide CF) _).mono ?_; rintro e w6 ⟨rfl, hb2⟩; have hB2 : Below w4.heap.size w4 w6 := (by first | exact hB1.trans (hb2.mono hB1.size) | exact (bDN hB1 _).drew.trans (hb2.mono (by exact (bDN hB1 _).drew.size)) | exact hB1.drew.trans (hb2.mono (by exact hB1.drew.size)) | exact (bDN hB1 _).trans (hb2.mono (by exact (bDN hB1 _).size))))
      | (go_at_call 36; have hB2' := hB2; refine ((unhide y2) _).mono ?_; rintro e w7 ⟨rfl, hb3⟩; have hB3 : Below w4.heap.size w4 w7 := (by first | exact hB2.trans (hb3.mono hB2.size) | exact (bDN hB2 _).drew.trans (hb3.mono (by exact (bDN hB2 _).drew.size)) | exact hB2.drew.trans (hb3.mono (by exact hB2.drew.size)) | exact (bDN hB2 _).trans (hb3.mono (by exact (bDN hB2 _).size))))
      | (go_at_call 36; refine ((unhide y1) _).mono ?_; rintro e w5 ⟨rfl, hb1⟩; have hB1 : Below w4.heap.size w4 w5 := (by first | exact hB0.trans (hb1.mono hB0.size) | exact (bDN hB0 _).drew.trans (hb1.mono (by exact (bDN hB0 _).drew.size)) | exact hB0.drew.trans (hb1.mono (by exact hB0.drew.size)) | exact (bDN hB0 _).trans (hb1.mono (by exact (bDN hB0 _).size))))
      | fail)
    all_goals
      have hF := hT4.trans (hB3.mono hT4.size)
      clear hb1 hb2 hb3 hB1 hB2 hB3 KS e0 e1 e2 e3 e4 e5 e6 e7
      go_wp2
      go_ret2
      exact ⟨by rw [unhide hR]; rfl, hF⟩
end Go.Proofs.Ytoacaennpddoeaa

/- Laws of no program: an operation of a drawn region taken first, its slot named. -/
namespace Go.Proofs.Ytoacaennpddoeaa
open Go.RowKit
theorem held_take {P : Program} {md : Region.Mode} {ops : Array Oper} {Q : Exit → Act → World → Prop} {S : World → Prop} {i : Nat} (d : Tmp) {oi : Oper} {v : Value} {fuel : Nat} {listed : Array Bool} {a : Act} {w : World} (hi : ops[i]? = some oi) (hd : oi.dst = some d)
    (hs : Region.noSelect ops = true) (hf : Region.free md ops listed i = true) (hr : (Region.ready md ops listed).contains i = true)
    (hQ : ∀ c a w, Q (.panic c) (a.put oi.dst v) w → Q (.panic c) a w) (hy : YieldsIf P ops S oi v a) (hS : S w)
    (h : wpAnyH P md ops Q S fuel (listed.setIfInBounds i true) (a.put (some d) v) w) : wpAnyH P md ops Q S (fuel + 1) listed a w :=
  wpAnyH_take hi hs hf hr hQ hy hS (by rw [hd]; exact h)
theorem exec_cmp : True := trivial
theorem exec_neq {P : Program} {w : World} {o : Oper} {a : Act} (t : TypeId) (x y : Operand) (ty : TypeId) (ho : o.op = .binOp .neq t x y ty) {vx vy v : Value} (hx : a.eval x = vx) (hy : a.eval y = vy)
    (hg : (eqGuard .neq t x y vx vy).run P w = .ok () w) (hr : (binOp .neq t vx vy).run P w = .ok v w) : (execOp a.eval o).run P w = .ok (.value v) w := by
  simp [execOp, ho, hx, hy, hg, hr, Result.andThen]
/-- Several cells stored into the midst of a variable. -/
theorem wpList_store_cb {P : Program} {ops : Array Oper} {rest : List Oper} {q : Oper} {a : Act} {w : World} {Q : Exit → Act → World → Prop} (hgd : q.guard = none) (ty : TypeId) (p z : Operand) (ho : q.op = .store ty p z)
    {g o : Nat} {T : TypeId} {cs : Array Value} (vs : List Value) (hx : a.eval p = .pointer (some ⟨g, o, none⟩)) (hy : a.eval z = .agg vs.toArray) (hA : CB w g T cs) (hm : o + vs.length ≤ cs.size) (h1 : ∀ v ∈ vs, v.oneCell' = true) (hi : (P.info? ty).map (·.size) = some vs.length)
    (h : ∀ w', CB w' g T (putC cs.toList vs o).toArray → w.grownBy w' (some g) → w'.heap.size = w.heap.size → wpList P ops Q rest (a.put q.dst undef) w') : wpList P ops Q (q :: rest) a w := by
  have hst := run_storeCells_at P g o T vs 0 cs w hA (by omega) h1
  rw [show o + 0 = o from rfl, show cs.toList.take o ++ vs ++ cs.toList.drop (o + vs.length) = putC cs.toList vs o from rfl] at hst
  have hG : w.grownBy (w.setRow g (putC cs.toList vs o).toArray) (some g) := by
    refine ⟨rfl, rfl, rfl, ?_, fun j hj hne => Go.setRow_other w g j _ (fun e => hne (by rw [e]))⟩
    have := Go.setRow_size w g (putC cs.toList vs o).toArray
    omega
  refine wpList_plain hgd fun _ hK => ?_
  unfold Oper.wp execOp
  cases hq : P.info? ty with
  | none => simp [hq] at hi
  | some i =>
    have hs : i.size = vs.length := by simpa [hq] using hi
    have hst' : (storeVar ty ⟨g, o, none⟩ (.agg vs.toArray)).run P w = .ok () (w.setRow g (putC cs.toList vs o).toArray) := by
      simp [storeVar, sizeOf, typeInfo, hq, Value.cells, hs, hst]
    simp only [ho, hx, hy, Instr.storeAt, Instr.sureAddr, Sem.run_bind, Sem.run_pure, Result.andThen_ok, hst']
    exact hK _ _ (h _ (setRow_heap w g _ _ T (0, 0) hA) hG (Go.setRow_size w g _))
end Go.Proofs.Ytoacaennpddoeaa

