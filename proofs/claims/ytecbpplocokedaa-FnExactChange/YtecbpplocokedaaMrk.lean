/- A row of bytes of the call's own that came of a text: the mark of a conversion lies behind its cells; bytes are appended to it, one by one, with room or without. -/
import Derived.Test.YtecbpplocokedaaBase
import Derived.Lib.ConvBytes
namespace Go.Proofs.Ytecbpplocokedaa
open Go.RowKit
def MB (w : World) (base : Nat) (e : TypeId) (v : Value) (l : List UInt8) : Prop :=
  ∃ (g cap : Nat) (cur : Array Value) (lo hi : Nat), v = .slice (some ⟨g, 0, none⟩) l.length cap ∧ base ≤ g ∧ w.heap[g]? = some (.cells cur e (lo, hi)) ∧ (∀ j, j < cur.size → ¬ (lo ≤ j ∧ j < hi)) ∧ l.length ≤ cap ∧ cur.size = cap ∧ cur.toList.take l.length = l.map bv
theorem MB.shape {w : World} {base : Nat} {e : TypeId} {v : Value} {l : List UInt8} (h : MB w base e v l) : ∃ g c, v = .slice (some ⟨g, 0, none⟩) l.length c ∧ base ≤ g ∧ g < w.heap.size ∧ l.length ≤ c := by
  obtain ⟨g, cap, cur, lo, hi, h1, h2, h3, _, h5, _⟩ := h
  refine ⟨g, cap, h1, h2, ?_, h5⟩
  rcases Nat.lt_or_ge g w.heap.size with h | h
  · exact h
  · rw [Array.getElem?_eq_none h] at h3; cases h3
theorem MB.keep {w w' : World} {base : Nat} {e : TypeId} {v : Value} {l : List UInt8} (h : MB w base e v l) (hb : ∀ g, v.ownBlock = some g → w'.heap[g]? = w.heap[g]?) : MB w' base e v l := by
  obtain ⟨g, cap, cur, lo, hi, rfl, h2, h3, r⟩ := h
  exact ⟨g, cap, cur, lo, hi, rfl, h2, by rw [hb g rfl]; exact h3, r⟩
theorem MB.below {w w' : World} {base : Nat} {e : TypeId} {v : Value} {l : List UInt8} (h : MB w base e v l) (hb : Below w.heap.size w w') : MB w' base e v l := by
  obtain ⟨g, c, rfl, _, hg, _⟩ := h.shape
  exact h.keep (fun k hk => by simp only [Value.ownBlock, Option.some.injEq] at hk; subst hk; exact hb.block g hg)
theorem MB.cell {w : World} {base g n c : Nat} {e : TypeId} {l : List UInt8} (h : MB w base e (.slice (some ⟨g, 0, none⟩) n c) l) {j : Nat} {b : UInt8} (hj : l[j]? = some b) : w.cell? ⟨g, j, none⟩ = some (bv b) := by
  obtain ⟨g', cap, cur, lo, hi, h1, h2, h3, h4, h5, h6, h7⟩ := h
  simp only [Value.slice.injEq, Option.some.injEq, Addr.mk.injEq] at h1
  obtain ⟨⟨rfl, _⟩, rfl, rfl⟩ := h1
  have hl : j < l.length := (List.getElem?_eq_some_iff.mp hj).1
  have e1 : (cur.toList.take l.length)[j]? = some (bv b) := by rw [h7, List.getElem?_map, hj]; rfl
  rw [List.getElem?_take_of_lt hl] at e1
  simp only [World.cell?, h3]
  simpa using e1
theorem bytes_mb (w : World) (e : TypeId) (s : ByteArray) : MB (Lib.bytesWorld w e s) w.heap.size e (.slice (some ⟨w.heap.size, 0, none⟩) s.size (grownCap w s.size 0 e)) s.data.toList := by
  have hge := grownCap_ge w s.size 0 e
  have hsz : (Lib.bytesCells w e s).size = grownCap w s.size 0 e := by
    simp only [Lib.bytesCells, Array.size_append, Array.size_map, Array.size_replicate]
    show s.size + _ = _
    omega
  refine ⟨w.heap.size, grownCap w s.size 0 e, Lib.bytesCells w e s, _, _, rfl, Nat.le_refl _, Lib.bytesWorld_at_new w e s, fun j hj => by omega, hge, hsz, ?_⟩
  simp only [Lib.bytesCells, Array.toList_append, Array.toList_map]
  rw [List.take_left' (by rw [List.length_map])]
  rfl
theorem bytes_below2 (w : World) (e : TypeId) (s : ByteArray) : Below w.heap.size w (Lib.bytesWorld w e s) :=
  ⟨rfl, rfl, rfl, by rw [Lib.bytesWorld_size]; omega, fun k hk => Lib.bytesWorld_at_old w e s k hk⟩
theorem heap_setCell_at (w : World) (g k : Nat) (cur : Array Value) (e : TypeId) (f : Nat × Nat) (u : Value) (h : w.heap[g]? = some (.cells cur e f)) : (w.setCell ⟨g, k, none⟩ u).heap[g]? = some (.cells (cur.setIfInBounds k u) e f) := by
  simp [World.setCell, Array.getElem?_modify, h]
theorem run_append_mark {P : Program} (w : World) (t ty e : TypeId) (i : TypeInfo) (z : Value) (ht : P.underlying t = some (.slice e)) (hi : P.info? e = some i) (hz : i.zero = some z) (hsize : i.size = 1) (hby : i.bytes = 1) (hzs : z.cells.size = 1)
    (base : Nat) (v : Value) (l : List UInt8) (h : MB w base e v l) (a : Addr) (c : Nat) (b : UInt8) (hx : w.cell? (a.add 0) = some (bv b)) (hlen : l.length + 1 ≤ 140737488355328) (hbase : base ≤ w.heap.size) :
    ∃ v' w', (Builtin.append_ #[t, t] ty #[v, .slice (some a) 1 c]).run P w = .ok v' w' ∧ MB w' base e v' (l ++ [b]) ∧ w.grownBy w' v.ownBlock := by
  have hnews : ∀ j u, [bv b][j]? = some u → w.cell? (a.add j) = some u := by
    intro j u hu
    cases j with
    | zero => simp only [List.getElem?_cons_zero, Option.some.injEq] at hu; subst hu; exact hx
    | succ j => simp at hu
  have hM := h
  obtain ⟨g, cap, cur, lo, hi', rfl, h2, h3, h4, h5, h6, h7⟩ := h
  by_cases hroom : l.length + 1 ≤ cap
  · have hin : l.length < cur.size := by omega
    have hcell : w.cell? ⟨g, l.length, none⟩ = some cur[l.length] := by simp [World.cell?, h3, hin]
    have hfro : w.frozen? ⟨g, l.length, none⟩ = false := by
      have := h4 l.length hin
      simp only [World.frozen?, h3]
      simp
      omega
    have hadd : (⟨g, l.length, none⟩ : Addr).add 0 = ⟨g, l.length, none⟩ := by unfold Addr.add; split <;> simp_all
    have hst : (storeCells ⟨g, l.length, none⟩ [bv b] 0).run P w = .ok () (w.setCell ⟨g, l.length, none⟩ (bv b)) := by
      have h0 : (store ((⟨g, l.length, none⟩ : Addr).add 0) (bv b)).run P w = .ok () (w.setCell ⟨g, l.length, none⟩ (bv b)) := by
        rw [hadd, run_store P w _ (bv b) _ rfl, hcell]
        simp [hfro]
      simp only [storeCells, Sem.run_bind, h0, Result.andThen_ok]
      rfl
    have hf := run_firstCells_some (P := P) w i.size 1 a 1 c [bv b] (by rw [hsize]; rfl) hnews
    have hr : (Builtin.append_ #[t, t] ty #[.slice (some ⟨g, 0, none⟩) l.length cap, .slice (some a) 1 c]).run P w = .ok (.slice (some ⟨g, 0, none⟩) (l.length + 1) cap) (w.setCell ⟨g, l.length, none⟩ (bv b)) := by
      rw [hsize] at hf
      simp [Builtin.append_, run_underlying ht, sizeOf, typeInfo, hi, Builtin.lenOf, hroom, hf, Addr.add_lit, hst, hsize]
    refine ⟨_, _, hr, ⟨g, cap, cur.setIfInBounds l.length (bv b), lo, hi', by rw [List.length_append]; rfl, h2, heap_setCell_at w g _ cur e _ _ h3, by rw [Array.size_setIfInBounds]; exact h4, by rw [List.length_append]; exact hroom, by rw [Array.size_setIfInBounds]; exact h6, ?_⟩, ⟨rfl, rfl, rfl, by simp, fun k _ hk => RowKit.Below.heap_setCell _ _ _ _ (fun e => hk (by simp [Value.ownBlock, e]))⟩⟩
    have hll : l.length < cur.toList.length := by simpa using hin
    rw [List.length_append, List.length_singleton, List.map_append, ← h7, Array.toList_setIfInBounds]
    apply List.ext_getElem?
    intro j
    simp only [List.getElem?_take, List.getElem?_set, List.getElem?_append, List.length_take]
    have hmin : min l.length cur.toList.length = l.length := by omega
    rw [hmin]
    by_cases hj : j < l.length
    · rw [if_pos (by omega), if_neg (by omega), if_pos hj, if_pos hj]
    · by_cases hj2 : j = l.length
      · subst hj2
        rw [if_pos (by omega), if_pos rfl, if_pos hll, if_neg (by omega), Nat.sub_self]
        rfl
      · rw [if_neg (by omega), if_neg (by omega), List.getElem?_eq_none (by simp; omega)]
  · have holds : ∀ j u, (l.map bv)[j]? = some u → w.cell? ((⟨g, 0, none⟩ : Addr).add j) = some u := by
      intro j u hu
      have hadd : (⟨g, 0, none⟩ : Addr).add j = ⟨g, j, none⟩ := by unfold Addr.add; split <;> simp_all
      rw [hadd]
      rw [List.getElem?_map] at hu
      cases hb : l[j]? with
      | none => rw [hb] at hu; cases hu
      | some b' => rw [hb] at hu; cases hu; exact hM.cell hb
    have hr := run_append_grow (P := P) w t ty e i z ht hi hz ⟨g, 0, none⟩ l.length cap (l.map bv) (by rw [hsize, Nat.mul_one, List.length_map]) holds a 1 c [bv b] (by rw [hsize]; rfl) hnews (by omega) (by omega) (growslice_fits (by omega) (by rw [hby, Nat.mul_one]; exact hlen))
    have hge := grownCap_ge w (l.length + 1) cap e
    refine ⟨_, _, hr, ⟨w.heap.size, grownCap w (l.length + 1) cap e, _, 0, 0, by rw [List.length_append]; rfl, hbase, heap_alloc_new w.drew _, fun j _ => by omega, by rw [List.length_append]; exact hge, ?_, ?_⟩, ⟨rfl, rfl, rfl, by simp, fun k hk _ => (((Below.refl w.heap.size w).drew).alloc (Nat.le_refl _) _).block k hk⟩⟩
    · simp only [Array.size_append, List.size_toArray, size_zeroCells, hzs, List.length_map, List.length_singleton]
      omega
    · simp only [Array.toList_append, List.length_append, List.length_singleton, List.map_append, List.map_cons, List.map_nil]
      rw [List.take_left' (by simp)]
theorem wpList_append_mark {P : Program} {w : World} {ops : Array Oper} {rest : List Oper} {o : Oper} {a : Act} {Q : Exit → Act → World → Prop} {e : TypeId} {x : Int} (hgd : o.guard = none) (s y : Operand) (t : TypeId)
    (ho : o.op = .call { callee := .builtin .append, args := #[s, y], argTypes := #[t, t] })
    (base B : Nat) (i : TypeInfo) (z : Value) (ht : P.underlying t = some (.slice e)) (hi : P.info? e = some i) (hz : i.zero = some z) (hsize : i.size = 1) (hby : i.bytes = 1) (hzs : z.cells.size = 1)
    (v : Value) (l : List UInt8) (hs : a.eval s = v) (hown : MB w base e v l) (b : UInt8) (hxb : x = (b.toNat : Int))
    (hx : a.eval y = .slice (some ⟨w.heap.size, 0, none⟩) 1 1)
    (hlen : l.length + 1 ≤ 140737488355328) (hB : B ≤ base) (hbase : base ≤ w.heap.size) {w00 : World} (hbel : Below B w00 w)
    (h : ∀ v' w', MB w' base e v' (l ++ [b]) → Below B w00 w' → wpList P ops Q rest (a.put o.dst v') w') :
    wpList P ops Q (o :: rest) a (w.alloc (.cells #[.int .u8 x] e)) := by
  subst hxb
  refine wpList_plain hgd fun K hK => ?_
  have hM : MB (w.alloc (.cells #[.int .u8 (b.toNat : Int)] e)) base e v l := hown.below ((Below.refl w.heap.size w).alloc (Nat.le_refl _) _)
  have hc : (w.alloc (.cells #[.int .u8 (b.toNat : Int)] e)).cell? ((⟨w.heap.size, 0, none⟩ : Addr).add 0) = some (bv b) := by
    have hadd : (⟨w.heap.size, 0, none⟩ : Addr).add 0 = ⟨w.heap.size, 0, none⟩ := by unfold Addr.add; split <;> simp_all
    rw [hadd, cell_of_row _ w.heap.size 0 #[.int .u8 (b.toNat : Int)] e (0, 0) (heap_alloc_new w _)]
    rfl
  obtain ⟨v', w', hr, h2, h3⟩ := run_append_mark (P := P) (w.alloc (.cells #[.int .u8 (b.toNat : Int)] e)) t o.type e i z ht hi hz hsize hby hzs base v l hM ⟨w.heap.size, 0, none⟩ 1 b hc hlen (by simp; omega)
  unfold Oper.wp execOp
  simp only [ho, resolve, invoke, builtin, Sem.run_bind, Sem.run_pure, Result.andThen_ok, List.map_toArray, List.map_cons, List.map_nil, hs, hx, hr]
  refine hK _ _ (h v' w' h2 ?_)
  refine (hbel.alloc (by omega) _).grown h3 (by simp; omega) ?_
  intro k hk
  obtain ⟨g, c, rfl, hg, _⟩ := hown.shape
  simp only [Value.ownBlock, Option.some.injEq] at hk
  omega
end Go.Proofs.Ytecbpplocokedaa
