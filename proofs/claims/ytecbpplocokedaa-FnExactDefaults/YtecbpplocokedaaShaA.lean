/- Helps for spec's round: an append of words inside a region that draws; the four turns by one contract. -/
import Derived.Test.YtecbpplocokedaaShaS
namespace Go.Proofs.Ytecbpplocokedaa
open Go.RowKit
theorem step_append_vals {P : Program} {w W : World} {ops : Array Oper} {o : Oper} {a : Act} {K : Act → World → Prop} {Q : Exit → Act → World → Prop} {E : Prop} (hg : o.guard = none) (s x : Operand) (t : TypeId)
    (ho : o.op = .call { callee := .builtin .append, args := #[s, x], argTypes := #[t, t] })
    (base B : Nat) (e : TypeId) (i : TypeInfo) (z : Value) (nb : Nat) (ht : P.underlying t = some (.slice e)) (hi : P.info? e = some i) (hz : i.zero = some z) (hsize : i.size = 1) (hby : i.bytes = nb) (hzs : z.cells.size = 1)
    (v : Value) (xs : List Value) (hs : a.eval s = v) (hown : OwnV w base e v xs)
    (cs : Array Value) (news : List Value) (hcs : cs.toList = news) (h1 : ∀ u ∈ news, u.oneCell' = true) (m c : Nat) (hm : news.length = m) (hx : a.eval x = .slice (some ⟨w.heap.size, 0, none⟩) m c)
    (hW : W = w.alloc (.cells cs e))
    (h63 : xs.length + m ≤ maxLen) (hbytes : (xs.length + m) * nb ≤ 140737488355328) (hB : B ≤ base) (hbase : base ≤ w.heap.size) {w00 : World} (hbel : Below B w00 w)
    (h : ∀ v' w', OwnV w' base e v' (xs ++ news) → Below B w00 w' → K (a.put o.dst v') w') :
    if Region.wanted o (yielded ops a.tmps) = true then Oper.wp P o a W K Q else E := by
  subst hW
  have hw : Region.wanted o (yielded ops a.tmps) = true := by simp [Region.wanted, hg]
  rw [if_pos hw]
  exact wp_append_vals s x t ho base B e i z nb ht hi hz hsize hby hzs v xs hs (hown.alloc _) w.heap.size cs (heap_alloc_new w _) news hcs h1 m c hm hx h63 hbytes hB (by simp; omega) (hbel.alloc (by omega) _) h
theorem wp_append_vals_cells {P : Program} {W : World} {o : Oper} {a : Act} {K : Act → World → Prop} {Q : Exit → Act → World → Prop} (s x : Operand) (t : TypeId)
    (ho : o.op = .call { callee := .builtin .append, args := #[s, x], argTypes := #[t, t] })
    (base B : Nat) (e : TypeId) (i : TypeInfo) (z : Value) (nb : Nat) (ht : P.underlying t = some (.slice e)) (hi : P.info? e = some i) (hz : i.zero = some z) (hsize : i.size = 1) (hby : i.bytes = nb) (hzs : z.cells.size = 1)
    (g n c0 : Nat) (xs : List Value) (hs : a.eval s = .slice (some ⟨g, 0, none⟩) n c0) (hown : OwnV W base e (.slice (some ⟨g, 0, none⟩) n c0) xs)
    (blk : Nat) (cs : Array Value) (hblk : W.heap[blk]? = some (.cells cs e (0, 0))) (news : List Value) (hcs : cs.toList = news) (h1 : ∀ u ∈ news, u.oneCell' = true) (m c : Nat) (hm : news.length = m) (hx : a.eval x = .slice (some ⟨blk, 0, none⟩) m c)
    (h63 : xs.length + m ≤ maxLen) (hbytes : (xs.length + m) * nb ≤ 140737488355328) (hB : B ≤ base) (hbase : base ≤ W.heap.size) {w00 : World} (hbel : Below B w00 W)
    (h : ∀ v' w', OwnV w' base e v' (xs ++ news) → Below B w00 w' → (∀ k u, xs[k]? = some u → w'.cell? ⟨g, k, none⟩ = some u) → K (a.put o.dst v') w') : o.wp P a W K Q := by
  subst hm
  have hcell : ∀ j u, news[j]? = some u → W.cell? ((⟨blk, 0, none⟩ : Addr).add j) = some u := by
    intro j u hu
    have hadd : (⟨blk, 0, none⟩ : Addr).add j = ⟨blk, j, none⟩ := by unfold Addr.add; split <;> simp_all
    rw [hadd, cell_of_row W blk j cs e (0, 0) hblk]
    rw [← hcs] at hu
    simpa using hu
  have hown2 : W.ownsRow base e i.size (.slice (some ⟨g, 0, none⟩) n c0) xs.length xs := by rw [hsize]; exact hown
  obtain ⟨v', w', hr, h2, h3, _⟩ := run_append_own (P := P) W base t o.type e i z i.size nb ht hi hz rfl hby (by rw [hsize]; exact hzs) (by rw [hsize]; decide) _ xs.length xs hown2 ⟨blk, 0, none⟩ news.length c news (by rw [hsize, Nat.mul_one]) hcell h1 h63 hbytes hbase
  unfold Oper.wp execOp
  simp only [ho, resolve, invoke, builtin, Sem.run_bind, Sem.run_pure, Result.andThen_ok, List.map_toArray, List.map_cons, List.map_nil, hs, hx, hr]
  have h2' : OwnV w' base e v' (xs ++ news) := by unfold OwnV; rw [List.length_append, ← hsize]; exact h2
  refine h v' w' h2' ?_ ?_
  · refine hbel.grown h3 (by omega) ?_
    intro k hk
    have := (hown.lt k hk).1
    omega
  · intro k u hk
    rcases hown.2 with ⟨h1', _⟩ | ⟨g', cap, cur, h1', hbg, hg, hnc, hcm, hsz, htk⟩
    · cases h1'
    simp only [Value.slice.injEq, Option.some.injEq, Addr.mk.injEq] at h1'
    obtain ⟨⟨rfl, _⟩, rfl, rfl⟩ := h1'
    by_cases hroom : xs.length + news.length ≤ c0
    · have hr2 := run_append_room (P := P) W t o.type e i ht hi g xs.length c0 cur hg ⟨blk, 0, none⟩ news.length c news (by rw [hsize, Nat.mul_one]) hcell h1 hroom (by rw [hsize, hsz]; omega)
      rw [hr] at hr2
      injection hr2 with e1 e2
      subst e1
      exact h2'.cell (by rw [List.getElem?_append_left (by exact (List.getElem?_eq_some_iff.mp hk).1)]; exact hk)
    · have holds : ∀ j u, xs[j]? = some u → W.cell? ((⟨g, 0, none⟩ : Addr).add j) = some u := World.ownsRow.cells hown (g := g) rfl
      have hr2 := run_append_grow (P := P) W t o.type e i z ht hi hz ⟨g, 0, none⟩ xs.length c0 xs (by rw [hsize, Nat.mul_one]) holds ⟨blk, 0, none⟩ news.length c news (by rw [hsize, Nat.mul_one]) hcell (by omega) (by simp only [maxLen] at h63; omega) (growslice_fits (by omega) (by rw [hby]; exact hbytes))
      rw [hr] at hr2
      injection hr2 with e1 e2
      rw [e2]
      have hb0 : Below W.heap.size W (W.drew.alloc (.cells (xs.toArray ++ news.toArray ++ Builtin.zeroCells z.cells (grownCap W (xs.length + news.length) c0 e - (xs.length + news.length))) e)) := ((Below.refl W.heap.size W).drew).alloc (Nat.le_refl _) _
      rw [hb0.cell (p := ⟨g, k, none⟩) (by exact (hown.lt g rfl).2)]
      exact hown.cell hk
theorem step_append_vals_cells {P : Program} {w W : World} {ops : Array Oper} {o : Oper} {a : Act} {K : Act → World → Prop} {Q : Exit → Act → World → Prop} {E : Prop} (hg : o.guard = none) (s x : Operand) (t : TypeId)
    (ho : o.op = .call { callee := .builtin .append, args := #[s, x], argTypes := #[t, t] })
    (base B : Nat) (e : TypeId) (i : TypeInfo) (z : Value) (nb : Nat) (ht : P.underlying t = some (.slice e)) (hi : P.info? e = some i) (hz : i.zero = some z) (hsize : i.size = 1) (hby : i.bytes = nb) (hzs : z.cells.size = 1)
    (g n c0 : Nat) (xs : List Value) (hs : a.eval s = .slice (some ⟨g, 0, none⟩) n c0) (hown : OwnV w base e (.slice (some ⟨g, 0, none⟩) n c0) xs)
    (cs : Array Value) (news : List Value) (hcs : cs.toList = news) (h1 : ∀ u ∈ news, u.oneCell' = true) (m c : Nat) (hm : news.length = m) (hx : a.eval x = .slice (some ⟨w.heap.size, 0, none⟩) m c)
    (hW : W = w.alloc (.cells cs e))
    (h63 : xs.length + m ≤ maxLen) (hbytes : (xs.length + m) * nb ≤ 140737488355328) (hB : B ≤ base) (hbase : base ≤ w.heap.size) {w00 : World} (hbel : Below B w00 w)
    (h : ∀ v' w', OwnV w' base e v' (xs ++ news) → Below B w00 w' → (∀ k u, xs[k]? = some u → w'.cell? ⟨g, k, none⟩ = some u) → K (a.put o.dst v') w') :
    if Region.wanted o (yielded ops a.tmps) = true then Oper.wp P o a W K Q else E := by
  subst hW
  have hw : Region.wanted o (yielded ops a.tmps) = true := by simp [Region.wanted, hg]
  rw [if_pos hw]
  exact wp_append_vals_cells s x t ho base B e i z nb ht hi hz hsize hby hzs g n c0 xs hs (hown.alloc _) w.heap.size cs (heap_alloc_new w _) news hcs h1 m c hm hx h63 hbytes hB (by simp; omega) (hbel.alloc (by omega) _) h
theorem step_append_one {P : Program} {w W : World} {ops : Array Oper} {o : Oper} {a : Act} {K : Act → World → Prop} {Q : Exit → Act → World → Prop} {E : Prop} {e : TypeId} {x : Int} (hW : W = w.alloc (.cells #[.int .u32 x] e)) (hg : o.guard = none) (s y : Operand) (t : TypeId)
    (ho : o.op = .call { callee := .builtin .append, args := #[s, y], argTypes := #[t, t] })
    (base B : Nat) (i : TypeInfo) (z : Value) (nb : Nat) (ht : P.underlying t = some (.slice e)) (hi : P.info? e = some i) (hz : i.zero = some z) (hsize : i.size = 1) (hby : i.bytes = nb) (hzs : z.cells.size = 1)
    (g n c0 : Nat) (xs : List Value) (hs : a.eval s = .slice (some ⟨g, 0, none⟩) n c0) (hown : OwnV w base e (.slice (some ⟨g, 0, none⟩) n c0) xs)
    (hx : a.eval y = .slice (some ⟨w.heap.size, 0, none⟩) 1 1)
    (h63 : xs.length + 1 ≤ maxLen) (hbytes : (xs.length + 1) * nb ≤ 140737488355328) (hB : B ≤ base) (hbase : base ≤ w.heap.size) {w00 : World} (hbel : Below B w00 w)
    (h : ∀ v' w', OwnV w' base e v' (xs ++ [.int .u32 x]) → Below B w00 w' → (∀ k u, xs[k]? = some u → w'.cell? ⟨g, k, none⟩ = some u) → K (a.put o.dst v') w') :
    if Region.wanted o (yielded ops a.tmps) = true then Oper.wp P o a W K Q else E :=
  step_append_vals_cells hg s y t ho base B e i z nb ht hi hz hsize hby hzs g n c0 xs hs hown #[.int .u32 x] [.int .u32 x] rfl (by intro u hu; simp only [List.mem_singleton] at hu; subst hu; rfl) 1 1 rfl hx hW h63 hbytes hB hbase hbel h
theorem cell_drew_alloc {w : World} {n : Nat} {o : Obj} {g k : Nat} {u : Value} (h : w.cell? ⟨g, k, none⟩ = some u) (hg : g < w.heap.size) : ((w.drewN n).alloc o).cell? ⟨g, k, none⟩ = some u := by
  have hb : Below w.heap.size w ((w.drewN n).alloc o) := (Below.drewN (Below.refl w.heap.size w) n).alloc (Nat.le_refl _) _
  rw [hb.cell (p := ⟨g, k, none⟩) hg]
  exact h
theorem wpList_copy_vals {P : Program} {w : World} {ops : Array Oper} {rest : List Oper} {o : Oper} {a : Act} {Q : Exit → Act → World → Prop} (hgd : o.guard = none) (s x : Operand) (t : TypeId)
    (ho : o.op = .call { callee := .builtin .append, args := #[s, x], argTypes := #[t, t] })
    (e : TypeId) (i : TypeInfo) (z : Value) (nb : Nat) (ht : P.underlying t = some (.slice e)) (hi : P.info? e = some i) (hz : i.zero = some z) (hsize : i.size = 1) (hby : i.bytes = nb) (hzs : z.cells.size = 1)
    (hs : a.eval s = .slice (some ⟨w.heap.size, 0, none⟩) 0 0) (b g n c : Nat) (news : List Value) (hx : a.eval x = .slice (some ⟨g, 0, none⟩) n c) (hA : OwnV w b e (.slice (some ⟨g, 0, none⟩) n c) news) (hn : news.length = n) (h1 : ∀ u ∈ news, u.oneCell' = true)
    (h63 : n ≤ maxLen) (hbytes : n * nb ≤ 140737488355328)
    (h : ∀ v' w', OwnV w' w.heap.size e v' news → Below w.heap.size w w' → wpList P ops Q rest (a.put o.dst v') w') :
    wpList P ops Q (o :: rest) a (w.alloc (.cells #[] e)) := by
  have hE : (w.alloc (.cells #[] e)).ownsRow w.heap.size e 1 (.slice (some ⟨w.heap.size, 0, none⟩) 0 0) 0 [] := World.ownsRow_made w #[] 0 (Nat.le_refl _) (by decide) (by simp)
  refine wpList_append_own (w.alloc (.cells #[] e)) hgd s x t ho w.heap.size e i z 1 nb ht hi hz hsize hby hzs (by decide) _ 0 [] hs hE ⟨g, 0, none⟩ n c news hx (by rw [hn, Nat.mul_one]) (World.ownsRow.cells (hA.alloc _) (g := g) rfl) h1 (by omega) (by rw [Nat.zero_add]; exact hbytes) (by simp) ?_
  intro v' w' h2 h3 _
  refine h v' w' (by unfold OwnV; rw [hn]; simpa using h2) ?_
  exact ((Below.refl w.heap.size w).alloc (Nat.le_refl _) _).grown h3 (by simp) (fun k hk => by simp [Value.ownBlock] at hk; omega)
/- the eight words, moved up by one from the top down to the place j -/
def shL (l : List Value) (j : Nat) : List Value := l.take (j + 1) ++ (l.drop j).take (7 - j)
theorem shL_all (a b c d e f g h : Value) : shL [a, b, c, d, e, f, g, h] 7 = [a, b, c, d, e, f, g, h] := rfl
theorem shL_none (a b c d e f g h : Value) : shL [a, b, c, d, e, f, g, h] 0 = [a, a, b, c, d, e, f, g] := rfl
theorem shL_set (a b c d e f g h : Value) (j : Nat) (h1 : 0 < j) (h7 : j ≤ 7) : ∃ u, (shL [a, b, c, d, e, f, g, h] j)[j - 1]? = some u ∧ (shL [a, b, c, d, e, f, g, h] j).set j u = shL [a, b, c, d, e, f, g, h] (j - 1) ∧ (u = a ∨ u = b ∨ u = c ∨ u = d ∨ u = e ∨ u = f ∨ u = g) := by
  obtain rfl | rfl | rfl | rfl | rfl | rfl | rfl : j = 1 ∨ j = 2 ∨ j = 3 ∨ j = 4 ∨ j = 5 ∨ j = 6 ∨ j = 7 := by omega
  · exact ⟨a, rfl, rfl, .inl rfl⟩
  · exact ⟨b, rfl, rfl, .inr (.inl rfl)⟩
  · exact ⟨c, rfl, rfl, .inr (.inr (.inl rfl))⟩
  · exact ⟨d, rfl, rfl, .inr (.inr (.inr (.inl rfl)))⟩
  · exact ⟨e, rfl, rfl, .inr (.inr (.inr (.inr (.inl rfl))))⟩
  · exact ⟨f, rfl, rfl, .inr (.inr (.inr (.inr (.inr (.inl rfl)))))⟩
  · exact ⟨g, rfl, rfl, .inr (.inr (.inr (.inr (.inr (.inr rfl)))))⟩
theorem shL_at (a b c d e f g h : Nat) (j : Nat) (h1 : 0 < j) (h7 : j ≤ 7) : ∃ u : Nat, (shL ([a, b, c, d, e, f, g, h].map u32v) j)[j - 1]? = some (.int .u32 (u : Int)) ∧ (shL ([a, b, c, d, e, f, g, h].map u32v) j).set j (.int .u32 (u : Int)) = shL ([a, b, c, d, e, f, g, h].map u32v) (j - 1) := by
  obtain ⟨u, h1, h2, h3⟩ := shL_set (u32v a) (u32v b) (u32v c) (u32v d) (u32v e) (u32v f) (u32v g) (u32v h) j h1 h7
  rcases h3 with rfl | rfl | rfl | rfl | rfl | rfl | rfl
  · exact ⟨a, h1, h2⟩
  · exact ⟨b, h1, h2⟩
  · exact ⟨c, h1, h2⟩
  · exact ⟨d, h1, h2⟩
  · exact ⟨e, h1, h2⟩
  · exact ⟨f, h1, h2⟩
  · exact ⟨g, h1, h2⟩
theorem shL_len (a b c d e f g h : Nat) (j : Nat) (h7 : j ≤ 7) : (shL ([a, b, c, d, e, f, g, h].map u32v) j).length = 8 := by
  unfold shL
  simp
  omega
theorem grown_drew {a b : World} {g : Nat} (h : a.grownBy b (some g)) (n : Nat) : a.grownBy (b.drewN n) (some g) := ⟨h.1, h.2, h.3, h.4, h.5⟩
theorem grown_set {a b : World} {g : Nat} (h : a.grownBy b (some g)) (o : Nat) (u : Value) : a.grownBy (b.setCell ⟨g, o, none⟩ u) (some g) :=
  ⟨h.1, h.2, h.3, by simpa using h.4, fun k hk hne => by
    have e := RowKit.Below.heap_setCell b ⟨g, o, none⟩ u k (fun e => hne (by rw [e]))
    rw [e]; exact h.5 k hk hne⟩
theorem grown_refl (w : World) (g : Nat) : w.grownBy w (some g) := ⟨rfl, rfl, rfl, Nat.le_refl _, fun _ _ _ => rfl⟩
theorem OwnV.grown2 {w w' : World} {base g n c : Nat} {k : Nat} {e : TypeId} {xs : List Value} (h : OwnV w base e (.slice (some ⟨k, 0, none⟩) n c) xs) (hg : w.grownBy w' (some g)) (hne : k ≠ g) : OwnV w' base e (.slice (some ⟨k, 0, none⟩) n c) xs :=
  World.ownsRow.kept h hg (by simp [Value.ownBlock]; omega)
theorem step_append_lone {P : Program} {w W : World} {ops : Array Oper} {o : Oper} {a : Act} {K : Act → World → Prop} {Q : Exit → Act → World → Prop} {E : Prop} {e : TypeId} {x : Int} (hW : W = w.alloc (.cells #[.int .u32 x] e)) (hg : o.guard = none) (s y : Operand) (t : TypeId)
    (ho : o.op = .call { callee := .builtin .append, args := #[s, y], argTypes := #[t, t] })
    (base B : Nat) (i : TypeInfo) (z : Value) (nb : Nat) (ht : P.underlying t = some (.slice e)) (hi : P.info? e = some i) (hz : i.zero = some z) (hsize : i.size = 1) (hby : i.bytes = nb) (hzs : z.cells.size = 1)
    (v : Value) (xs : List Value) (hs : a.eval s = v) (hown : OwnV w base e v xs)
    (hx : a.eval y = .slice (some ⟨w.heap.size, 0, none⟩) 1 1)
    (h63 : xs.length + 1 ≤ maxLen) (hbytes : (xs.length + 1) * nb ≤ 140737488355328) (hB : B ≤ base) (hbase : base ≤ w.heap.size) {w00 : World} (hbel : Below B w00 w)
    (h : ∀ v' w', OwnV w' base e v' (xs ++ [.int .u32 x]) → Below B w00 w' → K (a.put o.dst v') w') :
    if Region.wanted o (yielded ops a.tmps) = true then Oper.wp P o a W K Q else E :=
  step_append_vals hg s y t ho base B e i z nb ht hi hz hsize hby hzs v xs hs hown #[.int .u32 x] [.int .u32 x] rfl (by intro u hu; simp only [List.mem_singleton] at hu; subst hu; rfl) 1 1 rfl hx hW h63 hbytes hB hbase hbel h
theorem plus_take (v u : V8) (k : Nat) (hk : k < 8) : (v.plus u).toL.take (k + 1) = (v.plus u).toL.take k ++ [(at_ v.toL k + at_ u.toL k) % 4294967296] := by
  obtain rfl | rfl | rfl | rfl | rfl | rfl | rfl | rfl : k = 0 ∨ k = 1 ∨ k = 2 ∨ k = 3 ∨ k = 4 ∨ k = 5 ∨ k = 6 ∨ k = 7 := by omega
  all_goals rfl
theorem take_len8 (v : V8) (k : Nat) (hk : k ≤ 8) : ((v.toL.take k).map u32v).length = k := by
  rw [List.length_map, List.length_take, show v.toL.length = 8 from rfl]; omega
def sgV (A : Int) (x : Nat) : Nat := if A = 131072 then sg2 17 19 10 x else if A = 128 then sg2 7 18 3 x else if A = 64 then sg3 6 11 25 x else sg3 2 13 22 x
theorem sgV_a (x : Nat) : sgV 131072 x = sg2 17 19 10 x := by unfold sgV; rw [if_pos rfl]
theorem sgV_b (x : Nat) : sgV 128 x = sg2 7 18 3 x := by unfold sgV; rw [if_neg (by decide), if_pos rfl]
theorem sgV_c (x : Nat) : sgV 64 x = sg3 6 11 25 x := by unfold sgV; rw [if_neg (by decide), if_neg (by decide), if_pos rfl]
theorem sgV_d (x : Nat) : sgV 4 x = sg3 2 13 22 x := by unfold sgV; rw [if_neg (by decide), if_neg (by decide), if_neg (by decide)]
theorem specS_lit (x : Nat) (A B C : Int) (b : Bool) (hx : x < 4294967296) (h : (A = 131072 ∧ B = 524288 ∧ C = 1024 ∧ b = true) ∨ (A = 128 ∧ B = 262144 ∧ C = 8 ∧ b = true) ∨ (A = 64 ∧ B = 2048 ∧ C = 33554432 ∧ b = false) ∨ (A = 4 ∧ B = 8192 ∧ C = 4194304 ∧ b = false)) (w : World) :
    Calls Try.prog 75 #[.int .u32 (x : Int), .int .u32 A, .int .u32 B, .int .u32 C, .bool b] w fun e w' => e = .returned (.int .u32 (sgV A x : Int)) ∧ ∃ n, w' = w.drewN n := by
  rcases h with ⟨rfl, rfl, rfl, rfl⟩ | ⟨rfl, rfl, rfl, rfl⟩ | ⟨rfl, rfl, rfl, rfl⟩ | ⟨rfl, rfl, rfl, rfl⟩
  · rw [sgV_a]; exact specS_a x hx w
  · rw [sgV_b]; exact specS_b x hx w
  · rw [sgV_c]; exact specS_c x hx w
  · rw [sgV_d]; exact specS_d x hx w
end Go.Proofs.Ytecbpplocokedaa
