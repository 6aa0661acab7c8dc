/- Merged: Rows1, Ints, Ply1, Pck1, Pck2, Pck3, Ply2. -/
import Derived.Test.YthjgmpfdjhegfasDoorMga1
import Derived.Test.YthjgmpfdjhegfasDoorProg
import Derived.Test.YthjgmpfdjhegfasDoorChecked
import Derived.Laws.BitsLemmas
import Derived.Deep.RegionWith
import Derived.Deep.RegionHeld3
import Derived.Deep.QuietTactic
import Derived.BigQuiet
/- Laws of no program: rows of one-cell values that can be read; one more file appended inside a region that draws. -/
namespace Go.Proofs.YthjgmpfdjhegfasDoor
open Go.RowKit

/-- The slice value v is a row in which the one-cell values xs can be read. -/
def RdV (w : World) (v : Value) (xs : List Value) : Prop :=
  (∃ a c, v = .slice a 0 c ∧ xs = []) ∨ ∃ g o c, v = .slice (some ⟨g, o, none⟩) xs.length c ∧ 0 < xs.length ∧ g < w.heap.size ∧ ∀ (j : Nat) (x : Value), xs[j]? = some x → w.cell? ⟨g, o + j, none⟩ = some x
theorem RdV.below {w w' : World} {v : Value} {xs : List Value} (h : RdV w v xs) (hb : Below w.heap.size w w') : RdV w' v xs := by
  rcases h with h | ⟨g, o, c, rfl, hn, hg, hc⟩
  · exact .inl h
  · exact .inr ⟨g, o, c, rfl, hn, Nat.lt_of_lt_of_le hg hb.size, fun j f hj => (hb.cell (p := ⟨g, o + j, none⟩) hg).trans (hc j f hj)⟩
theorem RdV.below_at {w w' : World} {v : Value} {xs : List Value} (h : RdV w v xs) {B : Nat} (hb : Below B w w') (hB : ∀ g, v.ownBlock = some g → g < B) : RdV w' v xs := by
  rcases h with h | ⟨g, o, c, rfl, hn, hg, hc⟩
  · exact .inl h
  · exact .inr ⟨g, o, c, rfl, hn, Nat.lt_of_lt_of_le hg hb.size, fun j f hj => (hb.cell (p := ⟨g, o + j, none⟩) (hB g rfl)).trans (hc j f hj)⟩
theorem RdV.alloc {w : World} {v : Value} {xs : List Value} (h : RdV w v xs) (o : Obj) : RdV (w.alloc o) v xs := h.below ((Below.refl _ _).alloc (Nat.le_refl _) _)
theorem RdV.drew {w : World} {v : Value} {xs : List Value} (h : RdV w v xs) : RdV w.drew v xs := h.below (Below.refl _ _).drew
theorem RdV.open {w : World} {v : Value} {xs : List Value} (h : RdV w v xs) : ∃ a c, v = .slice a xs.length c ∧ ∀ (j : Nat) (x : Value), xs[j]? = some x → ∃ g o, a = some ⟨g, o, none⟩ ∧ g < w.heap.size ∧ w.cell? ⟨g, o + j, none⟩ = some x := by
  rcases h with ⟨a, c, rfl, rfl⟩ | ⟨g, o, c, rfl, _, hg, hc⟩
  · exact ⟨a, c, rfl, fun j f hj => by simp at hj⟩
  · exact ⟨_, c, rfl, fun j f hj => ⟨g, o, rfl, hg, hc j f hj⟩⟩
theorem RdV.shape {w : World} {v : Value} {xs : List Value} (h : RdV w v xs) : ∃ a c, v = .slice a xs.length c := by
  obtain ⟨a, c, h, _⟩ := h.open
  exact ⟨a, c, h⟩
theorem OwnV.rdv {w : World} {base : Nat} {e : TypeId} {v : Value} {xs : List Value} (h : OwnV w base e v xs) : RdV w v xs := by
  rcases h.2 with ⟨h1, h2⟩ | ⟨g, cap, cur, h1, hb, hg, _⟩
  · exact .inl ⟨none, 0, h1, List.eq_nil_of_length_eq_zero h2⟩
  · by_cases hz : xs.length = 0
    · exact .inl ⟨_, cap, by rw [h1, hz], List.eq_nil_of_length_eq_zero hz⟩
    · subst h1
      exact .inr ⟨g, 0, cap, rfl, by omega, (Array.getElem?_eq_some_iff.1 hg).1, fun j x hj => by rw [Nat.zero_add]; exact h.cell hj⟩

theorem RdV.grown {w w' : World} {v : Value} {xs : List Value} {r : Option Nat} (h : RdV w v xs) (hg : w.grownBy w' r) (hne : ∀ k, v.ownBlock = some k → r ≠ some k) : RdV w' v xs := by
  rcases h with h | ⟨g, o, c, rfl, hn, hgl, hc⟩
  · exact .inl h
  · refine .inr ⟨g, o, c, rfl, hn, Nat.lt_of_lt_of_le hgl hg.size, fun j f hj => ?_⟩
    rw [← hc j f hj]
    unfold World.cell?
    rw [hg.block g hgl (fun e => hne g rfl e.symm)]
theorem RdF.grown {w w' : World} {v : Value} {fs : List Fl} {r : Option Nat} (h : RdF w v fs) (hg : w.grownBy w' r) (hne : ∀ k, v.ownBlock = some k → r ≠ some k) : RdF w' v fs := by
  rcases h with h | ⟨g, o, c, rfl, hn, hgl, hc⟩
  · exact .inl h
  · refine .inr ⟨g, o, c, rfl, hn, Nat.lt_of_lt_of_le hgl hg.size, fun j f hj => ?_⟩
    obtain ⟨e1, e2, e3⟩ := hc j f hj
    refine ⟨?_, ?_, ?_⟩
    · rw [← e1]; unfold World.cell?; rw [hg.block g hgl (fun e => hne g rfl e.symm)]
    · rw [← e2]; unfold World.cell?; rw [hg.block g hgl (fun e => hne g rfl e.symm)]
    · rw [← e3]; unfold World.cell?; rw [hg.block g hgl (fun e => hne g rfl e.symm)]
theorem OwnV.grown {w w' : World} {base : Nat} {e : TypeId} {v : Value} {xs : List Value} {r : Option Nat} (h : OwnV w base e v xs) (hg : w.grownBy w' r) (hne : ∀ k, v.ownBlock = some k → r ≠ some k) : OwnV w' base e v xs :=
  World.ownsRow.kept h hg (by cases hv : v.ownBlock with
    | none => exact .inl rfl
    | some k => exact .inr (fun e => hne k hv e.symm))

/-- A number as a cell. -/
def iv (z : Int) : Value := .int .i64 z

theorem OwnF.shaped {w : World} {base : Nat} {e : TypeId} {v : Value} {fs : List Fl} (h : OwnF w base e v fs) : ∃ a c, v = .slice a fs.length c := h.rd.shape

/-- 'out = append(out, f)' inside a region that draws its order, or outside one. -/
theorem wp_append_file' {P : Program} {W : World} {o : Oper} {a : Act} {K : Act → World → Prop} {Q : Exit → Act → World → Prop} (s x : Operand) (t : TypeId)
    (ho : o.op = .call { callee := .builtin .append, args := #[s, x], argTypes := #[t, t] })
    (base B : Nat) (e : TypeId) (i : TypeInfo) (z : Value) (nb : Nat) (ht : P.underlying t = some (.slice e)) (hi : P.info? e = some i) (hz : i.zero = some z) (hsize : i.size = 3) (hby : i.bytes = nb) (hzs : z.cells.size = 3)
    (v : Value) (fs : List Fl) (hs : a.eval s = v) (hown : OwnF W base e v fs)
    (blk : Nat) (cs : Array Value) (hblk : W.heap[blk]? = some (.cells cs e (0, 0))) (f : Fl) (hcs : cs.toList = flc f) (c : Nat) (hx : a.eval x = .slice (some ⟨blk, 0, none⟩) 1 c)
    (n : Nat) (hfn : fs.length = n) (hlen : n ≤ 2000000) (hnb : nb ≤ 1000) (hB : B ≤ base) (hbase : base ≤ W.heap.size) {w00 : World} (hbel : Below B w00 W)
    (h : ∀ a' c' w', OwnF w' base e (.slice a' (n + 1) c') (fs ++ [f]) → Below B w00 w' → (∀ k, k < W.heap.size → v.ownBlock ≠ some k → w'.heap[k]? = W.heap[k]?) → W.heap.size ≤ w'.heap.size → K (a.put o.dst (.slice a' (n + 1) c')) w') : o.wp P a W K Q := by
  subst hfn
  have hcell : ∀ j u, (flc f)[j]? = some u → W.cell? ((⟨blk, 0, none⟩ : Addr).add j) = some u := by
    intro j u hu
    have hadd : (⟨blk, 0, none⟩ : Addr).add j = ⟨blk, j, none⟩ := by unfold Addr.add; split <;> simp_all
    rw [hadd, cell_of_row W blk j cs e (0, 0) hblk]
    rw [← hcs] at hu
    simpa using hu
  have hmul : (fs.length + 1) * nb ≤ 140737488355328 := Nat.le_trans (Nat.mul_le_mul (show fs.length + 1 ≤ 2000001 by omega) hnb) (by decide)
  refine wp_append_own W s x t ho base e i z 3 nb ht hi hz hsize hby hzs (by decide) v fs.length (fs.flatMap flc) hs hown
    ⟨blk, 0, none⟩ 1 c (flc f) hx rfl hcell (by intro u hu; simp only [flc, List.mem_cons, List.mem_nil_iff, or_false] at hu; rcases hu with rfl | rfl | rfl <;> rfl) (by unfold maxLen; omega) hmul hbase ?_
  intro v' w' h2 h3 _
  have h2' : OwnF w' base e v' (fs ++ [f]) := by unfold OwnF; rw [List.length_append, List.flatMap_append]; simpa using h2
  obtain ⟨a', c', rfl⟩ := h2'.shaped
  rw [List.length_append] at h2' ⊢
  refine h a' c' w' h2' (hbel.grown h3 (by omega) ?_) (fun k hk hne => h3.block k hk (fun e => hne e.symm)) h3.size
  intro k hk
  have := (World.ownsRow.lt hown k hk).1
  omega

theorem wpList_append_file' {P : Program} {W : World} {ops : Array Oper} {rest : List Oper} {o : Oper} {a : Act} {Q : Exit → Act → World → Prop} (hgd : o.guard = none) (s x : Operand) (t : TypeId)
    (ho : o.op = .call { callee := .builtin .append, args := #[s, x], argTypes := #[t, t] })
    (base B : Nat) (e : TypeId) (i : TypeInfo) (z : Value) (nb : Nat) (ht : P.underlying t = some (.slice e)) (hi : P.info? e = some i) (hz : i.zero = some z) (hsize : i.size = 3) (hby : i.bytes = nb) (hzs : z.cells.size = 3)
    (v : Value) (fs : List Fl) (hs : a.eval s = v) (hown : OwnF W base e v fs)
    (blk : Nat) (cs : Array Value) (hblk : W.heap[blk]? = some (.cells cs e (0, 0))) (f : Fl) (hcs : cs.toList = flc f) (c : Nat) (hx : a.eval x = .slice (some ⟨blk, 0, none⟩) 1 c)
    (n : Nat) (hfn : fs.length = n) (hlen : n ≤ 2000000) (hnb : nb ≤ 1000) (hB : B ≤ base) (hbase : base ≤ W.heap.size) {w00 : World} (hbel : Below B w00 W)
    (h : ∀ a' c' w', OwnF w' base e (.slice a' (n + 1) c') (fs ++ [f]) → Below B w00 w' → (∀ k, k < W.heap.size → v.ownBlock ≠ some k → w'.heap[k]? = W.heap[k]?) → W.heap.size ≤ w'.heap.size → wpList P ops Q rest (a.put o.dst (.slice a' (n + 1) c')) w') :
    wpList P ops Q (o :: rest) a W :=
  wpList_plain hgd fun _ hK => wp_append_file' s x t ho base B e i z nb ht hi hz hsize hby hzs v fs hs hown blk cs hblk f hcs c hx n hfn hlen hnb hB hbase hbel fun a' c' w' h2 h3 h4 h5 => hK _ _ (h a' c' w' h2 h3 h4 h5)

theorem step_append_file {P : Program} {W : World} {ops : Array Oper} {o : Oper} {a : Act} {K : Act → World → Prop} {Q : Exit → Act → World → Prop} {E : Prop} (hg : o.guard = none) (s x : Operand) (t : TypeId)
    (ho : o.op = .call { callee := .builtin .append, args := #[s, x], argTypes := #[t, t] })
    (base B : Nat) (e : TypeId) (i : TypeInfo) (z : Value) (nb : Nat) (ht : P.underlying t = some (.slice e)) (hi : P.info? e = some i) (hz : i.zero = some z) (hsize : i.size = 3) (hby : i.bytes = nb) (hzs : z.cells.size = 3)
    (v : Value) (fs : List Fl) (hs : a.eval s = v) (hown : OwnF W base e v fs)
    (blk : Nat) (cs : Array Value) (hblk : W.heap[blk]? = some (.cells cs e (0, 0))) (f : Fl) (hcs : cs.toList = flc f) (c : Nat) (hx : a.eval x = .slice (some ⟨blk, 0, none⟩) 1 c)
    (n : Nat) (hfn : fs.length = n) (hlen : n ≤ 2000000) (hnb : nb ≤ 1000) (hB : B ≤ base) (hbase : base ≤ W.heap.size) {w00 : World} (hbel : Below B w00 W)
    (h : ∀ a' c' w', OwnF w' base e (.slice a' (n + 1) c') (fs ++ [f]) → Below B w00 w' → (∀ k, k < W.heap.size → v.ownBlock ≠ some k → w'.heap[k]? = W.heap[k]?) → W.heap.size ≤ w'.heap.size → K (a.put o.dst (.slice a' (n + 1) c')) w') :
    if Region.wanted o (yielded ops a.tmps) = true then Oper.wp P o a W K Q else E := by
  have hw : Region.wanted o (yielded ops a.tmps) = true := by simp [Region.wanted, hg]
  rw [if_pos hw]
  exact wp_append_file' s x t ho base B e i z nb ht hi hz hsize hby hzs v fs hs hown blk cs hblk f hcs c hx n hfn hlen hnb hB hbase hbel h

/-- A call of a Go function by its contract, inside a region that draws its order. -/
theorem step_call {P : Program} {W : World} {ops : Array Oper} {o : Oper} {a : Act} {K : Act → World → Prop} {Q : Exit → Act → World → Prop} {E : Prop} (hg : o.guard = none) {F : FuncId} {args : Array Value} {R : Ending → World → Prop}
    (C : Calls P F args W R) (hrun : (execOp a.eval o).run P W = .ok (.enter F args) W)
    (h : ∀ e w', R e w' → ∃ v, e = .returned v ∧ K (a.put o.dst v) w') :
    if Region.wanted o (yielded ops a.tmps) = true then Oper.wp P o a W K Q else E := by
  have hw : Region.wanted o (yielded ops a.tmps) = true := by simp [Region.wanted, hg]
  rw [if_pos hw]
  unfold Oper.wp
  rw [hrun, Oper.upon_enter]
  refine C.mono fun e w' hR => ?_
  obtain ⟨v, rfl, hK⟩ := h e w' hR
  exact hK
end Go.Proofs.YthjgmpfdjhegfasDoor

/- What laws.toIntS, eqIntS, markIntS come to. -/
namespace Go.Proofs.YthjgmpfdjhegfasDoor
open Go.RowKit

theorem infoInt : (Tryd.prog.info? 3).map (fun i => (i.zero, i.size, i.bytes)) = some (some (.int .i64 0), 1, 8) := by kernel_rfl
theorem madeI (n : Nat) : (madeCells (Value.int .i64 0).cells (n * 1)).toList = List.replicate n (.int .i64 0) := by
  unfold madeCells
  apply List.ext_getElem?
  intro j
  rw [Array.toList_map, Array.toList_range, List.getElem?_map, List.getElem?_replicate, Nat.mul_one]
  by_cases hj : j < n
  · rw [List.getElem?_range hj, if_pos hj]
    show some ((#[Value.int .i64 0] : Array Value)[j % 1]!) = _
    rw [Nat.mod_one]; rfl
  · rw [List.getElem?_eq_none (by simp; omega), if_neg hj]; rfl
theorem fillV {xs : List Value} {k n : Nat} {x z : Value} (hf : xs[k]? = some x) (hn : xs.length = n) : (xs.take k ++ List.replicate (n - k) z).set k x = xs.take (k + 1) ++ List.replicate (n - (k + 1)) z := by
  have hk : k < xs.length := (List.getElem?_eq_some_iff.1 hf).1
  have hl : (xs.take k).length = k := by rw [List.length_take]; omega
  rw [List.set_append_right _ _ (by omega), hl, Nat.sub_self, show n - k = (n - (k + 1)) + 1 by omega, List.replicate_succ, List.set_cons_zero, List.take_add_one, hf, List.append_assoc]
  rfl
theorem OwnV.len {w : World} {base n : Nat} {a : Option Addr} {c : Nat} {e : TypeId} {xs : List Value} (h : OwnV w base e (.slice a n c) xs) : xs.length = n := by
  rcases h.2 with ⟨h1, h2⟩ | ⟨g', cap, cur, h1, _⟩
  · simp only [Value.slice.injEq] at h1; omega
  · simp only [Value.slice.injEq] at h1; exact h1.2.1.symm

def mkI (k n : Nat) : List Value := (List.range n).map fun i => .int .i64 ((k + i : Nat) : Int)
theorem mkI_len (k n : Nat) : (mkI k n).length = n := by unfold mkI; simp
theorem mkI_succ (k n : Nat) : mkI k (n + 1) = mkI k n ++ [.int .i64 ((k + n : Nat) : Int)] := by unfold mkI; rw [List.range_succ, List.map_append]; rfl
theorem mkI_set (k i : Nat) (xs : List Value) (h : i < xs.length) : (mkI k i ++ xs.drop i).set i (.int .i64 ((k + i : Nat) : Int)) = mkI k (i + 1) ++ xs.drop (i + 1) := by
  rw [List.drop_eq_getElem_cons h, List.set_append_right _ _ (by rw [mkI_len]; exact Nat.le_refl _), mkI_len, Nat.sub_self, List.set_cons_zero, mkI_succ]
  simp
end Go.Proofs.YthjgmpfdjhegfasDoor

/- Polynomials by the given model: whether one is right, bits turned, how far two are apart, over the loaded program. -/
namespace Go.Proofs.YthjgmpfdjhegfasDoor
open Go.RowKit
/-- A slice's length is no more than its room. -/
def CapV (v : Value) : Prop := ∀ a n c, v = .slice a n c → n ≤ c
theorem OwnV.capv {w : World} {base : Nat} {e : TypeId} {v : Value} {xs : List Value} (h : OwnV w base e v xs) : CapV v := by
  intro a n c hv
  subst hv
  rcases h.2 with ⟨h1, _⟩ | ⟨g, cap, cur, h1, _, _, h3, _⟩
  · simp only [Value.slice.injEq] at h1; omega
  · simp only [Value.slice.injEq] at h1; omega
theorem capv_lit {a : Option Addr} {n c : Nat} (h : n ≤ c) : CapV (.slice a n c) := by
  intro a' n' c' he
  simp only [Value.slice.injEq] at he
  omega
theorem okPl_no {l : List Int} (k : Nat) (hk : k < l.length) (h : ¬ (0 ≤ cAt l k ∧ cAt l k ≤ 3328)) : okPl l = false := by
  cases e : okPl l with
  | false => rfl
  | true => exact absurd ((okPl_yes e).2 k (by have := (okPl_yes e).1; omega)) h
theorem okPl_len {l : List Int} (h : ¬ l.length = 256) : okPl l = false := by
  cases e : okPl l with
  | false => rfl
  | true => exact absurd (okPl_yes e).1 h
theorem get_iv (l : List Int) (k : Nat) (h : k < l.length) : (l.map iv)[k]? = some (.int .i64 (cAt l k)) := by
  rw [List.getElem?_map, List.getElem?_eq_getElem h, cAt_lt h]; rfl
theorem inb9 (x lo hi : Int) (w : World) :
    Calls Tryd.prog 50 #[.int .i64 x, .int .i64 lo, .int .i64 hi] w fun e w' => e = .returned (.bool (decide (lo ≤ x ∧ x ≤ hi))) ∧ w' = w := by
  by_cases h1 : lo ≤ x
  · by_cases h2 : x ≤ hi
    · have H := hide (show decide (lo ≤ x ∧ x ≤ hi) = true by rw [decide_eq_true_iff]; omega)
      rw [unhide H]
      go_enter Tryd.func50, Tryd.ntmps50
      go_wp2
      go_ret
      exact ⟨by simp, rfl⟩
    · have H := hide (show decide (lo ≤ x ∧ x ≤ hi) = false by rw [decide_eq_false_iff_not]; omega)
      rw [unhide H]
      go_enter Tryd.func50, Tryd.ntmps50
      go_wp2
      go_ret
      exact ⟨by simp, rfl⟩
  · have H := hide (show decide (lo ≤ x ∧ x ≤ hi) = false by rw [decide_eq_false_iff_not]; omega)
    rw [unhide H]
    go_enter Tryd.func50, Tryd.ntmps50
    go_wp2
    go_ret
    exact ⟨rfl, rfl⟩
set_option maxRecDepth 20000 in
set_option maxHeartbeats 400000 in
theorem specPolyOk_any (is : List Int) (v : Value) (w : World) (hr : RdV w v (is.map iv)) :
    Calls Tryd.prog 38 #[v] w fun e w' => e = .returned (.bool (okPl is)) ∧ w' = w := by
  obtain ⟨a, c, rfl, hc⟩ := hr.open
  clear hr
  rw [List.length_map]
  by_cases hl : is.length = 256
  · obtain ⟨n, hnn⟩ : ∃ n, is.length = n := ⟨_, rfl⟩
    rw [hnn]
    have hn : (n : Int) = 256 := by omega
    have hn' : n = 256 := by omega
    replace hn' := hide hn'
    replace hnn := hide hnn
    replace hl := hide hl
    go_enter Tryd.func38, Tryd.ntmps38
    go_wp2
    go_loopw [3] (fun ti wr => ∃ k : Nat, k ≤ 256 ∧ ti = .int .i64 k ∧ wr = w ∧ Hid (∀ j, j < k → 0 ≤ cAt is j ∧ cAt is j ≤ 3328)) (fun ti _ => 256 - (intOf ti).toNat)
    case atStart => exact ⟨0, by omega, rfl, rfl, hide (fun j hj => absurd hj (by omega))⟩
    case round =>
      obtain ⟨k, hk, rfl, hw, HK⟩ := hrel
      have hw' := hw.symm
      subst hw'
      clear hw
      by_cases hlt : k < 256
      · have hk' : (k : Int) < 256 := by omega
        have hkl : k < is.length := by rw [unhide hl]; exact hlt
        obtain ⟨g, o, rfl, hg, d1⟩ := hc k _ (get_iv is k hkl)
        by_cases hx : 0 ≤ cAt is k ∧ cAt is k ≤ 3328
        · have CI := hide (inb9 (cAt is k) 0 3328 w)
          rw [show decide (0 ≤ cAt is k ∧ cAt is k ≤ 3328) = true by rw [decide_eq_true_iff]; exact hx] at CI
          have HK2 := hide (show ∀ j, j < k + 1 → 0 ≤ cAt is j ∧ cAt is j ≤ 3328 from fun j hj => by
            by_cases e : j = k
            · rw [e]; exact hx
            · exact unhide HK j (by omega))
          generalize cAt is k = told at d1 CI
          clear hc HK hx
          go_wp2_with (go_at_call 50; refine (unhide CI).mono ?_; rintro e w1 ⟨rfl, hw1⟩; have hw2 := hw1.symm; subst hw2; clear hw1)
          go_roundw
          case rel => exact ⟨k + 1, by omega, by go_num, by first | rfl | trivial, HK2⟩
          case measure => simp [intOf]; omega
        · have CI := hide (inb9 (cAt is k) 0 3328 w)
          rw [show decide (0 ≤ cAt is k ∧ cAt is k ≤ 3328) = false by rw [decide_eq_false_iff_not]; exact hx] at CI
          have E := hide (okPl_no k hkl hx)
          generalize cAt is k = told at d1 CI
          clear hc HK hx
          go_wp2_with (go_at_call 50; refine (unhide CI).mono ?_; rintro e w1 ⟨rfl, hw1⟩; have hw2 := hw1.symm; subst hw2; clear hw1)
          go_ret
          exact ⟨by rw [unhide E]; rfl, rfl⟩
      · have hk' : ¬ (k : Int) < 256 := by omega
        have hke : k = 256 := by omega
        have E := hide (okPl_of (unhide hl) (fun j hj => unhide HK j (by omega)))
        clear hc HK
        go_wp2
        go_ret
        exact ⟨by rw [unhide E]; rfl, rfl⟩
  · have E := hide (okPl_len hl)
    have hl' : ¬ (is.length : Int) = 256 := by omega
    go_enter Tryd.func38, Tryd.ntmps38
    go_wp2
    go_ret
    exact ⟨by rw [unhide E]; rfl, rfl⟩
def hv (m : Nat) : Nat → Nat
  | 0 => m
  | k + 1 => hv m k / 2
def rv (m : Nat) : Nat → Nat
  | 0 => 0
  | k + 1 => 2 * rv m k + hv m k % 2
theorem rv_7 (m : Nat) (hm : m < 128) : rv m 7 = t7 m := by
  have H : allN (fun m => rv m 7 == t7 m) 128 = true := by decide +kernel
  simpa using allN_at H m hm
theorem hv_le (m k : Nat) : hv m k ≤ m := by
  induction k with
  | zero => exact Nat.le_refl _
  | succ k ih => show hv m k / 2 ≤ m; omega
theorem rv_lt (m k : Nat) (hk : k ≤ 7) : rv m k < 2 ^ k := by
  induction k with
  | zero => exact Nat.one_pos
  | succ k ih => have := ih (by omega); show 2 * rv m k + hv m k % 2 < 2 ^ (k + 1); rw [Nat.pow_succ]; omega
theorem rv_le (m k : Nat) (hk : k ≤ 7) : rv m k < 128 := Nat.lt_of_lt_of_le (rv_lt m k hk) (Nat.pow_le_pow_right (by omega) hk)
def turnZ (z : Int) : Int := (t7 (z % 128).toNat : Int)
set_option maxRecDepth 20000 in
set_option maxHeartbeats 400000 in
theorem specTurn7_any (z : Int) (w : World) :
    Calls Tryd.prog 47 #[.int .i64 z] w fun e w' => e = .returned (.int .i64 (turnZ z)) ∧ w' = w := by
  obtain ⟨m, hm⟩ : ∃ m : Nat, (z % 128).toNat = m := ⟨_, rfl⟩
  have hml : m < 128 := by omega
  have ET := hide (show turnZ z = (rv m 7 : Int) by unfold turnZ; rw [hm, rv_7 m hml])
  have hzm : z.tmod 128 = (m : Int) ∨ (z.tmod 128 < 0 ∧ z.tmod 128 + 128 = (m : Int)) := by
    have e := @Int.tmod_eq_emod z 128
    split at e
    · left; rw [e]; omega
    · rename_i hn
      right
      have h0 : ¬ 128 ∣ z := fun hd => hn (.inr hd)
      have e2 : z.tmod 128 = z % 128 - 128 := e
      rw [e2]
      omega
  have e128 : ∀ x : Int, 0 ≤ x → x < 128 → IntKind.i64.wrap x = x := fun x h1 h2 => by rw [IntKind.wrap_i64]; omega
  rcases hzm with h | ⟨h1, h2⟩
  · have ew : IntKind.i64.wrap (m : Int) = (m : Int) := e128 _ (by omega) (by omega)
    have hge : ¬ (m : Int) < 0 := by omega
    go_enter Tryd.func47, Tryd.ntmps47
    go_wp2
    go_loopw [0, 3, 4] (fun tn tq ti wr => ∃ k : Nat, k ≤ 7 ∧ tn = .int .i64 (hv m k : Int) ∧ tq = .int .i64 (rv m k : Int) ∧ ti = .int .i64 (k : Int) ∧ wr = w) (fun _ _ ti _ => 7 - (intOf ti).toNat)
    case atStart => exact ⟨0, by omega, rfl, rfl, rfl, rfl⟩
    case round =>
      obtain ⟨k, hk, rfl, rfl, rfl, hw⟩ := hrel
      have hw' := hw.symm
      subst hw'
      clear hw
      have q1 := hv_le m k
      have q2 := rv_le m k hk
      by_cases hlt : k < 7
      · have hk' : (k : Int) < 7 := by omega
        obtain ⟨p, hp⟩ : ∃ p, p = hv m k := ⟨_, rfl⟩
        obtain ⟨r, hr⟩ : ∃ r, r = rv m k := ⟨_, rfl⟩
        have hp2 : hv m (k + 1) = p / 2 := by rw [hp]; rfl
        have hr2 : rv m (k + 1) = 2 * r + p % 2 := by rw [hp, hr]; rfl
        rw [← hp] at q1 ⊢
        rw [← hr] at q2 ⊢
        have w1 : IntKind.i64.wrap (2 * (r : Int)) = 2 * (r : Int) := by rw [IntKind.wrap_i64]; omega
        have w2 : (p : Int).tmod 2 = ((p % 2 : Nat) : Int) := by rw [Int.tmod_eq_emod_of_nonneg (by omega)]; omega
        have w3 : (p : Int).tdiv 2 = ((p / 2 : Nat) : Int) := by rw [Int.tdiv_eq_ediv_of_nonneg (by omega)]; omega
        have w4 : IntKind.i64.wrap ((p % 2 : Nat) : Int) = ((p % 2 : Nat) : Int) := by rw [IntKind.wrap_i64]; omega
        have w5 : IntKind.i64.wrap ((p / 2 : Nat) : Int) = ((p / 2 : Nat) : Int) := by rw [IntKind.wrap_i64]; omega
        have w6 : IntKind.i64.wrap (2 * (r : Int) + ((p % 2 : Nat) : Int)) = ((2 * r + p % 2 : Nat) : Int) := by rw [IntKind.wrap_i64]; omega
        replace hp := hide hp; replace hr := hide hr; replace hp2 := hide hp2; replace hr2 := hide hr2
        go_wp2
        refine ⟨⟨k + 1, by omega, congrArg (Value.int .i64) (by rw [unhide hp2]; omega), congrArg (Value.int .i64) (by rw [unhide hr2]; omega), by go_num, by first | rfl | trivial⟩, by simp [intOf]; omega⟩
      · have hk' : ¬ (k : Int) < 7 := by omega
        have hke : k = 7 := by omega
        have ET2 := hide (show turnZ z = (rv m k : Int) by rw [hke]; exact unhide ET)
        replace hke := hide hke
        generalize rv m k = r at *
        go_wp2
        go_ret
        exact ⟨by rw [unhide ET2]; rfl, rfl⟩
  · obtain ⟨x, hx⟩ : ∃ x, x = z.tmod 128 := ⟨_, rfl⟩
    rw [← hx] at h1 h2
    have ew : IntKind.i64.wrap x = x := by rw [IntKind.wrap_i64]; omega
    have ew2 : IntKind.i64.wrap (x + 128) = (m : Int) := by rw [h2]; exact e128 _ (by omega) (by omega)
    have hx' := hx.symm
    clear hx
    go_enter Tryd.func47, Tryd.ntmps47
    go_wp2
    go_loopw [0, 3, 4] (fun tn tq ti wr => ∃ k : Nat, k ≤ 7 ∧ tn = .int .i64 (hv m k : Int) ∧ tq = .int .i64 (rv m k : Int) ∧ ti = .int .i64 (k : Int) ∧ wr = w) (fun _ _ ti _ => 7 - (intOf ti).toNat)
    case atStart => exact ⟨0, by omega, rfl, rfl, rfl, rfl⟩
    case round =>
      obtain ⟨k, hk, rfl, rfl, rfl, hw⟩ := hrel
      have hw' := hw.symm
      subst hw'
      clear hw
      have q1 := hv_le m k
      have q2 := rv_le m k hk
      by_cases hlt : k < 7
      · have hk' : (k : Int) < 7 := by omega
        obtain ⟨p, hp⟩ : ∃ p, p = hv m k := ⟨_, rfl⟩
        obtain ⟨r, hr⟩ : ∃ r, r = rv m k := ⟨_, rfl⟩
        have hp2 : hv m (k + 1) = p / 2 := by rw [hp]; rfl
        have hr2 : rv m (k + 1) = 2 * r + p % 2 := by rw [hp, hr]; rfl
        rw [← hp] at q1 ⊢
        rw [← hr] at q2 ⊢
        have w1 : IntKind.i64.wrap (2 * (r : Int)) = 2 * (r : Int) := by rw [IntKind.wrap_i64]; omega
        have w2 : (p : Int).tmod 2 = ((p % 2 : Nat) : Int) := by rw [Int.tmod_eq_emod_of_nonneg (by omega)]; omega
        have w3 : (p : Int).tdiv 2 = ((p / 2 : Nat) : Int) := by rw [Int.tdiv_eq_ediv_of_nonneg (by omega)]; omega
        have w4 : IntKind.i64.wrap ((p % 2 : Nat) : Int) = ((p % 2 : Nat) : Int) := by rw [IntKind.wrap_i64]; omega
        have w5 : IntKind.i64.wrap ((p / 2 : Nat) : Int) = ((p / 2 : Nat) : Int) := by rw [IntKind.wrap_i64]; omega
        have w6 : IntKind.i64.wrap (2 * (r : Int) + ((p % 2 : Nat) : Int)) = ((2 * r + p % 2 : Nat) : Int) := by rw [IntKind.wrap_i64]; omega
        replace hp := hide hp; replace hr := hide hr; replace hp2 := hide hp2; replace hr2 := hide hr2
        go_wp2
        refine ⟨⟨k + 1, by omega, congrArg (Value.int .i64) (by rw [unhide hp2]; omega), congrArg (Value.int .i64) (by rw [unhide hr2]; omega), by go_num, by first | rfl | trivial⟩, by simp [intOf]; omega⟩
      · have hk' : ¬ (k : Int) < 7 := by omega
        have hke : k = 7 := by omega
        have ET2 := hide (show turnZ z = (rv m k : Int) by rw [hke]; exact unhide ET)
        replace hke := hide hke
        generalize rv m k = r at *
        go_wp2
        go_ret
        exact ⟨by rw [unhide ET2]; rfl, rfl⟩
end Go.Proofs.YthjgmpfdjhegfasDoor

/- Powers of two, numbers squeezed and stretched, by the given model, over the loaded program. -/
namespace Go.Proofs.YthjgmpfdjhegfasDoor
open Go.RowKit
theorem two_le (n m : Nat) (h : n ≤ m) : 2 ^ n ≤ 2 ^ m := Nat.pow_le_pow_right (by omega) h
set_option maxRecDepth 20000 in
set_option maxHeartbeats 400000 in
theorem two_any (n : Nat) (hn : n ≤ 40) (w : World) :
    Calls Tryd.prog 51 #[.int .i64 (n : Int)] w fun e w' => e = .returned (.int .i64 ((2 ^ n : Nat) : Int)) ∧ w' = w := by
  obtain ⟨R, hR⟩ : ∃ R : Nat, R = 2 ^ n := ⟨_, rfl⟩
  rw [← hR]
  replace hR := hide hR
  go_enter Tryd.func51, Tryd.ntmps51
  go_wp2
  go_loopw [3, 4] (fun tq ti wr => ∃ k p : Nat, k ≤ n ∧ Hid (p = 2 ^ k) ∧ tq = .int .i64 (p : Int) ∧ ti = .int .i64 (k : Int) ∧ wr = w) (fun _ ti _ => n - (intOf ti).toNat)
  case atStart => exact ⟨0, 1, by omega, hide rfl, rfl, rfl, rfl⟩
  case round =>
    obtain ⟨k, p, hk, hp, rfl, rfl, hw⟩ := hrel
    have hw' := hw.symm
    subst hw'
    clear hw
    by_cases hlt : k < n
    · have hk' : (k : Int) < (n : Int) := by omega
      have hb : p ≤ 2 ^ 40 := by rw [unhide hp]; exact two_le k 40 (by omega)
      obtain ⟨p2, hp2⟩ : ∃ p2 : Nat, p2 = 2 * p := ⟨_, rfl⟩
      have w1 : IntKind.i64.wrap (2 * (p : Int)) = (p2 : Int) := by rw [IntKind.wrap_i64]; omega
      have hn2 := hide (show p2 = 2 ^ (k + 1) by rw [hp2, unhide hp, Nat.pow_succ]; omega)
      replace hp2 := hide hp2
      clear hb
      go_wp2
      exact ⟨⟨k + 1, p2, by omega, hn2, by first | rfl | trivial, by go_num, by first | rfl | trivial⟩, by simp [intOf]; omega⟩
    · have hk' : ¬ (k : Int) < (n : Int) := by omega
      have hke : k = n := by omega
      have E := hide (show R = p by rw [unhide hR, unhide hp, hke])
      replace hke := hide hke
      go_wp2
      go_ret
      exact ⟨by rw [unhide E]; rfl, rfl⟩
set_option maxRecDepth 20000 in
set_option maxHeartbeats 400000 in
theorem specSqueeze_any (x d : Int) (w : World) :
    Calls Tryd.prog 29 #[.int .i64 x, .int .i64 d] w fun e w' => e = .returned (.int .i64 (sqzZ x d)) ∧ w' = w := by
  have C1 := hide (inb9 x 0 3328 w)
  have C2 := hide (inb9 d 1 11 w)
  by_cases h1 : 0 ≤ x ∧ x ≤ 3328
  · rw [show decide ((0 : Int) ≤ x ∧ x ≤ 3328) = true by rw [decide_eq_true_iff]; exact h1] at C1
    by_cases h2 : 1 ≤ d ∧ d ≤ 11
    · rw [show decide ((1 : Int) ≤ d ∧ d ≤ 11) = true by rw [decide_eq_true_iff]; exact h2] at C2
      have E := hide (show sqzZ x d = (sqz x.toNat d.toNat : Int) by unfold sqzZ; rw [if_pos ⟨h1, h2⟩])
      obtain ⟨m, rfl⟩ : ∃ m : Nat, x = (m : Int) := ⟨x.toNat, by omega⟩
      obtain ⟨n, rfl⟩ : ∃ n : Nat, d = (n : Int) := ⟨d.toNat, by omega⟩
      rw [Int.toNat_natCast, Int.toNat_natCast] at E
      have CT := hide (two_any n (by omega) w)
      have hp : 1 ≤ 2 ^ n ∧ 2 ^ n ≤ 2048 := ⟨Nat.pow_pos (by omega), two_le n 11 (by omega)⟩
      unfold sqz at E
      generalize 2 ^ n = p at *
      have hm : p * m ≤ 2048 * 3328 := Nat.mul_le_mul hp.2 (by omega)
      obtain ⟨q, hq⟩ : ∃ q : Nat, q = p * m := ⟨_, rfl⟩
      rw [← hq] at hm E
      obtain ⟨s, hs⟩ : ∃ s : Nat, s = q + 1664 := ⟨_, rfl⟩
      obtain ⟨t, ht⟩ : ∃ t : Nat, t = s / 3329 := ⟨_, rfl⟩
      obtain ⟨u, hu⟩ : ∃ u : Nat, u = t % p := ⟨_, rfl⟩
      rw [← hs, ← ht, ← hu] at E
      have hup : u < p := by rw [hu]; exact Nat.mod_lt _ (by omega)
      have w1 : IntKind.i64.wrap ((p : Int) * (m : Int)) = (q : Int) := by rw [show (p : Int) * (m : Int) = (q : Int) by rw [hq]; exact (Int.natCast_mul p m).symm, IntKind.wrap_i64]; omega
      have w2 : IntKind.i64.wrap ((q : Int) + 1664) = (s : Int) := by rw [IntKind.wrap_i64]; omega
      have w3 : (s : Int).tdiv 3329 = (t : Int) := by rw [Int.tdiv_eq_ediv_of_nonneg (by omega)]; omega
      have w3' : (s : Int) / 3329 = (t : Int) := by omega
      have w4 : IntKind.i64.wrap (t : Int) = (t : Int) := by rw [IntKind.wrap_i64]; omega
      have w5' : (t : Int) % (p : Int) = (u : Int) := by rw [hu]; exact (Int.natCast_emod t p).symm
      have w5 : (t : Int).tmod (p : Int) = (u : Int) := by rw [Int.tmod_eq_emod_of_nonneg (by omega)]; exact w5'
      have w6 : IntKind.i64.wrap (u : Int) = (u : Int) := by rw [IntKind.wrap_i64]; omega
      have w7 : ¬ (p : Int) = 0 := by omega
      replace hq := hide hq; replace hs := hide hs; replace ht := hide ht; replace hu := hide hu
      go_enter Tryd.func29, Tryd.ntmps29
      go_wp2_with fail
      refine (unhide C1).mono ?_
      rintro e w1 ⟨rfl, hw1⟩
      have hw2 := hw1.symm
      subst hw2
      clear hw1
      go_wp2_with fail
      refine (unhide C2).mono ?_
      rintro e w1 ⟨rfl, hw1⟩
      have hw2 := hw1.symm
      subst hw2
      clear hw1
      go_wp2_with fail
      refine (unhide CT).mono ?_
      rintro e w1 ⟨rfl, hw1⟩
      have hw2 := hw1.symm
      subst hw2
      clear hw1
      go_wp2_with fail
      refine (unhide CT).mono ?_
      rintro e w1 ⟨rfl, hw1⟩
      have hw2 := hw1.symm
      subst hw2
      clear hw1
      go_wp2
      go_ret
      exact ⟨by rw [unhide E]; rfl, rfl⟩
    · rw [show decide ((1 : Int) ≤ d ∧ d ≤ 11) = false by rw [decide_eq_false_iff_not]; exact h2] at C2
      have E := hide (show sqzZ x d = 0 by unfold sqzZ; rw [if_neg (fun h => h2 h.2)])
      rw [unhide E]
      go_enter Tryd.func29, Tryd.ntmps29
      go_wp2_with fail
      refine (unhide C1).mono ?_
      rintro e w1 ⟨rfl, hw1⟩
      have hw2 := hw1.symm
      subst hw2
      clear hw1
      go_wp2_with fail
      refine (unhide C2).mono ?_
      rintro e w1 ⟨rfl, hw1⟩
      have hw2 := hw1.symm
      subst hw2
      clear hw1
      go_wp2
      go_ret
      exact ⟨rfl, rfl⟩
  · rw [show decide ((0 : Int) ≤ x ∧ x ≤ 3328) = false by rw [decide_eq_false_iff_not]; exact h1] at C1
    have E := hide (show sqzZ x d = 0 by unfold sqzZ; rw [if_neg (fun h => h1 h.1)])
    rw [unhide E]
    go_enter Tryd.func29, Tryd.ntmps29
    go_wp2_with fail
    refine (unhide C1).mono ?_
    rintro e w1 ⟨rfl, hw1⟩
    have hw2 := hw1.symm
    subst hw2
    clear hw1
    go_wp2
    go_ret
    exact ⟨rfl, rfl⟩
set_option maxRecDepth 20000 in
set_option maxHeartbeats 400000 in
theorem specStretch_any (y d : Int) (w : World) :
    Calls Tryd.prog 39 #[.int .i64 y, .int .i64 d] w fun e w' => e = .returned (.int .i64 (strZ y d)) ∧ w' = w := by
  have C1 := hide (inb9 d 1 11 w)
  by_cases h1 : 1 ≤ d ∧ d ≤ 11
  · rw [show decide ((1 : Int) ≤ d ∧ d ≤ 11) = true by rw [decide_eq_true_iff]; exact h1] at C1
    obtain ⟨n, rfl⟩ : ∃ n : Nat, d = (n : Int) := ⟨d.toNat, by omega⟩
    have CT := hide (two_any n (by omega) w)
    have hp : 1 ≤ 2 ^ n ∧ 2 ^ n ≤ 2048 := ⟨Nat.pow_pos (by omega), two_le n 11 (by omega)⟩
    obtain ⟨p, hpp⟩ : ∃ p : Nat, p = 2 ^ n := ⟨_, rfl⟩
    rw [← hpp] at CT hp
    have C2 := hide (inb9 y 0 ((p : Int) - 1) w)
    obtain ⟨p1, hp1⟩ : ∃ p1 : Int, p1 = (p : Int) - 1 := ⟨_, rfl⟩
    rw [← hp1] at C2
    have w0 : IntKind.i64.wrap ((p : Int) - 1) = p1 := by rw [IntKind.wrap_i64]; omega
    by_cases h2 : 0 ≤ y ∧ y ≤ p1
    · rw [show decide ((0 : Int) ≤ y ∧ y ≤ p1) = true by rw [decide_eq_true_iff]; exact h2] at C2
      have E := hide (show strZ y (n : Int) = (str y.toNat n : Int) by
        unfold strZ
        rw [Int.toNat_natCast, if_pos ⟨h1, h2.1, by rw [show (2 : Int) ^ n = ((2 ^ n : Nat) : Int) by rw [Int.natCast_pow]; rfl, ← hpp]; omega⟩])
      obtain ⟨m, rfl⟩ : ∃ m : Nat, y = (m : Int) := ⟨y.toNat, by omega⟩
      rw [Int.toNat_natCast] at E
      obtain ⟨n1, hn1⟩ : ∃ n1 : Nat, n1 = n - 1 := ⟨_, rfl⟩
      have CU := hide (two_any n1 (by omega) w)
      have hr : 1 ≤ 2 ^ n1 ∧ 2 ^ n1 ≤ 2048 := ⟨Nat.pow_pos (by omega), two_le n1 11 (by omega)⟩
      unfold str at E
      rw [← hn1, ← hpp] at E
      generalize 2 ^ n1 = r at *
      obtain ⟨q, hq⟩ : ∃ q : Nat, q = 3329 * m := ⟨_, rfl⟩
      obtain ⟨s, hs⟩ : ∃ s : Nat, s = q + r := ⟨_, rfl⟩
      obtain ⟨t, ht⟩ : ∃ t : Nat, t = s / p := ⟨_, rfl⟩
      rw [← hq, ← hs, ← ht] at E
      have htb : t ≤ s := by rw [ht]; exact Nat.div_le_self _ _
      have w1 : IntKind.i64.wrap (3329 * (m : Int)) = (q : Int) := by rw [IntKind.wrap_i64]; omega
      have w2 : IntKind.i64.wrap ((n : Int) - 1) = (n1 : Int) := by rw [IntKind.wrap_i64]; omega
      have w3 : IntKind.i64.wrap ((q : Int) + (r : Int)) = (s : Int) := by rw [IntKind.wrap_i64]; omega
      have w4' : (s : Int) / (p : Int) = (t : Int) := by rw [ht]; exact (Int.natCast_ediv s p).symm
      have w4 : (s : Int).tdiv (p : Int) = (t : Int) := by rw [Int.tdiv_eq_ediv_of_nonneg (by omega)]; exact w4'
      have w5 : IntKind.i64.wrap (t : Int) = (t : Int) := by rw [IntKind.wrap_i64]; omega
      have w7 : ¬ (p : Int) = 0 := by omega
      replace hq := hide hq; replace hs := hide hs; replace ht := hide ht; replace hn1 := hide hn1; replace hp1 := hide hp1; replace hpp := hide hpp
      go_enter Tryd.func39, Tryd.ntmps39
      go_wp2_with fail
      refine (unhide C1).mono ?_
      rintro e w1 ⟨rfl, hw1⟩
      have hw2 := hw1.symm
      subst hw2
      clear hw1
      go_wp2_with fail
      refine (unhide CT).mono ?_
      rintro e w1 ⟨rfl, hw1⟩
      have hw2 := hw1.symm
      subst hw2
      clear hw1
      go_wp2_with fail
      refine (unhide C2).mono ?_
      rintro e w1 ⟨rfl, hw1⟩
      have hw2 := hw1.symm
      subst hw2
      clear hw1
      go_wp2_with fail
      refine (unhide CU).mono ?_
      rintro e w1 ⟨rfl, hw1⟩
      have hw2 := hw1.symm
      subst hw2
      clear hw1
      go_wp2_with fail
      refine (unhide CT).mono ?_
      rintro e w1 ⟨rfl, hw1⟩
      have hw2 := hw1.symm
      subst hw2
      clear hw1
      go_wp2
      go_ret
      exact ⟨by rw [unhide E]; rfl, rfl⟩
    · rw [show decide ((0 : Int) ≤ y ∧ y ≤ p1) = false by rw [decide_eq_false_iff_not]; exact h2] at C2
      have E := hide (show strZ y (n : Int) = 0 by
        unfold strZ
        rw [Int.toNat_natCast, if_neg (fun h => h2 ⟨h.2.1, by have h3 := h.2.2; rw [show (2 : Int) ^ n = ((2 ^ n : Nat) : Int) by rw [Int.natCast_pow]; rfl, ← hpp] at h3; omega⟩)])
      rw [unhide E]
      replace hp1 := hide hp1; replace hpp := hide hpp
      go_enter Tryd.func39, Tryd.ntmps39
      go_wp2_with fail
      refine (unhide C1).mono ?_
      rintro e w1 ⟨rfl, hw1⟩
      have hw2 := hw1.symm
      subst hw2
      clear hw1
      go_wp2_with fail
      refine (unhide CT).mono ?_
      rintro e w1 ⟨rfl, hw1⟩
      have hw2 := hw1.symm
      subst hw2
      clear hw1
      go_wp2_with fail
      refine (unhide C2).mono ?_
      rintro e w1 ⟨rfl, hw1⟩
      have hw2 := hw1.symm
      subst hw2
      clear hw1
      go_wp2
      go_ret
      exact ⟨rfl, rfl⟩
  · rw [show decide ((1 : Int) ≤ d ∧ d ≤ 11) = false by rw [decide_eq_false_iff_not]; exact h1] at C1
    have E := hide (show strZ y d = 0 by unfold strZ; rw [if_neg (fun h => h1 h.1)])
    rw [unhide E]
    go_enter Tryd.func39, Tryd.ntmps39
    go_wp2_with fail
    refine (unhide C1).mono ?_
    rintro e w1 ⟨rfl, hw1⟩
    have hw2 := hw1.symm
    subst hw2
    clear hw1
    go_wp2
    go_ret
    exact ⟨rfl, rfl⟩
end Go.Proofs.YthjgmpfdjhegfasDoor

/- Numbers packed: the state in the midst of packing. -/
namespace Go.Proofs.YthjgmpfdjhegfasDoor
open Go.RowKit
/-- The number that the first i numbers of b bits make. -/
def pN (b : Nat) (xs : List Nat) (i : Nat) : Nat := valC (2 ^ b) (xs.take i)
theorem pN_add (b : Nat) (xs : List Nat) (i : Nat) (h : i < xs.length) : pN b xs (i + 1) = pN b xs i + 2 ^ (b * i) * xs[i] := by
  unfold pN
  rw [List.take_add_one, List.getElem?_eq_getElem h]
  show valC (2 ^ b) (xs.take i ++ [xs[i]]) = _
  rw [valC_snoc, List.length_take, Nat.min_eq_left (by omega), ← Nat.pow_mul]
theorem pN_lt (b : Nat) (xs : List Nat) (i : Nat) (h : ∀ x ∈ xs, x < 2 ^ b) : pN b xs i < 2 ^ (b * i) := by
  unfold pN
  refine Nat.lt_of_lt_of_le (valC_lt _ _ (fun x hx => h x (List.mem_of_mem_take hx))) ?_
  rw [← Nat.pow_mul]
  exact Nat.pow_le_pow_right (by omega) (Nat.mul_le_mul_left b (by rw [List.length_take]; omega))
theorem pN_all (b : Nat) (xs : List Nat) : pN b xs xs.length = valC (2 ^ b) xs := by unfold pN; rw [List.take_length]
theorem have_lt {N ct m T : Nat} (h : N < 2 ^ T) (ht : ct + 8 * m = T) : N / 256 ^ m < 2 ^ ct := by
  rw [Nat.div_lt_iff_lt_mul (Nat.pow_pos (by omega)), pow_256, ← Nat.pow_add, ht]
  exact h
theorem have_add {N ct m T x : Nat} (ht : ct + 8 * m = T) : (N + 2 ^ T * x) / 256 ^ m = N / 256 ^ m + x * 2 ^ ct := by
  rw [← ht, Nat.pow_add, ← pow_256, Nat.mul_comm (2 ^ ct) (256 ^ m), Nat.mul_assoc, Nat.add_mul_div_left _ _ (Nat.pow_pos (by omega)), Nat.mul_comm x]
theorem dig_same {N ct m T x : Nat} (ht : ct + 8 * m = T) : dig 256 m (N + 2 ^ T * x) = dig 256 m N := by
  refine dig_mod 256 m _ _ ?_
  rw [← ht, Nat.pow_add, ← pow_256, Nat.mul_comm (2 ^ ct) (256 ^ m), Nat.mul_assoc, Nat.add_mul_mod_self_left]
theorem have_next (N m : Nat) : N / 256 ^ m / 256 = N / 256 ^ (m + 1) := by rw [Nat.div_div_eq_div_mul, Nat.pow_succ]
/-- Bytes of numbers. -/
def bysL (l : List Nat) : List UInt8 := l.map byteOf
theorem bysL_add (N m : Nat) : bysL (dig 256 (m + 1) N) = bysL (dig 256 m N) ++ [byteOf (N / 256 ^ m % 256)] := by
  unfold bysL; rw [dig_add, List.map_append]; rfl
theorem bysL_len (m N : Nat) : (bysL (dig 256 m N)).length = m := by unfold bysL; rw [List.length_map, dig_len]
/-- Whether the numbers l can be packed with so many bits. -/
def pkOk (l : List Int) (bits : Int) : Bool := decide (1 ≤ bits ∧ bits ≤ 12) && l.all fun x => decide (0 ≤ x ∧ x ≤ ((2 ^ bits.toNat : Nat) : Int) - 1)
def natsL (l : List Int) : List Nat := l.map Int.toNat
def pkB (l : List Int) (bits : Int) : ByteArray := if pkOk l bits = true then ⟨(bysL (pkN bits.toNat (natsL l))).toArray⟩ else ⟨#[]⟩
theorem pkOk_yes {l : List Int} {bits : Int} (h : pkOk l bits = true) : (1 ≤ bits ∧ bits ≤ 12) ∧ ∀ x ∈ l, 0 ≤ x ∧ x ≤ ((2 ^ bits.toNat : Nat) : Int) - 1 := by
  unfold pkOk at h
  rw [Bool.and_eq_true, decide_eq_true_iff, List.all_eq_true] at h
  exact ⟨h.1, fun x hx => by simpa using h.2 x hx⟩
theorem pkOk_of {l : List Int} {bits : Int} (h1 : 1 ≤ bits ∧ bits ≤ 12) (h : ∀ x ∈ l, 0 ≤ x ∧ x ≤ ((2 ^ bits.toNat : Nat) : Int) - 1) : pkOk l bits = true := by
  unfold pkOk
  rw [Bool.and_eq_true, decide_eq_true_iff, List.all_eq_true]
  exact ⟨h1, fun x hx => by simpa using h x hx⟩
theorem pkOk_no {l : List Int} {bits : Int} (k : Nat) (hk : k < l.length) (h : ¬ (0 ≤ cAt l k ∧ cAt l k ≤ ((2 ^ bits.toNat : Nat) : Int) - 1)) : pkOk l bits = false := by
  cases e : pkOk l bits with
  | false => rfl
  | true =>
    have := (pkOk_yes e).2 l[k] (List.getElem_mem _)
    rw [← cAt_lt hk] at this
    exact absurd this h
theorem nats_lt {l : List Int} {b : Nat} (h : ∀ x ∈ l, 0 ≤ x ∧ x ≤ ((2 ^ b : Nat) : Int) - 1) : ∀ x ∈ natsL l, x < 2 ^ b := by
  intro x hx
  obtain ⟨y, hy, rfl⟩ := List.mem_map.1 hx
  have := h y hy
  generalize 2 ^ b = p at *
  omega
theorem nats_at (l : List Int) (k : Nat) (hk : k < l.length) : (natsL l)[k]'(by unfold natsL; rw [List.length_map]; exact hk) = (cAt l k).toNat := by
  unfold natsL
  rw [List.getElem_map, cAt_lt hk]
end Go.Proofs.YthjgmpfdjhegfasDoor

/- Pack by the given model, over the loaded program. -/
namespace Go.Proofs.YthjgmpfdjhegfasDoor
open Go.RowKit
theorem Tryd.infoB11 : (Tryd.prog.info? 5).map (fun i => (i.zero, i.size, i.bytes)) = some (some (.int .u8 0), 1, 1) := by kernel_rfl
set_option maxRecDepth 20000 in
set_option maxHeartbeats 1000000 in
theorem specPack_any (l : List Int) (bits : Int) (hl : l.length ≤ 2000000) (va : Value) (w : World) (ra : RdV w va (l.map iv)) :
    Calls Tryd.prog 30 #[va, .int .i64 bits] w fun e w' => e = .returned (.tuple #[.string (pkB l bits), .bool (pkOk l bits)]) ∧ Below w.heap.size w w' := by
  obtain ⟨i0, hi, hz0, hz1, hz2⟩ := info_parts Tryd.infoB11
  have C1 := hide (inb9 bits 1 12 w)
  obtain ⟨a1, c1, rfl, hc1⟩ := ra.open
  clear ra
  rw [List.length_map]
  by_cases hb : 1 ≤ bits ∧ bits ≤ 12
  · rw [show decide ((1 : Int) ≤ bits ∧ bits ≤ 12) = true by rw [decide_eq_true_iff]; exact hb] at C1
    obtain ⟨b, rfl⟩ : ∃ b : Nat, bits = (b : Int) := ⟨bits.toNat, by omega⟩
    have hb1 : 1 ≤ b ∧ b ≤ 12 := by omega
    obtain ⟨n, hnn⟩ : ∃ n, l.length = n := ⟨_, rfl⟩
    rw [hnn] at hl ⊢
    obtain ⟨p, hp⟩ : ∃ p : Nat, p = 2 ^ b := ⟨_, rfl⟩
    have hpb : 2 ≤ p ∧ p ≤ 4096 := by rw [hp]; exact ⟨two_le 1 b (by omega), two_le b 12 (by omega)⟩
    have CT := hide (fun W => two_any b (by omega) W)
    rw [← hp] at CT
    obtain ⟨p1, hp1⟩ : ∃ p1 : Int, p1 = (p : Int) - 1 := ⟨_, rfl⟩
    have wp : IntKind.i64.wrap ((p : Int) - 1) = p1 := by rw [IntKind.wrap_i64]; omega
    have HE := hide (show ∀ x : Int, (0 ≤ x ∧ x ≤ p1) ↔ (0 ≤ x ∧ x ≤ ((2 ^ (b : Int).toNat : Nat) : Int) - 1) from fun x => by rw [Int.toNat_natCast, ← hp, hp1])
    replace hnn := hide hnn; replace hp := hide hp; replace hp1 := hide hp1
    go_enter Tryd.func30, Tryd.ntmps30
    go_wp2_with fail
    refine (unhide C1).mono ?_
    rintro e w1 ⟨rfl, hw1⟩
    have hw2 := hw1.symm
    subst hw2
    clear hw1 C1
    go_wp2
    go_loopw [6] (fun ti wr => ∃ k q : Nat, k ≤ n ∧ ti = .int .i64 (k : Int) ∧ wr = w.drewN q ∧ Hid (∀ j, j < k → 0 ≤ cAt l j ∧ cAt l j ≤ p1)) (fun ti _ => n - (intOf ti).toNat)
    case atStart => exact ⟨0, 0, by omega, rfl, rfl, hide (fun j hj => absurd hj (by omega))⟩
    case round =>
      obtain ⟨k, q, hk, rfl, rfl, HK⟩ := hrel
      by_cases hlt : k < n
      · have hkl : k < l.length := by rw [unhide hnn]; exact hlt
        obtain ⟨g1, o1, rfl, hg1, d1⟩ := hc1 k _ (get_iv l k hkl)
        have hk' : (k : Int) < (n : Int) := by omega
        have hk0 : (0 : Int) ≤ (k : Int) := by omega
        have d2 : (w.drewN q).cell? ⟨g1, o1 + k, none⟩ = some (.int .i64 (cAt l k)) := d1
        by_cases hx : 0 ≤ cAt l k ∧ cAt l k ≤ p1
        · have CI := hide (fun W => inb9 (cAt l k) 0 p1 W)
          rw [show decide ((0 : Int) ≤ cAt l k ∧ cAt l k ≤ p1) = true by rw [decide_eq_true_iff]; exact hx] at CI
          have HK2 := hide (show ∀ j, j < k + 1 → 0 ≤ cAt l j ∧ cAt l j ≤ p1 from fun j hj => by
            by_cases e : j = k
            · rw [e]; exact hx
            · exact unhide HK j (by omega))
          generalize cAt l k = x at d1 d2 CI
          clear hc1 HK hx
          go_wp2
          go_region_held3 (fun W => W.cell? ⟨g1, o1 + k, none⟩ = some (.int .i64 x)) (first | exact d2 | fail) (first
            | (go_at_call 51; refine ((unhide CT) _).mono ?_; rintro e w2 ⟨rfl, rfl⟩)
            | (go_at_call 50; refine ((unhide CI) _).mono ?_; rintro e w3 ⟨rfl, rfl⟩)
            | fail)
          go_wp2
          go_roundw
          case rel => exact ⟨k + 1, _, by omega, by go_num, by first | rfl | rw [World.drewN_drewN], HK2⟩
          case measure => simp [intOf]; omega
        · have CI := hide (fun W => inb9 (cAt l k) 0 p1 W)
          rw [show decide ((0 : Int) ≤ cAt l k ∧ cAt l k ≤ p1) = false by rw [decide_eq_false_iff_not]; exact hx] at CI
          have E1 := hide (pkOk_no (bits := (b : Int)) k hkl (fun h => hx ((unhide HE _).2 h)))
          have E2 := hide (show pkB l (b : Int) = ⟨#[]⟩ by unfold pkB; rw [unhide E1]; rfl)
          generalize cAt l k = x at d1 d2 CI
          clear hc1 HK hx
          go_wp2
          go_region_held3 (fun W => W.cell? ⟨g1, o1 + k, none⟩ = some (.int .i64 x)) (first | exact d2 | fail) (first
            | (go_at_call 51; refine ((unhide CT) _).mono ?_; rintro e w2 ⟨rfl, rfl⟩)
            | (go_at_call 50; refine ((unhide CI) _).mono ?_; rintro e w3 ⟨rfl, rfl⟩)
            | fail)
          go_wp2
          refine bodyPost_ret (v := .tuple #[.string ⟨#[]⟩, .bool false]) (by simp [results, Tryd.results30, go_sem]) rfl ⟨by rw [unhide E1, unhide E2], ?_⟩
          exact (bDN (Below.refl _ w) _).drew
      · have hke : k = n := by omega
        have hk' : ¬ (k : Int) < (n : Int) := by omega
        have hall : ∀ x ∈ l, 0 ≤ x ∧ x ≤ ((2 ^ (b : Int).toNat : Nat) : Int) - 1 := by
          intro x hx
          obtain ⟨j, hj, rfl⟩ := List.getElem_of_mem hx
          rw [← cAt_lt hj]
          exact (unhide HE _).1 (unhide HK j (by rw [hke, ← unhide hnn]; exact hj))
        have E1 := hide (pkOk_of (l := l) (by omega) hall)
        have hnl := nats_lt (b := b) (by rw [Int.toNat_natCast] at hall; exact hall)
        have E2 := hide (show pkB l (b : Int) = ⟨(bysL (dig 256 (byN n b) (pN b (natsL l) n))).toArray⟩ by
          unfold pkB pkN
          rw [unhide E1, if_pos rfl, Int.toNat_natCast, show (natsL l).length = n by unfold natsL; rw [List.length_map]; exact unhide hnn, show pN b (natsL l) n = valC (2 ^ b) (natsL l) by rw [← pN_all, show (natsL l).length = n by unfold natsL; rw [List.length_map]; exact unhide hnn]])
        have HL := hide (fun i => pN_lt b (natsL l) i hnl)
        have HX := hide (show ∀ i, (hi : i < n) → pN b (natsL l) (i + 1) = pN b (natsL l) i + 2 ^ (b * i) * (cAt l i).toNat from fun i hi => by
          have hl1 : i < l.length := by rw [unhide hnn]; exact hi
          rw [pN_add b (natsL l) i (by unfold natsL; rw [List.length_map]; exact hl1), nats_at l i hl1])
        have HR := hide (show ∀ i, i < n → 0 ≤ cAt l i ∧ cAt l i ≤ p1 from fun i hi => unhide HK i (by omega))
        replace hke := hide hke
        clear HK HE hall hnl
        have hb0 := bDN (Below.refl w.heap.size w) q
        have hz0' := hb0.size
        have hcN : ∀ W : World, Below w.heap.size w W → ∀ i, i < n → ∃ g o, a1 = some ⟨g, o, none⟩ ∧ W.cell? ⟨g, o + i, none⟩ = some (.int .i64 (cAt l i)) := fun W hW i hi => by
          obtain ⟨g, o, h1, h2, h3⟩ := hc1 i _ (get_iv l i (by rw [unhide hnn]; exact hi))
          exact ⟨g, o, h1, (hW.cell (p := ⟨g, o + i, none⟩) h2).trans h3⟩
        replace hcN := hide hcN
        clear hc1
        generalize w.drewN q = w1 at *
        go_wp2
        go_loopw [7, 8, 9, 10] (fun tv th tc ti wr => ∃ i m hv ct T : Nat, i ≤ n ∧ Hid (T = b * i) ∧ Hid (ct + 8 * m = T) ∧ ct < 8 ∧ Hid (hv = pN b (natsL l) i / 256 ^ m) ∧ ti = .int .i64 (i : Int) ∧ th = .int .i64 (hv : Int) ∧ tc = .int .i64 (ct : Int) ∧ Hid (OwnB wr w.heap.size 5 tv (bysL (dig 256 m (pN b (natsL l) i)))) ∧ Below w.heap.size w wr) (fun _ _ _ ti _ => n - (intOf ti).toNat)
        case atStart => exact ⟨0, 0, 0, 0, 0, by omega, hide (by omega), hide (by omega), by omega, hide (by unfold pN; rw [List.take_zero]; show 0 = 0 / 256 ^ 0; rw [Nat.zero_div]), rfl, rfl, rfl, hide (World.ownsRow_made w1 #[] 0 hz0' (by decide) (by simp)), hb0.alloc hz0' _⟩
        case round =>
          clear hb0
          obtain ⟨i, m, hv, ct, T, hin, hT, hct, hc8, hhv, rfl, rfl, rfl, HO, hB⟩ := hrel
          have hvb : hv < 256 := by
            have h1 := have_lt (unhide HL i) (by rw [unhide hct]; exact unhide hT)
            rw [← unhide hhv] at h1
            exact Nat.lt_of_lt_of_le h1 (two_le ct 8 (by omega))
          by_cases hlti : i < n
          · have hi' : (i : Int) < (n : Int) := by omega
            obtain ⟨g1, o1, ha1, d1⟩ := unhide hcN wr hB i hlti
            subst ha1
            have xb := unhide HR i hlti
            have hN1 := unhide HX i hlti
            have hT2 := unhide hT
            rw [← hT2] at hN1
            obtain ⟨N1, hNN⟩ : ∃ N1, N1 = pN b (natsL l) (i + 1) := ⟨_, rfl⟩
            rw [← hNN] at hN1
            obtain ⟨x, hx⟩ : ∃ x : Nat, cAt l i = (x : Int) := ⟨(cAt l i).toNat, by omega⟩
            rw [hx] at d1 xb hN1
            rw [Int.toNat_natCast] at hN1
            have hxp : x ≤ 4095 := by have := unhide hp1; omega
            obtain ⟨c2, hc2⟩ : ∃ c2 : Nat, c2 = 2 ^ ct := ⟨_, rfl⟩
            have hc2b : 1 ≤ c2 ∧ c2 ≤ 128 := by rw [hc2]; exact ⟨Nat.pow_pos (by omega), two_le ct 7 (by omega)⟩
            have CU := hide (fun W => two_any ct (by omega) W)
            rw [← hc2] at CU
            have hm2 : x * c2 ≤ 4095 * 128 := Nat.mul_le_mul hxp hc2b.2
            obtain ⟨y, hy⟩ : ∃ y : Nat, y = x * c2 := ⟨_, rfl⟩
            rw [← hy] at hm2
            obtain ⟨h2, hh2⟩ : ∃ h2 : Nat, h2 = hv + y := ⟨_, rfl⟩
            obtain ⟨ct2, hct2⟩ : ∃ ct2 : Nat, ct2 = ct + b := ⟨_, rfl⟩
            have HV := hide (show h2 = N1 / 256 ^ m by rw [hN1, have_add (unhide hct), ← unhide hhv, hh2, hy, hc2])
            have HD := hide (show dig 256 m (pN b (natsL l) i) = dig 256 m N1 by rw [hN1, dig_same (unhide hct)])
            have HO2 : Hid (OwnB wr w.heap.size 5 u7 (bysL (dig 256 m N1))) := hide (by rw [← unhide HD]; exact unhide HO)
            have hNl : N1 < 2 ^ (b * (i + 1)) := by rw [hNN]; exact unhide HL (i + 1)
            have hTn : ct2 + 8 * m = b * (i + 1) := by rw [Nat.mul_add, Nat.mul_one, ← hT2]; have := unhide hct; omega
            have w1 : IntKind.i64.wrap ((x : Int) * (c2 : Int)) = (y : Int) := by rw [show (x : Int) * (c2 : Int) = (y : Int) by rw [hy]; exact (Int.natCast_mul x c2).symm, IntKind.wrap_i64]; omega
            have w2 : IntKind.i64.wrap ((hv : Int) + (y : Int)) = (h2 : Int) := by rw [IntKind.wrap_i64]; omega
            have w3 : IntKind.i64.wrap ((ct : Int) + (b : Int)) = (ct2 : Int) := by rw [IntKind.wrap_i64]; omega
            have i1 : (0 : Int) ≤ (i : Int) := by omega
            have hct20 : ct2 ≤ 20 := by omega
            replace hx := hide hx; replace hc2 := hide hc2; replace hy := hide hy; replace hh2 := hide hh2; replace hct2 := hide hct2; replace hN1 := hide hN1; replace hNN := hide hNN; replace hT2 := hide hT2; replace hNl := hide hNl; replace hTn := hide hTn
            clear HO HD
            go_wp2
            go_region_held3 (fun W => W.cell? ⟨g1, o1 + i, none⟩ = some (.int .i64 (x : Int))) (first | exact d1 | fail) (first
              | (go_at_call 51; refine ((unhide CU) _).mono ?_; rintro e w2 ⟨rfl, rfl⟩)
              | fail)
            have HO3 : Hid (OwnB wr.drew w.heap.size 5 u7 (bysL (dig 256 m N1))) := hide (unhide HO2)
            have hB3 := hB.drew
            clear HO2 hB d1
            generalize wr.drew = w3 at *
            go_wp2
            go_loopw [7, 8, 9] (fun tv th tc wq => ∃ m hv ct : Nat, ct ≤ 20 ∧ Hid (ct + 8 * m = b * (i + 1)) ∧ Hid (hv = N1 / 256 ^ m) ∧ th = .int .i64 (hv : Int) ∧ tc = .int .i64 (ct : Int) ∧ Hid (OwnB wq w.heap.size 5 tv (bysL (dig 256 m N1))) ∧ Below w.heap.size w wq) (fun _ _ tc _ => (intOf tc).toNat)
            case atStart => exact ⟨m, h2, ct2, hct20, hTn, HV, rfl, rfl, HO3, hB3⟩
            case round =>
              clear HO3 hB3 HV hTn
              obtain ⟨m, hv, ct, hc20, hTn, hhv, rfl, rfl, HO, hB⟩ := hrel
              have hvb : hv < 1048576 := by
                have h1 := have_lt (unhide hNl) (unhide hTn)
                rw [← unhide hhv] at h1
                exact Nat.lt_of_lt_of_le h1 (two_le ct 20 (by omega))
              by_cases h8 : 8 ≤ ct
              · have h8' : (8 : Int) ≤ (ct : Int) := by omega
                obtain ⟨r, hr⟩ : ∃ r : Nat, r = hv % 256 := ⟨_, rfl⟩
                obtain ⟨q2, hq2⟩ : ∃ q : Nat, q = hv / 256 := ⟨_, rfl⟩
                obtain ⟨ct3, hct3⟩ : ∃ c : Nat, c = ct - 8 := ⟨_, rfl⟩
                have v1 : (hv : Int).tmod 256 = (r : Int) := by rw [Int.tmod_eq_emod_of_nonneg (by omega)]; omega
                have v1' : (hv : Int) % 256 = (r : Int) := by omega
                have v2 : IntKind.i64.wrap (r : Int) = (r : Int) := by rw [IntKind.wrap_i64]; omega
                have v3 : IntKind.u8.wrap (r : Int) = (r : Int) := by rw [IntKind.wrap_u8]; omega
                have v4 : (hv : Int).tdiv 256 = (q2 : Int) := by rw [Int.tdiv_eq_ediv_of_nonneg (by omega)]; omega
                have v4' : (hv : Int) / 256 = (q2 : Int) := by omega
                have v5 : IntKind.i64.wrap (q2 : Int) = (q2 : Int) := by rw [IntKind.wrap_i64]; omega
                have v6 : IntKind.i64.wrap ((ct : Int) - 8) = (ct3 : Int) := by rw [IntKind.wrap_i64]; omega
                have HB1 := hide (show bysL (dig 256 (m + 1) N1) = bysL (dig 256 m N1) ++ [byteOf r] by rw [bysL_add, ← unhide hhv, hr])
                have HQ := hide (show q2 = N1 / 256 ^ (m + 1) by rw [← have_next, ← unhide hhv, hq2])
                have HT3 := hide (show ct3 + 8 * (m + 1) = b * (i + 1) by have := unhide hTn; omega)
                have hrb : r < 256 := by omega
                have hcs : (#[Value.int .u8 (r : Int)] : Array Value).toList = [byteOf r].map bv := by show [Value.int .u8 (r : Int)] = [bv (byteOf r)]; unfold bv; rw [byteOf_toNat hrb]
                have hlen : (bysL (dig 256 m N1)).length + 1 ≤ 140737488355328 := by
                  rw [bysL_len]
                  have h1 := unhide hTn
                  have h2 : b * (i + 1) ≤ 12 * 2000001 := Nat.mul_le_mul hb1.2 (by omega)
                  omega
                have hdec : ct3 < ct ∧ ct3 ≤ 20 := by omega
                have hszB := hB.size
                replace hr := hide hr; replace hq2 := hide hq2; replace hct3 := hide hct3
                go_wp2_with (at_builtin; refine wpList_append_bytes rfl (.tmp 50) (.tmp 54) 69 rfl w.heap.size w.heap.size 5 i0 Tryd.underlying69 hi hz0 hz1 hz2 u7 (bysL (dig 256 m N1)) rfl (unhide HO) _ [byteOf r] hcs 1 1 rfl rfl hlen (Nat.le_refl _) hszB hB ?_; intro v' w4 hown4 hb4)
                rw [← unhide HB1] at hown4
                replace hown4 := hide hown4
                clear HO
                go_wp2
                exact ⟨⟨m + 1, q2, ct3, hdec.2, HT3, HQ, by first | rfl | trivial, by first | rfl | trivial, hown4, hb4⟩, by simp [intOf]; omega⟩
              · have h8' : ¬ (8 : Int) ≤ (ct : Int) := by omega
                have hfin := hide (show hv = pN b (natsL l) (i + 1) / 256 ^ m by rw [unhide hhv, unhide hNN])
                have HO4 : Hid (OwnB wr w.heap.size 5 u7 (bysL (dig 256 m (pN b (natsL l) (i + 1))))) := hide (by rw [← unhide hNN]; exact unhide HO)
                clear HO
                go_wp2
                exact ⟨⟨i + 1, m, hv, ct, b * (i + 1), by omega, hide rfl, hTn, by omega, hfin, by go_num, by first | rfl | trivial, by first | rfl | trivial, HO4, hB⟩, by simp [intOf]; omega⟩
          · have hi' : ¬ (i : Int) < (n : Int) := by omega
            have hie : i = n := by omega
            have hTT : ct + 8 * m = b * n := by rw [unhide hct, unhide hT, hie]
            have hhv2 : hv = pN b (natsL l) n / 256 ^ m := by rw [← hie]; exact unhide hhv
            have HO2 : Hid (OwnB wr w.heap.size 5 u7 (bysL (dig 256 m (pN b (natsL l) n)))) := hide (by rw [← hie]; exact unhide HO)
            have hszB := hB.size
            replace hie := hide hie
            clear HO
            by_cases hpos : 0 < ct
            · have hpos' : (0 : Int) < (ct : Int) := by omega
              have hby : byN n b = m + 1 := by unfold byN; rw [Nat.mul_comm]; omega
              have HB1 := hide (show bysL (dig 256 (byN n b) (pN b (natsL l) n)) = bysL (dig 256 m (pN b (natsL l) n)) ++ [byteOf hv] by rw [hby, bysL_add, ← hhv2, Nat.mod_eq_of_lt hvb])
              have v3 : IntKind.u8.wrap (hv : Int) = (hv : Int) := by rw [IntKind.wrap_u8]; omega
              have hcs : (#[Value.int .u8 (hv : Int)] : Array Value).toList = [byteOf hv].map bv := by show [Value.int .u8 (hv : Int)] = [bv (byteOf hv)]; unfold bv; rw [byteOf_toNat hvb]
              have hlen : (bysL (dig 256 m (pN b (natsL l) n))).length + 1 ≤ 140737488355328 := by
                rw [bysL_len]
                have h2 : b * n ≤ 12 * 2000000 := Nat.mul_le_mul hb1.2 hl
                omega
              replace hTT := hide hTT; replace hhv2 := hide hhv2; replace hby := hide hby
              go_wp2_with (at_builtin; refine wpList_append_bytes rfl (.tmp 62) (.tmp 65) 69 rfl w.heap.size w.heap.size 5 i0 Tryd.underlying69 hi hz0 hz1 hz2 u7 (bysL (dig 256 m (pN b (natsL l) n))) rfl (unhide HO2) _ [byteOf hv] hcs 1 1 rfl rfl hlen (Nat.le_refl _) hszB hB ?_; intro v' w4 hown4 hb4; have hcv := run_string_owned (P := Tryd.prog) w4 69 9 5 w.heap.size _ _ Tryd.underlying69 Tryd.underlying5 Tryd.underlying9 hown4)
              refine bodyPost_ret (v := .tuple #[.string ⟨(bysL (dig 256 m (pN b (natsL l) n)) ++ [byteOf hv]).toArray⟩, .bool true]) (by simp [results, Tryd.results30, go_sem]) rfl ⟨by rw [unhide E1, unhide E2, unhide HB1], hb4⟩
            · have hpos' : ¬ (0 : Int) < (ct : Int) := by omega
              have hby : byN n b = m := by unfold byN; rw [Nat.mul_comm]; omega
              have hcv := run_string_owned (P := Tryd.prog) wr 69 9 5 w.heap.size _ _ Tryd.underlying69 Tryd.underlying5 Tryd.underlying9 (unhide HO2)
              replace hTT := hide hTT; replace hhv2 := hide hhv2
              have HB1 := hide (show bysL (dig 256 (byN n b) (pN b (natsL l) n)) = bysL (dig 256 m (pN b (natsL l) n)) by rw [hby])
              replace hby := hide hby
              generalize bysL (dig 256 m (pN b (natsL l) n)) = out at *
              go_wp2
              refine bodyPost_ret (v := .tuple #[.string ⟨out.toArray⟩, .bool true]) (by simp [results, Tryd.results30, go_sem]) rfl ⟨by rw [unhide E1, unhide E2, unhide HB1], hB⟩
  · have E1 := hide (show pkOk l bits = false by unfold pkOk; rw [show decide ((1 : Int) ≤ bits ∧ bits ≤ 12) = false by rw [decide_eq_false_iff_not]; exact hb]; rfl)
    have E2 := hide (show pkB l bits = ⟨#[]⟩ by unfold pkB; rw [unhide E1]; rfl)
    rw [show decide ((1 : Int) ≤ bits ∧ bits ≤ 12) = false by rw [decide_eq_false_iff_not]; exact hb] at C1
    go_enter Tryd.func30, Tryd.ntmps30
    go_wp2_with fail
    refine (unhide C1).mono ?_
    rintro e w1 ⟨rfl, hw1⟩
    have hw2 := hw1.symm
    subst hw2
    clear hw1 C1
    go_wp2
    exact bodyPost_ret (v := .tuple #[.string ⟨#[]⟩, .bool false]) (by simp [results, Tryd.results30, go_sem]) rfl ⟨by rw [unhide E1, unhide E2], Below.refl _ _⟩
end Go.Proofs.YthjgmpfdjhegfasDoor

/- Polynomials by the given model: how far two are apart; sums and differences, over the loaded program. -/
namespace Go.Proofs.YthjgmpfdjhegfasDoor
open Go.RowKit
theorem bothP_no1 {a b : List Int} (h : okPl a = false) : bothP a b = false := by unfold bothP; rw [h]; rfl
theorem bothP_no2 {a b : List Int} (h : okPl b = false) : bothP a b = false := by unfold bothP; rw [h]; exact Bool.and_false _
set_option maxRecDepth 20000 in
set_option maxHeartbeats 400000 in
theorem specFar_any (a b : List Int) (va vb : Value) (w : World) (ra : RdV w va (a.map iv)) (rb : RdV w vb (b.map iv)) :
    Calls Tryd.prog 18 #[va, vb] w fun e w' => e = .returned (.int .i64 (farL a b)) ∧ Below w.heap.size w w' := by
  have CA := hide (specPolyOk_any a va w ra)
  have CB := hide (specPolyOk_any b vb w rb)
  by_cases ha : okPl a = true
  · rw [ha] at CA
    by_cases hb : okPl b = true
    · rw [hb] at CB
      obtain ⟨la, va'⟩ := okPl_yes ha
      obtain ⟨lb, vb'⟩ := okPl_yes hb
      have EF := hide (farL_is ha hb)
      obtain ⟨a1, c1, rfl, hc1⟩ := ra.open
      obtain ⟨a2, c2, rfl, hc2⟩ := rb.open
      rw [List.length_map, la] at CA ⊢
      rw [List.length_map, lb] at CB ⊢
      clear ra rb
      replace va' := hide va'; replace vb' := hide vb'; replace la := hide la; replace lb := hide lb
      go_enter Tryd.func18, Tryd.ntmps18
      go_wp2_with fail
      refine (unhide CA).mono ?_
      rintro e w1 ⟨rfl, hw1⟩
      have hw2 := hw1.symm
      subst hw2
      clear hw1
      go_wp2_with fail
      refine (unhide CB).mono ?_
      rintro e w1 ⟨rfl, hw1⟩
      have hw2 := hw1.symm
      subst hw2
      clear hw1 CA CB
      go_wp2
      go_loopw [5, 6] (fun tm ti wr => ∃ k q : Nat, k ≤ 256 ∧ tm = .int .i64 (maxN (fun i => circ (cAt a i) (cAt b i)) k) ∧ ti = .int .i64 (k : Int) ∧ wr = w.drewN q) (fun _ ti _ => 256 - (intOf ti).toNat)
      case atStart => exact ⟨0, 0, by omega, rfl, rfl, rfl⟩
      case round =>
        obtain ⟨k, q, hk, rfl, rfl, rfl⟩ := hrel
        have hm1 := maxN_nonneg (fun i => circ (cAt a i) (cAt b i)) k
        have hm2 := maxN_le (fun i => circ (cAt a i) (cAt b i)) k 1664 (by omega) (fun i _ => (circ_le _ _).2)
        by_cases hlt : k < 256
        · have hk' : (k : Int) < 256 := by omega
          obtain ⟨g1, o1, rfl, hg1, d1⟩ := hc1 k _ (get_iv a k (by rw [unhide la]; exact hlt))
          obtain ⟨g2, o2, rfl, hg2, d2⟩ := hc2 k _ (get_iv b k (by rw [unhide lb]; exact hlt))
          have b1 := unhide va' k hlt
          have b2 := unhide vb' k hlt
          have HS := hide (show maxN (fun i => circ (cAt a i) (cAt b i)) (k + 1) = if maxN (fun i => circ (cAt a i) (cAt b i)) k < circ (cAt a k) (cAt b k) then circ (cAt a k) (cAt b k) else maxN (fun i => circ (cAt a i) (cAt b i)) k from rfl)
          have hci : (0 : Int) ≤ (k : Int) := by omega
          obtain ⟨mo, hmo⟩ : ∃ mo, mo = maxN (fun i => circ (cAt a i) (cAt b i)) k := ⟨_, rfl⟩
          obtain ⟨x, hx⟩ : ∃ x, x = cAt a k := ⟨_, rfl⟩
          obtain ⟨y, hy⟩ : ∃ y, y = cAt b k := ⟨_, rfl⟩
          rw [← hmo] at hm1 hm2 HS ⊢
          rw [← hx] at d1 b1 HS
          rw [← hy] at d2 b2 HS
          obtain ⟨t1, ht1⟩ : ∃ t1, t1 = x - y := ⟨_, rfl⟩
          obtain ⟨t2, ht2⟩ : ∃ t2, t2 = t1 + 3329 := ⟨_, rfl⟩
          obtain ⟨d, hd⟩ : ∃ d, d = t2 % 3329 := ⟨_, rfl⟩
          obtain ⟨d', hd'⟩ : ∃ d', d' = 3329 - d := ⟨_, rfl⟩
          have hcd := hide (show circ x y = if d' < d then d' else d by unfold circ; rw [hd', hd, ht2, ht1])
          have w1 : IntKind.i64.wrap (x - y) = t1 := by rw [IntKind.wrap_i64]; omega
          have w2 : IntKind.i64.wrap (t1 + 3329) = t2 := by rw [IntKind.wrap_i64]; omega
          have w3 : t2.tmod 3329 = d := by rw [Int.tmod_eq_emod_of_nonneg (by omega)]; omega
          have w3' : t2 % 3329 = d := hd.symm
          have w4 : IntKind.i64.wrap d = d := by rw [IntKind.wrap_i64]; omega
          have w5 : IntKind.i64.wrap (3329 - d) = d' := by rw [IntKind.wrap_i64]; omega
          have hdb : 0 ≤ d ∧ d ≤ 3328 := by omega
          have hdb' : d' + d = 3329 := by omega
          replace hmo := hide hmo; replace hx := hide hx; replace hy := hide hy; replace ht1 := hide ht1; replace ht2 := hide ht2; replace hd := hide hd; replace hd' := hide hd'
          replace hdb' := hide hdb'
          clear hc1 hc2
          by_cases c1 : d' < d
          · by_cases c2 : mo < d'
            · have HF := hide (show maxN (fun i => circ (cAt a i) (cAt b i)) (k + 1) = d' by rw [unhide HS, unhide hcd, if_pos c1, if_pos c2])
              go_wp2
              go_quiet (fail)
              go_wp2
              go_roundw
              case rel => exact ⟨k + 1, _, by omega, by rw [unhide HF], by go_num, by first | rfl | rw [World.drewN_drewN]⟩
              case measure => simp [intOf]; omega
            · have HF := hide (show maxN (fun i => circ (cAt a i) (cAt b i)) (k + 1) = mo by rw [unhide HS, unhide hcd, if_pos c1, if_neg c2])
              go_wp2
              go_quiet (fail)
              go_wp2
              go_roundw
              case rel => exact ⟨k + 1, _, by omega, by rw [unhide HF], by go_num, by first | rfl | rw [World.drewN_drewN]⟩
              case measure => simp [intOf]; omega
          · by_cases c2 : mo < d
            · have HF := hide (show maxN (fun i => circ (cAt a i) (cAt b i)) (k + 1) = d by rw [unhide HS, unhide hcd, if_neg c1, if_pos c2])
              go_wp2
              go_quiet (fail)
              go_wp2
              go_roundw
              case rel => exact ⟨k + 1, _, by omega, by rw [unhide HF], by go_num, by first | rfl | rw [World.drewN_drewN]⟩
              case measure => simp [intOf]; omega
            · have HF := hide (show maxN (fun i => circ (cAt a i) (cAt b i)) (k + 1) = mo by rw [unhide HS, unhide hcd, if_neg c1, if_neg c2])
              go_wp2
              go_quiet (fail)
              go_wp2
              go_roundw
              case rel => exact ⟨k + 1, _, by omega, by rw [unhide HF], by go_num, by first | rfl | rw [World.drewN_drewN]⟩
              case measure => simp [intOf]; omega
        · have hk' : ¬ (k : Int) < 256 := by omega
          have hke : k = 256 := by omega
          have E2 := hide (show farL a b = maxN (fun i => circ (cAt a i) (cAt b i)) k by rw [hke]; exact unhide EF)
          replace hke := hide hke
          generalize maxN (fun i => circ (cAt a i) (cAt b i)) k = mo at *
          go_wp2
          go_ret
          exact ⟨by rw [unhide E2]; rfl, bDN (Below.refl _ w) _⟩
    · have hb' : okPl b = false := by simpa using hb
      rw [hb'] at CB
      have E := hide (show farL a b = -1 by unfold farL; rw [bothP_no2 hb']; rfl)
      rw [unhide E]
      go_enter Tryd.func18, Tryd.ntmps18
      go_wp2_with fail
      refine (unhide CA).mono ?_
      rintro e w1 ⟨rfl, hw1⟩
      have hw2 := hw1.symm
      subst hw2
      clear hw1
      go_wp2_with fail
      refine (unhide CB).mono ?_
      rintro e w1 ⟨rfl, hw1⟩
      have hw2 := hw1.symm
      subst hw2
      clear hw1
      go_wp2
      go_ret
      exact ⟨rfl, Below.refl _ _⟩
  · have ha' : okPl a = false := by simpa using ha
    rw [ha'] at CA
    have E := hide (show farL a b = -1 by unfold farL; rw [bothP_no1 ha']; rfl)
    rw [unhide E]
    go_enter Tryd.func18, Tryd.ntmps18
    go_wp2_with fail
    refine (unhide CA).mono ?_
    rintro e w1 ⟨rfl, hw1⟩
    have hw2 := hw1.symm
    subst hw2
    clear hw1
    go_wp2
    go_ret
    exact ⟨rfl, Below.refl _ _⟩
end Go.Proofs.YthjgmpfdjhegfasDoor

