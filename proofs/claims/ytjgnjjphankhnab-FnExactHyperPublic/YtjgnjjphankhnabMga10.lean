/- Merged: HyI1, HyH, HyI3, Sig1, Sig2, Sig3, Sig4, Hyp1, Hyp2, Hyp3, LawHyp. -/
import Derived.Test.YtjgnjjphankhnabMga1
import Derived.Test.YtjgnjjphankhnabMga2
import Derived.Test.YtjgnjjphankhnabMga3
import Derived.Test.YtjgnjjphankhnabMga4
import Derived.Test.YtjgnjjphankhnabMga5
import Derived.Test.YtjgnjjphankhnabMga6
import Derived.Test.YtjgnjjphankhnabMga7
import Derived.Test.YtjgnjjphankhnabMga8
import Derived.Test.YtjgnjjphankhnabMga9
import Derived.Laws.EntriesVeiled
import Derived.LoopN
import Derived.Deep.DeepCutAuto
import Derived.Deep.RegionHeld3
import Derived.BigQuiet
import Derived.Laws.IdiomStrings
/- Trees of trees by the project's own functions: the keys of an index, and public texts, over the loaded program. -/
namespace Go.Proofs.Ytjgnjjphankhnab
open Go.RowKit
theorem results_arrC {P : Program} {fn : Func} {p : Tmp} {ty : TypeId} (h : fn.results = #[.cell p ty]) (tmps : Array Value) (w : World) (g : Nat) (T : TypeId) (cs : Array Value) (n : Nat) (e : TypeId)
    (hp : tmps.getD p undef = .pointer (some ⟨g, 0, none⟩)) (hA : CB w g T cs) (hu : P.underlying ty = some (.array n e)) (hi : (P.info? ty).map (·.size) = some cs.size) :
    (results fn tmps).run P w = .ok (.agg cs) w :=
  results_cell_row h tmps w g T _ (0, 0) _ hp hA hu rfl hi
theorem topB_size (s : ByteArray) : (topB s).size = s.size + 1 := by unfold topB; rw [ByteArray.size_append]; rfl
theorem lowB_size (s : ByteArray) (p : Int) : (lowB s p).size = s.size + 2 := by unfold lowB; rw [ByteArray.size_append, ByteArray.size_append, oneY_size]; rfl
set_option maxRecDepth 20000 in
set_option maxHeartbeats 400000 in
theorem topKey_any (s : ByteArray) (i : Int) (hi : 0 ≤ i ∧ i ≤ 15) (hs : s.size ≤ 1048576) (w : World) :
    Calls Try.prog 58 #[.string s, .int .i64 i] w fun e w' => e = .returned (.agg #[.string (topB s), .int .i64 (i / 4)]) ∧ Below w.heap.size w w' := by
  obtain ⟨q, hq⟩ : ∃ q : Int, q = i / 4 := ⟨_, rfl⟩
  have t1 : i.tdiv 4 = q := by rw [Int.tdiv_eq_ediv_of_nonneg hi.1]; omega
  have t1' : i / 4 = q := hq.symm
  have t3 : IntKind.i64.wrap q = q := by rw [IntKind.wrap_i64]; omega
  have h1 : ¬ 9223372036854775807 < s.size + 1 := by omega
  have h2 : s.size + 1 ≤ 9223372036854775807 := by omega
  have HE := hide (show s ++ ⟨#[116]⟩ = topB s from rfl)
  rw [t1', ← unhide HE]
  clear hq HE hi
  go_enter Try.func58, Try.ntmps58
  go_wp2
  obtain ⟨W, hW, hR, hB, hs1⟩ := one_cb w #[.string (s ++ ⟨#[116]⟩), .int .i64 q] 53
  rw [hW]
  exact bodyPost_ret (results_cb (by exact Try.results58) _ _ _ _ _ _ rfl hR Try.underlying53 (by kernel_rfl)) rfl ⟨rfl, hB⟩
set_option maxRecDepth 20000 in
set_option maxHeartbeats 400000 in
theorem lowKey_any (s : ByteArray) (i : Int) (hi : 0 ≤ i ∧ i ≤ 15) (hs : s.size ≤ 1048576) (w : World) :
    Calls Try.prog 59 #[.string s, .int .i64 i] w fun e w' => e = .returned (.agg #[.string (lowB s (i / 4)), .int .i64 (i % 4)]) ∧ Below w.heap.size w w' := by
  obtain ⟨q, hq⟩ : ∃ q : Int, q = i / 4 := ⟨_, rfl⟩
  obtain ⟨r, hr⟩ : ∃ r : Int, r = i % 4 := ⟨_, rfl⟩
  have t1 : i.tdiv 4 = q := by rw [Int.tdiv_eq_ediv_of_nonneg hi.1]; omega
  have t1' : i / 4 = q := hq.symm
  have t2 : i.tmod 4 = r := by rw [Int.tmod_eq_emod_of_nonneg hi.1]; omega
  have t2' : i % 4 = r := hr.symm
  have t3 : IntKind.i64.wrap q = q := by rw [IntKind.wrap_i64]; omega
  have t4 : IntKind.i64.wrap r = r := by rw [IntKind.wrap_i64]; omega
  have CB0 := hide (fun W => implByteY_any q W)
  have za := oneY_size q
  have HE := hide (show s ++ oneY q ++ ⟨#[108]⟩ = lowB s q from rfl)
  rw [t1', t2', ← unhide HE]
  generalize oneY q = y at *
  have h1 : ¬ 9223372036854775807 < s.size + y.size := by omega
  have h2 : ¬ 9223372036854775807 < (s ++ y).size + 1 := by rw [ByteArray.size_append]; omega
  have h3 : (s ++ y).size + 1 ≤ 9223372036854775807 := by rw [ByteArray.size_append]; omega
  have h4 : s.size + y.size ≤ 9223372036854775807 := by omega
  have h5 : (s ++ y).size = s.size + y.size := ByteArray.size_append
  replace za := hide za
  clear hq hr HE hi
  go_enter Try.func59, Try.ntmps59
  go_wp2_with fail
  obtain ⟨W, hW, hR, hB, hs1⟩ := one_cb w #[.string ⟨#[]⟩, .int .i64 0] 53
  rw [hW]
  clear hW
  refine (unhide CB0 W).mono ?_
  rintro e w1 ⟨rfl, hb1⟩
  have hB1 := hB.trans (hb1.mono hB.size)
  have hR1 := hR.step hb1
  clear CB0 hb1 hR hB
  have r0 := hR1.cell 0 (v := .string ⟨#[]⟩) rfl
  have r1 := hR1.cell 1 (v := .int .i64 0) rfl
  have g0 := hR1.frozen 0
  have g1 := hR1.frozen 1
  go_wp2
  have hF := hide ((hR1.set 0 (.string (s ++ y ++ ⟨#[108]⟩))).set 1 (.int .i64 r))
  have hBF := hide ((hB1.setCell (p := ⟨w.heap.size, 0, none⟩) (Nat.le_refl _) (.string (s ++ y ++ ⟨#[108]⟩))).setCell (p := ⟨w.heap.size, 1, none⟩) (Nat.le_refl _) (.int .i64 r))
  exact bodyPost_ret (results_cb (by exact Try.results59) _ _ _ _ _ _ rfl (unhide hF) Try.underlying53 (by kernel_rfl)) rfl ⟨rfl, unhide hBF⟩
theorem idx17a (f g : Nat) (W : World) : (Instr.index 81 (.agg #[.func (.func f) #[] #[], .func (.func g) #[] #[]]) (.int .i64 0)).run Try.prog W = .ok (.func (.func f) #[] #[]) W := by kernel_rfl
theorem idx17b (f g : Nat) (W : World) : (Instr.index 81 (.agg #[.func (.func f) #[] #[], .func (.func g) #[] #[]]) (.int .i64 1)).run Try.prog W = .ok (.func (.func g) #[] #[]) W := by kernel_rfl
set_option maxRecDepth 20000 in
set_option maxHeartbeats 1600000 in
theorem keysAt_any (s : ByteArray) (i : Int) (hi : 0 ≤ i ∧ i ≤ 15) (hs : s.size ≤ 1048576) (w : World) :
    Calls Try.prog 40 #[.string s, .int .i64 i] w fun e w' => e = .returned (.agg #[.string (topB s), .int .i64 (i / 4), .string (lowB s (i / 4)), .int .i64 (i % 4)]) ∧ Below w.heap.size w w' := by
  have C1 := hide (fun W => topKey_any s i hi hs W)
  have C2 := hide (fun W => lowKey_any s i hi hs W)
  generalize topB s = tb at *
  generalize lowB s (i / 4) = lb at *
  generalize i / 4 = q at *
  generalize i % 4 = r at *
  have X1 := idx17a 58 59
  have X2 := idx17b 58 59
  clear hi
  go_enter Try.func40, Try.ntmps40
  go_wp2_with fail
  obtain ⟨W, hW, hA, hN, hK, hB, hs1⟩ := three_cb w #[.string ⟨#[]⟩, .int .i64 0, .string ⟨#[]⟩, .int .i64 0] #[.func (.func 58) #[] #[], .func (.func 59) #[] #[]] #[.string ⟨#[]⟩, .int .i64 0, .string ⟨#[]⟩, .int .i64 0] 54 81 54
  rw [hW]
  clear hW
  refine wp_loop_rounds 3 ?_
  rw [rounds_succ]
  go_wp2_with fail
  refine (unhide C1 W).mono ?_
  rintro e w1 ⟨rfl, hb1⟩
  have hB1 := hB.trans (hb1.mono hB.size)
  have hA1 := hA.step hb1
  have hK1 := hK.step hb1
  have r0 := hK1.cell 0 (v := .string ⟨#[]⟩) rfl
  have r1 := hK1.cell 1 (v := .int .i64 0) rfl
  have g0 := hK1.frozen 0
  have g1 := hK1.frozen 1
  clear hb1 hA hK hB hN C1
  go_wp2_with fail
  have hK2 : CB _ _ _ #[.string tb, .int .i64 q, .string ⟨#[]⟩, .int .i64 0] := (hK1.set 0 (.string tb)).set 1 (.int .i64 q)
  have hA2 := (hA1.set_other (h := w.heap.size + 1 + 1) (k := 0) (by omega) (.string tb)).set_other (h := w.heap.size + 1 + 1) (k := 1) (by omega) (.int .i64 q)
  have hB2 := (hB1.setCell (p := ⟨w.heap.size + 1 + 1, 0, none⟩) (by show w.heap.size ≤ w.heap.size + 1 + 1; omega) (.string tb)).setCell (p := ⟨w.heap.size + 1 + 1, 1, none⟩) (by show w.heap.size ≤ w.heap.size + 1 + 1; omega) (.int .i64 q)
  generalize (w1.setCell ⟨w.heap.size + 1 + 1, 0, none⟩ (.string tb)).setCell ⟨w.heap.size + 1 + 1, 1, none⟩ (.int .i64 q) = W2 at *
  clear hK1 hA1 hB1 r0 r1 g0 g1
  rw [rounds_succ]
  go_wp2_with fail
  refine (unhide C2 W2).mono ?_
  rintro e w3 ⟨rfl, hb3⟩
  have hB3 := hB2.trans (hb3.mono hB2.size)
  have hA3 := hA2.step hb3
  have hK3 := hK2.step hb3
  have r2 := hK3.cell 2 (v := .string ⟨#[]⟩) rfl
  have r3 := hK3.cell 3 (v := .int .i64 0) rfl
  have g2 := hK3.frozen 2
  have g3 := hK3.frozen 3
  clear hb3 hA2 hK2 hB2 C2
  go_wp2_with fail
  have hK4 : CB _ _ _ #[.string tb, .int .i64 q, .string lb, .int .i64 r] := (hK3.set 2 (.string lb)).set 3 (.int .i64 r)
  have hA4 := (hA3.set_other (h := w.heap.size + 1 + 1) (k := 2) (by omega) (.string lb)).set_other (h := w.heap.size + 1 + 1) (k := 3) (by omega) (.int .i64 r)
  have hB4 := (hB3.setCell (p := ⟨w.heap.size + 1 + 1, 2, none⟩) (by show w.heap.size ≤ w.heap.size + 1 + 1; omega) (.string lb)).setCell (p := ⟨w.heap.size + 1 + 1, 3, none⟩) (by show w.heap.size ≤ w.heap.size + 1 + 1; omega) (.int .i64 r)
  generalize (w3.setCell ⟨w.heap.size + 1 + 1, 2, none⟩ (.string lb)).setCell ⟨w.heap.size + 1 + 1, 3, none⟩ (.int .i64 r) = W4 at *
  clear hK3 hA3 hB3 r2 r3 g2 g3
  have x0 := hK4.cell 0 (v := .string tb) rfl
  have x1 := hK4.cell 1 (v := .int .i64 q) rfl
  have x2 := hK4.cell 2 (v := .string lb) rfl
  have x3 := hK4.cell 3 (v := .int .i64 r) rfl
  have r0 := hA4.cell 0 (v := .string ⟨#[]⟩) rfl
  have r1 := hA4.cell 1 (v := .int .i64 0) rfl
  have r2 := hA4.cell 2 (v := .string ⟨#[]⟩) rfl
  have r3 := hA4.cell 3 (v := .int .i64 0) rfl
  have g0 := hA4.frozen 0
  have g1 := hA4.frozen 1
  have g2 := hA4.frozen 2
  have g3 := hA4.frozen 3
  rw [rounds_succ]
  go_wp2
  have hF := hide ((((hA4.set 0 (.string tb)).set 1 (.int .i64 q)).set 2 (.string lb)).set 3 (.int .i64 r))
  have hBF := hide ((((hB4.setCell (p := ⟨w.heap.size, 0, none⟩) (Nat.le_refl _) (.string tb)).setCell (p := ⟨w.heap.size, 1, none⟩) (Nat.le_refl _) (.int .i64 q)).setCell (p := ⟨w.heap.size, 2, none⟩) (Nat.le_refl _) (.string lb)).setCell (p := ⟨w.heap.size, 3, none⟩) (Nat.le_refl _) (.int .i64 r))
  exact bodyPost_ret (results_arrC (by exact Try.results40) _ _ _ _ _ _ _ rfl (unhide hF) Try.underlying54 (by kernel_rfl)) rfl ⟨rfl, unhide hBF⟩
end Go.Proofs.Ytjgnjjphankhnab

/- The laws' helpers on signatures of trees of trees, over the loaded program. -/
namespace Go.Proofs.Ytjgnjjphankhnab
open Go.RowKit
def hyv (lt : Int) (v1 v2 : Value) (r : ByteArray) (ll : Int) (v3 v4 : Value) : Value := .agg #[.int .i64 lt, v1, v2, .string r, .int .i64 ll, v3, v4]
def RdHy (w : World) (v : Value) (h : Hy) : Prop := ∃ v1 v2 v3 v4, v = hyv h.top.leaf v1 v2 h.root h.low.leaf v3 v4 ∧ RdV w v1 (h.top.once.map sv) ∧ RdV w v2 (h.top.path.map sv) ∧ RdV w v3 (h.low.once.map sv) ∧ RdV w v4 (h.low.path.map sv) ∧ CapV v1 ∧ CapV v2 ∧ CapV v3 ∧ CapV v4
def OwnHy (w : World) (base : Nat) (v : Value) (h : Hy) : Prop := ∃ v1 v2 v3 v4, v = hyv h.top.leaf v1 v2 h.root h.low.leaf v3 v4 ∧ OwnSg w base (sgv h.top.leaf v1 v2) h.top ∧ OwnSg w base (sgv h.low.leaf v3 v4) h.low ∧ ∀ k, (v1.ownBlock = some k ∨ v2.ownBlock = some k) → v3.ownBlock ≠ some k ∧ v4.ownBlock ≠ some k
theorem OwnHy.rd {w : World} {base : Nat} {v : Value} {h : Hy} (ho : OwnHy w base v h) : RdHy w v h := by
  obtain ⟨v1, v2, v3, v4, e, h1, h2, _⟩ := ho
  exact ⟨v1, v2, v3, v4, e, h1.rows.1.rdv, h1.rows.2.1.rdv, h2.rows.1.rdv, h2.rows.2.1.rdv, h1.rows.1.capv, h1.rows.2.1.capv, h2.rows.1.capv, h2.rows.2.1.capv⟩
theorem RdHy.below {w w' : World} {v : Value} {h : Hy} (hr : RdHy w v h) (hb : Below w.heap.size w w') : RdHy w' v h := by
  obtain ⟨v1, v2, v3, v4, e, h1, h2, h3, h4, hq⟩ := hr
  exact ⟨v1, v2, v3, v4, e, h1.below hb, h2.below hb, h3.below hb, h4.below hb, hq⟩
theorem OwnHy.below {w w' : World} {base : Nat} {v : Value} {h : Hy} (ho : OwnHy w base v h) (hb : Below w.heap.size w w') : OwnHy w' base v h := by
  obtain ⟨v1, v2, v3, v4, e, h1, h2, h3⟩ := ho
  exact ⟨v1, v2, v3, v4, e, h1.below hb, h2.below hb, h3⟩
theorem RdHy.open {w : World} {v : Value} {h : Hy} (hr : RdHy w v h) : ∃ a1 n1 c1 a2 n2 c2 a3 n3 c3 a4 n4 c4, v = .agg #[.int .i64 h.top.leaf, .slice a1 n1 c1, .slice a2 n2 c2, .string h.root, .int .i64 h.low.leaf, .slice a3 n3 c3, .slice a4 n4 c4] := by
  obtain ⟨v1, v2, v3, v4, rfl, h1, h2, h3, h4, _⟩ := hr
  obtain ⟨a1, c1, rfl⟩ := h1.shape
  obtain ⟨a2, c2, rfl⟩ := h2.shape
  obtain ⟨a3, c3, rfl⟩ := h3.shape
  obtain ⟨a4, c4, rfl⟩ := h4.shape
  exact ⟨_, _, _, _, _, _, _, _, _, _, _, _, rfl⟩
/-- Both signatures of what is read as this. -/
theorem RdHy.parts {w : World} {h : Hy} {lt ll : Int} {r : ByteArray} {v1 v2 v3 v4 : Value} (hr : RdHy w (.agg #[.int .i64 lt, v1, v2, .string r, .int .i64 ll, v3, v4]) h) : RdSg w (.agg #[.int .i64 lt, v1, v2]) h.top ∧ RdSg w (.agg #[.int .i64 ll, v3, v4]) h.low := by
  obtain ⟨u1, u2, u3, u4, e, h1, h2, h3, h4, q1, q2, q3, q4⟩ := hr
  unfold hyv at e
  injection e with e
  simp at e
  obtain ⟨rfl, rfl, rfl, rfl, rfl, rfl, rfl⟩ := e
  exact ⟨⟨_, _, rfl, h1, h2, q1, q2⟩, ⟨_, _, rfl, h3, h4, q3, q4⟩⟩
theorem OwnHy.parts {w : World} {base : Nat} {h : Hy} {lt ll : Int} {r : ByteArray} {v1 v2 v3 v4 : Value} (ho : OwnHy w base (.agg #[.int .i64 lt, v1, v2, .string r, .int .i64 ll, v3, v4]) h) : OwnSg w base (sgv h.top.leaf v1 v2) h.top ∧ OwnSg w base (sgv h.low.leaf v3 v4) h.low ∧ (∀ k, (v1.ownBlock = some k ∨ v2.ownBlock = some k) → v3.ownBlock ≠ some k ∧ v4.ownBlock ≠ some k) ∧ lt = h.top.leaf ∧ ll = h.low.leaf ∧ r = h.root := by
  obtain ⟨u1, u2, u3, u4, e, h1, h2, h3⟩ := ho
  unfold hyv at e
  injection e with e
  simp at e
  obtain ⟨rfl, rfl, rfl, rfl, rfl, rfl, rfl⟩ := e
  exact ⟨h1, h2, h3, rfl, rfl, rfl⟩
def okHy (h : Hy) : Prop := ((∀ x ∈ h.top.once, x.size ≤ maxLen) ∧ (∀ x ∈ h.top.path, x.size ≤ maxLen) ∧ h.top.once.length ≤ maxLen ∧ h.top.path.length ≤ maxLen) ∧ h.root.size ≤ maxLen ∧ ((∀ x ∈ h.low.once, x.size ≤ maxLen) ∧ (∀ x ∈ h.low.path, x.size ≤ maxLen) ∧ h.low.once.length ≤ maxLen ∧ h.low.path.length ≤ maxLen)
def mass (s : Sg) : Nat := s.once.length + sumS s.once + s.path.length + sumS s.path
def hyZ : Array Value := #[.int .i64 0, .slice none 0 0, .slice none 0 0, .string ⟨#[]⟩, .int .i64 0, .slice none 0 0, .slice none 0 0]
/-- One whose texts are marked from 1 on. -/
def MkHy (w : World) (base : Nat) (v : Value) (h : Hy) : Prop := ∃ v1 v2 v3 v4, v = hyv h.top.leaf v1 v2 h.root h.low.leaf v3 v4 ∧ MkSgK w base (sgv h.top.leaf v1 v2) h.top 1 ∧ MkSgK w base (sgv h.low.leaf v3 v4) h.low (1 + h.top.once.length + h.top.path.length)
theorem MkHy.below {w w' : World} {base : Nat} {v : Value} {h : Hy} (hm : MkHy w base v h) (hb : Below w.heap.size w w') : MkHy w' base v h := by
  obtain ⟨v1, v2, v3, v4, e, h1, h2⟩ := hm
  exact ⟨v1, v2, v3, v4, e, h1.below hb, h2.below hb⟩
end Go.Proofs.Ytjgnjjphankhnab

/- Trees of trees by the project's own functions: public texts and signatures, over the loaded program. -/
namespace Go.Proofs.Ytjgnjjphankhnab
open Go.RowKit
theorem CB.apart {w : World} {g h : Nat} {T U : TypeId} {cs ds : Array Value} (hA : CB w g T cs) (hB : CB w h U ds) (hne : T ≠ U) : g ≠ h := fun e => by
  subst e
  unfold CB at hA hB
  rw [hA] at hB
  injection hB with hB
  injection hB with h1 h2
  exact hne h2
theorem idx17c (a b : ByteArray) (q r : Int) (W : World) : (Instr.index 54 (.agg #[.string a, .int .i64 q, .string b, .int .i64 r]) (.int .i64 0)).run Try.prog W = .ok (.agg #[.string a, .int .i64 q]) W := by kernel_rfl
theorem fld17 (a : ByteArray) (q : Int) (W : World) : (Instr.field 53 (.agg #[.string a, .int .i64 q]) 0).run Try.prog W = .ok (.string a) W := by kernel_rfl
set_option maxRecDepth 20000 in
set_option maxHeartbeats 400000 in
theorem implHyperPublic_any (s : ByteArray) (hs : s.size ≤ 1048576) (w : World) :
    Calls Try.prog 22 #[.string s] w fun e w' => e = .returned (.string (hpubO s)) ∧ Below w.heap.size w w' := by
  have C1 := hide (fun W => keysAt_any s 0 (by omega) hs W)
  have C2 := hide (fun W => public_any (topB s) (by rw [topB_size]; omega) W)
  have HP := hide (show pubO (topB s) = hpubO s from rfl)
  rw [unhide HP] at C2
  generalize hpubO s = p at *
  generalize topB s = tb at *
  generalize lowB s (0 / 4) = lb at *
  generalize (0 : Int) / 4 = q at *
  generalize (0 : Int) % 4 = r at *
  have X1 := idx17c tb lb q r
  have X2 := fld17 tb q
  clear HP
  go_enter Try.func22, Try.ntmps22
  go_wp2_with fail
  refine (unhide C1 w).mono ?_
  rintro e w1 ⟨rfl, hb1⟩
  clear C1
  go_wp2_with fail
  refine (unhide C2 w1).mono ?_
  rintro e w2 ⟨rfl, hb2⟩
  have hB2 := hb1.trans (hb2.mono hb1.size)
  clear C2 hb1 hb2
  go_wp2
  go_ret
  exact ⟨rfl, hB2⟩
end Go.Proofs.Ytjgnjjphankhnab

/- Keys of a tree by the given model: leaves, public texts, signatures, over the loaded program. -/
namespace Go.Proofs.Ytjgnjjphankhnab
open Go.RowKit
set_option maxRecDepth 20000 in
set_option maxHeartbeats 800000 in
theorem specLeaves_any (s : ByteArray) (hs : s.size ≤ 2000000) (w : World) :
    Calls Try.prog 57 #[.string s] w fun e w' => (∃ v, e = .returned v ∧ OwnV w' w.heap.size 9 v ((lvsO s).map sv)) ∧ Below w.heap.size w w' := by
  obtain ⟨i0, hi, hz0, hz1, hz2⟩ := info_parts infoTxt
  have C1 := hide (fun (i : Nat) W => specOnceKeyL_any s (i : Int) hs W)
  have C2 := hide (fun (i : Nat) W v hr => specOncePublic_any (keysO s (i : Int)) (i : Int) v W hr (fun x hx => by rw [keysO_size s _ x hx]; omega))
  have HK := hide (show ∀ i : Nat, onceP (keysO s (i : Int)) (i : Int) = lefO s i from fun i => rfl)
  have EK := hide (show lvsO s = preS (lefO s) 4 from rfl)
  rw [unhide EK]
  generalize lefO s = F at *
  clear EK
  go_enter Try.func57, Try.ntmps57
  have ho0 : OwnV (w.alloc (.cells #[] 9)) w.heap.size 9 (.slice (some ⟨w.heap.size, 0, none⟩) 0 0) ((preS F 0).map sv) := World.ownsRow_made w #[] 0 (Nat.le_refl _) (by decide) (by simp)
  replace ho0 := hide ho0
  have hb0 := (Below.refl w.heap.size w).alloc (Nat.le_refl _) (.cells #[] 9)
  go_wp2
  go_loopw [3, 4] (fun tv ti wr => ∃ k : Nat, k ≤ 4 ∧ ti = .int .i64 (k : Int) ∧ Hid (OwnV wr w.heap.size 9 tv ((preS F k).map sv)) ∧ Below w.heap.size w wr) (fun _ ti _ => 4 - (intOf ti).toNat)
  case atStart => exact ⟨0, by omega, rfl, ho0, hb0⟩
  case round =>
    clear ho0 hb0
    obtain ⟨k, hk, rfl, HO, hB⟩ := hrel
    by_cases hlt : k < 4
    · have hk' : (k : Int) < 4 := by omega
      have c1 := hide (unhide C1 k)
      have c2 := hide (unhide C2 k)
      rw [unhide HK k] at c2
      have HP := hide (preS_succ F k)
      have hpl : ((preS F k).map sv).length ≤ 1000 := by rw [List.length_map, preS_len]; omega
      generalize F k = fk at *
      replace hpl := hide hpl
      clear C1 C2
      go_wp2_with fail
      refine (unhide c1 wr).mono ?_
      rintro e w1 ⟨⟨v1, rfl, o1⟩, hb1⟩
      have hB1 := hB.trans (hb1.mono hB.size)
      have HO1 := hide ((unhide HO).below hb1)
      replace c2 := hide (unhide c2 w1 v1 o1.rdv)
      clear hb1 hB c1 HO o1
      go_wp2_with fail
      refine (unhide c2).mono ?_
      rintro e w3 ⟨rfl, hb3⟩
      have hB3 := hB1.trans (hb3.mono hB1.size)
      have HO3 := hide ((unhide HO1).below hb3)
      have hsz3 := hB3.size
      clear hb3 hB1 c2 HO1
      go_wp2_with (at_builtin; refine wpList_append_val (w := w3) rfl (.tmp 10) (.tmp 16) 22 rfl w.heap.size 9 i0 (.string ⟨#[]⟩) 16 Try.underlying22 hi hz0 hz1 hz2 rfl u3 _ (by rfl) (unhide HO3) (.string fk) rfl (by rfl) (unhide hpl) (by decide) hB3 (Nat.le_refl _) hsz3 ?_; intro v' w8 ho8 hB8)
      have ho9 := hide (show OwnV w8 w.heap.size 9 v' ((preS F (k + 1)).map sv) by rw [unhide HP, List.map_append]; exact ho8)
      clear ho8 HO3 HP
      go_wp2
      exact ⟨⟨k + 1, by omega, by go_num, ho9, hB8⟩, by simp [intOf]; omega⟩
    · have hk' : ¬ (k : Int) < 4 := by omega
      obtain rfl : k = 4 := by omega
      go_wp2
      go_ret
      exact ⟨⟨_, rfl, unhide HO⟩, hB⟩
set_option maxRecDepth 20000 in
set_option maxHeartbeats 800000 in
theorem specPublicOf_any (s : ByteArray) (hs : s.size ≤ 2000000) (w : World) :
    Calls Try.prog 39 #[.string s] w fun e w' => e = .returned (.string (pubO s)) ∧ Below w.heap.size w w' := by
  have C1 := hide (fun W => specLeaves_any s hs W)
  have C2 := hide (fun W v hr => specRootOf_any (lvsO s) v W hr (fun x hx => by rw [lvsO_size s x hx]; omega))
  have HK := hide (show rootB (lvsO s) = pubO s from rfl)
  rw [unhide HK] at C2
  generalize pubO s = p at *
  go_enter Try.func39, Try.ntmps39
  go_wp2_with fail
  refine (unhide C1 w).mono ?_
  rintro e w1 ⟨⟨v1, rfl, o1⟩, hb1⟩
  replace C2 := hide (unhide C2 w1 v1 o1.rdv)
  clear C1 o1
  go_wp2_with fail
  refine (unhide C2).mono ?_
  rintro e w2 ⟨rfl, hb2⟩
  have hB2 := hb1.trans (hb2.mono hb1.size)
  clear C2 hb1 hb2
  go_wp2
  go_ret
  exact ⟨rfl, hB2⟩
end Go.Proofs.Ytjgnjjphankhnab

/- Keys of a tree by the given model: whether a signature is right, over the loaded program. -/
namespace Go.Proofs.Ytjgnjjphankhnab
open Go.RowKit
set_option maxRecDepth 20000 in
set_option maxHeartbeats 800000 in
theorem specSigOk_any (s : Sg) (v : Value) (w : World) (hr : RdSg w v s) (n1 : s.once.length ≤ 2000000) (n2 : s.path.length ≤ 2000000) :
    Calls Try.prog 9 #[v] w fun e w' => e = .returned (.bool (sgOk s)) ∧ Below w.heap.size w w' := by
  obtain ⟨lf, l1, l2⟩ := s
  obtain ⟨v1, v2, rfl, r1, r2, -⟩ := hr
  have C0 := hide (fun W => inb9 lf 0 3 W)
  obtain ⟨a1, c1, rfl, hc1⟩ := r1.open
  obtain ⟨a2, c2, rfl, hc2⟩ := r2.open
  clear r1 r2
  replace hc1 : ∀ k, k < l1.length → ∃ g o, a1 = some ⟨g, o, none⟩ ∧ g < w.heap.size ∧ w.cell? ⟨g, o + k, none⟩ = some (.string (bAt l1 k)) := fun k hk => hc1 k _ (bAt_get l1 k hk)
  replace hc2 : ∀ k, k < l2.length → ∃ g o, a2 = some ⟨g, o, none⟩ ∧ g < w.heap.size ∧ w.cell? ⟨g, o + k, none⟩ = some (.string (bAt l2 k)) := fun k hk => hc2 k _ (bAt_get l2 k hk)
  unfold sgv
  show Calls _ _ #[.agg #[.int .i64 lf, .slice a1 (l1.map sv).length c1, .slice a2 (l2.map sv).length c2]] _ _
  rw [List.length_map, List.length_map]
  by_cases h : 0 ≤ lf ∧ lf ≤ 3
  · rw [decide_eq_true h] at C0
    by_cases h1 : l1.length = 10
    · by_cases h2 : l2.length = 2
      · have E1 := hide (fun (h3 : ∀ k, k < 10 → (bAt l1 k).size = 4) (h4 : ∀ k, k < 2 → (bAt l2 k).size = 4) => show sgOk ⟨lf, l1, l2⟩ = true from sgOk_of ⟨h, h1, h2⟩ (four_bAt (l := l1) fun k hk => h3 k (by omega)) (four_bAt (l := l2) fun k hk => h4 k (by omega)))
        have E2 := hide (fun k (hk : k < 10) (hx : ¬ (bAt l1 k).size = 4) => show sgOk ⟨lf, l1, l2⟩ = false from sgOk_no2 (four_no (l := l1) k (by omega) hx))
        have E3 := hide (fun k (hk : k < 2) (hx : ¬ (bAt l2 k).size = 4) => show sgOk ⟨lf, l1, l2⟩ = false from sgOk_no3 (four_no (l := l2) k (by omega) hx))
        rw [h1] at hc1 ⊢
        rw [h2] at hc2 ⊢
        generalize sgOk ⟨lf, l1, l2⟩ = R at *
        generalize bAt l1 = F1 at *
        generalize bAt l2 = F2 at *
        clear h h1 h2 n1 n2
        go_enter Try.func9, Try.ntmps9
        go_wp2_with fail
        obtain ⟨W, hW, hP, hB, hs1⟩ := one_cb w #[.int .i64 lf, .slice a1 10 c1, .slice a2 2 c2] 27
        rw [hW]
        clear hW
        refine (unhide C0 W).mono ?_
        rintro e w1 ⟨rfl, hw1⟩
        have hw2 := hw1.symm
        subst hw2
        clear hw1 C0
        have p1 := hP.cell 1 (v := .slice a1 10 c1) rfl
        have p2 := hP.cell 2 (v := .slice a2 2 c2) rfl
        replace hP := hide hP
        go_wp2
        go_loopw [3] (fun ti wr => ∃ k : Nat, k ≤ 10 ∧ ti = .int .i64 (k : Int) ∧ Hid (∀ j, j < k → (F1 j).size = 4) ∧ wr = W) (fun ti _ => 10 - (intOf ti).toNat)
        case atStart => exact ⟨0, by omega, rfl, hide (fun j hj => absurd hj (by omega)), rfl⟩
        case round =>
          obtain ⟨k, hk, rfl, HK, hw⟩ := hrel
          have hw' := hw.symm
          subst hw'
          clear hw
          by_cases hlt : k < 10
          · have hk' : (k : Int) < 10 := by omega
            obtain ⟨g, o, rfl, hg, d1⟩ := hc1 k hlt
            replace d1 := (hB.cell (p := ⟨g, o + k, none⟩) hg).trans d1
            by_cases hx : (F1 k).size = 4
            · have HK2 := hide (show ∀ j, j < k + 1 → (F1 j).size = 4 from fun j hj => by
                by_cases e : j = k
                · rw [e]; exact hx
                · exact unhide HK j (by omega))
              generalize F1 k = told at d1 hx
              clear hc1 hc2 HK
              go_wp2
              exact ⟨⟨k + 1, by omega, by go_num, HK2, by first | rfl | trivial⟩, by simp [intOf]; omega⟩
            · have E := hide (unhide E2 k hlt hx)
              have hx' : ¬ ((F1 k).size : Int) = 4 := by omega
              generalize F1 k = told at d1 hx'
              clear hc1 hc2 HK E1 E2 E3 hx
              go_wp2
              go_ret
              exact ⟨by rw [unhide E]; rfl, hB⟩
          · have hk' : ¬ (k : Int) < 10 := by omega
            have HK2 := hide (show ∀ j, j < 10 → (F1 j).size = 4 from fun j hj => unhide HK j (by omega))
            clear hc1 HK
            go_wp2
            go_loopw [4] (fun ti wr => ∃ k : Nat, k ≤ 2 ∧ ti = .int .i64 (k : Int) ∧ Hid (∀ j, j < k → (F2 j).size = 4) ∧ wr = W) (fun ti _ => 2 - (intOf ti).toNat)
            case atStart => exact ⟨0, by omega, rfl, hide (fun j hj => absurd hj (by omega)), rfl⟩
            case round =>
              obtain ⟨k, hk, rfl, HK, hw⟩ := hrel
              have hw' := hw.symm
              subst hw'
              clear hw
              by_cases hlt2 : k < 2
              · have hk2 : (k : Int) < 2 := by omega
                obtain ⟨g, o, rfl, hg, d1⟩ := hc2 k hlt2
                replace d1 := (hB.cell (p := ⟨g, o + k, none⟩) hg).trans d1
                by_cases hx : (F2 k).size = 4
                · have HK3 := hide (show ∀ j, j < k + 1 → (F2 j).size = 4 from fun j hj => by
                    by_cases e : j = k
                    · rw [e]; exact hx
                    · exact unhide HK j (by omega))
                  generalize F2 k = told at d1 hx
                  clear hc2 HK
                  go_wp2
                  exact ⟨⟨k + 1, by omega, by go_num, HK3, by first | rfl | trivial⟩, by simp [intOf]; omega⟩
                · have E := hide (unhide E3 k hlt2 hx)
                  have hx' : ¬ ((F2 k).size : Int) = 4 := by omega
                  generalize F2 k = told at d1 hx'
                  clear hc2 HK E1 E2 E3 hx
                  go_wp2
                  go_ret
                  exact ⟨by rw [unhide E]; rfl, hB⟩
              · have hk2 : ¬ (k : Int) < 2 := by omega
                have E := hide (unhide E1 (unhide HK2) (fun j hj => unhide HK j (by omega)))
                clear hc2 HK HK2 E1 E2 E3
                go_wp2
                go_ret
                exact ⟨by rw [unhide E]; rfl, hB⟩
      · have E := hide (show sgOk ⟨lf, l1, l2⟩ = false from sgOk_no1 fun x => h2 x.2.2)
        rw [unhide E, h1]
        have h2' : ¬ (l2.length : Int) = 2 := by omega
        generalize l2.length = m2 at *
        clear E h hc1 hc2 h2
        go_enter Try.func9, Try.ntmps9
        go_wp2_with fail
        obtain ⟨W, hW, hP, hB, hs1⟩ := one_cb w #[.int .i64 lf, .slice a1 10 c1, .slice a2 m2 c2] 27
        rw [hW]
        clear hW
        refine (unhide C0 W).mono ?_
        rintro e w1 ⟨rfl, hw1⟩
        have hw2 := hw1.symm
        subst hw2
        clear hw1 C0
        have p1 := hP.cell 1 (v := .slice a1 10 c1) rfl
        have p2 := hP.cell 2 (v := .slice a2 m2 c2) rfl
        go_wp2
        go_ret
        exact ⟨rfl, hB⟩
    · have E := hide (show sgOk ⟨lf, l1, l2⟩ = false from sgOk_no1 fun x => h1 x.2.1)
      rw [unhide E]
      have h1' : ¬ (l1.length : Int) = 10 := by omega
      generalize l1.length = m1 at *
      generalize l2.length = m2 at *
      clear E h hc1 hc2 h1
      go_enter Try.func9, Try.ntmps9
      go_wp2_with fail
      obtain ⟨W, hW, hP, hB, hs1⟩ := one_cb w #[.int .i64 lf, .slice a1 m1 c1, .slice a2 m2 c2] 27
      rw [hW]
      clear hW
      refine (unhide C0 W).mono ?_
      rintro e w1 ⟨rfl, hw1⟩
      have hw2 := hw1.symm
      subst hw2
      clear hw1 C0
      have p1 := hP.cell 1 (v := .slice a1 m1 c1) rfl
      go_wp2
      go_ret
      exact ⟨rfl, hB⟩
  · have E := hide (show sgOk ⟨lf, l1, l2⟩ = false from sgOk_no1 fun x => h x.1)
    rw [unhide E]
    rw [decide_eq_false h] at C0
    generalize l1.length = m1 at *
    generalize l2.length = m2 at *
    clear E h hc1 hc2
    go_enter Try.func9, Try.ntmps9
    go_wp2_with fail
    obtain ⟨W, hW, hP, hB, hs1⟩ := one_cb w #[.int .i64 lf, .slice a1 m1 c1, .slice a2 m2 c2] 27
    rw [hW]
    clear hW
    refine (unhide C0 W).mono ?_
    rintro e w1 ⟨rfl, hw1⟩
    have hw2 := hw1.symm
    subst hw2
    clear hw1 C0
    go_wp2
    go_ret
    exact ⟨rfl, hB⟩
theorem same_txt (a b : ByteArray) : (a.toList == b.toList) = decide (a = b) := by
  have e : ∀ x : ByteArray, x.toList = x.data.toList := fun x => ByteArray.toList_eq x
  by_cases h : a = b
  · subst h
    rw [decide_eq_true rfl]
    exact beq_self_eq_true _
  · rw [decide_eq_false h]
    apply beq_false_of_ne
    rw [e, e]
    exact fun h2 => h (ByteArray.ext (Array.toList_inj.1 h2))
theorem sumS_four (l : List ByteArray) (h : ∀ x ∈ l, x.size = 4) : sumS l = 4 * l.length := by
  induction l with
  | nil => rfl
  | cons x xs ih =>
    show x.size + sumS xs = 4 * (xs.length + 1)
    rw [h x (by simp), ih fun y hy => h y (by simp [hy])]
    omega
theorem onceF_size (l : List ByteArray) (leaf : Int) (m : ByteArray) : (onceF l leaf m).size ≤ 4 := by
  unfold onceF
  split
  · rw [chopB_size]; omega
  · show 0 ≤ 4; omega
set_option maxRecDepth 20000 in
set_option maxHeartbeats 800000 in
theorem specCheckSig_any (p m : ByteArray) (s : Sg) (v : Value) (w : World) (hr : RdSg w v s) (n1 : s.once.length ≤ 2000000) (n2 : s.path.length ≤ 2000000) (hm : m.size ≤ 1048576) :
    Calls Try.prog 13 #[.string p, .string m, v] w fun e w' => e = .returned (.bool (chkB p m s)) ∧ Below w.heap.size w w' := by
  have C0 := hide (fun (W : World) (h : Below w.heap.size w W) => specSigOk_any s v W (hr.below h) n1 n2)
  obtain ⟨lf, l1, l2⟩ := s
  obtain ⟨v1, v2, rfl, r1, r2, -⟩ := hr
  cases ho : sgOk ⟨lf, l1, l2⟩ with
  | true =>
    rw [ho] at C0
    have f1 := sgOk_once ho
    have f2 := sgOk_path ho
    obtain ⟨_, k1, k2⟩ := sgOk_shape ho
    have C1 := hide (fun (W : World) (h : Below w.heap.size w W) => specOnceFound_any l1 lf m v1 W (r1.below h) (by rw [sumS_four l1 (four_yes f1)]; have : l1.length = 10 := k1; omega) hm)
    have C2 := hide (fun (W : World) (h : Below w.heap.size w W) => specRootBy_any (onceF l1 lf m) lf l2 v2 W (by have := onceF_size l1 lf m; omega) (r2.below h) (fun x hx => by rw [four_yes f2 x hx]; omega))
    have EC := hide (show chkB p m ⟨lf, l1, l2⟩ = decide (rootBy (onceF l1 lf m) lf l2 = p) by unfold chkB fndB; rw [ho]; rfl)
    rw [unhide EC]
    obtain ⟨a1, c1, rfl⟩ := r1.shape
    obtain ⟨a2, c2, rfl⟩ := r2.shape
    unfold sgv at C0 ⊢
    generalize onceF l1 lf m = fo at *
    generalize rootBy fo lf l2 = ro at *
    clear r1 r2 n1 n2 k1 k2 f1 f2 ho EC
    show Calls _ _ #[_, _, .agg #[.int .i64 lf, .slice a1 (l1.map sv).length c1, .slice a2 (l2.map sv).length c2]] _ _
    generalize ((Sg.mk lf l1 l2).once.map sv).length = k1 at *
    generalize ((Sg.mk lf l1 l2).path.map sv).length = k2 at *
    go_enter Try.func13, Try.ntmps13
    go_wp2_with fail
    obtain ⟨W, hW, hP, hB, hs1⟩ := one_cb w #[.int .i64 lf, .slice a1 k1 c1, .slice a2 k2 c2] 27
    rw [hW]
    clear hW
    have KS := hide (fun (W' : World) (h : Below W.heap.size W W') => (show W'.cell? ⟨w.heap.size, 0, none⟩ = some (.int .i64 lf) ∧ W'.cell? ⟨w.heap.size, 1, none⟩ = some (.slice a1 k1 c1) ∧ W'.cell? ⟨w.heap.size, 2, none⟩ = some (.slice a2 k2 c2) from ⟨(hP.step h).cell 0 rfl, (hP.step h).cell 1 rfl, (hP.step h).cell 2 rfl⟩))
    have C0' := hide (fun (W' : World) (h : Below W.heap.size W W') => unhide C0 W' (hB.trans (h.mono hB.size)))
    have C1' := hide (fun (W' : World) (h : Below W.heap.size W W') => unhide C1 W' (hB.trans (h.mono hB.size)))
    have C2' := hide (fun (W' : World) (h : Below W.heap.size W W') => unhide C2 W' (hB.trans (h.mono hB.size)))
    have HT0 := (Below.refl W.heap.size W).drew
    clear C0 C1 C2 hP
    go_region_held3 (fun W => W.cell? ⟨w.heap.size, 0, none⟩ = some (.int .i64 lf) ∧ W.cell? ⟨w.heap.size, 1, none⟩ = some (.slice a1 k1 c1) ∧ W.cell? ⟨w.heap.size, 2, none⟩ = some (.slice a2 k2 c2)) (first | exact unhide KS _ HT0 | exact unhide KS _ hT1 | exact unhide KS _ hT2 | exact unhide KS _ hT3 | fail) (first
      | (go_at_call 9; refine (unhide C0' _ HT0).mono ?_; rintro e w1 ⟨rfl, hb1⟩; have hT1 := HT0.trans (hb1.mono HT0.size); clear hb1)
      | (go_at_call 30; refine (unhide C1' _ hT1).mono ?_; rintro e w2 ⟨rfl, hb2⟩; have hT2 := hT1.trans (hb2.mono hT1.size); clear hb2)
      | (go_at_call 29; refine (unhide C2' _ hT2).mono ?_; rintro e w3 ⟨rfl, hb3⟩; have hT3 := hT2.trans (hb3.mono hT2.size); clear hb3))
    all_goals
      have hF := hB.trans (hT3.mono hB.size)
      clear C0' C1' C2' KS hT1 hT2 HT0
      go_wp2
      go_ret
      exact ⟨by show Ending.returned (.bool (ro.toList == p.toList)) = _; rw [same_txt], hF⟩
  | false =>
    rw [ho] at C0
    have EC := hide (show chkB p m ⟨lf, l1, l2⟩ = false by unfold chkB; rw [ho]; rfl)
    rw [unhide EC]
    obtain ⟨a1, c1, rfl⟩ := r1.shape
    obtain ⟨a2, c2, rfl⟩ := r2.shape
    unfold sgv at C0 ⊢
    clear r1 r2 n1 n2 ho EC
    show Calls _ _ #[_, _, .agg #[.int .i64 lf, .slice a1 (l1.map sv).length c1, .slice a2 (l2.map sv).length c2]] _ _
    generalize ((Sg.mk lf l1 l2).once.map sv).length = k1 at *
    generalize ((Sg.mk lf l1 l2).path.map sv).length = k2 at *
    go_enter Try.func13, Try.ntmps13
    go_wp2_with fail
    obtain ⟨W, hW, hP, hB, hs1⟩ := one_cb w #[.int .i64 lf, .slice a1 k1 c1, .slice a2 k2 c2] 27
    rw [hW]
    clear hW
    have KS := hide (fun (W' : World) (h : Below W.heap.size W W') => (show W'.cell? ⟨w.heap.size, 0, none⟩ = some (.int .i64 lf) ∧ W'.cell? ⟨w.heap.size, 1, none⟩ = some (.slice a1 k1 c1) ∧ W'.cell? ⟨w.heap.size, 2, none⟩ = some (.slice a2 k2 c2) from ⟨(hP.step h).cell 0 rfl, (hP.step h).cell 1 rfl, (hP.step h).cell 2 rfl⟩))
    have C0' := hide (fun (W' : World) (h : Below W.heap.size W W') => unhide C0 W' (hB.trans (h.mono hB.size)))
    have HT0 := (Below.refl W.heap.size W).drew
    clear C0 hP
    refine wp_region_held_drew (S := fun W => W.cell? ⟨w.heap.size, 0, none⟩ = some (.int .i64 lf) ∧ W.cell? ⟨w.heap.size, 1, none⟩ = some (.slice a1 k1 c1) ∧ W.cell? ⟨w.heap.size, 2, none⟩ = some (.slice a2 k2 c2)) (by kernel_rfl) (unhide KS _ HT0) (fun hHeld => ?_)
    refine wpAnyH_take (i := 0) (v := .agg #[.int .i64 lf, .slice a1 k1 c1, .slice a2 k2 c2]) rfl (by kernel_rfl) (by kernel_rfl) (by kernel_rfl) (fun _ _ _ h => h) (Or.inl ⟨by kernel_rfl, fun W hS => by obtain ⟨s0, s1, s2⟩ := hS; go_simp⟩) hHeld ?_
    refine wpAnyH_ready (rs := [1]) (by kernel_rfl) (by simp) ?_
    refine AllReadyH.cons rfl (fun K hK => ?_) AllReadyH.nil
    go_simp
    refine (unhide C0' _ HT0).mono ?_
    rintro e w1 ⟨rfl, hb1⟩
    have hT1 := HT0.trans (hb1.mono HT0.size)
    have hF := hB.trans (hT1.mono hB.size)
    refine hK.out _ _ (unhide KS _ hT1) (fun hHeld => ?_)
    clear hK K hb1 HT0 C0'
    refine wpAnyH_take (i := 2) (v := .bool false) rfl (by kernel_rfl) (by kernel_rfl) (by kernel_rfl) (fun _ _ _ h => h) (Or.inl ⟨by kernel_rfl, fun W hS => by go_simp⟩) hHeld ?_
    refine wpAnyH_take (i := 3) (v := undef) rfl (by kernel_rfl) (by kernel_rfl) (by kernel_rfl) (fun _ _ _ h => h) (Or.inr ⟨by kernel_rfl, rfl⟩) hHeld ?_
    refine wpAnyH_take (i := 4) (v := undef) rfl (by kernel_rfl) (by kernel_rfl) (by kernel_rfl) (fun _ _ _ h => h) (Or.inr ⟨by kernel_rfl, rfl⟩) hHeld ?_
    refine wpAnyH_take (i := 5) (v := undef) rfl (by kernel_rfl) (by kernel_rfl) (by kernel_rfl) (fun _ _ _ h => h) (Or.inr ⟨by kernel_rfl, rfl⟩) hHeld ?_
    refine wpAnyH_take (i := 6) (v := undef) rfl (by kernel_rfl) (by kernel_rfl) (by kernel_rfl) (fun _ _ _ h => h) (Or.inr ⟨by kernel_rfl, rfl⟩) hHeld ?_
    refine wpAnyH_take (i := 7) (v := undef) rfl (by kernel_rfl) (by kernel_rfl) (by kernel_rfl) (fun _ _ _ h => h) (Or.inr ⟨by kernel_rfl, rfl⟩) hHeld ?_
    refine wpAnyH_take (i := 8) (v := undef) rfl (by kernel_rfl) (by kernel_rfl) (by kernel_rfl) (fun _ _ _ h => h) (Or.inr ⟨by kernel_rfl, rfl⟩) hHeld ?_
    refine wpAnyH_take (i := 9) (v := undef) rfl (by kernel_rfl) (by kernel_rfl) (by kernel_rfl) (fun _ _ _ h => h) (Or.inr ⟨by kernel_rfl, rfl⟩) hHeld ?_
    refine wpAnyH_take (i := 10) (v := undef) rfl (by kernel_rfl) (by kernel_rfl) (by kernel_rfl) (fun _ _ _ h => h) (Or.inr ⟨by kernel_rfl, rfl⟩) hHeld ?_
    refine wpAnyH_take (i := 11) (v := undef) rfl (by kernel_rfl) (by kernel_rfl) (by kernel_rfl) (fun _ _ _ h => h) (Or.inr ⟨by kernel_rfl, rfl⟩) hHeld ?_
    refine wpAnyH_take (i := 12) (v := undef) rfl (by kernel_rfl) (by kernel_rfl) (by kernel_rfl) (fun _ _ _ h => h) (Or.inr ⟨by kernel_rfl, rfl⟩) hHeld ?_
    refine wpAnyH_take (i := 13) (v := undef) rfl (by kernel_rfl) (by kernel_rfl) (by kernel_rfl) (fun _ _ _ h => h) (Or.inr ⟨by kernel_rfl, rfl⟩) hHeld ?_
    refine wpAnyH_take (i := 14) (v := undef) rfl (by kernel_rfl) (by kernel_rfl) (by kernel_rfl) (fun _ _ _ h => h) (Or.inr ⟨by kernel_rfl, rfl⟩) hHeld ?_
    refine wpAnyH_take (i := 15) (v := undef) rfl (by kernel_rfl) (by kernel_rfl) (by kernel_rfl) (fun _ _ _ h => h) (Or.inr ⟨by kernel_rfl, rfl⟩) hHeld ?_
    refine wpAnyH_take (i := 16) (v := .bool false) rfl (by kernel_rfl) (by kernel_rfl) (by kernel_rfl) (fun _ _ _ h => h) (Or.inl ⟨by kernel_rfl, fun W hS => by go_simp⟩) hHeld ?_
    refine wpAnyH_take (i := 17) (v := .bool false) rfl (by kernel_rfl) (by kernel_rfl) (by kernel_rfl) (fun _ _ _ h => h) (Or.inl ⟨by kernel_rfl, fun W hS => by go_simp⟩) hHeld ?_
    refine wpAnyH_done (by kernel_rfl) ?_ _
    simp only [Act.put, List.getElem_toArray, List.getElem_cons_zero, List.getElem_cons_succ, List.setIfInBounds_toArray, List.set_cons_zero, List.set_cons_succ]
    clear KS hHeld hT1
    go_wp2
    go_ret
    exact ⟨rfl, hF⟩
end Go.Proofs.Ytjgnjjphankhnab

/- Keys of a tree by the given model: a signature's text, over the loaded program. -/
namespace Go.Proofs.Ytjgnjjphankhnab
open Go.RowKit
set_option maxRecDepth 20000 in
set_option maxHeartbeats 800000 in
theorem specSigText_any (s : Sg) (v : Value) (w : World) (hr : RdSg w v s) (n1 : s.once.length ≤ 2000000) (n2 : s.path.length ≤ 2000000) :
    Calls Try.prog 15 #[v] w fun e w' => e = .returned (.tuple #[.string (sgT s), .bool (sgOk s)]) ∧ Below w.heap.size w w' := by
  have C0 := hide (fun (W : World) (h : Below w.heap.size w W) => specSigOk_any s v W (hr.below h) n1 n2)
  obtain ⟨lf, l1, l2⟩ := s
  have CB0 := hide (fun W => specByteY_any lf W)
  obtain ⟨v1, v2, rfl, r1, r2, -⟩ := hr
  cases ho : sgOk ⟨lf, l1, l2⟩ with
  | true =>
    rw [ho] at C0
    have f1 := sgOk_once ho
    have f2 := sgOk_path ho
    obtain ⟨_, k1, k2⟩ := sgOk_shape ho
    obtain ⟨a1, c1, rfl, hc1⟩ := r1.open
    obtain ⟨a2, c2, rfl, hc2⟩ := r2.open
    replace hc1 : ∀ k, k < 10 → ∃ g o, a1 = some ⟨g, o, none⟩ ∧ g < w.heap.size ∧ w.cell? ⟨g, o + k, none⟩ = some (.string (bAt l1 k)) := fun k hk => hc1 k _ (bAt_get l1 k (by have : l1.length = 10 := k1; omega))
    replace hc2 : ∀ k, k < 2 → ∃ g o, a2 = some ⟨g, o, none⟩ ∧ g < w.heap.size ∧ w.cell? ⟨g, o + k, none⟩ = some (.string (bAt l2 k)) := fun k hk => hc2 k _ (bAt_get l2 k (by have : l2.length = 2 := k2; omega))
    have z1 := hide (fun k (hk : k < 10) => bAt_four f1 k (by have : l1.length = 10 := k1; omega))
    have z2 := hide (fun k (hk : k < 2) => bAt_four f2 k (by have : l2.length = 2 := k2; omega))
    have q1 := hide (fun k (hk : k ≤ 10) => catT_size (oneY lf) (bAt l1) 10 (fun i hi => unhide z1 i hi) k hk)
    have q2 := hide (fun k (hk : k ≤ 2) => catT_size (catT (oneY lf) (bAt l1) 10) (bAt l2) 2 (fun i hi => unhide z2 i hi) k hk)
    have q0 := unhide q1 10 (Nat.le_refl _)
    rw [oneY_size] at q1 q0
    rw [q0] at q2
    have EC := hide (show sgT ⟨lf, l1, l2⟩ = catT (catT (oneY lf) (bAt l1) 10) (bAt l2) 2 from sgT_is ho)
    rw [unhide EC]
    unfold sgv at C0 ⊢
    show Calls _ _ #[.agg #[.int .i64 lf, .slice a1 (l1.map sv).length c1, .slice a2 (l2.map sv).length c2]] _ _
    have e1 : (l1.map sv).length = 10 := by rw [List.length_map]; exact k1
    have e2 : (l2.map sv).length = 2 := by rw [List.length_map]; exact k2
    have C0' := hide (fun (W : World) (h : Below w.heap.size w W) => show Calls Try.prog 9 #[.agg #[.int .i64 lf, .slice a1 (l1.map sv).length c1, .slice a2 (l2.map sv).length c2]] W _ from unhide C0 W h)
    rw [e1, e2] at C0' ⊢
    have S1 := hide (show ∀ k, catT (oneY lf) (bAt l1) (k + 1) = catT (oneY lf) (bAt l1) k ++ bAt l1 k from fun k => rfl)
    have S2 := hide (show ∀ k, catT (catT (oneY lf) (bAt l1) 10) (bAt l2) (k + 1) = catT (catT (oneY lf) (bAt l1) 10) (bAt l2) k ++ bAt l2 k from fun k => rfl)
    have T1 := hide (show catT (oneY lf) (bAt l1) 0 = oneY lf from rfl)
    have T2 := hide (show catT (catT (oneY lf) (bAt l1) 10) (bAt l2) 0 = catT (oneY lf) (bAt l1) 10 from rfl)
    rw [← unhide T1] at CB0
    generalize catT (catT (oneY lf) (bAt l1) 10) (bAt l2) = F2 at *
    generalize catT (oneY lf) (bAt l1) = F1 at *
    generalize bAt l1 = b1 at *
    generalize bAt l2 = b2 at *
    clear r1 r2 n1 n2 k1 k2 f1 f2 ho EC e1 e2 C0 q0 T1
    go_enter Try.func15, Try.ntmps15
    go_wp2_with fail
    obtain ⟨W, hW, hP, hB, hs1⟩ := one_cb w #[.int .i64 lf, .slice a1 10 c1, .slice a2 2 c2] 27
    rw [hW]
    clear hW
    refine (unhide C0' W hB).mono ?_
    rintro e w1 ⟨rfl, hb1⟩
    have hB1 := hB.trans (hb1.mono hB.size)
    have hP1 := hP.step hb1
    have p0 := hP1.cell 0 (v := .int .i64 lf) rfl
    clear hb1 hB hP C0'
    go_wp2_with fail
    refine (unhide CB0 w1).mono ?_
    rintro e w2 ⟨rfl, hb2⟩
    have hB2 := hB1.trans (hb2.mono hB1.size)
    have hP2 := hP1.step hb2
    have p1 := hP2.cell 1 (v := .slice a1 10 c1) rfl
    have p2 := hP2.cell 2 (v := .slice a2 2 c2) rfl
    clear hb2 hB1 hP1 p0 CB0
    replace hP2 := hide hP2
    go_wp2
    go_loopw [4, 5] (fun tt ti wr => ∃ k : Nat, k ≤ 10 ∧ ti = .int .i64 (k : Int) ∧ tt = .string (F1 k) ∧ wr = w2) (fun _ ti _ => 10 - (intOf ti).toNat)
    case atStart => exact ⟨0, by omega, rfl, rfl, rfl⟩
    case round =>
      obtain ⟨k, hk, rfl, rfl, hw⟩ := hrel
      have hw' := hw.symm
      subst hw'
      clear hw
      by_cases hlt : k < 10
      · have hk' : (k : Int) < 10 := by omega
        obtain ⟨g, o, rfl, hg, d1⟩ := hc1 k hlt
        replace d1 := (hB2.cell (p := ⟨g, o + k, none⟩) hg).trans d1
        have zz := unhide z1 k hlt
        have qq := unhide q1 k (by omega)
        have HC := hide (unhide S1 k)
        generalize b1 k = told at *
        have hadd : ¬ 9223372036854775807 < (F1 k).size + told.size := by omega
        have hadd2 : (F1 k).size + told.size ≤ 9223372036854775807 := by omega
        clear hc1 hc2 zz qq
        go_wp2
        exact ⟨⟨k + 1, by omega, by go_num, by rw [unhide HC], by first | rfl | trivial⟩, by simp [intOf]; omega⟩
      · have hk' : ¬ (k : Int) < 10 := by omega
        obtain rfl : k = 10 := by omega
        rw [← unhide T2]
        clear hc1 S1 T2
        go_wp2
        go_loopw [4, 6] (fun tt ti wr => ∃ k : Nat, k ≤ 2 ∧ ti = .int .i64 (k : Int) ∧ tt = .string (F2 k) ∧ wr = w2) (fun _ ti _ => 2 - (intOf ti).toNat)
        case atStart => exact ⟨0, by omega, rfl, rfl, rfl⟩
        case round =>
          obtain ⟨k, hk, rfl, rfl, hw⟩ := hrel
          have hw' := hw.symm
          subst hw'
          clear hw
          by_cases hlt2 : k < 2
          · have hk2 : (k : Int) < 2 := by omega
            obtain ⟨g, o, rfl, hg, d1⟩ := hc2 k hlt2
            replace d1 := (hB2.cell (p := ⟨g, o + k, none⟩) hg).trans d1
            have zz := unhide z2 k hlt2
            have qq := unhide q2 k (by omega)
            have HC := hide (unhide S2 k)
            generalize b2 k = told at *
            have hadd : ¬ 9223372036854775807 < (F2 k).size + told.size := by omega
            have hadd2 : (F2 k).size + told.size ≤ 9223372036854775807 := by omega
            clear hc2 zz qq
            go_wp2
            exact ⟨⟨k + 1, by omega, by go_num, by rw [unhide HC], by first | rfl | trivial⟩, by simp [intOf]; omega⟩
          · have hk2 : ¬ (k : Int) < 2 := by omega
            obtain rfl : k = 2 := by omega
            clear hc2
            go_wp2
            go_ret2
            exact ⟨rfl, hB2⟩
  | false =>
    rw [ho] at C0
    have EC := hide (show sgT ⟨lf, l1, l2⟩ = ⟨#[]⟩ by unfold sgT; rw [ho]; rfl)
    rw [unhide EC]
    obtain ⟨a1, c1, rfl⟩ := r1.shape
    obtain ⟨a2, c2, rfl⟩ := r2.shape
    unfold sgv at C0 ⊢
    clear r1 r2 n1 n2 ho EC
    show Calls _ _ #[.agg #[.int .i64 lf, .slice a1 (l1.map sv).length c1, .slice a2 (l2.map sv).length c2]] _ _
    generalize ((Sg.mk lf l1 l2).once.map sv).length = k1 at *
    generalize ((Sg.mk lf l1 l2).path.map sv).length = k2 at *
    go_enter Try.func15, Try.ntmps15
    go_wp2_with fail
    obtain ⟨W, hW, hP, hB, hs1⟩ := one_cb w #[.int .i64 lf, .slice a1 k1 c1, .slice a2 k2 c2] 27
    rw [hW]
    clear hW
    refine (unhide C0 W hB).mono ?_
    rintro e w1 ⟨rfl, hb1⟩
    have hB1 := hB.trans (hb1.mono hB.size)
    clear hb1 hB hP C0
    go_wp2
    go_ret2
    exact ⟨rfl, hB1⟩
end Go.Proofs.Ytjgnjjphankhnab

/- Keys of a tree by the given model: a signature that is read, over the loaded program. -/
namespace Go.Proofs.Ytjgnjjphankhnab
open Go.RowKit
theorem cut16 (T : ByteArray) (i j : Nat) (w : World) (h1 : i ≤ j) (h2 : j ≤ T.size) : (Instr.slice 9 (.string T) (some (.int .i64 (i : Int))) (some (.int .i64 (j : Int))) none).run Try.prog w = .ok (.string (T.extract i j)) w := by
  rw [run_slice_string_if w 9 T .i64 .i64 (i : Int) (j : Int) Try.underlying9, if_pos (by omega), if_pos (by omega)]
  rfl
/-- The texts of the first k parts, and of those behind the tenth. -/
def onK (F : Nat → ByteArray) (k : Nat) : List ByteArray := (List.range (min k 10)).map F
def ptK (F : Nat → ByteArray) (k : Nat) : List ByteArray := (List.range (k - 10)).map fun i => F (10 + i)
theorem onK_succ (F : Nat → ByteArray) (k : Nat) (h : k < 10) : onK F (k + 1) = onK F k ++ [F k] := by
  unfold onK
  rw [Nat.min_eq_left (by omega), Nat.min_eq_left (by omega), List.range_succ, List.map_append]
  rfl
theorem onK_ten (F : Nat → ByteArray) (k : Nat) (h : 10 ≤ k) : onK F k = onK F 10 := by unfold onK; rw [Nat.min_eq_right h]; rfl
theorem onK_len (F : Nat → ByteArray) (k : Nat) : (onK F k).length ≤ 10 := by unfold onK; rw [List.length_map, List.length_range]; exact Nat.min_le_right _ _
theorem ptK_len (F : Nat → ByteArray) (k : Nat) (h : k ≤ 12) : (ptK F k).length ≤ 2 := by unfold ptK; rw [List.length_map, List.length_range]; omega
theorem ptK_succ (F : Nat → ByteArray) (k : Nat) (h : 10 ≤ k) : ptK F (k + 1) = ptK F k ++ [F k] := by
  unfold ptK
  rw [show k + 1 - 10 = (k - 10) + 1 by omega, List.range_succ, List.map_append]
  show _ ++ [F (10 + (k - 10))] = _
  rw [show 10 + (k - 10) = k by omega]
theorem ptK_low (F : Nat → ByteArray) (k : Nat) (h : k ≤ 10) : ptK F k = [] := by unfold ptK; rw [show k - 10 = 0 by omega]; rfl
set_option maxRecDepth 20000 in
set_option maxHeartbeats 1600000 in
theorem specReadSig_any (t : ByteArray) (w : World) :
    Calls Try.prog 17 #[.string t] w fun e w' => (∃ v, e = .returned (.tuple #[v, .bool (rdOk t)]) ∧ OwnSg w' w.heap.size v (rdS t)) ∧ Below w.heap.size w w' := by
  obtain ⟨i0, hi, hz0, hz1, hz2⟩ := info_parts infoTxt
  by_cases h49 : t.size = 49
  · have h49' : (t.size : Int) = 49 := by omega
    have hix : ∀ h : 0 < t.size, (t[0]'h).toNat = byA t 0 := fun h => byA_at t 0 h
    have hbl := byA_lt t 0
    obtain ⟨b, hb⟩ : ∃ b, b = byA t 0 := ⟨_, rfl⟩
    rw [← hb] at hix hbl
    have q0 : IntKind.i64.wrap (b : Int) = (b : Int) := by rw [IntKind.wrap_i64]; omega
    have h0s : 0 < t.size := by omega
    by_cases h4 : b < 4
    · have hin : rdIn t := ⟨h49, by omega⟩
      have ER := hide (show rdS t = ⟨(b : Int), onK (prtB t) 12, ptK (prtB t) 12⟩ by unfold rdS; rw [if_pos (rdOk_of hin), hb]; rfl)
      rw [unhide ER, rdOk_of hin]
      have HS := hide (fun k (hk : k < 12) W => cut16 t (1 + k * 4) (1 + (k + 1) * 4) W (by omega) (by omega))
      have HS2 := hide (fun k (hk : k < 12) W => show (Instr.slice 9 (.string t) (some (.int .i64 ((1 + k * 4 : Nat) : Int))) (some (.int .i64 ((1 + (k + 1) * 4 : Nat) : Int))) none).run Try.prog W = .ok (.string (prtB t k)) W from unhide HS k hk W)
      generalize prtB t = F at *
      have h4' : ¬ (4 : Int) ≤ (b : Int) := by omega
      have h4d : decide ((4 : Int) ≤ (b : Int)) = false := decide_eq_false h4'
      replace hb := hide hb
      clear HS ER hin
      go_enter Try.func17, Try.ntmps17
      go_wp2
      obtain ⟨W, hW, hR, hV, hB, hs⟩ := two_cb w #[.int .i64 0, .slice none 0 0, .slice none 0 0] #[.int .i64 (b : Int), .slice none 0 0, .slice none 0 0] 27 27
      rw [hW]
      clear hW
      go_loopw [5] (fun ti wr => ∃ (k base2 : Nat) (v1 v2 : Value), k ≤ 12 ∧ ti = .int .i64 (k : Int) ∧ Hid (CB wr w.heap.size 27 #[.int .i64 0, .slice none 0 0, .slice none 0 0]) ∧ Hid (CB wr (w.heap.size + 1) 27 #[.int .i64 (b : Int), v1, v2]) ∧ Hid (OwnV wr w.heap.size 9 v1 ((onK F k).map sv)) ∧ Hid (OwnV wr base2 9 v2 ((ptK F k).map sv)) ∧ Hid (w.heap.size ≤ base2 ∧ base2 ≤ wr.heap.size ∧ ∀ j, v1.ownBlock = some j → j < base2) ∧ Hid (k ≤ 10 → v2 = .slice none 0 0) ∧ Below w.heap.size w wr) (fun ti _ => 12 - (intOf ti).toNat)
      case atStart => exact ⟨0, W.heap.size, _, _, by omega, rfl, hide hR, hide hV, hide (OwnV.nil _ _ _), hide (OwnV.nil _ _ _), hide ⟨hB.size, Nat.le_refl _, fun j hj => by cases hj⟩, hide (fun _ => rfl), hB⟩
      case round =>
        clear hR hV hB hs W
        obtain ⟨k, base2, v1, v2, hk, rfl, HR, HV, H1, H2, HB2, HN, hB⟩ := hrel
        have hbw := hB.size
        by_cases hlt : k < 12
        · have hk' : (k : Int) < 12 := by omega
          obtain ⟨m, hm⟩ : ∃ m, m = k * 4 := ⟨_, rfl⟩
          obtain ⟨m1, hm1⟩ : ∃ m1, m1 = 1 + k * 4 := ⟨_, rfl⟩
          obtain ⟨kk, hkk⟩ : ∃ m, m = k + 1 := ⟨_, rfl⟩
          obtain ⟨m2, hm2⟩ : ∃ m, m = (k + 1) * 4 := ⟨_, rfl⟩
          obtain ⟨m3, hm3⟩ : ∃ m, m = 1 + (k + 1) * 4 := ⟨_, rfl⟩
          have t1 : IntKind.i64.wrap ((k : Int) * 4) = (m : Int) := by rw [IntKind.wrap_i64]; omega
          have t2 : IntKind.i64.wrap (1 + (m : Int)) = (m1 : Int) := by rw [IntKind.wrap_i64]; omega
          have t3 : IntKind.i64.wrap ((k : Int) + 1) = (kk : Int) := by rw [IntKind.wrap_i64]; omega
          have t4 : IntKind.i64.wrap ((kk : Int) * 4) = (m2 : Int) := by rw [IntKind.wrap_i64]; omega
          have t5 : IntKind.i64.wrap (1 + (m2 : Int)) = (m3 : Int) := by rw [IntKind.wrap_i64]; omega
          have hsl := unhide HS2 k hlt
          rw [← hm1, ← hm3] at hsl
          by_cases h10 : k < 10
          · have h10' : (k : Int) < 10 := by omega
            have hv2 := unhide HN (by omega)
            subst hv2
            have HP := hide (onK_succ F k h10)
            have hpl : ((onK F k).map sv).length ≤ 1000 := by rw [List.length_map]; have := onK_len F k; omega
            have HQ := hide (show ptK F (k + 1) = [] from ptK_low F _ (by omega))
            obtain ⟨x, hx⟩ : ∃ x, x = F k := ⟨_, rfl⟩
            rw [← hx] at hsl HP
            have p1 := (unhide HV).cell 1 (v := v1) rfl
            replace hm := hide hm; replace hm1 := hide hm1; replace hkk := hide hkk; replace hm2 := hide hm2; replace hm3 := hide hm3; replace hx := hide hx; replace hpl := hide hpl
            clear HS2
            have off1 := hide ((unhide HV).off (unhide H1) (by decide))
            have off0 := hide ((unhide HR).off (unhide H1) (by decide))
            go_wp2_with (at_builtin; refine wpList_append_grow (w := wr) rfl (.tmp 37) (.tmp 39) 22 rfl w.heap.size 9 i0 (.string ⟨#[]⟩) 16 Try.underlying22 hi hz0 hz1 hz2 rfl v1 _ rfl (unhide H1) (.string x) rfl rfl (by have := unhide hpl; unfold maxLen; omega) (by have := unhide hpl; omega) hbw ?_; intro v' w' ho' hG; have hV2 := ((unhide HV).alloc (.cells #[.string x] 9)).grown hG (unhide off1); have hR2 := ((unhide HR).alloc (.cells #[.string x] 9)).grown hG (unhide off0); have hB2 := (hB.alloc hbw (.cells #[.string x] 9)).grown hG (by simp; omega) (fun j hj => ((unhide H1).lt j hj).1); obtain ⟨a', c', rfl⟩ := ho'.shape; generalize ((onK F k).map sv ++ [Value.string x]).length = n at *; have c1 := hV2.cell 1 (v := v1) rfl; have f1 := hV2.frozen 1)
            have hP2 : (onK F k).map sv ++ [.string x] = (onK F (k + 1)).map sv := by rw [unhide HP, List.map_append]; rfl
            rw [hP2] at ho'
            have o9 := hide (ho'.setO (w.heap.size + 1) 1 (.slice a' n c') (hV2.off ho' (by decide)))
            have V9 := hide (hV2.set 1 (.slice a' n c'))
            have R9 := hide (hR2.set_other (h := w.heap.size + 1) (k := 1) (by omega) (.slice a' n c'))
            have B9 := hB2.setCell (p := ⟨w.heap.size + 1, 1, none⟩) (by simp) (.slice a' n c')
            have lo9 := hide (fun j (hj : (Value.slice a' n c').ownBlock = some j) => ((unhide o9).lt j hj).2)
            exact ⟨⟨k + 1, (w'.setCell ⟨w.heap.size + 1, 1, none⟩ (.slice a' n c')).heap.size, .slice a' n c', .slice none 0 0, by omega, by rw [unhide hkk], R9, V9, o9, hide (by rw [unhide HQ]; exact OwnV.nil _ _ _), hide ⟨B9.size, Nat.le_refl _, unhide lo9⟩, hide (fun _ => rfl), B9⟩, by simp [intOf]; have := unhide hkk; omega⟩
          · have h10' : ¬ (k : Int) < 10 := by omega
            have HP := hide (ptK_succ F k (by omega))
            have hpl : ((ptK F k).map sv).length ≤ 1000 := by rw [List.length_map]; have := ptK_len F k (by omega); omega
            have HQ := hide (show onK F (k + 1) = onK F k by rw [onK_ten F _ (by omega), onK_ten F k (by omega)])
            obtain ⟨x, hx⟩ : ∃ x, x = F k := ⟨_, rfl⟩
            rw [← hx] at hsl HP
            have p2 := (unhide HV).cell 2 (v := v2) rfl
            have hb2 := (unhide HB2).2.1
            replace hm := hide hm; replace hm1 := hide hm1; replace hkk := hide hkk; replace hm2 := hide hm2; replace hm3 := hide hm3; replace hx := hide hx; replace hpl := hide hpl
            clear HS2
            have off1 := hide ((unhide HV).off (unhide H2) (by decide))
            have off0 := hide ((unhide HR).off (unhide H2) (by decide))
            have ap := hide (show ∀ j, v1.ownBlock = some j → v2.ownBlock ≠ some j from fun j hj hj2 => by
              have h1 := (unhide HB2).2.2 j hj
              have h2 := ((unhide H2).lt j hj2).1
              omega)
            go_wp2_with (at_builtin; refine wpList_append_grow (w := wr) rfl (.tmp 43) (.tmp 45) 22 rfl base2 9 i0 (.string ⟨#[]⟩) 16 Try.underlying22 hi hz0 hz1 hz2 rfl v2 _ rfl (unhide H2) (.string x) rfl rfl (by have := unhide hpl; unfold maxLen; omega) (by have := unhide hpl; omega) hb2 ?_; intro v' w' ho' hG; have hV2 := ((unhide HV).alloc (.cells #[.string x] 9)).grown hG (unhide off1); have hR2 := ((unhide HR).alloc (.cells #[.string x] 9)).grown hG (unhide off0); have hB2 := (hB.alloc hbw (.cells #[.string x] 9)).grown hG (by simp; omega) (fun j hj => Nat.le_trans (unhide HB2).1 ((unhide H2).lt j hj).1); have ho1 := hide (((unhide H1).alloc (.cells #[.string x] 9)).grown hG (fun j hj e => unhide ap j hj e)); have hsz2 := hG.size; obtain ⟨a', c', rfl⟩ := ho'.shape; generalize ((ptK F k).map sv ++ [Value.string x]).length = n at *; have c2 := hV2.cell 2 (v := v2) rfl; have f2 := hV2.frozen 2)
            have hP2 : (ptK F k).map sv ++ [.string x] = (ptK F (k + 1)).map sv := by rw [unhide HP, List.map_append]; rfl
            rw [hP2] at ho'
            have o9 := hide (ho'.setO (w.heap.size + 1) 2 (.slice a' n c') (hV2.off ho' (by decide)))
            have o8 := hide ((unhide ho1).setO (w.heap.size + 1) 2 (.slice a' n c') (hV2.off (unhide ho1) (by decide)))
            have V9 := hide (hV2.set 2 (.slice a' n c'))
            have R9 := hide (hR2.set_other (h := w.heap.size + 1) (k := 2) (by omega) (.slice a' n c'))
            have B9 := hB2.setCell (p := ⟨w.heap.size + 1, 2, none⟩) (by simp) (.slice a' n c')
            have hs9 : base2 ≤ (w'.setCell ⟨w.heap.size + 1, 2, none⟩ (.slice a' n c')).heap.size := by simp at hsz2 ⊢; omega
            exact ⟨⟨k + 1, base2, v1, .slice a' n c', by omega, by rw [unhide hkk], R9, V9, hide (by rw [unhide HQ]; exact unhide o8), o9, hide ⟨(unhide HB2).1, hs9, (unhide HB2).2.2⟩, hide (fun h => absurd h (by omega)), B9⟩, by simp [intOf]; have := unhide hkk; omega⟩
        · have hk' : ¬ (k : Int) < 12 := by omega
          obtain rfl : k = 12 := by omega
          have s1 := (unhide H1).shape
          have s2 := (unhide H2).shape
          obtain ⟨a1, c1, rfl⟩ := s1
          obtain ⟨a2, c2, rfl⟩ := s2
          generalize ((onK F 12).map sv).length = n1 at *
          generalize ((ptK F 12).map sv).length = n2 at *
          have of1 := hide ((unhide HR).off (unhide H1) (by decide))
          have of2 := hide ((unhide HR).off (unhide H2) (by decide))
          have p0 := (unhide HV).cell 0 (v := .int .i64 (b : Int)) rfl
          have p1 := (unhide HV).cell 1 (v := .slice a1 n1 c1) rfl
          have p2 := (unhide HV).cell 2 (v := .slice a2 n2 c2) rfl
          have r0 := (unhide HR).cell 0 (v := .int .i64 0) rfl
          have r1 := (unhide HR).cell 1 (v := .slice none 0 0) rfl
          have r2 := (unhide HR).cell 2 (v := .slice none 0 0) rfl
          have g0 := (unhide HR).frozen 0
          have g1 := (unhide HR).frozen 1
          have g2 := (unhide HR).frozen 2
          have ap := hide (show ∀ j, (Value.slice a1 n1 c1).ownBlock = some j → (Value.slice a2 n2 c2).ownBlock ≠ some j from fun j hj hj2 => by
            have h1 := (unhide HB2).2.2 j hj
            have h2 := ((unhide H2).lt j hj2).1
            omega)
          clear HS2
          go_wp2
          have hF := hide ((((unhide HR).set 0 (.int .i64 (b : Int))).set 1 (.slice a1 n1 c1)).set 2 (.slice a2 n2 c2))
          have hBF := hide (((hB.setCell (p := ⟨w.heap.size, 0, none⟩) (Nat.le_refl _) (.int .i64 (b : Int))).setCell (p := ⟨w.heap.size, 1, none⟩) (Nat.le_refl _) (.slice a1 n1 c1)).setCell (p := ⟨w.heap.size, 2, none⟩) (Nat.le_refl _) (.slice a2 n2 c2))
          have o6 := hide ((((unhide H1).setO w.heap.size 0 (.int .i64 (b : Int)) (unhide of1)).setO w.heap.size 1 (.slice a1 n1 c1) (unhide of1)).setO w.heap.size 2 (.slice a2 n2 c2) (unhide of1))
          have o7 := hide ((((unhide H2).setO w.heap.size 0 (.int .i64 (b : Int)) (unhide of2)).setO w.heap.size 1 (.slice a1 n1 c1) (unhide of2)).setO w.heap.size 2 (.slice a2 n2 c2) (unhide of2))
          exact bodyPost_ret (results_cb_tmp (by exact Try.results17) _ _ _ _ _ _ rfl (unhide hF) Try.underlying27 (by kernel_rfl)) rfl ⟨⟨_, rfl, _, _, rfl, unhide o6, (unhide o7).low (unhide HB2).1, unhide ap⟩, unhide hBF⟩
    · have hno : rdOk t = false := by
        cases e : rdOk t with
        | false => rfl
        | true => exact absurd (rdOk_in e).2 (by rw [← hb]; exact h4)
      have ER := hide (show rdS t = ⟨0, [], []⟩ by unfold rdS; rw [hno]; rfl)
      rw [unhide ER, hno]
      have h4' : (4 : Int) ≤ (b : Int) := by omega
      have h4d : decide ((4 : Int) ≤ (b : Int)) = true := decide_eq_true h4'
      replace hb := hide hb
      clear ER hno
      go_enter Try.func17, Try.ntmps17
      go_wp2
      obtain ⟨W, hW, hR, hB, hs1⟩ := one_cb w #[.int .i64 0, .slice none 0 0, .slice none 0 0] 27
      rw [hW]
      exact bodyPost_ret (results_cb_tmp (by exact Try.results17) _ _ _ _ _ _ rfl hR Try.underlying27 (by kernel_rfl)) rfl ⟨⟨_, rfl, _, _, rfl, OwnV.nil _ _ _, OwnV.nil _ _ _, fun k hk => by cases hk⟩, hB⟩
  · have hno : rdOk t = false := by
      cases e : rdOk t with
      | false => rfl
      | true => exact absurd (rdOk_in e).1 h49
    have ER := hide (show rdS t = ⟨0, [], []⟩ by unfold rdS; rw [hno]; rfl)
    rw [unhide ER, hno]
    have h49' : ¬ (t.size : Int) = 49 := by omega
    clear ER hno h49
    go_enter Try.func17, Try.ntmps17
    go_wp2
    obtain ⟨W, hW, hR, hB, hs1⟩ := one_cb w #[.int .i64 0, .slice none 0 0, .slice none 0 0] 27
    rw [hW]
    exact bodyPost_ret (results_cb_tmp (by exact Try.results17) _ _ _ _ _ _ rfl hR Try.underlying27 (by kernel_rfl)) rfl ⟨⟨_, rfl, _, _, rfl, OwnV.nil _ _ _, OwnV.nil _ _ _, fun k hk => by cases hk⟩, hB⟩
end Go.Proofs.Ytjgnjjphankhnab

/- Trees of trees by the given model: public texts, what is checked, indexes, over the loaded program. -/
namespace Go.Proofs.Ytjgnjjphankhnab
open Go.RowKit
set_option maxRecDepth 20000 in
set_option maxHeartbeats 400000 in
theorem specHyperPublic_any (s : ByteArray) (hs : s.size ≤ 1048576) (w : World) :
    Calls Try.prog 21 #[.string s] w fun e w' => e = .returned (.string (hpubO s)) ∧ Below w.heap.size w w' := by
  have C1 := hide (fun W => specPublicOf_any (topB s) (by unfold topB; rw [ByteArray.size_append]; show s.size + 1 ≤ _; omega) W)
  have HE := hide (show s ++ ⟨#[116]⟩ = topB s from rfl)
  have HP := hide (show pubO (topB s) = hpubO s from rfl)
  rw [unhide HP] at C1
  have h1 : ¬ 9223372036854775807 < s.size + 1 := by omega
  have h2 : s.size + 1 ≤ 9223372036854775807 := by omega
  rw [← unhide HE] at C1
  generalize hpubO s = p at *
  clear HP HE
  go_enter Try.func21, Try.ntmps21
  go_wp2_with fail
  refine (unhide C1 w).mono ?_
  rintro e w1 ⟨rfl, hb1⟩
  clear C1
  go_wp2
  go_ret
  exact ⟨rfl, hb1⟩
def shHy (h : Hy) : Prop := (h.top.once.length ≤ 2000000 ∧ h.top.path.length ≤ 2000000) ∧ h.low.once.length ≤ 2000000 ∧ h.low.path.length ≤ 2000000
end Go.Proofs.Ytjgnjjphankhnab

/- Trees of trees by the given model: signatures, over the loaded program. -/
namespace Go.Proofs.Ytjgnjjphankhnab
open Go.RowKit
end Go.Proofs.Ytjgnjjphankhnab

/- Trees of trees by the given model: texts, over the loaded program. -/
namespace Go.Proofs.Ytjgnjjphankhnab
open Go.RowKit
theorem cutH17 (T : ByteArray) (j : Nat) (w : World) (h2 : j ≤ T.size) : (Instr.slice 9 (.string T) none (some (.int .i64 (j : Int))) none).run Try.prog w = .ok (.string (T.extract 0 j)) w := by
  rw [run_slice_string_h w 9 T Try.underlying9 .i64 (j : Int) (by omega) (by omega)]
  rfl
theorem cutL17 (T : ByteArray) (j : Nat) (w : World) (h2 : j ≤ T.size) : (Instr.slice 9 (.string T) (some (.int .i64 (j : Int))) none none).run Try.prog w = .ok (.string (T.extract j T.size)) w := by
  rw [run_slice_string_l w 9 T Try.underlying9 .i64 (j : Int) (by omega) (by omega)]
  rfl
theorem CB.drewn {w : World} {g : Nat} {T : TypeId} {cs : Array Value} (h : CB w g T cs) : CB w.drew g T cs := h
end Go.Proofs.Ytjgnjjphankhnab

/- The laws on signatures of trees of trees, walked over the loaded program; what the project's functions answer are premises. -/
namespace Go.Proofs.Ytjgnjjphankhnab
open Go.RowKit
theorem OwnHy.open {w : World} {base : Nat} {v : Value} {h : Hy} (ho : OwnHy w base v h) : ∃ a1 n1 c1 a2 n2 c2 a3 n3 c3 a4 n4 c4, v = .agg #[.int .i64 h.top.leaf, .slice a1 n1 c1, .slice a2 n2 c2, .string h.root, .int .i64 h.low.leaf, .slice a3 n3 c3, .slice a4 n4 c4] := ho.rd.open
def lnHy (h : Hy) (n : Nat) : Prop := (h.top.once.length ≤ n ∧ h.top.path.length ≤ n) ∧ h.low.once.length ≤ n ∧ h.low.path.length ≤ n
theorem lnHy.mono {h : Hy} {n m : Nat} (hl : lnHy h n) (hm : n ≤ m) : lnHy h m := by
  unfold lnHy at *
  omega
theorem sgn_len (s : ByteArray) (leaf : Int) (m : ByteArray) : (sgnS s leaf m).once.length ≤ 10 ∧ (sgnS s leaf m).path.length ≤ 10 := by
  unfold sgnS
  split
  next h => exact ⟨Nat.le_of_eq (onceS_len _ _ _ (keysO_len _ _)), by have : (pathL (lvsO s) leaf).length = 2 := pathL_len _ _ (lvsO_len _) h; show (pathL (lvsO s) leaf).length ≤ 10; omega⟩
  · exact ⟨Nat.zero_le _, Nat.zero_le _⟩
theorem rd_len (t : ByteArray) : (rdS t).once.length ≤ 10 ∧ (rdS t).path.length ≤ 10 := by
  unfold rdS
  split
  · exact ⟨by show ((List.range 10).map _).length ≤ 10; rw [List.length_map, List.length_range]; exact Nat.le_refl _, by show ((List.range 2).map _).length ≤ 10; rw [List.length_map, List.length_range]; omega⟩
  · exact ⟨Nat.zero_le _, Nat.zero_le _⟩
theorem hsgn_len (s : ByteArray) (i : Int) (m : ByteArray) : lnHy (hsgnS s i m) 10 := by
  unfold hsgnS
  split
  · exact ⟨sgn_len _ _ _, sgn_len _ _ _⟩
  · exact ⟨⟨Nat.zero_le _, Nat.zero_le _⟩, Nat.zero_le _, Nat.zero_le _⟩
theorem hrd_len (t : ByteArray) : lnHy (hrdS t) 10 := by
  unfold hrdS
  split
  · exact ⟨rd_len _, rd_len _⟩
  · exact ⟨⟨Nat.zero_le _, Nat.zero_le _⟩, Nat.zero_le _, Nat.zero_le _⟩
set_option maxRecDepth 20000 in
set_option maxHeartbeats 800000 in
theorem lawHyperPublic_any (s : ByteArray) (CI : s.size ≤ 1048576 → ∀ W : World, Calls Try.prog 22 #[.string s] W fun e w' => e = .returned (.string (hpubO s)) ∧ Below W.heap.size W w') (w : World) :
    Calls Try.prog 7 #[.string s] w fun x w' => x = .returned (.bool true) ∧ Below w.heap.size w w' := by
  by_cases h1 : (1048576 : Int) < (s.size : Int)
  · go_enter Try.func7, Try.ntmps7
    go_wp2
    go_ret
    exact ⟨rfl, Below.refl _ _⟩
  have CS := hide (fun W => specHyperPublic_any s (by omega) W)
  replace CI := hide (CI (by omega))
  generalize hpubO s = p at *
  go_enter Try.func7, Try.ntmps7
  go_wp2_with fail
  refine (unhide CS w).mono ?_
  rintro e w1 ⟨rfl, hb1⟩
  clear CS
  go_wp2_with fail
  refine (unhide CI w1).mono ?_
  rintro e w2 ⟨rfl, hb2⟩
  have T := hb1.trans (hb2.mono hb1.size)
  clear CI hb1 hb2
  go_wp2
  go_ret
  exact ⟨rfl, T⟩
end Go.Proofs.Ytjgnjjphankhnab

