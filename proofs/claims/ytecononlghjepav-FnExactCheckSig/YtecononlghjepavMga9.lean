/- Merged: LawSg2, ArgSig, Dpt, ChI1, ChI2. -/
import Derived.Test.YtecononlghjepavMga1
import Derived.Test.YtecononlghjepavMga2
import Derived.Test.YtecononlghjepavMga3
import Derived.Test.YtecononlghjepavMga4
import Derived.Test.YtecononlghjepavMga5
import Derived.Test.YtecononlghjepavMga6
import Derived.Test.YtecononlghjepavMga7
import Derived.Test.YtecononlghjepavMga8
import Derived.Deep.RegionHeld3
import Derived.Below
import Derived.Carry
import Derived.WalkKit
import Derived.WideShapes
import Derived.Deep.Strs
/- The laws FnExactPublicOf, FnExactSigOk, FnExactCheckSig, FnExactSigText, walked over the loaded program; what the project's functions answer are premises. -/
namespace Go.Proofs.Ytecononlghjepav
open Go.RowKit
theorem RdSg.open {w : World} {v : Value} {s : Sg} (h : RdSg w v s) : ∃ a1 n1 c1 a2 n2 c2, v = .agg #[.int .i64 s.leaf, .slice a1 n1 c1, .slice a2 n2 c2] := by
  obtain ⟨v1, v2, rfl, h1, h2, -⟩ := h
  obtain ⟨a1, c1, rfl⟩ := h1.shape
  obtain ⟨a2, c2, rfl⟩ := h2.shape
  exact ⟨_, _, _, _, _, _, rfl⟩
/-- What is asked of a signature's texts, that they may be reckoned with. -/
def okSg (s : Sg) : Prop := (∀ x ∈ s.once, x.size ≤ maxLen) ∧ (∀ x ∈ s.path, x.size ≤ maxLen) ∧ s.once.length ≤ maxLen ∧ s.path.length ≤ maxLen
theorem szSig_sg (s : Sg) (v : Value) (w : World) (hr : RdSg w v s) (hk : okSg s) :
    Calls Try.prog 25 #[v, .int .i64 1048576] w fun e w' => (∃ z : Int, e = .returned (.int .i64 z) ∧ (z < 0 ∨ (0 ≤ z ∧ s.once.length + sumS s.once + s.path.length + sumS s.path ≤ 1048576))) ∧ Below w.heap.size w w' := by
  obtain ⟨v1, v2, rfl, r1, r2, -⟩ := hr
  exact szSig_any s.leaf s.once s.path v1 v2 w r1 r2 hk.1 hk.2.1 hk.2.2.1 hk.2.2.2
set_option maxRecDepth 20000 in
set_option maxHeartbeats 800000 in
theorem lawPublicOf_any (s : ByteArray) (CI : s.size ≤ 1048576 → ∀ W : World, Calls Try.prog 19 #[.string s] W fun e w' => e = .returned (.string (pubO s)) ∧ Below W.heap.size W w') (w : World) :
    Calls Try.prog 5 #[.string s] w fun x w' => x = .returned (.bool true) ∧ Below w.heap.size w w' := by
  by_cases h1 : (1048576 : Int) < (s.size : Int)
  · go_enter Try.func5, Try.ntmps5
    go_wp2
    go_ret
    exact ⟨rfl, Below.refl _ _⟩
  have CS := hide (fun W => specPublicOf_any s (by omega) W)
  replace CI := hide (CI (by omega))
  generalize pubO s = p at *
  go_enter Try.func5, Try.ntmps5
  go_wp2_with fail
  refine (unhide CS w).mono ?_
  rintro e w1 ⟨rfl, hb1⟩
  clear CS
  go_wp2_with fail
  refine (unhide CI w1).mono ?_
  rintro e w2 ⟨rfl, hb2⟩
  have T := hb1.trans (hb2.mono hb1.size)
  clear CI hb1 hb2
  go_wp2
  go_ret
  exact ⟨rfl, T⟩
set_option maxRecDepth 20000 in
set_option maxHeartbeats 1600000 in
theorem lawSigOk_any (s : Sg) (va : Value) (hk : okSg s) (CI : s.once.length ≤ 1048576 → s.path.length ≤ 1048576 → ∀ (W : World) (v : Value), RdSg W v s → Calls Try.prog 28 #[v] W fun e w' => e = .returned (.bool (sgOk s)) ∧ Below W.heap.size W w') (w : World) (hr : RdSg w va s) :
    Calls Try.prog 7 #[va] w fun x w' => x = .returned (.bool true) ∧ Below w.heap.size w w' := by
  have CZ := hide (fun (W : World) (h : Below w.heap.size w W) => szSig_sg s va W (hr.below h) hk)
  have HR := hide hr
  obtain ⟨a1, n1, c1, a2, n2, c2, rfl⟩ := hr.open
  clear hr
  replace CI := hide CI
  go_enter Try.func7, Try.ntmps7
  go_wp2_with fail
  obtain ⟨W, hW, P1, hB, hs1⟩ := one_cb w #[.int .i64 s.leaf, .slice a1 n1 c1, .slice a2 n2 c2] 39
  rw [hW]
  clear hW
  refine (unhide CZ W hB).mono ?_
  rintro e w1 ⟨⟨z, rfl, hz⟩, hb1⟩
  have T1 := hB.trans (hb1.mono hB.size)
  have P1a := P1.step hb1
  clear CZ hb1 P1 hB
  rcases hz with hz | ⟨hz0, hz⟩
  · clear CI HR hk P1a
    go_wp2
    go_ret
    exact ⟨rfl, T1⟩
  have hz' : ¬ z < 0 := by omega
  have L1 : s.once.length ≤ 1048576 := by omega
  have L2 : s.path.length ≤ 1048576 := by omega
  have CT := hide (fun (W : World) (h : Below w.heap.size w W) => toSig_any s _ W ((unhide HR).below h) L1 L2)
  have CE := hide (fun (W : World) (v u : Value) (hv : RdSg W v s) (hu : RdSg W u s) => eqSig_any s v u W hv hu (by omega) (by omega))
  have CS := hide (fun (W : World) (v : Value) (hv : RdSg W v s) => specSigOk_any s v W hv (by omega) (by omega))
  replace CI := hide (unhide CI L1 L2)
  generalize sgOk s = R at *
  have p0 := P1a.cell 0 (v := .int .i64 s.leaf) rfl
  have p1 := P1a.cell 1 (v := .slice a1 n1 c1) rfl
  have p2 := P1a.cell 2 (v := .slice a2 n2 c2) rfl
  clear hz HR hk
  go_wp2_with fail
  refine (unhide CT w1 T1).mono ?_
  rintro e w2 ⟨⟨u2, rfl, o2⟩, hb2⟩
  have T2 := T1.trans (hb2.mono T1.size)
  have P1b := P1a.step hb2
  clear hb2 T1 P1a p0 p1 p2
  go_wp2_with fail
  refine (unhide CS w2 u2 o2.rd).mono ?_
  rintro e w3 ⟨rfl, hb3⟩
  have T3 := T2.trans (hb3.mono T2.size)
  have P1c := P1b.step hb3
  have p0 := P1c.cell 0 (v := .int .i64 s.leaf) rfl
  have p1 := P1c.cell 1 (v := .slice a1 n1 c1) rfl
  have p2 := P1c.cell 2 (v := .slice a2 n2 c2) rfl
  clear hb3 T2 P1b CS o2
  go_wp2_with fail
  refine (unhide CT w3 T3).mono ?_
  rintro e w4 ⟨⟨u4, rfl, o4⟩, hb4⟩
  have T4 := T3.trans (hb4.mono T3.size)
  have P1d := P1c.step hb4
  obtain ⟨a3, n3, c3, a4, n4, c4, rfl⟩ := o4.open
  replace o4 := hide o4
  clear hb4 T3 P1c p0 p1 p2
  go_wp2_with fail
  obtain ⟨W4, hW, P5, hB4, hs4⟩ := one_cb w4 #[.int .i64 s.leaf, .slice a3 n3 c3, .slice a4 n4 c4] 33
  rw [hW]
  clear hW
  have T5 := T4.trans (hB4.mono T4.size)
  have P1e := P1d.step hB4
  have o5 := hide ((unhide o4).below hB4)
  clear hB4 o4 P1d T4
  refine (unhide CI W4 _ (unhide o5).rd).mono ?_
  rintro e w6 ⟨rfl, hb6⟩
  have T6 := T5.trans (hb6.mono T5.size)
  have P1f := P1e.step hb6
  have P5f := P5.step hb6
  have o6 := hide ((unhide o5).below hb6)
  clear hb6 T5 P1e P5 o5 CI
  go_wp2_with fail
  have KS := hide (fun (W' : World) (h : Below w6.heap.size w6 W') => (show (W'.cell? ⟨w4.heap.size, 0, none⟩ = some (.int .i64 s.leaf) ∧ W'.cell? ⟨w4.heap.size, 1, none⟩ = some (.slice a3 n3 c3) ∧ W'.cell? ⟨w4.heap.size, 2, none⟩ = some (.slice a4 n4 c4)) ∧ (W'.cell? ⟨w.heap.size, 0, none⟩ = some (.int .i64 s.leaf) ∧ W'.cell? ⟨w.heap.size, 1, none⟩ = some (.slice a1 n1 c1) ∧ W'.cell? ⟨w.heap.size, 2, none⟩ = some (.slice a2 n2 c2)) from ⟨⟨(P5f.step h).cell 0 rfl, (P5f.step h).cell 1 rfl, (P5f.step h).cell 2 rfl⟩, (P1f.step h).cell 0 rfl, (P1f.step h).cell 1 rfl, (P1f.step h).cell 2 rfl⟩))
  have CT' := hide (fun (W' : World) (h : Below w6.heap.size w6 W') => unhide CT W' (T6.trans (h.mono T6.size)))
  have HT0 := (Below.refl w6.heap.size w6).drew
  have CE' := hide (fun (W' : World) (h : Below w6.heap.size w6 W') (u : Value) (hu : RdSg W' u s) => unhide CE W' _ u ((unhide o6).rd.below h) hu)
  clear P1f P5f CT CE o6
  go_region_held3 (fun W => (W.cell? ⟨w4.heap.size, 0, none⟩ = some (.int .i64 s.leaf) ∧ W.cell? ⟨w4.heap.size, 1, none⟩ = some (.slice a3 n3 c3) ∧ W.cell? ⟨w4.heap.size, 2, none⟩ = some (.slice a4 n4 c4)) ∧ (W.cell? ⟨w.heap.size, 0, none⟩ = some (.int .i64 s.leaf) ∧ W.cell? ⟨w.heap.size, 1, none⟩ = some (.slice a1 n1 c1) ∧ W.cell? ⟨w.heap.size, 2, none⟩ = some (.slice a2 n2 c2))) (first | exact unhide KS _ HT0 | exact unhide KS _ hT1 | exact unhide KS _ hT2 | fail) (first
    | (go_at_call 27; refine (unhide CT' _ HT0).mono ?_; rintro e w7 ⟨⟨u7, rfl, o7⟩, hb7⟩; have hT1 := HT0.trans (hb7.mono HT0.size); clear hb7)
    | (go_at_call 22; refine (unhide CE' _ hT1 _ o7.rd).mono ?_; rintro e w8 ⟨rfl, hb8⟩; have hT2 := hT1.trans (hb8.mono hT1.size); clear hb8))
  all_goals
    have TF := T6.trans (hT2.mono T6.size)
    clear KS CT' CE' HT0 hT1 hT2 T6
    go_wp2
    go_ret
    exact ⟨rfl, TF⟩
set_option maxRecDepth 20000 in
set_option maxHeartbeats 1600000 in
theorem lawCheckSig_any (p m : ByteArray) (s : Sg) (va : Value) (hk : okSg s) (CI : p.size ≤ 1048576 → m.size ≤ 1048576 → s.once.length ≤ 1048576 → s.path.length ≤ 1048576 → ∀ (W : World) (v : Value), RdSg W v s → Calls Try.prog 30 #[.string p, .string m, v] W fun e w' => e = .returned (.bool (chkB p m s)) ∧ Below W.heap.size W w') (w : World) (hr : RdSg w va s) :
    Calls Try.prog 8 #[.string p, .string m, va] w fun x w' => x = .returned (.bool true) ∧ Below w.heap.size w w' := by
  have CZ := hide (fun (W : World) (h : Below w.heap.size w W) => szSig_sg s va W (hr.below h) hk)
  have HR := hide hr
  obtain ⟨a1, n1, c1, a2, n2, c2, rfl⟩ := hr.open
  clear hr
  by_cases h1 : (1048576 : Int) < (p.size : Int)
  · clear CZ CI HR hk
    go_enter Try.func8, Try.ntmps8
    go_wp2
    go_ret
    exact ⟨rfl, (Below.refl _ _).alloc (Nat.le_refl _) _⟩
  by_cases h2 : (1048576 : Int) < (m.size : Int)
  · clear CZ CI HR hk
    go_enter Try.func8, Try.ntmps8
    go_wp2
    go_ret
    exact ⟨rfl, (Below.refl _ _).alloc (Nat.le_refl _) _⟩
  replace CI := hide (CI (by omega) (by omega))
  go_enter Try.func8, Try.ntmps8
  go_wp2_with fail
  obtain ⟨W, hW, P1, hB, hs1⟩ := one_cb w #[.int .i64 s.leaf, .slice a1 n1 c1, .slice a2 n2 c2] 39
  rw [hW]
  clear hW
  refine (unhide CZ W hB).mono ?_
  rintro e w1 ⟨⟨z, rfl, hz⟩, hb1⟩
  have T1 := hB.trans (hb1.mono hB.size)
  have P1a := P1.step hb1
  clear CZ hb1 P1 hB
  rcases hz with hz | ⟨hz0, hz⟩
  · clear CI HR hk P1a
    go_wp2
    go_ret
    exact ⟨rfl, T1⟩
  have hz' : ¬ z < 0 := by omega
  have L1 : s.once.length ≤ 1048576 := by omega
  have L2 : s.path.length ≤ 1048576 := by omega
  have CT := hide (fun (W : World) (h : Below w.heap.size w W) => toSig_any s _ W ((unhide HR).below h) L1 L2)
  have CE := hide (fun (W : World) (v u : Value) (hv : RdSg W v s) (hu : RdSg W u s) => eqSig_any s v u W hv hu (by omega) (by omega))
  have CS := hide (fun (W : World) (v : Value) (hv : RdSg W v s) => specCheckSig_any p m s v W hv (by omega) (by omega) (by omega))
  replace CI := hide (unhide CI L1 L2)
  generalize chkB p m s = R at *
  have p0 := P1a.cell 0 (v := .int .i64 s.leaf) rfl
  have p1 := P1a.cell 1 (v := .slice a1 n1 c1) rfl
  have p2 := P1a.cell 2 (v := .slice a2 n2 c2) rfl
  clear hz HR hk
  go_wp2_with fail
  refine (unhide CT w1 T1).mono ?_
  rintro e w2 ⟨⟨u2, rfl, o2⟩, hb2⟩
  have T2 := T1.trans (hb2.mono T1.size)
  have P1b := P1a.step hb2
  clear hb2 T1 P1a p0 p1 p2
  go_wp2_with fail
  refine (unhide CS w2 u2 o2.rd).mono ?_
  rintro e w3 ⟨rfl, hb3⟩
  have T3 := T2.trans (hb3.mono T2.size)
  have P1c := P1b.step hb3
  have p0 := P1c.cell 0 (v := .int .i64 s.leaf) rfl
  have p1 := P1c.cell 1 (v := .slice a1 n1 c1) rfl
  have p2 := P1c.cell 2 (v := .slice a2 n2 c2) rfl
  clear hb3 T2 P1b CS o2
  go_wp2_with fail
  refine (unhide CT w3 T3).mono ?_
  rintro e w4 ⟨⟨u4, rfl, o4⟩, hb4⟩
  have T4 := T3.trans (hb4.mono T3.size)
  have P1d := P1c.step hb4
  obtain ⟨a3, n3, c3, a4, n4, c4, rfl⟩ := o4.open
  replace o4 := hide o4
  clear hb4 T3 P1c p0 p1 p2
  go_wp2_with fail
  obtain ⟨W4, hW, P5, hB4, hs4⟩ := one_cb w4 #[.int .i64 s.leaf, .slice a3 n3 c3, .slice a4 n4 c4] 33
  rw [hW]
  clear hW
  have T5 := T4.trans (hB4.mono T4.size)
  have P1e := P1d.step hB4
  have o5 := hide ((unhide o4).below hB4)
  clear hB4 o4 P1d T4
  refine (unhide CI W4 _ (unhide o5).rd).mono ?_
  rintro e w6 ⟨rfl, hb6⟩
  have T6 := T5.trans (hb6.mono T5.size)
  have P1f := P1e.step hb6
  have P5f := P5.step hb6
  have o6 := hide ((unhide o5).below hb6)
  clear hb6 T5 P1e P5 o5 CI
  go_wp2_with fail
  have KS := hide (fun (W' : World) (h : Below w6.heap.size w6 W') => (show (W'.cell? ⟨w4.heap.size, 0, none⟩ = some (.int .i64 s.leaf) ∧ W'.cell? ⟨w4.heap.size, 1, none⟩ = some (.slice a3 n3 c3) ∧ W'.cell? ⟨w4.heap.size, 2, none⟩ = some (.slice a4 n4 c4)) ∧ (W'.cell? ⟨w.heap.size, 0, none⟩ = some (.int .i64 s.leaf) ∧ W'.cell? ⟨w.heap.size, 1, none⟩ = some (.slice a1 n1 c1) ∧ W'.cell? ⟨w.heap.size, 2, none⟩ = some (.slice a2 n2 c2)) from ⟨⟨(P5f.step h).cell 0 rfl, (P5f.step h).cell 1 rfl, (P5f.step h).cell 2 rfl⟩, (P1f.step h).cell 0 rfl, (P1f.step h).cell 1 rfl, (P1f.step h).cell 2 rfl⟩))
  have CT' := hide (fun (W' : World) (h : Below w6.heap.size w6 W') => unhide CT W' (T6.trans (h.mono T6.size)))
  have HT0 := (Below.refl w6.heap.size w6).drew
  have CE' := hide (fun (W' : World) (h : Below w6.heap.size w6 W') (u : Value) (hu : RdSg W' u s) => unhide CE W' _ u ((unhide o6).rd.below h) hu)
  clear P1f P5f CT CE o6
  go_region_held3 (fun W => (W.cell? ⟨w4.heap.size, 0, none⟩ = some (.int .i64 s.leaf) ∧ W.cell? ⟨w4.heap.size, 1, none⟩ = some (.slice a3 n3 c3) ∧ W.cell? ⟨w4.heap.size, 2, none⟩ = some (.slice a4 n4 c4)) ∧ (W.cell? ⟨w.heap.size, 0, none⟩ = some (.int .i64 s.leaf) ∧ W.cell? ⟨w.heap.size, 1, none⟩ = some (.slice a1 n1 c1) ∧ W.cell? ⟨w.heap.size, 2, none⟩ = some (.slice a2 n2 c2))) (first | exact unhide KS _ HT0 | exact unhide KS _ hT1 | exact unhide KS _ hT2 | fail) (first
    | (go_at_call 27; refine (unhide CT' _ HT0).mono ?_; rintro e w7 ⟨⟨u7, rfl, o7⟩, hb7⟩; have hT1 := HT0.trans (hb7.mono HT0.size); clear hb7)
    | (go_at_call 22; refine (unhide CE' _ hT1 _ o7.rd).mono ?_; rintro e w8 ⟨rfl, hb8⟩; have hT2 := hT1.trans (hb8.mono hT1.size); clear hb8))
  all_goals
    have TF := T6.trans (hT2.mono T6.size)
    clear KS CT' CE' HT0 hT1 hT2 T6
    go_wp2
    go_ret
    exact ⟨rfl, TF⟩
end Go.Proofs.Ytecononlghjepav

/- A signature that comes in as an argument. -/
namespace Go.Proofs.Ytecononlghjepav
open Go.ChangeShapes Go.WideShapes Go.ChangeAt Go.RowKit Go.WideElems
theorem three_ofS {α : Type} {l : List α} (h : l.length = 3) : ∃ a b c, l = [a, b, c] := by
  match l, h with
  | [a, b, c], _ => exact ⟨a, b, c, rfl⟩
theorem texts_cells {H : Type} {enc : TypeId × Value → H} {W : World} {fuel : Nat} {u : Value} {y : DataW H × List MemPlace} (hf : DataW.trod enc Try.prog W 0 (fun _ => true) true fuel 22 [u] = some y) :
    ∃ ss : List ByteArray, RdV W u (ss.map sv) ∧ (∀ x ∈ ss, x.size ≤ maxLen) ∧ ss.length ≤ maxLen ∧ CapV u := by
  have hsh : ∃ o len cap, u = .slice o len cap ∧ len ≤ cap := by
    rcases open_strings Try.underlying22 Try.underlying9 (by kernel_rfl) hf with ⟨hcs, _⟩ | ⟨a, len', cap', _, hcs, _, hlc, _⟩
    · exact ⟨none, 0, 0, (List.cons.inj hcs).1, Nat.le_refl _⟩
    · exact ⟨some a, len', cap', (List.cons.inj hcs).1, hlc⟩
  obtain ⟨o, len, cap, rfl, hlc⟩ := hsh
  obtain ⟨d, ps⟩ := y
  obtain ⟨ss, h1, h2, h3⟩ := open_texts_rd (d := d) (ps := ps) ⟨fuel, hf⟩
  exact ⟨ss, h1, h2, h3, capv_lit hlc⟩
set_option maxRecDepth 20000 in
theorem sig_cells {H : Type} {enc : TypeId × Value → H} {W : World} (n : Nat) (cs : List Value) (y : DataW H × List MemPlace) (h : DataW.trod enc Try.prog W 0 (fun _ => true) true n 39 cs = some y) :
    ∃ (s : Sg) (v1 v2 : Value), cs = [.int .i64 s.leaf, v1, v2] ∧ RdV W v1 (s.once.map sv) ∧ RdV W v2 (s.path.map sv) ∧ (CapV v1 ∧ CapV v2) ∧ okSg s := by
  obtain ⟨y0, y1, y2, k, _, hcl, g0, g1, g2⟩ := Go.Deep.trod_struct3 Try.underlying39 h
  have ce : Try.prog.cellsOf 39 = 3 := by kernel_rfl
  have c0 : Try.prog.cellsOf 3 = 1 := by kernel_rfl
  have c1 : Try.prog.cellsOf 22 = 1 := by kernel_rfl
  rw [ce] at hcl
  obtain ⟨v0, v1, v2, rfl⟩ := three_ofS hcl
  simp only [c0, c1, List.drop_zero, List.drop_succ_cons, List.take_succ_cons, List.take_zero] at g0 g1 g2
  obtain ⟨i0, e0, _, _⟩ := DataW.trod_int Try.underlying3 g0
  simp only [List.cons.injEq, and_true] at e0
  subst e0
  obtain ⟨s1, r1, b1, l1, q1⟩ := texts_cells g1
  obtain ⟨s2, r2, b2, l2, q2⟩ := texts_cells g2
  exact ⟨⟨i0, s1, s2⟩, v1, v2, rfl, r1, r2, ⟨q1, q2⟩, b1, b2, l1, l2⟩
set_option maxRecDepth 20000 in
theorem open_sig {H : Type} {enc : TypeId × Value → H} {W : World} {base : Nat} {v : Value} {d : DataW H} {ps : List MemPlace} (hv : Value.okWide Try.prog W .any base 39 v)
    (h : DataW.Trod enc Try.prog W 0 (fun _ => true) true 39 v d ps) : ∃ s : Sg, RdSg W v s ∧ okSg s := by
  obtain ⟨cs, rfl, hsz⟩ := okWide_struct Try.underlying39 hv
  obtain ⟨fuel, hf⟩ := h
  obtain ⟨s, v1, v2, hx, r1, r2, hq, hok⟩ := sig_cells _ _ _ hf
  refine ⟨s, ⟨v1, v2, ?_, r1, r2, hq⟩, hok⟩
  have : cs.toList = [.int .i64 s.leaf, v1, v2] := by simpa [Value.cells] using hx
  unfold sgv
  congr 1
  apply Array.toList_inj.1
  rw [this]
end Go.Proofs.Ytecononlghjepav

/- Parts put behind one another, and their digest, over the loaded program. -/
namespace Go.Proofs.Ytecononlghjepav
open Go.RowKit
theorem join_flat (xs : List (List UInt8)) : Lib.join xs [] = xs.flatten := by
  unfold Lib.join
  induction xs with
  | nil => rfl
  | cons x xs ih =>
    cases xs with
    | nil => simp [List.intercalate]
    | cons y ys =>
      have e : [].intercalate (x :: y :: ys) = x ++ ([] ++ [].intercalate (y :: ys)) := by simp [List.intercalate, List.intersperse]
      rw [e, ih]
      rfl
theorem barr_eq {a b : ByteArray} (h : a.data.toList = b.data.toList) : a = b := ByteArray.ext (Array.toList_inj.1 h)
set_option maxRecDepth 20000 in
set_option maxHeartbeats 400000 in
theorem digParts_any (bk o c n : Nat) (xs : List ByteArray) (hn : xs.length = n) (T : ByteArray) (hT : T.data.toList = (xs.map (·.data.toList)).flatten) (hTs : T.size ≤ 4000000) (w : World) (hcells : ∀ (j : Nat) x, xs[j]? = some x → w.cell? ⟨bk, o + j, none⟩ = some (.string x)) (hbk : bk < w.heap.size) (hcap : n ≤ c) (hN : n ≤ 1000) :
    Calls Try.prog 69 #[.slice (some ⟨bk, o, none⟩) n c] w fun e w' => e = .returned (.string (digB T)) ∧ Below w.heap.size w w' := by
  subst hn
  have hj : (⟨(Lib.join (xs.map (·.data.toList)) (⟨#[]⟩ : ByteArray).data.toList).toArray⟩ : ByteArray) = T := by
    apply barr_eq
    rw [hT]
    exact join_flat _
  have hz : (Lib.join (xs.map (·.data.toList)) (⟨#[]⟩ : ByteArray).data.toList).length ≤ 140737488355328 := by
    have e : (Lib.join (xs.map (·.data.toList)) (⟨#[]⟩ : ByteArray).data.toList) = T.data.toList := by rw [← hj]
    rw [e]
    show T.size ≤ _
    omega
  have CJ := hide (Try.strings_Join bk o c xs ⟨#[]⟩ w hcells hbk (by omega) hcap hz)
  rw [hj] at CJ
  have CD := hide (fun W => implDigest_any T hTs W)
  rw [show endV (blocksW first8 T 0 (T.size / 64)) (T.extract (64 * (T.size / 64)) T.size) T.size = digB T from rfl] at CD
  clear hz hj hT hcells
  generalize digB T = d at *
  go_enter Try.func69, Try.ntmps69
  go_wp2_with fail
  refine (unhide CJ).mono ?_
  rintro e w1 ⟨rfl, hb1⟩
  go_wp2_with fail
  refine ((unhide CD) w1).mono ?_
  rintro e w2 ⟨rfl, hb2⟩
  have hb12 := hb1.trans (hb2.mono hb1.size)
  clear hb1 hb2
  go_wp2
  go_ret
  exact ⟨rfl, hb12⟩
end Go.Proofs.Ytecononlghjepav

/- Chains by the project's own functions: bytes, what is chopped, a step, chains, over the loaded program. -/
namespace Go.Proofs.Ytecononlghjepav
open Go.RowKit
theorem below_grown14 {w w' : World} (hb : Below w.heap.size w w') (g : Nat) : w.grownBy w' (some g) := ⟨hb.os, hb.tape, hb.output, hb.size, fun k hk _ => hb.block k hk⟩
set_option maxRecDepth 20000 in
set_option maxHeartbeats 400000 in
theorem implByteY_any (z : Int) (w : World) :
    Calls Try.prog 57 #[.int .i64 z] w fun e w' => e = .returned (.string (oneY z)) ∧ Below w.heap.size w w' := by
  have hx := b256_lt z
  have E := hide (show oneY z = ⟨#[UInt8.ofNat (b256 z)]⟩ from rfl)
  rw [unhide E]
  have ew : IntKind.u8.wrap z = (b256 z : Int) := by rw [IntKind.wrap_u8]; unfold b256; omega
  have ew8 : z % 256 = (b256 z : Int) := by unfold b256; omega
  generalize b256 z = x at *
  have hcv := conv_oneY w x hx
  have hb : Below w.heap.size w (w.alloc (.cells #[.int .u8 (x : Int)] 5)) := (Below.refl w.heap.size w).alloc (Nat.le_refl _) _
  go_enter Try.func57, Try.ntmps57
  go_wp2
  go_ret
  exact ⟨rfl, hb⟩
set_option maxRecDepth 20000 in
set_option maxHeartbeats 400000 in
theorem chopParts_any (bk o c n : Nat) (xs : List ByteArray) (hn : xs.length = n) (T : ByteArray) (hT : T.data.toList = (xs.map (·.data.toList)).flatten) (hTs : T.size ≤ 4000000) (w : World) (hcells : ∀ (j : Nat) x, xs[j]? = some x → w.cell? ⟨bk, o + j, none⟩ = some (.string x)) (hbk : bk < w.heap.size) (hcap : n ≤ c) (hN : n ≤ 1000) :
    Calls Try.prog 56 #[.slice (some ⟨bk, o, none⟩) n c] w fun e w' => e = .returned (.string (chopB T)) ∧ Below w.heap.size w w' := by
  have C := hide (digParts_any bk o c n xs hn T hT hTs w hcells hbk hcap hN)
  have hz : (digB T).size = 32 := digB_size0 _
  have E := hide (show chopB T = (digB T).extract 0 4 from rfl)
  rw [unhide E]
  have hz' : (4 : Int) ≤ ((digB T).size : Int) := by omega
  generalize digB T = d at *
  replace hz := hide hz
  clear hcells hT
  go_enter Try.func56, Try.ntmps56
  go_wp2_with fail
  refine (unhide C).mono ?_
  rintro e w1 ⟨rfl, hb1⟩
  go_wp2
  go_ret
  exact ⟨rfl, hb1⟩
theorem row_texts (w : World) (xs : List ByteArray) (T : TypeId) : ∀ (j : Nat) x, xs[j]? = some x → (w.alloc (.cells (xs.map Value.string).toArray T)).cell? ⟨w.heap.size, 0 + j, none⟩ = some (.string x) := by
  intro j x hx
  rw [Nat.zero_add, cell_of_row _ w.heap.size j _ T (0, 0) (heap_alloc_new w _)]
  simp [hx]
theorem chop4_any (a b c d : ByteArray) (ha : a.size ≤ 2000000) (hb : b.size ≤ 1) (hc : c.size ≤ 1) (hd : d.size ≤ 1100000) (w : World) :
    Calls Try.prog 56 #[.slice (some ⟨w.heap.size, 0, none⟩) 4 4] (w.alloc (.cells #[.string a, .string b, .string c, .string d] 9)) fun e w' => e = .returned (.string (chopB (a ++ b ++ c ++ d))) ∧ Below w.heap.size w w' := by
  have h := chopParts_any w.heap.size 0 4 4 [a, b, c, d] rfl (a ++ b ++ c ++ d) (by simp [ByteArray.data_append, Array.toList_append]) (by rw [ByteArray.size_append, ByteArray.size_append, ByteArray.size_append]; omega) (w.alloc (.cells #[.string a, .string b, .string c, .string d] 9)) (row_texts w [a, b, c, d] 9) (by simp) (Nat.le_refl _) (by omega)
  refine h.mono ?_
  rintro e w1 ⟨rfl, hb1⟩
  exact ⟨rfl, ((Below.refl w.heap.size w).alloc (Nat.le_refl _) _).trans (hb1.mono (by simp))⟩
set_option maxRecDepth 20000 in
set_option maxHeartbeats 400000 in
theorem implChop_any (s : ByteArray) (hs : s.size ≤ 4000000) (w : World) :
    Calls Try.prog 73 #[.string s] w fun e w' => e = .returned (.string (chopB s)) ∧ Below w.heap.size w w' := by
  have C := hide (chopParts_any w.heap.size 0 1 1 [s] rfl s (by simp) hs (w.alloc (.cells #[.string s] 9)) (row_texts w [s] 9) (by simp) (Nat.le_refl _) (by omega))
  have hb0 : Below w.heap.size w (w.alloc (.cells #[.string s] 9)) := (Below.refl w.heap.size w).alloc (Nat.le_refl _) _
  generalize chopB s = d at *
  go_enter Try.func73, Try.ntmps73
  go_wp2_with fail
  refine (unhide C).mono ?_
  rintro e w1 ⟨rfl, hb1⟩
  have hb01 := hb0.trans (hb1.mono hb0.size)
  clear hb0 hb1 C
  go_wp2
  go_ret
  exact ⟨rfl, hb01⟩
abbrev plC (a b c : Int) : Array Value := #[.int .i64 a, .int .i64 b, .int .i64 c]
set_option maxRecDepth 20000 in
set_option maxHeartbeats 1000000 in
theorem chainStep_any (g : Nat) (a b c : Int) (x : ByteArray) (hx : x.size ≤ 1048576) (w : World) (hC : CB w g 114 (plC a b c)) :
    Calls Try.prog 95 #[.pointer (some ⟨g, 0, none⟩), .string x] w fun e w' => e = .returned (.string (chopB (oneY a ++ oneY b ++ oneY c ++ x))) ∧ CB w' g 114 (plC a b (IntKind.i64.wrap (c + 1))) ∧ w.grownBy w' (some g) := by
  obtain ⟨c', hc'⟩ : ∃ c', IntKind.i64.wrap (c + 1) = c' := ⟨_, rfl⟩
  have hc2 : wrap64 (c + 1) = c' := (IntWalk.i64_left (c + 1)).symm.trans hc'
  rw [hc']
  have hg := hC.lt
  have c0 := hC.cell 0 rfl
  have c1 := hC.cell 1 rfl
  have c2 := hC.cell 2 rfl
  have KS := hide (fun (W : World) (h : Below w.heap.size w W) => (⟨(h.cell (p := ⟨g, 0, none⟩) hg).trans c0, (h.cell (p := ⟨g, 1, none⟩) hg).trans c1, (h.cell (p := ⟨g, 2, none⟩) hg).trans c2⟩ : W.cell? ⟨g, 0, none⟩ = some (.int .i64 a) ∧ W.cell? ⟨g, 1, none⟩ = some (.int .i64 b) ∧ W.cell? ⟨g, 2, none⟩ = some (.int .i64 c)))
  have CY := hide (fun z W => implByteY_any z W)
  have CC := hide (fun W => chop4_any (oneY a) (oneY b) (oneY c) x (by rw [oneY_size]; omega) (by rw [oneY_size]; omega) (by rw [oneY_size]; omega) (by omega) W)
  generalize chopB (oneY a ++ oneY b ++ oneY c ++ x) = q at *
  obtain ⟨Y, hY⟩ : ∃ Y : Int → ByteArray, Y = oneY := ⟨_, rfl⟩
  rw [← hY] at CY CC
  clear hY
  have HC := hide hC
  clear hC
  go_enter Try.func95, Try.ntmps95
  go_wp2
  go_region_held3 (fun W => W.cell? ⟨g, 0, none⟩ = some (.int .i64 a) ∧ W.cell? ⟨g, 1, none⟩ = some (.int .i64 b) ∧ W.cell? ⟨g, 2, none⟩ = some (.int .i64 c)) (first | exact ⟨c0, c1, c2⟩ | exact (unhide KS) _ hB4 | exact (unhide KS) _ hB3 | exact (unhide KS) _ hB2 | exact (unhide KS) _ hB1 | exact (unhide KS) _ (hB3.alloc (by have := hB3.size; omega) _) | fail) (first
    | (go_at_call 57; have hB2' := hB2; refine ((unhide CY) _ _).mono ?_; rintro e w3 ⟨rfl, hb3⟩; have hB3 : Below w.heap.size w w3 := hB2.trans (hb3.mono hB2.size))
    | (go_at_call 57; have hB1' := hB1; refine ((unhide CY) _ _).mono ?_; rintro e w2 ⟨rfl, hb2⟩; have hB2 : Below w.heap.size w w2 := hB1.trans (hb2.mono hB1.size))
    | (go_at_call 57; refine ((unhide CY) _ _).mono ?_; rintro e w1 ⟨rfl, hb1⟩; have hB1 : Below w.heap.size w w1 := (Below.refl _ w).drew.trans hb1)
    | (go_at_call 56; refine ((unhide CC) _).mono ?_; rintro e w4 ⟨rfl, hb4⟩; have hB4 : Below w.heap.size w w4 := hB3.trans (hb4.mono hB3.size))
    | fail)
  all_goals
    obtain ⟨d0, d1, d2⟩ := (unhide KS) _ hB4
    have HC4 := (unhide HC).below hB4 hg
    have f2 := HC4.frozen 2
    have HC5 := hide (HC4.set 2 (.int .i64 c'))
    have G5 := hide (grownBy_trans (below_grown14 hB4 g) (tS0 w4 g 2 (.int .i64 c')))
    clear hb1 hb2 hb3 hb4 hB1 hB2 hB3 hB4 KS c0 c1 c2 HC HC4 CY CC
    go_wp2
    go_ret
    exact ⟨rfl, unhide HC5, unhide G5⟩
/-- Where a chain stands behind k steps. -/
def frK (c : Int) : Nat → Int
  | 0 => c
  | k + 1 => IntKind.i64.wrap (frK c k + 1)
theorem frK_mod (c : Int) (k : Nat) : (frK c k) % 256 = (c.tmod 256 + (k : Int)) % 256 := by
  induction k with
  | zero =>
    show c % 256 = _
    have e := @Int.tmod_eq_emod c 256
    split at e
    · rw [e]; omega
    · have e2 : c.tmod 256 = c % 256 - 256 := e
      rw [e2]; omega
  | succ k ih =>
    show (IntKind.i64.wrap (frK c k + 1)) % 256 = _
    rw [IntKind.wrap_i64]
    generalize c.tmod 256 = r at *
    generalize frK c k = f at *
    omega
theorem frK_one (c : Int) (k : Nat) : oneY (frK c k) = oneY (c.tmod 256 + (k : Int)) := by
  unfold oneY b256
  rw [frK_mod]
set_option maxRecDepth 20000 in
set_option maxHeartbeats 1000000 in
theorem repeated_any (g : Nat) (a b c d : Int) (x : ByteArray) (hx : x.size ≤ 1048576) (hd : d ≤ 15) (w : World) (hC : CB w g 114 (plC a b c)) :
    Calls Try.prog 94 #[.func (Fn.func 95) #[.pointer (some ⟨g, 0, none⟩)] #[], .string x, .int .i64 d] w fun e w' => e = .returned (.string (chnB x a b c d.toNat)) ∧ w.grownBy w' (some g) := by
  have HN := hide (show ∀ k, chopB (oneY a ++ oneY b ++ oneY (frK c k) ++ chnB x a b c k) = chnB x a b c (k + 1) from fun k => by rw [frK_one]; rfl)
  have HS := hide (fun k => chnB_size x a b c k hx)
  have H0 := hide (show chnB x a b c 0 = x from rfl)
  have HF0 := hide (show frK c 0 = c from rfl)
  have HFn := hide (show ∀ k, IntKind.i64.wrap (frK c k + 1) = frK c (k + 1) from fun k => rfl)
  have CSt := hide (fun (k : Nat) (W : World) (h : CB W g 114 (plC a b (frK c k))) => chainStep_any g a b (frK c k) (chnB x a b c k) (unhide HS k) W h)
  simp only [unhide HN, unhide HFn] at CSt
  have HC := hide hC
  clear hC HN HFn HS
  generalize chnB x a b c = F at *
  generalize frK c = R at *
  go_enter Try.func94, Try.ntmps94
  go_wp2
  go_loopw [1, 8] (fun tx ti wr => ∃ k : Nat, k ≤ d.toNat ∧ ti = .int .i64 (k : Int) ∧ tx = .string (F k) ∧ Hid (CB wr g 114 (plC a b (R k))) ∧ Hid (w.grownBy wr (some g))) (fun _ ti _ => 20 - (intOf ti).toNat)
  case atStart => exact ⟨0, Nat.zero_le _, rfl, by rw [unhide H0], by rw [unhide HF0]; exact HC, hide (World.grownBy.refl w _)⟩
  case round =>
    clear HC
    obtain ⟨k, hk, rfl, rfl, HM, HG⟩ := hrel
    by_cases hlt : (k : Int) < d
    · have C := hide (unhide CSt k wr (unhide HM))
      have hk15 : k < 15 := by omega
      obtain ⟨f2, hf2⟩ : ∃ f2, f2 = F (k + 1) := ⟨_, rfl⟩
      rw [← hf2] at C
      replace hf2 := hide hf2
      generalize F k = fk at *
      clear CSt
      go_wp2_with (go_at_call 95; refine (unhide C).mono ?_; rintro e w1 ⟨rfl, hA1, hg1⟩)
      go_roundw
      case rel => exact ⟨k + 1, by omega, by go_num, by rw [unhide hf2], hide hA1, hide (grownBy_trans (unhide HG) hg1)⟩
      case measure => simp [intOf]; omega
    · have hkk := hide (show d.toNat = k by omega)
      go_wp2
      go_ret
      rw [unhide hkk]
      exact ⟨rfl, unhide HG⟩
set_option maxRecDepth 20000 in
theorem stringsClone14_any (s : ByteArray) (w : World) (hs : s.size ≤ 4000000) :
    Calls Try.prog 36 #[.string s] w fun e w' => e = .returned (.string s) ∧ Below w.heap.size w w' := by
  have hlim : s.size ≤ 281474976710656 := by omega
  have C := hide (Try.stringslite_Clone s w hlim)
  go_enter Try.func36, Try.ntmps36
  go_wp2_with fail
  refine (unhide C).mono ?_
  rintro e w2 ⟨rfl, hb2⟩
  go_wp2
  go_ret
  exact ⟨rfl, hb2⟩
theorem grown_below14 {a b c : World} {g : Nat} (h : Below a.heap.size a b) (k : b.grownBy c (some g)) (hg : a.heap.size ≤ g) : Below a.heap.size a c :=
  ⟨k.os.trans h.os, k.tape.trans h.tape, k.output.trans h.output, Nat.le_trans h.size k.size, fun q hq => (k.block q (Nat.lt_of_lt_of_le hq h.size) (fun e => by have := Option.some.inj e; omega)).trans (h.block q hq)⟩
set_option maxRecDepth 20000 in
set_option maxHeartbeats 1000000 in
theorem implChain_any (x : ByteArray) (a b c d : Int) (hx : x.size ≤ 1048576) (w : World) :
    Calls Try.prog 80 #[.string x, .int .i64 a, .int .i64 b, .int .i64 c, .int .i64 d] w fun e w' => e = .returned (.string (chnB x a b c (stepsN d))) ∧ Below w.heap.size w w' := by
  have CCl := hide (fun W => stringsClone14_any x W (by omega))
  have hst : stepsN d = (if d ≤ 15 then d else 15).toNat := by unfold stepsN; split <;> rfl
  obtain ⟨m, hm⟩ : ∃ m : Int, m = if d ≤ 15 then d else 15 := ⟨_, rfl⟩
  have hm15 : m ≤ 15 := by rw [hm]; split <;> omega
  rw [← hm] at hst
  have hmin : min d 15 = m := by rw [hm]; split <;> omega
  have hmin2 : (if d ≤ 15 then d else 15) = m := hm.symm
  have CR := hide (fun (g : Nat) (W : World) (h : CB W g 114 (plC a b c)) => repeated_any g a b c m x hx hm15 W h)
  rw [hst]
  generalize chnB x a b c m.toNat = q at *
  obtain ⟨W, hW, hC, hb, hlt⟩ := one_cb w (plC a b c) 114
  replace hst := hide hst
  replace hm := hide hm
  go_enter Try.func80, Try.ntmps80
  go_wp2_with fail
  refine (unhide CCl W).mono ?_
  rintro e w1 ⟨rfl, hb1⟩
  have hC1 := hC.below hb1 hlt
  have hB1 := hb.trans (hb1.mono hb.size)
  clear hb hb1 hC hW
  go_wp2_with fail
  refine (unhide CR _ w1 hC1).mono ?_
  rintro e w2 ⟨rfl, hg2⟩
  have hB2 := grown_below14 hB1 hg2 (Nat.le_refl _)
  clear hg2 hB1 hC1
  go_wp2
  go_ret
  exact ⟨rfl, hB2⟩
end Go.Proofs.Ytecononlghjepav

/- Digits by the project's own functions, over the loaded program. -/
namespace Go.Proofs.Ytecononlghjepav
open Go.RowKit
/-- The first k of ten numbers f 0, f 1 .., the others 0. -/
def dgS (f : Nat → Int) (k : Nat) : List Int := (List.range 10).map (fun i => if i < k then f i else 0)
theorem dgS_len (f : Nat → Int) (k : Nat) : (dgS f k).length = 10 := by unfold dgS; rw [List.length_map, List.length_range]
theorem dgS_set (f : Nat → Int) (k : Nat) (hk : k < 10) : (dgS f k).set k (f k) = dgS f (k + 1) := by
  apply List.ext_getElem?
  intro i
  unfold dgS
  rw [List.getElem?_set]
  by_cases hi : i < 10
  · by_cases e : k = i
    · subst e
      rw [if_pos rfl, if_pos (by rw [List.length_map, List.length_range]; exact hk), List.getElem?_map, List.getElem?_range hk, Option.map_some, if_pos (by omega)]
    · rw [if_neg e, List.getElem?_map, List.getElem?_map, List.getElem?_range hi, Option.map_some, Option.map_some]
      by_cases h2 : i < k
      · rw [if_pos h2, if_pos (by omega)]
      · rw [if_neg h2, if_neg (by omega)]
  · rw [if_neg (by omega), List.getElem?_map, List.getElem?_map, List.getElem?_eq_none (by rw [List.length_range]; omega)]
    rfl
theorem dgS_at (f : Nat → Int) (k i : Nat) (hi : i < 10) : (dgS f k)[i]? = some (if i < k then f i else 0) := by
  unfold dgS
  rw [List.getElem?_map, List.getElem?_range hi]
  rfl
def dgF (m : ByteArray) (i : Nat) : Int := (dgAt m i : Int)
theorem dgS_all (m : ByteArray) : dgS (dgF m) 10 = digL m := by
  apply List.ext_getElem?
  intro i
  by_cases hi : i < 10
  · rw [dgS_at _ _ _ hi, digL_at m i hi, if_pos hi]; rfl
  · rw [List.getElem?_eq_none (by rw [dgS_len]; omega), List.getElem?_eq_none (by rw [digL_len]; omega)]
/-- A block that holds these ten numbers. -/
abbrev IA (w : World) (g : Nat) (T : TypeId) (l : List Int) : Prop := CB w g T (l.map iv).toArray
theorem ia_set {w : World} {g : Nat} {T : TypeId} {l : List Int} (h : IA w g T l) (k : Nat) (z : Int) : IA (w.setCell ⟨g, k, none⟩ (.int .i64 z)) g T (l.set k z) := by
  have h1 := CB.set h k (.int .i64 z)
  have e : ((l.map iv).toArray.setIfInBounds k (.int .i64 z)) = ((l.set k z).map iv).toArray := by
    rw [List.setIfInBounds_toArray, List.map_set]; rfl
  rw [e] at h1
  exact h1
theorem ia_cell {w : World} {g : Nat} {T : TypeId} {l : List Int} (h : IA w g T l) {k : Nat} {z : Int} (hk : l[k]? = some z) : w.cell? ⟨g, k, none⟩ = some (.int .i64 z) := by
  refine CB.cell h k ?_
  simp [hk, iv]
set_option maxRecDepth 20000 in
theorem halfBytes_any (n : Nat) (hn : n < 1000) (w : World) :
    Calls Try.prog 74 #[.int .i64 (n : Int)] w fun e w' => e = .returned (.tuple #[.int .i64 ((n / 16 : Nat) : Int), .int .i64 ((n % 16 : Nat) : Int)]) ∧ w' = w := by
  obtain ⟨x1, hx1⟩ : ∃ x : Nat, x = n / 16 := ⟨_, rfl⟩
  obtain ⟨x2, hx2⟩ : ∃ x : Nat, x = n % 16 := ⟨_, rfl⟩
  rw [← hx1, ← hx2]
  have q1 : (n : Int).tdiv 16 = (x1 : Int) := by rw [Int.tdiv_eq_ediv_of_nonneg (by omega)]; omega
  have q1' : (n : Int) / 16 = (x1 : Int) := by omega
  have q2 : (n : Int).tmod 16 = (x2 : Int) := by rw [Int.tmod_eq_emod_of_nonneg (by omega)]; omega
  have q2' : (n : Int) % 16 = (x2 : Int) := by omega
  have q3 : IntKind.i64.wrap (x1 : Int) = (x1 : Int) := by rw [IntKind.wrap_i64]; omega
  have q4 : IntKind.i64.wrap (x2 : Int) = (x2 : Int) := by rw [IntKind.wrap_i64]; omega
  replace hx1 := hide hx1; replace hx2 := hide hx2
  go_enter Try.func74, Try.ntmps74
  go_wp2
  exact bodyPost_ret (results_tmp2 (by exact Try.results74) _ _ _) rfl ⟨rfl, rfl⟩
theorem len10 : Try.prog.arrayLen 79 = 10 := by kernel_rfl
theorem idx10 (g k : Nat) (h : (k : Int) < 10) (W : World) : (Instr.indexAt 79 (.pointer (some ⟨g, 0, none⟩)) (.int .i64 (k : Int))).run Try.prog W = .ok (.pointer (some ⟨g, k, none⟩)) W := by
  have hu : Try.prog.underlying 79 = some (.array (Try.prog.arrayLen 79) (Try.prog.elem 79)) := by kernel_rfl
  have he : Try.prog.elem 79 = 3 := by kernel_rfl
  have h1 : (0 : Int) ≤ (k : Int) ∧ (k : Int) < ((Try.prog.arrayLen 79 : Nat) : Int) := by rw [len10]; exact ⟨by omega, by omega⟩
  rw [run_indexAt_array (P := Try.prog) (w := W) 79 ⟨g, 0, none⟩ .i64 (k : Int) hu, if_pos h1, he]
  simp [go_sem, Addr.add]
  intro h; exact h.symm
theorem info10 (l : List Int) (hl : l.length = 10) : (Try.prog.info? 79).map (·.size) = some (l.map iv).toArray.size := by
  have e : (l.map iv).toArray.size = 10 := by simp [hl]
  have h : (Try.prog.info? 79).map (·.size) = some 10 := by kernel_rfl
  rw [h, e]
theorem zer10 (f : Nat → Int) : (#[.int .i64 0, .int .i64 0, .int .i64 0, .int .i64 0, .int .i64 0, .int .i64 0, .int .i64 0, .int .i64 0, .int .i64 0, .int .i64 0] : Array Value) = ((dgS f 0).map iv).toArray := rfl
theorem iv_one (l : List Int) : (l.map iv).toArray.all (·.oneCell') = true := by
  rw [Array.all_eq_true_iff_forall_mem]
  intro v hv
  simp only [List.mem_toArray, List.mem_map] at hv
  obtain ⟨x, _, rfl⟩ := hv
  rfl
set_option maxRecDepth 20000 in
set_option maxHeartbeats 1000000 in
theorem digitsFor_any (m : ByteArray) (hm : m.size ≤ 4000000) (w : World) :
    Calls Try.prog 65 #[.string m] w fun e w' => e = .returned (.agg ((digL m).map iv).toArray) ∧ Below w.heap.size w w' := by
  have C := hide (fun W => implChop_any m hm W)
  have hs4 := chopB_size m
  have EA := hide (dgS_all m)
  have EF := hide (show ∀ k, k < 4 → dgF m (2 * k) = ((byA (chopB m) k / 16 : Nat) : Int) ∧ dgF m (2 * k + 1) = ((byA (chopB m) k % 16 : Nat) : Int) from fun k hk => by
    unfold dgF dgAt
    rw [if_pos (by omega), if_pos (by omega), (dgN_pair (chopB m) k).1, (dgN_pair (chopB m) k).2]
    exact ⟨rfl, rfl⟩)
  have E8 := hide (show dgF m 8 = ((lfN (chopB m) 4 / 16 : Nat) : Int) from rfl)
  have E9 := hide (show dgF m 9 = ((lfN (chopB m) 4 % 16 : Nat) : Int) from rfl)
  generalize chopB m = s at *
  generalize dgF m = f at *
  have hs4' : (s.size : Int) = 4 := by omega
  obtain ⟨W, hW, hR, hD, hb, hlt⟩ := two_cb w ((dgS f 0).map iv).toArray ((dgS f 0).map iv).toArray 79 79
  rw [← zer10 f] at hW
  replace hR := hide hR
  replace hD := hide hD
  go_enter Try.func65, Try.ntmps65
  go_wp2_with fail
  refine (unhide C W).mono ?_
  rintro e w1 ⟨rfl, hb1⟩
  have hR1 := hide ((unhide hR).below hb1 (by omega))
  have hD1 := hide ((unhide hD).below hb1 (by omega))
  have hB1 := hb.trans (hb1.mono hb.size)
  have hsz1 := hb1.size
  clear hR hD hb hb1 C hW
  go_wp2
  go_loopw [5, 11] (fun ts ti wr => ∃ (k : Nat) (q : Nat), k ≤ 4 ∧ ti = .int .i64 (k : Int) ∧ ts = .int .i64 (q : Int) ∧ Hid (q = lfN s k) ∧ Hid (IA wr (w.heap.size + 1) 79 (dgS f (2 * k))) ∧ Hid (IA wr w.heap.size 79 (dgS f 0)) ∧ Below w.heap.size w wr) (fun _ ti _ => 4 - (intOf ti).toNat)
  case atStart => exact ⟨0, 0, by omega, rfl, rfl, hide rfl, hD1, hR1, hB1⟩
  case round =>
    clear hR1 hD1 hB1
    obtain ⟨k, q, hk, rfl, rfl, hq, HD, HR, hB⟩ := hrel
    have hsz := hB.size
    by_cases hlt4 : k < 4
    · have hk' : (k : Int) < 4 := by omega
      have hk0 : (0 : Int) ≤ (k : Int) := by omega
      have hks : k < s.size := by omega
      have hby := byA_at s k hks
      have hbl := byA_lt s k
      have HL := hide (show lfN s (k + 1) = lfN s k + 30 - byA s k / 16 - byA s k % 16 from rfl)
      have hql := lfN_le s k
      rw [← unhide hq] at HL hql
      have HF := unhide EF k hlt4
      obtain ⟨b, hbb⟩ : ∃ b, b = byA s k := ⟨_, rfl⟩
      rw [← hbb] at hby hbl HL HF
      have CH := hide (fun W => halfBytes_any b (by omega) W)
      obtain ⟨x1, hx1⟩ : ∃ x : Nat, x = b / 16 := ⟨_, rfl⟩
      obtain ⟨x2, hx2⟩ : ∃ x : Nat, x = b % 16 := ⟨_, rfl⟩
      rw [← hx1, ← hx2] at HL HF CH
      have q5 : IntKind.i64.wrap (b : Int) = (b : Int) := by rw [IntKind.wrap_i64]; omega
      obtain ⟨i1, hi1⟩ : ∃ i : Nat, i = 2 * k := ⟨_, rfl⟩
      obtain ⟨i2, hi2⟩ : ∃ i : Nat, i = 2 * k + 1 := ⟨_, rfl⟩
      have q9 : IntKind.i64.wrap (2 * (k : Int)) = (i1 : Int) := by rw [IntKind.wrap_i64]; omega
      have q9' : IntKind.i64.wrap ((i1 : Int) + 1) = (i2 : Int) := by rw [IntKind.wrap_i64]; omega
      have I1 := idx10 (w.heap.size + 1) i1 (by omega)
      have I2 := idx10 (w.heap.size + 1) i2 (by omega)
      obtain ⟨y1, hy1⟩ : ∃ y : Nat, y + x1 = 15 := ⟨15 - x1, by omega⟩
      obtain ⟨y2, hy2⟩ : ∃ y : Nat, y = y1 + 15 := ⟨_, rfl⟩
      obtain ⟨y3, hy3⟩ : ∃ y : Nat, y + x2 = y2 := ⟨y2 - x2, by omega⟩
      obtain ⟨y4, hy4⟩ : ∃ y : Nat, y = q + y3 := ⟨_, rfl⟩
      have q6 : IntKind.i64.wrap (15 - (x1 : Int)) = (y1 : Int) := by rw [IntKind.wrap_i64]; omega
      have q7 : IntKind.i64.wrap ((y1 : Int) + 15) = (y2 : Int) := by rw [IntKind.wrap_i64]; omega
      have q8 : IntKind.i64.wrap ((y2 : Int) - (x2 : Int)) = (y3 : Int) := by rw [IntKind.wrap_i64]; omega
      have q10 : IntKind.i64.wrap ((q : Int) + (y3 : Int)) = (y4 : Int) := by rw [IntKind.wrap_i64]; omega
      have HQ := hide (show y4 = lfN s (k + 1) by have := unhide HL; omega)
      have hix : ∀ h : k < s.size, (s[k]'h).toNat = b := fun h => hby
      have HD' := unhide HD
      have g1 := ia_cell HD' (dgS_at f (2 * k) i1 (by omega))
      have f1 := HD'.frozen i1
      have D1 := ia_set HD' i1 (x1 : Int)
      rw [show (dgS f (2 * k)).set i1 (x1 : Int) = dgS f (2 * k + 1) by rw [hi1, ← HF.1]; exact dgS_set f (2 * k) (by omega)] at D1
      have g2 := ia_cell D1 (dgS_at f (2 * k + 1) i2 (by omega))
      have f2 := D1.frozen i2
      have D2 := ia_set D1 i2 (x2 : Int)
      rw [show (dgS f (2 * k + 1)).set i2 (x2 : Int) = dgS f (2 * (k + 1)) by rw [hi2, ← HF.2]; exact dgS_set f (2 * k + 1) (by omega)] at D2
      replace D2 := hide D2
      have HR2 := hide (((unhide HR).set_other (h := w.heap.size + 1) (k := i1) (by omega) (.int .i64 (x1 : Int))).set_other (h := w.heap.size + 1) (k := i2) (by omega) (.int .i64 (x2 : Int)))
      have hB2 := hide ((hB.setCell (p := ⟨w.heap.size + 1, i1, none⟩) (Nat.le_succ _) (.int .i64 (x1 : Int))).setCell (p := ⟨w.heap.size + 1, i2, none⟩) (Nat.le_succ _) (.int .i64 (x2 : Int)))
      replace hbb := hide hbb; replace hx1 := hide hx1; replace hx2 := hide hx2; replace hy1 := hide hy1; replace hy2 := hide hy2; replace hy3 := hide hy3; replace hy4 := hide hy4; replace HF := hide HF; replace hby := hide hby; replace hi1 := hide hi1; replace hi2 := hide hi2
      clear HL hql HD HD' HR hB D1 EA E8 E9 EF
      go_wp2_with (go_at_call 74; refine (unhide CH _).mono ?_; rintro e wz ⟨rfl, hwz⟩; subst hwz)
      exact ⟨⟨k + 1, y4, by omega, by go_num, by first | rfl | trivial, HQ, D2, HR2, unhide hB2⟩, by simp [intOf]; omega⟩
    · have hk' : ¬ (k : Int) < 4 := by omega
      obtain rfl : k = 4 := by omega
      have hql := lfN_le s 4
      rw [← unhide hq] at hql E8 E9
      have CH := hide (fun W => halfBytes_any q (by omega) W)
      obtain ⟨x1, hx1⟩ : ∃ x : Nat, x = q / 16 := ⟨_, rfl⟩
      obtain ⟨x2, hx2⟩ : ∃ x : Nat, x = q % 16 := ⟨_, rfl⟩
      rw [← hx1] at E8 CH
      rw [← hx2] at E9 CH
      have I1 := idx10 (w.heap.size + 1) 8 (by omega)
      have I2 := idx10 (w.heap.size + 1) 9 (by omega)
      have HD' := unhide HD
      have g1 := ia_cell HD' (dgS_at f (2 * 4) 8 (by omega))
      have f1 := HD'.frozen 8
      have D1 := ia_set HD' 8 (x1 : Int)
      rw [show (dgS f (2 * 4)).set 8 (x1 : Int) = dgS f 9 by rw [← unhide E8]; exact dgS_set f 8 (by omega)] at D1
      have g2 := ia_cell D1 (dgS_at f 9 9 (by omega))
      have f2 := D1.frozen 9
      have D2 := ia_set D1 9 (x2 : Int)
      rw [show (dgS f 9).set 9 (x2 : Int) = digL m by rw [← unhide EA, ← unhide E9]; exact dgS_set f 9 (by omega)] at D2
      replace D2 := hide D2
      have HR2 := hide (((unhide HR).set_other (h := w.heap.size + 1) (k := 8) (by omega) (.int .i64 (x1 : Int))).set_other (h := w.heap.size + 1) (k := 9) (by omega) (.int .i64 (x2 : Int)))
      have hB2 := hide ((hB.setCell (p := ⟨w.heap.size + 1, 8, none⟩) (Nat.le_succ _) (.int .i64 (x1 : Int))).setCell (p := ⟨w.heap.size + 1, 9, none⟩) (Nat.le_succ _) (.int .i64 (x2 : Int)))
      have hi := hide (info10 (digL m) (digL_len m))
      have hi0 := hide (info10 (dgS f 0) (dgS_len f 0))
      have hl10 := digL_len m
      replace hx1 := hide hx1; replace hx2 := hide hx2
      clear hql HD HD' HR hB D1 EA E8 E9 EF
      go_wp2_with (first
        | (go_at_call 74; refine (unhide CH _).mono ?_; rintro e wz ⟨rfl, hwz⟩; subst hwz)
        | (refine wpList_load_row rfl 79 _ rfl (w.heap.size + 1) rfl 79 _ (0, 0) _ (unhide D2) Try.underlying79 rfl (unhide hi) ?_)
        | (refine wpList_store_row rfl 79 _ _ rfl w.heap.size _ rfl rfl 79 _ (unhide HR2) (unhide hi) (by simp [dgS_len, hl10]) (iv_one _) ?_))
      have HR3 := setRow_heap _ w.heap.size _ ((digL m).map iv).toArray 79 (0, 0) (unhide HR2)
      have hB3 := Go.below_setRow (unhide hB2) (Nat.le_refl _) ((digL m).map iv).toArray
      exact bodyPost_ret (results_cell_row (by exact Try.results65) _ _ _ _ _ (0, 0) _ rfl HR3 Try.underlying79 rfl (unhide hi)) rfl ⟨rfl, hB3⟩
end Go.Proofs.Ytecononlghjepav

