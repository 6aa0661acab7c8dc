/- The laws FnExactPublicOf, FnExactSigOk, FnExactCheckSig, FnExactSigText, walked over the loaded program; what the project's functions answer are premises. -/
import Derived.Test.YtecononlghjepawLawSig
import Derived.Deep.RegionHeld3
namespace Go.Proofs.Ytecononlghjepaw
open Go.RowKit
theorem RdSg.open {w : World} {v : Value} {s : Sg} (h : RdSg w v s) : ∃ a1 n1 c1 a2 n2 c2, v = .agg #[.int .i64 s.leaf, .slice a1 n1 c1, .slice a2 n2 c2] := by
  obtain ⟨v1, v2, rfl, h1, h2, -⟩ := h
  obtain ⟨a1, c1, rfl⟩ := h1.shape
  obtain ⟨a2, c2, rfl⟩ := h2.shape
  exact ⟨_, _, _, _, _, _, rfl⟩
/-- What is asked of a signature's texts, that they may be reckoned with. -/
def okSg (s : Sg) : Prop := (∀ x ∈ s.once, x.size ≤ maxLen) ∧ (∀ x ∈ s.path, x.size ≤ maxLen) ∧ s.once.length ≤ maxLen ∧ s.path.length ≤ maxLen
theorem szSig_sg (s : Sg) (v : Value) (w : World) (hr : RdSg w v s) (hk : okSg s) :
    Calls Try.prog 6 #[v, .int .i64 1048576] w fun e w' => (∃ z : Int, e = .returned (.int .i64 z) ∧ (z < 0 ∨ (0 ≤ z ∧ s.once.length + sumS s.once + s.path.length + sumS s.path ≤ 1048576))) ∧ Below w.heap.size w w' := by
  obtain ⟨v1, v2, rfl, r1, r2, -⟩ := hr
  exact szSig_any s.leaf s.once s.path v1 v2 w r1 r2 hk.1 hk.2.1 hk.2.2.1 hk.2.2.2
set_option maxRecDepth 20000 in
set_option maxHeartbeats 1600000 in
theorem lawSigText_any (s : Sg) (va : Value) (hk : okSg s) (CI : s.once.length ≤ 1048576 → s.path.length ≤ 1048576 → ∀ (W : World) (v : Value), RdSg W v s → Calls Try.prog 9 #[v] W fun e w' => e = .returned (.tuple #[.string (sgT s), .bool (sgOk s)]) ∧ Below W.heap.size W w') (w : World) (hr : RdSg w va s) :
    Calls Try.prog 3 #[va] w fun x w' => x = .returned (.bool true) ∧ Below w.heap.size w w' := by
  have CZ := hide (fun (W : World) (h : Below w.heap.size w W) => szSig_sg s va W (hr.below h) hk)
  have HR := hide hr
  obtain ⟨a1, n1, c1, a2, n2, c2, rfl⟩ := hr.open
  clear hr
  replace CI := hide CI
  go_enter Try.func3, Try.ntmps3
  go_wp2_with fail
  obtain ⟨W, hW, P1, hB, hs1⟩ := one_cb w #[.int .i64 s.leaf, .slice a1 n1 c1, .slice a2 n2 c2] 24
  rw [hW]
  clear hW
  refine (unhide CZ W hB).mono ?_
  rintro e w1 ⟨⟨z, rfl, hz⟩, hb1⟩
  have T1 := hB.trans (hb1.mono hB.size)
  have P1a := P1.step hb1
  clear CZ hb1 P1 hB
  rcases hz with hz | ⟨hz0, hz⟩
  · clear CI HR hk P1a
    go_wp2
    go_ret
    exact ⟨rfl, T1⟩
  have hz' : ¬ z < 0 := by omega
  have L1 : s.once.length ≤ 1048576 := by omega
  have L2 : s.path.length ≤ 1048576 := by omega
  have CT := hide (fun (W : World) (h : Below w.heap.size w W) => toSig_any s _ W ((unhide HR).below h) L1 L2)
  have CE := hide (fun (W : World) (v u : Value) (hv : RdSg W v s) (hu : RdSg W u s) => eqSig_any s v u W hv hu (by omega) (by omega))
  have CS := hide (fun (W : World) (v : Value) (hv : RdSg W v s) => specSigText_any s v W hv (by omega) (by omega))
  replace CI := hide (unhide CI L1 L2)
  generalize sgT s = R at *
  generalize sgOk s = R2 at *
  have p0 := P1a.cell 0 (v := .int .i64 s.leaf) rfl
  have p1 := P1a.cell 1 (v := .slice a1 n1 c1) rfl
  have p2 := P1a.cell 2 (v := .slice a2 n2 c2) rfl
  clear hz HR hk
  go_wp2_with fail
  refine (unhide CT w1 T1).mono ?_
  rintro e w2 ⟨⟨u2, rfl, o2⟩, hb2⟩
  have T2 := T1.trans (hb2.mono T1.size)
  have P1b := P1a.step hb2
  clear hb2 T1 P1a p0 p1 p2
  go_wp2_with fail
  refine (unhide CS w2 u2 o2.rd).mono ?_
  rintro e w3 ⟨rfl, hb3⟩
  have T3 := T2.trans (hb3.mono T2.size)
  have P1c := P1b.step hb3
  have p0 := P1c.cell 0 (v := .int .i64 s.leaf) rfl
  have p1 := P1c.cell 1 (v := .slice a1 n1 c1) rfl
  have p2 := P1c.cell 2 (v := .slice a2 n2 c2) rfl
  clear hb3 T2 P1b CS o2
  go_wp2_with fail
  refine (unhide CT w3 T3).mono ?_
  rintro e w4 ⟨⟨u4, rfl, o4⟩, hb4⟩
  have T4 := T3.trans (hb4.mono T3.size)
  have P1d := P1c.step hb4
  obtain ⟨a3, n3, c3, a4, n4, c4, rfl⟩ := o4.open
  replace o4 := hide o4
  clear hb4 T3 P1c p0 p1 p2
  go_wp2_with fail
  obtain ⟨W4, hW, P5, hB4, hs4⟩ := one_cb w4 #[.int .i64 s.leaf, .slice a3 n3 c3, .slice a4 n4 c4] 28
  rw [hW]
  clear hW
  have T5 := T4.trans (hB4.mono T4.size)
  have P1e := P1d.step hB4
  have o5 := hide ((unhide o4).below hB4)
  clear hB4 o4 P1d T4
  refine (unhide CI W4 _ (unhide o5).rd).mono ?_
  rintro e w6 ⟨rfl, hb6⟩
  have T6 := T5.trans (hb6.mono T5.size)
  have P1f := P1e.step hb6
  have P5f := P5.step hb6
  have o6 := hide ((unhide o5).below hb6)
  clear hb6 T5 P1e P5 o5 CI
  go_wp2_with fail
  have KS := hide (fun (W' : World) (h : Below w6.heap.size w6 W') => (show (W'.cell? ⟨w4.heap.size, 0, none⟩ = some (.int .i64 s.leaf) ∧ W'.cell? ⟨w4.heap.size, 1, none⟩ = some (.slice a3 n3 c3) ∧ W'.cell? ⟨w4.heap.size, 2, none⟩ = some (.slice a4 n4 c4)) ∧ (W'.cell? ⟨w.heap.size, 0, none⟩ = some (.int .i64 s.leaf) ∧ W'.cell? ⟨w.heap.size, 1, none⟩ = some (.slice a1 n1 c1) ∧ W'.cell? ⟨w.heap.size, 2, none⟩ = some (.slice a2 n2 c2)) from ⟨⟨(P5f.step h).cell 0 rfl, (P5f.step h).cell 1 rfl, (P5f.step h).cell 2 rfl⟩, (P1f.step h).cell 0 rfl, (P1f.step h).cell 1 rfl, (P1f.step h).cell 2 rfl⟩))
  have CT' := hide (fun (W' : World) (h : Below w6.heap.size w6 W') => unhide CT W' (T6.trans (h.mono T6.size)))
  have HT0 := (Below.refl w6.heap.size w6).drew
  have CE' := hide (fun (W' : World) (h : Below w6.heap.size w6 W') (u : Value) (hu : RdSg W' u s) => unhide CE W' _ u ((unhide o6).rd.below h) hu)
  clear P1f P5f CT CE o6
  go_region_held3 (fun W => (W.cell? ⟨w4.heap.size, 0, none⟩ = some (.int .i64 s.leaf) ∧ W.cell? ⟨w4.heap.size, 1, none⟩ = some (.slice a3 n3 c3) ∧ W.cell? ⟨w4.heap.size, 2, none⟩ = some (.slice a4 n4 c4)) ∧ (W.cell? ⟨w.heap.size, 0, none⟩ = some (.int .i64 s.leaf) ∧ W.cell? ⟨w.heap.size, 1, none⟩ = some (.slice a1 n1 c1) ∧ W.cell? ⟨w.heap.size, 2, none⟩ = some (.slice a2 n2 c2))) (first | exact unhide KS _ HT0 | exact unhide KS _ hT1 | exact unhide KS _ hT2 | fail) (first
    | (go_at_call 8; refine (unhide CT' _ HT0).mono ?_; rintro e w7 ⟨⟨u7, rfl, o7⟩, hb7⟩; have hT1 := HT0.trans (hb7.mono HT0.size); clear hb7)
    | (go_at_call 10; refine (unhide CE' _ hT1 _ o7.rd).mono ?_; rintro e w8 ⟨rfl, hb8⟩; have hT2 := hT1.trans (hb8.mono hT1.size); clear hb8))
  all_goals
    have TF := T6.trans (hT2.mono T6.size)
    clear KS CT' CE' HT0 hT1 hT2 T6
    go_wp2
    go_ret
    exact ⟨rfl, TF⟩
end Go.Proofs.Ytecononlghjepaw
