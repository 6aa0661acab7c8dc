/- The laws FnExactSignAt, FnExactReadSig, walked over the loaded program; what the project's functions answer are premises. -/
import Derived.Test.YtecononlghjepawSig4
namespace Go.Proofs.Ytecononlghjepaw
open Go.RowKit
theorem MkSg.low {w w' : World} {base B : Nat} {v : Value} {s : Sg} (h : MkSg w base v s) (hb : Below B w w') (hB : w.heap.size ≤ B) : MkSg w' base v s := h.below (hb.mono hB)
theorem OwnSg.belowAt {w w' : World} {base B : Nat} {v : Value} {s : Sg} (h : OwnSg w base v s) (hb : Below B w w') (hB : w.heap.size ≤ B) : OwnSg w' base v s := h.below (hb.mono hB)
set_option maxRecDepth 20000 in
set_option maxHeartbeats 1600000 in
theorem lawReadSig_any (s : ByteArray) (CI : s.size ≤ 1048576 → ∀ W : World, Calls Try.prog 12 #[.string s] W fun e w' => (∃ v, e = .returned (.tuple #[v, .bool (rdOk s)]) ∧ OwnSg w' W.heap.size v (rdS s)) ∧ Below W.heap.size W w') (w : World) :
    Calls Try.prog 4 #[.string s] w fun x w' => x = .returned (.bool true) ∧ Below w.heap.size w w' := by
  by_cases h1 : (1048576 : Int) < (s.size : Int)
  · go_enter Try.func4, Try.ntmps4
    go_wp2
    go_ret
    exact ⟨rfl, Below.refl _ _⟩
  have CS := hide (fun W => specReadSig_any s W)
  replace CI := hide (CI (by omega))
  have hl1 : (rdS s).once.length ≤ 10 := by
    unfold rdS
    split
    · show ((List.range 10).map _).length ≤ 10; rw [List.length_map, List.length_range]; exact Nat.le_refl _
    · exact Nat.zero_le _
  have hl2 : (rdS s).path.length ≤ 2 := by
    unfold rdS
    split
    · show ((List.range 2).map _).length ≤ 2; rw [List.length_map, List.length_range]; exact Nat.le_refl _
    · exact Nat.zero_le _
  generalize (rdS s) = S at *
  generalize (rdOk s) = ok at *
  have CE := hide (fun (W : World) (v u : Value) (hv : RdSg W v S) (hu : RdSg W u S) => eqSig_any S v u W hv hu (by omega) (by omega))
  obtain ⟨M, hM⟩ : ∃ M, M = 1 + S.once.length + S.path.length := ⟨_, rfl⟩
  have CM := hide (fun (W W0 : World) (base : Nat) (v : Value) (ho : OwnSg W base v S) (hb : Below base W0 W) (hbw : base ≤ W.heap.size) => markSig_any S v base M W W0 hM ho hb hbw (by omega) (by omega))
  have CH := hide (fun (W : World) (base : Nat) (v : Value) (ho : MkSg W base v S) => heldSig_any S v base M W hM ho (by omega) (by omega))
  have hM0 : ¬ (M : Int) < 0 := by omega
  replace hM := hide hM; replace hl1 := hide hl1; replace hl2 := hide hl2
  go_enter Try.func4, Try.ntmps4
  go_wp2_with fail
  refine (unhide CS w).mono ?_
  rintro e w1 ⟨⟨v0, rfl, o0⟩, hb0⟩
  obtain ⟨a1, n1, c1, a2, n2, c2, rfl⟩ := o0.open
  replace o0 := hide o0
  clear CS
  go_wp2_with fail
  obtain ⟨W1, hW, P7, hB1, hs1⟩ := one_cb w1 #[.int .i64 S.leaf, .slice a1 n1 c1, .slice a2 n2 c2] 28
  rw [hW]
  clear hW
  have o0' := hide ((unhide o0).below hB1)
  have o0w := hide (unhide o0')
  have T1 := hb0.trans (hB1.mono hb0.size)
  clear o0 hb0 hB1
  refine (unhide CI W1).mono ?_
  rintro e w2 ⟨⟨v9, rfl, o9⟩, hb2⟩
  obtain ⟨a3, n3, c3, a4, n4, c4, rfl⟩ := o9.open
  have P7' := P7.step hb2
  have q0 := hide ((unhide o0').below hb2)
  replace o9 := hide o9
  have p0 := P7'.cell 0 (v := .int .i64 S.leaf) rfl
  have p1 := P7'.cell 1 (v := .slice a1 n1 c1) rfl
  have p2 := P7'.cell 2 (v := .slice a2 n2 c2) rfl
  have l7 := P7'.lt
  have hs2 := hb2.size
  have T2 := T1.trans (hb2.mono T1.size)
  clear o0'
  go_wp2_with fail
  obtain ⟨W2, hW, P9, hB2, hs3⟩ := one_cb w2 #[.int .i64 S.leaf, .slice a3 n3 c3, .slice a4 n4 c4] 28
  rw [hW]
  clear hW p0 p1 p2 l7
  have hs4 := hB2.size
  have T3 := T2.trans (hB2.mono T2.size)
  have Q3 := hb2.trans (hB2.mono hs2)
  have r9 := hide ((unhide o9).below hB2)
  have r0 := hide ((unhide q0).below hB2)
  have P7a := P7'.step hB2
  clear o9 q0 hB2 P7 P7' hb2
  refine (unhide CE W2 _ _ (unhide r9).rd (unhide r0).rd).mono ?_
  rintro e w3 ⟨rfl, hb3⟩
  have T4 := T3.trans (hb3.mono T3.size)
  have Q4 := Q3.trans (hb3.mono Q3.size)
  have s9 := hide ((unhide r9).below hb3)
  have s0 := hide ((unhide r0).below hb3)
  have P7b := P7a.step hb3
  have P9b := P9.step hb3
  have p0 := P9b.cell 0 (v := .int .i64 S.leaf) rfl
  have p1 := P9b.cell 1 (v := .slice a3 n3 c3) rfl
  have p2 := P9b.cell 2 (v := .slice a4 n4 c4) rfl
  have hs5 := Q4.size
  clear r9 r0 P7a P9 hb3 T3 Q3
  go_wp2_with fail
  refine (unhide CM w3 W1 W1.heap.size _ (unhide s9) Q4 hs5).mono ?_
  rintro e w4 ⟨rfl, mk4, Q5, KC⟩
  have P7c := KC _ _ _ P7b (by decide)
  have P9c := KC _ _ _ P9b (by decide)
  have T5 := T1.trans (Q5.mono T1.size)
  have x0 := hide (((unhide o0w).belowAt Q5 (Nat.le_refl _)))
  replace mk4 := hide mk4
  have p0 := P9c.cell 0 (v := .int .i64 S.leaf) rfl
  have p1 := P9c.cell 1 (v := .slice a3 n3 c3) rfl
  have p2 := P9c.cell 2 (v := .slice a4 n4 c4) rfl
  clear KC P7b P9b Q4 T4 s9 s0 CM
  go_wp2_with fail
  refine (unhide CH w4 _ _ (unhide mk4)).mono ?_
  rintro e w5 ⟨rfl, hb5⟩
  have T6 := T5.trans (hb5.mono T5.size)
  have mk5 := hide ((unhide mk4).below hb5)
  have y0 := hide ((unhide x0).below hb5)
  have P7d := P7c.step hb5
  have P9d := P9c.step hb5
  clear hb5 mk4 x0 P7c P9c T5 Q5 p0 p1 p2
  go_wp2_with fail
  refine (unhide CI w5).mono ?_
  rintro e w6 ⟨⟨v13, rfl, o13⟩, hb6⟩
  obtain ⟨a5, n5, c5, a6, n6, c6, rfl⟩ := o13.open
  have T7 := T6.trans (hb6.mono T6.size)
  have mk6 := hide ((unhide mk5).below hb6)
  have z0 := hide ((unhide y0).below hb6)
  have P7e := P7d.step hb6
  have P9e := P9d.step hb6
  have p0 := P7e.cell 0 (v := .int .i64 S.leaf) rfl
  have p1 := P7e.cell 1 (v := .slice a1 n1 c1) rfl
  have p2 := P7e.cell 2 (v := .slice a2 n2 c2) rfl
  have l7 := P7e.lt
  replace o13 := hide o13
  clear hb6 mk5 y0 P7d P9d T6 CI
  go_wp2_with fail
  obtain ⟨W6, hW, P13, hB6, hs6⟩ := one_cb w6 #[.int .i64 S.leaf, .slice a5 n5 c5, .slice a6 n6 c6] 28
  rw [hW]
  clear hW p0 p1 p2 l7
  have T8 := T7.trans (hB6.mono T7.size)
  have u13 := hide ((unhide o13).below hB6)
  have u0 := hide ((unhide z0).below hB6)
  have mk7 := hide ((unhide mk6).below hB6)
  have P9f := P9e.step hB6
  clear o13 z0 mk6 P9e P7e hB6 T7
  refine (unhide CE W6 _ _ (unhide u13).rd (unhide u0).rd).mono ?_
  rintro e w7 ⟨rfl, hb7⟩
  have T9 := T8.trans (hb7.mono T8.size)
  have mk8 := hide ((unhide mk7).below hb7)
  have P9g := P9f.step hb7
  have p0 := P9g.cell 0 (v := .int .i64 S.leaf) rfl
  have p1 := P9g.cell 1 (v := .slice a3 n3 c3) rfl
  have p2 := P9g.cell 2 (v := .slice a4 n4 c4) rfl
  clear hb7 mk7 P9f P13 T8 u13 u0 CE
  go_wp2_with fail
  refine (unhide CH w7 _ _ (unhide mk8)).mono ?_
  rintro e w8 ⟨rfl, hb8⟩
  have TF := T9.trans (hb8.mono T9.size)
  clear hb8 mk8 P9g T9 CH p0 p1 p2
  go_wp2
  go_ret
  exact ⟨rfl, TF⟩

end Go.Proofs.Ytecononlghjepaw
