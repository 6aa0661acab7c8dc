/- Exact laws over things, over the loaded program, the project's functions as premises. -/
import Derived.Test.YtecbpplocokedaaThgH
import Derived.Test.YtecbpplocokedaaRul1
import Derived.Test.YtecbpplocokedaaRul2
namespace Go.Proofs.Ytecbpplocokedaa
open Go.RowKit
set_option maxRecDepth 20000 in
set_option maxHeartbeats 1000000 in
theorem lawMay_any (x : Th) (d : Int) (hv : x.val.size ≤ maxLen) (w : World) (CI : x.val.size ≤ 1048576 → ∀ W : World, Below w.heap.size w W → Calls Try.prog 13 #[.agg (thC x), .int .i64 d] W fun e w' => e = .returned (.bool (mayB x d)) ∧ Below W.heap.size W w') :
    Calls Try.prog 5 #[.agg (thC x), .int .i64 d] w fun e w' => e = .returned (.bool true) ∧ Below w.heap.size w w' := by
  have CZ := hide (fun W => szThing_any x 1048576 (by omega) hv W)
  have CT := hide (fun W => toThing_any x W)
  have CS := hide (fun W => specMay_any x d W)
  replace CI := hide CI
  generalize mayB x d = r at *
  obtain ⟨id, kind, hid, fix, sgn, wrp, val, nxt⟩ := x
  unfold thC at CZ CT CS CI ⊢
  simp only at CZ CT CS CI hv ⊢
  clear hv
  go_enter Try.func5, Try.ntmps5
  go_wp2_with fail
  obtain ⟨W, hW, P1, hB, hs1⟩ := one_cb w #[.int .i64 id, .int .i64 kind, .bool hid, .bool fix, .bool sgn, .bool wrp, .string val, .int .i64 nxt] 37
  rw [hW]
  clear hW
  refine (unhide CZ W).mono ?_
  rintro e w1 ⟨⟨z, rfl, hz⟩, hb1⟩
  have T1 := hB.trans (hb1.mono hB.size)
  have P1a := P1.step hb1
  clear CZ hb1 P1 hB
  rcases hz with ⟨hz, _⟩ | ⟨hz, hz2⟩
  · clear CI CT CS P1a
    go_wp2
    go_ret
    exact ⟨rfl, T1⟩
  have hz' : ¬ z < 0 := by omega
  replace CI := hide (unhide CI (by omega))
  clear hz hz2
  have q0 := P1a.cell 0 rfl
  have q1 := P1a.cell 1 rfl
  have q2 := P1a.cell 2 rfl
  have q3 := P1a.cell 3 rfl
  have q4 := P1a.cell 4 rfl
  have q5 := P1a.cell 5 rfl
  have q6 := P1a.cell 6 rfl
  have q7 := P1a.cell 7 rfl
  go_wp2_with fail
  refine (unhide CT w1).mono ?_
  rintro e w2 ⟨rfl, hb2⟩
  have T2 := T1.trans (hb2.mono T1.size)
  have P1b := P1a.step hb2
  clear hb2 T1 P1a
  clear q0 q1 q2 q3 q4 q5 q6 q7
  go_wp2_with fail
  refine (unhide CS w2).mono ?_
  rintro e w3 ⟨rfl, hb3⟩
  have T3 := T2.trans (hb3.mono T2.size)
  have P1c := P1b.step hb3
  clear hb3 T2 P1b CS
  have q0 := P1c.cell 0 rfl
  have q1 := P1c.cell 1 rfl
  have q2 := P1c.cell 2 rfl
  have q3 := P1c.cell 3 rfl
  have q4 := P1c.cell 4 rfl
  have q5 := P1c.cell 5 rfl
  have q6 := P1c.cell 6 rfl
  have q7 := P1c.cell 7 rfl
  go_wp2_with fail
  refine (unhide CT w3).mono ?_
  rintro e w4 ⟨rfl, hb4⟩
  have T4 := T3.trans (hb4.mono T3.size)
  clear hb4 T3 P1c CT
  clear q0 q1 q2 q3 q4 q5 q6 q7
  go_wp2_with fail
  refine (unhide CI w4 T4).mono ?_
  rintro e w5 ⟨rfl, hb5⟩
  have T5 := T4.trans (hb5.mono T4.size)
  clear hb5 T4 CI
  go_wp2
  go_ret
  exact ⟨rfl, T5⟩
set_option maxRecDepth 20000 in
set_option maxHeartbeats 1000000 in
theorem lawDefaults_any (k : Int) (s : ByteArray) (w : World) (CI : s.size ≤ 1048576 → ∀ W : World, Below w.heap.size w W → Calls Try.prog 17 #[.int .i64 k, .string s] W fun e w' => e = .returned (.tuple #[.agg (thC (defT k s)), .bool (defOk k s)]) ∧ Below W.heap.size W w') :
    Calls Try.prog 7 #[.int .i64 k, .string s] w fun e w' => e = .returned (.bool true) ∧ Below w.heap.size w w' := by
  by_cases h1 : (1048576 : Int) < (s.size : Int)
  · go_enter Try.func7, Try.ntmps7
    go_wp2
    go_ret
    exact ⟨rfl, Below.refl _ _⟩
  have ns : s.size ≤ 1048576 := by omega
  have CS := hide (specDefaults_any k s (by omega) w)
  replace CI := hide (CI ns)
  generalize (defT k s) = x at *
  generalize (defOk k s) = r at *
  have CE := hide (fun W => eqThing_any x W)
  obtain ⟨id, kind, hid, fix, sgn, wrp, val, nxt⟩ := x
  unfold thC at CS CI CE
  simp only at CS CI CE
  go_enter Try.func7, Try.ntmps7
  go_wp2_with fail
  refine (unhide CS).mono ?_
  rintro e w1 ⟨rfl, hb1⟩
  go_wp2_with fail
  obtain ⟨W2, hW, P1, hB, hs1⟩ := one_cb w1 #[.int .i64 id, .int .i64 kind, .bool hid, .bool fix, .bool sgn, .bool wrp, .string val, .int .i64 nxt] 25
  rw [hW]
  clear hW
  have T2 := hb1.trans (hB.mono hb1.size)
  clear hb1 hB CS
  refine (unhide CI W2 T2).mono ?_
  rintro e w3 ⟨rfl, hb3⟩
  have T3 := T2.trans (hb3.mono T2.size)
  have P1b := P1.step hb3
  clear hb3 T2 P1 CI
  have q0 := P1b.cell 0 rfl
  have q1 := P1b.cell 1 rfl
  have q2 := P1b.cell 2 rfl
  have q3 := P1b.cell 3 rfl
  have q4 := P1b.cell 4 rfl
  have q5 := P1b.cell 5 rfl
  have q6 := P1b.cell 6 rfl
  have q7 := P1b.cell 7 rfl
  have hl13 := P1b.lt
  go_wp2_with fail
  obtain ⟨W4, hW, P2, hB, hs4⟩ := one_cb w3 #[.int .i64 id, .int .i64 kind, .bool hid, .bool fix, .bool sgn, .bool wrp, .string val, .int .i64 nxt] 25
  first | rw [hW] | skip
  clear hW
  have T4 := T3.trans (hB.mono T3.size)
  clear hB T3
  refine (unhide CE W4).mono ?_
  rintro e w5 ⟨rfl, hb5⟩
  have T5 := T4.trans (hb5.mono T4.size)
  clear hb5 T4 CE P1b P2
  clear q0 q1 q2 q3 q4 q5 q6 q7
  go_wp2
  go_ret
  exact ⟨rfl, T5⟩
set_option maxRecDepth 20000 in
set_option maxHeartbeats 1000000 in
theorem lawChange_any (x : Th) (h f : Bool) (hv : x.val.size ≤ maxLen) (w : World) (CI : x.val.size ≤ 1048576 → ∀ W : World, Below w.heap.size w W → Calls Try.prog 11 #[.agg (thC x), .bool h, .bool f] W fun e w' => e = .returned (.tuple #[.agg (thC (chgT x h f)), .bool (chgOk x h f)]) ∧ Below W.heap.size W w') :
    Calls Try.prog 6 #[.agg (thC x), .bool h, .bool f] w fun e w' => e = .returned (.bool true) ∧ Below w.heap.size w w' := by
  have CZ := hide (fun W => szThing_any x 1048576 (by omega) hv W)
  have CT := hide (fun W => toThing_any x W)
  have CS := hide (fun W => specChange_any x h f W)
  replace CI := hide CI
  generalize (chgT x h f) = y at *
  generalize (chgOk x h f) = r at *
  have CE := hide (fun W => eqThing_any y W)
  obtain ⟨id, kind, hid, fix, sgn, wrp, val, nxt⟩ := x
  obtain ⟨yi, yk, yh, yf, ys, yw, yv, yn⟩ := y
  unfold thC at CZ CT CS CI CE ⊢
  simp only at CZ CT CS CI CE hv ⊢
  clear hv
  go_enter Try.func6, Try.ntmps6
  go_wp2_with fail
  obtain ⟨W, hW, P1, hB, hs1⟩ := one_cb w #[.int .i64 id, .int .i64 kind, .bool hid, .bool fix, .bool sgn, .bool wrp, .string val, .int .i64 nxt] 37
  rw [hW]
  clear hW
  refine (unhide CZ W).mono ?_
  rintro e w1 ⟨⟨z, rfl, hz⟩, hb1⟩
  have T1 := hB.trans (hb1.mono hB.size)
  have P1a := P1.step hb1
  clear CZ hb1 P1 hB
  rcases hz with ⟨hz, _⟩ | ⟨hz, hz2⟩
  · clear CI CT CS P1a
    go_wp2
    go_ret
    exact ⟨rfl, T1⟩
  have hz' : ¬ z < 0 := by omega
  replace CI := hide (unhide CI (by omega))
  clear hz hz2
  have q0 := P1a.cell 0 rfl
  have q1 := P1a.cell 1 rfl
  have q2 := P1a.cell 2 rfl
  have q3 := P1a.cell 3 rfl
  have q4 := P1a.cell 4 rfl
  have q5 := P1a.cell 5 rfl
  have q6 := P1a.cell 6 rfl
  have q7 := P1a.cell 7 rfl
  go_wp2_with fail
  refine (unhide CT w1).mono ?_
  rintro e w2 ⟨rfl, hb2⟩
  have T2 := T1.trans (hb2.mono T1.size)
  have P1b := P1a.step hb2
  clear hb2 T1 P1a
  clear q0 q1 q2 q3 q4 q5 q6 q7
  go_wp2_with fail
  refine (unhide CS w2).mono ?_
  rintro e w3 ⟨rfl, hb3⟩
  have T3 := T2.trans (hb3.mono T2.size)
  have P1c := P1b.step hb3
  clear hb3 T2 P1b CS
  have q0 := P1c.cell 0 rfl
  have q1 := P1c.cell 1 rfl
  have q2 := P1c.cell 2 rfl
  have q3 := P1c.cell 3 rfl
  have q4 := P1c.cell 4 rfl
  have q5 := P1c.cell 5 rfl
  have q6 := P1c.cell 6 rfl
  have q7 := P1c.cell 7 rfl
  have hl13 := P1c.lt
  go_wp2_with fail
  obtain ⟨W4, hW, P2, hB, hs4⟩ := one_cb w3 #[.int .i64 yi, .int .i64 yk, .bool yh, .bool yf, .bool ys, .bool yw, .string yv, .int .i64 yn] 25
  rw [hW]
  clear hW
  have T4 := T3.trans (hB.mono T3.size)
  clear hB T3 P1c
  clear q0 q1 q2 q3 q4 q5 q6 q7
  refine (unhide CT W4).mono ?_
  rintro e w5 ⟨rfl, hb5⟩
  have T5 := T4.trans (hb5.mono T4.size)
  have P2a := P2.step hb5
  clear hb5 T4 P2 CT
  go_wp2_with fail
  refine (unhide CI w5 T5).mono ?_
  rintro e w6 ⟨rfl, hb6⟩
  have T6 := T5.trans (hb6.mono T5.size)
  have P2b := P2a.step hb6
  clear hb6 T5 P2a CI
  have q0 := P2b.cell 0 rfl
  have q1 := P2b.cell 1 rfl
  have q2 := P2b.cell 2 rfl
  have q3 := P2b.cell 3 rfl
  have q4 := P2b.cell 4 rfl
  have q5 := P2b.cell 5 rfl
  have q6 := P2b.cell 6 rfl
  have q7 := P2b.cell 7 rfl
  have hl36 := P2b.lt
  go_wp2_with fail
  obtain ⟨W7, hW, P3, hB, hs7⟩ := one_cb w6 #[.int .i64 yi, .int .i64 yk, .bool yh, .bool yf, .bool ys, .bool yw, .string yv, .int .i64 yn] 25
  first | rw [hW] | skip
  clear hW
  have T7 := T6.trans (hB.mono T6.size)
  clear hB T6
  refine (unhide CE W7).mono ?_
  rintro e w8 ⟨rfl, hb8⟩
  have T8 := T7.trans (hb8.mono T7.size)
  clear hb8 T7 CE P2b P3
  clear q0 q1 q2 q3 q4 q5 q6 q7
  go_wp2
  go_ret
  exact ⟨rfl, T8⟩
set_option maxRecDepth 20000 in
set_option maxHeartbeats 1000000 in
theorem lawRestored_any (x : Th) (hv : x.val.size ≤ maxLen) (w : World) (CI : x.val.size ≤ 1048576 → ∀ W : World, Below w.heap.size w W → Calls Try.prog 20 #[.agg (thC x)] W fun e w' => e = .returned (.agg (thC (rstT x))) ∧ Below W.heap.size W w') :
    Calls Try.prog 8 #[.agg (thC x)] w fun e w' => e = .returned (.bool true) ∧ Below w.heap.size w w' := by
  have CZ := hide (fun W => szThing_any x 1048576 (by omega) hv W)
  have CT := hide (fun W => toThing_any x W)
  have CS := hide (fun W => specRestored_any x W)
  replace CI := hide CI
  generalize (rstT x) = y at *
  have CE := hide (fun W => eqThing_any y W)
  obtain ⟨id, kind, hid, fix, sgn, wrp, val, nxt⟩ := x
  obtain ⟨yi, yk, yh, yf, ys, yw, yv, yn⟩ := y
  unfold thC at CZ CT CS CI CE ⊢
  simp only at CZ CT CS CI CE hv ⊢
  clear hv
  go_enter Try.func8, Try.ntmps8
  go_wp2_with fail
  obtain ⟨W, hW, P1, hB, hs1⟩ := one_cb w #[.int .i64 id, .int .i64 kind, .bool hid, .bool fix, .bool sgn, .bool wrp, .string val, .int .i64 nxt] 37
  rw [hW]
  clear hW
  refine (unhide CZ W).mono ?_
  rintro e w1 ⟨⟨z, rfl, hz⟩, hb1⟩
  have T1 := hB.trans (hb1.mono hB.size)
  have P1a := P1.step hb1
  clear CZ hb1 P1 hB
  rcases hz with ⟨hz, _⟩ | ⟨hz, hz2⟩
  · clear CI CT CS P1a
    go_wp2
    go_ret
    exact ⟨rfl, T1⟩
  have hz' : ¬ z < 0 := by omega
  replace CI := hide (unhide CI (by omega))
  clear hz hz2
  have q0 := P1a.cell 0 rfl
  have q1 := P1a.cell 1 rfl
  have q2 := P1a.cell 2 rfl
  have q3 := P1a.cell 3 rfl
  have q4 := P1a.cell 4 rfl
  have q5 := P1a.cell 5 rfl
  have q6 := P1a.cell 6 rfl
  have q7 := P1a.cell 7 rfl
  go_wp2_with fail
  refine (unhide CT w1).mono ?_
  rintro e w2 ⟨rfl, hb2⟩
  have T2 := T1.trans (hb2.mono T1.size)
  have P1b := P1a.step hb2
  clear hb2 T1 P1a
  clear q0 q1 q2 q3 q4 q5 q6 q7
  go_wp2_with fail
  refine (unhide CS w2).mono ?_
  rintro e w3 ⟨rfl, hb3⟩
  have T3 := T2.trans (hb3.mono T2.size)
  have P1c := P1b.step hb3
  clear hb3 T2 P1b CS
  have q0 := P1c.cell 0 rfl
  have q1 := P1c.cell 1 rfl
  have q2 := P1c.cell 2 rfl
  have q3 := P1c.cell 3 rfl
  have q4 := P1c.cell 4 rfl
  have q5 := P1c.cell 5 rfl
  have q6 := P1c.cell 6 rfl
  have q7 := P1c.cell 7 rfl
  have hl13 := P1c.lt
  go_wp2_with fail
  obtain ⟨W4, hW, P2, hB, hs4⟩ := one_cb w3 #[.int .i64 yi, .int .i64 yk, .bool yh, .bool yf, .bool ys, .bool yw, .string yv, .int .i64 yn] 25
  rw [hW]
  clear hW
  have T4 := T3.trans (hB.mono T3.size)
  clear hB T3 P1c
  clear q0 q1 q2 q3 q4 q5 q6 q7
  refine (unhide CT W4).mono ?_
  rintro e w5 ⟨rfl, hb5⟩
  have T5 := T4.trans (hb5.mono T4.size)
  have P2a := P2.step hb5
  clear hb5 T4 P2 CT
  go_wp2_with fail
  refine (unhide CI w5 T5).mono ?_
  rintro e w6 ⟨rfl, hb6⟩
  have T6 := T5.trans (hb6.mono T5.size)
  have P2b := P2a.step hb6
  clear hb6 T5 P2a CI
  have q0 := P2b.cell 0 rfl
  have q1 := P2b.cell 1 rfl
  have q2 := P2b.cell 2 rfl
  have q3 := P2b.cell 3 rfl
  have q4 := P2b.cell 4 rfl
  have q5 := P2b.cell 5 rfl
  have q6 := P2b.cell 6 rfl
  have q7 := P2b.cell 7 rfl
  have hl36 := P2b.lt
  go_wp2_with fail
  obtain ⟨W7, hW, P3, hB, hs7⟩ := one_cb w6 #[.int .i64 yi, .int .i64 yk, .bool yh, .bool yf, .bool ys, .bool yw, .string yv, .int .i64 yn] 25
  first | rw [hW] | skip
  clear hW
  have T7 := T6.trans (hB.mono T6.size)
  clear hB T6
  refine (unhide CE W7).mono ?_
  rintro e w8 ⟨rfl, hb8⟩
  have T8 := T7.trans (hb8.mono T7.size)
  clear hb8 T7 CE P2b P3
  clear q0 q1 q2 q3 q4 q5 q6 q7
  go_wp2
  go_ret
  exact ⟨rfl, T8⟩
end Go.Proofs.Ytecbpplocokedaa
