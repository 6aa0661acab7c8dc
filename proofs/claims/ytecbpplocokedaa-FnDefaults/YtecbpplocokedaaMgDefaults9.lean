/- Merged: DrRul, Rul1, Rul2, Rul3, LawDef. -/
import Derived.Test.YtecbpplocokedaaMgDefaults1
import Derived.Test.YtecbpplocokedaaMgDefaults2
import Derived.Test.YtecbpplocokedaaMgDefaults3
import Derived.Test.YtecbpplocokedaaMgDefaults4
import Derived.Test.YtecbpplocokedaaMgDefaults5
import Derived.Test.YtecbpplocokedaaMgDefaults6
import Derived.Test.YtecbpplocokedaaMgDefaults7
import Derived.Test.YtecbpplocokedaaMgDefaults8
import Derived.Deep.DeepCutAuto
/- Draws of the rules' laws: a thing and two flags, a kind and a text, a thing, over the loaded program. -/
namespace Go.Proofs.Ytecbpplocokedaa
open Go.RowKit
theorem results_cb_tt {P : Program} {fn : Func} {p u v : Tmp} {ty : TypeId} (h : fn.results = #[.cell p ty, .tmp u, .tmp v]) (tmps : Array Value) (w : World) (g : Nat) (T : TypeId) (cs : Array Value) (fs : Array Field)
    (hp : tmps.getD p undef = .pointer (some ⟨g, 0, none⟩)) (hA : CB w g T cs) (hu : P.underlying ty = some (.struct fs)) (hi : (P.info? ty).map (·.size) = some cs.size) :
    (results fn tmps).run P w = .ok (.tuple #[.agg cs, tmps.getD u undef, tmps.getD v undef]) w := by
  have hp' : tmps[p]?.getD undef = .pointer (some ⟨g, 0, none⟩) := by simpa using hp
  simp [results, h, hp', asAddr, Result.andThen, run_loadVar_row w g T ty cs (0, 0) (.struct fs) hA hu rfl hi]
set_option maxRecDepth 20000 in
set_option maxHeartbeats 2000000 in
theorem drawRestored_any (w : World) (o : Option Addr) (n c : Nat) (hs : Src w w.heap.size o n) (hn : n ≤ 1048576) :
    Calls Try.prog 19 #[.slice o n c] w fun e w' => ∃ x : Th, DrT x ∧ e = .returned (.agg (thC x)) ∧ Below w.heap.size w w' := by
  obtain ⟨W, hW, hR, hb, hlt⟩ := one_cb w (thC thZ) 25
  unfold thC thZ at hW
  simp only at hW
  have hS := (hs.below hb (Nat.le_refl _)).up (show w.heap.size ≤ W.heap.size by omega)
  clear hs
  go_enter Try.func19, Try.ntmps19
  go_wp2_with fail
  refine (l01New_any W o n c hS hn).mono ?_
  rintro e w1 ⟨rfl, hb1, hC1⟩
  have hR1 := hR.step hb1
  have hB1 := hb.trans (hb1.mono hb.size)
  clear hR hb hb1 hW hS
  go_wp2_with fail
  refine (l19Any_any hC1 hn).mono ?_
  rintro e w2 ⟨x, hD, rfl, hG2, hC2⟩
  have hR2 := hide (hR1.grown hG2 (by simp; omega))
  have hB2 := hide (hB1.grown hG2 hB1.size (fun k hk => by cases hk; omega))
  clear hR1 hB1 hG2 hC1 hC2
  go_wp2_with (refine wpList_store_row rfl 25 (.tmp 2) (.tmp 5) rfl w.heap.size (thC x) rfl rfl 25 (thC thZ) (unhide hR2) (th_size x) rfl (th_one x) ?_)
  have hR5 := setRow_heap _ w.heap.size _ (thC x) 25 (0, 0) (unhide hR2)
  have hB5 := Go.below_setRow (unhide hB2) (Nat.le_refl _) (thC x)
  exact bodyPost_ret (results_cb (by exact Try.results19) _ _ w.heap.size 25 (thC x) _ rfl hR5 Try.underlying25 (th_size x)) rfl ⟨x, hD, rfl, hB5⟩
set_option maxRecDepth 20000 in
set_option maxHeartbeats 2000000 in
theorem drawChange_any (w : World) (o : Option Addr) (n c : Nat) (hs : Src w w.heap.size o n) (hn : n ≤ 1048576) :
    Calls Try.prog 10 #[.slice o n c] w fun e w' => ∃ (x : Th) (h f : Bool), DrT x ∧ e = .returned (.tuple #[.agg (thC x), .bool h, .bool f]) ∧ Below w.heap.size w w' := by
  obtain ⟨W, hW, hR, hb, hlt⟩ := one_cb w (thC thZ) 25
  unfold thC thZ at hW
  simp only at hW
  have hS := (hs.below hb (Nat.le_refl _)).up (show w.heap.size ≤ W.heap.size by omega)
  clear hs
  go_enter Try.func10, Try.ntmps10
  go_wp2_with fail
  refine (l01New_any W o n c hS hn).mono ?_
  rintro e w1 ⟨rfl, hb1, hC1⟩
  have hR1 := hR.step hb1
  have hB1 := hb.trans (hb1.mono hb.size)
  clear hR hb hb1 hW hS
  go_wp2_with fail
  refine (l19Any_any hC1 hn).mono ?_
  rintro e w2 ⟨x, hD, rfl, hG2, hC2⟩
  have hR2 := hR1.grown hG2 (by simp; omega)
  have hB2 := hB1.grown hG2 hB1.size (fun k hk => by cases hk; omega)
  clear hR1 hB1 hG2 hC1
  go_wp2_with fail
  refine (l01Once_any hC2 hn 2 (by decide) (by decide)).mono ?_
  rintro e w3 ⟨h, rfl, ho3, hC3⟩
  have hR3 := hR2.only ho3 (by omega)
  have hB3 := hB2.grown (gO ho3) hB2.size (fun k hk => by cases hk; omega)
  clear hR2 hB2 ho3 hC2
  go_wp2_with fail
  refine (l01Once_any hC3 hn 2 (by decide) (by decide)).mono ?_
  rintro e w4 ⟨f, rfl, ho4, hC4⟩
  have hR4 := hide (hR3.only ho4 (by omega))
  have hB4 := hide (hB3.grown (gO ho4) hB3.size (fun k hk => by cases hk; omega))
  clear hR3 hB3 ho4 hC3 hC4
  go_wp2_with (refine wpList_store_row rfl 25 (.tmp 2) (.tmp 9) rfl w.heap.size (thC x) rfl rfl 25 (thC thZ) (unhide hR4) (th_size x) rfl (th_one x) ?_)
  have hR5 := setRow_heap _ w.heap.size _ (thC x) 25 (0, 0) (unhide hR4)
  have hB5 := Go.below_setRow (unhide hB4) (Nat.le_refl _) (thC x)
  exact bodyPost_ret (results_cb_tt (by exact Try.results10) _ _ w.heap.size 25 (thC x) _ rfl hR5 Try.underlying25 (th_size x)) rfl ⟨x, h, f, hD, rfl, hB5⟩
set_option maxRecDepth 20000 in
set_option maxHeartbeats 2000000 in
theorem drawDefaults_any (w : World) (o : Option Addr) (n c : Nat) (hs : Src w w.heap.size o n) (hn : n ≤ 1048576) :
    Calls Try.prog 16 #[.slice o n c] w fun e w' => ∃ (k : Int) (s : ByteArray), s.size ≤ 101 ∧ e = .returned (.tuple #[.int .i64 k, .string s]) ∧ Below w.heap.size w w' := by
  have HS := hide hs
  clear hs
  go_enter Try.func16, Try.ntmps16
  go_wp2_with fail
  refine (l01New_any w o n c (unhide HS) hn).mono ?_
  rintro e w1 ⟨rfl, hb1, hc1⟩
  obtain ⟨g, hg⟩ : ∃ g, g = w.heap.size := ⟨_, rfl⟩
  rw [← hg] at hc1 ⊢
  have hgle : w.heap.size ≤ g := by omega
  clear HS hg
  go_wp2_with fail
  refine (l01Once_any hc1 hn 8 (by decide) (by decide)).mono ?_
  rintro e w2 ⟨b, rfl, ho2, hc2⟩
  have hb2 := hb1.grown (gO ho2) hb1.size (fun k hk => by cases hk; exact hgle)
  clear hc1 hb1 ho2
  cases b with
  | true =>
    go_wp2_with fail
    refine (l01Place_v hc2 hn 4 (by omega) (by omega)).mono ?_
    rintro e w3 ⟨i, rfl, g3, hc3⟩
    have hb3 := hb2.grown g3 hb2.size (fun k hk => by cases hk; exact hgle)
    clear hc2 hb2 g3
    go_wp2_with fail
    refine (l01Below_any hc3 hn 2 (by decide) (by decide)).mono ?_
    rintro e w4 ⟨x, hx, rfl, ho4, hc4⟩
    have hb4 := hb3.grown (gO ho4) hb3.size (fun k hk => by cases hk; exact hgle)
    clear hc3 hb3 ho4 hc4
    obtain ⟨m, hm⟩ : ∃ m : Nat, m = 100 + x := ⟨_, rfl⟩
    have u1 : (100 : Int) + (x : Int) = (m : Int) := by omega
    have CL := hide (l01Long0_any m 65 w4 (by omega) (by decide))
    have hm2 : m ≤ 101 := by omega
    replace hm := hide hm
    go_wp2_with fail
    refine (unhide CL).mono ?_
    rintro e w5 ⟨l, hl, rfl, hb5⟩
    have hT := hb4.trans (hb5.mono hb4.size)
    have hz : (ByteArray.mk l.toArray).size ≤ 101 := by show l.toArray.size ≤ 101; simp; omega
    clear hb4 hb5 CL
    go_wp2
    refine bodyPost_ret (v := .tuple #[.int .i64 i, .string ⟨l.toArray⟩]) (by simp [results, Try.results16, go_sem]) rfl ⟨i, _, hz, rfl, hT⟩
  | false =>
    go_wp2_with fail
    refine (l01Place_v hc2 hn 4 (by omega) (by omega)).mono ?_
    rintro e w3 ⟨i, rfl, g3, hc3⟩
    have hb3 := hb2.grown g3 hb2.size (fun k hk => by cases hk; exact hgle)
    clear hc2 hb2 g3
    go_wp2_with fail
    refine (l01Below_any hc3 hn 9 (by decide) (by decide)).mono ?_
    rintro e w4 ⟨x, hx, rfl, ho4, hc4⟩
    have hb4 := hb3.grown (gO ho4) hb3.size (fun k hk => by cases hk; exact hgle)
    clear hc3 hb3 ho4
    go_wp2_with fail
    refine (l01Text_g hc4 hn x (by omega)).mono ?_
    rintro e w5 ⟨l, hl, rfl, g5, hc5⟩
    have hT := hb4.grown g5 hb4.size (fun k hk => by cases hk; exact hgle)
    have hz : (ByteArray.mk l.toArray).size ≤ 101 := by show l.toArray.size ≤ 101; simp; omega
    clear hc4 hb4 g5 hc5
    go_wp2
    refine bodyPost_ret (v := .tuple #[.int .i64 i, .string ⟨l.toArray⟩]) (by simp [results, Try.results16, go_sem]) rfl ⟨i, _, hz, rfl, hT⟩
end Go.Proofs.Ytecbpplocokedaa

/- Rules by the given model, over the loaded program. -/
namespace Go.Proofs.Ytecbpplocokedaa
open Go.RowKit
set_option maxRecDepth 20000 in
set_option maxHeartbeats 2000000 in
theorem specMay_any (x : Th) (d : Int) (w : World) :
    Calls Try.prog 14 #[.agg (thC x), .int .i64 d] w fun e w' => e = .returned (.bool (mayB x d)) ∧ Below w.heap.size w w' := by
  have CO := hide (fun W => specThingOk_any x W)
  have E : mayB x d = if thOk x = true then (if d = 1 then !x.hid else if d = 2 then (!x.fix && decide (x.kind ≠ 2)) else if d = 3 then x.sgn else if d = 4 then x.wrp else decide (d = 5)) else false := rfl
  rw [E]
  clear E
  generalize thOk x = ok at *
  obtain ⟨id, kind, hid, fix, sgn, wrp, val, nxt⟩ := x
  unfold thC at CO ⊢
  simp only at CO ⊢
  obtain ⟨W, hW, hC, hb, hlt⟩ := one_cb w #[.int .i64 id, .int .i64 kind, .bool hid, .bool fix, .bool sgn, .bool wrp, .string val, .int .i64 nxt] 25
  have a0 := hC.cell 0 rfl
  have a1 := hC.cell 1 rfl
  have a2 := hC.cell 2 rfl
  have a3 := hC.cell 3 rfl
  have a4 := hC.cell 4 rfl
  have a5 := hC.cell 5 rfl
  have a6 := hC.cell 6 rfl
  have a7 := hC.cell 7 rfl
  have HD := hide (fun (W' : World) (h : Below W.heap.size W W') => hC.below h hlt)
  clear hC
  cases ok with
  | false =>
    go_enter Try.func14, Try.ntmps14
    go_wp2_with fail
    refine (unhide CO W).mono ?_
    rintro e w1 ⟨rfl, hb1⟩
    have hT := hb.trans (hb1.mono hb.size)
    clear a0 a1 a2 a3 a4 a5 a6 a7 hb hb1 HD
    go_wp2
    go_ret
    exact ⟨rfl, hT⟩
  | true =>
    by_cases h1 : d = 1
    · subst h1
      go_enter Try.func14, Try.ntmps14
      go_wp2_with fail
      refine (unhide CO W).mono ?_
      rintro e w1 ⟨rfl, hb1⟩
      have hT := hb.trans (hb1.mono hb.size)
      have hC1 := unhide HD w1 hb1
      have d1 := hC1.cell 1 rfl
      have d2 := hC1.cell 2 rfl
      have d3 := hC1.cell 3 rfl
      have d4 := hC1.cell 4 rfl
      have d5 := hC1.cell 5 rfl
      clear a0 a1 a2 a3 a4 a5 a6 a7 hb hb1 HD hC1
      go_wp2
      go_ret
      exact ⟨rfl, hT⟩
    by_cases h2 : d = 2
    · subst h2
      cases fix with
      | true =>
        go_enter Try.func14, Try.ntmps14
        go_wp2_with fail
        refine (unhide CO W).mono ?_
        rintro e w1 ⟨rfl, hb1⟩
        have hT := hb.trans (hb1.mono hb.size)
        have hC1 := unhide HD w1 hb1
        have d1 := hC1.cell 1 rfl
        have d2 := hC1.cell 2 rfl
        have d3 := hC1.cell 3 rfl
        have d4 := hC1.cell 4 rfl
        have d5 := hC1.cell 5 rfl
        clear a0 a1 a2 a3 a4 a5 a6 a7 hb hb1 HD hC1
        go_wp2
        go_ret
        exact ⟨rfl, hT⟩
      | false =>
        by_cases hk : kind = 2
        · subst hk
          go_enter Try.func14, Try.ntmps14
          go_wp2_with fail
          refine (unhide CO W).mono ?_
          rintro e w1 ⟨rfl, hb1⟩
          have hT := hb.trans (hb1.mono hb.size)
          have hC1 := unhide HD w1 hb1
          have d1 := hC1.cell 1 rfl
          have d2 := hC1.cell 2 rfl
          have d3 := hC1.cell 3 rfl
          have d4 := hC1.cell 4 rfl
          have d5 := hC1.cell 5 rfl
          clear a0 a1 a2 a3 a4 a5 a6 a7 hb hb1 HD hC1
          go_wp2
          go_ret
          exact ⟨rfl, hT⟩
        · have hk' : (kind == 2) = false := by rw [beq_eq_false_iff_ne]; exact hk
          have hk2 : decide (kind ≠ 2) = true := decide_eq_true hk
          go_enter Try.func14, Try.ntmps14
          go_wp2_with fail
          refine (unhide CO W).mono ?_
          rintro e w1 ⟨rfl, hb1⟩
          have hT := hb.trans (hb1.mono hb.size)
          have hC1 := unhide HD w1 hb1
          have d1 := hC1.cell 1 rfl
          have d2 := hC1.cell 2 rfl
          have d3 := hC1.cell 3 rfl
          have d4 := hC1.cell 4 rfl
          have d5 := hC1.cell 5 rfl
          clear a0 a1 a2 a3 a4 a5 a6 a7 hb hb1 HD hC1
          go_wp2
          go_ret
          exact ⟨by simp [hk], hT⟩
    by_cases h3 : d = 3
    · subst h3
      go_enter Try.func14, Try.ntmps14
      go_wp2_with fail
      refine (unhide CO W).mono ?_
      rintro e w1 ⟨rfl, hb1⟩
      have hT := hb.trans (hb1.mono hb.size)
      have hC1 := unhide HD w1 hb1
      have d1 := hC1.cell 1 rfl
      have d2 := hC1.cell 2 rfl
      have d3 := hC1.cell 3 rfl
      have d4 := hC1.cell 4 rfl
      have d5 := hC1.cell 5 rfl
      clear a0 a1 a2 a3 a4 a5 a6 a7 hb hb1 HD hC1
      go_wp2
      go_ret
      exact ⟨rfl, hT⟩
    by_cases h4 : d = 4
    · subst h4
      go_enter Try.func14, Try.ntmps14
      go_wp2_with fail
      refine (unhide CO W).mono ?_
      rintro e w1 ⟨rfl, hb1⟩
      have hT := hb.trans (hb1.mono hb.size)
      have hC1 := unhide HD w1 hb1
      have d1 := hC1.cell 1 rfl
      have d2 := hC1.cell 2 rfl
      have d3 := hC1.cell 3 rfl
      have d4 := hC1.cell 4 rfl
      have d5 := hC1.cell 5 rfl
      clear a0 a1 a2 a3 a4 a5 a6 a7 hb hb1 HD hC1
      go_wp2
      go_ret
      exact ⟨rfl, hT⟩
    by_cases h5 : d = 5
    · subst h5
      go_enter Try.func14, Try.ntmps14
      go_wp2_with fail
      refine (unhide CO W).mono ?_
      rintro e w1 ⟨rfl, hb1⟩
      have hT := hb.trans (hb1.mono hb.size)
      have hC1 := unhide HD w1 hb1
      have d1 := hC1.cell 1 rfl
      have d2 := hC1.cell 2 rfl
      have d3 := hC1.cell 3 rfl
      have d4 := hC1.cell 4 rfl
      have d5 := hC1.cell 5 rfl
      clear a0 a1 a2 a3 a4 a5 a6 a7 hb hb1 HD hC1
      go_wp2
      go_ret
      exact ⟨rfl, hT⟩
    go_enter Try.func14, Try.ntmps14
    go_wp2_with fail
    refine (unhide CO W).mono ?_
    rintro e w1 ⟨rfl, hb1⟩
    have hT := hb.trans (hb1.mono hb.size)
    have hC1 := unhide HD w1 hb1
    have d1 := hC1.cell 1 rfl
    have d2 := hC1.cell 2 rfl
    have d3 := hC1.cell 3 rfl
    have d4 := hC1.cell 4 rfl
    have d5 := hC1.cell 5 rfl
    clear a0 a1 a2 a3 a4 a5 a6 a7 hb hb1 HD hC1
    go_wp2
    go_ret
    exact ⟨by simp [h5], hT⟩
end Go.Proofs.Ytecbpplocokedaa

/- Rules by the given model: what is changed, what comes in again, new things, over the loaded program. -/
namespace Go.Proofs.Ytecbpplocokedaa
open Go.RowKit
set_option maxRecDepth 20000 in
set_option maxHeartbeats 4000000 in
theorem specChange_any (x : Th) (h f : Bool) (w : World) :
    Calls Try.prog 23 #[.agg (thC x), .bool h, .bool f] w fun e w' => e = .returned (.tuple #[.agg (thC (chgT x h f)), .bool (chgOk x h f)]) ∧ Below w.heap.size w w' := by
  have CO := hide (fun W => specThingOk_any x W)
  have HO : chgOk x h f = true ↔ thOk x = true ∧ (x.hid = true → h = true) ∧ (x.fix = true → f = true) := by unfold chgOk; exact decide_eq_true_iff
  have ET : chgT x h f = if chgOk x h f = true then { x with hid := h, fix := f } else thZ := rfl
  rw [ET]
  clear ET
  generalize chgOk x h f = fin at *
  generalize thOk x = ok at *
  obtain ⟨id, kind, hid, fix, sgn, wrp, val, nxt⟩ := x
  unfold thC at CO
  simp only at CO HO ⊢
  obtain ⟨W, hW, hA, hR, hb, hlt⟩ := two_cb w #[.int .i64 id, .int .i64 kind, .bool hid, .bool fix, .bool sgn, .bool wrp, .string val, .int .i64 nxt] (thC thZ) 25 25
  unfold thC thZ at hW
  simp only at hW
  have a0 := hA.cell 0 rfl
  have a1 := hA.cell 1 rfl
  have a2 := hA.cell 2 rfl
  have a3 := hA.cell 3 rfl
  have a4 := hA.cell 4 rfl
  have a5 := hA.cell 5 rfl
  have a6 := hA.cell 6 rfl
  have a7 := hA.cell 7 rfl
  replace hA := hide hA; replace hR := hide hR
  have hxe : thC ⟨id, kind, hid, fix, sgn, wrp, val, nxt⟩ = #[.int .i64 id, .int .i64 kind, .bool hid, .bool fix, .bool sgn, .bool wrp, .string val, .int .i64 nxt] := rfl
  rw [hxe]
  go_enter Try.func23, Try.ntmps23
  go_wp2_with fail
  refine (unhide CO W).mono ?_
  rintro e w1 ⟨rfl, hb1⟩
  have hA1 := (unhide hA).below hb1 (by omega)
  have hR1 := hide ((unhide hR).below hb1 (by omega))
  have hB1 := hide (hb.trans (hb1.mono hb.size))
  clear a0 a1 a2 a3 a4 a5 a6 a7 hA hR hb hb1 CO hW hxe
  have b2 := hA1.cell 2 rfl
  have b3 := hA1.cell 3 rfl
  have z2 := hA1.frozen 2
  have hX2 := hA1.set 2 (.bool h)
  have c3 := hX2.cell 3 rfl
  have z3 := hX2.frozen 3
  have hX3 := hX2.set 3 (.bool f)
  have hR3 := hide (((unhide hR1).set_other (h := w.heap.size) (k := 2) (by omega) (.bool h)).set_other (h := w.heap.size) (k := 3) (by omega) (.bool f))
  have hB3 := hide (((unhide hB1).setCell (p := ⟨w.heap.size, 2, none⟩) (Nat.le_refl _) (.bool h)).setCell (p := ⟨w.heap.size, 3, none⟩) (Nat.le_refl _) (.bool f))
  obtain ⟨y, hy⟩ : ∃ y : Th, y = ⟨id, kind, h, f, sgn, wrp, val, nxt⟩ := ⟨_, rfl⟩
  have hX4 := hide (cb_eq hX3 (show thC y = _ by rw [hy]; rfl))
  replace hy := hide hy
  clear hA1 hX2 hX3
  cases ok with
  | false =>
    obtain rfl : fin = false := by cases fin with | false => rfl | true => exact absurd (HO.1 rfl) (by simp)
    clear HO hX4 hR3 hB3 c3 z3 z2
    go_wp2_with (refine wpList_store_row rfl 25 (.tmp 6) (.tmp 27) rfl (w.heap.size + 1) (thC thZ) rfl rfl 25 (thC thZ) (unhide hR1) (th_size thZ) rfl (th_one thZ) ?_)
    have hR5 := setRow_heap _ (w.heap.size + 1) _ (thC thZ) 25 (0, 0) (unhide hR1)
    have hB5 := Go.below_setRow (unhide hB1) (show w.heap.size ≤ w.heap.size + 1 by omega) (thC thZ)
    exact bodyPost_ret (results_cb_tmp (by exact Try.results23) _ _ (w.heap.size + 1) 25 (thC thZ) _ rfl hR5 Try.underlying25 (th_size thZ)) rfl ⟨rfl, hB5⟩
  | true =>
    cases hid with
    | true =>
      cases h with
      | false =>
        obtain rfl : fin = false := by cases fin with | false => rfl | true => exact absurd (HO.1 rfl) (by simp)
        clear HO hX4 hR3 hB3 c3 z3 z2
        go_wp2_with (refine wpList_store_row rfl 25 (.tmp 6) (.tmp 27) rfl (w.heap.size + 1) (thC thZ) rfl rfl 25 (thC thZ) (unhide hR1) (th_size thZ) rfl (th_one thZ) ?_)
        have hR5 := setRow_heap _ (w.heap.size + 1) _ (thC thZ) 25 (0, 0) (unhide hR1)
        have hB5 := Go.below_setRow (unhide hB1) (show w.heap.size ≤ w.heap.size + 1 by omega) (thC thZ)
        exact bodyPost_ret (results_cb_tmp (by exact Try.results23) _ _ (w.heap.size + 1) 25 (thC thZ) _ rfl hR5 Try.underlying25 (th_size thZ)) rfl ⟨rfl, hB5⟩
      | true =>
        cases fix with
        | true =>
          cases f with
          | false =>
            obtain rfl : fin = false := by cases fin with | false => rfl | true => exact absurd (HO.1 rfl) (by simp)
            clear HO hX4 hR3 hB3 c3 z3 z2
            go_wp2_with (refine wpList_store_row rfl 25 (.tmp 6) (.tmp 27) rfl (w.heap.size + 1) (thC thZ) rfl rfl 25 (thC thZ) (unhide hR1) (th_size thZ) rfl (th_one thZ) ?_)
            have hR5 := setRow_heap _ (w.heap.size + 1) _ (thC thZ) 25 (0, 0) (unhide hR1)
            have hB5 := Go.below_setRow (unhide hB1) (show w.heap.size ≤ w.heap.size + 1 by omega) (thC thZ)
            exact bodyPost_ret (results_cb_tmp (by exact Try.results23) _ _ (w.heap.size + 1) 25 (thC thZ) _ rfl hR5 Try.underlying25 (th_size thZ)) rfl ⟨rfl, hB5⟩
          | true =>
            obtain rfl : fin = true := HO.2 (by simp)
            clear HO hR1 hB1
            go_wp2_with (first
              | (refine wpList_load_row rfl 25 (.tmp 3) rfl w.heap.size rfl 25 (thC y) (0, 0) _ (unhide hX4) Try.underlying25 rfl (th_size y) ?_)
              | (refine wpList_store_row rfl 25 (.tmp 6) (.tmp 32) rfl (w.heap.size + 1) (thC y) rfl rfl 25 (thC thZ) (unhide hR3) (th_size y) rfl (th_one y) ?_))
            have hR5 := setRow_heap _ (w.heap.size + 1) _ (thC y) 25 (0, 0) (unhide hR3)
            have hB5 := Go.below_setRow (unhide hB3) (show w.heap.size ≤ w.heap.size + 1 by omega) (thC y)
            exact bodyPost_ret (results_cb_tmp (by exact Try.results23) _ _ (w.heap.size + 1) 25 (thC y) _ rfl hR5 Try.underlying25 (th_size y)) rfl ⟨by rw [unhide hy]; rfl, hB5⟩
        | false =>
          obtain rfl : fin = true := HO.2 (by simp)
          clear HO hR1 hB1
          go_wp2_with (first
            | (refine wpList_load_row rfl 25 (.tmp 3) rfl w.heap.size rfl 25 (thC y) (0, 0) _ (unhide hX4) Try.underlying25 rfl (th_size y) ?_)
            | (refine wpList_store_row rfl 25 (.tmp 6) (.tmp 32) rfl (w.heap.size + 1) (thC y) rfl rfl 25 (thC thZ) (unhide hR3) (th_size y) rfl (th_one y) ?_))
          have hR5 := setRow_heap _ (w.heap.size + 1) _ (thC y) 25 (0, 0) (unhide hR3)
          have hB5 := Go.below_setRow (unhide hB3) (show w.heap.size ≤ w.heap.size + 1 by omega) (thC y)
          exact bodyPost_ret (results_cb_tmp (by exact Try.results23) _ _ (w.heap.size + 1) 25 (thC y) _ rfl hR5 Try.underlying25 (th_size y)) rfl ⟨by rw [unhide hy]; rfl, hB5⟩
    | false =>
      cases fix with
      | true =>
        cases f with
        | false =>
          obtain rfl : fin = false := by cases fin with | false => rfl | true => exact absurd (HO.1 rfl) (by simp)
          clear HO hX4 hR3 hB3 c3 z3 z2
          go_wp2_with (refine wpList_store_row rfl 25 (.tmp 6) (.tmp 27) rfl (w.heap.size + 1) (thC thZ) rfl rfl 25 (thC thZ) (unhide hR1) (th_size thZ) rfl (th_one thZ) ?_)
          have hR5 := setRow_heap _ (w.heap.size + 1) _ (thC thZ) 25 (0, 0) (unhide hR1)
          have hB5 := Go.below_setRow (unhide hB1) (show w.heap.size ≤ w.heap.size + 1 by omega) (thC thZ)
          exact bodyPost_ret (results_cb_tmp (by exact Try.results23) _ _ (w.heap.size + 1) 25 (thC thZ) _ rfl hR5 Try.underlying25 (th_size thZ)) rfl ⟨rfl, hB5⟩
        | true =>
          obtain rfl : fin = true := HO.2 (by simp)
          clear HO hR1 hB1
          go_wp2_with (first
            | (refine wpList_load_row rfl 25 (.tmp 3) rfl w.heap.size rfl 25 (thC y) (0, 0) _ (unhide hX4) Try.underlying25 rfl (th_size y) ?_)
            | (refine wpList_store_row rfl 25 (.tmp 6) (.tmp 32) rfl (w.heap.size + 1) (thC y) rfl rfl 25 (thC thZ) (unhide hR3) (th_size y) rfl (th_one y) ?_))
          have hR5 := setRow_heap _ (w.heap.size + 1) _ (thC y) 25 (0, 0) (unhide hR3)
          have hB5 := Go.below_setRow (unhide hB3) (show w.heap.size ≤ w.heap.size + 1 by omega) (thC y)
          exact bodyPost_ret (results_cb_tmp (by exact Try.results23) _ _ (w.heap.size + 1) 25 (thC y) _ rfl hR5 Try.underlying25 (th_size y)) rfl ⟨by rw [unhide hy]; rfl, hB5⟩
      | false =>
        obtain rfl : fin = true := HO.2 (by simp)
        clear HO hR1 hB1
        go_wp2_with (first
          | (refine wpList_load_row rfl 25 (.tmp 3) rfl w.heap.size rfl 25 (thC y) (0, 0) _ (unhide hX4) Try.underlying25 rfl (th_size y) ?_)
          | (refine wpList_store_row rfl 25 (.tmp 6) (.tmp 32) rfl (w.heap.size + 1) (thC y) rfl rfl 25 (thC thZ) (unhide hR3) (th_size y) rfl (th_one y) ?_))
        have hR5 := setRow_heap _ (w.heap.size + 1) _ (thC y) 25 (0, 0) (unhide hR3)
        have hB5 := Go.below_setRow (unhide hB3) (show w.heap.size ≤ w.heap.size + 1 by omega) (thC y)
        exact bodyPost_ret (results_cb_tmp (by exact Try.results23) _ _ (w.heap.size + 1) 25 (thC y) _ rfl hR5 Try.underlying25 (th_size y)) rfl ⟨by rw [unhide hy]; rfl, hB5⟩
set_option maxRecDepth 20000 in
set_option maxHeartbeats 2000000 in
theorem specRestored_any (x : Th) (w : World) :
    Calls Try.prog 25 #[.agg (thC x)] w fun e w' => e = .returned (.agg (thC (rstT x))) ∧ Below w.heap.size w w' := by
  obtain ⟨id, kind, hid, fix, sgn, wrp, val, nxt⟩ := x
  obtain ⟨y, hy⟩ : ∃ y : Th, y = rstT ⟨id, kind, hid, fix, sgn, wrp, val, nxt⟩ := ⟨_, rfl⟩
  rw [← hy]
  have hxe : thC ⟨id, kind, hid, fix, sgn, wrp, val, nxt⟩ = #[.int .i64 id, .int .i64 kind, .bool hid, .bool fix, .bool sgn, .bool wrp, .string val, .int .i64 nxt] := rfl
  rw [hxe]
  obtain ⟨W, hW, hA, hR, hb, hlt⟩ := two_cb w #[.int .i64 id, .int .i64 kind, .bool hid, .bool fix, .bool sgn, .bool wrp, .string val, .int .i64 nxt] (thC thZ) 25 25
  unfold thC thZ at hW
  simp only at hW
  have a4 := hA.cell 4 rfl
  have z4 := hA.frozen 4
  have hX1 := hA.set 4 (.bool false)
  have a7 := hX1.cell 7 rfl
  have z7 := hX1.frozen 7
  have hX2 := hX1.set 7 (.int .i64 0)
  have a0 := hX2.cell 0 rfl
  have z0 := hX2.frozen 0
  have hX3 := hX2.set 0 (.int .i64 0)
  have hX4 := hide (cb_eq hX3 (show thC y = _ by rw [hy]; rfl))
  have hR3 := hide (((hR.set_other (h := w.heap.size) (k := 4) (by omega) (.bool false)).set_other (h := w.heap.size) (k := 7) (by omega) (.int .i64 0)).set_other (h := w.heap.size) (k := 0) (by omega) (.int .i64 0))
  have hB3 := hide (((hb.setCell (p := ⟨w.heap.size, 4, none⟩) (Nat.le_refl _) (.bool false)).setCell (p := ⟨w.heap.size, 7, none⟩) (Nat.le_refl _) (.int .i64 0)).setCell (p := ⟨w.heap.size, 0, none⟩) (Nat.le_refl _) (.int .i64 0))
  replace hy := hide hy
  clear hA hX1 hX2 hX3 hR hb hxe
  go_enter Try.func25, Try.ntmps25
  go_wp2_with (first
    | (refine wpList_load_row rfl 25 (.tmp 1) rfl w.heap.size rfl 25 (thC y) (0, 0) _ (unhide hX4) Try.underlying25 rfl (th_size y) ?_)
    | (refine wpList_store_row rfl 25 (.tmp 2) (.tmp 6) rfl (w.heap.size + 1) (thC y) rfl rfl 25 (thC thZ) (unhide hR3) (th_size y) rfl (th_one y) ?_))
  have hR5 := setRow_heap _ (w.heap.size + 1) _ (thC y) 25 (0, 0) (unhide hR3)
  have hB5 := Go.below_setRow (unhide hB3) (show w.heap.size ≤ w.heap.size + 1 by omega) (thC y)
  exact bodyPost_ret (results_cb (by exact Try.results25) _ _ (w.heap.size + 1) 25 (thC y) _ rfl hR5 Try.underlying25 (th_size y)) rfl ⟨rfl, hB5⟩
set_option maxRecDepth 20000 in
set_option maxHeartbeats 2000000 in
theorem specDefaults_any (k : Int) (s : ByteArray) (hs : s.size ≤ 4000000) (w : World) :
    Calls Try.prog 18 #[.int .i64 k, .string s] w fun e w' => e = .returned (.tuple #[.agg (thC (defT k s)), .bool (defOk k s)]) ∧ Below w.heap.size w w' := by
  have CD := hide (fun W => specDigest_any s hs W)
  have ET : defT k s = if k = 1 then ⟨0, k, true, false, false, true, digB s, 0⟩ else if k = 2 then ⟨0, k, true, false, true, false, digB s, 0⟩ else if k = 3 ∧ s.size ≤ 100 then ⟨0, k, false, false, false, false, s, 0⟩ else thZ := rfl
  have EO : defOk k s = decide (k = 1 ∨ k = 2 ∨ (k = 3 ∧ s.size ≤ 100)) := rfl
  rw [ET, EO]
  clear ET EO
  generalize digB s = d at *
  obtain ⟨W, hW, hR, hb, hlt⟩ := one_cb w (thC thZ) 25
  unfold thC thZ at hW
  simp only at hW
  have HR := hide (fun (W' : World) (h : Below W.heap.size W W') => hR.below h hlt)
  have hR0 := hide hR
  have hb0 := hide hb
  clear hR
  by_cases h1 : k = 1
  · subst h1
    obtain ⟨y, hy⟩ : ∃ y : Th, y = ⟨0, 1, true, false, false, true, d, 0⟩ := ⟨_, rfl⟩
    replace hy := hide hy
    go_enter Try.func18, Try.ntmps18
    go_wp2_with fail
    refine (unhide CD W).mono ?_
    rintro e w1 ⟨rfl, hb1⟩
    have hR1 := hide (unhide HR w1 hb1)
    have hB1 := hide (hb.trans (hb1.mono hb.size))
    clear hb hb1 hW HR hR0 hb0 CD
    go_wp2_with (refine wpList_store_row rfl 25 (.tmp 4) (.tmp 12) rfl w.heap.size (thC y) rfl (by rw [unhide hy]; rfl) 25 (thC thZ) (unhide hR1) (th_size y) rfl (th_one y) ?_)
    have hR5 := setRow_heap _ w.heap.size _ (thC y) 25 (0, 0) (unhide hR1)
    have hB5 := Go.below_setRow (unhide hB1) (Nat.le_refl _) (thC y)
    exact bodyPost_ret (results_cb_tmp (by exact Try.results18) _ _ w.heap.size 25 (thC y) _ rfl hR5 Try.underlying25 (th_size y)) rfl ⟨by rw [unhide hy]; rfl, hB5⟩
  by_cases h2 : k = 2
  · subst h2
    obtain ⟨y, hy⟩ : ∃ y : Th, y = ⟨0, 2, true, false, true, false, d, 0⟩ := ⟨_, rfl⟩
    replace hy := hide hy
    go_enter Try.func18, Try.ntmps18
    go_wp2_with fail
    refine (unhide CD W).mono ?_
    rintro e w1 ⟨rfl, hb1⟩
    have hR1 := hide (unhide HR w1 hb1)
    have hB1 := hide (hb.trans (hb1.mono hb.size))
    clear hb hb1 hW HR hR0 hb0 CD
    go_wp2_with (refine wpList_store_row rfl 25 (.tmp 4) (.tmp 18) rfl w.heap.size (thC y) rfl (by rw [unhide hy]; rfl) 25 (thC thZ) (unhide hR1) (th_size y) rfl (th_one y) ?_)
    have hR5 := setRow_heap _ w.heap.size _ (thC y) 25 (0, 0) (unhide hR1)
    have hB5 := Go.below_setRow (unhide hB1) (Nat.le_refl _) (thC y)
    exact bodyPost_ret (results_cb_tmp (by exact Try.results18) _ _ w.heap.size 25 (thC y) _ rfl hR5 Try.underlying25 (th_size y)) rfl ⟨by rw [unhide hy]; rfl, hB5⟩
  have n1 : (k == 1) = false := by rw [beq_eq_false_iff_ne]; exact h1
  have n2 : (k == 2) = false := by rw [beq_eq_false_iff_ne]; exact h2
  by_cases h3 : k = 3
  · subst h3
    by_cases hz : s.size ≤ 100
    · have hz' : (s.size : Int) ≤ 100 := by omega
      obtain ⟨y, hy⟩ : ∃ y : Th, y = ⟨0, 3, false, false, false, false, s, 0⟩ := ⟨_, rfl⟩
      replace hy := hide hy
      clear hb CD HR
      go_enter Try.func18, Try.ntmps18
      go_wp2_with (refine wpList_store_row rfl 25 (.tmp 4) (.tmp 26) rfl w.heap.size (thC y) rfl (by rw [unhide hy]; rfl) 25 (thC thZ) (unhide hR0) (th_size y) rfl (th_one y) ?_)
      have hR5 := setRow_heap _ w.heap.size _ (thC y) 25 (0, 0) (unhide hR0)
      have hB5 := Go.below_setRow (unhide hb0) (Nat.le_refl _) (thC y)
      exact bodyPost_ret (results_cb_tmp (by exact Try.results18) _ _ w.heap.size 25 (thC y) _ rfl hR5 Try.underlying25 (th_size y)) rfl ⟨by rw [unhide hy]; simp, hB5⟩
    · have hz' : ¬ (s.size : Int) ≤ 100 := by omega
      have hz2 : decide ((s.size : Int) ≤ 100) = false := by rw [decide_eq_false_iff_not]; exact hz'
      obtain ⟨y, hy⟩ : ∃ y : Th, y = thZ := ⟨_, rfl⟩
      replace hy := hide hy
      clear hb CD HR
      go_enter Try.func18, Try.ntmps18
      go_wp2_with (refine wpList_store_row rfl 25 (.tmp 4) (.tmp 27) rfl w.heap.size (thC y) rfl (by rw [unhide hy]; rfl) 25 (thC thZ) (unhide hR0) (th_size y) rfl (th_one y) ?_)
      have hR5 := setRow_heap _ w.heap.size _ (thC y) 25 (0, 0) (unhide hR0)
      have hB5 := Go.below_setRow (unhide hb0) (Nat.le_refl _) (thC y)
      exact bodyPost_ret (results_cb_tmp (by exact Try.results18) _ _ w.heap.size 25 (thC y) _ rfl hR5 Try.underlying25 (th_size y)) rfl ⟨by rw [unhide hy]; simp, hB5⟩
  have n3 : (k == 3) = false := by rw [beq_eq_false_iff_ne]; exact h3
  obtain ⟨y, hy⟩ : ∃ y : Th, y = thZ := ⟨_, rfl⟩
  replace hy := hide hy
  clear hb CD HR
  go_enter Try.func18, Try.ntmps18
  go_wp2_with (refine wpList_store_row rfl 25 (.tmp 4) (.tmp 27) rfl w.heap.size (thC y) rfl (by rw [unhide hy]; rfl) 25 (thC thZ) (unhide hR0) (th_size y) rfl (th_one y) ?_)
  have hR5 := setRow_heap _ w.heap.size _ (thC y) 25 (0, 0) (unhide hR0)
  have hB5 := Go.below_setRow (unhide hb0) (Nat.le_refl _) (thC y)
  exact bodyPost_ret (results_cb_tmp (by exact Try.results18) _ _ w.heap.size 25 (thC y) _ rfl hR5 Try.underlying25 (th_size y)) rfl ⟨by rw [unhide hy]; simp, hB5⟩
end Go.Proofs.Ytecbpplocokedaa

/- Rules, reckoned: what the laws of chapter 20 ask. -/
namespace Go.Proofs.Ytecbpplocokedaa
theorem chg_is (x : Th) (h f : Bool) : chgOk x h f = (thOk x && (h || !x.hid) && (f || !x.fix)) := by
  unfold chgOk
  cases thOk x <;> cases h <;> cases x.hid <;> cases f <;> cases x.fix <;> decide
theorem may_show {x : Th} (h : mayB x 1 = true) : x.hid = false := by
  unfold mayB at h
  split at h
  · simpa using h
  · cases h
theorem may_out {x : Th} (h : mayB x 2 = true) : x.fix = false ∧ x.kind ≠ 2 := by
  unfold mayB at h
  split at h
  · rw [if_neg (by decide), if_pos rfl] at h
    simpa using h
  · cases h
theorem may_sign {x : Th} (h : mayB x 3 = true) : x.sgn = true := by
  unfold mayB at h
  split at h
  · simpa using h
  · cases h
theorem may_nine (x : Th) : mayB x 9 = false := by
  unfold mayB
  split
  · rfl
  · rfl
theorem chg_no {x : Th} {h f : Bool} (e : chgOk x h f = false) : chgT x h f = thZ := by unfold chgT; rw [e]; rfl
theorem chg_yes {x : Th} {h f : Bool} (e : chgOk x h f = true) : chgT x h f = ⟨x.id, x.kind, h, f, x.sgn, x.wrp, x.val, x.nxt⟩ := by unfold chgT; rw [if_pos e]
theorem chg_ok {x : Th} {h f : Bool} (e : chgOk x h f = true) : thOk ⟨x.id, x.kind, h, f, x.sgn, x.wrp, x.val, x.nxt⟩ = true := by
  rw [chg_is] at e
  simp only [Bool.and_eq_true] at e
  exact e.1.1
theorem chg_mono {x : Th} {h f : Bool} (e : chgOk x h f = true) (d : Int) (hm : mayB ⟨x.id, x.kind, h, f, x.sgn, x.wrp, x.val, x.nxt⟩ d = true) : mayB x d = true := by
  have h1 := chg_ok e
  rw [chg_is] at e
  simp only [Bool.and_eq_true, Bool.or_eq_true, Bool.not_eq_true'] at e
  unfold mayB at hm ⊢
  rw [if_pos h1] at hm
  rw [if_pos e.1.1]
  dsimp only at hm
  split
  · rename_i hd
    rw [if_pos hd] at hm
    rcases e.1.2 with q | q
    · rw [q] at hm; cases hm
    · rw [q]; rfl
  · rename_i hd
    rw [if_neg hd] at hm
    split
    · rename_i hd2
      rw [if_pos hd2] at hm
      simp only [Bool.and_eq_true, Bool.not_eq_true'] at hm ⊢
      refine ⟨?_, hm.2⟩
      rcases e.2 with q | q
      · rw [q] at hm; exact absurd hm.1 (by decide)
      · exact q
    · rename_i hd2
      rw [if_neg hd2] at hm
      exact hm
theorem may_five {x : Th} (h : thOk x = true) : mayB x 5 = true := by
  unfold mayB
  rw [if_pos h]
  rfl
end Go.Proofs.Ytecbpplocokedaa

/- The law FnDefaults, walked over the loaded program; what the project's functions answer are premises. -/
namespace Go.Proofs.Ytecbpplocokedaa
open Go.RowKit
theorem rst_may (x : Th) (d : Int) : mayB (rstT x) d = false := by
  unfold mayB
  rw [if_neg]
  rw [thOk_iff]
  intro h
  have h1 : (1 : Int) ≤ 0 := h.1
  omega
theorem rst_ok {x : Th} (h : thOk x = true) : thOk ⟨1, x.kind, x.hid, x.fix, false, x.wrp, x.val, 0⟩ = true := by
  rw [thOk_iff] at h ⊢
  obtain ⟨h1, h2, h3, h4, h5, h6, h7, h8, h9, h10⟩ := h
  exact ⟨by show (1 : Int) ≤ 1; decide, by show (1 : Int) ≤ 1000; decide, h3, h4, by show (0 : Int) ≤ 0; decide, by show (0 : Int) ≤ 16; decide, fun _ => ⟨rfl, rfl⟩, h8, h9, h10⟩
theorem def_ok {k : Int} {s : ByteArray} (h : defOk k s = true) : thOk ⟨1, (defT k s).kind, (defT k s).hid, (defT k s).fix, (defT k s).sgn, (defT k s).wrp, (defT k s).val, (defT k s).nxt⟩ = true := by
  unfold defOk at h
  rw [decide_eq_true_iff] at h
  rw [thOk_iff]
  have hz : (digB s).size = 32 := V8.text_size _
  have fin : ∀ (k : Int) (h f sg wr : Bool) (v : ByteArray), 1 ≤ k → k ≤ 3 → (k ≠ 2 → sg = false) → (k ≠ 1 → wr = false) → (k = 3 → v.size ≤ 100) → (k ≠ 3 → v.size = 32) → ThOk ⟨1, k, h, f, sg, wr, v, 0⟩ := fun k h f sg wr v q1 q2 q3 q4 q5 q6 =>
    ⟨by show (1 : Int) ≤ 1; decide, by show (1 : Int) ≤ 1000; decide, q1, q2, by show (0 : Int) ≤ 0; decide, by show (0 : Int) ≤ 16; decide, fun q => ⟨rfl, q3 q⟩, q4, q5, q6⟩
  rcases h with rfl | rfl | ⟨rfl, h⟩
  · exact fin 1 true false false true (digB s) (by decide) (by decide) (fun _ => rfl) (fun h => absurd rfl h) (fun h => absurd h (by decide)) (fun _ => hz)
  · exact fin 2 true false true false (digB s) (by decide) (by decide) (fun h => absurd rfl h) (fun _ => rfl) (fun h => absurd h (by decide)) (fun _ => hz)
  · have e : defT 3 s = ⟨0, 3, false, false, false, false, s, 0⟩ := by
      unfold defT
      rw [if_neg (by decide), if_neg (by decide), if_pos ⟨rfl, h⟩]
    rw [e]
    exact fin 3 false false false false s (by decide) (by decide) (fun _ => rfl) (fun _ => rfl) (fun _ => h) (fun h => absurd rfl h)
theorem defT_val (k : Int) (s : ByteArray) : (defT k s).val.size ≤ s.size + 32 := by
  have hz : (digB s).size = 32 := V8.text_size _
  unfold defT
  split
  · show (digB s).size ≤ _; omega
  · split
    · show (digB s).size ≤ _; omega
    · split
      · show s.size ≤ _; omega
      · exact Nat.zero_le _
theorem def_no {k : Int} {s : ByteArray} (h : defOk k s = false) : k < 1 ∨ 3 < k ∨ 100 < s.size := by
  unfold defOk at h
  rw [decide_eq_false_iff_not] at h
  omega
set_option maxRecDepth 20000 in
set_option maxHeartbeats 6400000 in
theorem lawDefaults_any (w : World) (o : Option Addr) (n c : Nat) (hs : Src w w.heap.size o n)
    (CD : ∀ (k : Int) (s : ByteArray) (W : World), s.size ≤ 1048576 → Below w.heap.size w W → Calls Try.prog 17 #[.int .i64 k, .string s] W fun e w' => e = .returned (.tuple #[.agg (thC (defT k s)), .bool (defOk k s)]) ∧ Below W.heap.size W w')
    (CR : ∀ (x : Th) (W : World), x.val.size ≤ 1048576 → Below w.heap.size w W → Calls Try.prog 20 #[.agg (thC x)] W fun e w' => e = .returned (.agg (thC (rstT x))) ∧ Below W.heap.size W w')
    (CM : ∀ (x : Th) (d : Int) (W : World), x.val.size ≤ 1048576 → Below w.heap.size w W → Calls Try.prog 13 #[.agg (thC x), .int .i64 d] W fun e w' => e = .returned (.bool (mayB x d)) ∧ Below W.heap.size W w')
    (CO : ∀ (x : Th) (W : World), x.val.size ≤ 1048576 → Below w.heap.size w W → Calls Try.prog 15 #[.agg (thC x)] W fun e w' => e = .returned (.bool (thOk x)) ∧ Below W.heap.size W w') :
    Calls Try.prog 4 #[.slice o n c] w fun e w' => e = .returned (.bool true) ∧ Below w.heap.size w w' := by
  have HS := hide (fun W (h : Below w.heap.size w W) => ((hs.below h (Nat.le_refl _)).up h.size))
  have HS0 := hide hs
  clear hs
  by_cases hbig : (1048576 : Int) < (n : Int)
  · have hd : decide ((1048576 : Int) < (n : Int)) = true := by rw [decide_eq_true_iff]; exact hbig
    go_enter Try.func4, Try.ntmps4
    go_wp2_with (go_at_call 9; refine (big_any w o n c).mono ?_; rintro e w1 ⟨rfl, rfl⟩)
    go_ret
    exact ⟨rfl, Below.refl _ _⟩
  · have hd : decide ((1048576 : Int) < (n : Int)) = false := by rw [decide_eq_false_iff_not]; exact hbig
    have hn : n ≤ 1048576 := by omega
    replace CD := hide CD; replace CR := hide CR; replace CM := hide CM; replace CO := hide CO
    go_enter Try.func4, Try.ntmps4
    go_wp2_with fail
    refine (big_any w o n c).mono ?_
    rintro e w0 ⟨rfl, hw0⟩
    have hw0' := hw0.symm
    subst hw0'
    clear hw0
    go_wp2_with fail
    refine (drawDefaults_any w o n c (unhide HS0) hn).mono ?_
    rintro e w1 ⟨k, s, hsz, rfl, T1⟩
    clear HS0
    have hdz : (defT k s).val.size ≤ 1048576 := by have := defT_val k s; omega
    have K0 := hide (fun W (q : Below w.heap.size w W) => unhide CD k s W (by omega) q)
    have K1 := hide (fun W => specDefaults_any k s (by omega) W)
    have K2 := hide (fun W (q : Below w.heap.size w W) => unhide CO ⟨1, (defT k s).kind, (defT k s).hid, (defT k s).fix, (defT k s).sgn, (defT k s).wrp, (defT k s).val, (defT k s).nxt⟩ W hdz q)
    have F1 := hide (fun e => @def_ok k s e)
    have F2 := hide (fun e => @def_no k s e)
    generalize defT k s = DD at *
    generalize defOk k s = ok at *
    obtain ⟨di, dk, dh, df, ds, dw, dv, dn⟩ := DD
    dsimp only at F1 hdz K2
    replace K0 := hide (show ∀ W, Below w.heap.size w W → Calls Try.prog 17 #[.int .i64 k, .string s] W (fun e w' => e = .returned (.tuple #[.agg #[.int .i64 di, .int .i64 dk, .bool dh, .bool df, .bool ds, .bool dw, .string dv, .int .i64 dn], .bool ok]) ∧ Below W.heap.size W w') from unhide K0)
    replace K1 := hide (show ∀ W, Calls Try.prog 18 #[.int .i64 k, .string s] W (fun e w' => e = .returned (.tuple #[.agg #[.int .i64 di, .int .i64 dk, .bool dh, .bool df, .bool ds, .bool dw, .string dv, .int .i64 dn], .bool ok]) ∧ Below W.heap.size W w') from unhide K1)
    replace K2 := hide (show ∀ W, Below w.heap.size w W → Calls Try.prog 15 #[.agg #[.int .i64 1, .int .i64 dk, .bool dh, .bool df, .bool ds, .bool dw, .string dv, .int .i64 dn]] W (fun e w' => e = .returned (.bool (thOk ⟨1, dk, dh, df, ds, dw, dv, dn⟩)) ∧ Below W.heap.size W w') from unhide K2)
    generalize thOk ⟨1, dk, dh, df, ds, dw, dv, dn⟩ = o1 at *
    go_wp2_with fail
    refine (unhide K0 w1 T1).mono ?_
    rintro e w2 ⟨rfl, hb2⟩
    have T2 := T1.trans (hb2.mono T1.size)
    clear hb2 T1 K0
    go_wp2_with fail
    obtain ⟨W2, hW, hX2, hB2, hs2⟩ := one_cb w2 #[.int .i64 di, .int .i64 dk, .bool dh, .bool df, .bool ds, .bool dw, .string dv, .int .i64 dn] 25
    rw [hW]
    clear hW
    have T3 := T2.trans (hB2.mono T2.size)
    obtain ⟨gx, hgx⟩ : ∃ g, g = w2.heap.size := ⟨_, rfl⟩
    have hgxl : w.heap.size ≤ gx := by have := T2.size; omega
    rw [← hgx] at hX2 ⊢
    clear T2 hB2 hs2 hgx
    refine (unhide K1 W2).mono ?_
    rintro e w3 ⟨rfl, hb3⟩
    have T4 := T3.trans (hb3.mono T3.size)
    have hX3 := hX2.step hb3
    clear hb3 T3 hX2 K1
    have hoo : (ok != ok) = false := by cases ok <;> rfl
    go_upto_region 6 with fail
    obtain ⟨W3, hW, hZ3, hB3, hs3⟩ := one_cb w3 #[.int .i64 di, .int .i64 dk, .bool dh, .bool df, .bool ds, .bool dw, .string dv, .int .i64 dn] 25
    rw [hW]
    clear hW
    have T5 := T4.trans (hB3.mono T4.size)
    have hX4 := hX3.step hB3
    obtain ⟨gz, hgz⟩ : ∃ g, g = w3.heap.size := ⟨_, rfl⟩
    rw [← hgz] at hZ3 ⊢
    clear hX3 T4 hB3 hs3 hgz
    have x0 := hX4.cell 0 (v := (.int .i64 _)) rfl
    have x1 := hX4.cell 1 (v := (.int .i64 _)) rfl
    have x2 := hX4.cell 2 (v := (.bool _)) rfl
    have x3 := hX4.cell 3 (v := (.bool _)) rfl
    have x4 := hX4.cell 4 (v := (.bool _)) rfl
    have x5 := hX4.cell 5 (v := (.bool _)) rfl
    have x6 := hX4.cell 6 (v := (.string _)) rfl
    have x7 := hX4.cell 7 (v := (.int .i64 _)) rfl
    have z0 := hZ3.cell 0 (v := (.int .i64 _)) rfl
    have z1 := hZ3.cell 1 (v := (.int .i64 _)) rfl
    have z2 := hZ3.cell 2 (v := (.bool _)) rfl
    have z3 := hZ3.cell 3 (v := (.bool _)) rfl
    have z4 := hZ3.cell 4 (v := (.bool _)) rfl
    have z5 := hZ3.cell 5 (v := (.bool _)) rfl
    have z6 := hZ3.cell 6 (v := (.string _)) rfl
    have z7 := hZ3.cell 7 (v := (.int .i64 _)) rfl
    go_upto_region 8 with fail
    clear hZ3 z0 z1 z2 z3 z4 z5 z6 z7 x0 x1 x2 x3 x4 x5 x6 x7 hoo
    go_wp2_with fail
    refine (drawRestored_any W3 o n c (unhide HS W3 T5) hn).mono ?_
    rintro e w4 ⟨y, hD, rfl, hb4⟩
    have T6 := T5.trans (hb4.mono T5.size)
    have hX5 := hX4.step hb4
    clear hb4 hX4 T5 HS
    have hyz : y.val.size ≤ 1048576 := by have h : y.val.size ≤ 101 := hD; omega
    have K3 := hide (fun W (q : Below w.heap.size w W) => unhide CR y W hyz q)
    have K4 := hide (fun W (q : Below w.heap.size w W) => unhide CM (rstT y) 3 W hyz q)
    rw [rst_may] at K4
    have K5 := hide (fun W => specThingOk_any y W)
    have K6 := hide (fun W (q : Below w.heap.size w W) => unhide CO ⟨1, y.kind, y.hid, y.fix, false, y.wrp, y.val, 0⟩ W hyz q)
    have F3 := hide (fun e => @rst_ok y e)
    obtain ⟨yi, yk, yh, yf, ys, yw, yv, yn⟩ := y
    dsimp only at F3 hyz K6
    simp only [thC]
    replace K3 := hide (show ∀ W, Below w.heap.size w W → Calls Try.prog 20 #[.agg #[.int .i64 yi, .int .i64 yk, .bool yh, .bool yf, .bool ys, .bool yw, .string yv, .int .i64 yn]] W (fun e w' => e = .returned (.agg #[.int .i64 0, .int .i64 yk, .bool yh, .bool yf, .bool false, .bool yw, .string yv, .int .i64 0]) ∧ Below W.heap.size W w') from unhide K3)
    replace K4 := hide (show ∀ W, Below w.heap.size w W → Calls Try.prog 13 #[.agg #[.int .i64 0, .int .i64 yk, .bool yh, .bool yf, .bool false, .bool yw, .string yv, .int .i64 0], .int .i64 3] W (fun e w' => e = .returned (.bool false) ∧ Below W.heap.size W w') from unhide K4)
    replace K5 := hide (show ∀ W, Calls Try.prog 12 #[.agg #[.int .i64 yi, .int .i64 yk, .bool yh, .bool yf, .bool ys, .bool yw, .string yv, .int .i64 yn]] W (fun e w' => e = .returned (.bool (thOk ⟨yi, yk, yh, yf, ys, yw, yv, yn⟩)) ∧ Below W.heap.size W w') from unhide K5)
    replace K6 := hide (show ∀ W, Below w.heap.size w W → Calls Try.prog 15 #[.agg #[.int .i64 1, .int .i64 yk, .bool yh, .bool yf, .bool false, .bool yw, .string yv, .int .i64 0]] W (fun e w' => e = .returned (.bool (thOk ⟨1, yk, yh, yf, false, yw, yv, 0⟩)) ∧ Below W.heap.size W w') from unhide K6)
    generalize thOk ⟨yi, yk, yh, yf, ys, yw, yv, yn⟩ = oy at *
    generalize thOk ⟨1, yk, yh, yf, false, yw, yv, 0⟩ = o2 at *
    clear CR CM CO CD hD
    go_wp2_with fail
    obtain ⟨W4, hW, hV4, hB4, hs4⟩ := one_cb w4 #[.int .i64 yi, .int .i64 yk, .bool yh, .bool yf, .bool ys, .bool yw, .string yv, .int .i64 yn] 25
    rw [hW]
    clear hW
    have T7 := T6.trans (hB4.mono T6.size)
    have hX6 := hX5.step hB4
    have lx6 := hX5.lt
    obtain ⟨gv, hgv⟩ : ∃ g, g = w4.heap.size := ⟨_, rfl⟩
    rw [← hgv] at hV4 ⊢
    have nxv : gx ≠ gv := by omega
    clear T6 hB4 hs4 hgv hX5 lx6
    refine (unhide K3 W4 T7).mono ?_
    rintro e w5 ⟨rfl, hb5⟩
    have T8 := T7.trans (hb5.mono T7.size)
    have hX7 := hX6.step hb5
    have hV5 := hV4.step hb5
    clear hb5 T7 hX6 hV4 K3
    go_upto_region 10 with fail
    obtain ⟨W5, hW, hR5, hB5, hs5⟩ := one_cb w5 #[.int .i64 0, .int .i64 yk, .bool yh, .bool yf, .bool false, .bool yw, .string yv, .int .i64 0] 25
    rw [hW]
    clear hW
    have T9 := T8.trans (hB5.mono T8.size)
    have hX8 := hX7.step hB5
    have hV6 := hV5.step hB5
    have lx8 := hX7.lt
    have lv8 := hV5.lt
    obtain ⟨gr, hgr⟩ : ∃ g, g = w5.heap.size := ⟨_, rfl⟩
    have hgrl : w.heap.size ≤ gr := by have := T8.size; omega
    rw [← hgr] at hR5 ⊢
    have nxr : gx ≠ gr := by omega
    have nvr : gv ≠ gr := by omega
    clear T8 hB5 hs5 hgr hX7 hV5 lx8 lv8
    have bh : (yh != yh) = false := by cases yh <;> rfl
    have bf : (yf != yf) = false := by cases yf <;> rfl
    have v0 := hV6.cell 0 (v := (.int .i64 _)) rfl
    have v1 := hV6.cell 1 (v := (.int .i64 _)) rfl
    have v2 := hV6.cell 2 (v := (.bool _)) rfl
    have v3 := hV6.cell 3 (v := (.bool _)) rfl
    have v4 := hV6.cell 4 (v := (.bool _)) rfl
    have v5 := hV6.cell 5 (v := (.bool _)) rfl
    have v6 := hV6.cell 6 (v := (.string _)) rfl
    have v7 := hV6.cell 7 (v := (.int .i64 _)) rfl
    have r0 := hR5.cell 0 (v := (.int .i64 _)) rfl
    have r1 := hR5.cell 1 (v := (.int .i64 _)) rfl
    have r2 := hR5.cell 2 (v := (.bool _)) rfl
    have r3 := hR5.cell 3 (v := (.bool _)) rfl
    have r4 := hR5.cell 4 (v := (.bool _)) rfl
    have r5 := hR5.cell 5 (v := (.bool _)) rfl
    have r6 := hR5.cell 6 (v := (.string _)) rfl
    have r7 := hR5.cell 7 (v := (.int .i64 _)) rfl
    go_wp2_with fail
    refine (unhide K4 _ T9).mono ?_
    rintro e w6 ⟨rfl, hb6⟩
    have T10 := T9.trans (hb6.mono T9.size)
    have hX9 := hX8.step hb6
    have hV7 := hV6.step hb6
    have hR6 := hR5.step hb6
    clear hb6 T9 hX8 hV6 hR5 K4 bh bf v0 v1 v2 v3 v4 v5 v6 v7 r0 r1 r2 r3 r4 r5 r6 r7
    have x0 := hX9.cell 0 (v := .int .i64 _) rfl
    have fx := hX9.frozen 0
    have hR6a := hR6.set_other (h := gx) (k := 0) (Ne.symm nxr) (.int .i64 1)
    have r0 := hR6a.cell 0 (v := .int .i64 _) rfl
    have fr := hR6a.frozen 0
    go_upto_region 14 with fail
    have HX := hide (show CB _ gx 25 #[.int .i64 1, .int .i64 dk, .bool dh, .bool df, .bool ds, .bool dw, .string dv, .int .i64 dn] from (hX9.set 0 (.int .i64 1)).set_other (h := gr) (k := 0) nxr (.int .i64 1))
    have HR := hide (show CB _ gr 25 #[.int .i64 1, .int .i64 yk, .bool yh, .bool yf, .bool false, .bool yw, .string yv, .int .i64 0] from hR6a.set 0 (.int .i64 1))
    have HV := hide (show CB _ gv 25 #[.int .i64 yi, .int .i64 yk, .bool yh, .bool yf, .bool ys, .bool yw, .string yv, .int .i64 yn] from (hV7.set_other (h := gx) (k := 0) (Ne.symm nxv) (.int .i64 1)).set_other (h := gr) (k := 0) nvr (.int .i64 1))
    have HT := hide ((T10.setCell (p := ⟨gx, 0, none⟩) hgxl (.int .i64 1)).setCell (p := ⟨gr, 0, none⟩) hgrl (.int .i64 1))
    generalize (w6.setCell ⟨gx, 0, none⟩ (.int .i64 1)).setCell ⟨gr, 0, none⟩ (.int .i64 1) = W7 at *
    clear hX9 hV7 hR6 hR6a T10 x0 fx r0 fr nxv nxr nvr
    have X0 := unhide HX
    have V0 := unhide HV
    have R0 := unhide HR
    have T0 := unhide HT
    clear HX HR HV HT
    cases ok with
    | true =>
      cases oy with
      | true =>
        have eo := unhide F1 rfl
        subst eo
        have eo2 := unhide F3 rfl
        subst eo2
        clear F1 F2 F3
        have x0 := X0.cell 0 (v := (.int .i64 _)) rfl
        have x1 := X0.cell 1 (v := (.int .i64 _)) rfl
        have x2 := X0.cell 2 (v := (.bool _)) rfl
        have x3 := X0.cell 3 (v := (.bool _)) rfl
        have x4 := X0.cell 4 (v := (.bool _)) rfl
        have x5 := X0.cell 5 (v := (.bool _)) rfl
        have x6 := X0.cell 6 (v := (.string _)) rfl
        have x7 := X0.cell 7 (v := (.int .i64 _)) rfl
        go_wp2_with fail
        refine (unhide K2 _ T0).mono ?_
        rintro e u1 ⟨rfl, hb1⟩
        have T1 := T0.trans (hb1.mono T0.size)
        have X1 := X0.step hb1
        have V1 := V0.step hb1
        have R1 := R0.step hb1
        clear hb1 T0 X0 V0 R0
        clear x0 x1 x2 x3 x4 x5 x6 x7
        have v0 := V1.cell 0 (v := (.int .i64 _)) rfl
        have v1 := V1.cell 1 (v := (.int .i64 _)) rfl
        have v2 := V1.cell 2 (v := (.bool _)) rfl
        have v3 := V1.cell 3 (v := (.bool _)) rfl
        have v4 := V1.cell 4 (v := (.bool _)) rfl
        have v5 := V1.cell 5 (v := (.bool _)) rfl
        have v6 := V1.cell 6 (v := (.string _)) rfl
        have v7 := V1.cell 7 (v := (.int .i64 _)) rfl
        go_wp2_with fail
        refine (unhide K5 _).mono ?_
        rintro e u2 ⟨rfl, hb2⟩
        have T2 := T1.trans (hb2.mono T1.size)
        have X2 := X1.step hb2
        have V2 := V1.step hb2
        have R2 := R1.step hb2
        clear hb2 T1 X1 V1 R1
        clear v0 v1 v2 v3 v4 v5 v6 v7
        have r0 := R2.cell 0 (v := (.int .i64 _)) rfl
        have r1 := R2.cell 1 (v := (.int .i64 _)) rfl
        have r2 := R2.cell 2 (v := (.bool _)) rfl
        have r3 := R2.cell 3 (v := (.bool _)) rfl
        have r4 := R2.cell 4 (v := (.bool _)) rfl
        have r5 := R2.cell 5 (v := (.bool _)) rfl
        have r6 := R2.cell 6 (v := (.string _)) rfl
        have r7 := R2.cell 7 (v := (.int .i64 _)) rfl
        go_wp2_with fail
        refine (unhide K6 _ T2).mono ?_
        rintro e u3 ⟨rfl, hb3⟩
        have T3 := T2.trans (hb3.mono T2.size)
        have X3 := X2.step hb3
        have V3 := V2.step hb3
        have R3 := R2.step hb3
        clear hb3 T2 X2 V2 R2
        clear r0 r1 r2 r3 r4 r5 r6 r7
        go_wp2
        go_ret
        exact ⟨rfl, T3⟩
      | false =>
        have eo := unhide F1 rfl
        subst eo
        clear F1 F2 F3
        have x0 := X0.cell 0 (v := (.int .i64 _)) rfl
        have x1 := X0.cell 1 (v := (.int .i64 _)) rfl
        have x2 := X0.cell 2 (v := (.bool _)) rfl
        have x3 := X0.cell 3 (v := (.bool _)) rfl
        have x4 := X0.cell 4 (v := (.bool _)) rfl
        have x5 := X0.cell 5 (v := (.bool _)) rfl
        have x6 := X0.cell 6 (v := (.string _)) rfl
        have x7 := X0.cell 7 (v := (.int .i64 _)) rfl
        go_wp2_with fail
        refine (unhide K2 _ T0).mono ?_
        rintro e u1 ⟨rfl, hb1⟩
        have T1 := T0.trans (hb1.mono T0.size)
        have X1 := X0.step hb1
        have V1 := V0.step hb1
        have R1 := R0.step hb1
        clear hb1 T0 X0 V0 R0
        clear x0 x1 x2 x3 x4 x5 x6 x7
        have v0 := V1.cell 0 (v := (.int .i64 _)) rfl
        have v1 := V1.cell 1 (v := (.int .i64 _)) rfl
        have v2 := V1.cell 2 (v := (.bool _)) rfl
        have v3 := V1.cell 3 (v := (.bool _)) rfl
        have v4 := V1.cell 4 (v := (.bool _)) rfl
        have v5 := V1.cell 5 (v := (.bool _)) rfl
        have v6 := V1.cell 6 (v := (.string _)) rfl
        have v7 := V1.cell 7 (v := (.int .i64 _)) rfl
        go_wp2_with fail
        refine (unhide K5 _).mono ?_
        rintro e u2 ⟨rfl, hb2⟩
        have T2 := T1.trans (hb2.mono T1.size)
        have X2 := X1.step hb2
        have V2 := V1.step hb2
        have R2 := R1.step hb2
        clear hb2 T1 X1 V1 R1
        clear v0 v1 v2 v3 v4 v5 v6 v7
        go_wp2
        go_ret
        exact ⟨rfl, T2⟩
    | false =>
      rcases unhide F2 rfl with q1 | q1 | q1
      · cases oy with
        | true =>
          have q2 : k < 1 := q1
          have eo2 := unhide F3 rfl
          subst eo2
          clear F1 F2 F3
          have v0 := V0.cell 0 (v := (.int .i64 _)) rfl
          have v1 := V0.cell 1 (v := (.int .i64 _)) rfl
          have v2 := V0.cell 2 (v := (.bool _)) rfl
          have v3 := V0.cell 3 (v := (.bool _)) rfl
          have v4 := V0.cell 4 (v := (.bool _)) rfl
          have v5 := V0.cell 5 (v := (.bool _)) rfl
          have v6 := V0.cell 6 (v := (.string _)) rfl
          have v7 := V0.cell 7 (v := (.int .i64 _)) rfl
          go_wp2_with fail
          refine (unhide K5 _).mono ?_
          rintro e u1 ⟨rfl, hb1⟩
          have T1 := T0.trans (hb1.mono T0.size)
          have X1 := X0.step hb1
          have V1 := V0.step hb1
          have R1 := R0.step hb1
          clear hb1 T0 X0 V0 R0
          clear v0 v1 v2 v3 v4 v5 v6 v7
          have r0 := R1.cell 0 (v := (.int .i64 _)) rfl
          have r1 := R1.cell 1 (v := (.int .i64 _)) rfl
          have r2 := R1.cell 2 (v := (.bool _)) rfl
          have r3 := R1.cell 3 (v := (.bool _)) rfl
          have r4 := R1.cell 4 (v := (.bool _)) rfl
          have r5 := R1.cell 5 (v := (.bool _)) rfl
          have r6 := R1.cell 6 (v := (.string _)) rfl
          have r7 := R1.cell 7 (v := (.int .i64 _)) rfl
          go_wp2_with fail
          refine (unhide K6 _ T1).mono ?_
          rintro e u2 ⟨rfl, hb2⟩
          have T2 := T1.trans (hb2.mono T1.size)
          have X2 := X1.step hb2
          have V2 := V1.step hb2
          have R2 := R1.step hb2
          clear hb2 T1 X1 V1 R1
          clear r0 r1 r2 r3 r4 r5 r6 r7
          go_wp2
          go_ret
          exact ⟨rfl, T2⟩
        | false =>
          have q2 : k < 1 := q1
          clear F1 F2 F3
          have v0 := V0.cell 0 (v := (.int .i64 _)) rfl
          have v1 := V0.cell 1 (v := (.int .i64 _)) rfl
          have v2 := V0.cell 2 (v := (.bool _)) rfl
          have v3 := V0.cell 3 (v := (.bool _)) rfl
          have v4 := V0.cell 4 (v := (.bool _)) rfl
          have v5 := V0.cell 5 (v := (.bool _)) rfl
          have v6 := V0.cell 6 (v := (.string _)) rfl
          have v7 := V0.cell 7 (v := (.int .i64 _)) rfl
          go_wp2_with fail
          refine (unhide K5 _).mono ?_
          rintro e u1 ⟨rfl, hb1⟩
          have T1 := T0.trans (hb1.mono T0.size)
          have X1 := X0.step hb1
          have V1 := V0.step hb1
          have R1 := R0.step hb1
          clear hb1 T0 X0 V0 R0
          clear v0 v1 v2 v3 v4 v5 v6 v7
          go_wp2
          go_ret
          exact ⟨rfl, T1⟩
      · cases oy with
        | true =>
          have q2 : ¬ k < 1 := by omega
          have q3 : 3 < k := q1
          have eo2 := unhide F3 rfl
          subst eo2
          clear F1 F2 F3
          have v0 := V0.cell 0 (v := (.int .i64 _)) rfl
          have v1 := V0.cell 1 (v := (.int .i64 _)) rfl
          have v2 := V0.cell 2 (v := (.bool _)) rfl
          have v3 := V0.cell 3 (v := (.bool _)) rfl
          have v4 := V0.cell 4 (v := (.bool _)) rfl
          have v5 := V0.cell 5 (v := (.bool _)) rfl
          have v6 := V0.cell 6 (v := (.string _)) rfl
          have v7 := V0.cell 7 (v := (.int .i64 _)) rfl
          go_wp2_with fail
          refine (unhide K5 _).mono ?_
          rintro e u1 ⟨rfl, hb1⟩
          have T1 := T0.trans (hb1.mono T0.size)
          have X1 := X0.step hb1
          have V1 := V0.step hb1
          have R1 := R0.step hb1
          clear hb1 T0 X0 V0 R0
          clear v0 v1 v2 v3 v4 v5 v6 v7
          have r0 := R1.cell 0 (v := (.int .i64 _)) rfl
          have r1 := R1.cell 1 (v := (.int .i64 _)) rfl
          have r2 := R1.cell 2 (v := (.bool _)) rfl
          have r3 := R1.cell 3 (v := (.bool _)) rfl
          have r4 := R1.cell 4 (v := (.bool _)) rfl
          have r5 := R1.cell 5 (v := (.bool _)) rfl
          have r6 := R1.cell 6 (v := (.string _)) rfl
          have r7 := R1.cell 7 (v := (.int .i64 _)) rfl
          go_wp2_with fail
          refine (unhide K6 _ T1).mono ?_
          rintro e u2 ⟨rfl, hb2⟩
          have T2 := T1.trans (hb2.mono T1.size)
          have X2 := X1.step hb2
          have V2 := V1.step hb2
          have R2 := R1.step hb2
          clear hb2 T1 X1 V1 R1
          clear r0 r1 r2 r3 r4 r5 r6 r7
          go_wp2
          go_ret
          exact ⟨rfl, T2⟩
        | false =>
          have q2 : ¬ k < 1 := by omega
          have q3 : 3 < k := q1
          clear F1 F2 F3
          have v0 := V0.cell 0 (v := (.int .i64 _)) rfl
          have v1 := V0.cell 1 (v := (.int .i64 _)) rfl
          have v2 := V0.cell 2 (v := (.bool _)) rfl
          have v3 := V0.cell 3 (v := (.bool _)) rfl
          have v4 := V0.cell 4 (v := (.bool _)) rfl
          have v5 := V0.cell 5 (v := (.bool _)) rfl
          have v6 := V0.cell 6 (v := (.string _)) rfl
          have v7 := V0.cell 7 (v := (.int .i64 _)) rfl
          go_wp2_with fail
          refine (unhide K5 _).mono ?_
          rintro e u1 ⟨rfl, hb1⟩
          have T1 := T0.trans (hb1.mono T0.size)
          have X1 := X0.step hb1
          have V1 := V0.step hb1
          have R1 := R0.step hb1
          clear hb1 T0 X0 V0 R0
          clear v0 v1 v2 v3 v4 v5 v6 v7
          go_wp2
          go_ret
          exact ⟨rfl, T1⟩
      · by_cases q2 : k < 1
        · cases oy with
          | true =>
            have eo2 := unhide F3 rfl
            subst eo2
            clear F1 F2 F3
            have v0 := V0.cell 0 (v := (.int .i64 _)) rfl
            have v1 := V0.cell 1 (v := (.int .i64 _)) rfl
            have v2 := V0.cell 2 (v := (.bool _)) rfl
            have v3 := V0.cell 3 (v := (.bool _)) rfl
            have v4 := V0.cell 4 (v := (.bool _)) rfl
            have v5 := V0.cell 5 (v := (.bool _)) rfl
            have v6 := V0.cell 6 (v := (.string _)) rfl
            have v7 := V0.cell 7 (v := (.int .i64 _)) rfl
            go_wp2_with fail
            refine (unhide K5 _).mono ?_
            rintro e u1 ⟨rfl, hb1⟩
            have T1 := T0.trans (hb1.mono T0.size)
            have X1 := X0.step hb1
            have V1 := V0.step hb1
            have R1 := R0.step hb1
            clear hb1 T0 X0 V0 R0
            clear v0 v1 v2 v3 v4 v5 v6 v7
            have r0 := R1.cell 0 (v := (.int .i64 _)) rfl
            have r1 := R1.cell 1 (v := (.int .i64 _)) rfl
            have r2 := R1.cell 2 (v := (.bool _)) rfl
            have r3 := R1.cell 3 (v := (.bool _)) rfl
            have r4 := R1.cell 4 (v := (.bool _)) rfl
            have r5 := R1.cell 5 (v := (.bool _)) rfl
            have r6 := R1.cell 6 (v := (.string _)) rfl
            have r7 := R1.cell 7 (v := (.int .i64 _)) rfl
            go_wp2_with fail
            refine (unhide K6 _ T1).mono ?_
            rintro e u2 ⟨rfl, hb2⟩
            have T2 := T1.trans (hb2.mono T1.size)
            have X2 := X1.step hb2
            have V2 := V1.step hb2
            have R2 := R1.step hb2
            clear hb2 T1 X1 V1 R1
            clear r0 r1 r2 r3 r4 r5 r6 r7
            go_wp2
            go_ret
            exact ⟨rfl, T2⟩
          | false =>
            clear F1 F2 F3
            have v0 := V0.cell 0 (v := (.int .i64 _)) rfl
            have v1 := V0.cell 1 (v := (.int .i64 _)) rfl
            have v2 := V0.cell 2 (v := (.bool _)) rfl
            have v3 := V0.cell 3 (v := (.bool _)) rfl
            have v4 := V0.cell 4 (v := (.bool _)) rfl
            have v5 := V0.cell 5 (v := (.bool _)) rfl
            have v6 := V0.cell 6 (v := (.string _)) rfl
            have v7 := V0.cell 7 (v := (.int .i64 _)) rfl
            go_wp2_with fail
            refine (unhide K5 _).mono ?_
            rintro e u1 ⟨rfl, hb1⟩
            have T1 := T0.trans (hb1.mono T0.size)
            have X1 := X0.step hb1
            have V1 := V0.step hb1
            have R1 := R0.step hb1
            clear hb1 T0 X0 V0 R0
            clear v0 v1 v2 v3 v4 v5 v6 v7
            go_wp2
            go_ret
            exact ⟨rfl, T1⟩
        · by_cases q3 : 3 < k
          · cases oy with
            | true =>
              have eo2 := unhide F3 rfl
              subst eo2
              clear F1 F2 F3
              have v0 := V0.cell 0 (v := (.int .i64 _)) rfl
              have v1 := V0.cell 1 (v := (.int .i64 _)) rfl
              have v2 := V0.cell 2 (v := (.bool _)) rfl
              have v3 := V0.cell 3 (v := (.bool _)) rfl
              have v4 := V0.cell 4 (v := (.bool _)) rfl
              have v5 := V0.cell 5 (v := (.bool _)) rfl
              have v6 := V0.cell 6 (v := (.string _)) rfl
              have v7 := V0.cell 7 (v := (.int .i64 _)) rfl
              go_wp2_with fail
              refine (unhide K5 _).mono ?_
              rintro e u1 ⟨rfl, hb1⟩
              have T1 := T0.trans (hb1.mono T0.size)
              have X1 := X0.step hb1
              have V1 := V0.step hb1
              have R1 := R0.step hb1
              clear hb1 T0 X0 V0 R0
              clear v0 v1 v2 v3 v4 v5 v6 v7
              have r0 := R1.cell 0 (v := (.int .i64 _)) rfl
              have r1 := R1.cell 1 (v := (.int .i64 _)) rfl
              have r2 := R1.cell 2 (v := (.bool _)) rfl
              have r3 := R1.cell 3 (v := (.bool _)) rfl
              have r4 := R1.cell 4 (v := (.bool _)) rfl
              have r5 := R1.cell 5 (v := (.bool _)) rfl
              have r6 := R1.cell 6 (v := (.string _)) rfl
              have r7 := R1.cell 7 (v := (.int .i64 _)) rfl
              go_wp2_with fail
              refine (unhide K6 _ T1).mono ?_
              rintro e u2 ⟨rfl, hb2⟩
              have T2 := T1.trans (hb2.mono T1.size)
              have X2 := X1.step hb2
              have V2 := V1.step hb2
              have R2 := R1.step hb2
              clear hb2 T1 X1 V1 R1
              clear r0 r1 r2 r3 r4 r5 r6 r7
              go_wp2
              go_ret
              exact ⟨rfl, T2⟩
            | false =>
              clear F1 F2 F3
              have v0 := V0.cell 0 (v := (.int .i64 _)) rfl
              have v1 := V0.cell 1 (v := (.int .i64 _)) rfl
              have v2 := V0.cell 2 (v := (.bool _)) rfl
              have v3 := V0.cell 3 (v := (.bool _)) rfl
              have v4 := V0.cell 4 (v := (.bool _)) rfl
              have v5 := V0.cell 5 (v := (.bool _)) rfl
              have v6 := V0.cell 6 (v := (.string _)) rfl
              have v7 := V0.cell 7 (v := (.int .i64 _)) rfl
              go_wp2_with fail
              refine (unhide K5 _).mono ?_
              rintro e u1 ⟨rfl, hb1⟩
              have T1 := T0.trans (hb1.mono T0.size)
              have X1 := X0.step hb1
              have V1 := V0.step hb1
              have R1 := R0.step hb1
              clear hb1 T0 X0 V0 R0
              clear v0 v1 v2 v3 v4 v5 v6 v7
              go_wp2
              go_ret
              exact ⟨rfl, T1⟩
          · cases oy with
            | true =>
              have q4 : (100 : Int) < (s.size : Int) := by omega
              have eo2 := unhide F3 rfl
              subst eo2
              clear F1 F2 F3
              have v0 := V0.cell 0 (v := (.int .i64 _)) rfl
              have v1 := V0.cell 1 (v := (.int .i64 _)) rfl
              have v2 := V0.cell 2 (v := (.bool _)) rfl
              have v3 := V0.cell 3 (v := (.bool _)) rfl
              have v4 := V0.cell 4 (v := (.bool _)) rfl
              have v5 := V0.cell 5 (v := (.bool _)) rfl
              have v6 := V0.cell 6 (v := (.string _)) rfl
              have v7 := V0.cell 7 (v := (.int .i64 _)) rfl
              go_wp2_with fail
              refine (unhide K5 _).mono ?_
              rintro e u1 ⟨rfl, hb1⟩
              have T1 := T0.trans (hb1.mono T0.size)
              have X1 := X0.step hb1
              have V1 := V0.step hb1
              have R1 := R0.step hb1
              clear hb1 T0 X0 V0 R0
              clear v0 v1 v2 v3 v4 v5 v6 v7
              have r0 := R1.cell 0 (v := (.int .i64 _)) rfl
              have r1 := R1.cell 1 (v := (.int .i64 _)) rfl
              have r2 := R1.cell 2 (v := (.bool _)) rfl
              have r3 := R1.cell 3 (v := (.bool _)) rfl
              have r4 := R1.cell 4 (v := (.bool _)) rfl
              have r5 := R1.cell 5 (v := (.bool _)) rfl
              have r6 := R1.cell 6 (v := (.string _)) rfl
              have r7 := R1.cell 7 (v := (.int .i64 _)) rfl
              go_wp2_with fail
              refine (unhide K6 _ T1).mono ?_
              rintro e u2 ⟨rfl, hb2⟩
              have T2 := T1.trans (hb2.mono T1.size)
              have X2 := X1.step hb2
              have V2 := V1.step hb2
              have R2 := R1.step hb2
              clear hb2 T1 X1 V1 R1
              clear r0 r1 r2 r3 r4 r5 r6 r7
              go_wp2
              go_ret
              exact ⟨rfl, T2⟩
            | false =>
              have q4 : (100 : Int) < (s.size : Int) := by omega
              clear F1 F2 F3
              have v0 := V0.cell 0 (v := (.int .i64 _)) rfl
              have v1 := V0.cell 1 (v := (.int .i64 _)) rfl
              have v2 := V0.cell 2 (v := (.bool _)) rfl
              have v3 := V0.cell 3 (v := (.bool _)) rfl
              have v4 := V0.cell 4 (v := (.bool _)) rfl
              have v5 := V0.cell 5 (v := (.bool _)) rfl
              have v6 := V0.cell 6 (v := (.string _)) rfl
              have v7 := V0.cell 7 (v := (.int .i64 _)) rfl
              go_wp2_with fail
              refine (unhide K5 _).mono ?_
              rintro e u1 ⟨rfl, hb1⟩
              have T1 := T0.trans (hb1.mono T0.size)
              have X1 := X0.step hb1
              have V1 := V0.step hb1
              have R1 := R0.step hb1
              clear hb1 T0 X0 V0 R0
              clear v0 v1 v2 v3 v4 v5 v6 v7
              go_wp2
              go_ret
              exact ⟨rfl, T1⟩
end Go.Proofs.Ytecbpplocokedaa

