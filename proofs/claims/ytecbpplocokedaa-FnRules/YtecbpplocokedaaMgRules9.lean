/- Merged: DrRul, Rul1, Rul2, Rul3. -/
import Derived.Test.YtecbpplocokedaaMgRules1
import Derived.Test.YtecbpplocokedaaMgRules2
import Derived.Test.YtecbpplocokedaaMgRules3
import Derived.Test.YtecbpplocokedaaMgRules4
import Derived.Test.YtecbpplocokedaaMgRules5
import Derived.Test.YtecbpplocokedaaMgRules6
import Derived.Test.YtecbpplocokedaaMgRules7
import Derived.Test.YtecbpplocokedaaMgRules8
/- Draws of the rules' laws: a thing and two flags, a kind and a text, a thing, over the loaded program. -/
namespace Go.Proofs.Ytecbpplocokedaa
open Go.RowKit
theorem results_cb_tt {P : Program} {fn : Func} {p u v : Tmp} {ty : TypeId} (h : fn.results = #[.cell p ty, .tmp u, .tmp v]) (tmps : Array Value) (w : World) (g : Nat) (T : TypeId) (cs : Array Value) (fs : Array Field)
    (hp : tmps.getD p undef = .pointer (some ⟨g, 0, none⟩)) (hA : CB w g T cs) (hu : P.underlying ty = some (.struct fs)) (hi : (P.info? ty).map (·.size) = some cs.size) :
    (results fn tmps).run P w = .ok (.tuple #[.agg cs, tmps.getD u undef, tmps.getD v undef]) w := by
  have hp' : tmps[p]?.getD undef = .pointer (some ⟨g, 0, none⟩) := by simpa using hp
  simp [results, h, hp', asAddr, Result.andThen, run_loadVar_row w g T ty cs (0, 0) (.struct fs) hA hu rfl hi]
set_option maxRecDepth 20000 in
set_option maxHeartbeats 2000000 in
theorem drawRestored_any (w : World) (o : Option Addr) (n c : Nat) (hs : Src w w.heap.size o n) (hn : n ≤ 1048576) :
    Calls Try.prog 19 #[.slice o n c] w fun e w' => ∃ x : Th, DrT x ∧ e = .returned (.agg (thC x)) ∧ Below w.heap.size w w' := by
  obtain ⟨W, hW, hR, hb, hlt⟩ := one_cb w (thC thZ) 25
  unfold thC thZ at hW
  simp only at hW
  have hS := (hs.below hb (Nat.le_refl _)).up (show w.heap.size ≤ W.heap.size by omega)
  clear hs
  go_enter Try.func19, Try.ntmps19
  go_wp2_with fail
  refine (l01New_any W o n c hS hn).mono ?_
  rintro e w1 ⟨rfl, hb1, hC1⟩
  have hR1 := hR.step hb1
  have hB1 := hb.trans (hb1.mono hb.size)
  clear hR hb hb1 hW hS
  go_wp2_with fail
  refine (l19Any_any hC1 hn).mono ?_
  rintro e w2 ⟨x, hD, rfl, hG2, hC2⟩
  have hR2 := hide (hR1.grown hG2 (by simp; omega))
  have hB2 := hide (hB1.grown hG2 hB1.size (fun k hk => by cases hk; omega))
  clear hR1 hB1 hG2 hC1 hC2
  go_wp2_with (refine wpList_store_row rfl 25 (.tmp 2) (.tmp 5) rfl w.heap.size (thC x) rfl rfl 25 (thC thZ) (unhide hR2) (th_size x) rfl (th_one x) ?_)
  have hR5 := setRow_heap _ w.heap.size _ (thC x) 25 (0, 0) (unhide hR2)
  have hB5 := Go.below_setRow (unhide hB2) (Nat.le_refl _) (thC x)
  exact bodyPost_ret (results_cb (by exact Try.results19) _ _ w.heap.size 25 (thC x) _ rfl hR5 Try.underlying25 (th_size x)) rfl ⟨x, hD, rfl, hB5⟩
set_option maxRecDepth 20000 in
set_option maxHeartbeats 2000000 in
theorem drawChange_any (w : World) (o : Option Addr) (n c : Nat) (hs : Src w w.heap.size o n) (hn : n ≤ 1048576) :
    Calls Try.prog 10 #[.slice o n c] w fun e w' => ∃ (x : Th) (h f : Bool), DrT x ∧ e = .returned (.tuple #[.agg (thC x), .bool h, .bool f]) ∧ Below w.heap.size w w' := by
  obtain ⟨W, hW, hR, hb, hlt⟩ := one_cb w (thC thZ) 25
  unfold thC thZ at hW
  simp only at hW
  have hS := (hs.below hb (Nat.le_refl _)).up (show w.heap.size ≤ W.heap.size by omega)
  clear hs
  go_enter Try.func10, Try.ntmps10
  go_wp2_with fail
  refine (l01New_any W o n c hS hn).mono ?_
  rintro e w1 ⟨rfl, hb1, hC1⟩
  have hR1 := hR.step hb1
  have hB1 := hb.trans (hb1.mono hb.size)
  clear hR hb hb1 hW hS
  go_wp2_with fail
  refine (l19Any_any hC1 hn).mono ?_
  rintro e w2 ⟨x, hD, rfl, hG2, hC2⟩
  have hR2 := hR1.grown hG2 (by simp; omega)
  have hB2 := hB1.grown hG2 hB1.size (fun k hk => by cases hk; omega)
  clear hR1 hB1 hG2 hC1
  go_wp2_with fail
  refine (l01Once_any hC2 hn 2 (by decide) (by decide)).mono ?_
  rintro e w3 ⟨h, rfl, ho3, hC3⟩
  have hR3 := hR2.only ho3 (by omega)
  have hB3 := hB2.grown (gO ho3) hB2.size (fun k hk => by cases hk; omega)
  clear hR2 hB2 ho3 hC2
  go_wp2_with fail
  refine (l01Once_any hC3 hn 2 (by decide) (by decide)).mono ?_
  rintro e w4 ⟨f, rfl, ho4, hC4⟩
  have hR4 := hide (hR3.only ho4 (by omega))
  have hB4 := hide (hB3.grown (gO ho4) hB3.size (fun k hk => by cases hk; omega))
  clear hR3 hB3 ho4 hC3 hC4
  go_wp2_with (refine wpList_store_row rfl 25 (.tmp 2) (.tmp 9) rfl w.heap.size (thC x) rfl rfl 25 (thC thZ) (unhide hR4) (th_size x) rfl (th_one x) ?_)
  have hR5 := setRow_heap _ w.heap.size _ (thC x) 25 (0, 0) (unhide hR4)
  have hB5 := Go.below_setRow (unhide hB4) (Nat.le_refl _) (thC x)
  exact bodyPost_ret (results_cb_tt (by exact Try.results10) _ _ w.heap.size 25 (thC x) _ rfl hR5 Try.underlying25 (th_size x)) rfl ⟨x, h, f, hD, rfl, hB5⟩
set_option maxRecDepth 20000 in
set_option maxHeartbeats 2000000 in
theorem drawDefaults_any (w : World) (o : Option Addr) (n c : Nat) (hs : Src w w.heap.size o n) (hn : n ≤ 1048576) :
    Calls Try.prog 16 #[.slice o n c] w fun e w' => ∃ (k : Int) (s : ByteArray), s.size ≤ 101 ∧ e = .returned (.tuple #[.int .i64 k, .string s]) ∧ Below w.heap.size w w' := by
  have HS := hide hs
  clear hs
  go_enter Try.func16, Try.ntmps16
  go_wp2_with fail
  refine (l01New_any w o n c (unhide HS) hn).mono ?_
  rintro e w1 ⟨rfl, hb1, hc1⟩
  obtain ⟨g, hg⟩ : ∃ g, g = w.heap.size := ⟨_, rfl⟩
  rw [← hg] at hc1 ⊢
  have hgle : w.heap.size ≤ g := by omega
  clear HS hg
  go_wp2_with fail
  refine (l01Once_any hc1 hn 8 (by decide) (by decide)).mono ?_
  rintro e w2 ⟨b, rfl, ho2, hc2⟩
  have hb2 := hb1.grown (gO ho2) hb1.size (fun k hk => by cases hk; exact hgle)
  clear hc1 hb1 ho2
  cases b with
  | true =>
    go_wp2_with fail
    refine (l01Place_v hc2 hn 4 (by omega) (by omega)).mono ?_
    rintro e w3 ⟨i, rfl, g3, hc3⟩
    have hb3 := hb2.grown g3 hb2.size (fun k hk => by cases hk; exact hgle)
    clear hc2 hb2 g3
    go_wp2_with fail
    refine (l01Below_any hc3 hn 2 (by decide) (by decide)).mono ?_
    rintro e w4 ⟨x, hx, rfl, ho4, hc4⟩
    have hb4 := hb3.grown (gO ho4) hb3.size (fun k hk => by cases hk; exact hgle)
    clear hc3 hb3 ho4 hc4
    obtain ⟨m, hm⟩ : ∃ m : Nat, m = 100 + x := ⟨_, rfl⟩
    have u1 : (100 : Int) + (x : Int) = (m : Int) := by omega
    have CL := hide (l01Long0_any m 65 w4 (by omega) (by decide))
    have hm2 : m ≤ 101 := by omega
    replace hm := hide hm
    go_wp2_with fail
    refine (unhide CL).mono ?_
    rintro e w5 ⟨l, hl, rfl, hb5⟩
    have hT := hb4.trans (hb5.mono hb4.size)
    have hz : (ByteArray.mk l.toArray).size ≤ 101 := by show l.toArray.size ≤ 101; simp; omega
    clear hb4 hb5 CL
    go_wp2
    refine bodyPost_ret (v := .tuple #[.int .i64 i, .string ⟨l.toArray⟩]) (by simp [results, Try.results16, go_sem]) rfl ⟨i, _, hz, rfl, hT⟩
  | false =>
    go_wp2_with fail
    refine (l01Place_v hc2 hn 4 (by omega) (by omega)).mono ?_
    rintro e w3 ⟨i, rfl, g3, hc3⟩
    have hb3 := hb2.grown g3 hb2.size (fun k hk => by cases hk; exact hgle)
    clear hc2 hb2 g3
    go_wp2_with fail
    refine (l01Below_any hc3 hn 9 (by decide) (by decide)).mono ?_
    rintro e w4 ⟨x, hx, rfl, ho4, hc4⟩
    have hb4 := hb3.grown (gO ho4) hb3.size (fun k hk => by cases hk; exact hgle)
    clear hc3 hb3 ho4
    go_wp2_with fail
    refine (l01Text_g hc4 hn x (by omega)).mono ?_
    rintro e w5 ⟨l, hl, rfl, g5, hc5⟩
    have hT := hb4.grown g5 hb4.size (fun k hk => by cases hk; exact hgle)
    have hz : (ByteArray.mk l.toArray).size ≤ 101 := by show l.toArray.size ≤ 101; simp; omega
    clear hc4 hb4 g5 hc5
    go_wp2
    refine bodyPost_ret (v := .tuple #[.int .i64 i, .string ⟨l.toArray⟩]) (by simp [results, Try.results16, go_sem]) rfl ⟨i, _, hz, rfl, hT⟩
end Go.Proofs.Ytecbpplocokedaa

/- Rules by the given model, over the loaded program. -/
namespace Go.Proofs.Ytecbpplocokedaa
open Go.RowKit
set_option maxRecDepth 20000 in
set_option maxHeartbeats 2000000 in
theorem specMay_any (x : Th) (d : Int) (w : World) :
    Calls Try.prog 14 #[.agg (thC x), .int .i64 d] w fun e w' => e = .returned (.bool (mayB x d)) ∧ Below w.heap.size w w' := by
  have CO := hide (fun W => specThingOk_any x W)
  have E : mayB x d = if thOk x = true then (if d = 1 then !x.hid else if d = 2 then (!x.fix && decide (x.kind ≠ 2)) else if d = 3 then x.sgn else if d = 4 then x.wrp else decide (d = 5)) else false := rfl
  rw [E]
  clear E
  generalize thOk x = ok at *
  obtain ⟨id, kind, hid, fix, sgn, wrp, val, nxt⟩ := x
  unfold thC at CO ⊢
  simp only at CO ⊢
  obtain ⟨W, hW, hC, hb, hlt⟩ := one_cb w #[.int .i64 id, .int .i64 kind, .bool hid, .bool fix, .bool sgn, .bool wrp, .string val, .int .i64 nxt] 25
  have a0 := hC.cell 0 rfl
  have a1 := hC.cell 1 rfl
  have a2 := hC.cell 2 rfl
  have a3 := hC.cell 3 rfl
  have a4 := hC.cell 4 rfl
  have a5 := hC.cell 5 rfl
  have a6 := hC.cell 6 rfl
  have a7 := hC.cell 7 rfl
  have HD := hide (fun (W' : World) (h : Below W.heap.size W W') => hC.below h hlt)
  clear hC
  cases ok with
  | false =>
    go_enter Try.func14, Try.ntmps14
    go_wp2_with fail
    refine (unhide CO W).mono ?_
    rintro e w1 ⟨rfl, hb1⟩
    have hT := hb.trans (hb1.mono hb.size)
    clear a0 a1 a2 a3 a4 a5 a6 a7 hb hb1 HD
    go_wp2
    go_ret
    exact ⟨rfl, hT⟩
  | true =>
    by_cases h1 : d = 1
    · subst h1
      go_enter Try.func14, Try.ntmps14
      go_wp2_with fail
      refine (unhide CO W).mono ?_
      rintro e w1 ⟨rfl, hb1⟩
      have hT := hb.trans (hb1.mono hb.size)
      have hC1 := unhide HD w1 hb1
      have d1 := hC1.cell 1 rfl
      have d2 := hC1.cell 2 rfl
      have d3 := hC1.cell 3 rfl
      have d4 := hC1.cell 4 rfl
      have d5 := hC1.cell 5 rfl
      clear a0 a1 a2 a3 a4 a5 a6 a7 hb hb1 HD hC1
      go_wp2
      go_ret
      exact ⟨rfl, hT⟩
    by_cases h2 : d = 2
    · subst h2
      cases fix with
      | true =>
        go_enter Try.func14, Try.ntmps14
        go_wp2_with fail
        refine (unhide CO W).mono ?_
        rintro e w1 ⟨rfl, hb1⟩
        have hT := hb.trans (hb1.mono hb.size)
        have hC1 := unhide HD w1 hb1
        have d1 := hC1.cell 1 rfl
        have d2 := hC1.cell 2 rfl
        have d3 := hC1.cell 3 rfl
        have d4 := hC1.cell 4 rfl
        have d5 := hC1.cell 5 rfl
        clear a0 a1 a2 a3 a4 a5 a6 a7 hb hb1 HD hC1
        go_wp2
        go_ret
        exact ⟨rfl, hT⟩
      | false =>
        by_cases hk : kind = 2
        · subst hk
          go_enter Try.func14, Try.ntmps14
          go_wp2_with fail
          refine (unhide CO W).mono ?_
          rintro e w1 ⟨rfl, hb1⟩
          have hT := hb.trans (hb1.mono hb.size)
          have hC1 := unhide HD w1 hb1
          have d1 := hC1.cell 1 rfl
          have d2 := hC1.cell 2 rfl
          have d3 := hC1.cell 3 rfl
          have d4 := hC1.cell 4 rfl
          have d5 := hC1.cell 5 rfl
          clear a0 a1 a2 a3 a4 a5 a6 a7 hb hb1 HD hC1
          go_wp2
          go_ret
          exact ⟨rfl, hT⟩
        · have hk' : (kind == 2) = false := by rw [beq_eq_false_iff_ne]; exact hk
          have hk2 : decide (kind ≠ 2) = true := decide_eq_true hk
          go_enter Try.func14, Try.ntmps14
          go_wp2_with fail
          refine (unhide CO W).mono ?_
          rintro e w1 ⟨rfl, hb1⟩
          have hT := hb.trans (hb1.mono hb.size)
          have hC1 := unhide HD w1 hb1
          have d1 := hC1.cell 1 rfl
          have d2 := hC1.cell 2 rfl
          have d3 := hC1.cell 3 rfl
          have d4 := hC1.cell 4 rfl
          have d5 := hC1.cell 5 rfl
          clear a0 a1 a2 a3 a4 a5 a6 a7 hb hb1 HD hC1
          go_wp2
          go_ret
          exact ⟨by simp [hk], hT⟩
    by_cases h3 : d = 3
    · subst h3
      go_enter Try.func14, Try.ntmps14
      go_wp2_with fail
      refine (unhide CO W).mono ?_
      rintro e w1 ⟨rfl, hb1⟩
      have hT := hb.trans (hb1.mono hb.size)
      have hC1 := unhide HD w1 hb1
      have d1 := hC1.cell 1 rfl
      have d2 := hC1.cell 2 rfl
      have d3 := hC1.cell 3 rfl
      have d4 := hC1.cell 4 rfl
      have d5 := hC1.cell 5 rfl
      clear a0 a1 a2 a3 a4 a5 a6 a7 hb hb1 HD hC1
      go_wp2
      go_ret
      exact ⟨rfl, hT⟩
    by_cases h4 : d = 4
    · subst h4
      go_enter Try.func14, Try.ntmps14
      go_wp2_with fail
      refine (unhide CO W).mono ?_
      rintro e w1 ⟨rfl, hb1⟩
      have hT := hb.trans (hb1.mono hb.size)
      have hC1 := unhide HD w1 hb1
      have d1 := hC1.cell 1 rfl
      have d2 := hC1.cell 2 rfl
      have d3 := hC1.cell 3 rfl
      have d4 := hC1.cell 4 rfl
      have d5 := hC1.cell 5 rfl
      clear a0 a1 a2 a3 a4 a5 a6 a7 hb hb1 HD hC1
      go_wp2
      go_ret
      exact ⟨rfl, hT⟩
    by_cases h5 : d = 5
    · subst h5
      go_enter Try.func14, Try.ntmps14
      go_wp2_with fail
      refine (unhide CO W).mono ?_
      rintro e w1 ⟨rfl, hb1⟩
      have hT := hb.trans (hb1.mono hb.size)
      have hC1 := unhide HD w1 hb1
      have d1 := hC1.cell 1 rfl
      have d2 := hC1.cell 2 rfl
      have d3 := hC1.cell 3 rfl
      have d4 := hC1.cell 4 rfl
      have d5 := hC1.cell 5 rfl
      clear a0 a1 a2 a3 a4 a5 a6 a7 hb hb1 HD hC1
      go_wp2
      go_ret
      exact ⟨rfl, hT⟩
    go_enter Try.func14, Try.ntmps14
    go_wp2_with fail
    refine (unhide CO W).mono ?_
    rintro e w1 ⟨rfl, hb1⟩
    have hT := hb.trans (hb1.mono hb.size)
    have hC1 := unhide HD w1 hb1
    have d1 := hC1.cell 1 rfl
    have d2 := hC1.cell 2 rfl
    have d3 := hC1.cell 3 rfl
    have d4 := hC1.cell 4 rfl
    have d5 := hC1.cell 5 rfl
    clear a0 a1 a2 a3 a4 a5 a6 a7 hb hb1 HD hC1
    go_wp2
    go_ret
    exact ⟨by simp [h5], hT⟩
end Go.Proofs.Ytecbpplocokedaa

/- Rules by the given model: what is changed, what comes in again, new things, over the loaded program. -/
namespace Go.Proofs.Ytecbpplocokedaa
open Go.RowKit
set_option maxRecDepth 20000 in
set_option maxHeartbeats 4000000 in
theorem specChange_any (x : Th) (h f : Bool) (w : World) :
    Calls Try.prog 23 #[.agg (thC x), .bool h, .bool f] w fun e w' => e = .returned (.tuple #[.agg (thC (chgT x h f)), .bool (chgOk x h f)]) ∧ Below w.heap.size w w' := by
  have CO := hide (fun W => specThingOk_any x W)
  have HO : chgOk x h f = true ↔ thOk x = true ∧ (x.hid = true → h = true) ∧ (x.fix = true → f = true) := by unfold chgOk; exact decide_eq_true_iff
  have ET : chgT x h f = if chgOk x h f = true then { x with hid := h, fix := f } else thZ := rfl
  rw [ET]
  clear ET
  generalize chgOk x h f = fin at *
  generalize thOk x = ok at *
  obtain ⟨id, kind, hid, fix, sgn, wrp, val, nxt⟩ := x
  unfold thC at CO
  simp only at CO HO ⊢
  obtain ⟨W, hW, hA, hR, hb, hlt⟩ := two_cb w #[.int .i64 id, .int .i64 kind, .bool hid, .bool fix, .bool sgn, .bool wrp, .string val, .int .i64 nxt] (thC thZ) 25 25
  unfold thC thZ at hW
  simp only at hW
  have a0 := hA.cell 0 rfl
  have a1 := hA.cell 1 rfl
  have a2 := hA.cell 2 rfl
  have a3 := hA.cell 3 rfl
  have a4 := hA.cell 4 rfl
  have a5 := hA.cell 5 rfl
  have a6 := hA.cell 6 rfl
  have a7 := hA.cell 7 rfl
  replace hA := hide hA; replace hR := hide hR
  have hxe : thC ⟨id, kind, hid, fix, sgn, wrp, val, nxt⟩ = #[.int .i64 id, .int .i64 kind, .bool hid, .bool fix, .bool sgn, .bool wrp, .string val, .int .i64 nxt] := rfl
  rw [hxe]
  go_enter Try.func23, Try.ntmps23
  go_wp2_with fail
  refine (unhide CO W).mono ?_
  rintro e w1 ⟨rfl, hb1⟩
  have hA1 := (unhide hA).below hb1 (by omega)
  have hR1 := hide ((unhide hR).below hb1 (by omega))
  have hB1 := hide (hb.trans (hb1.mono hb.size))
  clear a0 a1 a2 a3 a4 a5 a6 a7 hA hR hb hb1 CO hW hxe
  have b2 := hA1.cell 2 rfl
  have b3 := hA1.cell 3 rfl
  have z2 := hA1.frozen 2
  have hX2 := hA1.set 2 (.bool h)
  have c3 := hX2.cell 3 rfl
  have z3 := hX2.frozen 3
  have hX3 := hX2.set 3 (.bool f)
  have hR3 := hide (((unhide hR1).set_other (h := w.heap.size) (k := 2) (by omega) (.bool h)).set_other (h := w.heap.size) (k := 3) (by omega) (.bool f))
  have hB3 := hide (((unhide hB1).setCell (p := ⟨w.heap.size, 2, none⟩) (Nat.le_refl _) (.bool h)).setCell (p := ⟨w.heap.size, 3, none⟩) (Nat.le_refl _) (.bool f))
  obtain ⟨y, hy⟩ : ∃ y : Th, y = ⟨id, kind, h, f, sgn, wrp, val, nxt⟩ := ⟨_, rfl⟩
  have hX4 := hide (cb_eq hX3 (show thC y = _ by rw [hy]; rfl))
  replace hy := hide hy
  clear hA1 hX2 hX3
  cases ok with
  | false =>
    obtain rfl : fin = false := by cases fin with | false => rfl | true => exact absurd (HO.1 rfl) (by simp)
    clear HO hX4 hR3 hB3 c3 z3 z2
    go_wp2_with (refine wpList_store_row rfl 25 (.tmp 6) (.tmp 27) rfl (w.heap.size + 1) (thC thZ) rfl rfl 25 (thC thZ) (unhide hR1) (th_size thZ) rfl (th_one thZ) ?_)
    have hR5 := setRow_heap _ (w.heap.size + 1) _ (thC thZ) 25 (0, 0) (unhide hR1)
    have hB5 := Go.below_setRow (unhide hB1) (show w.heap.size ≤ w.heap.size + 1 by omega) (thC thZ)
    exact bodyPost_ret (results_cb_tmp (by exact Try.results23) _ _ (w.heap.size + 1) 25 (thC thZ) _ rfl hR5 Try.underlying25 (th_size thZ)) rfl ⟨rfl, hB5⟩
  | true =>
    cases hid with
    | true =>
      cases h with
      | false =>
        obtain rfl : fin = false := by cases fin with | false => rfl | true => exact absurd (HO.1 rfl) (by simp)
        clear HO hX4 hR3 hB3 c3 z3 z2
        go_wp2_with (refine wpList_store_row rfl 25 (.tmp 6) (.tmp 27) rfl (w.heap.size + 1) (thC thZ) rfl rfl 25 (thC thZ) (unhide hR1) (th_size thZ) rfl (th_one thZ) ?_)
        have hR5 := setRow_heap _ (w.heap.size + 1) _ (thC thZ) 25 (0, 0) (unhide hR1)
        have hB5 := Go.below_setRow (unhide hB1) (show w.heap.size ≤ w.heap.size + 1 by omega) (thC thZ)
        exact bodyPost_ret (results_cb_tmp (by exact Try.results23) _ _ (w.heap.size + 1) 25 (thC thZ) _ rfl hR5 Try.underlying25 (th_size thZ)) rfl ⟨rfl, hB5⟩
      | true =>
        cases fix with
        | true =>
          cases f with
          | false =>
            obtain rfl : fin = false := by cases fin with | false => rfl | true => exact absurd (HO.1 rfl) (by simp)
            clear HO hX4 hR3 hB3 c3 z3 z2
            go_wp2_with (refine wpList_store_row rfl 25 (.tmp 6) (.tmp 27) rfl (w.heap.size + 1) (thC thZ) rfl rfl 25 (thC thZ) (unhide hR1) (th_size thZ) rfl (th_one thZ) ?_)
            have hR5 := setRow_heap _ (w.heap.size + 1) _ (thC thZ) 25 (0, 0) (unhide hR1)
            have hB5 := Go.below_setRow (unhide hB1) (show w.heap.size ≤ w.heap.size + 1 by omega) (thC thZ)
            exact bodyPost_ret (results_cb_tmp (by exact Try.results23) _ _ (w.heap.size + 1) 25 (thC thZ) _ rfl hR5 Try.underlying25 (th_size thZ)) rfl ⟨rfl, hB5⟩
          | true =>
            obtain rfl : fin = true := HO.2 (by simp)
            clear HO hR1 hB1
            go_wp2_with (first
              | (refine wpList_load_row rfl 25 (.tmp 3) rfl w.heap.size rfl 25 (thC y) (0, 0) _ (unhide hX4) Try.underlying25 rfl (th_size y) ?_)
              | (refine wpList_store_row rfl 25 (.tmp 6) (.tmp 32) rfl (w.heap.size + 1) (thC y) rfl rfl 25 (thC thZ) (unhide hR3) (th_size y) rfl (th_one y) ?_))
            have hR5 := setRow_heap _ (w.heap.size + 1) _ (thC y) 25 (0, 0) (unhide hR3)
            have hB5 := Go.below_setRow (unhide hB3) (show w.heap.size ≤ w.heap.size + 1 by omega) (thC y)
            exact bodyPost_ret (results_cb_tmp (by exact Try.results23) _ _ (w.heap.size + 1) 25 (thC y) _ rfl hR5 Try.underlying25 (th_size y)) rfl ⟨by rw [unhide hy]; rfl, hB5⟩
        | false =>
          obtain rfl : fin = true := HO.2 (by simp)
          clear HO hR1 hB1
          go_wp2_with (first
            | (refine wpList_load_row rfl 25 (.tmp 3) rfl w.heap.size rfl 25 (thC y) (0, 0) _ (unhide hX4) Try.underlying25 rfl (th_size y) ?_)
            | (refine wpList_store_row rfl 25 (.tmp 6) (.tmp 32) rfl (w.heap.size + 1) (thC y) rfl rfl 25 (thC thZ) (unhide hR3) (th_size y) rfl (th_one y) ?_))
          have hR5 := setRow_heap _ (w.heap.size + 1) _ (thC y) 25 (0, 0) (unhide hR3)
          have hB5 := Go.below_setRow (unhide hB3) (show w.heap.size ≤ w.heap.size + 1 by omega) (thC y)
          exact bodyPost_ret (results_cb_tmp (by exact Try.results23) _ _ (w.heap.size + 1) 25 (thC y) _ rfl hR5 Try.underlying25 (th_size y)) rfl ⟨by rw [unhide hy]; rfl, hB5⟩
    | false =>
      cases fix with
      | true =>
        cases f with
        | false =>
          obtain rfl : fin = false := by cases fin with | false => rfl | true => exact absurd (HO.1 rfl) (by simp)
          clear HO hX4 hR3 hB3 c3 z3 z2
          go_wp2_with (refine wpList_store_row rfl 25 (.tmp 6) (.tmp 27) rfl (w.heap.size + 1) (thC thZ) rfl rfl 25 (thC thZ) (unhide hR1) (th_size thZ) rfl (th_one thZ) ?_)
          have hR5 := setRow_heap _ (w.heap.size + 1) _ (thC thZ) 25 (0, 0) (unhide hR1)
          have hB5 := Go.below_setRow (unhide hB1) (show w.heap.size ≤ w.heap.size + 1 by omega) (thC thZ)
          exact bodyPost_ret (results_cb_tmp (by exact Try.results23) _ _ (w.heap.size + 1) 25 (thC thZ) _ rfl hR5 Try.underlying25 (th_size thZ)) rfl ⟨rfl, hB5⟩
        | true =>
          obtain rfl : fin = true := HO.2 (by simp)
          clear HO hR1 hB1
          go_wp2_with (first
            | (refine wpList_load_row rfl 25 (.tmp 3) rfl w.heap.size rfl 25 (thC y) (0, 0) _ (unhide hX4) Try.underlying25 rfl (th_size y) ?_)
            | (refine wpList_store_row rfl 25 (.tmp 6) (.tmp 32) rfl (w.heap.size + 1) (thC y) rfl rfl 25 (thC thZ) (unhide hR3) (th_size y) rfl (th_one y) ?_))
          have hR5 := setRow_heap _ (w.heap.size + 1) _ (thC y) 25 (0, 0) (unhide hR3)
          have hB5 := Go.below_setRow (unhide hB3) (show w.heap.size ≤ w.heap.size + 1 by omega) (thC y)
          exact bodyPost_ret (results_cb_tmp (by exact Try.results23) _ _ (w.heap.size + 1) 25 (thC y) _ rfl hR5 Try.underlying25 (th_size y)) rfl ⟨by rw [unhide hy]; rfl, hB5⟩
      | false =>
        obtain rfl : fin = true := HO.2 (by simp)
        clear HO hR1 hB1
        go_wp2_with (first
          | (refine wpList_load_row rfl 25 (.tmp 3) rfl w.heap.size rfl 25 (thC y) (0, 0) _ (unhide hX4) Try.underlying25 rfl (th_size y) ?_)
          | (refine wpList_store_row rfl 25 (.tmp 6) (.tmp 32) rfl (w.heap.size + 1) (thC y) rfl rfl 25 (thC thZ) (unhide hR3) (th_size y) rfl (th_one y) ?_))
        have hR5 := setRow_heap _ (w.heap.size + 1) _ (thC y) 25 (0, 0) (unhide hR3)
        have hB5 := Go.below_setRow (unhide hB3) (show w.heap.size ≤ w.heap.size + 1 by omega) (thC y)
        exact bodyPost_ret (results_cb_tmp (by exact Try.results23) _ _ (w.heap.size + 1) 25 (thC y) _ rfl hR5 Try.underlying25 (th_size y)) rfl ⟨by rw [unhide hy]; rfl, hB5⟩
set_option maxRecDepth 20000 in
set_option maxHeartbeats 2000000 in
theorem specRestored_any (x : Th) (w : World) :
    Calls Try.prog 25 #[.agg (thC x)] w fun e w' => e = .returned (.agg (thC (rstT x))) ∧ Below w.heap.size w w' := by
  obtain ⟨id, kind, hid, fix, sgn, wrp, val, nxt⟩ := x
  obtain ⟨y, hy⟩ : ∃ y : Th, y = rstT ⟨id, kind, hid, fix, sgn, wrp, val, nxt⟩ := ⟨_, rfl⟩
  rw [← hy]
  have hxe : thC ⟨id, kind, hid, fix, sgn, wrp, val, nxt⟩ = #[.int .i64 id, .int .i64 kind, .bool hid, .bool fix, .bool sgn, .bool wrp, .string val, .int .i64 nxt] := rfl
  rw [hxe]
  obtain ⟨W, hW, hA, hR, hb, hlt⟩ := two_cb w #[.int .i64 id, .int .i64 kind, .bool hid, .bool fix, .bool sgn, .bool wrp, .string val, .int .i64 nxt] (thC thZ) 25 25
  unfold thC thZ at hW
  simp only at hW
  have a4 := hA.cell 4 rfl
  have z4 := hA.frozen 4
  have hX1 := hA.set 4 (.bool false)
  have a7 := hX1.cell 7 rfl
  have z7 := hX1.frozen 7
  have hX2 := hX1.set 7 (.int .i64 0)
  have a0 := hX2.cell 0 rfl
  have z0 := hX2.frozen 0
  have hX3 := hX2.set 0 (.int .i64 0)
  have hX4 := hide (cb_eq hX3 (show thC y = _ by rw [hy]; rfl))
  have hR3 := hide (((hR.set_other (h := w.heap.size) (k := 4) (by omega) (.bool false)).set_other (h := w.heap.size) (k := 7) (by omega) (.int .i64 0)).set_other (h := w.heap.size) (k := 0) (by omega) (.int .i64 0))
  have hB3 := hide (((hb.setCell (p := ⟨w.heap.size, 4, none⟩) (Nat.le_refl _) (.bool false)).setCell (p := ⟨w.heap.size, 7, none⟩) (Nat.le_refl _) (.int .i64 0)).setCell (p := ⟨w.heap.size, 0, none⟩) (Nat.le_refl _) (.int .i64 0))
  replace hy := hide hy
  clear hA hX1 hX2 hX3 hR hb hxe
  go_enter Try.func25, Try.ntmps25
  go_wp2_with (first
    | (refine wpList_load_row rfl 25 (.tmp 1) rfl w.heap.size rfl 25 (thC y) (0, 0) _ (unhide hX4) Try.underlying25 rfl (th_size y) ?_)
    | (refine wpList_store_row rfl 25 (.tmp 2) (.tmp 6) rfl (w.heap.size + 1) (thC y) rfl rfl 25 (thC thZ) (unhide hR3) (th_size y) rfl (th_one y) ?_))
  have hR5 := setRow_heap _ (w.heap.size + 1) _ (thC y) 25 (0, 0) (unhide hR3)
  have hB5 := Go.below_setRow (unhide hB3) (show w.heap.size ≤ w.heap.size + 1 by omega) (thC y)
  exact bodyPost_ret (results_cb (by exact Try.results25) _ _ (w.heap.size + 1) 25 (thC y) _ rfl hR5 Try.underlying25 (th_size y)) rfl ⟨rfl, hB5⟩
set_option maxRecDepth 20000 in
set_option maxHeartbeats 2000000 in
theorem specDefaults_any (k : Int) (s : ByteArray) (hs : s.size ≤ 4000000) (w : World) :
    Calls Try.prog 18 #[.int .i64 k, .string s] w fun e w' => e = .returned (.tuple #[.agg (thC (defT k s)), .bool (defOk k s)]) ∧ Below w.heap.size w w' := by
  have CD := hide (fun W => specDigest_any s hs W)
  have ET : defT k s = if k = 1 then ⟨0, k, true, false, false, true, digB s, 0⟩ else if k = 2 then ⟨0, k, true, false, true, false, digB s, 0⟩ else if k = 3 ∧ s.size ≤ 100 then ⟨0, k, false, false, false, false, s, 0⟩ else thZ := rfl
  have EO : defOk k s = decide (k = 1 ∨ k = 2 ∨ (k = 3 ∧ s.size ≤ 100)) := rfl
  rw [ET, EO]
  clear ET EO
  generalize digB s = d at *
  obtain ⟨W, hW, hR, hb, hlt⟩ := one_cb w (thC thZ) 25
  unfold thC thZ at hW
  simp only at hW
  have HR := hide (fun (W' : World) (h : Below W.heap.size W W') => hR.below h hlt)
  have hR0 := hide hR
  have hb0 := hide hb
  clear hR
  by_cases h1 : k = 1
  · subst h1
    obtain ⟨y, hy⟩ : ∃ y : Th, y = ⟨0, 1, true, false, false, true, d, 0⟩ := ⟨_, rfl⟩
    replace hy := hide hy
    go_enter Try.func18, Try.ntmps18
    go_wp2_with fail
    refine (unhide CD W).mono ?_
    rintro e w1 ⟨rfl, hb1⟩
    have hR1 := hide (unhide HR w1 hb1)
    have hB1 := hide (hb.trans (hb1.mono hb.size))
    clear hb hb1 hW HR hR0 hb0 CD
    go_wp2_with (refine wpList_store_row rfl 25 (.tmp 4) (.tmp 12) rfl w.heap.size (thC y) rfl (by rw [unhide hy]; rfl) 25 (thC thZ) (unhide hR1) (th_size y) rfl (th_one y) ?_)
    have hR5 := setRow_heap _ w.heap.size _ (thC y) 25 (0, 0) (unhide hR1)
    have hB5 := Go.below_setRow (unhide hB1) (Nat.le_refl _) (thC y)
    exact bodyPost_ret (results_cb_tmp (by exact Try.results18) _ _ w.heap.size 25 (thC y) _ rfl hR5 Try.underlying25 (th_size y)) rfl ⟨by rw [unhide hy]; rfl, hB5⟩
  by_cases h2 : k = 2
  · subst h2
    obtain ⟨y, hy⟩ : ∃ y : Th, y = ⟨0, 2, true, false, true, false, d, 0⟩ := ⟨_, rfl⟩
    replace hy := hide hy
    go_enter Try.func18, Try.ntmps18
    go_wp2_with fail
    refine (unhide CD W).mono ?_
    rintro e w1 ⟨rfl, hb1⟩
    have hR1 := hide (unhide HR w1 hb1)
    have hB1 := hide (hb.trans (hb1.mono hb.size))
    clear hb hb1 hW HR hR0 hb0 CD
    go_wp2_with (refine wpList_store_row rfl 25 (.tmp 4) (.tmp 18) rfl w.heap.size (thC y) rfl (by rw [unhide hy]; rfl) 25 (thC thZ) (unhide hR1) (th_size y) rfl (th_one y) ?_)
    have hR5 := setRow_heap _ w.heap.size _ (thC y) 25 (0, 0) (unhide hR1)
    have hB5 := Go.below_setRow (unhide hB1) (Nat.le_refl _) (thC y)
    exact bodyPost_ret (results_cb_tmp (by exact Try.results18) _ _ w.heap.size 25 (thC y) _ rfl hR5 Try.underlying25 (th_size y)) rfl ⟨by rw [unhide hy]; rfl, hB5⟩
  have n1 : (k == 1) = false := by rw [beq_eq_false_iff_ne]; exact h1
  have n2 : (k == 2) = false := by rw [beq_eq_false_iff_ne]; exact h2
  by_cases h3 : k = 3
  · subst h3
    by_cases hz : s.size ≤ 100
    · have hz' : (s.size : Int) ≤ 100 := by omega
      obtain ⟨y, hy⟩ : ∃ y : Th, y = ⟨0, 3, false, false, false, false, s, 0⟩ := ⟨_, rfl⟩
      replace hy := hide hy
      clear hb CD HR
      go_enter Try.func18, Try.ntmps18
      go_wp2_with (refine wpList_store_row rfl 25 (.tmp 4) (.tmp 26) rfl w.heap.size (thC y) rfl (by rw [unhide hy]; rfl) 25 (thC thZ) (unhide hR0) (th_size y) rfl (th_one y) ?_)
      have hR5 := setRow_heap _ w.heap.size _ (thC y) 25 (0, 0) (unhide hR0)
      have hB5 := Go.below_setRow (unhide hb0) (Nat.le_refl _) (thC y)
      exact bodyPost_ret (results_cb_tmp (by exact Try.results18) _ _ w.heap.size 25 (thC y) _ rfl hR5 Try.underlying25 (th_size y)) rfl ⟨by rw [unhide hy]; simp, hB5⟩
    · have hz' : ¬ (s.size : Int) ≤ 100 := by omega
      have hz2 : decide ((s.size : Int) ≤ 100) = false := by rw [decide_eq_false_iff_not]; exact hz'
      obtain ⟨y, hy⟩ : ∃ y : Th, y = thZ := ⟨_, rfl⟩
      replace hy := hide hy
      clear hb CD HR
      go_enter Try.func18, Try.ntmps18
      go_wp2_with (refine wpList_store_row rfl 25 (.tmp 4) (.tmp 27) rfl w.heap.size (thC y) rfl (by rw [unhide hy]; rfl) 25 (thC thZ) (unhide hR0) (th_size y) rfl (th_one y) ?_)
      have hR5 := setRow_heap _ w.heap.size _ (thC y) 25 (0, 0) (unhide hR0)
      have hB5 := Go.below_setRow (unhide hb0) (Nat.le_refl _) (thC y)
      exact bodyPost_ret (results_cb_tmp (by exact Try.results18) _ _ w.heap.size 25 (thC y) _ rfl hR5 Try.underlying25 (th_size y)) rfl ⟨by rw [unhide hy]; simp, hB5⟩
  have n3 : (k == 3) = false := by rw [beq_eq_false_iff_ne]; exact h3
  obtain ⟨y, hy⟩ : ∃ y : Th, y = thZ := ⟨_, rfl⟩
  replace hy := hide hy
  clear hb CD HR
  go_enter Try.func18, Try.ntmps18
  go_wp2_with (refine wpList_store_row rfl 25 (.tmp 4) (.tmp 27) rfl w.heap.size (thC y) rfl (by rw [unhide hy]; rfl) 25 (thC thZ) (unhide hR0) (th_size y) rfl (th_one y) ?_)
  have hR5 := setRow_heap _ w.heap.size _ (thC y) 25 (0, 0) (unhide hR0)
  have hB5 := Go.below_setRow (unhide hb0) (Nat.le_refl _) (thC y)
  exact bodyPost_ret (results_cb_tmp (by exact Try.results18) _ _ w.heap.size 25 (thC y) _ rfl hR5 Try.underlying25 (th_size y)) rfl ⟨by rw [unhide hy]; simp, hB5⟩
end Go.Proofs.Ytecbpplocokedaa

/- Rules, reckoned: what the laws of chapter 20 ask. -/
namespace Go.Proofs.Ytecbpplocokedaa
theorem chg_is (x : Th) (h f : Bool) : chgOk x h f = (thOk x && (h || !x.hid) && (f || !x.fix)) := by
  unfold chgOk
  cases thOk x <;> cases h <;> cases x.hid <;> cases f <;> cases x.fix <;> decide
theorem may_show {x : Th} (h : mayB x 1 = true) : x.hid = false := by
  unfold mayB at h
  split at h
  · simpa using h
  · cases h
theorem may_out {x : Th} (h : mayB x 2 = true) : x.fix = false ∧ x.kind ≠ 2 := by
  unfold mayB at h
  split at h
  · rw [if_neg (by decide), if_pos rfl] at h
    simpa using h
  · cases h
theorem may_sign {x : Th} (h : mayB x 3 = true) : x.sgn = true := by
  unfold mayB at h
  split at h
  · simpa using h
  · cases h
theorem may_nine (x : Th) : mayB x 9 = false := by
  unfold mayB
  split
  · rfl
  · rfl
theorem chg_no {x : Th} {h f : Bool} (e : chgOk x h f = false) : chgT x h f = thZ := by unfold chgT; rw [e]; rfl
theorem chg_yes {x : Th} {h f : Bool} (e : chgOk x h f = true) : chgT x h f = ⟨x.id, x.kind, h, f, x.sgn, x.wrp, x.val, x.nxt⟩ := by unfold chgT; rw [if_pos e]
theorem chg_ok {x : Th} {h f : Bool} (e : chgOk x h f = true) : thOk ⟨x.id, x.kind, h, f, x.sgn, x.wrp, x.val, x.nxt⟩ = true := by
  rw [chg_is] at e
  simp only [Bool.and_eq_true] at e
  exact e.1.1
theorem chg_mono {x : Th} {h f : Bool} (e : chgOk x h f = true) (d : Int) (hm : mayB ⟨x.id, x.kind, h, f, x.sgn, x.wrp, x.val, x.nxt⟩ d = true) : mayB x d = true := by
  have h1 := chg_ok e
  rw [chg_is] at e
  simp only [Bool.and_eq_true, Bool.or_eq_true, Bool.not_eq_true'] at e
  unfold mayB at hm ⊢
  rw [if_pos h1] at hm
  rw [if_pos e.1.1]
  dsimp only at hm
  split
  · rename_i hd
    rw [if_pos hd] at hm
    rcases e.1.2 with q | q
    · rw [q] at hm; cases hm
    · rw [q]; rfl
  · rename_i hd
    rw [if_neg hd] at hm
    split
    · rename_i hd2
      rw [if_pos hd2] at hm
      simp only [Bool.and_eq_true, Bool.not_eq_true'] at hm ⊢
      refine ⟨?_, hm.2⟩
      rcases e.2 with q | q
      · rw [q] at hm; exact absurd hm.1 (by decide)
      · exact q
    · rename_i hd2
      rw [if_neg hd2] at hm
      exact hm
theorem may_five {x : Th} (h : thOk x = true) : mayB x 5 = true := by
  unfold mayB
  rw [if_pos h]
  rfl
end Go.Proofs.Ytecbpplocokedaa

