/- Rules by the given model, over the loaded program. -/
import Derived.Test.YtecbpplocokedaaRul0
import Derived.Test.YtecbpplocokedaaThgH
namespace Go.Proofs.Ytecbpplocokedaa
open Go.RowKit
set_option maxRecDepth 20000 in
set_option maxHeartbeats 2000000 in
theorem specMay_any (x : Th) (d : Int) (w : World) :
    Calls Try.prog 14 #[.agg (thC x), .int .i64 d] w fun e w' => e = .returned (.bool (mayB x d)) ∧ Below w.heap.size w w' := by
  have CO := hide (fun W => specThingOk_any x W)
  have E : mayB x d = if thOk x = true then (if d = 1 then !x.hid else if d = 2 then (!x.fix && decide (x.kind ≠ 2)) else if d = 3 then x.sgn else if d = 4 then x.wrp else decide (d = 5)) else false := rfl
  rw [E]
  clear E
  generalize thOk x = ok at *
  obtain ⟨id, kind, hid, fix, sgn, wrp, val, nxt⟩ := x
  unfold thC at CO ⊢
  simp only at CO ⊢
  obtain ⟨W, hW, hC, hb, hlt⟩ := one_cb w #[.int .i64 id, .int .i64 kind, .bool hid, .bool fix, .bool sgn, .bool wrp, .string val, .int .i64 nxt] 25
  have a0 := hC.cell 0 rfl
  have a1 := hC.cell 1 rfl
  have a2 := hC.cell 2 rfl
  have a3 := hC.cell 3 rfl
  have a4 := hC.cell 4 rfl
  have a5 := hC.cell 5 rfl
  have a6 := hC.cell 6 rfl
  have a7 := hC.cell 7 rfl
  have HD := hide (fun (W' : World) (h : Below W.heap.size W W') => hC.below h hlt)
  clear hC
  cases ok with
  | false =>
    go_enter Try.func14, Try.ntmps14
    go_wp2_with fail
    refine (unhide CO W).mono ?_
    rintro e w1 ⟨rfl, hb1⟩
    have hT := hb.trans (hb1.mono hb.size)
    clear a0 a1 a2 a3 a4 a5 a6 a7 hb hb1 HD
    go_wp2
    go_ret
    exact ⟨rfl, hT⟩
  | true =>
    by_cases h1 : d = 1
    · subst h1
      go_enter Try.func14, Try.ntmps14
      go_wp2_with fail
      refine (unhide CO W).mono ?_
      rintro e w1 ⟨rfl, hb1⟩
      have hT := hb.trans (hb1.mono hb.size)
      have hC1 := unhide HD w1 hb1
      have d1 := hC1.cell 1 rfl
      have d2 := hC1.cell 2 rfl
      have d3 := hC1.cell 3 rfl
      have d4 := hC1.cell 4 rfl
      have d5 := hC1.cell 5 rfl
      clear a0 a1 a2 a3 a4 a5 a6 a7 hb hb1 HD hC1
      go_wp2
      go_ret
      exact ⟨rfl, hT⟩
    by_cases h2 : d = 2
    · subst h2
      cases fix with
      | true =>
        go_enter Try.func14, Try.ntmps14
        go_wp2_with fail
        refine (unhide CO W).mono ?_
        rintro e w1 ⟨rfl, hb1⟩
        have hT := hb.trans (hb1.mono hb.size)
        have hC1 := unhide HD w1 hb1
        have d1 := hC1.cell 1 rfl
        have d2 := hC1.cell 2 rfl
        have d3 := hC1.cell 3 rfl
        have d4 := hC1.cell 4 rfl
        have d5 := hC1.cell 5 rfl
        clear a0 a1 a2 a3 a4 a5 a6 a7 hb hb1 HD hC1
        go_wp2
        go_ret
        exact ⟨rfl, hT⟩
      | false =>
        by_cases hk : kind = 2
        · subst hk
          go_enter Try.func14, Try.ntmps14
          go_wp2_with fail
          refine (unhide CO W).mono ?_
          rintro e w1 ⟨rfl, hb1⟩
          have hT := hb.trans (hb1.mono hb.size)
          have hC1 := unhide HD w1 hb1
          have d1 := hC1.cell 1 rfl
          have d2 := hC1.cell 2 rfl
          have d3 := hC1.cell 3 rfl
          have d4 := hC1.cell 4 rfl
          have d5 := hC1.cell 5 rfl
          clear a0 a1 a2 a3 a4 a5 a6 a7 hb hb1 HD hC1
          go_wp2
          go_ret
          exact ⟨rfl, hT⟩
        · have hk' : (kind == 2) = false := by rw [beq_eq_false_iff_ne]; exact hk
          have hk2 : decide (kind ≠ 2) = true := decide_eq_true hk
          go_enter Try.func14, Try.ntmps14
          go_wp2_with fail
          refine (unhide CO W).mono ?_
          rintro e w1 ⟨rfl, hb1⟩
          have hT := hb.trans (hb1.mono hb.size)
          have hC1 := unhide HD w1 hb1
          have d1 := hC1.cell 1 rfl
          have d2 := hC1.cell 2 rfl
          have d3 := hC1.cell 3 rfl
          have d4 := hC1.cell 4 rfl
          have d5 := hC1.cell 5 rfl
          clear a0 a1 a2 a3 a4 a5 a6 a7 hb hb1 HD hC1
          go_wp2
          go_ret
          exact ⟨by simp [hk], hT⟩
    by_cases h3 : d = 3
    · subst h3
      go_enter Try.func14, Try.ntmps14
      go_wp2_with fail
      refine (unhide CO W).mono ?_
      rintro e w1 ⟨rfl, hb1⟩
      have hT := hb.trans (hb1.mono hb.size)
      have hC1 := unhide HD w1 hb1
      have d1 := hC1.cell 1 rfl
      have d2 := hC1.cell 2 rfl
      have d3 := hC1.cell 3 rfl
      have d4 := hC1.cell 4 rfl
      have d5 := hC1.cell 5 rfl
      clear a0 a1 a2 a3 a4 a5 a6 a7 hb hb1 HD hC1
      go_wp2
      go_ret
      exact ⟨rfl, hT⟩
    by_cases h4 : d = 4
    · subst h4
      go_enter Try.func14, Try.ntmps14
      go_wp2_with fail
      refine (unhide CO W).mono ?_
      rintro e w1 ⟨rfl, hb1⟩
      have hT := hb.trans (hb1.mono hb.size)
      have hC1 := unhide HD w1 hb1
      have d1 := hC1.cell 1 rfl
      have d2 := hC1.cell 2 rfl
      have d3 := hC1.cell 3 rfl
      have d4 := hC1.cell 4 rfl
      have d5 := hC1.cell 5 rfl
      clear a0 a1 a2 a3 a4 a5 a6 a7 hb hb1 HD hC1
      go_wp2
      go_ret
      exact ⟨rfl, hT⟩
    by_cases h5 : d = 5
    · subst h5
      go_enter Try.func14, Try.ntmps14
      go_wp2_with fail
      refine (unhide CO W).mono ?_
      rintro e w1 ⟨rfl, hb1⟩
      have hT := hb.trans (hb1.mono hb.size)
      have hC1 := unhide HD w1 hb1
      have d1 := hC1.cell 1 rfl
      have d2 := hC1.cell 2 rfl
      have d3 := hC1.cell 3 rfl
      have d4 := hC1.cell 4 rfl
      have d5 := hC1.cell 5 rfl
      clear a0 a1 a2 a3 a4 a5 a6 a7 hb hb1 HD hC1
      go_wp2
      go_ret
      exact ⟨rfl, hT⟩
    go_enter Try.func14, Try.ntmps14
    go_wp2_with fail
    refine (unhide CO W).mono ?_
    rintro e w1 ⟨rfl, hb1⟩
    have hT := hb.trans (hb1.mono hb.size)
    have hC1 := unhide HD w1 hb1
    have d1 := hC1.cell 1 rfl
    have d2 := hC1.cell 2 rfl
    have d3 := hC1.cell 3 rfl
    have d4 := hC1.cell 4 rfl
    have d5 := hC1.cell 5 rfl
    clear a0 a1 a2 a3 a4 a5 a6 a7 hb hb1 HD hC1
    go_wp2
    go_ret
    exact ⟨by simp [h5], hT⟩
end Go.Proofs.Ytecbpplocokedaa
