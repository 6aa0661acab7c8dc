/- The project's rules: what may be done with a thing, over the loaded program. -/
import Derived.Test.YtecbpplocokedaaRuI1
import Derived.Test.YtecbpplocokedaaRul0
namespace Go.Proofs.Ytecbpplocokedaa
open Go.RowKit
theorem rule_zero (w : World) : (zeroValue 51).run Try.prog w = .ok .nilFunc w := by kernel_rfl
set_option maxRecDepth 20000 in
set_option maxHeartbeats 4000000 in
theorem implMay_any (x : Th) (d : Int) (w : World) :
    Calls Try.prog 13 #[.agg (thC x), .int .i64 d] w fun e w' => e = .returned (.bool (mayB x d)) ∧ Below w.heap.size w w' := by
  have CO := hide (fun W => implThingOk_any x W)
  have CR := hide (fun W => rulesOf_any x W)
  have C1 := hide (fun g W h => rule1_any x g W h)
  have C2 := hide (fun g W h => rule2_any x g W h)
  have C3 := hide (fun g W h => rule3_any x g W h)
  have C4 := hide (fun g W h => rule4_any x g W h)
  have C5 := hide (fun W => rule5_any W)
  have E : mayB x d = if thOk x = true then (if d = 1 then !x.hid else if d = 2 then (!x.fix && decide (x.kind ≠ 2)) else if d = 3 then x.sgn else if d = 4 then x.wrp else decide (d = 5)) else false := rfl
  rw [E]
  clear E
  generalize thOk x = ok at *
  obtain ⟨y, hy⟩ : ∃ y : Th, y = x := ⟨_, rfl⟩
  obtain ⟨id, kind, hid, fix, sgn, wrp, val, nxt⟩ := x
  rw [show thC ⟨id, kind, hid, fix, sgn, wrp, val, nxt⟩ = #[.int .i64 id, .int .i64 kind, .bool hid, .bool fix, .bool sgn, .bool wrp, .string val, .int .i64 nxt] from rfl] at CO CR ⊢
  rw [← hy] at C1 C2 C3 C4
  have hxe : #[.int .i64 id, .int .i64 kind, .bool hid, .bool fix, .bool sgn, .bool wrp, .string val, .int .i64 nxt] = thC y := by rw [hy]; rfl
  simp only at CO CR ⊢
  have k2 : y.fix = fix := by rw [hy]
  have k1 : y.hid = hid := by rw [hy]
  have k3 : y.kind = kind := by rw [hy]
  have k4 : y.sgn = sgn := by rw [hy]
  have k5 : y.wrp = wrp := by rw [hy]
  rw [k1] at C1
  rw [k2, k3] at C2
  rw [k4] at C3
  rw [k5] at C4
  clear k1 k2 k3 k4 k5
  obtain ⟨W, hW, hC, hb, hlt⟩ := one_cb w #[.int .i64 id, .int .i64 kind, .bool hid, .bool fix, .bool sgn, .bool wrp, .string val, .int .i64 nxt] 25
  have a0 := hC.cell 0 rfl
  have a1 := hC.cell 1 rfl
  have a2 := hC.cell 2 rfl
  have a3 := hC.cell 3 rfl
  have a4 := hC.cell 4 rfl
  have a5 := hC.cell 5 rfl
  have a6 := hC.cell 6 rfl
  have a7 := hC.cell 7 rfl
  replace hy := hide hy; replace hxe := hide hxe
  go_enter Try.func13, Try.ntmps13
  go_wp2_with fail
  refine (unhide CR W).mono ?_
  rintro e w1 ⟨rfl, hm1, hG1, hb1⟩
  have hC1 := hC.below hb1 hlt
  have hB1 := hb.trans (hb1.mono hb.size)
  clear a0 a1 a2 a3 a4 a5 a6 a7 hC hb hb1 CR hW hlt
  have a0 := hC1.cell 0 rfl
  have a1 := hC1.cell 1 rfl
  have a2 := hC1.cell 2 rfl
  have a3 := hC1.cell 3 rfl
  have a4 := hC1.cell 4 rfl
  have a5 := hC1.cell 5 rfl
  have a6 := hC1.cell 6 rfl
  have a7 := hC1.cell 7 rfl
  replace hG1 := hide hG1
  clear hC1
  by_cases h1 : d = 1
  · subst h1
    have hL : (Instr.lookup 53 (.map (some (W.heap.size + 1))) (.int .i64 1) true).run Try.prog w1 = .ok (.tuple #[.func (.func 42) #[] #[.pointer (some ⟨W.heap.size, 0, none⟩)], .bool true]) w1 := run_lookup_at w1 53 3 51 .i64 Try.underlying53 Try.underlying3 _ _ 5 hm1 1 0 _ rfl
    clear hm1
    go_wp2_with fail
    refine (unhide CO w1).mono ?_
    rintro e w2 ⟨rfl, hb2⟩
    have hG2 := (unhide hG1).step hb2
    have hB2 := hB1.trans (hb2.mono hB1.size)
    clear a0 a1 a2 a3 a4 a5 a6 a7 hB1 hb2 hG1 CO hL
    cases ok with
    | false =>
      go_wp2
      go_ret
      exact ⟨rfl, hB2⟩
    | true =>
      go_wp2_with fail
      refine (unhide C1 W.heap.size w2 (by rw [← unhide hxe]; exact hG2)).mono ?_
      rintro e w3 ⟨rfl, rfl⟩
      go_wp2
      go_ret
      exact ⟨by simp, hB2⟩
  by_cases h2 : d = 2
  · subst h2
    have hL : (Instr.lookup 53 (.map (some (W.heap.size + 1))) (.int .i64 2) true).run Try.prog w1 = .ok (.tuple #[.func (.func 43) #[] #[.pointer (some ⟨W.heap.size, 0, none⟩)], .bool true]) w1 := run_lookup_at w1 53 3 51 .i64 Try.underlying53 Try.underlying3 _ _ 5 hm1 2 1 _ rfl
    clear hm1
    go_wp2_with fail
    refine (unhide CO w1).mono ?_
    rintro e w2 ⟨rfl, hb2⟩
    have hG2 := (unhide hG1).step hb2
    have hB2 := hB1.trans (hb2.mono hB1.size)
    clear a0 a1 a2 a3 a4 a5 a6 a7 hB1 hb2 hG1 CO hL
    cases ok with
    | false =>
      go_wp2
      go_ret
      exact ⟨rfl, hB2⟩
    | true =>
      go_wp2_with fail
      refine (unhide C2 W.heap.size w2 (by rw [← unhide hxe]; exact hG2)).mono ?_
      rintro e w3 ⟨rfl, rfl⟩
      go_wp2
      go_ret
      exact ⟨by simp, hB2⟩
  by_cases h3 : d = 3
  · subst h3
    have hL : (Instr.lookup 53 (.map (some (W.heap.size + 1))) (.int .i64 3) true).run Try.prog w1 = .ok (.tuple #[.func (.func 44) #[] #[.pointer (some ⟨W.heap.size, 0, none⟩)], .bool true]) w1 := run_lookup_at w1 53 3 51 .i64 Try.underlying53 Try.underlying3 _ _ 5 hm1 3 2 _ rfl
    clear hm1
    go_wp2_with fail
    refine (unhide CO w1).mono ?_
    rintro e w2 ⟨rfl, hb2⟩
    have hG2 := (unhide hG1).step hb2
    have hB2 := hB1.trans (hb2.mono hB1.size)
    clear a0 a1 a2 a3 a4 a5 a6 a7 hB1 hb2 hG1 CO hL
    cases ok with
    | false =>
      go_wp2
      go_ret
      exact ⟨rfl, hB2⟩
    | true =>
      go_wp2_with fail
      refine (unhide C3 W.heap.size w2 (by rw [← unhide hxe]; exact hG2)).mono ?_
      rintro e w3 ⟨rfl, rfl⟩
      go_wp2
      go_ret
      exact ⟨by simp, hB2⟩
  by_cases h4 : d = 4
  · subst h4
    have hL : (Instr.lookup 53 (.map (some (W.heap.size + 1))) (.int .i64 4) true).run Try.prog w1 = .ok (.tuple #[.func (.func 45) #[] #[.pointer (some ⟨W.heap.size, 0, none⟩)], .bool true]) w1 := run_lookup_at w1 53 3 51 .i64 Try.underlying53 Try.underlying3 _ _ 5 hm1 4 3 _ rfl
    clear hm1
    go_wp2_with fail
    refine (unhide CO w1).mono ?_
    rintro e w2 ⟨rfl, hb2⟩
    have hG2 := (unhide hG1).step hb2
    have hB2 := hB1.trans (hb2.mono hB1.size)
    clear a0 a1 a2 a3 a4 a5 a6 a7 hB1 hb2 hG1 CO hL
    cases ok with
    | false =>
      go_wp2
      go_ret
      exact ⟨rfl, hB2⟩
    | true =>
      go_wp2_with fail
      refine (unhide C4 W.heap.size w2 (by rw [← unhide hxe]; exact hG2)).mono ?_
      rintro e w3 ⟨rfl, rfl⟩
      go_wp2
      go_ret
      exact ⟨by simp, hB2⟩
  by_cases h5 : d = 5
  · subst h5
    have hL : (Instr.lookup 53 (.map (some (W.heap.size + 1))) (.int .i64 5) true).run Try.prog w1 = .ok (.tuple #[.func (.func 46) #[] #[], .bool true]) w1 := run_lookup_at w1 53 3 51 .i64 Try.underlying53 Try.underlying3 _ _ 5 hm1 5 4 _ rfl
    clear hm1
    go_wp2_with fail
    refine (unhide CO w1).mono ?_
    rintro e w2 ⟨rfl, hb2⟩
    have hG2 := (unhide hG1).step hb2
    have hB2 := hB1.trans (hb2.mono hB1.size)
    clear a0 a1 a2 a3 a4 a5 a6 a7 hB1 hb2 hG1 CO hL
    cases ok with
    | false =>
      go_wp2
      go_ret
      exact ⟨rfl, hB2⟩
    | true =>
      go_wp2_with fail
      refine (unhide C5 w2).mono ?_
      rintro e w3 ⟨rfl, rfl⟩
      go_wp2
      go_ret
      exact ⟨by simp, hB2⟩
  have n1 : (d == 1) = false := by rw [beq_eq_false_iff_ne]; exact h1
  have n2 : (d == 2) = false := by rw [beq_eq_false_iff_ne]; exact h2
  have n3 : (d == 3) = false := by rw [beq_eq_false_iff_ne]; exact h3
  have n4 : (d == 4) = false := by rw [beq_eq_false_iff_ne]; exact h4
  have n5 : (d == 5) = false := by rw [beq_eq_false_iff_ne]; exact h5
  have hL : (Instr.lookup 53 (.map (some (W.heap.size + 1))) (.int .i64 d) true).run Try.prog w1 = .ok (.tuple #[.nilFunc, .bool false]) w1 := run_lookup_not w1 53 3 51 .i64 Try.underlying53 Try.underlying3 _ _ 5 hm1 d _ (rule_zero w1) (by simp [rulE, Instr.findNow, Instr.sameNow, n1, n2, n3, n4, n5])
  clear hm1
  cases ok with
  | false =>
    go_wp2
    go_ret
    exact ⟨rfl, hB1⟩
  | true =>
    go_wp2
    go_ret
    exact ⟨by simp, hB1⟩
end Go.Proofs.Ytecbpplocokedaa
