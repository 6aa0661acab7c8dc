/- The law FnFar, walked over the loaded program. -/
import Derived.Test.YtlbkfooogpmihacDrawZ
import Derived.Test.YtlbkfooogpmihacPlyI
import Derived.Test.YtlbkfooogpmihacPly2
namespace Go.Proofs.Ytlbkfooogpmihac
open Go.RowKit
theorem ok_len9 {l : List Int} (h : okPl l = true) : okPl l = true ∧ l.length ≤ 1048576 := ⟨h, by have := (okPl_yes h).1; omega⟩
set_option maxRecDepth 20000 in
set_option maxHeartbeats 800000 in
theorem lawFarDrawn_any (w : World) (o : Option Addr) (n c : Nat) (hs : Src w w.heap.size o n) :
    Calls Try.prog 7 #[.slice o n c] w fun e w' => e = .returned (.bool true) ∧ Below w.heap.size w w' := by
  have HS := hide hs
  clear hs
  by_cases hbig : (1048576 : Int) < (n : Int)
  · have hd : decide ((1048576 : Int) < (n : Int)) = true := by rw [decide_eq_true_iff]; exact hbig
    go_enter Try.func7, Try.ntmps7
    go_wp2_with (go_at_call 8; refine (big_any w o n c).mono ?_; rintro e w1 ⟨rfl, rfl⟩)
    go_ret
    exact ⟨rfl, Below.refl _ _⟩
  have hd : decide ((1048576 : Int) < (n : Int)) = false := by rw [decide_eq_false_iff_not]; exact hbig
  have hn : n ≤ 1048576 := by omega
  go_enter Try.func7, Try.ntmps7
  go_wp2_with fail
  refine (big_any w o n c).mono ?_
  rintro e w0 ⟨rfl, hw0⟩
  have hw0' := hw0.symm
  subst hw0'
  clear hw0
  go_wp2_with fail
  refine (drawPolys_any w o n c (unhide HS) hn).mono ?_
  rintro e w1 ⟨la, lb, lc, va, vb, vc, oka, okb, okc, rfl, rA1, rB1, rC1, hcap, HT1⟩
  have kA := ok_len9 oka
  have kB := ok_len9 okb
  have kC := ok_len9 okc
  clear HS
  have f1 := far_comm oka okb
  have f2 := far_le oka okb
  have f3 := far_zero oka okb
  have f4 : farL la la = 0 := (far_zero oka oka).2 rfl
  have f5 := far_tri oka okb okc
  have f6 := far_le okb okc
  have f7 := far_le oka okc
  have f8 : farL la [1] = -1 := far_no
  have C1 := hide (fun W r1 r2 => implFar_any la lb va vb kA.2 kB.2 W r1 r2)
  have C2 := hide (fun W r1 r2 => implFar_any lb la vb va kB.2 kA.2 W r1 r2)
  have C3 := hide (fun W r1 r2 => implFar_any la la va va kA.2 kA.2 W r1 r2)
  have C4 := hide (fun W r1 r2 => implFar_any la lc va vc kA.2 kC.2 W r1 r2)
  have C5 := hide (fun W r1 r2 => implFar_any lb lc vb vc kB.2 kC.2 W r1 r2)
  have C6 := hide (fun W r1 r2 => specFar_any la lb va vb W r1 r2)
  have C7 := hide (fun (W : World) (u : Value) r1 (r2 : RdV W u (([1] : List Int).map iv)) => implFar_any la [1] va u kA.2 (by decide) W r1 r2)
  rw [← f1] at C2
  rw [f4] at C3
  rw [f8] at C7
  generalize farL la lb = D at *
  generalize farL la lc = E at *
  generalize farL lb lc = F at *
  obtain ⟨S, hS⟩ : ∃ S, S = D + F := ⟨_, rfl⟩
  have ws : IntKind.i64.wrap (D + F) = S := by rw [IntKind.wrap_i64]; omega
  have hES : E ≤ S := by omega
  have hD0 : 0 ≤ D := f2.1
  have hD1 : D ≤ 1664 := f2.2
  have HZ := hide (show ((D == 0) == decide (la = lb)) = true from by
    by_cases h : la = lb
    · rw [decide_eq_true h, f3.2 h]; rfl
    · rw [decide_eq_false h, show (D == 0) = false from beq_eq_false_iff_ne.2 (fun e => h (f3.1 e))]; rfl)
  replace hS := hide hS
  clear f1 f2 f3 f4 f5 f6 f7 f8
  go_wp2_with fail
  refine ((unhide C1) w1 rA1 rB1).mono ?_
  rintro e w2 ⟨rfl, hb2⟩
  have HT2 := HT1.trans (hb2.mono HT1.size)
  have rA2 := rA1.below hb2
  have rB2 := rB1.below hb2
  have rC2 := rC1.below hb2
  clear rA1 rB1 rC1 hb2 HT1
  go_wp2_with fail
  refine ((unhide C2) w2 rB2 rA2).mono ?_
  rintro e w3 ⟨rfl, hb3⟩
  have HT3 := HT2.trans (hb3.mono HT2.size)
  have rA3 := rA2.below hb3
  have rB3 := rB2.below hb3
  have rC3 := rC2.below hb3
  clear rA2 rB2 rC2 hb3 HT2
  go_wp2_with fail
  refine (sameInts_any la lb (Nat.le_trans kB.2 (by omega)) _ _ w3 rA3 rB3).mono ?_
  rintro e w4 ⟨rfl, hb4⟩
  have HT4 := HT3.trans (hb4.mono HT3.size)
  have rA4 := rA3.below hb4
  have rB4 := rB3.below hb4
  have rC4 := rC3.below hb4
  clear rA3 rB3 rC3 hb4 HT3
  generalize decide (la = lb) = q at *
  have HZ2 := unhide HZ
  clear HZ
  go_wp2_with fail
  refine ((unhide C3) w4 rA4 rA4).mono ?_
  rintro e w5 ⟨rfl, hb5⟩
  have HT5 := HT4.trans (hb5.mono HT4.size)
  have rA5 := rA4.below hb5
  have rB5 := rB4.below hb5
  have rC5 := rC4.below hb5
  clear rA4 rB4 rC4 hb5 HT4
  go_wp2_with fail
  refine ((unhide C4) w5 rA5 rC5).mono ?_
  rintro e w6 ⟨rfl, hb6⟩
  have HT6 := HT5.trans (hb6.mono HT5.size)
  have rA6 := rA5.below hb6
  have rB6 := rB5.below hb6
  have rC6 := rC5.below hb6
  clear rA5 rB5 rC5 hb6 HT5
  go_wp2_with fail
  refine ((unhide C5) w6 rB6 rC6).mono ?_
  rintro e w7 ⟨rfl, hb7⟩
  have HT7 := HT6.trans (hb7.mono HT6.size)
  have rA7 := rA6.below hb7
  have rB7 := rB6.below hb7
  have rC7 := rC6.below hb7
  clear rA6 rB6 rC6 hb7 HT6
  go_wp2_with fail
  refine ((unhide C6) w7 rA7 rB7).mono ?_
  rintro e w8 ⟨rfl, hb8⟩
  have HT8 := HT7.trans (hb8.mono HT7.size)
  have rA8 := rA7.below hb8
  have rB8 := rB7.below hb8
  have rC8 := rC7.below hb8
  clear rA7 rB7 rC7 hb8 HT7
  go_wp2_with fail
  have hb9 : Below w8.heap.size w8 (w8.alloc (.cells #[.int .i64 1] 3)) := (Below.refl _ _).alloc (Nat.le_refl _) _
  have r1 : RdV (w8.alloc (.cells #[.int .i64 1] 3)) (.slice (some ⟨w8.heap.size, 0, none⟩) 1 1) (([1] : List Int).map iv) := by
    refine .inr ⟨w8.heap.size, 0, 1, rfl, by decide, by simp, ?_⟩
    intro j x hj
    rw [Nat.zero_add, cell_of_row _ w8.heap.size j _ 3 (0, 0) (heap_alloc_new w8 _)]
    match j, hj with
    | 0, h => cases h; rfl
    | j + 1, h => simp at h
  refine ((unhide C7) _ _ (rA8.below hb9) r1).mono ?_
  rintro e w9 ⟨rfl, hbz⟩
  have HT9 := (HT8.trans (hb9.mono HT8.size)).trans (hbz.mono (Nat.le_trans HT8.size hb9.size))
  clear rA8 rB8 rC8 hb9 hbz HT8 r1
  go_wp2
  go_ret
  exact ⟨rfl, HT9⟩
end Go.Proofs.Ytlbkfooogpmihac
