/- The project's things: a text is read, over the loaded program. -/
import Derived.Test.YtjhjoaihdpahhaaThI3
namespace Go.Proofs.Ytjhjoaihdpahhaa
open Go.RowKit
set_option maxRecDepth 20000 in
set_option maxHeartbeats 4000000 in
theorem implReadThing_any (t : ByteArray) (ht : t.size ≤ 1048576) (w : World) :
    Calls Try.prog 13 #[.string t] w fun e w' => e = .returned (.tuple #[.agg (thC (rdTh t)), .bool (rdOk t)]) ∧ Below w.heap.size w w' := by
  have CI := hide (fun W => thingIn_any t ht W)
  have CT := hide (fun W => implThingText_any (inX t) W)
  obtain ⟨HY, HN⟩ := in_rd t
  have hTT : ttB (inX t) = if thOk (inX t) = true then thT (inX t) else ⟨#[]⟩ := rfl
  generalize inX t = x at *
  generalize rdOk t = fin at *
  generalize rdTh t = y at *
  generalize hok : thOk x = ok at *
  generalize ttB x = tb at *
  have hsx := th_size x
  have hox := th_one x
  have hsz := th_size thZ
  have hoz := th_one thZ
  go_enter Try.func13, Try.ntmps13
  go_wp2_with fail
  obtain ⟨W, hW, hR, hB, hs1⟩ := one_cb w #[.int .i64 0, .int .i64 0, .bool false, .bool false, .bool false, .bool false, .string ⟨#[]⟩, .int .i64 0] 26
  rw [hW]
  clear hW
  have hR' : CB W w.heap.size 26 (thC thZ) := hR
  clear hR
  refine (unhide CI W).mono ?_
  rintro e w1 ⟨rfl, hb1⟩
  have hB1 := hB.trans (hb1.mono hB.size)
  have hR1 := hR'.step hb1
  have hl1 : w.heap.size < w1.heap.size := hR1.lt
  clear CI hb1 hB hR' hs1
  have hZ : CB (w1.alloc (.cells #[.int .i64 0, .int .i64 0, .bool false, .bool false, .bool false, .bool false, .string ⟨#[]⟩, .int .i64 0] 26)) w1.heap.size 26 (thC thZ) := CB.new w1 _ _
  have hR2 := hR1.alloc (.cells #[.int .i64 0, .int .i64 0, .bool false, .bool false, .bool false, .bool false, .string ⟨#[]⟩, .int .i64 0] 26)
  have hB2 := hB1.alloc hB1.size (.cells #[.int .i64 0, .int .i64 0, .bool false, .bool false, .bool false, .bool false, .string ⟨#[]⟩, .int .i64 0] 26)
  have hX3 := setRow_heap _ w1.heap.size _ (thC x) 26 (0, 0) hZ
  have hB3 := Go.below_setRow hB2 (show w.heap.size ≤ w1.heap.size by omega) (thC x)
  have hR3 : CB ((w1.alloc (.cells #[.int .i64 0, .int .i64 0, .bool false, .bool false, .bool false, .bool false, .string ⟨#[]⟩, .int .i64 0] 26)).setRow w1.heap.size (thC x)) w.heap.size 26 (thC thZ) := (setRow_other _ w1.heap.size w.heap.size _ (by omega)).trans hR2
  have hX3' : CB ((w1.alloc (.cells #[.int .i64 0, .int .i64 0, .bool false, .bool false, .bool false, .bool false, .string ⟨#[]⟩, .int .i64 0] 26)).setRow w1.heap.size (thC x)) w1.heap.size 26 (thC x) := hX3
  clear hR2 hB2 hR1 hB1
  replace hZ := hide hZ; replace hX3' := hide hX3'; replace hR3 := hide hR3; replace hB3 := hide hB3
  clear hX3
  go_wp2_with (first
    | (refine wpList_store_row rfl 26 (.tmp 4) (.tmp 8) rfl w1.heap.size (thC x) rfl rfl 26 (thC thZ) (unhide hZ) hsx rfl hox ?_)
    | (refine wpList_load_row rfl 26 (.tmp 4) rfl w1.heap.size rfl 26 (thC x) (0, 0) _ (unhide hX3') Try.underlying26 rfl hsx ?_))
  refine (unhide CT _).mono ?_
  rintro e w4 ⟨rfl, hb4⟩
  have hB4 := (unhide hB3).trans (hb4.mono (unhide hB3).size)
  have hR4 := (unhide hR3).step hb4
  have hX4 := hide ((unhide hX3').step hb4)
  clear CT hb4 hB3 hR3 hX3'
  cases ok with
  | false =>
    obtain ⟨rfl, rfl⟩ := HN (by simp)
    clear HY HN hTT hok
    go_wp2_with (refine wpList_store_row rfl 26 (.tmp 2) (.tmp 21) rfl w.heap.size (thC thZ) rfl rfl 26 (thC thZ) hR4 hsz rfl hoz ?_)
    have hR5 := setRow_heap _ w.heap.size _ (thC thZ) 26 (0, 0) hR4
    have hB5 := Go.below_setRow hB4 (Nat.le_refl _) (thC thZ)
    exact bodyPost_ret (results_cb_tmp (by exact Try.results13) _ _ w.heap.size 26 (thC thZ) _ rfl hR5 Try.underlying26 hsz) rfl ⟨rfl, hB5⟩
  | true =>
    rw [if_pos rfl] at hTT
    by_cases he : tb = t
    · obtain ⟨rfl, rfl⟩ := HY ⟨rfl, by rw [← hTT]; exact he⟩
      have he' : (tb.toList == t.toList) = true := by rw [he]; exact beq_self_eq_true _
      replace he := hide he
      replace hTT := hide hTT
      replace hok := hide hok
      clear HY HN
      go_wp2_with (first
        | (refine wpList_load_row rfl 26 (.tmp 4) rfl w1.heap.size rfl 26 (thC y) (0, 0) _ (unhide hX4) Try.underlying26 rfl hsx ?_)
        | (refine wpList_store_row rfl 26 (.tmp 2) (.tmp 22) rfl w.heap.size (thC y) rfl rfl 26 (thC thZ) hR4 hsx rfl hox ?_))
      have hR5 := setRow_heap _ w.heap.size _ (thC y) 26 (0, 0) hR4
      have hB5 := Go.below_setRow hB4 (Nat.le_refl _) (thC y)
      exact bodyPost_ret (results_cb_tmp (by exact Try.results13) _ _ w.heap.size 26 (thC y) _ rfl hR5 Try.underlying26 hsx) rfl ⟨rfl, hB5⟩
    · obtain ⟨rfl, rfl⟩ := HN (fun h => he (hTT.trans h.2))
      have he' : (tb.toList == t.toList) = false := neStr9 he
      replace he := hide he
      replace hTT := hide hTT
      replace hok := hide hok
      clear HY HN
      go_wp2_with (refine wpList_store_row rfl 26 (.tmp 2) (.tmp 21) rfl w.heap.size (thC thZ) rfl rfl 26 (thC thZ) hR4 hsz rfl hoz ?_)
      have hR5 := setRow_heap _ w.heap.size _ (thC thZ) 26 (0, 0) hR4
      have hB5 := Go.below_setRow hB4 (Nat.le_refl _) (thC thZ)
      exact bodyPost_ret (results_cb_tmp (by exact Try.results13) _ _ w.heap.size 26 (thC thZ) _ rfl hR5 Try.underlying26 hsz) rfl ⟨rfl, hB5⟩
end Go.Proofs.Ytjhjoaihdpahhaa
