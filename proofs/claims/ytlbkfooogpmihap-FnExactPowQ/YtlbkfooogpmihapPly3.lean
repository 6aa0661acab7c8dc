/- Polynomials by the given model: sums and differences, over the loaded program. -/
import Derived.Test.YtlbkfooogpmihapPly2
namespace Go.Proofs.Ytlbkfooogpmihap
open Go.RowKit
theorem step_append_v9 {P : Program} {w W : World} {ops : Array Oper} {o : Oper} {a : Act} {K : Act → World → Prop} {Q : Exit → Act → World → Prop} {E : Prop} {e : TypeId} {x : Int} (hW : W = w.alloc (.cells #[.int .i64 x] e)) (hg : o.guard = none) (s y : Operand) (t : TypeId)
    (ho : o.op = .call { callee := .builtin .append, args := #[s, y], argTypes := #[t, t] })
    (base B : Nat) (i : TypeInfo) (z : Value) (nb : Nat) (ht : P.underlying t = some (.slice e)) (hi : P.info? e = some i) (hz : i.zero = some z) (hsize : i.size = 1) (hby : i.bytes = nb) (hzs : z.cells.size = 1)
    (v : Value) (xs : List Value) (hs : a.eval s = v) (hown : OwnV w base e v xs)
    (hx : a.eval y = .slice (some ⟨w.heap.size, 0, none⟩) 1 1)
    (h63 : xs.length + 1 ≤ maxLen) (hbytes : (xs.length + 1) * nb ≤ 140737488355328) (hB : B ≤ base) (hbase : base ≤ w.heap.size) {w00 : World} (hbel : Below B w00 w)
    (h : ∀ v' w', OwnV w' base e v' (xs ++ [.int .i64 x]) → Below B w00 w' → K (a.put o.dst v') w') :
    if Region.wanted o (yielded ops a.tmps) = true then Oper.wp P o a W K Q else E := by
  subst hW
  have hw : Region.wanted o (yielded ops a.tmps) = true := by simp [Region.wanted, hg]
  rw [if_pos hw]
  exact wp_append_vals s y t ho base B e i z nb ht hi hz hsize hby hzs v xs hs (hown.alloc _) w.heap.size #[.int .i64 x] (heap_alloc_new w _) [.int .i64 x] rfl (by intro u hu; simp only [List.mem_singleton] at hu; subst hu; rfl) 1 1 rfl hx h63 hbytes hB (by simp; omega) (hbel.alloc (by omega) _) h
def preL (f : Nat → Int) (k : Nat) : List Int := (List.range k).map f
theorem preL_len (f : Nat → Int) (k : Nat) : (preL f k).length = k := by unfold preL; rw [List.length_map, List.length_range]
theorem preL_succ (f : Nat → Int) (k : Nat) : preL f (k + 1) = preL f k ++ [f k] := by unfold preL; rw [List.range_succ, List.map_append]; rfl
set_option maxRecDepth 20000 in
set_option maxHeartbeats 400000 in
theorem specPolyAdd_any (a b : List Int) (va vb : Value) (w : World) (ra : RdV w va (a.map iv)) (rb : RdV w vb (b.map iv)) :
    Calls Try.prog 15 #[va, vb] w fun e w' => (∃ v, e = .returned v ∧ OwnV w' w.heap.size 3 v ((addL a b).map iv)) ∧ Below w.heap.size w w' := by
  obtain ⟨i0, hi, hz0, hz1, hz2⟩ := info_parts infoInt
  have CA := hide (fun (W : World) (h : Below w.heap.size w W) => specPolyOk_any a va W (ra.below h))
  have CB := hide (fun (W : World) (h : Below w.heap.size w W) => specPolyOk_any b vb W (rb.below h))
  by_cases ha : okPl a = true
  · rw [ha] at CA
    by_cases hb : okPl b = true
    · rw [hb] at CB
      obtain ⟨la, va'⟩ := okPl_yes ha
      obtain ⟨lb, vb'⟩ := okPl_yes hb
      have EF := hide (show addL a b = preL (fun i => (cAt a i + cAt b i) % 3329) 256 from addL_is ha hb)
      obtain ⟨a1, c1, rfl, hc1⟩ := ra.open
      obtain ⟨a2, c2, rfl, hc2⟩ := rb.open
      rw [List.length_map, la] at CA ⊢
      rw [List.length_map, lb] at CB ⊢
      clear ra rb
      replace va' := hide va'; replace vb' := hide vb'; replace la := hide la; replace lb := hide lb
      go_enter Try.func15, Try.ntmps15
      go_wp2
      go_loopw [5, 6] (fun tv ti wr => ∃ k : Nat, k ≤ 256 ∧ ti = .int .i64 (k : Int) ∧ Hid (OwnV wr w.heap.size 3 tv ((preL (fun i => (cAt a i + cAt b i) % 3329) k).map iv)) ∧ Below w.heap.size w wr) (fun _ ti _ => 256 - (intOf ti).toNat)
      case atStart => exact ⟨0, by omega, rfl, hide (World.ownsRow_made w #[] 0 (Nat.le_refl _) (by decide) (by simp)), (Below.refl _ _).alloc (Nat.le_refl _) _⟩
      case round =>
        obtain ⟨k, hk, rfl, HO, hB⟩ := hrel
        by_cases hlt : k < 256
        · have hk' : (k : Int) < 256 := by omega
          obtain ⟨g1, o1, rfl, hg1, d1⟩ := hc1 k _ (get_iv a k (by rw [unhide la]; exact hlt))
          obtain ⟨g2, o2, rfl, hg2, d2⟩ := hc2 k _ (get_iv b k (by rw [unhide lb]; exact hlt))
          have b1 := unhide va' k hlt
          have b2 := unhide vb' k hlt
          have hci : (0 : Int) ≤ (k : Int) := by omega
          have HP := hide (show preL (fun i => (cAt a i + cAt b i) % 3329) (k + 1) = preL (fun i => (cAt a i + cAt b i) % 3329) k ++ [(cAt a k + cAt b k) % 3329] from preL_succ (fun i => (cAt a i + cAt b i) % 3329) k)
          obtain ⟨x, hx⟩ : ∃ x, x = cAt a k := ⟨_, rfl⟩
          obtain ⟨y, hy⟩ : ∃ y, y = cAt b k := ⟨_, rfl⟩
          rw [← hx] at d1 b1 HP
          rw [← hy] at d2 b2 HP
          obtain ⟨t1, ht1⟩ : ∃ t1, t1 = x + y := ⟨_, rfl⟩
          obtain ⟨d, hd⟩ : ∃ d, d = t1 % 3329 := ⟨_, rfl⟩
          rw [← ht1, ← hd] at HP
          have w1 : IntKind.i64.wrap (x + y) = t1 := by rw [IntKind.wrap_i64]; omega
          have w3 : t1.tmod 3329 = d := by rw [Int.tmod_eq_emod_of_nonneg (by omega)]; omega
          have w3' : t1 % 3329 = d := hd.symm
          have w4 : IntKind.i64.wrap d = d := by rw [IntKind.wrap_i64]; omega
          replace hx := hide hx; replace hy := hide hy; replace ht1 := hide ht1; replace hd := hide hd
          have KS := hide (fun (W : World) (h : Below w.heap.size w W) => (⟨(h.cell (p := ⟨g1, o1 + k, none⟩) hg1).trans d1, (h.cell (p := ⟨g2, o2 + k, none⟩) hg2).trans d2⟩ : W.cell? ⟨g1, o1 + k, none⟩ = some (.int .i64 x) ∧ W.cell? ⟨g2, o2 + k, none⟩ = some (.int .i64 y)))
          obtain ⟨ca, cb⟩ := (unhide KS) _ hB
          have hsz := hB.size
          have hl1 : ((preL (fun i => (cAt a i + cAt b i) % 3329) k).map iv).length + 1 ≤ maxLen := by rw [List.length_map, preL_len]; unfold maxLen; omega
          have hl2 : (((preL (fun i => (cAt a i + cAt b i) % 3329) k).map iv).length + 1) * 8 ≤ 140737488355328 := by rw [List.length_map, preL_len]; omega
          replace hl1 := hide hl1; replace hl2 := hide hl2
          clear hc1 hc2 d1 d2
          go_wp2_with fail
          refine ((unhide CA) wr hB).mono ?_
          rintro e w1 ⟨rfl, hw1⟩
          have hw2 := hw1.symm
          subst hw2
          clear hw1
          go_wp2_with fail
          refine ((unhide CB) wr hB).mono ?_
          rintro e w1 ⟨rfl, hw1⟩
          have hw2 := hw1.symm
          subst hw2
          clear hw1
          go_wp2
          go_region_held3 (fun W => W.cell? ⟨g1, o1 + k, none⟩ = some (.int .i64 x) ∧ W.cell? ⟨g2, o2 + k, none⟩ = some (.int .i64 y)) (first | exact ⟨ca, cb⟩ | exact (unhide KS) _ (hB.drew.alloc hsz _) | exact (unhide KS) _ hb2 | fail) (first
            | (refine step_append_v9 (w := wr.drew) (x := d) (e := 3) rfl rfl (.tmp 20) (.tmp 31) 24 rfl w.heap.size w.heap.size i0 (.int .i64 0) 8 Try.underlying24 hi hz0 hz1 hz2 rfl _ _ rfl (by exact unhide HO) rfl (unhide hl1) (unhide hl2) (Nat.le_refl _) (by exact hsz) (by exact hB.drew) ?_; intro v' w2 hown2 hb2))
          have hown3 : OwnV w2 w.heap.size 3 v' ((preL (fun i => (cAt a i + cAt b i) % 3329) (k + 1)).map iv) := by
            rw [unhide HP, List.map_append]
            exact hown2
          replace hown3 := hide hown3
          clear hown2 HP KS
          go_wp2
          go_roundw
          case rel => exact ⟨k + 1, by omega, by go_num, hown3, hb2⟩
          case measure => simp [intOf]; omega
        · have hk' : ¬ (k : Int) < 256 := by omega
          have hke : k = 256 := by omega
          have hown : OwnV wr w.heap.size 3 u5 ((addL a b).map iv) := by rw [unhide EF, ← hke]; exact unhide HO
          replace hown := hide hown
          clear HO
          replace hke := hide hke
          go_wp2
          go_ret
          exact ⟨⟨_, rfl, unhide hown⟩, hB⟩
    · have hb' : okPl b = false := by simpa using hb
      rw [hb'] at CB
      have E := hide (show addL a b = [] by unfold addL; rw [bothP_no2 hb']; rfl)
      rw [unhide E]
      go_enter Try.func15, Try.ntmps15
      go_wp2
      go_loopw [5, 6] (fun tv ti wr => ti = .int .i64 0 ∧ tv = .slice (some ⟨w.heap.size, 0, none⟩) 0 0 ∧ wr = w.alloc (.cells #[] 3)) (fun _ _ _ => 0)
      case atStart => exact ⟨rfl, rfl, rfl⟩
      case round =>
        obtain ⟨rfl, rfl, rfl⟩ := hrel
        have hB : Below w.heap.size w (w.alloc (.cells #[] 3)) := (Below.refl _ _).alloc (Nat.le_refl _) _
        go_wp2_with fail
        refine ((unhide CA) _ hB).mono ?_
        rintro e w1 ⟨rfl, rfl⟩
        go_wp2_with fail
        refine ((unhide CB) _ hB).mono ?_
        rintro e w1 ⟨rfl, rfl⟩
        go_wp2
        go_ret
        exact ⟨⟨_, rfl, World.ownsRow_made w #[] 0 (Nat.le_refl _) (by decide) (by simp)⟩, hB⟩
  · have ha' : okPl a = false := by simpa using ha
    rw [ha'] at CA
    have E := hide (show addL a b = [] by unfold addL; rw [bothP_no1 ha']; rfl)
    rw [unhide E]
    go_enter Try.func15, Try.ntmps15
    go_wp2
    go_loopw [5, 6] (fun tv ti wr => ti = .int .i64 0 ∧ tv = .slice (some ⟨w.heap.size, 0, none⟩) 0 0 ∧ wr = w.alloc (.cells #[] 3)) (fun _ _ _ => 0)
    case atStart => exact ⟨rfl, rfl, rfl⟩
    case round =>
      obtain ⟨rfl, rfl, rfl⟩ := hrel
      have hB : Below w.heap.size w (w.alloc (.cells #[] 3)) := (Below.refl _ _).alloc (Nat.le_refl _) _
      go_wp2_with fail
      refine ((unhide CA) _ hB).mono ?_
      rintro e w1 ⟨rfl, rfl⟩
      go_wp2
      go_ret
      exact ⟨⟨_, rfl, World.ownsRow_made w #[] 0 (Nat.le_refl _) (by decide) (by simp)⟩, hB⟩
set_option maxRecDepth 20000 in
set_option maxHeartbeats 400000 in
theorem specPolySub_any (a b : List Int) (va vb : Value) (w : World) (ra : RdV w va (a.map iv)) (rb : RdV w vb (b.map iv)) :
    Calls Try.prog 19 #[va, vb] w fun e w' => (∃ v, e = .returned v ∧ OwnV w' w.heap.size 3 v ((subL a b).map iv)) ∧ Below w.heap.size w w' := by
  obtain ⟨i0, hi, hz0, hz1, hz2⟩ := info_parts infoInt
  have CA := hide (fun (W : World) (h : Below w.heap.size w W) => specPolyOk_any a va W (ra.below h))
  have CB := hide (fun (W : World) (h : Below w.heap.size w W) => specPolyOk_any b vb W (rb.below h))
  by_cases ha : okPl a = true
  · rw [ha] at CA
    by_cases hb : okPl b = true
    · rw [hb] at CB
      obtain ⟨la, va'⟩ := okPl_yes ha
      obtain ⟨lb, vb'⟩ := okPl_yes hb
      have EF := hide (show subL a b = preL (fun i => (cAt a i - cAt b i + 3329) % 3329) 256 from subL_is ha hb)
      obtain ⟨a1, c1, rfl, hc1⟩ := ra.open
      obtain ⟨a2, c2, rfl, hc2⟩ := rb.open
      rw [List.length_map, la] at CA ⊢
      rw [List.length_map, lb] at CB ⊢
      clear ra rb
      replace va' := hide va'; replace vb' := hide vb'; replace la := hide la; replace lb := hide lb
      have hB0 : Below w.heap.size w (w.alloc (.cells #[] 3)) := (Below.refl _ _).alloc (Nat.le_refl _) _
      go_enter Try.func19, Try.ntmps19
      go_wp2_with fail
      refine ((unhide CA) _ hB0).mono ?_
      rintro e w1 ⟨rfl, rfl⟩
      go_wp2_with fail
      refine ((unhide CB) _ hB0).mono ?_
      rintro e w1 ⟨rfl, rfl⟩
      go_wp2
      go_loopw [5, 6] (fun tv ti wr => ∃ k : Nat, k ≤ 256 ∧ ti = .int .i64 (k : Int) ∧ Hid (OwnV wr w.heap.size 3 tv ((preL (fun i => (cAt a i - cAt b i + 3329) % 3329) k).map iv)) ∧ Below w.heap.size w wr) (fun _ ti _ => 256 - (intOf ti).toNat)
      case atStart => exact ⟨0, by omega, rfl, hide (World.ownsRow_made w #[] 0 (Nat.le_refl _) (by decide) (by simp)), (Below.refl _ _).alloc (Nat.le_refl _) _⟩
      case round =>
        obtain ⟨k, hk, rfl, HO, hB⟩ := hrel
        by_cases hlt : k < 256
        · have hk' : (k : Int) < 256 := by omega
          obtain ⟨g1, o1, rfl, hg1, d1⟩ := hc1 k _ (get_iv a k (by rw [unhide la]; exact hlt))
          obtain ⟨g2, o2, rfl, hg2, d2⟩ := hc2 k _ (get_iv b k (by rw [unhide lb]; exact hlt))
          have b1 := unhide va' k hlt
          have b2 := unhide vb' k hlt
          have hci : (0 : Int) ≤ (k : Int) := by omega
          have HP := hide (show preL (fun i => (cAt a i - cAt b i + 3329) % 3329) (k + 1) = preL (fun i => (cAt a i - cAt b i + 3329) % 3329) k ++ [(cAt a k - cAt b k + 3329) % 3329] from preL_succ (fun i => (cAt a i - cAt b i + 3329) % 3329) k)
          obtain ⟨x, hx⟩ : ∃ x, x = cAt a k := ⟨_, rfl⟩
          obtain ⟨y, hy⟩ : ∃ y, y = cAt b k := ⟨_, rfl⟩
          rw [← hx] at d1 b1 HP
          rw [← hy] at d2 b2 HP
          obtain ⟨t0, ht0⟩ : ∃ t0, t0 = x - y := ⟨_, rfl⟩
          obtain ⟨t1, ht1⟩ : ∃ t1, t1 = t0 + 3329 := ⟨_, rfl⟩
          obtain ⟨d, hd⟩ : ∃ d, d = t1 % 3329 := ⟨_, rfl⟩
          rw [← ht0, ← ht1, ← hd] at HP
          have w0 : IntKind.i64.wrap (x - y) = t0 := by rw [IntKind.wrap_i64]; omega
          have w1 : IntKind.i64.wrap (t0 + 3329) = t1 := by rw [IntKind.wrap_i64]; omega
          have w3 : t1.tmod 3329 = d := by rw [Int.tmod_eq_emod_of_nonneg (by omega)]; omega
          have w3' : t1 % 3329 = d := hd.symm
          replace ht0 := hide ht0
          have w4 : IntKind.i64.wrap d = d := by rw [IntKind.wrap_i64]; omega
          replace hx := hide hx; replace hy := hide hy; replace ht1 := hide ht1; replace hd := hide hd
          have KS := hide (fun (W : World) (h : Below w.heap.size w W) => (⟨(h.cell (p := ⟨g1, o1 + k, none⟩) hg1).trans d1, (h.cell (p := ⟨g2, o2 + k, none⟩) hg2).trans d2⟩ : W.cell? ⟨g1, o1 + k, none⟩ = some (.int .i64 x) ∧ W.cell? ⟨g2, o2 + k, none⟩ = some (.int .i64 y)))
          obtain ⟨ca, cb⟩ := (unhide KS) _ hB
          have hsz := hB.size
          have hl1 : ((preL (fun i => (cAt a i - cAt b i + 3329) % 3329) k).map iv).length + 1 ≤ maxLen := by rw [List.length_map, preL_len]; unfold maxLen; omega
          have hl2 : (((preL (fun i => (cAt a i - cAt b i + 3329) % 3329) k).map iv).length + 1) * 8 ≤ 140737488355328 := by rw [List.length_map, preL_len]; omega
          replace hl1 := hide hl1; replace hl2 := hide hl2
          clear hc1 hc2 d1 d2
          go_wp2
          go_region_held3 (fun W => W.cell? ⟨g1, o1 + k, none⟩ = some (.int .i64 x) ∧ W.cell? ⟨g2, o2 + k, none⟩ = some (.int .i64 y)) (first | exact ⟨ca, cb⟩ | exact (unhide KS) _ (hB.drew.alloc hsz _) | exact (unhide KS) _ hb2 | fail) (first
            | (refine step_append_v9 (w := wr.drew) (x := d) (e := 3) rfl rfl (.tmp 21) (.tmp 33) 24 rfl w.heap.size w.heap.size i0 (.int .i64 0) 8 Try.underlying24 hi hz0 hz1 hz2 rfl _ _ rfl (by exact unhide HO) rfl (unhide hl1) (unhide hl2) (Nat.le_refl _) (by exact hsz) (by exact hB.drew) ?_; intro v' w2 hown2 hb2))
          have hown3 : OwnV w2 w.heap.size 3 v' ((preL (fun i => (cAt a i - cAt b i + 3329) % 3329) (k + 1)).map iv) := by
            rw [unhide HP, List.map_append]
            exact hown2
          replace hown3 := hide hown3
          clear hown2 HP KS
          go_wp2
          go_roundw
          case rel => exact ⟨k + 1, by omega, by go_num, hown3, hb2⟩
          case measure => simp [intOf]; omega
        · have hk' : ¬ (k : Int) < 256 := by omega
          have hke : k = 256 := by omega
          have hown : OwnV wr w.heap.size 3 u5 ((subL a b).map iv) := by rw [unhide EF, ← hke]; exact unhide HO
          replace hown := hide hown
          clear HO
          replace hke := hide hke
          go_wp2
          go_ret
          exact ⟨⟨_, rfl, unhide hown⟩, hB⟩
    · have hb' : okPl b = false := by simpa using hb
      rw [hb'] at CB
      have E := hide (show subL a b = [] by unfold subL; rw [bothP_no2 hb']; rfl)
      rw [unhide E]
      go_enter Try.func19, Try.ntmps19
      have hB : Below w.heap.size w (w.alloc (.cells #[] 3)) := (Below.refl _ _).alloc (Nat.le_refl _) _
      go_wp2_with fail
      refine ((unhide CA) _ hB).mono ?_
      rintro e w1 ⟨rfl, rfl⟩
      go_wp2_with fail
      refine ((unhide CB) _ hB).mono ?_
      rintro e w1 ⟨rfl, rfl⟩
      go_wp2
      go_ret
      exact ⟨⟨_, rfl, World.ownsRow_made w #[] 0 (Nat.le_refl _) (by decide) (by simp)⟩, hB⟩
  · have ha' : okPl a = false := by simpa using ha
    rw [ha'] at CA
    have E := hide (show subL a b = [] by unfold subL; rw [bothP_no1 ha']; rfl)
    rw [unhide E]
    go_enter Try.func19, Try.ntmps19
    have hB : Below w.heap.size w (w.alloc (.cells #[] 3)) := (Below.refl _ _).alloc (Nat.le_refl _) _
    go_wp2_with fail
    refine ((unhide CA) _ hB).mono ?_
    rintro e w1 ⟨rfl, rfl⟩
    go_wp2
    go_ret
    exact ⟨⟨_, rfl, World.ownsRow_made w #[] 0 (Nat.le_refl _) (by decide) (by simp)⟩, hB⟩
end Go.Proofs.Ytlbkfooogpmihap
