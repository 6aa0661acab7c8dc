/- Merged: Ply3, Pck4, Pck5, Ntp0, Ntp1. -/
import Derived.Test.YthjgmpfdjhegfasDoorMga1
import Derived.Test.YthjgmpfdjhegfasDoorMga2
import Derived.Deep.RegionHeld3
/- Polynomials by the given model: sums and differences, over the loaded program. -/
namespace Go.Proofs.YthjgmpfdjhegfasDoor
open Go.RowKit
theorem step_append_v9 {P : Program} {w W : World} {ops : Array Oper} {o : Oper} {a : Act} {K : Act → World → Prop} {Q : Exit → Act → World → Prop} {E : Prop} {e : TypeId} {x : Int} (hW : W = w.alloc (.cells #[.int .i64 x] e)) (hg : o.guard = none) (s y : Operand) (t : TypeId)
    (ho : o.op = .call { callee := .builtin .append, args := #[s, y], argTypes := #[t, t] })
    (base B : Nat) (i : TypeInfo) (z : Value) (nb : Nat) (ht : P.underlying t = some (.slice e)) (hi : P.info? e = some i) (hz : i.zero = some z) (hsize : i.size = 1) (hby : i.bytes = nb) (hzs : z.cells.size = 1)
    (v : Value) (xs : List Value) (hs : a.eval s = v) (hown : OwnV w base e v xs)
    (hx : a.eval y = .slice (some ⟨w.heap.size, 0, none⟩) 1 1)
    (h63 : xs.length + 1 ≤ maxLen) (hbytes : (xs.length + 1) * nb ≤ 140737488355328) (hB : B ≤ base) (hbase : base ≤ w.heap.size) {w00 : World} (hbel : Below B w00 w)
    (h : ∀ v' w', OwnV w' base e v' (xs ++ [.int .i64 x]) → Below B w00 w' → K (a.put o.dst v') w') :
    if Region.wanted o (yielded ops a.tmps) = true then Oper.wp P o a W K Q else E := by
  subst hW
  have hw : Region.wanted o (yielded ops a.tmps) = true := by simp [Region.wanted, hg]
  rw [if_pos hw]
  exact wp_append_vals s y t ho base B e i z nb ht hi hz hsize hby hzs v xs hs (hown.alloc _) w.heap.size #[.int .i64 x] (heap_alloc_new w _) [.int .i64 x] rfl (by intro u hu; simp only [List.mem_singleton] at hu; subst hu; rfl) 1 1 rfl hx h63 hbytes hB (by simp; omega) (hbel.alloc (by omega) _) h
def preL (f : Nat → Int) (k : Nat) : List Int := (List.range k).map f
theorem preL_len (f : Nat → Int) (k : Nat) : (preL f k).length = k := by unfold preL; rw [List.length_map, List.length_range]
theorem preL_succ (f : Nat → Int) (k : Nat) : preL f (k + 1) = preL f k ++ [f k] := by unfold preL; rw [List.range_succ, List.map_append]; rfl
set_option maxRecDepth 20000 in
set_option maxHeartbeats 400000 in
theorem specPolyAdd_any (a b : List Int) (va vb : Value) (w : World) (ra : RdV w va (a.map iv)) (rb : RdV w vb (b.map iv)) :
    Calls Tryd.prog 48 #[va, vb] w fun e w' => (∃ v, e = .returned v ∧ OwnV w' w.heap.size 3 v ((addL a b).map iv)) ∧ Below w.heap.size w w' := by
  obtain ⟨i0, hi, hz0, hz1, hz2⟩ := info_parts infoInt
  have CA := hide (fun (W : World) (h : Below w.heap.size w W) => specPolyOk_any a va W (ra.below h))
  have CB := hide (fun (W : World) (h : Below w.heap.size w W) => specPolyOk_any b vb W (rb.below h))
  by_cases ha : okPl a = true
  · rw [ha] at CA
    by_cases hb : okPl b = true
    · rw [hb] at CB
      obtain ⟨la, va'⟩ := okPl_yes ha
      obtain ⟨lb, vb'⟩ := okPl_yes hb
      have EF := hide (show addL a b = preL (fun i => (cAt a i + cAt b i) % 3329) 256 from addL_is ha hb)
      obtain ⟨a1, c1, rfl, hc1⟩ := ra.open
      obtain ⟨a2, c2, rfl, hc2⟩ := rb.open
      rw [List.length_map, la] at CA ⊢
      rw [List.length_map, lb] at CB ⊢
      clear ra rb
      replace va' := hide va'; replace vb' := hide vb'; replace la := hide la; replace lb := hide lb
      go_enter Tryd.func48, Tryd.ntmps48
      go_wp2
      go_loopw [5, 6] (fun tv ti wr => ∃ k : Nat, k ≤ 256 ∧ ti = .int .i64 (k : Int) ∧ Hid (OwnV wr w.heap.size 3 tv ((preL (fun i => (cAt a i + cAt b i) % 3329) k).map iv)) ∧ Below w.heap.size w wr) (fun _ ti _ => 256 - (intOf ti).toNat)
      case atStart => exact ⟨0, by omega, rfl, hide (World.ownsRow_made w #[] 0 (Nat.le_refl _) (by decide) (by simp)), (Below.refl _ _).alloc (Nat.le_refl _) _⟩
      case round =>
        obtain ⟨k, hk, rfl, HO, hB⟩ := hrel
        by_cases hlt : k < 256
        · have hk' : (k : Int) < 256 := by omega
          obtain ⟨g1, o1, rfl, hg1, d1⟩ := hc1 k _ (get_iv a k (by rw [unhide la]; exact hlt))
          obtain ⟨g2, o2, rfl, hg2, d2⟩ := hc2 k _ (get_iv b k (by rw [unhide lb]; exact hlt))
          have b1 := unhide va' k hlt
          have b2 := unhide vb' k hlt
          have hci : (0 : Int) ≤ (k : Int) := by omega
          have HP := hide (show preL (fun i => (cAt a i + cAt b i) % 3329) (k + 1) = preL (fun i => (cAt a i + cAt b i) % 3329) k ++ [(cAt a k + cAt b k) % 3329] from preL_succ (fun i => (cAt a i + cAt b i) % 3329) k)
          obtain ⟨x, hx⟩ : ∃ x, x = cAt a k := ⟨_, rfl⟩
          obtain ⟨y, hy⟩ : ∃ y, y = cAt b k := ⟨_, rfl⟩
          rw [← hx] at d1 b1 HP
          rw [← hy] at d2 b2 HP
          obtain ⟨t1, ht1⟩ : ∃ t1, t1 = x + y := ⟨_, rfl⟩
          obtain ⟨d, hd⟩ : ∃ d, d = t1 % 3329 := ⟨_, rfl⟩
          rw [← ht1, ← hd] at HP
          have w1 : IntKind.i64.wrap (x + y) = t1 := by rw [IntKind.wrap_i64]; omega
          have w3 : t1.tmod 3329 = d := by rw [Int.tmod_eq_emod_of_nonneg (by omega)]; omega
          have w3' : t1 % 3329 = d := hd.symm
          have w4 : IntKind.i64.wrap d = d := by rw [IntKind.wrap_i64]; omega
          replace hx := hide hx; replace hy := hide hy; replace ht1 := hide ht1; replace hd := hide hd
          have KS := hide (fun (W : World) (h : Below w.heap.size w W) => (⟨(h.cell (p := ⟨g1, o1 + k, none⟩) hg1).trans d1, (h.cell (p := ⟨g2, o2 + k, none⟩) hg2).trans d2⟩ : W.cell? ⟨g1, o1 + k, none⟩ = some (.int .i64 x) ∧ W.cell? ⟨g2, o2 + k, none⟩ = some (.int .i64 y)))
          obtain ⟨ca, cb⟩ := (unhide KS) _ hB
          have hsz := hB.size
          have hl1 : ((preL (fun i => (cAt a i + cAt b i) % 3329) k).map iv).length + 1 ≤ maxLen := by rw [List.length_map, preL_len]; unfold maxLen; omega
          have hl2 : (((preL (fun i => (cAt a i + cAt b i) % 3329) k).map iv).length + 1) * 8 ≤ 140737488355328 := by rw [List.length_map, preL_len]; omega
          replace hl1 := hide hl1; replace hl2 := hide hl2
          clear hc1 hc2 d1 d2
          go_wp2_with fail
          refine ((unhide CA) wr hB).mono ?_
          rintro e w1 ⟨rfl, hw1⟩
          have hw2 := hw1.symm
          subst hw2
          clear hw1
          go_wp2_with fail
          refine ((unhide CB) wr hB).mono ?_
          rintro e w1 ⟨rfl, hw1⟩
          have hw2 := hw1.symm
          subst hw2
          clear hw1
          go_wp2
          go_region_held3 (fun W => W.cell? ⟨g1, o1 + k, none⟩ = some (.int .i64 x) ∧ W.cell? ⟨g2, o2 + k, none⟩ = some (.int .i64 y)) (first | exact ⟨ca, cb⟩ | exact (unhide KS) _ (hB.drew.alloc hsz _) | exact (unhide KS) _ hb2 | fail) (first
            | (refine step_append_v9 (w := wr.drew) (x := d) (e := 3) rfl rfl (.tmp 20) (.tmp 31) 31 rfl w.heap.size w.heap.size i0 (.int .i64 0) 8 Tryd.underlying31 hi hz0 hz1 hz2 rfl _ _ rfl (by exact unhide HO) rfl (unhide hl1) (unhide hl2) (Nat.le_refl _) (by exact hsz) (by exact hB.drew) ?_; intro v' w2 hown2 hb2))
          have hown3 : OwnV w2 w.heap.size 3 v' ((preL (fun i => (cAt a i + cAt b i) % 3329) (k + 1)).map iv) := by
            rw [unhide HP, List.map_append]
            exact hown2
          replace hown3 := hide hown3
          clear hown2 HP KS
          go_wp2
          go_roundw
          case rel => exact ⟨k + 1, by omega, by go_num, hown3, hb2⟩
          case measure => simp [intOf]; omega
        · have hk' : ¬ (k : Int) < 256 := by omega
          have hke : k = 256 := by omega
          have hown : OwnV wr w.heap.size 3 u5 ((addL a b).map iv) := by rw [unhide EF, ← hke]; exact unhide HO
          replace hown := hide hown
          clear HO
          replace hke := hide hke
          go_wp2
          go_ret
          exact ⟨⟨_, rfl, unhide hown⟩, hB⟩
    · have hb' : okPl b = false := by simpa using hb
      rw [hb'] at CB
      have E := hide (show addL a b = [] by unfold addL; rw [bothP_no2 hb']; rfl)
      rw [unhide E]
      go_enter Tryd.func48, Tryd.ntmps48
      go_wp2
      go_loopw [5, 6] (fun tv ti wr => ti = .int .i64 0 ∧ tv = .slice (some ⟨w.heap.size, 0, none⟩) 0 0 ∧ wr = w.alloc (.cells #[] 3)) (fun _ _ _ => 0)
      case atStart => exact ⟨rfl, rfl, rfl⟩
      case round =>
        obtain ⟨rfl, rfl, rfl⟩ := hrel
        have hB : Below w.heap.size w (w.alloc (.cells #[] 3)) := (Below.refl _ _).alloc (Nat.le_refl _) _
        go_wp2_with fail
        refine ((unhide CA) _ hB).mono ?_
        rintro e w1 ⟨rfl, rfl⟩
        go_wp2_with fail
        refine ((unhide CB) _ hB).mono ?_
        rintro e w1 ⟨rfl, rfl⟩
        go_wp2
        go_ret
        exact ⟨⟨_, rfl, World.ownsRow_made w #[] 0 (Nat.le_refl _) (by decide) (by simp)⟩, hB⟩
  · have ha' : okPl a = false := by simpa using ha
    rw [ha'] at CA
    have E := hide (show addL a b = [] by unfold addL; rw [bothP_no1 ha']; rfl)
    rw [unhide E]
    go_enter Tryd.func48, Tryd.ntmps48
    go_wp2
    go_loopw [5, 6] (fun tv ti wr => ti = .int .i64 0 ∧ tv = .slice (some ⟨w.heap.size, 0, none⟩) 0 0 ∧ wr = w.alloc (.cells #[] 3)) (fun _ _ _ => 0)
    case atStart => exact ⟨rfl, rfl, rfl⟩
    case round =>
      obtain ⟨rfl, rfl, rfl⟩ := hrel
      have hB : Below w.heap.size w (w.alloc (.cells #[] 3)) := (Below.refl _ _).alloc (Nat.le_refl _) _
      go_wp2_with fail
      refine ((unhide CA) _ hB).mono ?_
      rintro e w1 ⟨rfl, rfl⟩
      go_wp2
      go_ret
      exact ⟨⟨_, rfl, World.ownsRow_made w #[] 0 (Nat.le_refl _) (by decide) (by simp)⟩, hB⟩
set_option maxRecDepth 20000 in
set_option maxHeartbeats 400000 in
theorem specPolySub_any (a b : List Int) (va vb : Value) (w : World) (ra : RdV w va (a.map iv)) (rb : RdV w vb (b.map iv)) :
    Calls Tryd.prog 26 #[va, vb] w fun e w' => (∃ v, e = .returned v ∧ OwnV w' w.heap.size 3 v ((subL a b).map iv)) ∧ Below w.heap.size w w' := by
  obtain ⟨i0, hi, hz0, hz1, hz2⟩ := info_parts infoInt
  have CA := hide (fun (W : World) (h : Below w.heap.size w W) => specPolyOk_any a va W (ra.below h))
  have CB := hide (fun (W : World) (h : Below w.heap.size w W) => specPolyOk_any b vb W (rb.below h))
  by_cases ha : okPl a = true
  · rw [ha] at CA
    by_cases hb : okPl b = true
    · rw [hb] at CB
      obtain ⟨la, va'⟩ := okPl_yes ha
      obtain ⟨lb, vb'⟩ := okPl_yes hb
      have EF := hide (show subL a b = preL (fun i => (cAt a i - cAt b i + 3329) % 3329) 256 from subL_is ha hb)
      obtain ⟨a1, c1, rfl, hc1⟩ := ra.open
      obtain ⟨a2, c2, rfl, hc2⟩ := rb.open
      rw [List.length_map, la] at CA ⊢
      rw [List.length_map, lb] at CB ⊢
      clear ra rb
      replace va' := hide va'; replace vb' := hide vb'; replace la := hide la; replace lb := hide lb
      have hB0 : Below w.heap.size w (w.alloc (.cells #[] 3)) := (Below.refl _ _).alloc (Nat.le_refl _) _
      go_enter Tryd.func26, Tryd.ntmps26
      go_wp2_with fail
      refine ((unhide CA) _ hB0).mono ?_
      rintro e w1 ⟨rfl, rfl⟩
      go_wp2_with fail
      refine ((unhide CB) _ hB0).mono ?_
      rintro e w1 ⟨rfl, rfl⟩
      go_wp2
      go_loopw [5, 6] (fun tv ti wr => ∃ k : Nat, k ≤ 256 ∧ ti = .int .i64 (k : Int) ∧ Hid (OwnV wr w.heap.size 3 tv ((preL (fun i => (cAt a i - cAt b i + 3329) % 3329) k).map iv)) ∧ Below w.heap.size w wr) (fun _ ti _ => 256 - (intOf ti).toNat)
      case atStart => exact ⟨0, by omega, rfl, hide (World.ownsRow_made w #[] 0 (Nat.le_refl _) (by decide) (by simp)), (Below.refl _ _).alloc (Nat.le_refl _) _⟩
      case round =>
        obtain ⟨k, hk, rfl, HO, hB⟩ := hrel
        by_cases hlt : k < 256
        · have hk' : (k : Int) < 256 := by omega
          obtain ⟨g1, o1, rfl, hg1, d1⟩ := hc1 k _ (get_iv a k (by rw [unhide la]; exact hlt))
          obtain ⟨g2, o2, rfl, hg2, d2⟩ := hc2 k _ (get_iv b k (by rw [unhide lb]; exact hlt))
          have b1 := unhide va' k hlt
          have b2 := unhide vb' k hlt
          have hci : (0 : Int) ≤ (k : Int) := by omega
          have HP := hide (show preL (fun i => (cAt a i - cAt b i + 3329) % 3329) (k + 1) = preL (fun i => (cAt a i - cAt b i + 3329) % 3329) k ++ [(cAt a k - cAt b k + 3329) % 3329] from preL_succ (fun i => (cAt a i - cAt b i + 3329) % 3329) k)
          obtain ⟨x, hx⟩ : ∃ x, x = cAt a k := ⟨_, rfl⟩
          obtain ⟨y, hy⟩ : ∃ y, y = cAt b k := ⟨_, rfl⟩
          rw [← hx] at d1 b1 HP
          rw [← hy] at d2 b2 HP
          obtain ⟨t0, ht0⟩ : ∃ t0, t0 = x - y := ⟨_, rfl⟩
          obtain ⟨t1, ht1⟩ : ∃ t1, t1 = t0 + 3329 := ⟨_, rfl⟩
          obtain ⟨d, hd⟩ : ∃ d, d = t1 % 3329 := ⟨_, rfl⟩
          rw [← ht0, ← ht1, ← hd] at HP
          have w0 : IntKind.i64.wrap (x - y) = t0 := by rw [IntKind.wrap_i64]; omega
          have w1 : IntKind.i64.wrap (t0 + 3329) = t1 := by rw [IntKind.wrap_i64]; omega
          have w3 : t1.tmod 3329 = d := by rw [Int.tmod_eq_emod_of_nonneg (by omega)]; omega
          have w3' : t1 % 3329 = d := hd.symm
          replace ht0 := hide ht0
          have w4 : IntKind.i64.wrap d = d := by rw [IntKind.wrap_i64]; omega
          replace hx := hide hx; replace hy := hide hy; replace ht1 := hide ht1; replace hd := hide hd
          have KS := hide (fun (W : World) (h : Below w.heap.size w W) => (⟨(h.cell (p := ⟨g1, o1 + k, none⟩) hg1).trans d1, (h.cell (p := ⟨g2, o2 + k, none⟩) hg2).trans d2⟩ : W.cell? ⟨g1, o1 + k, none⟩ = some (.int .i64 x) ∧ W.cell? ⟨g2, o2 + k, none⟩ = some (.int .i64 y)))
          obtain ⟨ca, cb⟩ := (unhide KS) _ hB
          have hsz := hB.size
          have hl1 : ((preL (fun i => (cAt a i - cAt b i + 3329) % 3329) k).map iv).length + 1 ≤ maxLen := by rw [List.length_map, preL_len]; unfold maxLen; omega
          have hl2 : (((preL (fun i => (cAt a i - cAt b i + 3329) % 3329) k).map iv).length + 1) * 8 ≤ 140737488355328 := by rw [List.length_map, preL_len]; omega
          replace hl1 := hide hl1; replace hl2 := hide hl2
          clear hc1 hc2 d1 d2
          go_wp2
          go_region_held3 (fun W => W.cell? ⟨g1, o1 + k, none⟩ = some (.int .i64 x) ∧ W.cell? ⟨g2, o2 + k, none⟩ = some (.int .i64 y)) (first | exact ⟨ca, cb⟩ | exact (unhide KS) _ (hB.drew.alloc hsz _) | exact (unhide KS) _ hb2 | fail) (first
            | (refine step_append_v9 (w := wr.drew) (x := d) (e := 3) rfl rfl (.tmp 21) (.tmp 33) 31 rfl w.heap.size w.heap.size i0 (.int .i64 0) 8 Tryd.underlying31 hi hz0 hz1 hz2 rfl _ _ rfl (by exact unhide HO) rfl (unhide hl1) (unhide hl2) (Nat.le_refl _) (by exact hsz) (by exact hB.drew) ?_; intro v' w2 hown2 hb2))
          have hown3 : OwnV w2 w.heap.size 3 v' ((preL (fun i => (cAt a i - cAt b i + 3329) % 3329) (k + 1)).map iv) := by
            rw [unhide HP, List.map_append]
            exact hown2
          replace hown3 := hide hown3
          clear hown2 HP KS
          go_wp2
          go_roundw
          case rel => exact ⟨k + 1, by omega, by go_num, hown3, hb2⟩
          case measure => simp [intOf]; omega
        · have hk' : ¬ (k : Int) < 256 := by omega
          have hke : k = 256 := by omega
          have hown : OwnV wr w.heap.size 3 u5 ((subL a b).map iv) := by rw [unhide EF, ← hke]; exact unhide HO
          replace hown := hide hown
          clear HO
          replace hke := hide hke
          go_wp2
          go_ret
          exact ⟨⟨_, rfl, unhide hown⟩, hB⟩
    · have hb' : okPl b = false := by simpa using hb
      rw [hb'] at CB
      have E := hide (show subL a b = [] by unfold subL; rw [bothP_no2 hb']; rfl)
      rw [unhide E]
      go_enter Tryd.func26, Tryd.ntmps26
      have hB : Below w.heap.size w (w.alloc (.cells #[] 3)) := (Below.refl _ _).alloc (Nat.le_refl _) _
      go_wp2_with fail
      refine ((unhide CA) _ hB).mono ?_
      rintro e w1 ⟨rfl, rfl⟩
      go_wp2_with fail
      refine ((unhide CB) _ hB).mono ?_
      rintro e w1 ⟨rfl, rfl⟩
      go_wp2
      go_ret
      exact ⟨⟨_, rfl, World.ownsRow_made w #[] 0 (Nat.le_refl _) (by decide) (by simp)⟩, hB⟩
  · have ha' : okPl a = false := by simpa using ha
    rw [ha'] at CA
    have E := hide (show subL a b = [] by unfold subL; rw [bothP_no1 ha']; rfl)
    rw [unhide E]
    go_enter Tryd.func26, Tryd.ntmps26
    have hB : Below w.heap.size w (w.alloc (.cells #[] 3)) := (Below.refl _ _).alloc (Nat.le_refl _) _
    go_wp2_with fail
    refine ((unhide CA) _ hB).mono ?_
    rintro e w1 ⟨rfl, rfl⟩
    go_wp2
    go_ret
    exact ⟨⟨_, rfl, World.ownsRow_made w #[] 0 (Nat.le_refl _) (by decide) (by simp)⟩, hB⟩
end Go.Proofs.YthjgmpfdjhegfasDoor

/- Unpack by the given model, over the loaded program. -/
namespace Go.Proofs.YthjgmpfdjhegfasDoor
open Go.RowKit
theorem valC_app (c : Nat) (l m : List Nat) : valC c (l ++ m) = valC c l + c ^ l.length * valC c m := by
  induction l with
  | nil => show valC c m = 0 + c ^ 0 * valC c m; rw [Nat.pow_zero]; omega
  | cons y ys ih =>
    show y + c * valC c (ys ++ m) = y + c * valC c ys + c ^ (ys.length + 1) * valC c m
    rw [ih, Nat.pow_succ, Nat.mul_add, ← Nat.mul_assoc, Nat.mul_comm c (c ^ ys.length)]
    omega
def bysN (s : ByteArray) : List Nat := s.data.toList.map (·.toNat)
theorem bysN_len (s : ByteArray) : (bysN s).length = s.size := by unfold bysN; rw [List.length_map]; rfl
theorem bysN_lt (s : ByteArray) : ∀ x ∈ bysN s, x < 256 := by
  intro x hx
  obtain ⟨y, _, rfl⟩ := List.mem_map.1 hx
  exact y.toNat_lt
theorem uN_rest (xs : List Nat) (at' : Nat) (h : at' ≤ xs.length) : ∃ r, valC 256 xs = pN 8 xs at' + 2 ^ (8 * at') * r := by
  refine ⟨valC 256 (xs.drop at'), ?_⟩
  have e : xs = xs.take at' ++ xs.drop at' := (List.take_append_drop _ _).symm
  have h1 := valC_app 256 (xs.take at') (xs.drop at')
  rw [← e, List.length_take, Nat.min_eq_left h, pow_256] at h1
  exact h1
theorem div_add2 {N ct B T x : Nat} (h : ct + B = T) : (N + 2 ^ T * x) / 2 ^ B = N / 2 ^ B + x * 2 ^ ct := by
  rw [← h, Nat.pow_add, Nat.mul_comm (2 ^ ct) (2 ^ B), Nat.mul_assoc, Nat.add_mul_div_left _ _ (Nat.pow_pos (by omega)), Nat.mul_comm x]
theorem mod_same {A x b ct : Nat} (h : b ≤ ct) : (A + x * 2 ^ ct) % 2 ^ b = A % 2 ^ b := by
  obtain ⟨d, rfl⟩ : ∃ d, ct = b + d := ⟨ct - b, by omega⟩
  rw [Nat.pow_add, ← Nat.mul_assoc, Nat.mul_comm x, Nat.mul_assoc, Nat.add_mul_mod_self_left]
theorem div_next (N b i : Nat) : N / 2 ^ (b * i) / 2 ^ b = N / 2 ^ (b * (i + 1)) := by rw [Nat.div_div_eq_div_mul, ← Nat.pow_add, Nat.mul_add, Nat.mul_one]
/-- Whether s is a packing of n numbers of so many bits. -/
def upOk (s : ByteArray) (bits n : Int) : Bool := decide (1 ≤ bits ∧ bits ≤ 12) && (decide (0 ≤ n ∧ n ≤ 1000) && (decide (s.size = byN n.toNat bits.toNat) && decide (valC 256 (bysN s) / 2 ^ (bits.toNat * n.toNat) = 0)))
def upL (s : ByteArray) (bits n : Int) : List Int := if upOk s bits n = true then (upN bits.toNat n.toNat (bysN s)).map (fun (x : Nat) => (x : Int)) else []
def digI (b i S : Nat) : List Int := (dig (2 ^ b) i S).map fun (x : Nat) => (x : Int)
theorem digI_add (b i S : Nat) : digI b (i + 1) S = digI b i S ++ [((S / 2 ^ (b * i) % 2 ^ b : Nat) : Int)] := by
  unfold digI
  rw [dig_add, List.map_append, ← Nat.pow_mul]
  rfl
theorem digI_len (b i S : Nat) : (digI b i S).length = i := by unfold digI; rw [List.length_map, dig_len]
set_option maxRecDepth 20000 in
set_option maxHeartbeats 1000000 in
theorem specUnpack_any (s : ByteArray) (bits n : Int) (hs : s.size ≤ 1048576) (w : World) :
    Calls Tryd.prog 44 #[.string s, .int .i64 bits, .int .i64 n] w fun e w' => (∃ v, e = .returned (.tuple #[v, .bool (upOk s bits n)]) ∧ OwnV w' w.heap.size 3 v ((upL s bits n).map iv)) ∧ Below w.heap.size w w' := by
  obtain ⟨i0, hi, hz0, hz1, hz2⟩ := info_parts infoInt
  have hB0 : Below w.heap.size w (w.alloc (.cells #[] 3)) := (Below.refl _ _).alloc (Nat.le_refl _) _
  have hO0 : OwnV (w.alloc (.cells #[] 3)) w.heap.size 3 (.slice (some ⟨w.heap.size, 0, none⟩) 0 0) (([] : List Int).map iv) := World.ownsRow_made w #[] 0 (Nat.le_refl _) (by decide) (by simp)
  have hl0 : w.heap.size < (w.alloc (.cells #[] 3)).heap.size := by simp
  have C1 := hide (fun W => inb9 bits 1 12 W)
  have C2 := hide (fun W => inb9 n 0 1000 W)
  by_cases hb : 1 ≤ bits ∧ bits ≤ 12
  · rw [show decide ((1 : Int) ≤ bits ∧ bits ≤ 12) = true by rw [decide_eq_true_iff]; exact hb] at C1
    by_cases hn : 0 ≤ n ∧ n ≤ 1000
    · rw [show decide ((0 : Int) ≤ n ∧ n ≤ 1000) = true by rw [decide_eq_true_iff]; exact hn] at C2
      obtain ⟨b, rfl⟩ : ∃ b : Nat, bits = (b : Int) := ⟨bits.toNat, by omega⟩
      obtain ⟨k, rfl⟩ : ∃ k : Nat, n = (k : Int) := ⟨n.toNat, by omega⟩
      have hkb : k * b ≤ 1000 * 12 := Nat.mul_le_mul (by omega) (by omega)
      obtain ⟨m, hm⟩ : ∃ m : Nat, m = k * b := ⟨_, rfl⟩
      rw [← hm] at hkb
      obtain ⟨m7, hm7⟩ : ∃ m7 : Nat, m7 = m + 7 := ⟨_, rfl⟩
      obtain ⟨q, hq⟩ : ∃ q : Nat, q = m7 / 8 := ⟨_, rfl⟩
      have hby : byN k b = q := by unfold byN; rw [hq, hm7, hm]
      have u1 : IntKind.i64.wrap ((k : Int) * (b : Int)) = (m : Int) := by rw [show (k : Int) * (b : Int) = (m : Int) by rw [hm]; exact (Int.natCast_mul k b).symm, IntKind.wrap_i64]; omega
      have u2 : IntKind.i64.wrap ((m : Int) + 7) = (m7 : Int) := by rw [IntKind.wrap_i64]; omega
      have u3 : (m7 : Int).tdiv 8 = (q : Int) := by rw [Int.tdiv_eq_ediv_of_nonneg (by omega)]; omega
      have u3' : (m7 : Int) / 8 = (q : Int) := by omega
      have u4 : IntKind.i64.wrap (q : Int) = (q : Int) := by rw [IntKind.wrap_i64]; omega
      have hb1 : 1 ≤ b ∧ b ≤ 12 := by omega
      have hk1 : k ≤ 1000 := by omega
      by_cases hl : s.size = q
      · have hl' : (s.size : Int) = (q : Int) := by omega
        have hqm := hide (show 8 * q ≤ m + 7 ∧ m ≤ 8 * q by omega)
        replace hm7 := hide hm7; replace hq := hide hq
        obtain ⟨S, hS⟩ : ∃ S, S = valC 256 (bysN s) := ⟨_, rfl⟩
        obtain ⟨p, hp⟩ : ∃ p : Nat, p = 2 ^ b := ⟨_, rfl⟩
        have hpb : 2 ≤ p ∧ p ≤ 4096 := by rw [hp]; exact ⟨two_le 1 b (by omega), two_le b 12 (by omega)⟩
        have CT := hide (fun W => two_any b (by omega) W)
        rw [← hp] at CT
        have HT := hide (show ∀ a, a < q → pN 8 (bysN s) (a + 1) = pN 8 (bysN s) a + 2 ^ (8 * a) * (bysN s)[a]! from fun a ha => by
          rw [pN_add 8 (bysN s) a (by rw [bysN_len]; omega), getElem!_pos (bysN s) a (by rw [bysN_len]; omega)])
        have HR := hide (show ∀ a, a ≤ q → ∃ r, S = pN 8 (bysN s) a + 2 ^ (8 * a) * r from fun a ha => by
          rw [hS]; exact uN_rest (bysN s) a (by rw [bysN_len]; omega))
        have HSq := hide (show pN 8 (bysN s) q = S by rw [hS, ← hl, ← bysN_len]; exact pN_all 8 (bysN s))
        have EO := hide (show upOk s (b : Int) (k : Int) = decide (S / 2 ^ (b * k) = 0) by
          unfold upOk
          rw [decide_eq_true hb, decide_eq_true hn, Int.toNat_natCast, Int.toNat_natCast, hby, decide_eq_true hl, ← hS]; rfl)
        have EL := hide (show upL s (b : Int) (k : Int) = if S / 2 ^ (b * k) = 0 then digI b k S else [] by
          unfold upL
          rw [unhide EO]
          unfold upN digI
          rw [Int.toNat_natCast, Int.toNat_natCast, ← hS]
          by_cases h : S / 2 ^ (b * k) = 0
          · rw [if_pos (decide_eq_true h), if_pos h]
          · rw [if_neg (by rw [decide_eq_false h]; decide), if_neg h])
        have HLt := hide (fun a => pN_lt 8 (bysN s) a (bysN_lt s))
        have HBy := hide (show ∀ a, a < q → ∃ x : Nat, x < 256 ∧ (bysN s)[a]! = x ∧ ∀ h : a < s.size, (s[a]'h).toNat = x from fun a ha => by
          have h1 : a < s.data.toList.length := by show a < s.size; omega
          have h2 : a < (bysN s).length := by rw [bysN_len]; omega
          refine ⟨(s.data.toList[a]).toNat, UInt8.toNat_lt _, ?_, ?_⟩
          · rw [getElem!_pos (bysN s) a h2]; exact List.getElem_map _
          · intro h; rfl)
        replace hS := hide hS; replace hp := hide hp; replace hm := hide hm
        go_enter Tryd.func44, Tryd.ntmps44
        go_wp2_with fail
        refine ((unhide C1) _).mono ?_
        rintro e w1 ⟨rfl, rfl⟩
        go_wp2_with fail
        refine ((unhide C2) _).mono ?_
        rintro e w1 ⟨rfl, rfl⟩
        generalize w.alloc (.cells #[] 3) = w1 at *
        go_wp2
        go_loopw [8, 9, 10, 11, 12] (fun tv th tc ta ti wr => ∃ i a hv ct : Nat, i ≤ k ∧ ct < 8 ∧ Hid (ct + b * i = 8 * a) ∧ a ≤ q ∧ Hid (hv = pN 8 (bysN s) a / 2 ^ (b * i)) ∧ ti = .int .i64 (i : Int) ∧ th = .int .i64 (hv : Int) ∧ tc = .int .i64 (ct : Int) ∧ ta = .int .i64 (a : Int) ∧ Hid (OwnV wr w.heap.size 3 tv ((digI b i S).map iv)) ∧ Below w.heap.size w wr) (fun _ _ _ _ ti _ => k - (intOf ti).toNat)
        case atStart => exact ⟨0, 0, 0, 0, by omega, by omega, hide (by omega), by omega, hide (by unfold pN; rw [List.take_zero]; show 0 = 0 / 2 ^ (b * 0); rw [Nat.zero_div]), rfl, rfl, rfl, rfl, hide hO0, hB0⟩
        case round =>
          clear hO0 hB0 hl0
          obtain ⟨i, a, hv, ct, hik, hc8, hct, haq, hhv, rfl, rfl, rfl, rfl, HO, hB⟩ := hrel
          by_cases hlt : i < k
          · have hi' : (i : Int) < (k : Int) := by omega
            have hbi := hide (show b * (i + 1) ≤ m by rw [unhide hm, Nat.mul_comm k b]; exact Nat.mul_le_mul_left b hlt)
            have hbe := hide (show b * (i + 1) = b * i + b by rw [Nat.mul_add, Nat.mul_one])
            go_wp2
            go_loopw [9, 10, 11] (fun th tc ta wq => ∃ a hv ct : Nat, ct < b + 8 ∧ Hid (ct + b * i = 8 * a) ∧ a ≤ q ∧ Hid (hv = pN 8 (bysN s) a / 2 ^ (b * i)) ∧ th = .int .i64 (hv : Int) ∧ tc = .int .i64 (ct : Int) ∧ ta = .int .i64 (a : Int) ∧ Hid (OwnV wq w.heap.size 3 u8 ((digI b i S).map iv)) ∧ Below w.heap.size w wq) (fun _ tc _ _ => 100 - (intOf tc).toNat)
            case atStart => exact ⟨a, hv, ct, by omega, hct, haq, hhv, rfl, rfl, rfl, HO, hB⟩
            case round =>
              clear HO hB hct hhv haq hc8
              obtain ⟨a, hv, ct, hcb, hct, haq, hhv, rfl, rfl, rfl, HO, hB⟩ := hrel
              have hvb : hv < 2 ^ ct := by
                have h1 := unhide HLt a
                rw [unhide hhv, Nat.div_lt_iff_lt_mul (Nat.pow_pos (by omega)), ← Nat.pow_add, unhide hct]
                exact h1
              have hvb2 : hv < 1048576 := Nat.lt_of_lt_of_le hvb (two_le ct 20 (by omega))
              by_cases hltc : ct < b
              · have hc' : (ct : Int) < (b : Int) := by omega
                have haq2 : a < q := by
                  have h1 := unhide hct
                  have h2 := unhide hbi
                  have h3 := unhide hbe
                  have h4 := (unhide hqm).2
                  omega
                obtain ⟨x, hx, hxs, hxd0⟩ := unhide HBy a haq2
                have haS : a < s.size := by omega
                have hxd := hxd0 haS
                clear hxd0
                have hT1 := unhide HT a haq2
                rw [hxs] at hT1
                obtain ⟨c2, hc2⟩ : ∃ c2 : Nat, c2 = 2 ^ ct := ⟨_, rfl⟩
                have hc2b : 1 ≤ c2 ∧ c2 ≤ 4096 := by rw [hc2]; exact ⟨Nat.pow_pos (by omega), two_le ct 12 (by omega)⟩
                have CU := hide (fun W => two_any ct (by omega) W)
                rw [← hc2] at CU
                have hm2 : x * c2 ≤ 255 * 4096 := Nat.mul_le_mul (by omega) hc2b.2
                obtain ⟨y, hy⟩ : ∃ y : Nat, y = x * c2 := ⟨_, rfl⟩
                rw [← hy] at hm2
                obtain ⟨h2, hh2⟩ : ∃ h2 : Nat, h2 = hv + y := ⟨_, rfl⟩
                have HV := hide (show h2 = pN 8 (bysN s) (a + 1) / 2 ^ (b * i) by rw [hT1, div_add2 (unhide hct), ← unhide hhv, hh2, hy, hc2])
                have w1 : IntKind.i64.wrap ((x : Int) * (c2 : Int)) = (y : Int) := by rw [show (x : Int) * (c2 : Int) = (y : Int) by rw [hy]; exact (Int.natCast_mul x c2).symm, IntKind.wrap_i64]; omega
                have w2 : IntKind.i64.wrap ((hv : Int) + (y : Int)) = (h2 : Int) := by rw [IntKind.wrap_i64]; omega
                have w3 : IntKind.i64.wrap (x : Int) = (x : Int) := by rw [IntKind.wrap_i64]; omega
                have hcn := hide (show ct + 8 + b * i = 8 * (a + 1) by have := unhide hct; omega)
                have hidx : (a : Int) < (s.size : Int) := by omega
                have hi0' : (0 : Int) ≤ (a : Int) := by omega
                replace hc2 := hide hc2; replace hy := hide hy; replace hh2 := hide hh2; replace hT1 := hide hT1; replace hxs := hide hxs; replace hvb := hide hvb
                have HO5 : Hid (OwnV wr.drew w.heap.size 3 u8 ((digI b i S).map iv)) := hide (unhide HO)
                have hB5 := hB.drew
                have w4 : IntKind.i64.wrap ((ct : Int) + 8) = ((ct + 8 : Nat) : Int) := by rw [IntKind.wrap_i64]; omega
                have w5 : IntKind.i64.wrap ((a : Int) + 1) = ((a + 1 : Nat) : Int) := by rw [IntKind.wrap_i64]; omega
                clear HO hB
                go_wp2
                go_region_held3 (fun _ => True) (trivial) (first
                  | (go_at_call 51; refine ((unhide CU) _).mono ?_; rintro e w2 ⟨rfl, rfl⟩)
                  | fail)
                all_goals first | go_wp2 | skip
                all_goals exact ⟨⟨a + 1, h2, ct + 8, by omega, hcn, by omega, HV, by first | rfl | trivial, by go_num, by go_num, HO5, hB5⟩, by simp [intOf]; omega⟩
              · have hc' : ¬ (ct : Int) < (b : Int) := by omega
                obtain ⟨r, hr⟩ : ∃ r : Nat, r = hv % p := ⟨_, rfl⟩
                obtain ⟨h3, hh3⟩ : ∃ h : Nat, h = hv / p := ⟨_, rfl⟩
                obtain ⟨ct2, hct2⟩ : ∃ c : Nat, c = ct - b := ⟨_, rfl⟩
                have hrp : r < p := by rw [hr]; exact Nat.mod_lt _ (by omega)
                have hh3b : h3 ≤ hv := by rw [hh3]; exact Nat.div_le_self _ _
                obtain ⟨rest, hrest⟩ := unhide HR a haq
                have HD := hide (show digI b (i + 1) S = digI b i S ++ [(r : Int)] by
                  rw [digI_add, hr, unhide hp, unhide hhv, hrest, div_add2 (unhide hct), mod_same (by omega)])
                have HV := hide (show h3 = pN 8 (bysN s) a / 2 ^ (b * (i + 1)) by rw [← div_next, ← unhide hhv, ← unhide hp, hh3])
                have hcn := hide (show ct2 + b * (i + 1) = 8 * a by have h1 := unhide hct; have h2 := unhide hbe; omega)
                have v1' : (hv : Int) % (p : Int) = (r : Int) := by rw [hr]; exact (Int.natCast_emod hv p).symm
                have v1 : (hv : Int).tmod (p : Int) = (r : Int) := by rw [Int.tmod_eq_emod_of_nonneg (by omega)]; exact v1'
                have v2 : IntKind.i64.wrap (r : Int) = (r : Int) := by rw [IntKind.wrap_i64]; omega
                have v3' : (hv : Int) / (p : Int) = (h3 : Int) := by rw [hh3]; exact (Int.natCast_ediv hv p).symm
                have v3 : (hv : Int).tdiv (p : Int) = (h3 : Int) := by rw [Int.tdiv_eq_ediv_of_nonneg (by omega)]; exact v3'
                have v4 : IntKind.i64.wrap (h3 : Int) = (h3 : Int) := by rw [IntKind.wrap_i64]; omega
                have v5 : IntKind.i64.wrap ((ct : Int) - (b : Int)) = (ct2 : Int) := by rw [IntKind.wrap_i64]; omega
                have v6 : ¬ (p : Int) = 0 := by omega
                have hszB := hB.size
                have hl1 : ((digI b i S).map iv).length + 1 ≤ maxLen := by rw [List.length_map, digI_len]; unfold maxLen; omega
                have hl2 : (((digI b i S).map iv).length + 1) * 8 ≤ 140737488355328 := by rw [List.length_map, digI_len]; omega
                replace hl1 := hide hl1; replace hl2 := hide hl2
                have hc28 : ct2 < 8 := by omega
                replace hr := hide hr; replace hh3 := hide hh3; replace hct2 := hide hct2; replace hrest := hide hrest; replace hvb := hide hvb
                go_wp2_with fail
                refine ((unhide CT) wr).mono ?_
                rintro e w2 ⟨rfl, hw2⟩
                have hw3 := hw2.symm
                subst hw3
                clear hw2
                go_wp2_with (at_builtin; refine wpList_append_vals (w := wr) rfl (.tmp 54) (.tmp 59) 31 rfl w.heap.size w.heap.size 3 i0 (.int .i64 0) 8 Tryd.underlying31 hi hz0 hz1 hz2 rfl u8 ((digI b i S).map iv) rfl (unhide HO) #[.int .i64 (r : Int)] [.int .i64 (r : Int)] rfl (by intro u hu; simp only [List.mem_singleton] at hu; subst hu; rfl) 1 1 rfl rfl (unhide hl1) (unhide hl2) (Nat.le_refl _) hszB hB ?_; intro v' w5 hown5 hb5)
                rw [show (digI b i S).map iv ++ [.int .i64 (r : Int)] = (digI b (i + 1) S).map iv by rw [unhide HD, List.map_append]; rfl] at hown5
                replace hown5 := hide hown5
                clear HO
                refine ((unhide CT) w5).mono ?_
                rintro e w2 ⟨rfl, hw2⟩
                have hw3 := hw2.symm
                subst hw3
                clear hw2
                go_wp2
                exact ⟨⟨i + 1, a, h3, ct2, by omega, hc28, hcn, haq, HV, by go_num, by first | rfl | trivial, by first | rfl | trivial, by first | rfl | trivial, hown5, hb5⟩, by simp [intOf]; omega⟩
          · have hi' : ¬ (i : Int) < (k : Int) := by omega
            have hie : i = k := by omega
            have hae : a = q := by
              have h1 := unhide hct
              have h2 := unhide hqm
              have h3 : b * i = m := by rw [hie, unhide hm, Nat.mul_comm]
              omega
            have hhv2 : hv = S / 2 ^ (b * k) := by rw [unhide hhv, hae, unhide HSq, hie]
            have HO2 : Hid (OwnV wr w.heap.size 3 u8 ((digI b k S).map iv)) := hide (by rw [← hie]; exact unhide HO)
            replace hie := hide hie; replace hae := hide hae
            clear HO
            by_cases hz : hv = 0
            · have E1 := hide (show upOk s (b : Int) (k : Int) = true by rw [unhide EO, ← hhv2]; exact decide_eq_true hz)
              have E2 := hide (show upL s (b : Int) (k : Int) = digI b k S by rw [unhide EL, ← hhv2, if_pos hz])
              have hz' : ((hv : Int) == 0) = true := by rw [hz]; rfl
              replace hhv2 := hide hhv2; replace hz := hide hz
              go_wp2
              refine bodyPost_ret (v := .tuple #[u8, .bool true]) (by simp [results, Tryd.results44, go_sem]) rfl ⟨⟨u8, by rw [unhide E1], by rw [unhide E2]; exact unhide HO2⟩, hB⟩
            · have E1 := hide (show upOk s (b : Int) (k : Int) = false by rw [unhide EO, ← hhv2]; exact decide_eq_false hz)
              have E2 := hide (show upL s (b : Int) (k : Int) = [] by rw [unhide EL, ← hhv2, if_neg hz])
              have hz' : ((hv : Int) == 0) = false := by rw [beq_eq_false_iff_ne]; omega
              have hszB := hB.size
              replace hhv2 := hide hhv2; replace hz := hide hz
              go_wp2
              refine bodyPost_ret (v := .tuple #[.slice (some ⟨wr.heap.size, 0, none⟩) 0 0, .bool false]) (by simp [results, Tryd.results44, go_sem]) rfl ⟨⟨_, by rw [unhide E1], by rw [unhide E2]; exact World.ownsRow_made wr #[] 0 hszB (by decide) (by simp)⟩, hB.alloc hszB _⟩
      · have E1 := hide (show upOk s (b : Int) (k : Int) = false by unfold upOk; rw [Int.toNat_natCast, Int.toNat_natCast, hby, decide_eq_false hl, Bool.false_and, Bool.and_false, Bool.and_false])
        have E2 := hide (show upL s (b : Int) (k : Int) = [] by unfold upL; rw [unhide E1]; rfl)
        have hl' : ¬ (s.size : Int) = (q : Int) := by omega
        replace hm := hide hm; replace hm7 := hide hm7; replace hq := hide hq; replace hby := hide hby
        go_enter Tryd.func44, Tryd.ntmps44
        go_wp2_with fail
        refine ((unhide C1) _).mono ?_
        rintro e w1 ⟨rfl, rfl⟩
        go_wp2_with fail
        refine ((unhide C2) _).mono ?_
        rintro e w1 ⟨rfl, rfl⟩
        generalize w.alloc (.cells #[] 3) = w1 at *
        go_wp2
        refine bodyPost_ret (v := .tuple #[.slice (some ⟨w.heap.size, 0, none⟩) 0 0, .bool false]) (by simp [results, Tryd.results44, go_sem]) rfl ⟨⟨_, by rw [unhide E1], by rw [unhide E2]; exact hO0⟩, hB0⟩
    · rw [show decide ((0 : Int) ≤ n ∧ n ≤ 1000) = false by rw [decide_eq_false_iff_not]; exact hn] at C2
      have E1 := hide (show upOk s bits n = false by unfold upOk; rw [decide_eq_false hn, Bool.false_and, Bool.and_false])
      have E2 := hide (show upL s bits n = [] by unfold upL; rw [unhide E1]; rfl)
      go_enter Tryd.func44, Tryd.ntmps44
      go_wp2_with fail
      refine ((unhide C1) _).mono ?_
      rintro e w1 ⟨rfl, rfl⟩
      go_wp2_with fail
      refine ((unhide C2) _).mono ?_
      rintro e w1 ⟨rfl, rfl⟩
      generalize w.alloc (.cells #[] 3) = w1 at *
      go_wp2
      refine bodyPost_ret (v := .tuple #[.slice (some ⟨w.heap.size, 0, none⟩) 0 0, .bool false]) (by simp [results, Tryd.results44, go_sem]) rfl ⟨⟨_, by rw [unhide E1], by rw [unhide E2]; exact hO0⟩, hB0⟩
  · rw [show decide ((1 : Int) ≤ bits ∧ bits ≤ 12) = false by rw [decide_eq_false_iff_not]; exact hb] at C1
    have E1 := hide (show upOk s bits n = false by unfold upOk; rw [decide_eq_false hb, Bool.false_and])
    have E2 := hide (show upL s bits n = [] by unfold upL; rw [unhide E1]; rfl)
    go_enter Tryd.func44, Tryd.ntmps44
    go_wp2_with fail
    refine ((unhide C1) _).mono ?_
    rintro e w1 ⟨rfl, rfl⟩
    generalize w.alloc (.cells #[] 3) = w1 at *
    go_wp2
    refine bodyPost_ret (v := .tuple #[.slice (some ⟨w.heap.size, 0, none⟩) 0 0, .bool false]) (by simp [results, Tryd.results44, go_sem]) rfl ⟨⟨_, by rw [unhide E1], by rw [unhide E2]; exact hO0⟩, hB0⟩
end Go.Proofs.YthjgmpfdjhegfasDoor

/- Polynomials as bytes by the given model, over the loaded program. -/
namespace Go.Proofs.YthjgmpfdjhegfasDoor
open Go.RowKit
def polB (l : List Int) : ByteArray := if okPl l = true then pkB l 12 else ⟨#[]⟩
def pfOk (s : ByteArray) : Bool := upOk s 12 256 && okPl (upL s 12 256)
def pfL (s : ByteArray) : List Int := if pfOk s = true then upL s 12 256 else []
set_option maxRecDepth 20000 in
set_option maxHeartbeats 400000 in
theorem specPolyFrom_any (s : ByteArray) (hs : s.size ≤ 1048576) (w : World) :
    Calls Tryd.prog 22 #[.string s] w fun e w' => (∃ v, e = .returned (.tuple #[v, .bool (pfOk s)]) ∧ OwnV w' w.heap.size 3 v ((pfL s).map iv)) ∧ Below w.heap.size w w' := by
  have CU := hide (specUnpack_any s 12 256 hs w)
  have EO := hide (show pfOk s = (upOk s 12 256 && okPl (upL s 12 256)) from rfl)
  have EL := hide (show pfL s = if pfOk s = true then upL s 12 256 else [] from rfl)
  generalize upL s 12 256 = l at *
  generalize upOk s 12 256 = q at *
  go_enter Tryd.func22, Tryd.ntmps22
  go_wp2_with fail
  refine (unhide CU).mono ?_
  rintro e w1 ⟨⟨v, rfl, hO⟩, hb1⟩
  have hsz := hb1.size
  cases q with
  | false =>
    have E1 := hide (show pfOk s = false by rw [unhide EO]; rfl)
    have E2 := hide (show pfL s = [] by rw [unhide EL, unhide E1]; rfl)
    go_wp2
    refine bodyPost_ret (v := .tuple #[.slice (some ⟨w1.heap.size, 0, none⟩) 0 0, .bool false]) (by simp [results, Tryd.results22, go_sem]) rfl ⟨⟨_, by rw [unhide E1], by rw [unhide E2]; exact World.ownsRow_made w1 #[] 0 hsz (by decide) (by simp)⟩, hb1.alloc hsz _⟩
  | true =>
    have CA := hide (specPolyOk_any l v w1 hO.rdv)
    have E1 := hide (show pfOk s = okPl l by rw [unhide EO]; exact Bool.true_and _)
    cases hk : okPl l with
    | false =>
      rw [hk] at CA
      have E3 := hide (show pfOk s = false by rw [unhide E1]; exact hk)
      have E2 := hide (show pfL s = [] by rw [unhide EL, unhide E3]; rfl)
      replace hk := hide hk
      go_wp2_with fail
      refine (unhide CA).mono ?_
      rintro e w2 ⟨rfl, hw1⟩
      have hw2 := hw1.symm
      subst hw2
      clear hw1
      go_wp2
      refine bodyPost_ret (v := .tuple #[.slice (some ⟨w1.heap.size, 0, none⟩) 0 0, .bool false]) (by simp [results, Tryd.results22, go_sem]) rfl ⟨⟨_, by rw [unhide E3], by rw [unhide E2]; exact World.ownsRow_made w1 #[] 0 hsz (by decide) (by simp)⟩, hb1.alloc hsz _⟩
    | true =>
      rw [hk] at CA
      have E3 := hide (show pfOk s = true by rw [unhide E1]; exact hk)
      have E2 := hide (show pfL s = l by rw [unhide EL, unhide E3]; rfl)
      replace hk := hide hk
      go_wp2_with fail
      refine (unhide CA).mono ?_
      rintro e w2 ⟨rfl, hw1⟩
      have hw2 := hw1.symm
      subst hw2
      clear hw1
      go_wp2
      refine bodyPost_ret (v := .tuple #[v, .bool true]) (by simp [results, Tryd.results22, go_sem]) rfl ⟨⟨v, by rw [unhide E3], by rw [unhide E2]; exact hO⟩, hb1⟩
end Go.Proofs.YthjgmpfdjhegfasDoor

/- Transforms of polynomials, layer by layer: what they answer; that they take each other back; that products go through them. -/
namespace Go.Proofs.YthjgmpfdjhegfasDoor
open Go.RowKit
def Sz (s : Nat) : Prop := s = 128 ∨ s = 64 ∨ s = 32 ∨ s = 16 ∨ s = 8 ∨ s = 4 ∨ s = 2
def ztN (k : Nat) : Nat := 17 ^ t7 k % 3329
def zt (k : Nat) : Int := powM 17 (t7 k)
theorem zt_nat (k : Nat) : zt k = (ztN k : Int) := by
  unfold zt ztN powM
  rw [show (17 : Int) ^ t7 k = ((17 ^ t7 k : Nat) : Int) by rw [Int.natCast_pow]; rfl]
  generalize 17 ^ t7 k = X
  omega
/-- One layer on the way there: block t / 2s with its factor. -/
def lay (s : Nat) (zf f : Nat → Int) (t : Nat) : Int := if t % (2 * s) < s then f t + zf (t / (2 * s)) * f (t + s) else f (t - s) - zf (t / (2 * s)) * f t
/-- One layer on the way back. -/
def ily (s : Nat) (zf g : Nat → Int) (t : Nat) : Int := if t % (2 * s) < s then g t + g (t + s) else zf (t / (2 * s)) * (g t - g (t - s))
theorem sz_lo {s t : Nat} (hs : Sz s) (ht : t < 256) (h : t % (2 * s) < s) : t + s < 256 ∧ ¬ (t + s) % (2 * s) < s ∧ (t + s) / (2 * s) = t / (2 * s) := by
  rcases hs with rfl | rfl | rfl | rfl | rfl | rfl | rfl <;> omega
theorem sz_hi {s t : Nat} (hs : Sz s) (ht : t < 256) (h : ¬ t % (2 * s) < s) : s ≤ t ∧ (t - s) % (2 * s) < s ∧ (t - s) / (2 * s) = t / (2 * s) ∧ t - s + s = t := by
  rcases hs with rfl | rfl | rfl | rfl | rfl | rfl | rfl <;> omega
theorem lay_al {s : Nat} (hs : Sz s) (zf : Nat → Int) {f g : Nat → Int} (h : ∀ t, t < 256 → AlQ (f t) (g t)) (t : Nat) (ht : t < 256) : AlQ (lay s zf f t) (lay s zf g t) := by
  unfold lay
  by_cases c : t % (2 * s) < s
  · rw [if_pos c, if_pos c]
    exact (h t ht).add ((AlQ.refl _).mul (h _ (sz_lo hs ht c).1))
  · rw [if_neg c, if_neg c]
    exact (h _ (by omega)).sub ((AlQ.refl _).mul (h t ht))
theorem ily_al {s : Nat} (hs : Sz s) (zf : Nat → Int) {f g : Nat → Int} (h : ∀ t, t < 256 → AlQ (f t) (g t)) (t : Nat) (ht : t < 256) : AlQ (ily s zf f t) (ily s zf g t) := by
  unfold ily
  by_cases c : t % (2 * s) < s
  · rw [if_pos c, if_pos c]
    exact (h t ht).add (h _ (sz_lo hs ht c).1)
  · rw [if_neg c, if_neg c]
    exact (AlQ.refl _).mul ((h t ht).sub (h _ (by omega)))
theorem al_of {x y : Int} (m : Int) (h : x - y = 3329 * m) : AlQ x y := by unfold AlQ; omega
theorem al_to {x y : Int} (h : AlQ x y) : ∃ m, x - y = 3329 * m := ⟨(x - y) / 3329, by unfold AlQ at h; omega⟩
/-- There and back: each number twice. -/
theorem ily_lay {s : Nat} (hs : Sz s) (zf zg f : Nat → Int) (t : Nat) (ht : t < 256) (hz : AlQ (zf (t / (2 * s)) * zg (t / (2 * s))) (-1)) : AlQ (ily s zg (lay s zf f) t) (2 * f t) := by
  unfold ily
  by_cases c : t % (2 * s) < s
  · obtain ⟨_, h2, h3⟩ := sz_lo hs ht c
    rw [if_pos c]
    unfold lay
    rw [if_pos c, if_neg h2, h3, show t + s - s = t by omega]
    exact al_of 0 (by grind)
  · obtain ⟨_, h2, h3, h4⟩ := sz_hi hs ht c
    rw [if_neg c]
    unfold lay
    rw [if_neg c, if_pos h2, h3, h4]
    obtain ⟨m, hm⟩ := al_to hz
    generalize zf (t / (2 * s)) = z at *
    generalize zg (t / (2 * s)) = y at *
    exact al_of (-2 * m * f t) (by grind)
/-- Back and there: each number twice. -/
theorem lay_ily {s : Nat} (hs : Sz s) (zf zg g : Nat → Int) (t : Nat) (ht : t < 256) (hz : AlQ (zf (t / (2 * s)) * zg (t / (2 * s))) (-1)) : AlQ (lay s zf (ily s zg g) t) (2 * g t) := by
  unfold lay
  obtain ⟨m, hm⟩ := al_to hz
  by_cases c : t % (2 * s) < s
  · obtain ⟨_, h2, h3⟩ := sz_lo hs ht c
    rw [if_pos c]
    unfold ily
    rw [if_pos c, if_neg h2, h3, show t + s - s = t by omega]
    generalize zf (t / (2 * s)) = z at *
    generalize zg (t / (2 * s)) = y at *
    exact al_of (m * (g (t + s) - g t)) (by grind)
  · obtain ⟨_, h2, _, h4⟩ := sz_hi hs ht c
    rw [if_neg c]
    unfold ily
    rw [if_neg c, if_pos h2, h4]
    generalize zf (t / (2 * s)) = z at *
    generalize zg (t / (2 * s)) = y at *
    exact al_of (-m * (g t - g (t - s))) (by grind)
theorem lay_scale (s : Nat) (zf f : Nat → Int) (c : Int) (t : Nat) : lay s zf (fun i => c * f i) t = c * lay s zf f t := by
  unfold lay; split <;> grind
theorem ily_scale (s : Nat) (zf f : Nat → Int) (c : Int) (t : Nat) : ily s zf (fun i => c * f i) t = c * ily s zf f t := by
  unfold ily; split <;> grind
theorem lay_add (s : Nat) (zf f g : Nat → Int) (t : Nat) : lay s zf (fun i => f i + g i) t = lay s zf f t + lay s zf g t := by
  unfold lay; split <;> grind
def sz (i : Nat) : Nat := 128 / 2 ^ i
def zN (i b : Nat) : Int := zt (2 ^ i + b)
def zI (i b : Nat) : Int := zt (2 ^ (i + 1) - 1 - b)
theorem sz_ok (i : Nat) (h : i < 7) : Sz (sz i) := by
  match i, h with
  | 0, _ => exact .inl rfl
  | 1, _ => exact .inr (.inl rfl)
  | 2, _ => exact .inr (.inr (.inl rfl))
  | 3, _ => exact .inr (.inr (.inr (.inl rfl)))
  | 4, _ => exact .inr (.inr (.inr (.inr (.inl rfl))))
  | 5, _ => exact .inr (.inr (.inr (.inr (.inr (.inl rfl)))))
  | 6, _ => exact .inr (.inr (.inr (.inr (.inr (.inr rfl)))))
  | i + 7, h => exact absurd h (by omega)
theorem blk_lt (i t : Nat) (h : i < 7) (ht : t < 256) : t / (2 * sz i) < 2 ^ i := by
  match i, h with
  | 0, _ => show t / 256 < 1; omega
  | 1, _ => show t / 128 < 2; omega
  | 2, _ => show t / 64 < 4; omega
  | 3, _ => show t / 32 < 8; omega
  | 4, _ => show t / 16 < 16; omega
  | 5, _ => show t / 8 < 32; omega
  | 6, _ => show t / 4 < 64; omega
  | i + 7, h => exact absurd h (by omega)
theorem zz_all : allN (fun i => allN (fun b => (ztN (2 ^ i + b) * ztN (2 ^ (i + 1) - 1 - b) + 1) % 3329 == 0) (2 ^ i)) 7 = true := by decide +kernel
theorem zz (i b : Nat) (hi : i < 7) (hb : b < 2 ^ i) : AlQ (zN i b * zI i b) (-1) := by
  have h := allN_at (allN_at zz_all i hi) b hb
  have h' : (ztN (2 ^ i + b) * ztN (2 ^ (i + 1) - 1 - b) + 1) % 3329 = 0 := by simpa using h
  unfold zN zI
  rw [zt_nat, zt_nat]
  generalize ztN (2 ^ i + b) = x at *
  generalize ztN (2 ^ (i + 1) - 1 - b) = y at *
  rw [← Int.natCast_mul]
  generalize x * y = p at *
  unfold AlQ
  omega
/-- The numbers behind i layers there. -/
def nF (f : Nat → Int) : Nat → Nat → Int
  | 0 => f
  | i + 1 => lay (sz i) (zN i) (nF f i)
/-- The numbers behind m layers back. -/
def iF (g : Nat → Int) : Nat → Nat → Int
  | 0 => g
  | m + 1 => ily (sz (6 - m)) (zI (6 - m)) (iF g m)
theorem nF_al {f g : Nat → Int} (h : ∀ t, t < 256 → AlQ (f t) (g t)) (i : Nat) (hi : i ≤ 7) : ∀ t, t < 256 → AlQ (nF f i t) (nF g i t) := by
  induction i with
  | zero => exact h
  | succ i ih => exact fun t ht => lay_al (sz_ok i (by omega)) _ (ih (by omega)) t ht
theorem iF_al {f g : Nat → Int} (h : ∀ t, t < 256 → AlQ (f t) (g t)) (m : Nat) (hm : m ≤ 7) : ∀ t, t < 256 → AlQ (iF f m t) (iF g m t) := by
  induction m with
  | zero => exact h
  | succ m ih => exact fun t ht => ily_al (sz_ok (6 - m) (by omega)) _ (ih (by omega)) t ht
theorem nF_scale (f : Nat → Int) (c : Int) (i : Nat) : nF (fun t => c * f t) i = fun t => c * nF f i t := by
  induction i with
  | zero => rfl
  | succ i ih =>
    show lay (sz i) (zN i) (nF (fun t => c * f t) i) = _
    rw [ih]
    funext t
    exact lay_scale _ _ _ _ _
theorem nF_add (f g : Nat → Int) (i : Nat) : nF (fun t => f t + g t) i = fun t => nF f i t + nF g i t := by
  induction i with
  | zero => rfl
  | succ i ih =>
    show lay (sz i) (zN i) (nF (fun t => f t + g t) i) = _
    rw [ih]
    funext t
    exact lay_add _ _ _ _ _
/-- m layers back behind 7 there: what was behind 7 - m there, 2^m times. -/
theorem iF_nF (f : Nat → Int) (m : Nat) (hm : m ≤ 7) : ∀ t, t < 256 → AlQ (iF (nF f 7) m t) (2 ^ m * nF f (7 - m) t) := by
  induction m with
  | zero => intro t _; rw [Int.pow_zero, Int.one_mul]; exact AlQ.refl _
  | succ m ih =>
    intro t ht
    have h1 := ily_al (sz_ok (6 - m) (by omega)) (zI (6 - m)) (ih (by omega)) t ht
    refine AlQ.trans h1 ?_
    rw [ily_scale]
    have e : nF f (7 - m) = lay (sz (6 - m)) (zN (6 - m)) (nF f (6 - m)) := by
      rw [show 7 - m = (6 - m) + 1 by omega]; rfl
    rw [e, show 7 - (m + 1) = 6 - m by omega]
    have h2 := ily_lay (sz_ok (6 - m) (by omega)) (zN (6 - m)) (zI (6 - m)) (nF f (6 - m)) t ht (zz _ _ (by omega) (blk_lt _ _ (by omega) ht))
    refine AlQ.trans ((AlQ.refl _).mul h2) ?_
    rw [Int.pow_succ]
    exact al_of 0 (by grind)
/-- i layers there behind 7 back: what was behind 7 - i back, 2^i times. -/
theorem nF_iF (g : Nat → Int) (i : Nat) (hi : i ≤ 7) : ∀ t, t < 256 → AlQ (nF (iF g 7) i t) (2 ^ i * iF g (7 - i) t) := by
  induction i with
  | zero => intro t _; rw [Int.pow_zero, Int.one_mul]; exact AlQ.refl _
  | succ i ih =>
    intro t ht
    have h1 := lay_al (sz_ok i (by omega)) (zN i) (ih (by omega)) t ht
    refine AlQ.trans h1 ?_
    rw [lay_scale]
    have e : iF g (7 - i) = ily (sz i) (zI i) (iF g (6 - i)) := by
      rw [show 7 - i = (6 - i) + 1 by omega]
      show ily (sz (6 - (6 - i))) (zI (6 - (6 - i))) (iF g (6 - i)) = _
      rw [show 6 - (6 - i) = i by omega]
    rw [e, show 7 - (i + 1) = 6 - i by omega]
    have h2 := lay_ily (sz_ok i (by omega)) (zN i) (zI i) (iF g (6 - i)) t ht (zz _ _ (by omega) (blk_lt _ _ (by omega) ht))
    refine AlQ.trans ((AlQ.refl _).mul h2) ?_
    rw [Int.pow_succ]
    exact al_of 0 (by grind)
theorem inv_there (f : Nat → Int) (t : Nat) (ht : t < 256) : AlQ (iF (nF f 7) 7 t * 3303) (f t) := by
  have h := (iF_nF f 7 (by omega) t ht).mul (AlQ.refl 3303)
  refine AlQ.trans h ?_
  show AlQ (2 ^ 7 * nF f 0 t * 3303) (f t)
  exact al_of (127 * f t) (by show 2 ^ 7 * f t * 3303 - f t = _; omega)
theorem there_inv (g : Nat → Int) (t : Nat) (ht : t < 256) : AlQ (nF (fun i => 3303 * iF g 7 i) 7 t) (g t) := by
  rw [nF_scale]
  have h := (AlQ.refl 3303).mul (nF_iF g 7 (by omega) t ht)
  refine AlQ.trans h ?_
  show AlQ (3303 * (2 ^ 7 * iF g 0 t)) (g t)
  exact al_of (127 * g t) (by show 3303 * (2 ^ 7 * g t) - g t = _; omega)
end Go.Proofs.YthjgmpfdjhegfasDoor

/- Products go through the layers: blocks of polynomials modulo X^n - c, halved. -/
namespace Go.Proofs.YthjgmpfdjhegfasDoor
open Go.RowKit
/-- Number t of the product of A and B modulo X^n - c. -/
def mulB (n : Nat) (c : Int) (A B : Nat → Int) (t : Nat) : Int := sumN (fun i => if i ≤ t then A i * B (t - i) else c * (A i * B (t + n - i))) n
theorem sumN_two (f : Nat → Int) (s : Nat) : sumN f (2 * s) = sumN (fun i => f i + f (i + s)) s := by
  rw [show 2 * s = s + s by omega, sumN_split, ← sumN_add]
  exact sumN_congr s fun i _ => by show f i + f (s + i) = f i + f (i + s); rw [Nat.add_comm s i]
theorem sumN_mul (f : Nat → Int) (c : Int) (n : Nat) : c * sumN f n = sumN (fun i => c * f i) n := by
  induction n with
  | zero => show c * 0 = 0; rw [Int.mul_zero]
  | succ n ih => show c * (sumN f n + f n) = sumN (fun i => c * f i) n + c * f n; rw [Int.mul_add, ih]
/-- The rest modulo X^s - z of a polynomial below X^2s. -/
def red (s : Nat) (z : Int) (A : Nat → Int) (r : Nat) : Int := A r + z * A (r + s)
theorem red_mulB (s : Nat) (z : Int) (A B : Nat → Int) (r : Nat) (hr : r < s) : red s z (mulB (2 * s) (z * z) A B) r = mulB s z (red s z A) (red s z B) r := by
  unfold red mulB
  rw [sumN_two, sumN_two, sumN_mul, ← sumN_add]
  refine sumN_congr s fun i hi => ?_
  show ((if i ≤ r then A i * B (r - i) else z * z * (A i * B (r + 2 * s - i))) + (if i + s ≤ r then A (i + s) * B (r - (i + s)) else z * z * (A (i + s) * B (r + 2 * s - (i + s))))) + z * ((if i ≤ r + s then A i * B (r + s - i) else z * z * (A i * B (r + s + 2 * s - i))) + (if i + s ≤ r + s then A (i + s) * B (r + s - (i + s)) else z * z * (A (i + s) * B (r + s + 2 * s - (i + s))))) = (if i ≤ r then (A i + z * A (i + s)) * (B (r - i) + z * B (r - i + s)) else z * ((A i + z * A (i + s)) * (B (r + s - i) + z * B (r + s - i + s))))
  rw [if_neg (show ¬ i + s ≤ r by omega), if_pos (show i ≤ r + s by omega), show r + 2 * s - (i + s) = r + s - i by omega]
  by_cases h : i ≤ r
  · rw [if_pos h, if_pos (show i + s ≤ r + s by omega), if_pos h, show r + s - (i + s) = r - i by omega, show r - i + s = r + s - i by omega]
    grind
  · rw [if_neg h, if_neg (show ¬ i + s ≤ r + s by omega), if_neg h, show r + s + 2 * s - (i + s) = r + 2 * s - i by omega, show r + s - i + s = r + 2 * s - i by omega]
    grind
theorem mulB_al {n : Nat} {c c' : Int} {A A' B B' : Nat → Int} (hc : AlQ c c') (hA : ∀ i, i < n → AlQ (A i) (A' i)) (hB : ∀ i, i < n → AlQ (B i) (B' i)) (t : Nat) (ht : t < n) : AlQ (mulB n c A B t) (mulB n c' A' B' t) := by
  refine sumN_al _ fun i hi => ?_
  by_cases h : i ≤ t
  · show AlQ (if i ≤ t then _ else _) (if i ≤ t then _ else _)
    rw [if_pos h, if_pos h]
    exact (hA i hi).mul (hB _ (by omega))
  · show AlQ (if i ≤ t then _ else _) (if i ≤ t then _ else _)
    rw [if_neg h, if_neg h]
    exact hc.mul ((hA i hi).mul (hB _ (by omega)))
/-- The block's number: what X^n is in it; block b of level i is number 2^i + b. -/
def gmN (k : Nat) : Int := if k = 1 then -1 else if k % 2 = 0 then zt (k / 2) else -(zt (k / 2))
/-- The products of all blocks of n numbers at a level whose first block has the number k0. -/
def lvl (n k0 : Nat) (f g : Nat → Int) (t : Nat) : Int := mulB n (gmN (k0 + t / n)) (fun r => f (t / n * n + r)) (fun r => g (t / n * n + r)) (t % n)
theorem gm_all : allN (fun k => (ztN (k + 1) * ztN (k + 1) + 3329 * 3329 - (if k + 1 = 1 then 3328 else if (k + 1) % 2 = 0 then ztN ((k + 1) / 2) else 3329 - ztN ((k + 1) / 2))) % 3329 == 0) 127 = true := by decide +kernel
theorem ztN_lt (k : Nat) : ztN k < 3329 := by unfold ztN; omega
theorem gm_sq (k : Nat) (h1 : 1 ≤ k) (h2 : k ≤ 127) : AlQ (gmN k) (zt k * zt k) := by
  obtain ⟨j, rfl⟩ : ∃ j, k = j + 1 := ⟨k - 1, by omega⟩
  have h := allN_at gm_all j (by omega)
  have h' : (ztN (j + 1) * ztN (j + 1) + 3329 * 3329 - (if j + 1 = 1 then 3328 else if (j + 1) % 2 = 0 then ztN ((j + 1) / 2) else 3329 - ztN ((j + 1) / 2))) % 3329 = 0 := by simpa using h
  have hl := ztN_lt ((j + 1) / 2)
  unfold gmN
  rw [zt_nat (j + 1), zt_nat ((j + 1) / 2), ← Int.natCast_mul]
  generalize ztN (j + 1) * ztN (j + 1) = p at *
  generalize ztN ((j + 1) / 2) = q at *
  unfold AlQ
  split
  · rename_i e; rw [if_pos e] at h'; omega
  · rename_i e
    rw [if_neg e] at h'
    split
    · rename_i e2; rw [if_pos e2] at h'; omega
    · rename_i e2; rw [if_neg e2] at h'; omega
theorem gm_child (k : Nat) (h : 1 ≤ k) : gmN (2 * k) = zt k ∧ gmN (2 * k + 1) = -(zt k) := by
  unfold gmN
  constructor
  · rw [if_neg (by omega), if_pos (by omega), show 2 * k / 2 = k by omega]
  · rw [if_neg (by omega), if_neg (by omega), show (2 * k + 1) / 2 = k by omega]
theorem lay_red_lo {s : Nat} (hs : Sz s) (zf f : Nat → Int) (b r : Nat) (hr : r < s) : lay s zf f (2 * b * s + r) = red s (zf b) (fun i => f (b * (2 * s) + i)) r := by
  unfold lay red
  have e : (2 * b * s + r) % (2 * s) = r ∧ (2 * b * s + r) / (2 * s) = b ∧ b * (2 * s) + r = 2 * b * s + r ∧ b * (2 * s) + (r + s) = 2 * b * s + r + s := by
    rcases hs with rfl | rfl | rfl | rfl | rfl | rfl | rfl <;> omega
  dsimp only
  rw [e.1, e.2.1, if_pos hr, e.2.2.1, e.2.2.2]
theorem lay_red_hi {s : Nat} (hs : Sz s) (zf f : Nat → Int) (b r : Nat) (hr : r < s) : lay s zf f ((2 * b + 1) * s + r) = red s (-(zf b)) (fun i => f (b * (2 * s) + i)) r := by
  unfold lay red
  have e : ¬ ((2 * b + 1) * s + r) % (2 * s) < s ∧ ((2 * b + 1) * s + r) / (2 * s) = b ∧ b * (2 * s) + r = (2 * b + 1) * s + r - s ∧ b * (2 * s) + (r + s) = (2 * b + 1) * s + r := by
    rcases hs with rfl | rfl | rfl | rfl | rfl | rfl | rfl <;> omega
  dsimp only
  rw [if_neg e.1, e.2.1, e.2.2.1, e.2.2.2]
  grind
/-- The products of a level, taken one layer on, are the products of the halves. -/
theorem lay_lvl {s k0 : Nat} (hs : Sz s) (hk : 1 ≤ k0) (zf f g : Nat → Int) (hz : ∀ b, b < 128 / s → zf b = zt (k0 + b) ∧ k0 + b ≤ 127) (t : Nat) (ht : t < 256) :
    AlQ (lay s zf (lvl (2 * s) k0 f g) t) (lvl s (2 * k0) (lay s zf f) (lay s zf g) t) := by
  have E : ∀ (b r : Nat), r < 2 * s → lvl (2 * s) k0 f g (b * (2 * s) + r) = mulB (2 * s) (gmN (k0 + b)) (fun i => f (b * (2 * s) + i)) (fun i => g (b * (2 * s) + i)) r := by
    intro b r hr
    unfold lvl
    have e : (b * (2 * s) + r) / (2 * s) = b ∧ (b * (2 * s) + r) % (2 * s) = r := by
      rcases hs with rfl | rfl | rfl | rfl | rfl | rfl | rfl <;> omega
    rw [e.1, e.2]
  obtain ⟨b, r, hr, hb, ht2⟩ : ∃ b r, r < s ∧ b < 128 / s ∧ (t = 2 * b * s + r ∨ t = (2 * b + 1) * s + r) := by
    rcases hs with rfl | rfl | rfl | rfl | rfl | rfl | rfl
    · exact ⟨t / 256, t % 128, by omega, by omega, by omega⟩
    · exact ⟨t / 128, t % 64, by omega, by omega, by omega⟩
    · exact ⟨t / 64, t % 32, by omega, by omega, by omega⟩
    · exact ⟨t / 32, t % 16, by omega, by omega, by omega⟩
    · exact ⟨t / 16, t % 8, by omega, by omega, by omega⟩
    · exact ⟨t / 8, t % 4, by omega, by omega, by omega⟩
    · exact ⟨t / 4, t % 2, by omega, by omega, by omega⟩
  obtain ⟨hz1, hz2⟩ := hz b hb
  have hsq := gm_sq (k0 + b) (by omega) hz2
  obtain ⟨gc1, gc2⟩ := gm_child (k0 + b) (by omega)
  have hs0 : 0 < s := by omega
  have Hmul : ∀ z : Int, AlQ (gmN (k0 + b)) (z * z) → AlQ (red s z (fun i => lvl (2 * s) k0 f g (b * (2 * s) + i)) r) (mulB s z (red s z (fun i => f (b * (2 * s) + i))) (red s z (fun i => g (b * (2 * s) + i))) r) := by
    intro z hz
    rw [← red_mulB s z _ _ r hr]
    unfold red
    dsimp only
    rw [E b r (by omega), E b (r + s) (by omega)]
    exact (mulB_al hz (fun i _ => AlQ.refl _) (fun i _ => AlQ.refl _) r (by omega)).add ((AlQ.refl _).mul (mulB_al hz (fun i _ => AlQ.refl _) (fun i _ => AlQ.refl _) (r + s) (by omega)))
  rcases ht2 with rfl | rfl
  · rw [lay_red_lo hs _ _ b r hr]
    have e : (2 * b * s + r) / s = 2 * b ∧ (2 * b * s + r) % s = r := by
      rcases hs with rfl | rfl | rfl | rfl | rfl | rfl | rfl <;> omega
    unfold lvl
    rw [e.1, e.2, show 2 * k0 + 2 * b = 2 * (k0 + b) by omega, gc1, hz1]
    refine AlQ.trans (Hmul (zt (k0 + b)) hsq) (mulB_al (AlQ.refl _) (fun i hi => ?_) (fun i hi => ?_) r hr)
    · rw [lay_red_lo hs _ _ b i hi, hz1]; exact AlQ.refl _
    · rw [lay_red_lo hs _ _ b i hi, hz1]; exact AlQ.refl _
  · rw [lay_red_hi hs _ _ b r hr]
    have e : ((2 * b + 1) * s + r) / s = 2 * b + 1 ∧ ((2 * b + 1) * s + r) % s = r := by
      rcases hs with rfl | rfl | rfl | rfl | rfl | rfl | rfl <;> omega
    unfold lvl
    rw [e.1, e.2, show 2 * k0 + (2 * b + 1) = 2 * (k0 + b) + 1 by omega, gc2, hz1]
    refine AlQ.trans (Hmul (-(zt (k0 + b))) (hsq.trans (al_of 0 (by grind)))) (mulB_al (AlQ.refl _) (fun i hi => ?_) (fun i hi => ?_) r hr)
    · rw [lay_red_hi hs _ _ b i hi, hz1]; exact AlQ.refl _
    · rw [lay_red_hi hs _ _ b i hi, hz1]; exact AlQ.refl _
theorem lvl_al {n k0 : Nat} (h0 : 0 < n) {f f' g g' : Nat → Int} (hn : 256 % n = 0) (hf : ∀ t, t < 256 → AlQ (f t) (f' t)) (hg : ∀ t, t < 256 → AlQ (g t) (g' t)) (t : Nat) (ht : t < 256) : AlQ (lvl n k0 f g t) (lvl n k0 f' g' t) := by
  have hb : ∀ i, i < n → t / n * n + i < 256 := by
    intro i hi
    have h1 : t / n < 256 / n := (Nat.div_lt_iff_lt_mul h0).2 (by rw [Nat.div_mul_cancel (Nat.dvd_of_mod_eq_zero hn)]; exact ht)
    have h2 : (t / n + 1) * n ≤ 256 / n * n := Nat.mul_le_mul_right n h1
    rw [Nat.div_mul_cancel (Nat.dvd_of_mod_eq_zero hn), Nat.add_mul, Nat.one_mul] at h2
    omega
  exact mulB_al (AlQ.refl _) (fun i hi => hf _ (hb i hi)) (fun i hi => hg _ (hb i hi)) _ (Nat.mod_lt _ h0)
theorem lvls (i : Nat) (h : i < 7) : 256 / 2 ^ i = 2 * sz i ∧ 256 / 2 ^ (i + 1) = sz i ∧ 128 / sz i = 2 ^ i ∧ 2 ^ i + 2 ^ i ≤ 128 := by
  match i, h with
  | 0, _ => decide
  | 1, _ => decide
  | 2, _ => decide
  | 3, _ => decide
  | 4, _ => decide
  | 5, _ => decide
  | 6, _ => decide
  | i + 7, h => exact absurd h (by omega)
theorem nF_lvl (f g : Nat → Int) (i : Nat) (hi : i ≤ 7) : ∀ t, t < 256 → AlQ (nF (lvl 256 1 f g) i t) (lvl (256 / 2 ^ i) (2 ^ i) (nF f i) (nF g i) t) := by
  induction i with
  | zero => exact fun t _ => AlQ.refl _
  | succ i ih =>
    intro t ht
    obtain ⟨e1, e2, e3, e4⟩ := lvls i (by omega)
    have hp : 0 < 2 ^ i := Nat.pow_pos (by omega)
    refine AlQ.trans (lay_al (sz_ok i (by omega)) (zN i) (ih (by omega)) t ht) ?_
    rw [e1, e2, show 2 ^ (i + 1) = 2 * 2 ^ i by rw [Nat.pow_succ]; omega]
    exact lay_lvl (sz_ok i (by omega)) hp (zN i) (nF f i) (nF g i) (fun b hb => ⟨rfl, by rw [e3] at hb; omega⟩) t ht
theorem lvl_top (f g : Nat → Int) (t : Nat) (ht : t < 256) : lvl 256 1 f g t = cfP f g t := by
  unfold lvl cfP mulB
  rw [show t / 256 = 0 by omega, show t % 256 = t by omega]
  refine sumN_congr _ fun i _ => ?_
  unfold tmC
  dsimp only
  by_cases h : i ≤ t
  · rw [if_pos h, if_pos h, show 0 * 256 + i = i by omega, show 0 * 256 + (t - i) = t - i by omega]
  · rw [if_neg h, if_neg h, show 0 * 256 + i = i by omega, show 0 * 256 + (t + 256 - i) = t + 256 - i by omega]
    show (-1) * _ = _
    grind
/-- The factor of pair i. -/
def gm (i : Nat) : Int := powM 17 (2 * t7 i + 1)
def mnF (F G : Nat → Int) (t : Nat) : Int := if t % 2 = 0 then F t * G t + F (t + 1) * G (t + 1) * gm (t / 2) else F (t - 1) * G t + F t * G (t - 1)
theorem gm7_all : allN (fun i => (17 ^ (2 * t7 i + 1) + 3329 - (if i % 2 = 0 then ztN (64 + i / 2) else 3329 - ztN (64 + i / 2))) % 3329 == 0) 128 = true := by decide +kernel
theorem gm7 (i : Nat) (h : i < 128) : AlQ (gmN (128 + i)) (gm i) := by
  have h1 := allN_at gm7_all i h
  have h2 : (17 ^ (2 * t7 i + 1) + 3329 - (if i % 2 = 0 then ztN (64 + i / 2) else 3329 - ztN (64 + i / 2))) % 3329 = 0 := by simpa using h1
  have hl := ztN_lt (64 + i / 2)
  have hp : 0 < 17 ^ (2 * t7 i + 1) := Nat.pow_pos (by omega)
  unfold gmN gm powM
  rw [show (17 : Int) ^ (2 * t7 i + 1) = ((17 ^ (2 * t7 i + 1) : Nat) : Int) by rw [Int.natCast_pow]; rfl, zt_nat, show (128 + i) / 2 = 64 + i / 2 by omega]
  generalize 17 ^ (2 * t7 i + 1) = X at *
  generalize ztN (64 + i / 2) = q at *
  unfold AlQ
  rw [if_neg (by omega)]
  by_cases e : i % 2 = 0
  · rw [if_pos (by omega)]; rw [if_pos e] at h2; omega
  · rw [if_neg (by omega)]; rw [if_neg e] at h2; omega
theorem lvl_end (F G : Nat → Int) (t : Nat) (ht : t < 256) : AlQ (lvl 2 128 F G t) (mnF F G t) := by
  have hg := gm7 (t / 2) (by omega)
  unfold lvl mnF mulB
  dsimp only [sumN]
  generalize gmN (128 + t / 2) = c at *
  by_cases h : t % 2 = 0
  · rw [h, if_pos (by omega), if_neg (by omega), if_pos rfl, show t / 2 * 2 + 0 = t by omega, show t / 2 * 2 + 1 = t + 1 by omega]
    obtain ⟨m, hm⟩ := al_to hg
    exact al_of (m * (F (t + 1) * G (t + 1))) (by grind)
  · have h' : t % 2 = 1 := by omega
    rw [h', if_pos (by omega), if_pos (by omega), if_neg (by omega), show t / 2 * 2 + 0 = t - 1 by omega, show t / 2 * 2 + (1 - 0) = t by omega]
    first | rw [show t / 2 * 2 + 1 = t by omega] | skip
    first | rw [show t / 2 * 2 + (1 - 1) = t - 1 by omega] | skip
    exact al_of 0 (by grind)
/-- The transform of a product is the product of the transforms, pair by pair. -/
theorem nF_mul (f g : Nat → Int) (t : Nat) (ht : t < 256) : AlQ (nF (cfP f g) 7 t) (mnF (nF f 7) (nF g 7) t) := by
  refine AlQ.trans (nF_al (fun u hu => by rw [← lvl_top f g u hu]; exact AlQ.refl _) 7 (by omega) t ht) ?_
  exact AlQ.trans (nF_lvl f g 7 (by omega) t ht) (lvl_end _ _ t ht)
end Go.Proofs.YthjgmpfdjhegfasDoor

