/- Chains by the given model: signatures for once, what is found, over the loaded program. -/
import Derived.Test.YtljjajbkaffofauChn3
namespace Go.Proofs.Ytljjajbkaffofau
open Go.RowKit
theorem step_append_u {P : Program} {w W : World} {ops : Array Oper} {o : Oper} {a : Act} {K : Act → World → Prop} {Q : Exit → Act → World → Prop} {E : Prop} {e : TypeId} {u : Value} (h1 : u.oneCell' = true) (hW : W = w.alloc (.cells #[u] e)) (hg : o.guard = none) (s y : Operand) (t : TypeId)
    (ho : o.op = .call { callee := .builtin .append, args := #[s, y], argTypes := #[t, t] })
    (base B : Nat) (i : TypeInfo) (z : Value) (nb : Nat) (ht : P.underlying t = some (.slice e)) (hi : P.info? e = some i) (hz : i.zero = some z) (hsize : i.size = 1) (hby : i.bytes = nb) (hzs : z.cells.size = 1)
    (v : Value) (xs : List Value) (hs : a.eval s = v) (hown : OwnV w base e v xs)
    (hx : a.eval y = .slice (some ⟨w.heap.size, 0, none⟩) 1 1)
    (h63 : xs.length + 1 ≤ maxLen) (hbytes : (xs.length + 1) * nb ≤ 140737488355328) (hB : B ≤ base) (hbase : base ≤ w.heap.size) {w00 : World} (hbel : Below B w00 w)
    (h : ∀ v' w', OwnV w' base e v' (xs ++ [u]) → Below B w00 w' → K (a.put o.dst v') w') :
    if Region.wanted o (yielded ops a.tmps) = true then Oper.wp P o a W K Q else E := by
  subst hW
  have hw : Region.wanted o (yielded ops a.tmps) = true := by simp [Region.wanted, hg]
  rw [if_pos hw]
  exact wp_append_vals s y t ho base B e i z nb ht hi hz hsize hby hzs v xs hs (hown.alloc _) w.heap.size #[u] (heap_alloc_new w _) [u] rfl (by intro y hy; simp only [List.mem_singleton] at hy; subst hy; exact h1) 1 1 rfl hx h63 hbytes hB (by simp; omega) (hbel.alloc (by omega) _) h
theorem step_append_gu {P : Program} {w W : World} {ops : Array Oper} {o : Oper} {a : Act} {K : Act → World → Prop} {Q : Exit → Act → World → Prop} {E : Prop} {e : TypeId} {u : Value} (h1 : u.oneCell' = true) (hW : W = w.alloc (.cells #[u] e)) (hg : o.guard = none) (s y : Operand) (t : TypeId)
    (ho : o.op = .call { callee := .builtin .append, args := #[s, y], argTypes := #[t, t] })
    (base : Nat) (i : TypeInfo) (z : Value) (nb : Nat) (ht : P.underlying t = some (.slice e)) (hi : P.info? e = some i) (hz : i.zero = some z) (hsize : i.size = 1) (hby : i.bytes = nb) (hzs : z.cells.size = 1)
    (v : Value) (xs : List Value) (hs : a.eval s = v) (hown : OwnV w base e v xs)
    (hx : a.eval y = .slice (some ⟨w.heap.size, 0, none⟩) 1 1)
    (h63 : xs.length + 1 ≤ maxLen) (hbytes : (xs.length + 1) * nb ≤ 140737488355328) (hbase : base ≤ w.heap.size)
    (h : ∀ v' w', OwnV w' base e v' (xs ++ [u]) → (w.alloc (.cells #[u] e)).grownBy w' v.ownBlock → K (a.put o.dst v') w') :
    if Region.wanted o (yielded ops a.tmps) = true then Oper.wp P o a W K Q else E := by
  subst hW
  have hw : Region.wanted o (yielded ops a.tmps) = true := by simp [Region.wanted, hg]
  rw [if_pos hw]
  refine wp_append_own (w.alloc (.cells #[u] e)) s y t ho base e i z 1 nb ht hi hz hsize hby hzs (by decide) v xs.length xs hs (hown.alloc _) ⟨w.heap.size, 0, none⟩ 1 1 [u] hx rfl (fun j q hq => ?_) (by intro q hq; simp only [List.mem_singleton] at hq; subst hq; exact h1) h63 hbytes (by simp; omega) ?_
  · have hadd : (⟨w.heap.size, 0, none⟩ : Addr).add j = ⟨w.heap.size, j, none⟩ := by unfold Addr.add; split <;> simp_all
    rw [hadd, cell_of_row _ w.heap.size j _ e (0, 0) (heap_alloc_new w _)]
    simpa using hq
  · intro v' w' h2 h3 _
    exact h v' w' (by unfold OwnV; simpa using h2) h3
theorem digL_get (m : ByteArray) (i : Nat) (h : i < 10) : ((digL m).map iv)[i]? = some (.int .i64 (dgAt m i : Int)) := by
  rw [List.getElem?_map, digL_at m i h]
  rfl
theorem steps_dg (m : ByteArray) (i : Nat) : stepsN (dgAt m i : Int) = dgAt m i ∧ stepsN ((15 - dgAt m i : Nat) : Int) = 15 - dgAt m i := by
  have h := dgAt_le m i
  unfold stepsN
  constructor
  · rw [if_pos (by omega), Int.toNat_natCast]
  · rw [if_pos (by omega), Int.toNat_natCast]
set_option maxRecDepth 20000 in
set_option maxHeartbeats 1000000 in
theorem specOnceSign_any (l : List ByteArray) (leaf : Int) (m : ByteArray) (v : Value) (w : World) (hr : RdV w v (l.map sv)) (hl : ∀ x ∈ l, x.size ≤ 1048576) (hm : m.size ≤ 1048576) :
    Calls Try.prog 14 #[v, .int .i64 leaf, .string m] w fun e w' => (∃ v', e = .returned v' ∧ OwnV w' w.heap.size 9 v' ((onceS l leaf m).map sv)) ∧ Below w.heap.size w w' := by
  obtain ⟨i0, hi, hz0, hz1, hz2⟩ := info_parts infoTxt
  obtain ⟨a, c, rfl, hc⟩ := hr.open
  rw [List.length_map]
  clear hr
  by_cases h10 : l.length = 10
  · have ES := hide (show onceS l leaf m = preS (fun i => chnB (bAt l i) leaf (i : Int) 0 (dgAt m i)) 10 by unfold onceS; rw [if_pos h10]; rfl)
    rw [unhide ES]
    have CH := hide (fun (i : Nat) (hi : i < 10) W => specChain_any (bAt l i) leaf (i : Int) 0 (dgAt m i : Int) (bAt_size l i _ (by omega) hl) W)
    obtain ⟨f, hf⟩ : ∃ f : Nat → ByteArray, f = fun i => chnB (bAt l i) leaf (i : Int) 0 (dgAt m i) := ⟨_, rfl⟩
    have CH2 := hide (show ∀ (i : Nat), i < 10 → ∀ W, Calls Try.prog 26 #[.string (bAt l i), .int .i64 leaf, .int .i64 (i : Int), .int .i64 0, .int .i64 (dgAt m i : Int)] W fun e w' => e = .returned (.string (f i)) ∧ Below W.heap.size W w' from fun i hi W => by rw [hf]; have h := unhide CH i hi W; rw [(steps_dg m i).1] at h; exact h)
    rw [← hf]
    have CD := hide (fun W => specDigits_any m (by omega) W)
    have DG := hide (fun k (h : k < 10) => digL_get m k h)
    have dl := digL_len m
    generalize digL m = D at *
    rw [h10]
    replace h10 := hide h10; replace hf := hide hf; replace dl := hide dl
    clear CH ES
    have hb0 := (Below.refl w.heap.size w).alloc (Nat.le_refl _) (.cells #[] 9)
    have ho0 : OwnV (w.alloc (.cells #[] 9)) w.heap.size 9 (.slice (some ⟨w.heap.size, 0, none⟩) 0 0) ((preS f 0).map sv) := World.ownsRow_made w #[] 0 (Nat.le_refl _) (by decide) (by simp)
    replace ho0 := hide ho0
    go_enter Try.func14, Try.ntmps14
    go_wp2_with fail
    generalize w.alloc (.cells #[] 9) = w0 at *
    refine (unhide CD w0).mono ?_
    rintro e w1 ⟨⟨vd, rfl, od⟩, hbd⟩
    have ho1 := hide ((unhide ho0).below hbd)
    have hB1 := hb0.trans (hbd.mono hb0.size)
    obtain ⟨ad, cd, rfl⟩ := od.shape
    have hdl : (D.map iv).length = 10 := by rw [List.length_map]; exact unhide dl
    rw [hdl] at od ⊢
    obtain ⟨gd, rfl, hgd1, hgd2⟩ : ∃ g, ad = some ⟨g, 0, none⟩ ∧ w0.heap.size ≤ g ∧ g < w1.heap.size := by
      rcases od.2 with ⟨h1, _⟩ | ⟨g, cap, cur, h1, hbb, hgr, _⟩
      · simp only [Value.slice.injEq] at h1; omega
      · simp only [Value.slice.injEq] at h1
        exact ⟨g, h1.1, hbb, (Array.getElem?_eq_some_iff.1 hgr).1⟩
    have KS := hide (fun (k : Nat) (hk : k < 10) (W : World) (h : Below w.heap.size w W) (hd : OwnV W w0.heap.size 3 (.slice (some ⟨gd, 0, none⟩) 10 cd) (D.map iv)) => (show ∃ g o, a = some ⟨g, o, none⟩ ∧ W.cell? ⟨g, o + k, none⟩ = some (.string (bAt l k)) ∧ W.cell? ⟨gd, k, none⟩ = some (.int .i64 (dgAt m k : Int)) from by
      obtain ⟨g, o, e1, e2, e3⟩ := hc k _ (bAt_get l k (by rw [unhide h10]; exact hk))
      exact ⟨g, o, e1, (h.cell (p := ⟨g, o + k, none⟩) e2).trans e3, hd.cell (unhide DG k hk)⟩))
    have HD := hide od
    clear od hbd ho0 hb0 CD hdl hc DG
    go_wp2
    go_loopw [7, 9] (fun tv ti wr => ∃ k : Nat, k ≤ 10 ∧ ti = .int .i64 (k : Int) ∧ Hid (OwnV wr w.heap.size 9 tv ((preS f k).map sv)) ∧ Hid (OwnV wr w0.heap.size 3 (.slice (some ⟨gd, 0, none⟩) 10 cd) (D.map iv)) ∧ Below w.heap.size w wr) (fun _ ti _ => 10 - (intOf ti).toNat)
    case atStart => exact ⟨0, by omega, rfl, ho1, HD, hB1⟩
    case round =>
      clear ho1 HD hB1
      obtain ⟨k, hk, rfl, HO, HD, hB⟩ := hrel
      have hsz := hB.size
      by_cases hlt : k < 10
      · have hk' : (k : Int) < 10 := by omega
        have hk0 : (0 : Int) ≤ (k : Int) := by omega
        obtain ⟨g, o, rfl, d1, d2⟩ := unhide KS k hlt wr hB (unhide HD)
        have KS2 := hide (fun (W : World) (h : Below w.heap.size w W) (hd : OwnV W w0.heap.size 3 (.slice (some ⟨gd, 0, none⟩) 10 cd) (D.map iv)) => (show W.cell? ⟨g, o + k, none⟩ = some (.string (bAt l k)) ∧ W.cell? ⟨gd, k, none⟩ = some (.int .i64 (dgAt m k : Int)) from by
          obtain ⟨g', o', e1, e2, e3⟩ := unhide KS k hlt W h hd
          cases e1
          exact ⟨e2, e3⟩))
        have c1 := hide (unhide CH2 k hlt)
        have HP := hide (preS_succ f k)
        have hl1 : ((preS f k).map sv).length + 1 ≤ maxLen := by rw [List.length_map, preS_len]; unfold maxLen; omega
        have hl2 : (((preS f k).map sv).length + 1) * 16 ≤ 140737488355328 := by rw [List.length_map, preS_len]; omega
        generalize bAt l k = x at *
        generalize (dgAt m k : Int) = dz at *
        generalize f k = y at *
        have hap := hide (fun (W : World) (q : OwnV W w.heap.size 9 u7 ((preS f k).map sv)) (hd : OwnV W w0.heap.size 3 (.slice (some ⟨gd, 0, none⟩) 10 cd) (D.map iv)) n hn => hd.apart q (by decide) n hn)
        replace hl1 := hide hl1; replace hl2 := hide hl2
        clear KS CH2
        go_wp2
        go_region_held3 (fun W => W.cell? ⟨g, o + k, none⟩ = some (.string x) ∧ W.cell? ⟨gd, k, none⟩ = some (.int .i64 dz)) (first | exact ⟨d1, d2⟩ | exact (unhide KS2) _ hB5 hD5 | exact (unhide KS2) _ hB4 hD4 | exact (unhide KS2) _ (hB4.alloc hB4.size _) (hD4.alloc _) | fail) (first
          | (refine step_append_gu (w := w4) (u := .string y) rfl rfl rfl (.tmp 21) (.tmp 33) 22 rfl w.heap.size i0 (.string ⟨#[]⟩) 16 Try.underlying22 hi hz0 hz1 hz2 rfl _ _ rfl (by exact hO4) rfl (unhide hl1) (unhide hl2) (by exact hB4.size) ?_; intro v' w5 hown5 hg5; have hD5 := (hD4.alloc _).grown hg5 (fun n hn => unhide hap _ hO4 hD4 n hn); have hB5 := (hB4.alloc hB4.size (.cells #[.string y] 9)).grown hg5 (by simp; have := hB4.size; omega) (fun n hn => (hO4.lt n hn).1))
          | (go_at_call 26; refine (unhide c1 _).mono ?_; rintro e w4 ⟨rfl, hb4⟩; have hO4 := OwnV.below (w := wr.drew) (unhide HO) hb4; have hD4 := OwnV.below (w := wr.drew) (unhide HD) hb4; have hB4 := (hB.drew).trans (hb4.mono hB.size)))
        all_goals
          have hown6 := hide (show OwnV w5 w.heap.size 9 v' ((preS f (k + 1)).map sv) by rw [unhide HP, List.map_append]; exact hown5)
          have hD6 := hide hD5
          clear hown5 hD5 hO4 hD4 hg5 d1 d2 KS2 HO HD hap
          go_wp2
          exact ⟨⟨k + 1, by omega, by go_num, hown6, hD6, hB5⟩, by simp [intOf]; omega⟩
      · have hk' : ¬ (k : Int) < 10 := by omega
        obtain rfl : k = 10 := by omega
        go_wp2
        go_ret
        exact ⟨⟨_, rfl, unhide HO⟩, hB⟩
  · have ES := hide (show onceS l leaf m = [] by unfold onceS; rw [if_neg h10])
    rw [unhide ES]
    have h10' : ¬ (l.length : Int) = 10 := by omega
    clear hc
    go_enter Try.func14, Try.ntmps14
    go_wp2
    go_ret
    exact ⟨⟨_, rfl, World.ownsRow_made w #[] 0 (Nat.le_refl _) (by decide) (by simp)⟩, (Below.refl _ _).alloc (Nat.le_refl _) _⟩
theorem chn_le (x : ByteArray) (leaf chain frm : Int) (k : Nat) : (chnB x leaf chain frm k).size ≤ 4 + x.size := by
  cases k with
  | zero => show x.size ≤ _; omega
  | succ k => show (chopB _).size ≤ _; rw [chopB_size]; omega
theorem catC_sum (l : List ByteArray) (f : Nat → ByteArray) (h : ∀ i, (f i).size ≤ 4 + (bAt l i).size) (k : Nat) (hk : k ≤ l.length) : (catC f k).size ≤ 4 * k + sumS (l.take k) := by
  induction k with
  | zero => exact Nat.zero_le _
  | succ k ih =>
    have h1 := ih (by omega)
    have h2 := h k
    have h3 := sumS_take l k (by omega)
    have h4 : bAt l k = l[k]'(by omega) := by
      unfold bAt
      rw [List.getD_eq_getElem?_getD, List.getElem?_eq_getElem (show k < l.length by omega)]
      rfl
    rw [h4] at h2
    show (catC f k ++ f k).size ≤ _
    rw [ByteArray.size_append]
    omega
theorem sumS_le (l : List ByteArray) (n : Nat) (h : sumS l ≤ n) : ∀ x ∈ l, x.size ≤ n := by
  intro x hx
  obtain ⟨k, hk, rfl⟩ := List.mem_iff_getElem.1 hx
  exact Nat.le_trans (sumS_at l k hk) h
set_option maxRecDepth 20000 in
set_option maxHeartbeats 1000000 in
theorem specOnceFound_any (l : List ByteArray) (leaf : Int) (m : ByteArray) (v : Value) (w : World) (hr : RdV w v (l.map sv)) (hl : sumS l ≤ 1048576) (hm : m.size ≤ 1048576) :
    Calls Try.prog 18 #[v, .int .i64 leaf, .string m] w fun e w' => e = .returned (.string (onceF l leaf m)) ∧ Below w.heap.size w w' := by
  obtain ⟨a, c, rfl, hc⟩ := hr.open
  rw [List.length_map]
  clear hr
  by_cases h10 : l.length = 10
  · have EP := hide (show onceF l leaf m = chopB (catC (fun i => chnB (bAt l i) leaf (i : Int) (dgAt m i : Int) (15 - dgAt m i)) 10) by unfold onceF; rw [if_pos h10])
    rw [unhide EP]
    have hl2 := sumS_le l _ hl
    obtain ⟨f, hf⟩ : ∃ f : Nat → ByteArray, f = fun i => chnB (bAt l i) leaf (i : Int) (dgAt m i : Int) (15 - dgAt m i) := ⟨_, rfl⟩
    have CH2 := hide (show ∀ (i : Nat), i < 10 → ∀ W, Calls Try.prog 26 #[.string (bAt l i), .int .i64 leaf, .int .i64 (i : Int), .int .i64 (dgAt m i : Int), .int .i64 ((15 - dgAt m i : Nat) : Int)] W fun e w' => e = .returned (.string (f i)) ∧ Below W.heap.size W w' from fun i hi W => by rw [hf]; have h := specChain_any (bAt l i) leaf (i : Int) (dgAt m i : Int) ((15 - dgAt m i : Nat) : Int) (bAt_size l i _ (by omega) hl2) W; rw [(steps_dg m i).2] at h; exact h)
    have hfs : ∀ i, (f i).size ≤ 4 + (bAt l i).size := fun i => by rw [hf]; exact chn_le _ _ _ _ _
    have hcl := hide (show ∀ k, k ≤ 10 → (catC f k).size ≤ 1048616 from fun k hk => by
      have h1 := catC_sum l f hfs k (by omega)
      have h2 : sumS (l.take k) ≤ sumS l := by
        have : ∀ (q : List ByteArray) (j : Nat), sumS (q.take j) ≤ sumS q := fun q => by
          induction q with
          | nil => intro j; rw [List.take_nil]; exact Nat.le_refl _
          | cons x xs ih =>
            intro j
            cases j with
            | zero => exact Nat.zero_le _
            | succ j => have := ih j; show x.size + sumS (xs.take j) ≤ x.size + sumS xs; omega
        exact this l k
      omega)
    have hfz := hide (show ∀ i, i < 10 → (f i).size ≤ 1048580 from fun i hi => by have h1 := hfs i; have h2 := bAt_size l i _ (by omega) hl2; omega)
    rw [← hf]
    have CC := hide (fun W => specChop_any (catC f 10) (by have := unhide hcl 10 (by omega); omega) W)
    have Hs := hide (show ∀ k, catC f (k + 1) = catC f k ++ f k from fun k => rfl)
    have H0 := hide (show catC f 0 = ⟨#[]⟩ from rfl)
    generalize chopB (catC f 10) = R at *
    generalize catC f = cat at *
    have CD := hide (fun W => specDigits_any m (by omega) W)
    have DG := hide (fun k (h : k < 10) => digL_get m k h)
    have DL := hide (fun k => dgAt_le m k)
    have dl := digL_len m
    generalize digL m = D at *
    rw [h10]
    replace h10 := hide h10; replace hf := hide hf; replace dl := hide dl
    clear EP hfs
    go_enter Try.func18, Try.ntmps18
    go_wp2_with fail
    refine (unhide CD w).mono ?_
    rintro e w1 ⟨⟨vd, rfl, od⟩, hbd⟩
    obtain ⟨ad, cd, rfl, hcd⟩ := od.rdv.open
    have hdl : (D.map iv).length = 10 := by rw [List.length_map]; exact unhide dl
    rw [hdl]
    have KS := hide (fun (k : Nat) (hk : k < 10) (W : World) (h : Below w1.heap.size w1 W) => (show ∃ g o g' o', a = some ⟨g, o, none⟩ ∧ ad = some ⟨g', o', none⟩ ∧ W.cell? ⟨g, o + k, none⟩ = some (.string (bAt l k)) ∧ W.cell? ⟨g', o' + k, none⟩ = some (.int .i64 (dgAt m k : Int)) from by
      obtain ⟨g, o, e1, e2, e3⟩ := hc k _ (bAt_get l k (by rw [unhide h10]; exact hk))
      obtain ⟨g', o', i1, i2, i3⟩ := hcd k _ (unhide DG k hk)
      have hT : Below w.heap.size w W := hbd.trans (h.mono hbd.size)
      exact ⟨g, o, g', o', e1, i1, (hT.cell (p := ⟨g, o + k, none⟩) e2).trans e3, (h.cell (p := ⟨g', o' + k, none⟩) i2).trans i3⟩))
    clear od CD hdl hc DG hcd
    go_wp2
    go_loopw [8, 9] (fun tx ti wr => ∃ k : Nat, k ≤ 10 ∧ ti = .int .i64 (k : Int) ∧ tx = .string (cat k) ∧ Below w1.heap.size w1 wr) (fun _ ti _ => 10 - (intOf ti).toNat)
    case atStart => exact ⟨0, by omega, rfl, by rw [unhide H0], Below.refl _ _⟩
    case round =>
      obtain ⟨k, hk, rfl, rfl, hB⟩ := hrel
      have hsz := hB.size
      by_cases hlt : k < 10
      · have hk' : (k : Int) < 10 := by omega
        have hk0 : (0 : Int) ≤ (k : Int) := by omega
        obtain ⟨g, o, g', o', rfl, rfl, d1, d2⟩ := unhide KS k hlt wr hB
        have KS2 := hide (fun (W : World) (h : Below w1.heap.size w1 W) => (show W.cell? ⟨g, o + k, none⟩ = some (.string (bAt l k)) ∧ W.cell? ⟨g', o' + k, none⟩ = some (.int .i64 (dgAt m k : Int)) from by
          obtain ⟨_, _, _, _, e1, e2, e3, e4⟩ := unhide KS k hlt W h
          cases e1
          cases e2
          exact ⟨e3, e4⟩))
        have c1 := hide (unhide CH2 k hlt)
        have HC := hide (unhide Hs k)
        have z1 := unhide hcl k hk
        have z2 := unhide hfz k hlt
        have dle := unhide DL k
        generalize bAt l k = x at *
        obtain ⟨dz, hdz⟩ : ∃ z, z = dgAt m k := ⟨_, rfl⟩
        rw [← hdz] at d2 KS2 c1 dle
        obtain ⟨dy, hdy⟩ : ∃ z, z = 15 - dz := ⟨_, rfl⟩
        rw [← hdy] at c1
        have q1 : IntKind.i64.wrap (15 - (dz : Int)) = (dy : Int) := by rw [IntKind.wrap_i64]; omega
        generalize f k = y at *
        have hadd : ¬ 9223372036854775807 < (cat k).size + y.size := by omega
        have hadd2 : (cat k).size + y.size ≤ 9223372036854775807 := by omega
        replace hdz := hide hdz; replace hdy := hide hdy
        clear KS CH2
        go_wp2
        go_region_held3 (fun W => W.cell? ⟨g, o + k, none⟩ = some (.string x) ∧ W.cell? ⟨g', o' + k, none⟩ = some (.int .i64 (dz : Int))) (first | exact ⟨d1, d2⟩ | exact (unhide KS2) _ hB4 | fail) (first
          | (go_at_call 26; refine (unhide c1 _).mono ?_; rintro e w4 ⟨rfl, hb4⟩; have hB4 := (hB.drew).trans (hb4.mono hB.size)))
        all_goals
          clear d1 d2 KS2
          go_wp2
          exact ⟨⟨k + 1, by omega, by go_num, by rw [unhide HC], hB4⟩, by simp [intOf]; omega⟩
      · have hk' : ¬ (k : Int) < 10 := by omega
        obtain rfl : k = 10 := by omega
        clear KS
        go_wp2_with fail
        refine (unhide CC wr).mono ?_
        rintro e w5 ⟨rfl, hb5⟩
        have hB5 := hbd.trans ((hB.trans (hb5.mono hB.size)).mono hbd.size)
        clear hb5 hB CC
        go_wp2
        go_ret
        exact ⟨rfl, hB5⟩
  · have EP := hide (show onceF l leaf m = ⟨#[]⟩ by unfold onceF; rw [if_neg h10])
    rw [unhide EP]
    have h10' : ¬ (l.length : Int) = 10 := by omega
    clear hc
    go_enter Try.func18, Try.ntmps18
    go_wp2
    go_ret
    exact ⟨rfl, Below.refl _ _⟩
end Go.Proofs.Ytljjajbkaffofau
