/- Ntt by the given model, over the loaded program. -/
import Derived.Test.YtdannnkdapbefaqNtp3
namespace Go.Proofs.Ytdannnkdapbefaq
open Go.RowKit
theorem wpList_copy9 {P : Program} {w : World} {ops : Array Oper} {rest : List Oper} {o : Oper} {a : Act} {Q : Exit → Act → World → Prop} (hgd : o.guard = none) (s x : Operand) (t : TypeId)
    (ho : o.op = .call { callee := .builtin .append, args := #[s, x], argTypes := #[t, t] })
    (e : TypeId) (i : TypeInfo) (z : Value) (nb : Nat) (ht : P.underlying t = some (.slice e)) (hi : P.info? e = some i) (hz : i.zero = some z) (hsize : i.size = 1) (hby : i.bytes = nb) (hzs : z.cells.size = 1)
    (hs : a.eval s = .slice (some ⟨w.heap.size, 0, none⟩) 0 0) (g off n c : Nat) (news : List Value) (hx : a.eval x = .slice (some ⟨g, off, none⟩) n c) (hg : g < w.heap.size) (hc : ∀ j u, news[j]? = some u → w.cell? ⟨g, off + j, none⟩ = some u) (hn : news.length = n) (h1 : ∀ u ∈ news, u.oneCell' = true)
    (h63 : n ≤ maxLen) (hbytes : n * nb ≤ 140737488355328)
    (h : ∀ v' w', OwnV w' w.heap.size e v' news → Below w.heap.size w w' → wpList P ops Q rest (a.put o.dst v') w') :
    wpList P ops Q (o :: rest) a (w.alloc (.cells #[] e)) := by
  have hE : (w.alloc (.cells #[] e)).ownsRow w.heap.size e 1 (.slice (some ⟨w.heap.size, 0, none⟩) 0 0) 0 [] := World.ownsRow_made w #[] 0 (Nat.le_refl _) (by decide) (by simp)
  have hb0 : Below w.heap.size w (w.alloc (.cells #[] e)) := (Below.refl w.heap.size w).alloc (Nat.le_refl _) _
  refine wpList_append_own (w.alloc (.cells #[] e)) hgd s x t ho w.heap.size e i z 1 nb ht hi hz hsize hby hzs (by decide) _ 0 [] hs hE ⟨g, off, none⟩ n c news hx (by rw [hn, Nat.mul_one]) (fun j u hu => ?_) h1 (by omega) (by rw [Nat.zero_add]; exact hbytes) (by simp) ?_
  · have hadd : (⟨g, off, none⟩ : Addr).add j = ⟨g, off + j, none⟩ := by unfold Addr.add; split <;> simp_all
    rw [hadd, hb0.cell (p := ⟨g, off + j, none⟩) hg]
    exact hc j u hu
  intro v' w' h2 h3 _
  refine h v' w' (by unfold OwnV; rw [hn]; simpa using h2) ?_
  exact hb0.grown h3 (by simp) (fun k hk => by simp [Value.ownBlock] at hk; omega)
theorem one_iv (l : List Int) : ∀ u ∈ l.map iv, u.oneCell' = true := by
  intro u hu
  obtain ⟨x, _, rfl⟩ := List.mem_map.1 hu
  rfl
theorem sz_facts (i : Nat) (h : i < 7) : 2 ≤ sz i ∧ sz i ≤ 128 ∧ sz (i + 1) = sz i / 2 ∧ sz (i + 1) < sz i ∧ 2 ^ (i + 1) = 2 ^ i + 2 ^ i ∧ 2 ^ i ≤ 64 ∧ 1 ≤ 2 ^ i ∧ 128 / sz i = 2 ^ i := by
  match i, h with
  | 0, _ => decide
  | 1, _ => decide
  | 2, _ => decide
  | 3, _ => decide
  | 4, _ => decide
  | 5, _ => decide
  | 6, _ => decide
  | i + 7, h => exact absurd h (by omega)
theorem blk_facts {s : Nat} (hs : Sz s) (b : Nat) : (2 * b * s < 256 ↔ b < 128 / s) ∧ 2 * (b + 1) * s = 2 * b * s + 2 * s ∧ (b < 128 / s → 2 * b * s + 2 * s ≤ 256) ∧ (b ≤ 128 / s → 2 * b * s ≤ 256) := by
  rcases hs with rfl | rfl | rfl | rfl | rfl | rfl | rfl <;> omega
set_option maxRecDepth 20000 in
set_option maxHeartbeats 1000000 in
theorem specNtt_any (l : List Int) (va : Value) (w : World) (ra : RdV w va (l.map iv)) :
    Calls Try.prog 11 #[va] w fun e w' => (∃ v, e = .returned v ∧ OwnV w' w.heap.size 3 v ((nttL l).map iv)) ∧ Below w.heap.size w w' := by
  obtain ⟨i0, hi, hz0, hz1, hz2⟩ := info_parts infoInt
  have CA := hide (specPolyOk_any l va w ra)
  by_cases ha : okPl l = true
  · rw [ha] at CA
    have la := (okPl_yes ha).1
    have EF := hide (nttL_is ha)
    have HOK := hide (fun i => nL_ok ha i)
    obtain ⟨a1, c1, rfl, hc1⟩ := ra.open
    rw [List.length_map, la] at CA ⊢
    obtain ⟨g1, o1, rfl, hg1, _⟩ := hc1 0 _ (get_iv l 0 (by omega))
    have hcc := hide (show ∀ j u, (l.map iv)[j]? = some u → w.cell? ⟨g1, o1 + j, none⟩ = some u from fun j u hu => by
      obtain ⟨g', o', he, _, hd⟩ := hc1 j u hu
      cases he
      exact hd)
    clear ra hc1
    go_enter Try.func11, Try.ntmps11
    go_wp2_with fail
    refine (unhide CA).mono ?_
    rintro e w1 ⟨rfl, hw1⟩
    have hw2 := hw1.symm
    subst hw2
    clear hw1 CA
    go_wp2_with (at_builtin; refine wpList_copy9 rfl (.tmp 14) (.tmp 15) 22 rfl 3 i0 (.int .i64 0) 8 Try.underlying22 hi hz0 hz1 hz2 rfl rfl g1 o1 256 c1 (l.map iv) rfl hg1 (unhide hcc) (by rw [List.length_map]; exact la) (one_iv l) (by decide) (by decide) ?_; intro v1 w1 hO1 hb1)
    obtain ⟨av, cv, hav⟩ := hO1.shape
    rw [List.length_map, la] at hav
    subst hav
    obtain ⟨gg, hgg⟩ : ∃ g, av = some ⟨g, 0, none⟩ ∧ w.heap.size ≤ g := by
      rcases hO1.2 with ⟨h1, _⟩ | ⟨g, cap, cur, h1, hbb, _⟩
      · simp only [Value.slice.injEq] at h1; omega
      · simp only [Value.slice.injEq] at h1
        exact ⟨g, h1.1, hbb⟩
    obtain ⟨rfl, hgb⟩ := hgg
    have hO1' := hide (show OwnV w1 w.heap.size 3 (.slice (some ⟨gg, 0, none⟩) 256 cv) ((nL l 0).map iv) from hO1)
    clear hO1 hcc
    go_loopw [4, 5] (fun tk ts wr => ∃ (i s K : Nat), i ≤ 7 ∧ Hid (s = sz i) ∧ Hid (K = 2 ^ i) ∧ tk = .int .i64 (K : Int) ∧ ts = .int .i64 (s : Int) ∧ Hid (OwnV wr w.heap.size 3 (.slice (some ⟨gg, 0, none⟩) 256 cv) ((nL l i).map iv)) ∧ Below w.heap.size w wr) (fun _ ts _ => (intOf ts).toNat)
    case atStart => exact ⟨0, 128, 1, by omega, hide rfl, hide rfl, rfl, rfl, hO1', hb1⟩
    case round =>
      clear hO1' hb1
      obtain ⟨i, s, K, hii, hs, hK, rfl, rfl, HO, hB⟩ := hrel
      by_cases hlt : i < 7
      · obtain ⟨f1, f2, f3, f4, f5, f6, f7, f8⟩ := sz_facts i hlt
        have HSz : Hid (Sz s) := hide (by rw [unhide hs]; exact sz_ok i hlt)
        rw [← unhide hs] at f1 f2 f3 f4 f8
        rw [← unhide hK] at f5 f6 f7 f8
        have hge : (2 : Int) ≤ (s : Int) := by omega
        have hF := unhide HOK i
        have hFr := hide (okPl_yes hF).2
        have HN := hide (show nL l (i + 1) = mdG s (lay s (zN i) (cAt (nL l i))) (cAt (nL l i)) K 0 by rw [← f8, mdG_end (unhide HSz), unhide hs]; rfl)
        have HO0 : Hid (OwnV wr w.heap.size 3 (.slice (some ⟨gg, 0, none⟩) 256 cv) ((mdG s (lay s (zN i) (cAt (nL l i))) (cAt (nL l i)) 0 0).map iv)) := hide (by rw [mdG_start s _ hF]; exact unhide HO)
        replace f8 := hide f8; replace f5 := hide f5; replace f3 := hide f3
        clear HO
        go_wp2
        go_loopw [4, 6] (fun tk tst wq => ∃ (b st kb : Nat), b ≤ K ∧ Hid (st = 2 * b * s) ∧ Hid (kb = K + b) ∧ tst = .int .i64 (st : Int) ∧ tk = .int .i64 (kb : Int) ∧ Hid (OwnV wq w.heap.size 3 (.slice (some ⟨gg, 0, none⟩) 256 cv) ((mdG s (lay s (zN i) (cAt (nL l i))) (cAt (nL l i)) b 0).map iv)) ∧ Below w.heap.size w wq) (fun _ tst _ => 1000 - (intOf tst).toNat)
        case atStart => exact ⟨0, 0, K, by omega, hide (by omega), hide (by omega), rfl, rfl, HO0, hB⟩
        case round =>
          clear HO0 hB
          obtain ⟨b, st, kb, hbK, hst, hkb, rfl, rfl, HO, hB⟩ := hrel
          have hbf := blk_facts (unhide HSz) b
          rw [unhide f8] at hbf
          rw [← unhide hst] at hbf
          by_cases hb : b < K
          · have hst256 := hbf.1.2 hb
            have hst2 := hbf.2.2.1 hb
            have hstI : (st : Int) < 256 := by omega
            have hkb2 : kb < 128 := by have := unhide hkb; omega
            obtain ⟨T1, T2⟩ := zt_turn kb hkb2
            have C1 := hide (fun W => specTurn7_any (kb : Int) W)
            have C2 := hide (fun W => specPowQ_any 17 (t7 kb : Int) W)
            rw [T1] at C1
            rw [T2] at C2
            have hZ := zt_rng kb
            have HZ := hide (show zN i b = zt kb by unfold zN; rw [← unhide hK, ← unhide hkb])
            generalize zt kb = Z at *
            generalize (t7 kb : Int) = tz at *
            clear T1 T2
            have wk : IntKind.i64.wrap ((kb : Int) + 1) = ((kb + 1 : Nat) : Int) := by rw [IntKind.wrap_i64]; omega
            go_wp2_with fail
            refine ((unhide C1) wr).mono ?_
            rintro e w2 ⟨rfl, hw2⟩
            have hw3 := hw2.symm
            subst hw3
            clear hw2
            go_wp2_with fail
            refine ((unhide C2) wr).mono ?_
            rintro e w2 ⟨rfl, hw2⟩
            have hw3 := hw2.symm
            subst hw3
            clear hw2
            go_wp2
            go_loopw [8] (fun tj wq => ∃ (r j : Nat), r ≤ s ∧ Hid (j = st + r) ∧ tj = .int .i64 (j : Int) ∧ Hid (OwnV wq w.heap.size 3 (.slice (some ⟨gg, 0, none⟩) 256 cv) ((mdG s (lay s (zN i) (cAt (nL l i))) (cAt (nL l i)) b r).map iv)) ∧ Below w.heap.size w wq) (fun tj _ => 2000 - (intOf tj).toNat)
            case atStart => exact ⟨0, st, by omega, hide (by omega), rfl, HO, hB⟩
            case round =>
              clear HO hB C1 C2
              obtain ⟨r, j, hrs, hj, rfl, HO, hB⟩ := hrel
              obtain ⟨e0, he0⟩ : ∃ e : Nat, e = st + s := ⟨_, rfl⟩
              have we : IntKind.i64.wrap ((st : Int) + (s : Int)) = (e0 : Int) := by rw [IntKind.wrap_i64]; omega
              by_cases hr : r < s
              · have hje : (j : Int) < (e0 : Int) := by have := unhide hj; omega
                obtain ⟨js, hjs⟩ : ∃ js : Nat, js = j + s := ⟨_, rfl⟩
                have hj256 : j < 256 ∧ js < 256 ∧ j ≠ js := by have := unhide hj; omega
                have wj : IntKind.i64.wrap ((j : Int) + (s : Int)) = (js : Int) := by rw [IntKind.wrap_i64]; omega
                have ej : 2 * b * s + r = j := by rw [← unhide hst]; exact (unhide hj).symm
                have ejs : 2 * b * s + r + s = js := by rw [ej]; exact hjs.symm
                have hb8 : b < 128 / s := by rw [unhide f8]; exact hb
                obtain ⟨old1, old2⟩ := mdG_old (unhide HSz) (lay s (zN i) (cAt (nL l i))) (cAt (nL l i)) b r hb8 hr
                have stp := mdG_step (unhide HSz) (lay s (zN i) (cAt (nL l i))) (cAt (nL l i)) b r hb8 hr
                rw [lay_lo (unhide HSz) _ _ b r hr, lay_hi (unhide HSz) _ _ b r hr] at stp
                rw [ejs, ej] at stp
                rw [ej] at old1
                rw [ejs] at old2
                rw [unhide HZ] at stp
                have x1 := unhide hFr j hj256.1
                have y1 := unhide hFr js hj256.2.1
                have cj := (unhide HO).cell (get_iv _ j (by rw [mdG_len]; exact hj256.1))
                have cjs := (unhide HO).cell (get_iv _ js (by rw [mdG_len]; exact hj256.2.1))
                have zj := (unhide HO).frozen j
                have zjs := (unhide HO).frozen js
                rw [old1] at cj
                rw [old2] at cjs
                obtain ⟨x, hx⟩ : ∃ x, x = cAt (nL l i) j := ⟨_, rfl⟩
                obtain ⟨y, hy⟩ : ∃ y, y = cAt (nL l i) js := ⟨_, rfl⟩
                rw [← hx] at cj x1 stp
                rw [← hy] at cjs y1 stp
                have p1 : 0 ≤ Z * y := Int.mul_nonneg hZ.1 y1.1
                have p2 : Z * y ≤ 3328 * 3328 := Int.mul_le_mul hZ.2 y1.2 y1.1 (by omega)
                obtain ⟨p, hp⟩ : ∃ p, p = Z * y := ⟨_, rfl⟩
                rw [← hp] at p1 p2 stp
                obtain ⟨τ, hτ⟩ : ∃ τ, τ = p % 3329 := ⟨_, rfl⟩
                obtain ⟨d1, hd1⟩ : ∃ d, d = x - τ := ⟨_, rfl⟩
                obtain ⟨d2, hd2⟩ : ∃ d, d = d1 + 3329 := ⟨_, rfl⟩
                obtain ⟨v1, hv1⟩ : ∃ v, v = d2 % 3329 := ⟨_, rfl⟩
                obtain ⟨e1, he1⟩ : ∃ d, d = x + τ := ⟨_, rfl⟩
                obtain ⟨v2, hv2⟩ : ∃ v, v = e1 % 3329 := ⟨_, rfl⟩
                rw [show (x - p) % 3329 = v1 by omega, show (x + p) % 3329 = v2 by omega] at stp
                have q1 : IntKind.i64.wrap (Z * y) = p := by rw [← hp, IntKind.wrap_i64]; omega
                have q2 : p.tmod 3329 = τ := by rw [Int.tmod_eq_emod_of_nonneg (by omega)]; omega
                have q2' : p % 3329 = τ := hτ.symm
                have q3 : IntKind.i64.wrap τ = τ := by rw [IntKind.wrap_i64]; omega
                have q4 : IntKind.i64.wrap (x - τ) = d1 := by rw [IntKind.wrap_i64]; omega
                have q5 : IntKind.i64.wrap (d1 + 3329) = d2 := by rw [IntKind.wrap_i64]; omega
                have q6 : d2.tmod 3329 = v1 := by rw [Int.tmod_eq_emod_of_nonneg (by omega)]; omega
                have q6' : d2 % 3329 = v1 := hv1.symm
                have q7 : IntKind.i64.wrap v1 = v1 := by rw [IntKind.wrap_i64]; omega
                have q8 : IntKind.i64.wrap (x + τ) = e1 := by rw [IntKind.wrap_i64]; omega
                have q9 : e1.tmod 3329 = v2 := by rw [Int.tmod_eq_emod_of_nonneg (by omega)]; omega
                have q9' : e1 % 3329 = v2 := hv2.symm
                have q10 : IntKind.i64.wrap v2 = v2 := by rw [IntKind.wrap_i64]; omega
                have b1 : (0 : Int) ≤ (j : Int) := by omega
                have b2 : (j : Int) < 256 := by omega
                have b3 : (0 : Int) ≤ (js : Int) := by omega
                have b4 : (js : Int) < 256 := by omega
                have b5 := hj256.2.2
                have b6 : ¬ js = j := fun h => b5 h.symm
                have hO2 := ((unhide HO).set js (.int .i64 v1)).set j (.int .i64 v2)
                rw [set_iv, set_iv, stp] at hO2
                have hB2 := (hB.setCell (p := ⟨gg, js, none⟩) hgb (.int .i64 v1)).setCell (p := ⟨gg, j, none⟩) hgb (.int .i64 v2)
                have hjn : j + 1 = st + (r + 1) := by have := unhide hj; omega
                replace hO2 := hide hO2; replace hB2 := hide hB2; replace hjn := hide hjn
                replace hx := hide hx; replace hy := hide hy; replace hp := hide hp; replace hτ := hide hτ; replace hd1 := hide hd1; replace hd2 := hide hd2; replace hv1 := hide hv1; replace he1 := hide he1; replace hv2 := hide hv2; replace hjs := hide hjs; replace he0 := hide he0
                clear HO old1 old2 stp ej ejs hj256
                go_wp2
                exact ⟨⟨r + 1, j + 1, by omega, hjn, by go_num, hO2, unhide hB2⟩, by simp [intOf]; omega⟩
              · have hre : r = s := by omega
                have hje : ¬ (j : Int) < (e0 : Int) := by have := unhide hj; omega
                have HO2 : Hid (OwnV wr w.heap.size 3 (.slice (some ⟨gg, 0, none⟩) 256 cv) ((mdG s (lay s (zN i) (cAt (nL l i))) (cAt (nL l i)) (b + 1) 0).map iv)) := hide (by rw [← mdG_next (unhide HSz)]; have h := unhide HO; rw [hre] at h; exact h)
                obtain ⟨s2, hs2⟩ : ∃ s2 : Nat, s2 = 2 * s := ⟨_, rfl⟩
                obtain ⟨st2, hst3⟩ : ∃ st2 : Nat, st2 = st + s2 := ⟨_, rfl⟩
                have w1 : IntKind.i64.wrap (2 * (s : Int)) = (s2 : Int) := by rw [IntKind.wrap_i64]; omega
                have w2 : IntKind.i64.wrap ((st : Int) + (s2 : Int)) = (st2 : Int) := by rw [IntKind.wrap_i64]; omega
                have hstn := hide (show st2 = 2 * (b + 1) * s by rw [hbf.2.1]; omega)
                have hkn := hide (show kb + 1 = K + (b + 1) by have := unhide hkb; omega)
                have hinc : st < st2 ∧ st2 ≤ 256 := by omega
                replace hre := hide hre; replace he0 := hide he0; replace hs2 := hide hs2; replace hst3 := hide hst3
                clear HO hbf
                go_wp2
                exact ⟨⟨b + 1, st2, kb + 1, by omega, hstn, hkn, by first | rfl | trivial, by go_num, HO2, hB⟩, by simp [intOf]; omega⟩
          · have hbe : b = K := by omega
            have hst256 : ¬ st < 256 := fun h => hb (hbf.1.1 h)
            have hstI : ¬ (st : Int) < 256 := by omega
            have HO2 : Hid (OwnV wr w.heap.size 3 (.slice (some ⟨gg, 0, none⟩) 256 cv) ((nL l (i + 1)).map iv)) := hide (by rw [unhide HN, ← hbe]; exact unhide HO)
            obtain ⟨s', hs'⟩ : ∃ s' : Nat, s' = s / 2 := ⟨_, rfl⟩
            have w1 : (s : Int).tdiv 2 = (s' : Int) := by rw [Int.tdiv_eq_ediv_of_nonneg (by omega)]; omega
            have w1' : (s : Int) / 2 = (s' : Int) := by omega
            have w2 : IntKind.i64.wrap (s' : Int) = (s' : Int) := by rw [IntKind.wrap_i64]; omega
            have hsn := hide (show s' = sz (i + 1) by rw [unhide f3]; exact hs')
            have hkn := hide (show kb = 2 ^ (i + 1) by rw [unhide f5, unhide hkb, hbe])
            have hdec : s' < s := by omega
            replace hbe := hide hbe; replace hs' := hide hs'
            clear HO hbf
            go_wp2
            exact ⟨⟨i + 1, s', kb, by omega, hsn, hkn, by first | rfl | trivial, by first | rfl | trivial, HO2, hB⟩, by simp [intOf]; omega⟩
      · have hie : i = 7 := by omega
        have hs1 : s = 1 := by rw [unhide hs, hie]; rfl
        have hge : ¬ (2 : Int) ≤ (s : Int) := by omega
        have HO2 : Hid (OwnV wr w.heap.size 3 (.slice (some ⟨gg, 0, none⟩) 256 cv) ((nttL l).map iv)) := hide (by rw [unhide EF, ← hie]; exact unhide HO)
        replace hie := hide hie; replace hs1 := hide hs1
        clear HO
        go_wp2
        go_ret
        exact ⟨⟨_, rfl, unhide HO2⟩, hB⟩
  · have ha' : okPl l = false := by simpa using ha
    rw [ha'] at CA
    have E := hide (show nttL l = [] by unfold nttL; rw [if_neg ha])
    rw [unhide E]
    go_enter Try.func11, Try.ntmps11
    go_wp2_with fail
    refine (unhide CA).mono ?_
    rintro e w1 ⟨rfl, hw1⟩
    have hw2 := hw1.symm
    subst hw2
    clear hw1
    go_wp2
    go_ret
    exact ⟨⟨_, rfl, World.ownsRow_made w #[] 0 (Nat.le_refl _) (by decide) (by simp)⟩, (Below.refl _ _).alloc (Nat.le_refl _) _⟩
end Go.Proofs.Ytdannnkdapbefaq
