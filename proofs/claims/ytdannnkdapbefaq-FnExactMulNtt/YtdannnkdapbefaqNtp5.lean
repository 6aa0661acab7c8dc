/- InvNtt by the given model, over the loaded program. -/
import Derived.Test.YtdannnkdapbefaqNtp4
namespace Go.Proofs.Ytdannnkdapbefaq
open Go.RowKit
def szI (m : Nat) : Nat := 2 ^ (m + 1)
theorem szI_facts (i : Nat) (h : i < 7) : szI i = sz (6 - i) ∧ 2 ≤ szI i ∧ szI i ≤ 128 ∧ szI (i + 1) = szI i * 2 ∧ szI i < szI (i + 1) ∧ 2 ^ (7 - i) = 2 * 2 ^ (6 - i) ∧ 2 ^ (6 - i) ≤ 64 ∧ 1 ≤ 2 ^ (6 - i) ∧ 128 / szI i = 2 ^ (6 - i) := by
  match i, h with
  | 0, _ => decide
  | 1, _ => decide
  | 2, _ => decide
  | 3, _ => decide
  | 4, _ => decide
  | 5, _ => decide
  | 6, _ => decide
  | i + 7, h => exact absurd h (by omega)
/-- The first k numbers times 3303. -/
def fnL (F : Nat → Int) (k : Nat) : List Int := mk256 fun t => if t < k then F t * 3303 % 3329 else F t
theorem fnL_len (F : Nat → Int) (k : Nat) : (fnL F k).length = 256 := mk256_len _
theorem fnL_start {l : List Int} (h : okPl l = true) : fnL (cAt l) 0 = l := by
  refine ext_pl (fnL_len _ _) (okPl_yes h).1 fun t ht => ?_
  unfold fnL
  rw [mk256_at _ t ht, if_neg (by omega)]
theorem fnL_end (F : Nat → Int) : fnL F 256 = mk256 fun t => F t * 3303 % 3329 := mk256_congr fun t ht => by rw [if_pos ht]
theorem fnL_old (F : Nat → Int) (k : Nat) (h : k < 256) : cAt (fnL F k) k = F k := by unfold fnL; rw [mk256_at _ k h, if_neg (by omega)]
theorem fnL_step (F : Nat → Int) (k : Nat) (h : k < 256) : (fnL F k).set k (F k * 3303 % 3329) = fnL F (k + 1) := by
  refine ext_pl (by rw [List.length_set, fnL_len]) (fnL_len _ _) fun t ht => ?_
  rw [cAt_set _ _ _ _ (by rw [fnL_len]; exact h)]
  unfold fnL
  rw [mk256_at _ t ht, mk256_at _ t ht]
  by_cases e : t = k
  · rw [if_pos e, if_pos (by omega), e]
  · rw [if_neg e]
    by_cases c : t < k
    · rw [if_pos c, if_pos (by omega)]
    · rw [if_neg c, if_neg (by omega)]
set_option maxRecDepth 20000 in
set_option maxHeartbeats 1000000 in
theorem specInvNtt_any (l : List Int) (va : Value) (w : World) (ra : RdV w va (l.map iv)) :
    Calls Try.prog 15 #[va] w fun e w' => (∃ v, e = .returned v ∧ OwnV w' w.heap.size 3 v ((invL l).map iv)) ∧ Below w.heap.size w w' := by
  obtain ⟨i0, hi, hz0, hz1, hz2⟩ := info_parts infoInt
  have CA := hide (specPolyOk_any l va w ra)
  by_cases ha : okPl l = true
  · rw [ha] at CA
    have la := (okPl_yes ha).1
    have EF := hide (invL_is ha)
    have HOK := hide (fun i => inL_ok ha i)
    obtain ⟨a1, c1, rfl, hc1⟩ := ra.open
    rw [List.length_map, la] at CA ⊢
    obtain ⟨g1, o1, rfl, hg1, _⟩ := hc1 0 _ (get_iv l 0 (by omega))
    have hcc := hide (show ∀ j u, (l.map iv)[j]? = some u → w.cell? ⟨g1, o1 + j, none⟩ = some u from fun j u hu => by
      obtain ⟨g', o', he, _, hd⟩ := hc1 j u hu
      cases he
      exact hd)
    clear ra hc1
    go_enter Try.func15, Try.ntmps15
    go_wp2_with fail
    refine (unhide CA).mono ?_
    rintro e w1 ⟨rfl, hw1⟩
    have hw2 := hw1.symm
    subst hw2
    clear hw1 CA
    go_wp2_with (at_builtin; refine wpList_copy9 rfl (.tmp 15) (.tmp 16) 22 rfl 3 i0 (.int .i64 0) 8 Try.underlying22 hi hz0 hz1 hz2 rfl rfl g1 o1 256 c1 (l.map iv) rfl hg1 (unhide hcc) (by rw [List.length_map]; exact la) (one_iv l) (by decide) (by decide) ?_; intro v1 w1 hO1 hb1)
    obtain ⟨av, cv, hav⟩ := hO1.shape
    rw [List.length_map, la] at hav
    subst hav
    obtain ⟨gg, hgg⟩ : ∃ g, av = some ⟨g, 0, none⟩ ∧ w.heap.size ≤ g := by
      rcases hO1.2 with ⟨h1, _⟩ | ⟨g, cap, cur, h1, hbb, _⟩
      · simp only [Value.slice.injEq] at h1; omega
      · simp only [Value.slice.injEq] at h1
        exact ⟨g, h1.1, hbb⟩
    obtain ⟨rfl, hgb⟩ := hgg
    have hO1' := hide (show OwnV w1 w.heap.size 3 (.slice (some ⟨gg, 0, none⟩) 256 cv) ((inL l 0).map iv) from hO1)
    clear hO1 hcc
    go_loopw [4, 5] (fun tk ts wr => ∃ (i s K : Nat), i ≤ 7 ∧ Hid (s = szI i) ∧ Hid (K + 1 = 2 ^ (7 - i)) ∧ tk = .int .i64 (K : Int) ∧ ts = .int .i64 (s : Int) ∧ Hid (OwnV wr w.heap.size 3 (.slice (some ⟨gg, 0, none⟩) 256 cv) ((inL l i).map iv)) ∧ Below w.heap.size w wr) (fun _ ts _ => 1000 - (intOf ts).toNat)
    case atStart => exact ⟨0, 2, 127, by omega, hide rfl, hide rfl, rfl, rfl, hO1', hb1⟩
    case round =>
      clear hO1' hb1
      obtain ⟨i, s, K, hii, hs, hK, rfl, rfl, HO, hB⟩ := hrel
      by_cases hlt : i < 7
      · obtain ⟨f0, f1, f2, f3, f4, f5, f6, f7, f8⟩ := szI_facts i hlt
        have HSz : Hid (Sz s) := hide (by rw [unhide hs, f0]; exact sz_ok (6 - i) (by omega))
        obtain ⟨NB, hNB⟩ : ∃ NB, NB = 2 ^ (6 - i) := ⟨_, rfl⟩
        rw [← unhide hs] at f0 f1 f2 f3 f4 f8
        rw [← hNB] at f5 f6 f7 f8
        have hKN : K + 1 = 2 * NB := by rw [unhide hK]; exact f5
        have hge : (s : Int) ≤ 128 := by omega
        have hF := unhide HOK i
        have hFr := hide (okPl_yes hF).2
        have HN := hide (show inL l (i + 1) = mdG s (ily s (zI (6 - i)) (cAt (inL l i))) (cAt (inL l i)) NB 0 by rw [← f8, mdG_end (unhide HSz), f0]; rfl)
        have HO0 : Hid (OwnV wr w.heap.size 3 (.slice (some ⟨gg, 0, none⟩) 256 cv) ((mdG s (ily s (zI (6 - i)) (cAt (inL l i))) (cAt (inL l i)) 0 0).map iv)) := hide (by rw [mdG_start s _ hF]; exact unhide HO)
        replace f8 := hide f8; replace f5 := hide f5; replace f3 := hide f3; replace f0 := hide f0; replace hNB := hide hNB
        clear HO
        go_wp2
        go_loopw [4, 6] (fun tk tst wq => ∃ (b st kb : Nat), b ≤ NB ∧ Hid (st = 2 * b * s) ∧ Hid (kb + b = K) ∧ tst = .int .i64 (st : Int) ∧ tk = .int .i64 (kb : Int) ∧ Hid (OwnV wq w.heap.size 3 (.slice (some ⟨gg, 0, none⟩) 256 cv) ((mdG s (ily s (zI (6 - i)) (cAt (inL l i))) (cAt (inL l i)) b 0).map iv)) ∧ Below w.heap.size w wq) (fun _ tst _ => 1000 - (intOf tst).toNat)
        case atStart => exact ⟨0, 0, K, by omega, hide (by omega), hide (by omega), rfl, rfl, HO0, hB⟩
        case round =>
          clear HO0 hB
          obtain ⟨b, st, kb, hbK, hst, hkb, rfl, rfl, HO, hB⟩ := hrel
          have hbf := blk_facts (unhide HSz) b
          rw [unhide f8] at hbf
          rw [← unhide hst] at hbf
          by_cases hb : b < NB
          · have hst256 := hbf.1.2 hb
            have hst2 := hbf.2.2.1 hb
            have hstI : (st : Int) < 256 := by omega
            have hkb2 : kb < 128 := by have := unhide hkb; omega
            obtain ⟨T1, T2⟩ := zt_turn kb hkb2
            have C1 := hide (fun W => specTurn7_any (kb : Int) W)
            have C2 := hide (fun W => specPowQ_any 17 (t7 kb : Int) W)
            rw [T1] at C1
            rw [T2] at C2
            have hZ := zt_rng kb
            have h3 : 2 ^ (6 - i + 1) = 2 ^ (7 - i) := by rw [show 6 - i + 1 = 7 - i by omega]
            have HZ := hide (show zI (6 - i) b = zt kb by
              unfold zI
              rw [h3, ← unhide hK, show K + 1 - 1 - b = kb by have h1 := unhide hkb; omega])
            clear h3
            generalize zt kb = Z at *
            generalize (t7 kb : Int) = tz at *
            clear T1 T2
            obtain ⟨kc, hkc⟩ : ∃ kc : Nat, kc + 1 = kb := ⟨kb - 1, by have := unhide hkb; omega⟩
            have wk : IntKind.i64.wrap ((kb : Int) - 1) = (kc : Int) := by rw [IntKind.wrap_i64]; omega
            replace hkc := hide hkc
            go_wp2_with fail
            refine ((unhide C1) wr).mono ?_
            rintro e w2 ⟨rfl, hw2⟩
            have hw3 := hw2.symm
            subst hw3
            clear hw2
            go_wp2_with fail
            refine ((unhide C2) wr).mono ?_
            rintro e w2 ⟨rfl, hw2⟩
            have hw3 := hw2.symm
            subst hw3
            clear hw2
            go_wp2
            go_loopw [8] (fun tj wq => ∃ (r j : Nat), r ≤ s ∧ Hid (j = st + r) ∧ tj = .int .i64 (j : Int) ∧ Hid (OwnV wq w.heap.size 3 (.slice (some ⟨gg, 0, none⟩) 256 cv) ((mdG s (ily s (zI (6 - i)) (cAt (inL l i))) (cAt (inL l i)) b r).map iv)) ∧ Below w.heap.size w wq) (fun tj _ => 2000 - (intOf tj).toNat)
            case atStart => exact ⟨0, st, by omega, hide (by omega), rfl, HO, hB⟩
            case round =>
              clear HO hB C1 C2
              obtain ⟨r, j, hrs, hj, rfl, HO, hB⟩ := hrel
              obtain ⟨e0, he0⟩ : ∃ e : Nat, e = st + s := ⟨_, rfl⟩
              have we : IntKind.i64.wrap ((st : Int) + (s : Int)) = (e0 : Int) := by rw [IntKind.wrap_i64]; omega
              by_cases hr : r < s
              · have hje : (j : Int) < (e0 : Int) := by have := unhide hj; omega
                obtain ⟨js, hjs⟩ : ∃ js : Nat, js = j + s := ⟨_, rfl⟩
                have hj256 : j < 256 ∧ js < 256 ∧ j ≠ js := by have := unhide hj; omega
                have wj : IntKind.i64.wrap ((j : Int) + (s : Int)) = (js : Int) := by rw [IntKind.wrap_i64]; omega
                have ej : 2 * b * s + r = j := by rw [← unhide hst]; exact (unhide hj).symm
                have ejs : 2 * b * s + r + s = js := by rw [ej]; exact hjs.symm
                have hb8 : b < 128 / s := by rw [unhide f8]; exact hb
                obtain ⟨old1, old2⟩ := mdG_old (unhide HSz) (ily s (zI (6 - i)) (cAt (inL l i))) (cAt (inL l i)) b r hb8 hr
                have stp := mdG_step' (unhide HSz) (ily s (zI (6 - i)) (cAt (inL l i))) (cAt (inL l i)) b r hb8 hr
                rw [ily_lo (unhide HSz) _ _ b r hr, ily_hi (unhide HSz) _ _ b r hr] at stp
                rw [ejs, ej] at stp
                rw [ej] at old1
                rw [ejs] at old2
                rw [unhide HZ] at stp
                have x1 := unhide hFr j hj256.1
                have y1 := unhide hFr js hj256.2.1
                have cj := (unhide HO).cell (get_iv _ j (by rw [mdG_len]; exact hj256.1))
                have cjs := (unhide HO).cell (get_iv _ js (by rw [mdG_len]; exact hj256.2.1))
                have zj := (unhide HO).frozen j
                have zjs := (unhide HO).frozen js
                rw [old1] at cj
                rw [old2] at cjs
                obtain ⟨x, hx⟩ : ∃ x, x = cAt (inL l i) j := ⟨_, rfl⟩
                obtain ⟨y, hy⟩ : ∃ y, y = cAt (inL l i) js := ⟨_, rfl⟩
                rw [← hx] at cj x1 stp
                rw [← hy] at cjs y1 stp
                obtain ⟨e1, he1⟩ : ∃ d, d = x + y := ⟨_, rfl⟩
                obtain ⟨v2, hv2⟩ : ∃ v, v = e1 % 3329 := ⟨_, rfl⟩
                obtain ⟨d1, hd1⟩ : ∃ d, d = y - x := ⟨_, rfl⟩
                obtain ⟨d2, hd2⟩ : ∃ d, d = d1 + 3329 := ⟨_, rfl⟩
                have p1 : 0 ≤ Z * d2 := Int.mul_nonneg hZ.1 (by omega)
                have p2 : Z * d2 ≤ 3328 * 6657 := Int.mul_le_mul hZ.2 (by omega) (by omega) (by omega)
                obtain ⟨p, hp⟩ : ∃ p, p = Z * d2 := ⟨_, rfl⟩
                rw [← hp] at p1 p2
                obtain ⟨v1, hv1⟩ : ∃ v, v = p % 3329 := ⟨_, rfl⟩
                have hpd : p = Z * (y - x) + 3329 * Z := by rw [hp, hd2, hd1, Int.mul_add, Int.mul_comm Z 3329]
                rw [show (x + y) % 3329 = v2 by omega, show Z * (y - x) % 3329 = v1 by generalize Z * (y - x) = qq at hpd ⊢; omega] at stp
                have q1 : IntKind.i64.wrap (Z * d2) = p := by rw [← hp, IntKind.wrap_i64]; omega
                have q2 : p.tmod 3329 = v1 := by rw [Int.tmod_eq_emod_of_nonneg (by omega)]; omega
                have q2' : p % 3329 = v1 := hv1.symm
                have q3 : IntKind.i64.wrap v1 = v1 := by rw [IntKind.wrap_i64]; omega
                have q4 : IntKind.i64.wrap (y - x) = d1 := by rw [IntKind.wrap_i64]; omega
                have q5 : IntKind.i64.wrap (d1 + 3329) = d2 := by rw [IntKind.wrap_i64]; omega
                have q8 : IntKind.i64.wrap (x + y) = e1 := by rw [IntKind.wrap_i64]; omega
                have q9 : e1.tmod 3329 = v2 := by rw [Int.tmod_eq_emod_of_nonneg (by omega)]; omega
                have q9' : e1 % 3329 = v2 := hv2.symm
                have q10 : IntKind.i64.wrap v2 = v2 := by rw [IntKind.wrap_i64]; omega
                replace hpd := hide hpd
                have b1 : (0 : Int) ≤ (j : Int) := by omega
                have b2 : (j : Int) < 256 := by omega
                have b3 : (0 : Int) ≤ (js : Int) := by omega
                have b4 : (js : Int) < 256 := by omega
                have b5 := hj256.2.2
                have b6 : ¬ js = j := fun h => b5 h.symm
                have hO2 := ((unhide HO).set j (.int .i64 v2)).set js (.int .i64 v1)
                rw [set_iv, set_iv, stp] at hO2
                have hB2 := (hB.setCell (p := ⟨gg, j, none⟩) hgb (.int .i64 v2)).setCell (p := ⟨gg, js, none⟩) hgb (.int .i64 v1)
                have hjn : j + 1 = st + (r + 1) := by have := unhide hj; omega
                replace hO2 := hide hO2; replace hB2 := hide hB2; replace hjn := hide hjn
                replace hx := hide hx; replace hy := hide hy; replace hp := hide hp; replace hd1 := hide hd1; replace hd2 := hide hd2; replace hv1 := hide hv1; replace he1 := hide he1; replace hv2 := hide hv2; replace hjs := hide hjs; replace he0 := hide he0
                clear HO old1 old2 stp ej ejs hj256
                go_wp2
                exact ⟨⟨r + 1, j + 1, by omega, hjn, by go_num, hO2, unhide hB2⟩, by simp [intOf]; omega⟩
              · have hre : r = s := by omega
                have hje : ¬ (j : Int) < (e0 : Int) := by have := unhide hj; omega
                have HO2 : Hid (OwnV wr w.heap.size 3 (.slice (some ⟨gg, 0, none⟩) 256 cv) ((mdG s (ily s (zI (6 - i)) (cAt (inL l i))) (cAt (inL l i)) (b + 1) 0).map iv)) := hide (by rw [← mdG_next (unhide HSz)]; have h := unhide HO; rw [hre] at h; exact h)
                obtain ⟨s2, hs2⟩ : ∃ s2 : Nat, s2 = 2 * s := ⟨_, rfl⟩
                obtain ⟨st2, hst3⟩ : ∃ st2 : Nat, st2 = st + s2 := ⟨_, rfl⟩
                have w1 : IntKind.i64.wrap (2 * (s : Int)) = (s2 : Int) := by rw [IntKind.wrap_i64]; omega
                have w2 : IntKind.i64.wrap ((st : Int) + (s2 : Int)) = (st2 : Int) := by rw [IntKind.wrap_i64]; omega
                have hstn := hide (show st2 = 2 * (b + 1) * s by rw [hbf.2.1]; omega)
                have hkn := hide (show kc + (b + 1) = K by have h1 := unhide hkb; have h2 := unhide hkc; omega)
                have hinc : st < st2 ∧ st2 ≤ 256 := by omega
                replace hre := hide hre; replace he0 := hide he0; replace hs2 := hide hs2; replace hst3 := hide hst3
                clear HO hbf
                go_wp2
                exact ⟨⟨b + 1, st2, kc, by omega, hstn, hkn, by first | rfl | trivial, by first | rfl | trivial, HO2, hB⟩, by simp [intOf]; omega⟩
          · have hbe : b = NB := by omega
            have hst256 : ¬ st < 256 := fun h => hb (hbf.1.1 h)
            have hstI : ¬ (st : Int) < 256 := by omega
            have HO2 : Hid (OwnV wr w.heap.size 3 (.slice (some ⟨gg, 0, none⟩) 256 cv) ((inL l (i + 1)).map iv)) := hide (by rw [unhide HN, ← hbe]; exact unhide HO)
            obtain ⟨s', hs'⟩ : ∃ s' : Nat, s' = s * 2 := ⟨_, rfl⟩
            have w1 : IntKind.i64.wrap ((s : Int) * 2) = (s' : Int) := by rw [IntKind.wrap_i64]; omega
            have hsn := hide (show s' = szI (i + 1) by rw [unhide f3]; exact hs')
            have hkn := hide (show kb + 1 = 2 ^ (7 - (i + 1)) by rw [show 7 - (i + 1) = 6 - i by omega, ← unhide hNB]; have := unhide hkb; omega)
            have hdec : s < s' := by omega
            replace hbe := hide hbe; replace hs' := hide hs'
            clear HO hbf
            go_wp2
            exact ⟨⟨i + 1, s', kb, by omega, hsn, hkn, by first | rfl | trivial, by first | rfl | trivial, HO2, hB⟩, by simp [intOf]; omega⟩
      · have hie : i = 7 := by omega
        have hs1 : s = 256 := by rw [unhide hs, hie]; rfl
        have hge : ¬ (s : Int) ≤ 128 := by omega
        have h7 := unhide HOK 7
        have HO2 : Hid (OwnV wr w.heap.size 3 (.slice (some ⟨gg, 0, none⟩) 256 cv) ((fnL (cAt (inL l 7)) 0).map iv)) := hide (by rw [fnL_start h7, ← hie]; exact unhide HO)
        have hr7 := hide (okPl_yes h7).2
        replace hie := hide hie; replace hs1 := hide hs1
        clear HO
        go_wp2
        go_loopw [10] (fun ti wq => ∃ k : Nat, k ≤ 256 ∧ ti = .int .i64 (k : Int) ∧ Hid (OwnV wq w.heap.size 3 (.slice (some ⟨gg, 0, none⟩) 256 cv) ((fnL (cAt (inL l 7)) k).map iv)) ∧ Below w.heap.size w wq) (fun ti _ => 256 - (intOf ti).toNat)
        case atStart => exact ⟨0, by omega, rfl, HO2, hB⟩
        case round =>
          clear HO2 hB
          obtain ⟨k, hk, rfl, HO, hB⟩ := hrel
          by_cases hltk : k < 256
          · have hk' : (k : Int) < 256 := by omega
            have hk0 : (0 : Int) ≤ (k : Int) := by omega
            have cu := (unhide HO).cell (get_iv _ k (by rw [fnL_len]; exact hltk))
            have cz := (unhide HO).frozen k
            rw [fnL_old _ k hltk] at cu
            have stp := fnL_step (cAt (inL l 7)) k hltk
            have xb := unhide hr7 k hltk
            generalize cAt (inL l 7) k = x at cu xb stp
            obtain ⟨p, hp⟩ : ∃ p, p = x * 3303 := ⟨_, rfl⟩
            obtain ⟨v, hv⟩ : ∃ v, v = p % 3329 := ⟨_, rfl⟩
            rw [← hp, ← hv] at stp
            have q1 : IntKind.i64.wrap (x * 3303) = p := by rw [IntKind.wrap_i64]; omega
            have q2 : p.tmod 3329 = v := by rw [Int.tmod_eq_emod_of_nonneg (by omega)]; omega
            have q2' : p % 3329 = v := hv.symm
            have q3 : IntKind.i64.wrap v = v := by rw [IntKind.wrap_i64]; omega
            have hO2 := (unhide HO).set k (.int .i64 v)
            rw [set_iv, stp] at hO2
            have hB2 := hB.setCell (p := ⟨gg, k, none⟩) hgb (.int .i64 v)
            replace hO2 := hide hO2; replace hB2 := hide hB2; replace hp := hide hp; replace hv := hide hv; replace stp := hide stp
            clear HO
            go_wp2
            exact ⟨⟨k + 1, by omega, by go_num, hO2, unhide hB2⟩, by simp [intOf]; omega⟩
          · have hk' : ¬ (k : Int) < 256 := by omega
            have hke : k = 256 := by omega
            have HO2 : Hid (OwnV wr w.heap.size 3 (.slice (some ⟨gg, 0, none⟩) 256 cv) ((invL l).map iv)) := hide (by rw [unhide EF, ← fnL_end]; have h := unhide HO; rw [hke] at h; exact h)
            replace hke := hide hke
            clear HO
            go_wp2
            go_ret
            exact ⟨⟨_, rfl, unhide HO2⟩, hB⟩
  · have ha' : okPl l = false := by simpa using ha
    rw [ha'] at CA
    have E := hide (show invL l = [] by unfold invL; rw [if_neg ha])
    rw [unhide E]
    go_enter Try.func15, Try.ntmps15
    go_wp2_with fail
    refine (unhide CA).mono ?_
    rintro e w1 ⟨rfl, hw1⟩
    have hw2 := hw1.symm
    subst hw2
    clear hw1
    go_wp2
    go_ret
    exact ⟨⟨_, rfl, World.ownsRow_made w #[] 0 (Nat.le_refl _) (by decide) (by simp)⟩, (Below.refl _ _).alloc (Nat.le_refl _) _⟩
end Go.Proofs.Ytdannnkdapbefaq
