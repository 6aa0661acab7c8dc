/- Merged: NttC, NttD, NttE, KmD, PlyE. -/
import Derived.Test.YthjgmpfdjhegfasDoorMga1
import Derived.Test.YthjgmpfdjhegfasDoorMga2
import Derived.Test.YthjgmpfdjhegfasDoorMga3
import Derived.Test.YthjgmpfdjhegfasDoorMga4
import Derived.Test.YthjgmpfdjhegfasDoorMga5
import Derived.Test.YthjgmpfdjhegfasDoorMga6
import Derived.Test.YthjgmpfdjhegfasDoorMga7
import Derived.Test.YthjgmpfdjhegfasDoorMga8
/- Ntt and InvNtt by the project, over the loaded program. -/
namespace Go.Proofs.YthjgmpfdjhegfasDoor
open Go.RowKit
set_option maxRecDepth 20000 in
set_option maxHeartbeats 1000000 in
theorem implNtt_any (l : List Int) (va : Value) (_ : l.length ≤ 1048576) (w : World) (ra : RdV w va (l.map iv)) :
    Calls Tryd.prog 55 #[va] w fun e w' => (∃ v, e = .returned v ∧ OwnV w' w.heap.size 3 v ((nttL l).map iv)) ∧ Below w.heap.size w w' := by
  have CA := hide (implPolyOk_q l va w ra)
  by_cases ha : okPl l = true
  · rw [ha] at CA
    have la := (okPl_yes ha).1
    have EF := hide (nttL_is ha)
    have HOK := hide (fun i => nL_ok ha i)
    have CC := hide (fun q => (copied_any l va (w.drewN q) la ra).mono (fun e w' h => (show e = .returned (.slice (some ⟨w.heap.size, 0, none⟩) 256 256) ∧ OwnV w' w.heap.size 3 (.slice (some ⟨w.heap.size, 0, none⟩) 256 256) ((l).map iv) ∧ Below w.heap.size w w' from ⟨h.1, h.2.1, (bDN (Below.refl w.heap.size w) q).trans h.2.2⟩)))
    obtain ⟨a1, c1, rfl⟩ := ra.shape
    rw [List.length_map, la] at CA CC ⊢
    clear ra
    go_enter Tryd.func55, Tryd.ntmps55
    go_wp2_with fail
    refine (unhide CA).mono ?_
    rintro e w1 ⟨rfl, q, rfl⟩
    clear CA
    go_wp2_with fail
    refine (unhide CC q).mono ?_
    rintro e w1 ⟨rfl, hO1, hb1⟩
    clear CC
    have hO1' := hide (show OwnV w1 w.heap.size 3 (.slice (some ⟨w.heap.size, 0, none⟩) 256 256) ((nL l 0).map iv) from hO1)
    clear hO1
    go_wp2
    go_loopw [4, 5] (fun tk ts wr => ∃ (i s K : Nat), i ≤ 7 ∧ Hid (s = sz i) ∧ Hid (K = 2 ^ i) ∧ tk = .int .i64 (K : Int) ∧ ts = .int .i64 (s : Int) ∧ Hid (OwnV wr w.heap.size 3 (.slice (some ⟨w.heap.size, 0, none⟩) 256 256) ((nL l i).map iv)) ∧ Below w.heap.size w wr) (fun _ ts _ => (intOf ts).toNat)
    case atStart => exact ⟨0, 128, 1, by omega, hide rfl, hide rfl, rfl, rfl, hO1', hb1⟩
    case round =>
      clear hO1' hb1
      obtain ⟨i, s, K, hii, hs, hK, rfl, rfl, HO, hB⟩ := hrel
      by_cases hlt : i < 7
      · obtain ⟨f1, f2, f3, f4, f5, f6, f7, f8⟩ := sz_facts i hlt
        have HSz : Hid (Sz s) := hide (by rw [unhide hs]; exact sz_ok i hlt)
        rw [← unhide hs] at f1 f2 f3 f4 f8
        rw [← unhide hK] at f5 f6 f7 f8
        have hge : (2 : Int) ≤ (s : Int) := by omega
        have hF := unhide HOK i
        have hFr := hide (okPl_yes hF).2
        have HN := hide (show nL l (i + 1) = mdG s (lay s (zN i) (cAt (nL l i))) (cAt (nL l i)) K 0 by rw [← f8, mdG_end (unhide HSz), unhide hs]; rfl)
        have HO0 : Hid (OwnV wr w.heap.size 3 (.slice (some ⟨w.heap.size, 0, none⟩) 256 256) ((mdG s (lay s (zN i) (cAt (nL l i))) (cAt (nL l i)) 0 0).map iv)) := hide (by rw [mdG_start s _ hF]; exact unhide HO)
        replace f8 := hide f8; replace f5 := hide f5; replace f3 := hide f3
        clear HO
        go_wp2
        go_loopw [4, 6] (fun tk tst wq => ∃ (b st kb : Nat), b ≤ K ∧ Hid (st = 2 * b * s) ∧ Hid (kb = K + b) ∧ tst = .int .i64 (st : Int) ∧ tk = .int .i64 (kb : Int) ∧ Hid (OwnV wq w.heap.size 3 (.slice (some ⟨w.heap.size, 0, none⟩) 256 256) ((mdG s (lay s (zN i) (cAt (nL l i))) (cAt (nL l i)) b 0).map iv)) ∧ Below w.heap.size w wq) (fun _ tst _ => 1000 - (intOf tst).toNat)
        case atStart => exact ⟨0, 0, K, by omega, hide (by omega), hide (by omega), rfl, rfl, HO0, hB⟩
        case round =>
          clear HO0 hB
          obtain ⟨b, st, kb, hbK, hst, hkb, rfl, rfl, HO, hB⟩ := hrel
          have hbf := blk_facts (unhide HSz) b
          rw [unhide f8] at hbf
          rw [← unhide hst] at hbf
          by_cases hb : b < K
          · have hst256 := hbf.1.2 hb
            have hst2 := hbf.2.2.1 hb
            have hstI : (st : Int) < 256 := by omega
            have hkb2 : kb < 128 := by have := unhide hkb; omega
            obtain ⟨m, hm⟩ : ∃ m, m = st + s := ⟨_, rfl⟩
            have C0 := hide (fun W => halves_any w.heap.size st s m (m + s) W hm rfl (by omega) (by omega))
            have C1 := hide (fun W => blockFactor_any kb hkb2 W)
            have hZ := zt_rng kb
            have HZ := hide (show zN i b = zt kb by unfold zN; rw [← unhide hK, ← unhide hkb])
            generalize zt kb = Z at *
            have C2 := hide (fun W h => split_any s b st m w.heap.size w.heap.size Z (zN i) (cAt (nL l i)) W (unhide HSz) (by rw [unhide f8]; exact hb) (unhide hst) hm (unhide HZ) hZ (unhide hFr) (Nat.le_refl _) h)
            have wk : IntKind.i64.wrap ((kb : Int) + 1) = ((kb + 1 : Nat) : Int) := by rw [IntKind.wrap_i64]; omega
            have hkn := hide (show kb + 1 = K + (b + 1) by have := unhide hkb; omega)
            obtain ⟨s2, hs2⟩ : ∃ s2 : Nat, s2 = 2 * s := ⟨_, rfl⟩
            obtain ⟨st2, hst3⟩ : ∃ st2 : Nat, st2 = st + s2 := ⟨_, rfl⟩
            have w1 : IntKind.i64.wrap (2 * (s : Int)) = (s2 : Int) := by rw [IntKind.wrap_i64]; omega
            have w2 : IntKind.i64.wrap ((st : Int) + (s2 : Int)) = (st2 : Int) := by rw [IntKind.wrap_i64]; omega
            have hstn := hide (show st2 = 2 * (b + 1) * s by rw [hbf.2.1]; omega)
            have hinc : st < st2 ∧ st2 ≤ 256 := by omega
            replace hs2 := hide hs2; replace hst3 := hide hst3; replace hm := hide hm
            clear hbf hst2 hst256
            go_wp2_with fail
            refine ((unhide C0) wr).mono ?_
            rintro e w3 ⟨rfl, q3, rfl⟩
            have HO3 : Hid (OwnV (wr.drewN q3) w.heap.size 3 (.slice (some ⟨w.heap.size, 0, none⟩) 256 256) ((mdG s (lay s (zN i) (cAt (nL l i))) (cAt (nL l i)) b 0).map iv)) := HO
            have hB3 := bDN hB q3
            generalize wr.drewN q3 = w3 at *
            clear HO hB C0
            go_wp2_with fail
            refine ((unhide C1) w3).mono ?_
            rintro e w4 ⟨rfl, hw4⟩
            have hw5 := hw4.symm
            subst hw5
            clear hw4 C1
            go_wp2_with fail
            refine ((unhide C2) w3 (unhide HO3)).mono ?_
            rintro e w4 ⟨rfl, hO4, hB4⟩
            have HO4 := hide hO4
            have hB5 := hB3.trans hB4
            clear HO3 hB3 hO4 hB4 C2
            go_wp2
            exact ⟨⟨b + 1, st2, kb + 1, by omega, hstn, hkn, by first | rfl | trivial, by go_num, HO4, hB5⟩, by simp [intOf]; omega⟩
          · have hbe : b = K := by omega
            have hst256 : ¬ st < 256 := fun h => hb (hbf.1.1 h)
            have hstI : ¬ (st : Int) < 256 := by omega
            have HO2 : Hid (OwnV wr w.heap.size 3 (.slice (some ⟨w.heap.size, 0, none⟩) 256 256) ((nL l (i + 1)).map iv)) := hide (by rw [unhide HN, ← hbe]; exact unhide HO)
            obtain ⟨s', hs'⟩ : ∃ s' : Nat, s' = s / 2 := ⟨_, rfl⟩
            have w1 : (s : Int).tdiv 2 = (s' : Int) := by rw [Int.tdiv_eq_ediv_of_nonneg (by omega)]; omega
            have w1' : (s : Int) / 2 = (s' : Int) := by omega
            have w2 : IntKind.i64.wrap (s' : Int) = (s' : Int) := by rw [IntKind.wrap_i64]; omega
            have hsn := hide (show s' = sz (i + 1) by rw [unhide f3]; exact hs')
            have hkn := hide (show kb = 2 ^ (i + 1) by rw [unhide f5, unhide hkb, hbe])
            have hdec : s' < s := by omega
            replace hbe := hide hbe; replace hs' := hide hs'
            clear HO hbf
            go_wp2
            exact ⟨⟨i + 1, s', kb, by omega, hsn, hkn, by first | rfl | trivial, by first | rfl | trivial, HO2, hB⟩, by simp [intOf]; omega⟩
      · have hie : i = 7 := by omega
        have hs1 : s = 1 := by rw [unhide hs, hie]; rfl
        have hge : ¬ (2 : Int) ≤ (s : Int) := by omega
        have HO2 : Hid (OwnV wr w.heap.size 3 (.slice (some ⟨w.heap.size, 0, none⟩) 256 256) ((nttL l).map iv)) := hide (by rw [unhide EF, ← hie]; exact unhide HO)
        replace hie := hide hie; replace hs1 := hide hs1
        clear HO
        go_wp2
        go_ret
        exact ⟨⟨_, rfl, unhide HO2⟩, hB⟩
  · have ha' : okPl l = false := by simpa using ha
    rw [ha'] at CA
    have E := hide (show nttL l = [] by unfold nttL; rw [if_neg ha])
    rw [unhide E]
    obtain ⟨a1, c1, rfl⟩ := ra.shape
    rw [List.length_map] at CA ⊢
    clear ra ha ha'
    go_enter Tryd.func55, Tryd.ntmps55
    go_wp2_with fail
    refine (unhide CA).mono ?_
    rintro e w1 ⟨rfl, q, rfl⟩
    go_wp2
    go_ret
    exact ⟨⟨_, rfl, OwnV.nil _ _ _⟩, bDN (Below.refl _ _) _⟩
set_option maxRecDepth 20000 in
set_option maxHeartbeats 1000000 in
theorem implInvNtt_any (l : List Int) (va : Value) (_ : l.length ≤ 1048576) (w : World) (ra : RdV w va (l.map iv)) :
    Calls Tryd.prog 53 #[va] w fun e w' => (∃ v, e = .returned v ∧ OwnV w' w.heap.size 3 v ((invL l).map iv)) ∧ Below w.heap.size w w' := by
  have CA := hide (implPolyOk_q l va w ra)
  by_cases ha : okPl l = true
  · rw [ha] at CA
    have la := (okPl_yes ha).1
    have EF := hide (invL_is ha)
    have HOK := hide (fun i => inL_ok ha i)
    have CC := hide (fun q => (copied_any l va (w.drewN q) la ra).mono (fun e w' h => (show e = .returned (.slice (some ⟨w.heap.size, 0, none⟩) 256 256) ∧ OwnV w' w.heap.size 3 (.slice (some ⟨w.heap.size, 0, none⟩) 256 256) ((l).map iv) ∧ Below w.heap.size w w' from ⟨h.1, h.2.1, (bDN (Below.refl w.heap.size w) q).trans h.2.2⟩)))
    obtain ⟨a1, c1, rfl⟩ := ra.shape
    rw [List.length_map, la] at CA CC ⊢
    clear ra
    go_enter Tryd.func53, Tryd.ntmps53
    go_wp2_with fail
    refine (unhide CA).mono ?_
    rintro e w1 ⟨rfl, q, rfl⟩
    clear CA
    go_wp2_with fail
    refine (unhide CC q).mono ?_
    rintro e w1 ⟨rfl, hO1, hb1⟩
    clear CC
    have hO1' := hide (show OwnV w1 w.heap.size 3 (.slice (some ⟨w.heap.size, 0, none⟩) 256 256) ((inL l 0).map iv) from hO1)
    clear hO1
    go_wp2
    go_loopw [4, 5] (fun tk ts wr => ∃ (i s K : Nat), i ≤ 7 ∧ Hid (s = szI i) ∧ Hid (K + 1 = 2 ^ (7 - i)) ∧ tk = .int .i64 (K : Int) ∧ ts = .int .i64 (s : Int) ∧ Hid (OwnV wr w.heap.size 3 (.slice (some ⟨w.heap.size, 0, none⟩) 256 256) ((inL l i).map iv)) ∧ Below w.heap.size w wr) (fun _ ts _ => 1000 - (intOf ts).toNat)
    case atStart => exact ⟨0, 2, 127, by omega, hide rfl, hide rfl, rfl, rfl, hO1', hb1⟩
    case round =>
      clear hO1' hb1
      obtain ⟨i, s, K, hii, hs, hK, rfl, rfl, HO, hB⟩ := hrel
      by_cases hlt : i < 7
      · obtain ⟨f0, f1, f2, f3, f4, f5, f6, f7, f8⟩ := szI_facts i hlt
        have HSz : Hid (Sz s) := hide (by rw [unhide hs, f0]; exact sz_ok (6 - i) (by omega))
        obtain ⟨NB, hNB⟩ : ∃ NB, NB = 2 ^ (6 - i) := ⟨_, rfl⟩
        rw [← unhide hs] at f0 f1 f2 f3 f4 f8
        rw [← hNB] at f5 f6 f7 f8
        have hKN : K + 1 = 2 * NB := by rw [unhide hK]; exact f5
        have hge : (s : Int) ≤ 128 := by omega
        have hF := unhide HOK i
        have hFr := hide (okPl_yes hF).2
        have HN := hide (show inL l (i + 1) = mdG s (ily s (zI (6 - i)) (cAt (inL l i))) (cAt (inL l i)) NB 0 by rw [← f8, mdG_end (unhide HSz), f0]; rfl)
        have HO0 : Hid (OwnV wr w.heap.size 3 (.slice (some ⟨w.heap.size, 0, none⟩) 256 256) ((mdG s (ily s (zI (6 - i)) (cAt (inL l i))) (cAt (inL l i)) 0 0).map iv)) := hide (by rw [mdG_start s _ hF]; exact unhide HO)
        replace f8 := hide f8; replace f5 := hide f5; replace f3 := hide f3; replace f0 := hide f0; replace hNB := hide hNB
        clear HO
        go_wp2
        go_loopw [4, 6] (fun tk tst wq => ∃ (b st kb : Nat), b ≤ NB ∧ Hid (st = 2 * b * s) ∧ Hid (kb + b = K) ∧ tst = .int .i64 (st : Int) ∧ tk = .int .i64 (kb : Int) ∧ Hid (OwnV wq w.heap.size 3 (.slice (some ⟨w.heap.size, 0, none⟩) 256 256) ((mdG s (ily s (zI (6 - i)) (cAt (inL l i))) (cAt (inL l i)) b 0).map iv)) ∧ Below w.heap.size w wq) (fun _ tst _ => 1000 - (intOf tst).toNat)
        case atStart => exact ⟨0, 0, K, by omega, hide (by omega), hide (by omega), rfl, rfl, HO0, hB⟩
        case round =>
          clear HO0 hB
          obtain ⟨b, st, kb, hbK, hst, hkb, rfl, rfl, HO, hB⟩ := hrel
          have hbf := blk_facts (unhide HSz) b
          rw [unhide f8] at hbf
          rw [← unhide hst] at hbf
          by_cases hb : b < NB
          · have hst256 := hbf.1.2 hb
            have hst2 := hbf.2.2.1 hb
            have hstI : (st : Int) < 256 := by omega
            have hkb2 : kb < 128 := by have := unhide hkb; omega
            obtain ⟨m, hm⟩ : ∃ m, m = st + s := ⟨_, rfl⟩
            have C0 := hide (fun W => halves_any w.heap.size st s m (m + s) W hm rfl (by omega) (by omega))
            have C1 := hide (fun W => blockFactor_any kb hkb2 W)
            have hZ := zt_rng kb
            have h3 : 2 ^ (6 - i + 1) = 2 ^ (7 - i) := by rw [show 6 - i + 1 = 7 - i by omega]
            have HZ := hide (show zI (6 - i) b = zt kb by
              unfold zI
              rw [h3, ← unhide hK, show K + 1 - 1 - b = kb by have h1 := unhide hkb; omega])
            clear h3
            generalize zt kb = Z at *
            have C2 := hide (fun W h => join_any s b st m w.heap.size w.heap.size Z (zI (6 - i)) (cAt (inL l i)) W (unhide HSz) (by rw [unhide f8]; exact hb) (unhide hst) hm (unhide HZ) hZ (unhide hFr) (Nat.le_refl _) h)
            obtain ⟨kc, hkc⟩ : ∃ kc : Nat, kc + 1 = kb := ⟨kb - 1, by have := unhide hkb; omega⟩
            have wk : IntKind.i64.wrap ((kb : Int) - 1) = (kc : Int) := by rw [IntKind.wrap_i64]; omega
            have hkn := hide (show kc + (b + 1) = K by have h1 := unhide hkb; omega)
            replace hkc := hide hkc
            obtain ⟨s2, hs2⟩ : ∃ s2 : Nat, s2 = 2 * s := ⟨_, rfl⟩
            obtain ⟨st2, hst3⟩ : ∃ st2 : Nat, st2 = st + s2 := ⟨_, rfl⟩
            have w1 : IntKind.i64.wrap (2 * (s : Int)) = (s2 : Int) := by rw [IntKind.wrap_i64]; omega
            have w2 : IntKind.i64.wrap ((st : Int) + (s2 : Int)) = (st2 : Int) := by rw [IntKind.wrap_i64]; omega
            have hstn := hide (show st2 = 2 * (b + 1) * s by rw [hbf.2.1]; omega)
            have hinc : st < st2 ∧ st2 ≤ 256 := by omega
            replace hs2 := hide hs2; replace hst3 := hide hst3; replace hm := hide hm
            clear hbf hst2 hst256
            go_wp2_with fail
            refine ((unhide C0) wr).mono ?_
            rintro e w3 ⟨rfl, q3, rfl⟩
            have HO3 : Hid (OwnV (wr.drewN q3) w.heap.size 3 (.slice (some ⟨w.heap.size, 0, none⟩) 256 256) ((mdG s (ily s (zI (6 - i)) (cAt (inL l i))) (cAt (inL l i)) b 0).map iv)) := HO
            have hB3 := bDN hB q3
            generalize wr.drewN q3 = w3 at *
            clear HO hB C0
            go_wp2_with fail
            refine ((unhide C1) w3).mono ?_
            rintro e w4 ⟨rfl, hw4⟩
            have hw5 := hw4.symm
            subst hw5
            clear hw4 C1
            go_wp2_with fail
            refine ((unhide C2) w3 (unhide HO3)).mono ?_
            rintro e w4 ⟨rfl, hO4, hB4⟩
            have HO4 := hide hO4
            have hB5 := hB3.trans hB4
            clear HO3 hB3 hO4 hB4 C2
            go_wp2
            exact ⟨⟨b + 1, st2, kc, by omega, hstn, hkn, by first | rfl | trivial, by first | rfl | trivial, HO4, hB5⟩, by simp [intOf]; omega⟩
          · have hbe : b = NB := by omega
            have hst256 : ¬ st < 256 := fun h => hb (hbf.1.1 h)
            have hstI : ¬ (st : Int) < 256 := by omega
            have HO2 : Hid (OwnV wr w.heap.size 3 (.slice (some ⟨w.heap.size, 0, none⟩) 256 256) ((inL l (i + 1)).map iv)) := hide (by rw [unhide HN, ← hbe]; exact unhide HO)
            obtain ⟨s', hs'⟩ : ∃ s' : Nat, s' = s * 2 := ⟨_, rfl⟩
            have w1 : IntKind.i64.wrap ((s : Int) * 2) = (s' : Int) := by rw [IntKind.wrap_i64]; omega
            have hsn := hide (show s' = szI (i + 1) by rw [unhide f3]; exact hs')
            have hkn := hide (show kb + 1 = 2 ^ (7 - (i + 1)) by rw [show 7 - (i + 1) = 6 - i by omega, ← unhide hNB]; have := unhide hkb; omega)
            have hdec : s < s' := by omega
            replace hbe := hide hbe; replace hs' := hide hs'
            clear HO hbf
            go_wp2
            exact ⟨⟨i + 1, s', kb, by omega, hsn, hkn, by first | rfl | trivial, by first | rfl | trivial, HO2, hB⟩, by simp [intOf]; omega⟩
      · have hie : i = 7 := by omega
        have hs1 : s = 256 := by rw [unhide hs, hie]; rfl
        have hge : ¬ (s : Int) ≤ 128 := by omega
        obtain ⟨G, hG⟩ : ∃ G, G = cAt (inL l 7) := ⟨_, rfl⟩
        have hGr := hide (show ∀ t, t < 256 → 0 ≤ G t ∧ G t ≤ 3328 by rw [hG]; exact (okPl_yes (unhide HOK 7)).2)
        have HO2 : Hid (OwnV wr w.heap.size 3 (.slice (some ⟨w.heap.size, 0, none⟩) 256 256) ((fnL G 0).map iv)) := hide (by rw [hG, fnL_start (unhide HOK 7), ← hie]; exact unhide HO)
        have EG := hide (show invL l = fnL G 256 by rw [unhide EF, fnL_end, hG])
        replace hie := hide hie; replace hs1 := hide hs1; replace hG := hide hG
        clear HO
        go_wp2
        go_loopw [42] (fun tj wr => ∃ k : Nat, k ≤ 256 ∧ tj = .int .i64 (k : Int) ∧ Hid (OwnV wr w.heap.size 3 (.slice (some ⟨w.heap.size, 0, none⟩) 256 256) ((fnL G k).map iv)) ∧ Below w.heap.size w wr) (fun tj _ => 1000 - (intOf tj).toNat)
        case atStart => exact ⟨0, by omega, rfl, HO2, hB⟩
        case round =>
          clear HO2 hB
          obtain ⟨k, hk, rfl, HO, hB⟩ := hrel
          by_cases hk2 : k < 256
          · have hk' : (k : Int) < 256 := by omega
            have hk0 : (0 : Int) ≤ (k : Int) := by omega
            have cj := (unhide HO).cell (get_iv _ k (by rw [fnL_len]; exact hk2))
            have zj := (unhide HO).frozen k
            rw [fnL_old G k hk2] at cj
            have stp := fnL_step G k hk2
            have x1 := unhide hGr k hk2
            obtain ⟨x, hx⟩ : ∃ x, x = G k := ⟨_, rfl⟩
            rw [← hx] at cj stp x1
            obtain ⟨p, hp⟩ : ∃ p, p = x * 3303 := ⟨_, rfl⟩
            rw [← hp] at stp
            have q1 : IntKind.i64.wrap (x * 3303) = p := by rw [IntKind.wrap_i64]; omega
            have C1 := hide (fun W => around_any p W)
            obtain ⟨v, hv⟩ : ∃ v, v = p % 3329 := ⟨_, rfl⟩
            rw [← hv] at stp C1
            have hO2 := (unhide HO).set k (.int .i64 v)
            rw [set_iv, stp] at hO2
            have hB2 := hB.setCell (p := ⟨w.heap.size, k, none⟩) (Nat.le_refl _) (.int .i64 v)
            replace hO2 := hide hO2; replace hB2 := hide hB2; replace hx := hide hx; replace hp := hide hp; replace hv := hide hv
            clear HO hB stp
            go_wp2_with fail
            refine ((unhide C1) _).mono ?_
            rintro e w4 ⟨rfl, hw4⟩
            have hw5 := hw4.symm
            subst hw5
            clear hw4 C1
            go_wp2
            exact ⟨⟨k + 1, by omega, by go_num, hO2, unhide hB2⟩, by simp [intOf]; omega⟩
          · have hk' : ¬ (k : Int) < 256 := by omega
            have hke : k = 256 := by omega
            have HO3 : Hid (OwnV wr w.heap.size 3 (.slice (some ⟨w.heap.size, 0, none⟩) 256 256) ((invL l).map iv)) := hide (by rw [unhide EG]; have h := unhide HO; rw [hke] at h; exact h)
            replace hke := hide hke
            clear HO
            go_wp2
            go_ret
            exact ⟨⟨_, rfl, unhide HO3⟩, hB⟩
  · have ha' : okPl l = false := by simpa using ha
    rw [ha'] at CA
    have E := hide (show invL l = [] by unfold invL; rw [if_neg ha])
    rw [unhide E]
    obtain ⟨a1, c1, rfl⟩ := ra.shape
    rw [List.length_map] at CA ⊢
    clear ra ha ha'
    go_enter Tryd.func53, Tryd.ntmps53
    go_wp2_with fail
    refine (unhide CA).mono ?_
    rintro e w1 ⟨rfl, q, rfl⟩
    go_wp2
    go_ret
    exact ⟨⟨_, rfl, OwnV.nil _ _ _⟩, bDN (Below.refl _ _) _⟩
end Go.Proofs.YthjgmpfdjhegfasDoor

/- Products of transforms by the project: pairs, over the loaded program. -/
namespace Go.Proofs.YthjgmpfdjhegfasDoor
open Go.RowKit
theorem pairFactor_any (k : Nat) (hk : k < 128) (g : Int) (hg : powQ 17 ((2 * t7 k + 1 : Nat) : Int) = g) (w : World) :
    Calls Tryd.prog 82 #[.int .i64 (k : Int)] w fun e w' => e = .returned (.int .i64 g) ∧ w' = w := by
  obtain ⟨T1, T2⟩ := zt_turn k hk
  have C1 := hide (implTurn7_w (k : Int) w)
  have C2 := hide (implPowQ_w 17 ((2 * t7 k + 1 : Nat) : Int) w)
  rw [T1] at C1
  rw [hg] at C2
  have hl := t7_lt k
  obtain ⟨m, hm⟩ : ∃ m : Nat, m = 2 * t7 k := ⟨_, rfl⟩
  obtain ⟨n, hn⟩ : ∃ n : Nat, n = m + 1 := ⟨_, rfl⟩
  rw [← hm, ← hn] at C2
  have w1 : IntKind.i64.wrap (2 * (t7 k : Int)) = (m : Int) := by rw [IntKind.wrap_i64]; omega
  have w2 : IntKind.i64.wrap ((m : Int) + 1) = (n : Int) := by rw [IntKind.wrap_i64]; omega
  clear T1 T2 hg
  replace hm := hide hm; replace hn := hide hn
  generalize t7 k = tz at *
  go_enter Tryd.func82, Tryd.ntmps82
  go_wp2_with fail
  refine (unhide C1).mono ?_
  rintro e w2 ⟨rfl, rfl⟩
  go_wp2_with fail
  refine (unhide C2).mono ?_
  rintro e w2 ⟨rfl, rfl⟩
  go_wp2
  go_ret
  exact ⟨rfl, rfl⟩
set_option maxRecDepth 20000 in
theorem pairAt_any (g o c i m en : Nat) (w : World) (hi : i < 128) (hm : m = 2 * i) (he : en = m + 2) (hc : 256 ≤ c) :
    Calls Tryd.prog 81 #[.slice (some ⟨g, o, none⟩) 256 c, .int .i64 (i : Int)] w fun e w' => e = .returned (.slice (some ⟨g, o + m, none⟩) 2 2) ∧ w' = w := by
  have w1 : IntKind.i64.wrap (2 * (i : Int)) = (m : Int) := by rw [IntKind.wrap_i64]; omega
  have w2 : IntKind.i64.wrap ((m : Int) + 2) = (en : Int) := by rw [IntKind.wrap_i64]; omega
  have a1 : (0 : Int) ≤ (m : Int) := by omega
  have a2 : (m : Int) ≤ (en : Int) := by omega
  have a3 : (en : Int) ≤ (c : Int) := by omega
  have a4 : (0 : Int) ≤ (en : Int) := by omega
  have b1 : en - m = 2 := by omega
  have b2 : ¬ en = m := by omega
  replace hm := hide hm; replace he := hide he; replace hc := hide hc; replace hi := hide hi
  go_enter Tryd.func81, Tryd.ntmps81
  go_wp2
  go_ret
  exact ⟨rfl, rfl⟩
set_option maxRecDepth 20000 in
set_option maxHeartbeats 800000 in
theorem pairProduct_any (A0 A1 B0 B1 g : Int) (ga oa gb ob : Nat) (w : World) (hga : ga < w.heap.size) (hgb : gb < w.heap.size) (dA0 : w.cell? ⟨ga, oa, none⟩ = some (.int .i64 A0)) (dA1 : w.cell? ⟨ga, oa + 1, none⟩ = some (.int .i64 A1)) (dB0 : w.cell? ⟨gb, ob, none⟩ = some (.int .i64 B0)) (dB1 : w.cell? ⟨gb, ob + 1, none⟩ = some (.int .i64 B1))
    (bA0 : 0 ≤ A0 ∧ A0 ≤ 3328) (bA1 : 0 ≤ A1 ∧ A1 ≤ 3328) (bB0 : 0 ≤ B0 ∧ B0 ≤ 3328) (bB1 : 0 ≤ B1 ∧ B1 ≤ 3328) (bg : 0 ≤ g ∧ g ≤ 3328) :
    Calls Tryd.prog 80 #[.slice (some ⟨ga, oa, none⟩) 2 2, .slice (some ⟨gb, ob, none⟩) 2 2, .int .i64 g] w fun e w' => e = .returned (.agg #[.int .i64 ((A0 * B0 + A1 * B1 * g) % 3329), .int .i64 ((A0 * B1 + A1 * B0) % 3329)]) ∧ Below w.heap.size w w' := by
  have m00 := mul_rng bA0 bB0
  have m11 := mul_rng bA1 bB1
  have m01 := mul_rng bA0 bB1
  have m10 := mul_rng bA1 bB0
  obtain ⟨P00, h00⟩ : ∃ p, p = A0 * B0 := ⟨_, rfl⟩
  obtain ⟨P11, h11⟩ : ∃ p, p = A1 * B1 := ⟨_, rfl⟩
  obtain ⟨P01, h01⟩ : ∃ p, p = A0 * B1 := ⟨_, rfl⟩
  obtain ⟨P10, h10⟩ : ∃ p, p = A1 * B0 := ⟨_, rfl⟩
  rw [← h00] at m00 ⊢
  rw [← h11] at m11 ⊢
  rw [← h01] at m01 ⊢
  rw [← h10] at m10 ⊢
  have x1 : 0 ≤ P11 * g := Int.mul_nonneg m11.1 bg.1
  have x2 : P11 * g ≤ 11075584 * 3328 := Int.mul_le_mul m11.2 bg.2 bg.1 (by omega)
  obtain ⟨X, hX⟩ : ∃ p, p = P11 * g := ⟨_, rfl⟩
  rw [← hX] at x1 x2 ⊢
  obtain ⟨S0, hS0⟩ : ∃ p, p = P00 + X := ⟨_, rfl⟩
  obtain ⟨S1, hS1⟩ : ∃ p, p = P01 + P10 := ⟨_, rfl⟩
  rw [← hS0, ← hS1]
  have q1 : IntKind.i64.wrap (A0 * B0) = P00 := by rw [← h00, IntKind.wrap_i64]; omega
  have q2 : IntKind.i64.wrap (A1 * B1) = P11 := by rw [← h11, IntKind.wrap_i64]; omega
  have q3 : IntKind.i64.wrap (P11 * g) = X := by rw [← hX, IntKind.wrap_i64]; omega
  have q4 : IntKind.i64.wrap (P00 + X) = S0 := by rw [IntKind.wrap_i64]; omega
  have q5 : IntKind.i64.wrap (A0 * B1) = P01 := by rw [← h01, IntKind.wrap_i64]; omega
  have q6 : IntKind.i64.wrap (A1 * B0) = P10 := by rw [← h10, IntKind.wrap_i64]; omega
  have q7 : IntKind.i64.wrap (P01 + P10) = S1 := by rw [IntKind.wrap_i64]; omega
  obtain ⟨fz, hfz⟩ : ∃ f : Int → Int, f = fun n => n % 3329 := ⟨_, rfl⟩
  have CI := hide (show ∀ n W, Calls Tryd.prog 66 #[.int .i64 n] W fun e w' => e = .returned (.int .i64 (fz n)) ∧ w' = W from fun n W => by rw [hfz]; exact around_any n W)
  rw [show S0 % 3329 = fz S0 by rw [hfz], show S1 % 3329 = fz S1 by rw [hfz]]
  have KS := hide (fun (W : World) (h : Below w.heap.size w W) => (⟨(h.cell (p := ⟨ga, oa, none⟩) hga).trans dA0, (h.cell (p := ⟨ga, oa + 1, none⟩) hga).trans dA1, (h.cell (p := ⟨gb, ob, none⟩) hgb).trans dB0, (h.cell (p := ⟨gb, ob + 1, none⟩) hgb).trans dB1⟩ : W.cell? ⟨ga, oa, none⟩ = some (.int .i64 A0) ∧ W.cell? ⟨ga, oa + 1, none⟩ = some (.int .i64 A1) ∧ W.cell? ⟨gb, ob, none⟩ = some (.int .i64 B0) ∧ W.cell? ⟨gb, ob + 1, none⟩ = some (.int .i64 B1)))
  replace hfz := hide hfz; replace h00 := hide h00; replace h11 := hide h11; replace h01 := hide h01; replace h10 := hide h10; replace hX := hide hX; replace hS0 := hide hS0; replace hS1 := hide hS1
  clear dA0 dA1 dB0 dB1
  go_enter Tryd.func80, Tryd.ntmps80
  go_wp2
  have hB0 : Below w.heap.size w (w.alloc (.cells #[.int .i64 0, .int .i64 0] 82)) := (Below.refl _ _).alloc (Nat.le_refl _) _
  obtain ⟨s1, s2, s3, s4⟩ := (unhide KS) _ hB0
  go_region_held3 (fun W => W.cell? ⟨ga, oa, none⟩ = some (.int .i64 A0) ∧ W.cell? ⟨ga, oa + 1, none⟩ = some (.int .i64 A1) ∧ W.cell? ⟨gb, ob, none⟩ = some (.int .i64 B0) ∧ W.cell? ⟨gb, ob + 1, none⟩ = some (.int .i64 B1)) (first | exact ⟨s1, s2, s3, s4⟩ | exact (unhide KS) _ ((Below.refl _ _).alloc (Nat.le_refl _) _).drew | fail) (first | (go_at_call 66; refine (unhide CI _ _).mono ?_; rintro e w2 ⟨rfl, rfl⟩))
  go_wp2
  have HX : (w.alloc (.cells #[.int .i64 (fz S0), .int .i64 (fz S1)] 82)).heap[w.heap.size]? = some (.cells #[.int .i64 (fz S0), .int .i64 (fz S1)] 82 (0, 0)) := heap_alloc_new w _
  refine bodyPost_ret (v := .agg #[.int .i64 (fz S0), .int .i64 (fz S1)]) (results_cell_row Tryd.results80 _ _ w.heap.size 82 _ (0, 0) _ rfl HX Tryd.underlying82 rfl (by rfl)) rfl ⟨rfl, ((Below.refl _ _).alloc (Nat.le_refl _) _).drew⟩
end Go.Proofs.YthjgmpfdjhegfasDoor

/- Products of transforms by the project, over the loaded program. -/
namespace Go.Proofs.YthjgmpfdjhegfasDoor
open Go.RowKit
theorem splice_two {α : Type} (L : List α) (o : Nat) (x y : α) (h : o + 1 < L.length) : splice L o [x, y] = (L.set o x).set (o + 1) y := by
  unfold splice
  refine List.ext_getElem? fun i => ?_
  rw [List.getElem?_set, List.getElem?_set, List.length_set, List.getElem?_append, List.length_take, Nat.min_eq_left (by omega)]
  by_cases h1 : i < o
  · rw [if_pos h1, if_neg (by omega), if_neg (by omega), List.getElem?_take, if_pos h1]
  · rw [if_neg h1]
    by_cases h2 : i = o
    · subst h2
      rw [if_neg (by omega), if_pos rfl, if_pos (by omega), Nat.sub_self]
      rfl
    · by_cases h3 : i = o + 1
      · subst h3
        rw [if_pos rfl, if_pos h, show o + 1 - o = 1 by omega]
        rfl
      · obtain ⟨j, rfl⟩ : ∃ j, i = o + 2 + j := ⟨i - (o + 2), by omega⟩
        rw [if_neg (by omega), if_neg (by omega), show o + 2 + j - o = j + 2 by omega]
        show (List.drop (o + 2) L)[j]? = _
        rw [List.getElem?_drop]
theorem filP_two (f : Nat → Int) (k : Nat) (hk : k < 128) : splice ((filP f (2 * k)).map iv) (2 * k) [.int .i64 (f (2 * k)), .int .i64 (f (2 * k + 1))] = (filP f (2 * (k + 1))).map iv := by
  rw [splice_two _ _ _ _ (by rw [List.length_map, filP_len]; omega), set_iv, set_iv, filP_set f _ (by omega), filP_set f _ (by omega)]
  rfl
set_option maxRecDepth 20000 in
set_option maxHeartbeats 1000000 in
theorem implMulNtt_any (a b : List Int) (ua ub : Value) (_ : a.length ≤ 1048576) (_ : b.length ≤ 1048576) (w : World) (ra : RdV w ua (a.map iv)) (rb : RdV w ub (b.map iv)) (ka : CapV ua) (kb : CapV ub) :
    Calls Tryd.prog 72 #[ua, ub] w fun e w' => (∃ v, e = .returned v ∧ OwnV w' w.heap.size 3 v ((mnL a b).map iv)) ∧ Below w.heap.size w w' := by
  have CA := hide (implPolyOk_q a ua w ra)
  have CB := hide (fun q => implPolyOk_q b ub (w.drewN q) rb)
  cases ha : okPl a with
  | true =>
    rw [ha] at CA
    cases hb : okPl b with
    | true =>
      rw [hb] at CB
      obtain ⟨i0, hi, hz0, hz1, hz2⟩ := info_parts infoInt
      have hsz : (Tryd.prog.info? 3).map (·.size) = some 1 := by rw [hi]; exact congrArg some hz1
      obtain ⟨la, va'⟩ := okPl_yes ha
      obtain ⟨lb, vb'⟩ := okPl_yes hb
      obtain ⟨f, hf⟩ : ∃ f : Nat → Int, f = fun t => mnF (cAt a) (cAt b) t % 3329 := ⟨_, rfl⟩
      have EF := hide (show mnL a b = filP f 256 by rw [filP_end, hf]; exact mnL_is ha hb)
      obtain ⟨a1, c1, rfl, hc1⟩ := ra.open
      obtain ⟨a2, c2, rfl, hc2⟩ := rb.open
      have hca : 256 ≤ c1 := by have := ka _ _ _ rfl; rw [List.length_map, la] at this; exact this
      have hcb : 256 ≤ c2 := by have := kb _ _ _ rfl; rw [List.length_map, lb] at this; exact this
      rw [List.length_map, la] at CA ⊢
      rw [List.length_map, lb] at CB ⊢
      clear ra rb ka kb
      obtain ⟨g1, o1, rfl, hg1, _⟩ := hc1 0 _ (get_iv a 0 (by omega))
      obtain ⟨g2, o2, rfl, hg2, _⟩ := hc2 0 _ (get_iv b 0 (by omega))
      have DA := hide (show ∀ k, k < 256 → w.cell? ⟨g1, o1 + k, none⟩ = some (.int .i64 (cAt a k)) from fun k hk => by
        obtain ⟨g', o', he, _, hd⟩ := hc1 k _ (get_iv a k (by omega))
        cases he
        exact hd)
      have DB := hide (show ∀ k, k < 256 → w.cell? ⟨g2, o2 + k, none⟩ = some (.int .i64 (cAt b k)) from fun k hk => by
        obtain ⟨g', o', he, _, hd⟩ := hc2 k _ (get_iv b k (by omega))
        cases he
        exact hd)
      have BN := hide (fun q => bDN (Below.refl w.heap.size w) q)
      clear hc1 hc2 ha hb
      replace va' := hide va'; replace vb' := hide vb'; replace la := hide la; replace lb := hide lb; replace hf := hide hf
      go_enter Tryd.func72, Tryd.ntmps72
      go_wp2_with fail
      refine (unhide CA).mono ?_
      rintro e w1 ⟨rfl, q, rfl⟩
      go_wp2_with fail
      refine (unhide CB q).mono ?_
      rintro e w1 ⟨rfl, q2, rfl⟩
      clear CA CB
      have hBq : Below w.heap.size w ((w.drewN q).drewN q2) := bDN (bDN (Below.refl w.heap.size w) q) q2
      have hszq : ((w.drewN q).drewN q2).heap.size = w.heap.size := rfl
      generalize (w.drewN q).drewN q2 = w0 at *
      replace hszq := hide hszq
      go_wp2_with (at_make; refine wpList_make_full _ rfl _ _ 31 rfl w0.heap.size 3 i0 (.int .i64 0) 1 Tryd.underlying31 hi hz0 hz1 _ _ _ _ 256 rfl rfl rfl rfl (by rw [hz2]; omega) (by unfold maxLen; omega) (Nat.le_refl _) ?_; intro w1 hown1 hgrow1)
      have hr0 : OwnV w1 w0.heap.size 3 (.slice (some ⟨w0.heap.size, 0, none⟩) 256 256) ((filP f 0).map iv) := by
        rw [filP_zero]
        rw [madeI] at hown1
        unfold OwnV
        simpa [iv] using hown1
      have hb0 : Below w.heap.size w w1 := hBq.grown hgrow1 (by have := unhide hszq; omega) (fun k hk => by cases hk)
      have hG : w.heap.size ≤ w0.heap.size := by have := unhide hszq; omega
      replace hr0 := hide (hr0.low hG)
      clear hown1 hgrow1 hszq hBq BN
      generalize w0.heap.size = G at *
      go_loopw [17] (fun ti wr => ∃ k : Nat, k ≤ 128 ∧ ti = .int .i64 (k : Int) ∧ Hid (OwnV wr w.heap.size 3 (.slice (some ⟨G, 0, none⟩) 256 256) ((filP f (2 * k)).map iv)) ∧ Below w.heap.size w wr) (fun ti _ => 128 - (intOf ti).toNat)
      case atStart => exact ⟨0, by omega, rfl, hr0, hb0⟩
      case round =>
        clear hr0 hb0
        obtain ⟨k, hk, rfl, HO, hB⟩ := hrel
        by_cases hlt : k < 128
        · have hk' : (k : Int) < 128 := by omega
          obtain ⟨k2, hk2⟩ : ∃ k2 : Nat, k2 = 2 * k := ⟨_, rfl⟩
          obtain ⟨k4, hk4⟩ : ∃ k4 : Nat, k4 = k2 + 2 := ⟨_, rfl⟩
          have hg := gm_rng k
          have C1 := hide (fun W => pairAt_any g1 o1 c1 k k2 k4 W hlt hk2 hk4 hca)
          have C2 := hide (fun W => pairAt_any g2 o2 c2 k k2 k4 W hlt hk2 hk4 hcb)
          have C5 := hide (fun W => pairAt_any G 0 256 k k2 k4 W hlt hk2 hk4 (by omega))
          rw [Nat.zero_add] at C5
          have C3 := hide (fun W => pairFactor_any k hlt (gm k) (by rw [show ((2 * t7 k + 1 : Nat) : Int) = 2 * (t7 k : Int) + 1 by omega]; exact gm_pow k) W)
          have dA0 := unhide DA (2 * k) (by omega)
          have dA1 := unhide DA (2 * k + 1) (by omega)
          have dB0 := unhide DB (2 * k) (by omega)
          have dB1 := unhide DB (2 * k + 1) (by omega)
          have bA0 := unhide va' (2 * k) (by omega)
          have bA1 := unhide va' (2 * k + 1) (by omega)
          have bB0 := unhide vb' (2 * k) (by omega)
          have bB1 := unhide vb' (2 * k + 1) (by omega)
          have F0 : f (2 * k) = (cAt a (2 * k) * cAt b (2 * k) + cAt a (2 * k + 1) * cAt b (2 * k + 1) * gm k) % 3329 := by rw [unhide hf]; show mnF (cAt a) (cAt b) (2 * k) % 3329 = _; rw [mnF_even]
          have F1 : f (2 * k + 1) = (cAt a (2 * k) * cAt b (2 * k + 1) + cAt a (2 * k + 1) * cAt b (2 * k)) % 3329 := by rw [unhide hf]; show mnF (cAt a) (cAt b) (2 * k + 1) % 3329 = _; rw [mnF_odd]
          have HSP := filP_two f k hlt
          rw [← hk2] at dA0 dB0 dA1 dB1 bA0 bB0 bA1 bB1 F0 F1 HSP HO
          rw [← Nat.add_assoc] at dA1 dB1
          have C4 := hide (fun (W : World) (h : Below w.heap.size w W) => pairProduct_any _ _ _ _ (gm k) g1 (o1 + k2) g2 (o2 + k2) W (Nat.lt_of_lt_of_le hg1 h.size) (Nat.lt_of_lt_of_le hg2 h.size) ((h.cell (p := ⟨g1, o1 + k2, none⟩) hg1).trans dA0) ((h.cell (p := ⟨g1, o1 + k2 + 1, none⟩) hg1).trans dA1) ((h.cell (p := ⟨g2, o2 + k2, none⟩) hg2).trans dB0) ((h.cell (p := ⟨g2, o2 + k2 + 1, none⟩) hg2).trans dB1) bA0 bA1 bB0 bB1 hg)
          rw [← F0, ← F1] at C4
          clear dA0 dA1 dB0 dB1 bA0 bA1 bB0 bB1 F0 F1
          generalize gm k = gk at *
          obtain ⟨x0, hx0⟩ : ∃ x, x = f k2 := ⟨_, rfl⟩
          obtain ⟨x1, hx1⟩ : ∃ x, x = f (k2 + 1) := ⟨_, rfl⟩
          rw [← hx0, ← hx1] at C4 HSP
          obtain ⟨_, hml, hln, hrow⟩ := (unhide HO).full
          have hgt := ((unhide HO).lt G rfl).2
          obtain ⟨L, hL⟩ : ∃ L, L = (filP f k2).map iv := ⟨_, rfl⟩
          rw [← hL] at hrow hln HSP
          have h24 : k2 + 2 ≤ 256 := by omega
          replace hk2 := hide hk2; replace hk4 := hide hk4; replace hx0 := hide hx0; replace hx1 := hide hx1; replace hL := hide hL; replace HSP := hide HSP; replace hrow := hide hrow
          clear HO DA DB
          go_wp2_with fail
          refine ((unhide C1) wr).mono ?_
          rintro e w2 ⟨rfl, hw2⟩
          have hw3 := hw2.symm
          subst hw3
          clear hw2 C1
          go_wp2_with fail
          refine ((unhide C2) wr).mono ?_
          rintro e w2 ⟨rfl, hw2⟩
          have hw3 := hw2.symm
          subst hw3
          clear hw2 C2
          go_wp2_with fail
          refine ((unhide C3) wr).mono ?_
          rintro e w2 ⟨rfl, hw2⟩
          have hw3 := hw2.symm
          subst hw3
          clear hw2 C3
          go_wp2_with fail
          refine ((unhide C4) wr hB).mono ?_
          rintro e w2 ⟨rfl, hb2⟩
          have hrow2 : w2.heap[G]? = some (.cells L.toArray 3 (0, 0)) := by rw [hb2.block G hgt]; exact unhide hrow
          have hB2 := hB.trans (hb2.mono hB.size)
          have hG2 : G < w2.heap.size := Nat.lt_of_lt_of_le hgt hb2.size
          clear C4 hb2 hrow hB
          go_wp2
          have hrow3 : (w2.alloc (.cells #[.int .i64 x0, .int .i64 x1] 82)).heap[G]? = some (.cells L.toArray 3 (0, 0)) := by rw [((Below.refl w2.heap.size w2).alloc (Nat.le_refl _) _).block G hG2]; exact hrow2
          have hB3 := hB2.alloc hB2.size (.cells #[.int .i64 x0, .int .i64 x1] 82)
          have hprd : (w2.alloc (.cells #[.int .i64 x0, .int .i64 x1] 82)).heap[w2.heap.size]? = some (.cells #[.int .i64 x0, .int .i64 x1] 82 (0, 0)) := heap_alloc_new w2 _
          have hGP : ¬ G = w2.heap.size := by omega
          generalize w2.alloc (.cells #[.int .i64 x0, .int .i64 x1] 82) = W3 at *
          generalize w2.heap.size = P at *
          have hsrc := hide (show ∀ W : World, W.heap[P]? = some (.cells #[.int .i64 x0, .int .i64 x1] 82 (0, 0)) → ∀ j v, [Value.int .i64 x0, .int .i64 x1][j]? = some v → W.cell? ((⟨P, 0, none⟩ : Addr).add j) = some v from fun W hW j v hv => by
            have hadd : (⟨P, 0, none⟩ : Addr).add j = ⟨P, j, none⟩ := by unfold Addr.add; split <;> simp_all
            rw [hadd, cell_of_row W P j _ _ (0, 0) hW]
            simpa using hv)
          have hone := hide (show ∀ v ∈ [Value.int .i64 x0, .int .i64 x1], v.oneCell' = true from fun v hv => by
            rcases List.mem_cons.1 hv with rfl | hv
            · rfl
            · rcases List.mem_cons.1 hv with rfl | hv
              · rfl
              · cases hv)
          obtain ⟨cs, hcs⟩ : ∃ cs, cs = [Value.int .i64 x0, .int .i64 x1] := ⟨_, rfl⟩
          have hcl : cs.length = 2 := by rw [hcs]; rfl
          rw [← hcs] at hsrc hone HSP hprd
          replace hcs := hide hcs
          clear hrow2 hB2 hG2
          go_region_law (first
            | (refine step_copy_splice rfl (.tmp 31) (.tmp 32) 31 31 rfl 3 Tryd.underlying31 hsz _ _ 2 2 2 2 rfl rfl G k2 L 3 (by exact hrow3) cs (hcl.trans (by decide)) (fun _ => ⟨rfl, _, rfl, unhide hsrc _ (by exact hprd)⟩) (by omega) (unhide hone) w.heap.size w (by exact hB3.drew) (by omega) ?_; intro w5 hO5 hB5)
            | (refine step_call rfl (F := 81) ((unhide C5) _) (by go_simp) ?_; rintro e w4 ⟨rfl, hw4⟩; refine ⟨_, rfl, ?_⟩; have hw5 := hw4.symm; subst hw5))
          have HO5 := hide (ownV_of_full (w := w5) (base := w.heap.size) (e := 3) hG hml (by rw [List.length_map, filP_len]) (by rw [← unhide HSP]; exact unhide hO5) : OwnV w5 w.heap.size 3 (.slice (some ⟨G, 0, none⟩) 256 256) ((filP f (2 * (k + 1))).map iv))
          clear hO5 hrow3 hprd hsrc hone HSP
          go_wp2
          exact ⟨⟨k + 1, by omega, by go_num, HO5, hB5⟩, by simp [intOf]; omega⟩
        · have hk' : ¬ (k : Int) < 128 := by omega
          have hke : k = 128 := by omega
          have HO3 : Hid (OwnV wr w.heap.size 3 (.slice (some ⟨G, 0, none⟩) 256 256) ((mnL a b).map iv)) := hide (by rw [unhide EF]; have h := unhide HO; rw [hke] at h; exact h)
          replace hke := hide hke
          clear HO
          go_wp2
          go_ret
          exact ⟨⟨_, rfl, unhide HO3⟩, hB⟩
    | false =>
      rw [hb] at CB
      have E := hide (show mnL a b = [] by unfold mnL; rw [bothP_no2 hb]; rfl)
      rw [unhide E]
      obtain ⟨a1, c1, rfl⟩ := ra.shape
      obtain ⟨a2, c2, rfl⟩ := rb.shape
      simp only [List.length_map] at CA CB ⊢
      clear ra rb ka kb ha hb
      go_enter Tryd.func72, Tryd.ntmps72
      go_wp2_with fail
      refine (unhide CA).mono ?_
      rintro e w1 ⟨rfl, q, rfl⟩
      go_wp2_with fail
      refine (unhide CB q).mono ?_
      rintro e w1 ⟨rfl, q2, rfl⟩
      go_wp2
      go_ret
      exact ⟨⟨_, rfl, OwnV.nil _ _ _⟩, by first | exact bDN (bDN (Below.refl _ _) _) _ | exact bDN (Below.refl _ _) _⟩
  | false =>
    rw [ha] at CA
    have E := hide (show mnL a b = [] by unfold mnL; rw [bothP_no1 ha]; rfl)
    rw [unhide E]
    obtain ⟨a1, c1, rfl⟩ := ra.shape
    obtain ⟨a2, c2, rfl⟩ := rb.shape
    simp only [List.length_map] at CA ⊢
    clear ra rb ka kb ha CB
    go_enter Tryd.func72, Tryd.ntmps72
    go_wp2_with fail
    refine (unhide CA).mono ?_
    rintro e w1 ⟨rfl, q, rfl⟩
    go_wp2
    go_ret
    exact ⟨⟨_, rfl, OwnV.nil _ _ _⟩, bDN (Below.refl _ _) _⟩
end Go.Proofs.YthjgmpfdjhegfasDoor

/- A secret handed over, by the project: rows of polynomials transformed and multiplied, over the loaded program. -/
namespace Go.Proofs.YthjgmpfdjhegfasDoor
open Go.RowKit
/-- Two rows of numbers that are read. -/
def Rd2 (w : World) (v0 v1 : Value) (A : Nat → List Int) : Prop := RdV w v0 ((A 0).map iv) ∧ RdV w v1 ((A 1).map iv)
theorem Own2.rd {w : World} {base : Nat} {v0 v1 : Value} {A : Nat → List Int} (h : Own2 w base v0 v1 A) : Rd2 w v0 v1 A := ⟨h.1.rdv, h.2.rdv⟩
theorem Rd2.below {w w' : World} {v0 v1 : Value} {A : Nat → List Int} (h : Rd2 w v0 v1 A) (hb : Below w.heap.size w w') : Rd2 w' v0 v1 A := ⟨h.1.below hb, h.2.below hb⟩
def pick2 (v0 v1 : Value) (k : Nat) : Value := if k = 0 then v0 else v1
theorem Rd2.pick {w : World} {v0 v1 : Value} {A : Nat → List Int} (h : Rd2 w v0 v1 A) (k : Nat) (hk : k < 2) : RdV w (pick2 v0 v1 k) ((A k).map iv) := by
  have h2 : k = 0 ∨ k = 1 := by omega
  rcases h2 with rfl | rfl
  · exact h.1
  · exact h.2
theorem Own2.shape {w : World} {base : Nat} {v0 v1 : Value} {A : Nat → List Int} (h : Own2 w base v0 v1 A) : ∃ a0 n0 q0 a1 n1 q1, v0 = .slice a0 n0 q0 ∧ v1 = .slice a1 n1 q1 := by
  obtain ⟨a, q, h1⟩ := h.1.shape
  obtain ⟨b, r, h2⟩ := h.2.shape
  exact ⟨a, _, q, b, _, r, h1, h2⟩
theorem pick_slice (a0 : Option Addr) (n0 q0 : Nat) (a1 : Option Addr) (n1 q1 k : Nat) : ∃ a n q, pick2 (.slice a0 n0 q0) (.slice a1 n1 q1) k = .slice a n q := by
  unfold pick2
  split
  · exact ⟨_, _, _, rfl⟩
  · exact ⟨_, _, _, rfl⟩
theorem nttL_len13 (a : List Int) : (nttL a).length ≤ 256 := by
  by_cases h : okPl a = true
  · exact Nat.le_of_eq (okPl_yes (nttL_ok h)).1
  · unfold nttL; rw [if_neg h]; exact Nat.zero_le _
theorem invL_len13 (a : List Int) : (invL a).length ≤ 256 := by
  by_cases h : okPl a = true
  · exact Nat.le_of_eq (okPl_yes (invL_ok h)).1
  · unfold invL; rw [if_neg h]; exact Nat.zero_le _
theorem addL_len13 (a b : List Int) : (addL a b).length ≤ 256 := by
  unfold addL
  split
  · rw [mk256_len]; exact Nat.le_refl _
  · show 0 ≤ _; omega
theorem mnL_len13 (a b : List Int) : (mnL a b).length ≤ 256 := by
  unfold mnL
  split
  · rw [mk256_len]; exact Nat.le_refl _
  · show 0 ≤ _; omega
theorem sumK_len13 (A B : Nat → List Int) (k : Nat) : (sumK A B k).length ≤ 256 := by
  cases k with
  | zero => show zeroL.length ≤ 256; unfold zeroL; rw [List.length_replicate]; exact Nat.le_refl _
  | succ k => exact addL_len13 _ _
theorem idx13a (a : Option Addr) (n q : Nat) (v1 : Value) (W : World) : (Instr.index 33 (.agg #[.slice a n q, v1]) (.int .i64 0)).run Tryd.prog W = .ok (.slice a n q) W := by kernel_rfl
theorem idx13b (a : Option Addr) (n q : Nat) (v0 : Value) (W : World) : (Instr.index 33 (.agg #[v0, .slice a n q]) (.int .i64 1)).run Tryd.prog W = .ok (.slice a n q) W := by kernel_rfl
theorem idx13 (v0 v1 : Value) (k : Nat) (hk : k < 2) (a : Option Addr) (n q : Nat) (hv : pick2 v0 v1 k = .slice a n q) (W : World) : (Instr.index 33 (.agg #[v0, v1]) (.int .i64 (k : Int))).run Tryd.prog W = .ok (.slice a n q) W := by
  have h2 : k = 0 ∨ k = 1 := by omega
  rcases h2 with rfl | rfl
  · have h3 : v0 = .slice a n q := hv
    subst h3
    exact idx13a a n q v1 W
  · have h3 : v1 = .slice a n q := hv
    subst h3
    exact idx13b a n q v0 W
set_option maxRecDepth 20000 in
set_option maxHeartbeats 800000 in
theorem transformed_any (A : Nat → List Int) (hA : ∀ i, i < 2 → (A i).length ≤ 1048576) (a0 : Option Addr) (n0 q0 : Nat) (a1 : Option Addr) (n1 q1 : Nat) (w : World) (r : Rd2 w (.slice a0 n0 q0) (.slice a1 n1 q1) A) :
    Calls Tryd.prog 35 #[.agg #[.slice a0 n0 q0, .slice a1 n1 q1]] w fun e w' => (∃ v0 v1, e = .returned (.agg #[v0, v1]) ∧ Own2 w' w.heap.size v0 v1 (fun i => nttL (A i))) ∧ Below w.heap.size w w' := by
  have CN := hide (fun (k : Nat) (hk : k < 2) W (hB : Below w.heap.size w W) => implNtt_any (A k) (pick2 (.slice a0 n0 q0) (.slice a1 n1 q1) k) (hA k hk) W ((r.below hB).pick k hk))
  have ER := hide (show ∀ i, (fun i => nttL (A i)) i = nttL (A i) from fun i => rfl)
  generalize (fun i => nttL (A i)) = R at *
  have HI := hide (fun (k : Nat) (hk : k < 2) a n q hv W => idx13 (.slice a0 n0 q0) (.slice a1 n1 q1) k hk a n q hv W)
  have HP := hide (pick_slice a0 n0 q0 a1 n1 q1)
  clear r hA
  obtain ⟨g1, hg1⟩ : ∃ g, g = w.heap.size + 1 := ⟨_, rfl⟩
  go_enter Tryd.func35, Tryd.ntmps35
  go_wp2
  obtain ⟨W, hW, hA1, hR1, hb, hlt⟩ := two_cb w #[.slice a0 n0 q0, .slice a1 n1 q1] #[.slice none 0 0, .slice none 0 0] 33 33
  rw [hW]
  rw [← hg1] at hR1 hlt
  have hg0 : w.heap.size < g1 := by omega
  rw [show w.heap.size + 1 = g1 from hg1.symm]
  replace hg1 := hide hg1
  clear hW
  go_loopw [6] (fun ti wr => ∃ (k : Nat) (c0 c1 : Value), k ≤ 2 ∧ ti = .int .i64 (k : Int) ∧ Hid (CB wr w.heap.size 33 #[c0, c1]) ∧ Hid (CB wr g1 33 #[.slice none 0 0, .slice none 0 0]) ∧ Hid (0 < k → OwnV wr w.heap.size 3 c0 ((R 0).map iv)) ∧ Hid (1 < k → OwnV wr w.heap.size 3 c1 ((R 1).map iv)) ∧ Below w.heap.size w wr) (fun ti _ => 2 - (intOf ti).toNat)
  case atStart => exact ⟨0, _, _, by omega, rfl, hide hA1, hide hR1, hide (fun h => absurd h (by omega)), hide (fun h => absurd h (by omega)), hb⟩
  case round =>
    clear hA1 hR1 hb
    obtain ⟨k, c0, c1, hk, rfl, HA, HR, H0, H1, hB⟩ := hrel
    have hsz := hB.size
    by_cases hlt2 : k < 2
    · have hk' : (k : Int) < 2 := by omega
      have hci : (0 : Int) ≤ (k : Int) := by omega
      obtain ⟨a, n, q, hv⟩ := unhide HP k
      have hix := unhide HI k hlt2 a n q hv
      have C := hide (unhide CN k hlt2 wr hB)
      rw [← unhide ER k, hv] at C
      obtain ⟨pl, hpl⟩ : ∃ l, l = R k := ⟨_, rfl⟩
      rw [← hpl] at C
      replace hpl := hide hpl; replace hv := hide hv
      clear CN HI HP
      go_wp2_with fail
      refine (unhide C).mono ?_
      rintro e w1 ⟨⟨v, rfl, ov⟩, hb1⟩
      have hB1 := hB.trans (hb1.mono hsz)
      have ov1 := hide (ov.low hsz)
      have hA1 := (unhide HA).step hb1
      have hR1 := (unhide HR).step hb1
      have h01 := hide (show 0 < k → OwnV w1 w.heap.size 3 c0 ((R 0).map iv) from fun h => (unhide H0 h).below hb1)
      have hsz1 := hB1.size
      clear ov hb1 HA HR hB C
      have hcell : ∃ c, w1.cell? ⟨w.heap.size, k, none⟩ = some c := by
        have h2 : k = 0 ∨ k = 1 := by omega
        rcases h2 with rfl | rfl
        · exact ⟨_, hA1.cell 0 rfl⟩
        · exact ⟨_, hA1.cell 1 rfl⟩
      obtain ⟨c, hc⟩ := hcell
      have hz := hA1.frozen k
      obtain ⟨av, nv, cv, rfl⟩ : ∃ a n q, v = .slice a n q := by obtain ⟨a, q, h⟩ := (unhide ov1).shape; exact ⟨a, _, q, h⟩
      have hne : ∀ u xs, OwnV w1 w.heap.size 3 u xs → u.ownBlock ≠ some w.heap.size := fun u xs h => hA1.off h (by decide)
      have hA3 := hide (show ∃ d0 d1, CB (w1.setCell ⟨w.heap.size, k, none⟩ (.slice av nv cv)) w.heap.size 33 #[d0, d1] ∧ (0 < k + 1 → OwnV (w1.setCell ⟨w.heap.size, k, none⟩ (.slice av nv cv)) w.heap.size 3 d0 ((R 0).map iv)) ∧ (1 < k + 1 → OwnV (w1.setCell ⟨w.heap.size, k, none⟩ (.slice av nv cv)) w.heap.size 3 d1 ((R 1).map iv)) from by
        have hown := (unhide ov1).setO w.heap.size k (.slice av nv cv) (hne _ _ (unhide ov1))
        have hmap : (R k).map iv = pl.map iv := by rw [unhide hpl]
        have h3 := hA1.set k (.slice av nv cv)
        have h2 : k = 0 ∨ k = 1 := by omega
        rcases h2 with rfl | rfl
        · exact ⟨_, _, h3, fun _ => (by rw [hmap]; exact hown), fun h => absurd h (by omega)⟩
        · exact ⟨_, _, h3, fun _ => (unhide h01 (by omega)).setO w.heap.size 1 _ (hne _ _ (unhide h01 (by omega))), fun _ => (by rw [hmap]; exact hown)⟩)
      have hR3 := hide (hR1.set_other (Nat.ne_of_gt hg0) (k := k) (.slice av nv cv))
      have hB3 := hide (hB1.setCell (p := ⟨w.heap.size, k, none⟩) (Nat.le_refl _) (.slice av nv cv))
      clear hix hA1 hR1 hne h01 H0 H1 hB1 ov1
      go_wp2
      obtain ⟨d0, d1, p1, p2, p3⟩ := unhide hA3
      exact ⟨⟨k + 1, d0, d1, by omega, by go_num, hide p1, hide (unhide hR3), hide p2, hide p3, unhide hB3⟩, by simp [intOf]; omega⟩
    · have hk' : ¬ (k : Int) < 2 := by omega
      have hke : k = 2 := by omega
      have o0 := unhide H0 (by omega)
      have o1 := unhide H1 (by omega)
      obtain ⟨b0, m0, p0, rfl⟩ : ∃ a n q, c0 = .slice a n q := by obtain ⟨a, q, h⟩ := o0.shape; exact ⟨a, _, q, h⟩
      obtain ⟨b1, m1, p1, rfl⟩ : ∃ a n q, c1 = .slice a n q := by obtain ⟨a, q, h⟩ := o1.shape; exact ⟨a, _, q, h⟩
      have hR1 := unhide HR
      have hA1 := unhide HA
      have r0 := hR1.cell 0 rfl
      have r1 := hR1.cell 1 rfl
      have z0 := hR1.frozen 0
      have z1 := hR1.frozen 1
      have ac0 := hA1.cell 0 rfl
      have ac1 := hA1.cell 1 rfl
      have hR2 := hide ((hR1.set 0 (.slice b0 m0 p0)).set 1 (.slice b1 m1 p1))
      have hB2 := hide ((hB.setCell (p := ⟨g1, 0, none⟩) (Nat.le_of_lt hg0) (.slice b0 m0 p0)).setCell (p := ⟨g1, 1, none⟩) (Nat.le_of_lt hg0) (.slice b1 m1 p1))
      have hO2 := hide (show Own2 ((wr.setCell ⟨g1, 0, none⟩ (.slice b0 m0 p0)).setCell ⟨g1, 1, none⟩ (.slice b1 m1 p1)) w.heap.size (.slice b0 m0 p0) (.slice b1 m1 p1) R from
        ⟨(o0.setO _ _ _ (hR1.off o0 (by decide))).setO _ _ _ (hR1.off o0 (by decide)), (o1.setO _ _ _ (hR1.off o1 (by decide))).setO _ _ _ (hR1.off o1 (by decide))⟩)
      replace hke := hide hke
      clear HA HR H0 H1 CN hR1 hA1 hB o0 o1 HI HP
      go_wp2
      exact bodyPost_ret (results_arr1 (by exact Tryd.results35) _ _ _ _ _ _ _ rfl (unhide hR2) Tryd.underlying33 (by kernel_rfl)) rfl ⟨⟨_, _, rfl, unhide hO2⟩, unhide hB2⟩
set_option maxRecDepth 20000 in
set_option maxHeartbeats 800000 in
theorem times_any (A B : Nat → List Int) (hA : ∀ i, i < 2 → (A i).length ≤ 1048576) (hB : ∀ i, i < 2 → (B i).length ≤ 1048576) (a0 : Option Addr) (n0 q0 : Nat) (a1 : Option Addr) (n1 q1 : Nat) (b0 : Option Addr) (m0 p0 : Nat) (b1 : Option Addr) (m1 p1 : Nat) (w : World)
    (ra : Rd2 w (.slice a0 n0 q0) (.slice a1 n1 q1) A) (rb : Rd2 w (.slice b0 m0 p0) (.slice b1 m1 p1) B) (ka : n0 ≤ q0 ∧ n1 ≤ q1) (kb : m0 ≤ p0 ∧ m1 ≤ p1) :
    Calls Tryd.prog 54 #[.agg #[.slice a0 n0 q0, .slice a1 n1 q1], .agg #[.slice b0 m0 p0, .slice b1 m1 p1]] w fun e w' => (∃ v, e = .returned v ∧ OwnV w' w.heap.size 3 v ((sumK A B 2).map iv)) ∧ Below w.heap.size w w' := by
  have KA : ∀ k, CapV (pick2 (.slice a0 n0 q0) (.slice a1 n1 q1) k) := fun k => by
    unfold pick2
    split
    · intro a n q h; cases h; exact ka.1
    · intro a n q h; cases h; exact ka.2
  have KB : ∀ k, CapV (pick2 (.slice b0 m0 p0) (.slice b1 m1 p1) k) := fun k => by
    unfold pick2
    split
    · intro a n q h; cases h; exact kb.1
    · intro a n q h; cases h; exact kb.2
  have C1 := hide (fun (k : Nat) (hk : k < 2) W (h : Below w.heap.size w W) => implMulNtt_any (A k) (B k) (pick2 (.slice a0 n0 q0) (.slice a1 n1 q1) k) (pick2 (.slice b0 m0 p0) (.slice b1 m1 p1) k) (hA k hk) (hB k hk) W ((ra.below h).pick k hk) ((rb.below h).pick k hk) (KA k) (KB k))
  have C2 := hide (fun i u v W (r1 : RdV W u ((sumK A B i).map iv)) (r2 : RdV W v ((mnL (A i) (B i)).map iv)) => implPolyAdd_any (sumK A B i) (mnL (A i) (B i)) u v (by have := sumK_len13 A B i; omega) (by have := mnL_len13 (A i) (B i); omega) W r1 r2)
  have HS := hide (show ∀ i, sumK A B (i + 1) = addL (sumK A B i) (mnL (A i) (B i)) from fun i => rfl)
  have HZ := hide (show sumK A B 0 = zeroL from rfl)
  generalize sumK A B = S at *
  have HI := hide (fun (k : Nat) (hk : k < 2) a n q hv W => idx13 (.slice a0 n0 q0) (.slice a1 n1 q1) k hk a n q hv W)
  have HP := hide (pick_slice a0 n0 q0 a1 n1 q1)
  have HQ := hide (pick_slice b0 m0 p0 b1 m1 p1)
  obtain ⟨i0, hi, hz0, hz1, hz2⟩ := info_parts infoInt
  clear ra rb hA hB KA KB ka kb
  obtain ⟨W, hW, hA0, hB0, hb, hlt⟩ := two_cb w #[.slice a0 n0 q0, .slice a1 n1 q1] #[.slice b0 m0 p0, .slice b1 m1 p1] 33 33
  obtain ⟨g1, hg1⟩ : ∃ g, g = w.heap.size + 1 := ⟨_, rfl⟩
  rw [← hg1] at hB0 hlt
  have hg0 : w.heap.size < g1 := by omega
  have hgW : w.heap.size ≤ W.heap.size := by omega
  replace hA0 := hide hA0; replace hB0 := hide hB0
  have hg2 : w.heap.size + 1 = g1 := hg1.symm
  replace hg1 := hide hg1
  go_enter Tryd.func54, Tryd.ntmps54
  go_wp2_with (at_make; refine wpList_make_full _ rfl _ _ 31 rfl W.heap.size 3 i0 (.int .i64 0) 1 Tryd.underlying31 hi hz0 hz1 _ _ _ _ 256 rfl rfl rfl rfl (by rw [hz2]; omega) (by unfold maxLen; omega) (Nat.le_refl _) ?_; intro w1 hown1 hgrow1; have hA1 := (unhide hA0).grown hgrow1 (by simp); have ax0 := hA1.cell 0 rfl; have ax1 := hA1.cell 1 rfl; replace hA1 := hide hA1)
  have hB1 := hide ((unhide hB0).grown hgrow1 (by simp))
  have hb1 : Below w.heap.size w w1 := hb.grown hgrow1 hgW (fun k hk => by cases hk)
  have hr0 : OwnV w1 w.heap.size 3 (.slice (some ⟨W.heap.size, 0, none⟩) 256 256) ((S 0).map iv) := by
    rw [unhide HZ]
    unfold zeroL
    rw [madeI] at hown1
    refine OwnV.low (base := W.heap.size) ?_ hgW
    unfold OwnV
    simpa [iv] using hown1
  replace hr0 := hide hr0
  clear hown1 hgrow1 ax0 ax1 hA0 hA1 hB0 hW
  replace hg2 := hide hg2
  go_loopw [5, 10] (fun tv ti wr => ∃ k : Nat, k ≤ 2 ∧ ti = .int .i64 (k : Int) ∧ Hid (OwnV wr w.heap.size 3 tv ((S k).map iv)) ∧ Hid (CB wr g1 33 #[.slice b0 m0 p0, .slice b1 m1 p1]) ∧ Below w.heap.size w wr) (fun _ ti _ => 2 - (intOf ti).toNat)
  case atStart => exact ⟨0, by omega, rfl, hr0, hB1, hb1⟩
  case round =>
    clear hr0 hB1 hb1
    obtain ⟨k, hk, rfl, HO, HB, hBl⟩ := hrel
    have hsz := hBl.size
    by_cases hlt2 : k < 2
    · have hk' : (k : Int) < 2 := by omega
      have hci : (0 : Int) ≤ (k : Int) := by omega
      obtain ⟨a, n, q, hv⟩ := unhide HP k
      obtain ⟨b, m, p, hu⟩ := unhide HQ k
      have hix := unhide HI k hlt2 a n q hv
      have hcell : wr.cell? ⟨g1, k, none⟩ = some (.slice b m p) := by
        rw [← hu]
        have h2 : k = 0 ∨ k = 1 := by omega
        rcases h2 with rfl | rfl
        · exact (unhide HB).cell 0 rfl
        · exact (unhide HB).cell 1 rfl
      have CM := hide (unhide C1 k hlt2 wr hBl)
      have CA := hide (fun u v W r1 r2 => unhide C2 k u v W r1 r2)
      rw [hv, hu] at CM
      rw [← unhide HS k] at CA
      generalize mnL (A k) (B k) = mm at CM CA
      replace hv := hide hv; replace hu := hide hu
      clear C1 C2 HI HP HQ
      go_wp2_with fail
      refine (unhide CM).mono ?_
      rintro e w2 ⟨⟨v, rfl, ov⟩, hb2⟩
      have hT2 := hBl.trans (hb2.mono hsz)
      have hsz2 := hT2.size
      have hB2 := hide ((unhide HB).step hb2)
      have rO := (unhide HO).rdv.below hb2
      have C := hide (unhide CA _ _ w2 rO ov.rdv)
      clear ov HO HB hBl hix hcell CM CA hb2 rO
      go_wp2_with fail
      refine (unhide C).mono ?_
      rintro e w3 ⟨⟨v3, rfl, o3⟩, hb3⟩
      have hT3 := hT2.trans (hb3.mono hsz2)
      have hB3 := hide ((unhide hB2).step hb3)
      have hO3 := hide (o3.low hsz2)
      clear C hB2 hT2 hb3 o3
      go_wp2
      exact ⟨⟨k + 1, by omega, by go_num, hO3, hB3, hT3⟩, by simp [intOf]; omega⟩
    · have hk' : ¬ (k : Int) < 2 := by omega
      have hke : k = 2 := by omega
      have hown : OwnV wr w.heap.size 3 u5 ((S 2).map iv) := by rw [← hke]; exact unhide HO
      replace hown := hide hown
      replace hke := hide hke
      clear HO HB C1 C2 HI HP HQ
      go_wp2
      go_ret
      exact ⟨⟨_, rfl, unhide hown⟩, hBl⟩
end Go.Proofs.YthjgmpfdjhegfasDoor

/- Polynomials by the project: how far two are apart, over the loaded program. -/
namespace Go.Proofs.YthjgmpfdjhegfasDoor
open Go.RowKit
theorem circ_min (x y : Int) : circ x y = if (y - x) % 3329 < (x - y) % 3329 then (y - x) % 3329 else (x - y) % 3329 := by
  unfold circ
  split <;> split <;> omega
theorem apart_any (x y : Int) (hx : 0 ≤ x ∧ x ≤ 3328) (hy : 0 ≤ y ∧ y ≤ 3328) (w : World) :
    Calls Tryd.prog 63 #[.int .i64 x, .int .i64 y] w fun e w' => e = .returned (.int .i64 (circ x y)) ∧ ∃ q, w' = w.drewN q := by
  have E := hide (circ_min x y)
  rw [unhide E]
  obtain ⟨t1, ht1⟩ : ∃ t, t = x - y := ⟨_, rfl⟩
  obtain ⟨t2, ht2⟩ : ∃ t, t = y - x := ⟨_, rfl⟩
  have w1 : IntKind.i64.wrap (x - y) = t1 := by rw [IntKind.wrap_i64]; omega
  have w2 : IntKind.i64.wrap (y - x) = t2 := by rw [IntKind.wrap_i64]; omega
  have C1 := hide (fun W => around_any t1 W)
  have C2 := hide (fun W => around_any t2 W)
  rw [← ht1, ← ht2]
  obtain ⟨d1, hd1⟩ : ∃ t, t = t1 % 3329 := ⟨_, rfl⟩
  obtain ⟨d2, hd2⟩ : ∃ t, t = t2 % 3329 := ⟨_, rfl⟩
  rw [← hd1, ← hd2]
  rw [← hd1] at C1
  rw [← hd2] at C2
  replace ht1 := hide ht1; replace ht2 := hide ht2; replace hd1 := hide hd1; replace hd2 := hide hd2
  by_cases h : d2 < d1
  · rw [if_pos h]
    go_enter Tryd.func63, Tryd.ntmps63
    go_wp2_with fail
    refine (unhide C1 _).mono ?_
    rintro e w1 ⟨rfl, rfl⟩
    go_wp2_with fail
    refine (unhide C2 _).mono ?_
    rintro e w1 ⟨rfl, rfl⟩
    go_wp2
    go_ret
    exact ⟨by simp, 0, rfl⟩
  · rw [if_neg h]
    go_enter Tryd.func63, Tryd.ntmps63
    go_wp2_with fail
    refine (unhide C1 _).mono ?_
    rintro e w1 ⟨rfl, rfl⟩
    go_wp2_with fail
    refine (unhide C2 _).mono ?_
    rintro e w1 ⟨rfl, rfl⟩
    go_wp2
    go_ret
    exact ⟨by simp, 0, rfl⟩
set_option maxRecDepth 20000 in
set_option maxHeartbeats 400000 in
theorem far_any (a b : List Int) (va vb : Value) (w : World) (ha : okPl a = true) (hb : okPl b = true) (ra : RdV w va (a.map iv)) (rb : RdV w vb (b.map iv)) :
    Calls Tryd.prog 41 #[va, vb] w fun e w' => e = .returned (.int .i64 (farL a b)) ∧ ∃ q, w' = w.drewN q := by
  obtain ⟨la, va'⟩ := okPl_yes ha
  obtain ⟨lb, vb'⟩ := okPl_yes hb
  have EF := hide (farL_is ha hb)
  obtain ⟨f, hf⟩ : ∃ f : Nat → Int, f = fun i => circ (cAt a i) (cAt b i) := ⟨_, rfl⟩
  rw [← hf] at EF
  have hf1 := fun i => (show 0 ≤ f i ∧ f i ≤ 1664 by rw [hf]; exact circ_le _ _)
  obtain ⟨a1, c1, rfl, hc1⟩ := ra.open
  obtain ⟨a2, c2, rfl, hc2⟩ := rb.open
  rw [List.length_map, la, List.length_map, lb]
  clear ra rb
  replace va' := hide va'; replace vb' := hide vb'; replace la := hide la; replace lb := hide lb; replace hf := hide hf; replace hf1 := hide hf1
  go_enter Tryd.func41, Tryd.ntmps41
  go_wp2
  go_loopw [5, 10] (fun tm ti wr => ∃ k q : Nat, k ≤ 256 ∧ tm = .int .i64 (maxN f k) ∧ ti = .int .i64 (k : Int) ∧ wr = w.drewN q) (fun _ ti _ => 256 - (intOf ti).toNat)
  case atStart => exact ⟨0, 0, by omega, rfl, rfl, rfl⟩
  case round =>
    obtain ⟨k, q, hk, rfl, rfl, rfl⟩ := hrel
    have HS := hide (show maxN f (k + 1) = if maxN f k < f k then f k else maxN f k from rfl)
    by_cases hlt : k < 256
    · have hk' : (k : Int) < 256 := by omega
      have hci : (0 : Int) ≤ (k : Int) := by omega
      obtain ⟨g1, o1, rfl, hg1, d1⟩ := hc1 k _ (get_iv a k (by rw [unhide la]; exact hlt))
      obtain ⟨g2, o2, rfl, hg2, d2⟩ := hc2 k _ (get_iv b k (by rw [unhide lb]; exact hlt))
      have CI := hide (fun W => apart_any (cAt a k) (cAt b k) (unhide va' k hlt) (unhide vb' k hlt) W)
      obtain ⟨d, hd⟩ : ∃ d, d = f k := ⟨_, rfl⟩
      rw [show circ (cAt a k) (cAt b k) = d by rw [hd, unhide hf]] at CI
      rw [← hd] at HS
      generalize maxN f k = mo at *
      generalize cAt a k = x at d1 CI
      generalize cAt b k = y at d2 CI
      replace hd := hide hd
      clear hc1 hc2
      by_cases c2' : mo < d
      · rw [if_pos c2'] at HS
        go_wp2_with fail
        refine (unhide CI _).mono ?_
        rintro e w1 ⟨rfl, q1, rfl⟩
        go_wp2
        exact ⟨⟨k + 1, _, by omega, by rw [unhide HS], by go_num, by first | rfl | rw [World.drewN_drewN]⟩, by simp [intOf]; omega⟩
      · rw [if_neg c2'] at HS
        go_wp2_with fail
        refine (unhide CI _).mono ?_
        rintro e w1 ⟨rfl, q1, rfl⟩
        go_wp2
        exact ⟨⟨k + 1, _, by omega, by rw [unhide HS], by go_num, by first | rfl | rw [World.drewN_drewN]⟩, by simp [intOf]; omega⟩
    · have hk' : ¬ (k : Int) < 256 := by omega
      have hke : k = 256 := by omega
      have E2 := hide (show farL a b = maxN f k by rw [hke]; exact unhide EF)
      replace hke := hide hke
      clear HS
      generalize maxN f k = mo at *
      go_wp2
      go_ret
      exact ⟨by rw [unhide E2]; rfl, q, rfl⟩
theorem implFar_any (a b : List Int) (ua ub : Value) (_ : a.length ≤ 1048576) (_ : b.length ≤ 1048576) (W : World) (r1 : RdV W ua (a.map iv)) (r2 : RdV W ub (b.map iv)) :
    Calls Tryd.prog 20 #[ua, ub] W fun x w' => x = .returned (.int .i64 (farL a b)) ∧ Below W.heap.size W w' := by
  have CA := hide (implPolyOk_q a ua W r1)
  have CB := hide (fun q => implPolyOk_q b ub (W.drewN q) r2)
  have sa := r1.shape
  have sb := r2.shape
  cases ha : okPl a with
  | true =>
    rw [ha] at CA
    cases hb : okPl b with
    | true =>
      rw [hb] at CB
      have CM := hide (fun q => far_any a b ua ub (W.drewN q) ha hb r1 r2)
      obtain ⟨a1, c1, rfl⟩ := sa
      obtain ⟨a2, c2, rfl⟩ := sb
      simp only [List.length_map] at CA CB CM ⊢
      clear r1 r2 ha hb
      generalize farL a b = l at *
      go_enter Tryd.func20, Tryd.ntmps20
      go_wp2_with fail
      refine (unhide CA).mono ?_
      rintro e w1 ⟨rfl, q, rfl⟩
      go_wp2_with fail
      refine (unhide CB q).mono ?_
      rintro e w1 ⟨rfl, q2, rfl⟩
      go_wp2_with fail
      refine (unhide CM _).mono ?_
      rintro e w1 ⟨rfl, q3, rfl⟩
      go_wp2
      go_ret
      exact ⟨rfl, bDN (Below.refl _ _) _⟩
    | false =>
      rw [hb] at CB
      have E := hide (show farL a b = -1 by unfold farL; rw [bothP_no2 hb]; rfl)
      rw [unhide E]
      obtain ⟨a1, c1, rfl⟩ := sa
      obtain ⟨a2, c2, rfl⟩ := sb
      simp only [List.length_map] at CA CB ⊢
      clear r1 r2 ha hb
      go_enter Tryd.func20, Tryd.ntmps20
      go_wp2_with fail
      refine (unhide CA).mono ?_
      rintro e w1 ⟨rfl, q, rfl⟩
      go_wp2_with fail
      refine (unhide CB q).mono ?_
      rintro e w1 ⟨rfl, q2, rfl⟩
      go_wp2
      go_ret
      exact ⟨rfl, by first | exact bDN (bDN (Below.refl _ _) _) _ | exact bDN (Below.refl _ _) _⟩
  | false =>
    rw [ha] at CA
    have E := hide (show farL a b = -1 by unfold farL; rw [bothP_no1 ha]; rfl)
    rw [unhide E]
    obtain ⟨a1, c1, rfl⟩ := sa
    obtain ⟨a2, c2, rfl⟩ := sb
    simp only [List.length_map] at CA ⊢
    clear r1 r2 ha CB
    go_enter Tryd.func20, Tryd.ntmps20
    go_wp2_with fail
    refine (unhide CA).mono ?_
    rintro e w1 ⟨rfl, q, rfl⟩
    go_wp2
    go_ret
    exact ⟨rfl, bDN (Below.refl _ _) _⟩
end Go.Proofs.YthjgmpfdjhegfasDoor

