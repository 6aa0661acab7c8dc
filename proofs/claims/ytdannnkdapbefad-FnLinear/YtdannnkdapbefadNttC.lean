/- Ntt and InvNtt by the project, over the loaded program. -/
import Derived.Test.YtdannnkdapbefadNttB
namespace Go.Proofs.Ytdannnkdapbefad
open Go.RowKit
set_option maxRecDepth 20000 in
set_option maxHeartbeats 1000000 in
theorem implNtt_any (l : List Int) (va : Value) (_ : l.length ≤ 1048576) (w : World) (ra : RdV w va (l.map iv)) :
    Calls Try.prog 6 #[va] w fun e w' => (∃ v, e = .returned v ∧ OwnV w' w.heap.size 3 v ((nttL l).map iv)) ∧ Below w.heap.size w w' := by
  have CA := hide (implPolyOk_q l va w ra)
  by_cases ha : okPl l = true
  · rw [ha] at CA
    have la := (okPl_yes ha).1
    have EF := hide (nttL_is ha)
    have HOK := hide (fun i => nL_ok ha i)
    have CC := hide (fun q => (copied_any l va (w.drewN q) la ra).mono (fun e w' h => (show e = .returned (.slice (some ⟨w.heap.size, 0, none⟩) 256 256) ∧ OwnV w' w.heap.size 3 (.slice (some ⟨w.heap.size, 0, none⟩) 256 256) ((l).map iv) ∧ Below w.heap.size w w' from ⟨h.1, h.2.1, (bDN (Below.refl w.heap.size w) q).trans h.2.2⟩)))
    obtain ⟨a1, c1, rfl⟩ := ra.shape
    rw [List.length_map, la] at CA CC ⊢
    clear ra
    go_enter Try.func6, Try.ntmps6
    go_wp2_with fail
    refine (unhide CA).mono ?_
    rintro e w1 ⟨rfl, q, rfl⟩
    clear CA
    go_wp2_with fail
    refine (unhide CC q).mono ?_
    rintro e w1 ⟨rfl, hO1, hb1⟩
    clear CC
    have hO1' := hide (show OwnV w1 w.heap.size 3 (.slice (some ⟨w.heap.size, 0, none⟩) 256 256) ((nL l 0).map iv) from hO1)
    clear hO1
    go_wp2
    go_loopw [4, 5] (fun tk ts wr => ∃ (i s K : Nat), i ≤ 7 ∧ Hid (s = sz i) ∧ Hid (K = 2 ^ i) ∧ tk = .int .i64 (K : Int) ∧ ts = .int .i64 (s : Int) ∧ Hid (OwnV wr w.heap.size 3 (.slice (some ⟨w.heap.size, 0, none⟩) 256 256) ((nL l i).map iv)) ∧ Below w.heap.size w wr) (fun _ ts _ => (intOf ts).toNat)
    case atStart => exact ⟨0, 128, 1, by omega, hide rfl, hide rfl, rfl, rfl, hO1', hb1⟩
    case round =>
      clear hO1' hb1
      obtain ⟨i, s, K, hii, hs, hK, rfl, rfl, HO, hB⟩ := hrel
      by_cases hlt : i < 7
      · obtain ⟨f1, f2, f3, f4, f5, f6, f7, f8⟩ := sz_facts i hlt
        have HSz : Hid (Sz s) := hide (by rw [unhide hs]; exact sz_ok i hlt)
        rw [← unhide hs] at f1 f2 f3 f4 f8
        rw [← unhide hK] at f5 f6 f7 f8
        have hge : (2 : Int) ≤ (s : Int) := by omega
        have hF := unhide HOK i
        have hFr := hide (okPl_yes hF).2
        have HN := hide (show nL l (i + 1) = mdG s (lay s (zN i) (cAt (nL l i))) (cAt (nL l i)) K 0 by rw [← f8, mdG_end (unhide HSz), unhide hs]; rfl)
        have HO0 : Hid (OwnV wr w.heap.size 3 (.slice (some ⟨w.heap.size, 0, none⟩) 256 256) ((mdG s (lay s (zN i) (cAt (nL l i))) (cAt (nL l i)) 0 0).map iv)) := hide (by rw [mdG_start s _ hF]; exact unhide HO)
        replace f8 := hide f8; replace f5 := hide f5; replace f3 := hide f3
        clear HO
        go_wp2
        go_loopw [4, 6] (fun tk tst wq => ∃ (b st kb : Nat), b ≤ K ∧ Hid (st = 2 * b * s) ∧ Hid (kb = K + b) ∧ tst = .int .i64 (st : Int) ∧ tk = .int .i64 (kb : Int) ∧ Hid (OwnV wq w.heap.size 3 (.slice (some ⟨w.heap.size, 0, none⟩) 256 256) ((mdG s (lay s (zN i) (cAt (nL l i))) (cAt (nL l i)) b 0).map iv)) ∧ Below w.heap.size w wq) (fun _ tst _ => 1000 - (intOf tst).toNat)
        case atStart => exact ⟨0, 0, K, by omega, hide (by omega), hide (by omega), rfl, rfl, HO0, hB⟩
        case round =>
          clear HO0 hB
          obtain ⟨b, st, kb, hbK, hst, hkb, rfl, rfl, HO, hB⟩ := hrel
          have hbf := blk_facts (unhide HSz) b
          rw [unhide f8] at hbf
          rw [← unhide hst] at hbf
          by_cases hb : b < K
          · have hst256 := hbf.1.2 hb
            have hst2 := hbf.2.2.1 hb
            have hstI : (st : Int) < 256 := by omega
            have hkb2 : kb < 128 := by have := unhide hkb; omega
            obtain ⟨m, hm⟩ : ∃ m, m = st + s := ⟨_, rfl⟩
            have C0 := hide (fun W => halves_any w.heap.size st s m (m + s) W hm rfl (by omega) (by omega))
            have C1 := hide (fun W => blockFactor_any kb hkb2 W)
            have hZ := zt_rng kb
            have HZ := hide (show zN i b = zt kb by unfold zN; rw [← unhide hK, ← unhide hkb])
            generalize zt kb = Z at *
            have C2 := hide (fun W h => split_any s b st m w.heap.size w.heap.size Z (zN i) (cAt (nL l i)) W (unhide HSz) (by rw [unhide f8]; exact hb) (unhide hst) hm (unhide HZ) hZ (unhide hFr) (Nat.le_refl _) h)
            have wk : IntKind.i64.wrap ((kb : Int) + 1) = ((kb + 1 : Nat) : Int) := by rw [IntKind.wrap_i64]; omega
            have hkn := hide (show kb + 1 = K + (b + 1) by have := unhide hkb; omega)
            obtain ⟨s2, hs2⟩ : ∃ s2 : Nat, s2 = 2 * s := ⟨_, rfl⟩
            obtain ⟨st2, hst3⟩ : ∃ st2 : Nat, st2 = st + s2 := ⟨_, rfl⟩
            have w1 : IntKind.i64.wrap (2 * (s : Int)) = (s2 : Int) := by rw [IntKind.wrap_i64]; omega
            have w2 : IntKind.i64.wrap ((st : Int) + (s2 : Int)) = (st2 : Int) := by rw [IntKind.wrap_i64]; omega
            have hstn := hide (show st2 = 2 * (b + 1) * s by rw [hbf.2.1]; omega)
            have hinc : st < st2 ∧ st2 ≤ 256 := by omega
            replace hs2 := hide hs2; replace hst3 := hide hst3; replace hm := hide hm
            clear hbf hst2 hst256
            go_wp2_with fail
            refine ((unhide C0) wr).mono ?_
            rintro e w3 ⟨rfl, q3, rfl⟩
            have HO3 : Hid (OwnV (wr.drewN q3) w.heap.size 3 (.slice (some ⟨w.heap.size, 0, none⟩) 256 256) ((mdG s (lay s (zN i) (cAt (nL l i))) (cAt (nL l i)) b 0).map iv)) := HO
            have hB3 := bDN hB q3
            generalize wr.drewN q3 = w3 at *
            clear HO hB C0
            go_wp2_with fail
            refine ((unhide C1) w3).mono ?_
            rintro e w4 ⟨rfl, hw4⟩
            have hw5 := hw4.symm
            subst hw5
            clear hw4 C1
            go_wp2_with fail
            refine ((unhide C2) w3 (unhide HO3)).mono ?_
            rintro e w4 ⟨rfl, hO4, hB4⟩
            have HO4 := hide hO4
            have hB5 := hB3.trans hB4
            clear HO3 hB3 hO4 hB4 C2
            go_wp2
            exact ⟨⟨b + 1, st2, kb + 1, by omega, hstn, hkn, by first | rfl | trivial, by go_num, HO4, hB5⟩, by simp [intOf]; omega⟩
          · have hbe : b = K := by omega
            have hst256 : ¬ st < 256 := fun h => hb (hbf.1.1 h)
            have hstI : ¬ (st : Int) < 256 := by omega
            have HO2 : Hid (OwnV wr w.heap.size 3 (.slice (some ⟨w.heap.size, 0, none⟩) 256 256) ((nL l (i + 1)).map iv)) := hide (by rw [unhide HN, ← hbe]; exact unhide HO)
            obtain ⟨s', hs'⟩ : ∃ s' : Nat, s' = s / 2 := ⟨_, rfl⟩
            have w1 : (s : Int).tdiv 2 = (s' : Int) := by rw [Int.tdiv_eq_ediv_of_nonneg (by omega)]; omega
            have w1' : (s : Int) / 2 = (s' : Int) := by omega
            have w2 : IntKind.i64.wrap (s' : Int) = (s' : Int) := by rw [IntKind.wrap_i64]; omega
            have hsn := hide (show s' = sz (i + 1) by rw [unhide f3]; exact hs')
            have hkn := hide (show kb = 2 ^ (i + 1) by rw [unhide f5, unhide hkb, hbe])
            have hdec : s' < s := by omega
            replace hbe := hide hbe; replace hs' := hide hs'
            clear HO hbf
            go_wp2
            exact ⟨⟨i + 1, s', kb, by omega, hsn, hkn, by first | rfl | trivial, by first | rfl | trivial, HO2, hB⟩, by simp [intOf]; omega⟩
      · have hie : i = 7 := by omega
        have hs1 : s = 1 := by rw [unhide hs, hie]; rfl
        have hge : ¬ (2 : Int) ≤ (s : Int) := by omega
        have HO2 : Hid (OwnV wr w.heap.size 3 (.slice (some ⟨w.heap.size, 0, none⟩) 256 256) ((nttL l).map iv)) := hide (by rw [unhide EF, ← hie]; exact unhide HO)
        replace hie := hide hie; replace hs1 := hide hs1
        clear HO
        go_wp2
        go_ret
        exact ⟨⟨_, rfl, unhide HO2⟩, hB⟩
  · have ha' : okPl l = false := by simpa using ha
    rw [ha'] at CA
    have E := hide (show nttL l = [] by unfold nttL; rw [if_neg ha])
    rw [unhide E]
    obtain ⟨a1, c1, rfl⟩ := ra.shape
    rw [List.length_map] at CA ⊢
    clear ra ha ha'
    go_enter Try.func6, Try.ntmps6
    go_wp2_with fail
    refine (unhide CA).mono ?_
    rintro e w1 ⟨rfl, q, rfl⟩
    go_wp2
    go_ret
    exact ⟨⟨_, rfl, OwnV.nil _ _ _⟩, bDN (Below.refl _ _) _⟩
end Go.Proofs.Ytdannnkdapbefad
