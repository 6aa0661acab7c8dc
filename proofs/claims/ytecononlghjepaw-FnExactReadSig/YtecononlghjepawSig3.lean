/- Keys of a tree by the given model: a signature's text, over the loaded program. -/
import Derived.Test.YtecononlghjepawSig2
namespace Go.Proofs.Ytecononlghjepaw
open Go.RowKit
set_option maxRecDepth 20000 in
set_option maxHeartbeats 800000 in
theorem specSigText_any (s : Sg) (v : Value) (w : World) (hr : RdSg w v s) (n1 : s.once.length ≤ 2000000) (n2 : s.path.length ≤ 2000000) :
    Calls Try.prog 7 #[v] w fun e w' => e = .returned (.tuple #[.string (sgT s), .bool (sgOk s)]) ∧ Below w.heap.size w w' := by
  have C0 := hide (fun (W : World) (h : Below w.heap.size w W) => specSigOk_any s v W (hr.below h) n1 n2)
  obtain ⟨lf, l1, l2⟩ := s
  have CB0 := hide (fun W => specByteY_any lf W)
  obtain ⟨v1, v2, rfl, r1, r2, -⟩ := hr
  cases ho : sgOk ⟨lf, l1, l2⟩ with
  | true =>
    rw [ho] at C0
    have f1 := sgOk_once ho
    have f2 := sgOk_path ho
    obtain ⟨_, k1, k2⟩ := sgOk_shape ho
    obtain ⟨a1, c1, rfl, hc1⟩ := r1.open
    obtain ⟨a2, c2, rfl, hc2⟩ := r2.open
    replace hc1 : ∀ k, k < 10 → ∃ g o, a1 = some ⟨g, o, none⟩ ∧ g < w.heap.size ∧ w.cell? ⟨g, o + k, none⟩ = some (.string (bAt l1 k)) := fun k hk => hc1 k _ (bAt_get l1 k (by have : l1.length = 10 := k1; omega))
    replace hc2 : ∀ k, k < 2 → ∃ g o, a2 = some ⟨g, o, none⟩ ∧ g < w.heap.size ∧ w.cell? ⟨g, o + k, none⟩ = some (.string (bAt l2 k)) := fun k hk => hc2 k _ (bAt_get l2 k (by have : l2.length = 2 := k2; omega))
    have z1 := hide (fun k (hk : k < 10) => bAt_four f1 k (by have : l1.length = 10 := k1; omega))
    have z2 := hide (fun k (hk : k < 2) => bAt_four f2 k (by have : l2.length = 2 := k2; omega))
    have q1 := hide (fun k (hk : k ≤ 10) => catT_size (oneY lf) (bAt l1) 10 (fun i hi => unhide z1 i hi) k hk)
    have q2 := hide (fun k (hk : k ≤ 2) => catT_size (catT (oneY lf) (bAt l1) 10) (bAt l2) 2 (fun i hi => unhide z2 i hi) k hk)
    have q0 := unhide q1 10 (Nat.le_refl _)
    rw [oneY_size] at q1 q0
    rw [q0] at q2
    have EC := hide (show sgT ⟨lf, l1, l2⟩ = catT (catT (oneY lf) (bAt l1) 10) (bAt l2) 2 from sgT_is ho)
    rw [unhide EC]
    unfold sgv at C0 ⊢
    show Calls _ _ #[.agg #[.int .i64 lf, .slice a1 (l1.map sv).length c1, .slice a2 (l2.map sv).length c2]] _ _
    have e1 : (l1.map sv).length = 10 := by rw [List.length_map]; exact k1
    have e2 : (l2.map sv).length = 2 := by rw [List.length_map]; exact k2
    have C0' := hide (fun (W : World) (h : Below w.heap.size w W) => show Calls Try.prog 21 #[.agg #[.int .i64 lf, .slice a1 (l1.map sv).length c1, .slice a2 (l2.map sv).length c2]] W _ from unhide C0 W h)
    rw [e1, e2] at C0' ⊢
    have S1 := hide (show ∀ k, catT (oneY lf) (bAt l1) (k + 1) = catT (oneY lf) (bAt l1) k ++ bAt l1 k from fun k => rfl)
    have S2 := hide (show ∀ k, catT (catT (oneY lf) (bAt l1) 10) (bAt l2) (k + 1) = catT (catT (oneY lf) (bAt l1) 10) (bAt l2) k ++ bAt l2 k from fun k => rfl)
    have T1 := hide (show catT (oneY lf) (bAt l1) 0 = oneY lf from rfl)
    have T2 := hide (show catT (catT (oneY lf) (bAt l1) 10) (bAt l2) 0 = catT (oneY lf) (bAt l1) 10 from rfl)
    rw [← unhide T1] at CB0
    generalize catT (catT (oneY lf) (bAt l1) 10) (bAt l2) = F2 at *
    generalize catT (oneY lf) (bAt l1) = F1 at *
    generalize bAt l1 = b1 at *
    generalize bAt l2 = b2 at *
    clear r1 r2 n1 n2 k1 k2 f1 f2 ho EC e1 e2 C0 q0 T1
    go_enter Try.func7, Try.ntmps7
    go_wp2_with fail
    obtain ⟨W, hW, hP, hB, hs1⟩ := one_cb w #[.int .i64 lf, .slice a1 10 c1, .slice a2 2 c2] 28
    rw [hW]
    clear hW
    refine (unhide C0' W hB).mono ?_
    rintro e w1 ⟨rfl, hb1⟩
    have hB1 := hB.trans (hb1.mono hB.size)
    have hP1 := hP.step hb1
    have p0 := hP1.cell 0 (v := .int .i64 lf) rfl
    clear hb1 hB hP C0'
    go_wp2_with fail
    refine (unhide CB0 w1).mono ?_
    rintro e w2 ⟨rfl, hb2⟩
    have hB2 := hB1.trans (hb2.mono hB1.size)
    have hP2 := hP1.step hb2
    have p1 := hP2.cell 1 (v := .slice a1 10 c1) rfl
    have p2 := hP2.cell 2 (v := .slice a2 2 c2) rfl
    clear hb2 hB1 hP1 p0 CB0
    replace hP2 := hide hP2
    go_wp2
    go_loopw [4, 5] (fun tt ti wr => ∃ k : Nat, k ≤ 10 ∧ ti = .int .i64 (k : Int) ∧ tt = .string (F1 k) ∧ wr = w2) (fun _ ti _ => 10 - (intOf ti).toNat)
    case atStart => exact ⟨0, by omega, rfl, rfl, rfl⟩
    case round =>
      obtain ⟨k, hk, rfl, rfl, hw⟩ := hrel
      have hw' := hw.symm
      subst hw'
      clear hw
      by_cases hlt : k < 10
      · have hk' : (k : Int) < 10 := by omega
        obtain ⟨g, o, rfl, hg, d1⟩ := hc1 k hlt
        replace d1 := (hB2.cell (p := ⟨g, o + k, none⟩) hg).trans d1
        have zz := unhide z1 k hlt
        have qq := unhide q1 k (by omega)
        have HC := hide (unhide S1 k)
        generalize b1 k = told at *
        have hadd : ¬ 9223372036854775807 < (F1 k).size + told.size := by omega
        have hadd2 : (F1 k).size + told.size ≤ 9223372036854775807 := by omega
        clear hc1 hc2 zz qq
        go_wp2
        exact ⟨⟨k + 1, by omega, by go_num, by rw [unhide HC], by first | rfl | trivial⟩, by simp [intOf]; omega⟩
      · have hk' : ¬ (k : Int) < 10 := by omega
        obtain rfl : k = 10 := by omega
        rw [← unhide T2]
        clear hc1 S1 T2
        go_wp2
        go_loopw [4, 6] (fun tt ti wr => ∃ k : Nat, k ≤ 2 ∧ ti = .int .i64 (k : Int) ∧ tt = .string (F2 k) ∧ wr = w2) (fun _ ti _ => 2 - (intOf ti).toNat)
        case atStart => exact ⟨0, by omega, rfl, rfl, rfl⟩
        case round =>
          obtain ⟨k, hk, rfl, rfl, hw⟩ := hrel
          have hw' := hw.symm
          subst hw'
          clear hw
          by_cases hlt2 : k < 2
          · have hk2 : (k : Int) < 2 := by omega
            obtain ⟨g, o, rfl, hg, d1⟩ := hc2 k hlt2
            replace d1 := (hB2.cell (p := ⟨g, o + k, none⟩) hg).trans d1
            have zz := unhide z2 k hlt2
            have qq := unhide q2 k (by omega)
            have HC := hide (unhide S2 k)
            generalize b2 k = told at *
            have hadd : ¬ 9223372036854775807 < (F2 k).size + told.size := by omega
            have hadd2 : (F2 k).size + told.size ≤ 9223372036854775807 := by omega
            clear hc2 zz qq
            go_wp2
            exact ⟨⟨k + 1, by omega, by go_num, by rw [unhide HC], by first | rfl | trivial⟩, by simp [intOf]; omega⟩
          · have hk2 : ¬ (k : Int) < 2 := by omega
            obtain rfl : k = 2 := by omega
            clear hc2
            go_wp2
            go_ret2
            exact ⟨rfl, hB2⟩
  | false =>
    rw [ho] at C0
    have EC := hide (show sgT ⟨lf, l1, l2⟩ = ⟨#[]⟩ by unfold sgT; rw [ho]; rfl)
    rw [unhide EC]
    obtain ⟨a1, c1, rfl⟩ := r1.shape
    obtain ⟨a2, c2, rfl⟩ := r2.shape
    unfold sgv at C0 ⊢
    clear r1 r2 n1 n2 ho EC
    show Calls _ _ #[.agg #[.int .i64 lf, .slice a1 (l1.map sv).length c1, .slice a2 (l2.map sv).length c2]] _ _
    generalize ((Sg.mk lf l1 l2).once.map sv).length = k1 at *
    generalize ((Sg.mk lf l1 l2).path.map sv).length = k2 at *
    go_enter Try.func7, Try.ntmps7
    go_wp2_with fail
    obtain ⟨W, hW, hP, hB, hs1⟩ := one_cb w #[.int .i64 lf, .slice a1 k1 c1, .slice a2 k2 c2] 28
    rw [hW]
    clear hW
    refine (unhide C0 W hB).mono ?_
    rintro e w1 ⟨rfl, hb1⟩
    have hB1 := hB.trans (hb1.mono hB.size)
    clear hb1 hB hP C0
    go_wp2
    go_ret2
    exact ⟨rfl, hB1⟩
end Go.Proofs.Ytecononlghjepaw
