/- What impl.DiskOk comes to. What spec.DiskOk comes to. -/
import Derived.Test.YtkaaabpodhgbpaaDisk
namespace Go.Proofs.Ytkaaabpodhgbpaa
open Go.RowKit

set_option maxRecDepth 20000 in
set_option maxHeartbeats 2000000 in
theorem implDiskOk_any (fs : List Fl) (v : Value) (w : World) (hr : RdF w v fs) (hB : Bd fs) (hn : fs.length ≤ 2000000) :
    Calls Try.prog 12 #[.agg #[v]] w fun e w' => e = .returned (.bool (okL fs)) ∧ Below w.heap.size w w' := by
  obtain ⟨a, c, rfl, hc⟩ := hr.open
  clear hr
  obtain ⟨n, hnn⟩ : ∃ n, fs.length = n := ⟨_, rfl⟩
  rw [hnn] at hn ⊢
  replace hnn := hide hnn
  by_cases h30 : (30 : Int) < n
  · have H := hide (okL_long (fs := fs) (by rw [unhide hnn]; omega))
    go_enter Try.func12, Try.ntmps12
    go_wp2
    go_ret
    exact ⟨retB (unhide H), (Below.refl w.heap.size w).alloc (Nat.le_refl _) _⟩
  · go_enter Try.func12, Try.ntmps12
    go_wp2
    go_loopw [13] (fun ti wr => ∃ k : Nat, k ≤ n ∧ ti = .int .i64 k ∧ Hid (∀ j, j < k → okAt fs j = true) ∧ Below (w.heap.size + 1) (w.alloc (.cells #[.slice a n c] 26)) wr) (fun ti _ => n - (intOf ti).toNat)
    case atStart => exact ⟨0, Nat.zero_le _, rfl, fun j hj => by omega, Below.refl _ _⟩
    case round =>
      obtain ⟨k, hk, rfl, hok, hb⟩ := hrel
      have hss := hb.size
      have hs1 : w.heap.size + 1 ≤ wr.heap.size := by simpa using hss
      have hs2 : w.heap.size < wr.heap.size := by omega
      have hbox : wr.cell? ⟨w.heap.size, 0, none⟩ = some (.slice a n c) := (hb.cell (p := ⟨w.heap.size, 0, none⟩) (by show w.heap.size < _; omega)).trans (by simp)
      by_cases hlt : k < n
      · have hk' : k < fs.length := by rw [unhide hnn]; exact hlt
        obtain ⟨f, hf⟩ : ∃ f, fs[k]? = some f := ⟨fs[k], List.getElem?_eq_getElem hk'⟩
        obtain ⟨g, o, rfl, hg, hat⟩ := hc k f hf
        have hba : Below w.heap.size w wr := ((Below.refl w.heap.size w).alloc (Nat.le_refl _) _).trans (hb.mono (by omega))
        obtain ⟨d1, d2, d3⟩ := hat.below hba hg
        obtain ⟨z1, z2⟩ := hB f (List.mem_of_getElem? hf)
        have HF := hide (okAt_of hf)
        have hgr : g < wr.heap.size := by omega
        cases k with
        | zero =>
          replace hf := hide hf
          clear hc hat
          simp only [Nat.zero_mul, Nat.add_zero] at d1 d2 d3
          have HA := hide (show okAt fs 0 = fileB f by rw [unhide HF]; show (fileB f && true) = _; rw [Bool.and_true])
          cases hfb : fileB f with
          | false =>
            have H := hide (okL_no (i := 0) hk' (by rw [unhide HA]; exact hfb))
            replace hfb := hide hfb
            go_wp2
            go_quiet (fail)
            go_wp2_with (go_at_call 29; refine (fileOk_at f _ (unhide hfb) _ z1 z2).mono ?_; rintro e w1 ⟨rfl, hb1⟩)
            go_ret
            exact ⟨retB (unhide H), hba.trans ((bADT hb1).mono (by omega))⟩
          | true =>
            have HK := hide (show okAt fs 0 = true by rw [unhide HA]; exact hfb)
            replace hfb := hide hfb
            go_wp2
            go_quiet (fail)
            go_wp2_with (go_at_call 29; refine (fileOk_at f _ (unhide hfb) _ z1 z2).mono ?_; rintro e w1 ⟨rfl, hb1⟩)
            go_roundw
            case rel => exact ⟨1, by omega, by go_num, fun j hj => by (have : j = 0 := by omega); subst this; exact unhide HK, hb.trans ((bADT hb1).mono (by omega))⟩
            case measure => simp [intOf]; omega
        | succ j =>
          obtain ⟨p, hp⟩ : ∃ p, fs[j]? = some p := ⟨fs[j], List.getElem?_eq_getElem (by omega)⟩
          obtain ⟨g', o', hgo, hg', hat'⟩ := hc j p hp
          simp only [Option.some.injEq, Addr.mk.injEq, and_true] at hgo
          obtain ⟨rfl, rfl⟩ := hgo
          obtain ⟨e1, e2, e3⟩ := hat'.below hba hg'
          have HA := hide (asc_of hp hf)
          replace hf := hide hf
          replace hp := hide hp
          clear hc hat hat'
          have hj0 : (0 : Int) ≤ (j : Int) := by omega
          have hj1 : (j : Int) < (n : Int) := by omega
          have hjg : ((j : Int) + 1 == 0) = false := by rw [beq_eq_false_iff_ne]; omega
          cases hlb : ltB p.nm f.nm with
          | false =>
            have H := hide (okL_no (i := j + 1) hk' (by rw [unhide HF, unhide HA, hlb, Bool.and_false]))
            unfold ltB at hlb
            go_wp2
            go_quiet (fail)
            go_wp2
            go_ret
            exact ⟨retB (unhide H), hba.trans ((bAD wr _ nq).mono (by omega))⟩
          | true =>
            cases hfb : fileB f with
            | false =>
              have H := hide (okL_no (i := j + 1) hk' (by rw [unhide HF, hfb]; rfl))
              replace hfb := hide hfb
              unfold ltB at hlb
              go_wp2
              go_quiet (fail)
              go_wp2_with (go_at_call 29; refine (fileOk_at f _ (unhide hfb) _ z1 z2).mono ?_; rintro e w1 ⟨rfl, hb1⟩)
              go_ret
              exact ⟨retB (unhide H), hba.trans ((bADT hb1).mono (by omega))⟩
            | true =>
              have HK := hide (show okAt fs (j + 1) = true by rw [unhide HF, unhide HA, hfb, hlb]; rfl)
              replace hfb := hide hfb
              unfold ltB at hlb
              go_wp2
              go_quiet (fail)
              go_wp2_with (go_at_call 29; refine (fileOk_at f _ (unhide hfb) _ z1 z2).mono ?_; rintro e w1 ⟨rfl, hb1⟩)
              go_roundw
              case rel => exact ⟨j + 2, by omega, by go_num, fun i hi => by (rcases Nat.lt_or_ge i (j + 1) with h | h); exact unhide hok i h; (have : i = j + 1 := by omega); subst this; exact unhide HK, hb.trans ((bADT hb1).mono (by omega))⟩
              case measure => simp [intOf]; omega
      · have H := hide (okL_yes (fs := fs) (by rw [unhide hnn]; omega) (fun i hi => unhide hok i (by rw [unhide hnn] at hi; omega)))
        go_wp2
        go_ret
        exact ⟨retB (unhide H), ((Below.refl w.heap.size w).alloc (Nat.le_refl _) _).trans (hb.mono (by omega))⟩
end Go.Proofs.Ytkaaabpodhgbpaa

namespace Go.Proofs.Ytkaaabpodhgbpaa
open Go.RowKit

set_option maxRecDepth 20000 in
set_option maxHeartbeats 4000000 in
theorem specDiskOk_any (fs : List Fl) (v : Value) (w : World) (hr : RdF w v fs) (hB : Bd fs) (hn : fs.length ≤ 2000000) :
    Calls Try.prog 56 #[.agg #[v]] w fun e w' => e = .returned (.bool (okL fs)) ∧ Below w.heap.size w w' := by
  obtain ⟨a, c, rfl, hc⟩ := hr.open
  clear hr
  obtain ⟨n, hnn⟩ : ∃ n, fs.length = n := ⟨_, rfl⟩
  rw [hnn] at hn ⊢
  replace hnn := hide hnn
  by_cases h30 : (30 : Int) < n
  · have H := hide (okL_long (fs := fs) (by rw [unhide hnn]; omega))
    go_enter Try.func56, Try.ntmps56
    go_wp2
    go_ret
    exact ⟨retB (unhide H), (Below.refl w.heap.size w).alloc (Nat.le_refl _) _⟩
  · go_enter Try.func56, Try.ntmps56
    go_wp2
    go_loopw [3] (fun ti wr => ∃ k : Nat, k ≤ n ∧ ti = .int .i64 k ∧ Hid (∀ j, j < k → okAt fs j = true) ∧ Below (w.heap.size + 1) (w.alloc (.cells #[.slice a n c] 26)) wr) (fun ti _ => n - (intOf ti).toNat)
    case atStart => exact ⟨0, Nat.zero_le _, rfl, fun j hj => by omega, Below.refl _ _⟩
    case round =>
      obtain ⟨k, hk, rfl, hok, hb⟩ := hrel
      have hss := hb.size
      have hs1 : w.heap.size + 1 ≤ wr.heap.size := by simpa using hss
      have hs2 : w.heap.size < wr.heap.size := by omega
      have hbox : wr.cell? ⟨w.heap.size, 0, none⟩ = some (.slice a n c) := (hb.cell (p := ⟨w.heap.size, 0, none⟩) (by show w.heap.size < _; omega)).trans (by simp)
      by_cases hlt : k < n
      · have hk' : k < fs.length := by rw [unhide hnn]; exact hlt
        obtain ⟨f, hf⟩ : ∃ f, fs[k]? = some f := ⟨fs[k], List.getElem?_eq_getElem hk'⟩
        obtain ⟨g, o, rfl, hg, hat⟩ := hc k f hf
        have hba : Below w.heap.size w wr := ((Below.refl w.heap.size w).alloc (Nat.le_refl _) _).trans (hb.mono (by omega))
        obtain ⟨d1, d2, d3⟩ := hat.below hba hg
        obtain ⟨z1, z2⟩ := hB f (List.mem_of_getElem? hf)
        have HF := hide (okAt_of hf)
        have hgr : g < wr.heap.size := by omega
        cases hN : nameB f.nm with
        | false =>
          have H := hide (okL_no (i := k) hk' (by rw [unhide HF]; unfold fileB; rw [hN]; rfl))
          replace hN := hide hN
          replace hf := hide hf
          clear hc hat
          go_wp2
          go_quiet ((first | (go_at_call 57; exact Calls.quiet_of_same (l03Name_at f.nm _ (unhide hN) _ z1))))
          go_wp2
          go_ret
          exact ⟨retB (unhide H), hba.trans ((bAD wr _ nq).mono (by omega))⟩
        | true =>
          replace hN := hide hN
          cases hT : decide ((20000 : Int) < (f.tx.size : Int)) with
          | true =>
            have hT' : (20000 : Int) < f.tx.size := of_decide_eq_true hT
            have H := hide (okL_no (i := k) hk' (by rw [unhide HF]; unfold fileB; rw [decide_eq_false (p := f.tx.size ≤ 20000) (by omega)]; simp))
            replace hf := hide hf
            clear hc hat hT'
            go_wp2
            go_quiet ((first | (go_at_call 57; exact Calls.quiet_of_same (l03Name_at f.nm _ (unhide hN) _ z1))))
            go_wp2
            go_ret
            exact ⟨retB (unhide H), hba.trans ((bAD wr _ nq).mono (by omega))⟩
          | false =>
            have hT' : ¬ (20000 : Int) < f.tx.size := of_decide_eq_false hT
            cases hK : inB f.kp 0 f.tx.size with
            | false =>
              have H := hide (okL_no (i := k) hk' (by rw [unhide HF]; unfold fileB; rw [show keptB f = false from hK]; simp))
              replace hK := hide hK
              replace hf := hide hf
              clear hc hat hT'
              go_wp2
              go_quiet ((first | (go_at_call 57; exact Calls.quiet_of_same (l03Name_at f.nm _ (unhide hN) _ z1)) | (go_at_call 40; exact Calls.quiet_of_same (l01In_at _ _ _ _ (unhide hK) _))))
              go_wp2
              go_ret
              exact ⟨retB (unhide H), hba.trans ((bAD wr _ nq).mono (by omega))⟩
            | true =>
              have HG := hide (show fileB f = true by unfold fileB; rw [unhide hN, show keptB f = true from hK, decide_eq_true (p := f.tx.size ≤ 20000) (by omega)]; rfl)
              replace hK := hide hK
              clear hT'
              cases k with
              | zero =>
                have HK := hide (show okAt fs 0 = true by rw [unhide HF, unhide HG]; rfl)
                simp only [Nat.zero_mul, Nat.add_zero] at d1 d2 d3
                replace hf := hide hf
                clear hc hat
                go_wp2
                go_quiet ((first | (go_at_call 57; exact Calls.quiet_of_same (l03Name_at f.nm _ (unhide hN) _ z1)) | (go_at_call 40; exact Calls.quiet_of_same (l01In_at _ _ _ _ (unhide hK) _))))
                go_wp2
                go_roundw
                case rel => exact ⟨1, by omega, by go_num, fun j hj => by (have : j = 0 := by omega); subst this; exact unhide HK, hb.trans ((bAD wr _ nq).mono (by omega))⟩
                case measure => simp [intOf]; omega
              | succ j =>
                obtain ⟨p, hp⟩ : ∃ p, fs[j]? = some p := ⟨fs[j], List.getElem?_eq_getElem (by omega)⟩
                obtain ⟨g', o', hgo, hg', hat'⟩ := hc j p hp
                simp only [Option.some.injEq, Addr.mk.injEq, and_true] at hgo
                obtain ⟨rfl, rfl⟩ := hgo
                obtain ⟨e1, e2, e3⟩ := hat'.below hba hg'
                have HA := hide (asc_of hp hf)
                replace hf := hide hf
                replace hp := hide hp
                clear hc hat hat'
                have hj0 : (0 : Int) ≤ (j : Int) := by omega
                have hj1 : (j : Int) < (n : Int) := by omega
                have hjg : decide ((0 : Int) < (j : Int) + 1) = true := decide_eq_true (by omega)
                cases hlb : ltB p.nm f.nm with
                | false =>
                  have H := hide (okL_no (i := j + 1) hk' (by rw [unhide HF, unhide HA, hlb, Bool.and_false]))
                  unfold ltB at hlb
                  go_wp2
                  go_quiet ((first | (go_at_call 57; exact Calls.quiet_of_same (l03Name_at f.nm _ (unhide hN) _ z1)) | (go_at_call 40; exact Calls.quiet_of_same (l01In_at _ _ _ _ (unhide hK) _))))
                  go_wp2
                  go_ret
                  exact ⟨retB (unhide H), hba.trans ((bAD wr _ nq).mono (by omega))⟩
                | true =>
                  have HK := hide (show okAt fs (j + 1) = true by rw [unhide HF, unhide HA, unhide HG, hlb]; rfl)
                  unfold ltB at hlb
                  go_wp2
                  go_quiet ((first | (go_at_call 57; exact Calls.quiet_of_same (l03Name_at f.nm _ (unhide hN) _ z1)) | (go_at_call 40; exact Calls.quiet_of_same (l01In_at _ _ _ _ (unhide hK) _))))
                  go_wp2
                  go_roundw
                  case rel => exact ⟨j + 2, by omega, by go_num, fun i hi => by (rcases Nat.lt_or_ge i (j + 1) with h | h); exact unhide hok i h; (have : i = j + 1 := by omega); subst this; exact unhide HK, hb.trans ((bAD wr _ nq).mono (by omega))⟩
                  case measure => simp [intOf]; omega
      · have H := hide (okL_yes (fs := fs) (by rw [unhide hnn]; omega) (fun i hi => unhide hok i (by rw [unhide hnn] at hi; omega)))
        go_wp2
        go_ret
        exact ⟨retB (unhide H), ((Below.refl w.heap.size w).alloc (Nat.le_refl _) _).trans (hb.mono (by omega))⟩
end Go.Proofs.Ytkaaabpodhgbpaa
