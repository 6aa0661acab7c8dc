/- A block is mixed in by spec, over the loaded program. -/
import Derived.Test.YtecbpplocokedaaShaA
namespace Go.Proofs.Ytecbpplocokedaa
open Go.RowKit
set_option maxRecDepth 20000 in
set_option maxHeartbeats 1000000 in
theorem specRound_any (v : V8) (hv : v.ok) (s : ByteArray) (hs : s.size = 64) (ga ca gk ck base : Nat) (w : World) (hA : OwnV w base 65 (.slice (some ⟨ga, 0, none⟩) 8 ca) (v.toL.map u32v)) (hK : OwnV w base 65 (.slice (some ⟨gk, 0, none⟩) 64 ck) (kTab.map u32v)) :
    Calls Try.prog 67 #[.slice (some ⟨ga, 0, none⟩) 8 ca, .slice (some ⟨gk, 0, none⟩) 64 ck, .string s] w fun e w' => (∃ g c, e = .returned (.slice (some ⟨g, 0, none⟩) 8 c) ∧ OwnV w' w.heap.size 65 (.slice (some ⟨g, 0, none⟩) 8 c) ((roundW v s).toL.map u32v)) ∧ Below w.heap.size w w' := by
  obtain ⟨i0, hi, hz0, hz1, hz2⟩ := info_parts Try.infoW
  have HA := hide hA
  have HK := hide hK
  clear hA hK
  go_enter Try.func67, Try.ntmps67
  go_wp2_with (go_at_call 65; refine (specWords_any s 16 (by omega) (by decide) _).mono ?_; rintro e w1 ⟨⟨a1, c1, rfl, hown1⟩, hb1⟩)
  replace hown1 := hide hown1
  go_loopw [7, 8] (fun tv ti wr => ∃ m : Nat, m ≤ 48 ∧ ti = .int .i64 ((16 + m : Nat) : Int) ∧ Hid (OwnV wr w.heap.size 65 tv ((schedN (wordsN s 16) m).map u32v)) ∧ Below w.heap.size w wr) (fun _ ti _ => 64 - (intOf ti).toNat)
  case atStart => exact ⟨0, by omega, rfl, hown1, hb1⟩
  case round =>
    clear hown1 hb1
    obtain ⟨m, hm, rfl, HO, hb⟩ := hrel
    have HL := hide (schedN_len (wordsN s 16) (wordsN_len s 16) m)
    obtain ⟨t, ht⟩ : ∃ t, t = 16 + m := ⟨_, rfl⟩
    rw [← ht] at HL ⊢
    obtain ⟨a, c, hsh⟩ := (unhide HO).shape
    rw [List.length_map, unhide HL] at hsh
    subst hsh
    obtain ⟨g, rfl, hg1, hg2⟩ := (unhide HO).some_at (by omega)
    by_cases hlt : m < 48
    · have htl : t < 64 := by omega
      have htg : 16 ≤ t := by omega
      have hsz := hb.size
      obtain ⟨p2, hp2⟩ : ∃ p, p = t - 2 := ⟨_, rfl⟩
      have y2 := hide (u32_get (l := schedN (wordsN s 16) m) (k := p2) (by rw [unhide HL]; omega))
      have c2 := (unhide HO).cell (u32_get (l := schedN (wordsN s 16) m) (k := p2) (by rw [unhide HL]; omega))
      have e2 : IntKind.i64.wrap ((t : Int) - 2) = (p2 : Int) := by rw [IntKind.wrap_i64]; omega
      have l2 : (p2 : Int) < (t : Int) := by omega
      have x2 := hide (sched_lt s m p2)
      replace hp2 := hide hp2
      obtain ⟨q2, hq2⟩ : ∃ q, q = at_ (schedN (wordsN s 16) m) p2 := ⟨_, rfl⟩
      rw [← hq2] at c2 x2 y2
      replace hq2 := hide hq2
      obtain ⟨p7, hp7⟩ : ∃ p, p = t - 7 := ⟨_, rfl⟩
      have y7 := hide (u32_get (l := schedN (wordsN s 16) m) (k := p7) (by rw [unhide HL]; omega))
      have c7 := (unhide HO).cell (u32_get (l := schedN (wordsN s 16) m) (k := p7) (by rw [unhide HL]; omega))
      have e7 : IntKind.i64.wrap ((t : Int) - 7) = (p7 : Int) := by rw [IntKind.wrap_i64]; omega
      have l7 : (p7 : Int) < (t : Int) := by omega
      have x7 := hide (sched_lt s m p7)
      replace hp7 := hide hp7
      obtain ⟨q7, hq7⟩ : ∃ q, q = at_ (schedN (wordsN s 16) m) p7 := ⟨_, rfl⟩
      rw [← hq7] at c7 x7 y7
      replace hq7 := hide hq7
      obtain ⟨p15, hp15⟩ : ∃ p, p = t - 15 := ⟨_, rfl⟩
      have y15 := hide (u32_get (l := schedN (wordsN s 16) m) (k := p15) (by rw [unhide HL]; omega))
      have c15 := (unhide HO).cell (u32_get (l := schedN (wordsN s 16) m) (k := p15) (by rw [unhide HL]; omega))
      have e15 : IntKind.i64.wrap ((t : Int) - 15) = (p15 : Int) := by rw [IntKind.wrap_i64]; omega
      have l15 : (p15 : Int) < (t : Int) := by omega
      have x15 := hide (sched_lt s m p15)
      replace hp15 := hide hp15
      obtain ⟨q15, hq15⟩ : ∃ q, q = at_ (schedN (wordsN s 16) m) p15 := ⟨_, rfl⟩
      rw [← hq15] at c15 x15 y15
      replace hq15 := hide hq15
      obtain ⟨p16, hp16⟩ : ∃ p, p = t - 16 := ⟨_, rfl⟩
      have y16 := hide (u32_get (l := schedN (wordsN s 16) m) (k := p16) (by rw [unhide HL]; omega))
      have c16 := (unhide HO).cell (u32_get (l := schedN (wordsN s 16) m) (k := p16) (by rw [unhide HL]; omega))
      have e16 : IntKind.i64.wrap ((t : Int) - 16) = (p16 : Int) := by rw [IntKind.wrap_i64]; omega
      have l16 : (p16 : Int) < (t : Int) := by omega
      have x16 := hide (sched_lt s m p16)
      replace hp16 := hide hp16
      obtain ⟨q16, hq16⟩ : ∃ q, q = at_ (schedN (wordsN s 16) m) p16 := ⟨_, rfl⟩
      rw [← hq16] at c16 x16 y16
      replace hq16 := hide hq16
      replace ht := hide ht
      have hln : ((schedN (wordsN s 16) m).map u32v).length = t := by rw [List.length_map]; exact unhide HL
      have hm1 : ((schedN (wordsN s 16) m).map u32v).length + 1 ≤ maxLen := by rw [hln]; unfold maxLen; omega
      have hm2 : (((schedN (wordsN s 16) m).map u32v).length + 1) * 4 ≤ 140737488355328 := by rw [hln]; omega
      replace hm1 := hide hm1
      replace hm2 := hide hm2
      clear hln
      have HC := hide (show OwnV wr w.heap.size 65 (.slice (some ⟨g, 0, none⟩) t c) ((schedN (wordsN s 16) m).map u32v) from unhide HO)
      go_wp2
      go_region_held3 (fun W => W.cell? ⟨g, p2, none⟩ = some (.int .u32 (q2 : Int)) ∧ W.cell? ⟨g, p7, none⟩ = some (.int .u32 (q7 : Int)) ∧ W.cell? ⟨g, p15, none⟩ = some (.int .u32 (q15 : Int)) ∧ W.cell? ⟨g, p16, none⟩ = some (.int .u32 (q16 : Int))) (first | exact ⟨c2, c7, c15, c16⟩ | exact ⟨cell_drew_alloc c2 hg2, cell_drew_alloc c7 hg2, cell_drew_alloc c15 hg2, cell_drew_alloc c16 hg2⟩ | exact ⟨hcl2 _ _ (unhide y2), hcl2 _ _ (unhide y7), hcl2 _ _ (unhide y15), hcl2 _ _ (unhide y16)⟩ | fail) (first
        | (go_at_call 75; refine (specS_lit _ _ _ _ _ (by first | exact unhide x2 | exact unhide x15) (by decide) _).mono ?_; rintro e w1 ⟨rfl, n1, rfl⟩)
        | (refine step_append_one rfl rfl (.tmp 25) (.tmp 51) 90 rfl w.heap.size w.heap.size i0 (.int .u32 0) 4 Try.underlying90 hi hz0 hz1 hz2 rfl g t c _ rfl (by exact unhide HC) rfl (unhide hm1) (unhide hm2) (Nat.le_refl _) (by exact hsz) (by exact Below.drewN hb _) ?_; intro v' w2 hown2 hb2 hcl2))
      have hev : IntKind.u32.wrap (IntKind.u32.wrap (IntKind.u32.wrap ((sgV 131072 q2 : Int) + (q7 : Int)) + (sgV 128 q15 : Int)) + (q16 : Int)) = ((moreW (schedN (wordsN s 16) m) (16 + m) : Nat) : Int) := by
        have et := unhide ht
        rw [unhide hq2, unhide hq7, unhide hq15, unhide hq16, unhide hp2, unhide hp7, unhide hp15, unhide hp16, sgV_a, sgV_b, et]
        unfold moreW
        simp only [IntKind.wrap_u32]
        omega
      have hown3 : OwnV w2 w.heap.size 65 v' ((schedN (wordsN s 16) (m + 1)).map u32v) := by
        rw [hev] at hown2
        rw [show schedN (wordsN s 16) (m + 1) = schedN (wordsN s 16) m ++ [moreW (schedN (wordsN s 16) m) (16 + m)] from rfl, List.map_append]
        exact hown2
      replace hown3 := hide hown3
      clear hown2 hcl2 hev y2 y7 y15 y16 c2 c7 c15 c16 HC
      go_wp2
      go_roundw
      case rel => exact ⟨m + 1, by omega, by have := unhide ht; go_num, hown3, hb2⟩
      case measure => have := unhide ht; simp [intOf]; omega
    · obtain rfl : m = 48 := by omega
      obtain rfl : t = 64 := by omega
      clear hlt hm ht
      replace HL := hide (show ((schedN (wordsN s 16) 48).map u32v).length = 64 by rw [List.length_map]; exact unhide HL)
      obtain ⟨ws, hws⟩ : ∃ ws, ws = schedN (wordsN s 16) 48 := ⟨_, rfl⟩
      rw [← hws] at HO HL
      replace hws := hide hws
      have HA1 := hide ((unhide HA).below hb)
      have h8 : ∀ u ∈ v.toL.map u32v, u.oneCell' = true := by
        intro u hu
        obtain ⟨x, _, rfl⟩ := List.mem_map.1 hu
        rfl
      have ha9 := hb.size
      have hal := ((unhide HA).lt ga rfl).2
      have hkl := ((unhide HK).lt gk rfl).2
      go_wp2_with (at_builtin; refine wpList_copy_vals rfl (.tmp 53) (.tmp 54) 90 rfl 65 i0 (.int .u32 0) 4 Try.underlying90 hi hz0 hz1 hz2 rfl rfl base ga 8 ca _ rfl (unhide HA1) rfl h8 (by decide) (by decide) ?_; intro v4 w4 hown4 hb4)
      obtain ⟨a9, c9, e9⟩ := hown4.shape
      change v4 = .slice a9 8 c9 at e9
      subst e9
      obtain ⟨g9, rfl, h91, h92⟩ := hown4.some_at (by omega)
      replace hown4 := hide (hown4.low ha9)
      have HW4 := hide ((unhide HO).below hb4)
      have HA4 := hide ((unhide HA1).below hb4)
      have HK4 := hide (((unhide HK).below hb).below hb4)
      have hb5 := hb.trans (hb4.mono ha9)
      have hne7 : g ≠ g9 := by omega
      have hnek : gk ≠ g9 := by omega
      have hnea : ga ≠ g9 := by omega
      have hg9 : w.heap.size ≤ g9 := by omega
      clear HA1 HA HK HO hb hb4 h91 h8 hal hkl hg1 hg2
      go_loopw [10] (fun ti wq => ∃ k : Nat, k ≤ 64 ∧ ti = .int .i64 (k : Int) ∧ Hid (OwnV wq w.heap.size 65 (.slice (some ⟨g9, 0, none⟩) 8 c9) ((V8.steps ws k v).toL.map u32v)) ∧ Hid (w4.grownBy wq (some g9))) (fun ti _ => 64 - (intOf ti).toNat)
      case atStart => exact ⟨0, by omega, rfl, hown4, hide (grown_refl _ _)⟩
      case round =>
        obtain ⟨k, hk, rfl, HV, HG⟩ := hrel
        by_cases hlt : k < 64
        · have hk64 : (k : Int) < 64 := by omega
          have HSt := hide (show V8.steps ws (k + 1) v = (V8.steps ws k v).step (at_ kTab k) (at_ ws k) from rfl)
          have hVok := V8.steps_ok hv ws k
          generalize V8.steps ws k v = V at HV HSt hVok
          obtain ⟨b0, b1, b2, b3, b4, b5, b6, b7⟩ := V
          obtain ⟨o0, o1, o2, o3, o4, o5, o6, o7⟩ := hVok
          dsimp only at o0 o1 o2 o3 o4 o5 o6 o7
          have q0 := (unhide HV).cell (k := 0) (u := .int .u32 (b0 : Int)) rfl
          have q1 := (unhide HV).cell (k := 1) (u := .int .u32 (b1 : Int)) rfl
          have q2 := (unhide HV).cell (k := 2) (u := .int .u32 (b2 : Int)) rfl
          have q4 := (unhide HV).cell (k := 4) (u := .int .u32 (b4 : Int)) rfl
          have q5 := (unhide HV).cell (k := 5) (u := .int .u32 (b5 : Int)) rfl
          have q6 := (unhide HV).cell (k := 6) (u := .int .u32 (b6 : Int)) rfl
          have q7 := (unhide HV).cell (k := 7) (u := .int .u32 (b7 : Int)) rfl
          have qk := ((unhide HK4).grown2 (unhide HG) hnek).cell (u32_get (l := kTab) (k := k) hlt)
          have qw := ((unhide HW4).grown2 (unhide HG) hne7).cell (u32_get (l := ws) (k := k) (by have := unhide HL; rw [List.length_map] at this; omega))
          obtain ⟨kk, hkk⟩ : ∃ x, x = at_ kTab k := ⟨_, rfl⟩
          obtain ⟨ww, hww⟩ : ∃ x, x = at_ ws k := ⟨_, rfl⟩
          rw [← hkk, ← hww] at HSt
          rw [← hkk] at qk
          rw [← hww] at qw
          clear hkk hww
          go_wp2
          go_region_held3 (fun W => W.cell? ⟨g9, 0, none⟩ = some (.int .u32 (b0 : Int)) ∧ W.cell? ⟨g9, 1, none⟩ = some (.int .u32 (b1 : Int)) ∧ W.cell? ⟨g9, 2, none⟩ = some (.int .u32 (b2 : Int)) ∧ W.cell? ⟨g9, 5, none⟩ = some (.int .u32 (b5 : Int)) ∧ W.cell? ⟨g9, 6, none⟩ = some (.int .u32 (b6 : Int)) ∧ W.cell? ⟨g9, 7, none⟩ = some (.int .u32 (b7 : Int)) ∧ W.cell? ⟨gk, k, none⟩ = some (.int .u32 (kk : Int)) ∧ W.cell? ⟨g, k, none⟩ = some (.int .u32 (ww : Int))) (first | exact ⟨q0, q1, q2, q5, q6, q7, qk, qw⟩ | fail) (fail)
          go_wp2
          go_region_held3 (fun W => W.cell? ⟨g9, 0, none⟩ = some (.int .u32 (b0 : Int)) ∧ W.cell? ⟨g9, 1, none⟩ = some (.int .u32 (b1 : Int)) ∧ W.cell? ⟨g9, 2, none⟩ = some (.int .u32 (b2 : Int)) ∧ W.cell? ⟨g9, 5, none⟩ = some (.int .u32 (b5 : Int)) ∧ W.cell? ⟨g9, 6, none⟩ = some (.int .u32 (b6 : Int)) ∧ W.cell? ⟨g9, 7, none⟩ = some (.int .u32 (b7 : Int)) ∧ W.cell? ⟨gk, k, none⟩ = some (.int .u32 (kk : Int)) ∧ W.cell? ⟨g, k, none⟩ = some (.int .u32 (ww : Int))) (first | exact ⟨q0, q1, q2, q5, q6, q7, qk, qw⟩ | fail) (first
            | (go_at_call 75; refine (specS_lit _ _ _ _ _ o4 (by decide) _).mono ?_; rintro e w1 ⟨rfl, n1, rfl⟩)
            | fail)
          go_wp2
          go_region_held3 (fun W => W.cell? ⟨g9, 0, none⟩ = some (.int .u32 (b0 : Int)) ∧ W.cell? ⟨g9, 1, none⟩ = some (.int .u32 (b1 : Int)) ∧ W.cell? ⟨g9, 2, none⟩ = some (.int .u32 (b2 : Int)) ∧ W.cell? ⟨g9, 5, none⟩ = some (.int .u32 (b5 : Int)) ∧ W.cell? ⟨g9, 6, none⟩ = some (.int .u32 (b6 : Int)) ∧ W.cell? ⟨g9, 7, none⟩ = some (.int .u32 (b7 : Int)) ∧ W.cell? ⟨gk, k, none⟩ = some (.int .u32 (kk : Int)) ∧ W.cell? ⟨g, k, none⟩ = some (.int .u32 (ww : Int))) (first | exact ⟨q0, q1, q2, q5, q6, q7, qk, qw⟩ | fail) (fail)
          go_wp2_with (go_at_call 75; refine (specS_lit _ _ _ _ _ o0 (by decide) _).mono ?_; rintro e w1 ⟨rfl, n2, rfl⟩)
          have ec1 : IntKind.u32.wrap (4294967295 - (b4 : Int)) = ((4294967295 - b4 : Nat) : Int) := by rw [IntKind.wrap_u32]; omega
          have ech : bits .xor .u32 (bits .and .u32 (b4 : Int) (b5 : Int)) (bits .and .u32 (IntKind.u32.wrap (4294967295 - (b4 : Int))) (b6 : Int)) = ((chN b4 b5 b6 : Nat) : Int) := by
            rw [ec1, u32_and_nat b4 b5 o4 o5, u32_and_nat _ b6 (by omega) o6, u32_xor_nat _ _ (and32 o4) (and32 (by omega))]
            rfl
          have emj : bits .xor .u32 (bits .xor .u32 (bits .and .u32 (b0 : Int) (b1 : Int)) (bits .and .u32 (b0 : Int) (b2 : Int))) (bits .and .u32 (b1 : Int) (b2 : Int)) = ((majN b0 b1 b2 : Nat) : Int) := by
            rw [u32_and_nat b0 b1 o0 o1, u32_and_nat b0 b2 o0 o2, u32_and_nat b1 b2 o1 o2, u32_xor_nat _ _ (and32 o0) (and32 o0), u32_xor_nat _ _ (xor32 (and32 o0) (and32 o0)) (and32 o1)]
            rfl
          rw [ech, emj]
          obtain ⟨T1, hT1⟩ : ∃ x : Nat, x = (V8.mk b0 b1 b2 b3 b4 b5 b6 b7).t1 kk ww := ⟨_, rfl⟩
          obtain ⟨T2, hT2⟩ : ∃ x : Nat, x = (V8.mk b0 b1 b2 b3 b4 b5 b6 b7).t2 := ⟨_, rfl⟩
          have et1 : IntKind.u32.wrap (IntKind.u32.wrap (IntKind.u32.wrap (IntKind.u32.wrap ((b7 : Int) + (sgV 64 b4 : Int)) + (chN b4 b5 b6 : Int)) + (kk : Int)) + (ww : Int)) = (T1 : Int) := by
            rw [hT1, sgV_c, show (V8.mk b0 b1 b2 b3 b4 b5 b6 b7).t1 kk ww = (b7 + sg3 6 11 25 b4 + chN b4 b5 b6 + kk + ww) % 4294967296 from rfl]
            simp only [IntKind.wrap_u32]
            omega
          have et2 : ((sgV 4 b0 : Int) + (majN b0 b1 b2 : Int)) % 4294967296 = (T2 : Int) := by
            rw [hT2, sgV_d, show (V8.mk b0 b1 b2 b3 b4 b5 b6 b7).t2 = (sg3 2 13 22 b0 + majN b0 b1 b2) % 4294967296 from rfl]
            omega
          rw [et1, et2]
          have HSt2 := hide (show V8.steps ws (k + 1) v = V8.mk ((T1 + T2) % 4294967296) b0 b1 b2 ((b3 + T1) % 4294967296) b4 b5 b6 by rw [unhide HSt, hT1, hT2]; rfl)
          clear HSt hT1 hT2 et1 et2 ech emj ec1 q0 q1 q2 q4 q5 q6 q7 qk qw o0 o1 o2 o3 o4 o5 o6 o7
          have HV2 : ∀ n, Hid (OwnV (wr.drewN n) w.heap.size 65 (.slice (some ⟨g9, 0, none⟩) 8 c9) (shL ([b0, b1, b2, b3, b4, b5, b6, b7].map u32v) 7)) := fun _ => HV
          have HG2 : ∀ n, Hid (w4.grownBy (wr.drewN n) (some g9)) := fun n => hide (grown_drew (unhide HG) n)
          replace HV2 := HV2 (1 + (1 + n1) + 1 + n2)
          replace HG2 := HG2 (1 + (1 + n1) + 1 + n2)
          clear HV HG
          generalize wr.drewN (1 + (1 + n1) + 1 + n2) = W5 at *
          go_loopw [16] (fun ti wq => ∃ j : Nat, j ≤ 7 ∧ ti = .int .i64 (j : Int) ∧ Hid (OwnV wq w.heap.size 65 (.slice (some ⟨g9, 0, none⟩) 8 c9) (shL ([b0, b1, b2, b3, b4, b5, b6, b7].map u32v) j)) ∧ Hid (w4.grownBy wq (some g9))) (fun ti _ => (intOf ti).toNat)
          case atStart => exact ⟨7, by omega, rfl, HV2, HG2⟩
          case round =>
            clear HV2 HG2
            obtain ⟨j, hj, rfl, HV, HG⟩ := hrel
            by_cases hj0 : 0 < j
            · obtain ⟨u, hu1, hu2⟩ := shL_at b0 b1 b2 b3 b4 b5 b6 b7 j hj0 hj
              have cp := (unhide HV).cell hu1
              have fj := (unhide HV).frozen j
              have cj := (unhide HV).cell (List.getElem?_eq_getElem (l := shL ([b0, b1, b2, b3, b4, b5, b6, b7].map u32v) j) (i := j) (by rw [shL_len b0 b1 b2 b3 b4 b5 b6 b7 j hj]; omega))
              have HS := hide ((unhide HV).set j (.int .u32 (u : Int)))
              rw [hu2] at HS
              have HG5 := hide (grown_set (unhide HG) j (.int .u32 (u : Int)))
              obtain ⟨p, hp⟩ : ∃ p, p = j - 1 := ⟨_, rfl⟩
              rw [← hp] at cp HS
              have e1 : IntKind.i64.wrap ((j : Int) - 1) = (p : Int) := by rw [IntKind.wrap_i64]; omega
              have l1 : (p : Int) < 8 := by omega
              have l2 : (j : Int) < 8 := by omega
              have l3 : (0 : Int) < (j : Int) := by omega
              replace hp := hide hp
              clear hu1 hu2 HV HG
              go_wp2
              have hp' := unhide hp
              exact ⟨⟨p, by omega, rfl, HS, HG5⟩, by simp [intOf]; omega⟩
            · obtain rfl : j = 0 := by omega
              replace HV := hide (show OwnV wr w.heap.size 65 (.slice (some ⟨g9, 0, none⟩) 8 c9) ([b0, b0, b1, b2, b3, b4, b5, b6].map u32v) from unhide HV)
              have d4 := (unhide HV).cell (k := 4) (u := .int .u32 (b3 : Int)) rfl
              have f4 := (unhide HV).frozen 4
              have HV2 := hide ((unhide HV).set 4 (.int .u32 (((b3 + T1) % 4294967296 : Nat) : Int)))
              have d0 := (unhide HV2).cell (k := 0) (u := .int .u32 (b0 : Int)) rfl
              have f0 := (unhide HV2).frozen 0
              have HV3 := hide ((unhide HV2).set 0 (.int .u32 (((T1 + T2) % 4294967296 : Nat) : Int)))
              have HG3 := hide (grown_set (grown_set (unhide HG) 4 (.int .u32 (((b3 + T1) % 4294967296 : Nat) : Int))) 0 (.int .u32 (((T1 + T2) % 4294967296 : Nat) : Int)))
              have es1 : IntKind.u32.wrap ((b3 : Int) + (T1 : Int)) = (((b3 + T1) % 4294967296 : Nat) : Int) := by rw [IntKind.wrap_u32]; omega
              have es2 : IntKind.u32.wrap ((T1 : Int) + (T2 : Int)) = (((T1 + T2) % 4294967296 : Nat) : Int) := by rw [IntKind.wrap_u32]; omega
              clear HV HV2 HG
              generalize (b3 + T1) % 4294967296 = X4 at *
              generalize (T1 + T2) % 4294967296 = X0 at *
              replace HV3 := hide (show OwnV ((wr.setCell ⟨g9, 4, none⟩ (.int .u32 (X4 : Int))).setCell ⟨g9, 0, none⟩ (.int .u32 (X0 : Int))) w.heap.size 65 (.slice (some ⟨g9, 0, none⟩) 8 c9) ((V8.steps ws (k + 1) v).toL.map u32v) by rw [unhide HSt2]; exact unhide HV3)
              go_wp2
              go_roundw
              case rel => exact ⟨k + 1, by omega, by go_num, HV3, HG3⟩
              case measure => simp [intOf]; omega
        · have hk6 : k = 64 := by omega
          have hk7 : ¬ (k : Int) < 64 := by omega
          replace HV := hide (show OwnV wr w.heap.size 65 (.slice (some ⟨g9, 0, none⟩) 8 c9) ((V8.steps ws 64 v).toL.map u32v) by have := unhide HV; rw [hk6] at this; exact this)
          replace hk6 := hide hk6
          have HSum : Hid (roundW v s = v.plus (V8.steps ws 64 v)) := hide (by rw [unhide hws]; rfl)
          have HA6 := hide ((unhide HA4).grown2 (unhide HG) hnea)
          have hbw : Below w.heap.size w wr := hb5.grown (unhide HG) hb5.size (fun q hq => by cases hq; exact hg9)
          have hwz := hbw.size
          generalize V8.steps ws 64 v = V at HV HSum
          obtain ⟨R, hR⟩ : ∃ R, R = roundW v s := ⟨_, rfl⟩
          rw [← hR] at HSum
          obtain ⟨W6, hW6⟩ : ∃ W, W = wr := ⟨_, rfl⟩
          subst hW6
          have hla := ((unhide HA6).lt ga rfl).2
          have hlv := ((unhide HV).lt g9 rfl).2
          clear HG HW4 HA4 HK4 hb5 hws HL
          go_wp2
          go_loopw [17, 18] (fun tv ti wq => ∃ k : Nat, k ≤ 8 ∧ ti = .int .i64 (k : Int) ∧ Hid (OwnV wq W6.heap.size 65 tv ((R.toL.take k).map u32v)) ∧ Below W6.heap.size W6 wq) (fun _ ti _ => 8 - (intOf ti).toNat)
          case atStart => exact ⟨0, by omega, rfl, hide (World.ownsRow_made W6 #[] 0 (Nat.le_refl _) (by decide) (by simp)), (Below.refl _ _).alloc (Nat.le_refl _) _⟩
          case round =>
            obtain ⟨k, hk, rfl, HO, hb⟩ := hrel
            by_cases hlt : k < 8
            · have hk8 : (k : Int) < 8 := by omega
              have ca0 := (unhide HA6).cell (u32_get (l := v.toL) (k := k) hlt)
              have cv0 := (unhide HV).cell (u32_get (l := V.toL) (k := k) hlt)
              have hpt := hide (plus_take v V k hlt)
              obtain ⟨x, hx⟩ : ∃ x, x = at_ v.toL k := ⟨_, rfl⟩
              obtain ⟨y, hy⟩ : ∃ y, y = at_ V.toL k := ⟨_, rfl⟩
              rw [← hx] at ca0 hpt
              rw [← hy] at cv0 hpt
              rw [← unhide HSum] at hpt
              clear hx hy
              have KS := hide (fun (W : World) (h : Below W6.heap.size W6 W) => (⟨(h.cell (p := ⟨ga, k, none⟩) hla).trans ca0, (h.cell (p := ⟨g9, k, none⟩) hlv).trans cv0⟩ : W.cell? ⟨ga, k, none⟩ = some (.int .u32 (x : Int)) ∧ W.cell? ⟨g9, k, none⟩ = some (.int .u32 (y : Int))))
              obtain ⟨ca, cv⟩ := (unhide KS) _ hb
              have hsz := hb.size
              have hl1 : ((R.toL.take k).map u32v).length + 1 ≤ maxLen := by rw [take_len8 R k hk]; unfold maxLen; omega
              have hl2 : (((R.toL.take k).map u32v).length + 1) * 4 ≤ 140737488355328 := by rw [take_len8 R k hk]; omega
              replace hl1 := hide hl1
              replace hl2 := hide hl2
              clear ca0 cv0
              go_wp2
              go_region_held3 (fun W => W.cell? ⟨ga, k, none⟩ = some (.int .u32 (x : Int)) ∧ W.cell? ⟨g9, k, none⟩ = some (.int .u32 (y : Int))) (first | exact ⟨ca, cv⟩ | exact (unhide KS) _ (hb.drew.alloc hsz _) | exact (unhide KS) _ hb2 | fail) (first
                | (refine step_append_lone (w := wr.drew) (x := IntKind.u32.wrap ((x : Int) + (y : Int))) (e := 65) rfl rfl (.tmp 151) (.tmp 161) 90 rfl W6.heap.size W6.heap.size i0 (.int .u32 0) 4 Try.underlying90 hi hz0 hz1 hz2 rfl _ _ rfl (by exact unhide HO) rfl (unhide hl1) (unhide hl2) (Nat.le_refl _) (by exact hsz) (by exact hb.drew) ?_; intro v' w2 hown2 hb2))
              have hev : IntKind.u32.wrap ((x : Int) + (y : Int)) = (((x + y) % 4294967296 : Nat) : Int) := by rw [IntKind.wrap_u32]; omega
              have hown3 : OwnV w2 W6.heap.size 65 v' ((R.toL.take (k + 1)).map u32v) := by
                rw [hev] at hown2
                rw [unhide hpt, List.map_append]
                exact hown2
              replace hown3 := hide hown3
              clear hown2 hev hpt KS
              go_wp2
              go_roundw
              case rel => exact ⟨k + 1, by omega, by go_num, hown3, hb2⟩
              case measure => simp [intOf]; omega
            · obtain rfl : k = 8 := by omega
              have hown := unhide HO
              obtain ⟨a7, c7, e7⟩ := hown.shape
              rw [take_len8 R 8 (by omega)] at e7
              subst e7
              obtain ⟨g7, rfl, _, _⟩ := hown.some_at (by omega)
              have hfin : OwnV wr w.heap.size 65 (.slice (some ⟨g7, 0, none⟩) 8 c7) ((roundW v s).toL.map u32v) := by rw [← hR]; exact hown.low hwz
              replace hfin := hide hfin
              have hbf := hbw.trans (hb.mono hwz)
              clear hown HO HV HA6 HSum hR
              go_wp2
              go_ret
              exact ⟨⟨_, _, rfl, unhide hfin⟩, hbf⟩
end Go.Proofs.Ytecbpplocokedaa
