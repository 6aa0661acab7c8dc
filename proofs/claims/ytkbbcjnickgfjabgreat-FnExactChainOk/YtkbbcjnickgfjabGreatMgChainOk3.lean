/- Merged: ShaR, ShaE, Zer, ShaG, ShaD, Shelf, ShaM, ShaP, Mrk. -/
import Derived.Test.YtkbbcjnickgfjabGreatMgChainOk1
import Derived.Test.YtkbbcjnickgfjabGreatMgChainOk2
import Derived.Laws.CopyRow
import Derived.Laws.CopyOwn
import Derived.Shelf.Strings.Builder1
import Derived.Shelf.Strings.Builder2
import Derived.Shelf.Strings.BuilderF
import Derived.Shelf.Strings.BuilderK
import Derived.Shelf.Strings.Builder2Cap
import Derived.Shelf.LaysM
import Derived.Shelf.Strconv.Clone
import Derived.Shelf.Strings.Prefix
import Derived.Shelf.Bits.Mul64
import Derived.Shelf.Strings.Repeat
import Derived.Test.YtkbbcjnickgfjabGreatProg
import Derived.Laws.DeepStrings4
import Derived.Lib.ConvBytes
/- A block is mixed in by spec, over the loaded program. -/
namespace Go.Proofs.YtkbbcjnickgfjabGreat
open Go.RowKit
set_option maxRecDepth 20000 in
set_option maxHeartbeats 1000000 in
theorem specRound_any (v : V8) (hv : v.ok) (s : ByteArray) (hs : s.size = 64) (ga ca gk ck base : Nat) (w : World) (hA : OwnV w base 76 (.slice (some ⟨ga, 0, none⟩) 8 ca) (v.toL.map u32v)) (hK : OwnV w base 76 (.slice (some ⟨gk, 0, none⟩) 64 ck) (kTab.map u32v)) :
    Calls Tryz.prog 63 #[.slice (some ⟨ga, 0, none⟩) 8 ca, .slice (some ⟨gk, 0, none⟩) 64 ck, .string s] w fun e w' => (∃ g c, e = .returned (.slice (some ⟨g, 0, none⟩) 8 c) ∧ OwnV w' w.heap.size 76 (.slice (some ⟨g, 0, none⟩) 8 c) ((roundW v s).toL.map u32v)) ∧ Below w.heap.size w w' := by
  obtain ⟨i0, hi, hz0, hz1, hz2⟩ := info_parts Tryz.infoW
  have HA := hide hA
  have HK := hide hK
  clear hA hK
  go_enter Tryz.func63, Tryz.ntmps63
  go_wp2_with (go_at_call 61; refine (specWords_any s 16 (by omega) (by decide) _).mono ?_; rintro e w1 ⟨⟨a1, c1, rfl, hown1⟩, hb1⟩)
  replace hown1 := hide hown1
  go_loopw [7, 8] (fun tv ti wr => ∃ m : Nat, m ≤ 48 ∧ ti = .int .i64 ((16 + m : Nat) : Int) ∧ Hid (OwnV wr w.heap.size 76 tv ((schedN (wordsN s 16) m).map u32v)) ∧ Below w.heap.size w wr) (fun _ ti _ => 64 - (intOf ti).toNat)
  case atStart => exact ⟨0, by omega, rfl, hown1, hb1⟩
  case round =>
    clear hown1 hb1
    obtain ⟨m, hm, rfl, HO, hb⟩ := hrel
    have HL := hide (schedN_len (wordsN s 16) (wordsN_len s 16) m)
    obtain ⟨t, ht⟩ : ∃ t, t = 16 + m := ⟨_, rfl⟩
    rw [← ht] at HL ⊢
    obtain ⟨a, c, hsh⟩ := (unhide HO).shape
    rw [List.length_map, unhide HL] at hsh
    subst hsh
    obtain ⟨g, rfl, hg1, hg2⟩ := (unhide HO).some_at (by omega)
    by_cases hlt : m < 48
    · have htl : t < 64 := by omega
      have htg : 16 ≤ t := by omega
      have hsz := hb.size
      obtain ⟨p2, hp2⟩ : ∃ p, p = t - 2 := ⟨_, rfl⟩
      have y2 := hide (u32_get (l := schedN (wordsN s 16) m) (k := p2) (by rw [unhide HL]; omega))
      have c2 := (unhide HO).cell (u32_get (l := schedN (wordsN s 16) m) (k := p2) (by rw [unhide HL]; omega))
      have e2 : IntKind.i64.wrap ((t : Int) - 2) = (p2 : Int) := by rw [IntKind.wrap_i64]; omega
      have l2 : (p2 : Int) < (t : Int) := by omega
      have x2 := hide (sched_lt s m p2)
      replace hp2 := hide hp2
      obtain ⟨q2, hq2⟩ : ∃ q, q = at_ (schedN (wordsN s 16) m) p2 := ⟨_, rfl⟩
      rw [← hq2] at c2 x2 y2
      replace hq2 := hide hq2
      obtain ⟨p7, hp7⟩ : ∃ p, p = t - 7 := ⟨_, rfl⟩
      have y7 := hide (u32_get (l := schedN (wordsN s 16) m) (k := p7) (by rw [unhide HL]; omega))
      have c7 := (unhide HO).cell (u32_get (l := schedN (wordsN s 16) m) (k := p7) (by rw [unhide HL]; omega))
      have e7 : IntKind.i64.wrap ((t : Int) - 7) = (p7 : Int) := by rw [IntKind.wrap_i64]; omega
      have l7 : (p7 : Int) < (t : Int) := by omega
      have x7 := hide (sched_lt s m p7)
      replace hp7 := hide hp7
      obtain ⟨q7, hq7⟩ : ∃ q, q = at_ (schedN (wordsN s 16) m) p7 := ⟨_, rfl⟩
      rw [← hq7] at c7 x7 y7
      replace hq7 := hide hq7
      obtain ⟨p15, hp15⟩ : ∃ p, p = t - 15 := ⟨_, rfl⟩
      have y15 := hide (u32_get (l := schedN (wordsN s 16) m) (k := p15) (by rw [unhide HL]; omega))
      have c15 := (unhide HO).cell (u32_get (l := schedN (wordsN s 16) m) (k := p15) (by rw [unhide HL]; omega))
      have e15 : IntKind.i64.wrap ((t : Int) - 15) = (p15 : Int) := by rw [IntKind.wrap_i64]; omega
      have l15 : (p15 : Int) < (t : Int) := by omega
      have x15 := hide (sched_lt s m p15)
      replace hp15 := hide hp15
      obtain ⟨q15, hq15⟩ : ∃ q, q = at_ (schedN (wordsN s 16) m) p15 := ⟨_, rfl⟩
      rw [← hq15] at c15 x15 y15
      replace hq15 := hide hq15
      obtain ⟨p16, hp16⟩ : ∃ p, p = t - 16 := ⟨_, rfl⟩
      have y16 := hide (u32_get (l := schedN (wordsN s 16) m) (k := p16) (by rw [unhide HL]; omega))
      have c16 := (unhide HO).cell (u32_get (l := schedN (wordsN s 16) m) (k := p16) (by rw [unhide HL]; omega))
      have e16 : IntKind.i64.wrap ((t : Int) - 16) = (p16 : Int) := by rw [IntKind.wrap_i64]; omega
      have l16 : (p16 : Int) < (t : Int) := by omega
      have x16 := hide (sched_lt s m p16)
      replace hp16 := hide hp16
      obtain ⟨q16, hq16⟩ : ∃ q, q = at_ (schedN (wordsN s 16) m) p16 := ⟨_, rfl⟩
      rw [← hq16] at c16 x16 y16
      replace hq16 := hide hq16
      replace ht := hide ht
      have hln : ((schedN (wordsN s 16) m).map u32v).length = t := by rw [List.length_map]; exact unhide HL
      have hm1 : ((schedN (wordsN s 16) m).map u32v).length + 1 ≤ maxLen := by rw [hln]; unfold maxLen; omega
      have hm2 : (((schedN (wordsN s 16) m).map u32v).length + 1) * 4 ≤ 140737488355328 := by rw [hln]; omega
      replace hm1 := hide hm1
      replace hm2 := hide hm2
      clear hln
      have HC := hide (show OwnV wr w.heap.size 76 (.slice (some ⟨g, 0, none⟩) t c) ((schedN (wordsN s 16) m).map u32v) from unhide HO)
      go_wp2
      go_region_held3 (fun W => W.cell? ⟨g, p2, none⟩ = some (.int .u32 (q2 : Int)) ∧ W.cell? ⟨g, p7, none⟩ = some (.int .u32 (q7 : Int)) ∧ W.cell? ⟨g, p15, none⟩ = some (.int .u32 (q15 : Int)) ∧ W.cell? ⟨g, p16, none⟩ = some (.int .u32 (q16 : Int))) (first | exact ⟨c2, c7, c15, c16⟩ | exact ⟨cell_drew_alloc c2 hg2, cell_drew_alloc c7 hg2, cell_drew_alloc c15 hg2, cell_drew_alloc c16 hg2⟩ | exact ⟨hcl2 _ _ (unhide y2), hcl2 _ _ (unhide y7), hcl2 _ _ (unhide y15), hcl2 _ _ (unhide y16)⟩ | fail) (first
        | (go_at_call 90; refine (specS_lit _ _ _ _ _ (by first | exact unhide x2 | exact unhide x15) (by decide) _).mono ?_; rintro e w1 ⟨rfl, n1, rfl⟩)
        | (refine step_append_one rfl rfl (.tmp 25) (.tmp 51) 101 rfl w.heap.size w.heap.size i0 (.int .u32 0) 4 Tryz.underlying101 hi hz0 hz1 hz2 rfl g t c _ rfl (by exact unhide HC) rfl (unhide hm1) (unhide hm2) (Nat.le_refl _) (by exact hsz) (by exact Below.drewN hb _) ?_; intro v' w2 hown2 hb2 hcl2))
      have hev : IntKind.u32.wrap (IntKind.u32.wrap (IntKind.u32.wrap ((sgV 131072 q2 : Int) + (q7 : Int)) + (sgV 128 q15 : Int)) + (q16 : Int)) = ((moreW (schedN (wordsN s 16) m) (16 + m) : Nat) : Int) := by
        have et := unhide ht
        rw [unhide hq2, unhide hq7, unhide hq15, unhide hq16, unhide hp2, unhide hp7, unhide hp15, unhide hp16, sgV_a, sgV_b, et]
        unfold moreW
        simp only [IntKind.wrap_u32]
        omega
      have hown3 : OwnV w2 w.heap.size 76 v' ((schedN (wordsN s 16) (m + 1)).map u32v) := by
        rw [hev] at hown2
        rw [show schedN (wordsN s 16) (m + 1) = schedN (wordsN s 16) m ++ [moreW (schedN (wordsN s 16) m) (16 + m)] from rfl, List.map_append]
        exact hown2
      replace hown3 := hide hown3
      clear hown2 hcl2 hev y2 y7 y15 y16 c2 c7 c15 c16 HC
      go_wp2
      go_roundw
      case rel => exact ⟨m + 1, by omega, by have := unhide ht; go_num, hown3, hb2⟩
      case measure => have := unhide ht; simp [intOf]; omega
    · obtain rfl : m = 48 := by omega
      obtain rfl : t = 64 := by omega
      clear hlt hm ht
      replace HL := hide (show ((schedN (wordsN s 16) 48).map u32v).length = 64 by rw [List.length_map]; exact unhide HL)
      obtain ⟨ws, hws⟩ : ∃ ws, ws = schedN (wordsN s 16) 48 := ⟨_, rfl⟩
      rw [← hws] at HO HL
      replace hws := hide hws
      have HA1 := hide ((unhide HA).below hb)
      have h8 : ∀ u ∈ v.toL.map u32v, u.oneCell' = true := by
        intro u hu
        obtain ⟨x, _, rfl⟩ := List.mem_map.1 hu
        rfl
      have ha9 := hb.size
      have hal := ((unhide HA).lt ga rfl).2
      have hkl := ((unhide HK).lt gk rfl).2
      go_wp2_with (at_builtin; refine wpList_copy_vals rfl (.tmp 53) (.tmp 54) 101 rfl 76 i0 (.int .u32 0) 4 Tryz.underlying101 hi hz0 hz1 hz2 rfl rfl base ga 8 ca _ rfl (unhide HA1) rfl h8 (by decide) (by decide) ?_; intro v4 w4 hown4 hb4)
      obtain ⟨a9, c9, e9⟩ := hown4.shape
      change v4 = .slice a9 8 c9 at e9
      subst e9
      obtain ⟨g9, rfl, h91, h92⟩ := hown4.some_at (by omega)
      replace hown4 := hide (hown4.low ha9)
      have HW4 := hide ((unhide HO).below hb4)
      have HA4 := hide ((unhide HA1).below hb4)
      have HK4 := hide (((unhide HK).below hb).below hb4)
      have hb5 := hb.trans (hb4.mono ha9)
      have hne7 : g ≠ g9 := by omega
      have hnek : gk ≠ g9 := by omega
      have hnea : ga ≠ g9 := by omega
      have hg9 : w.heap.size ≤ g9 := by omega
      clear HA1 HA HK HO hb hb4 h91 h8 hal hkl hg1 hg2
      go_loopw [10] (fun ti wq => ∃ k : Nat, k ≤ 64 ∧ ti = .int .i64 (k : Int) ∧ Hid (OwnV wq w.heap.size 76 (.slice (some ⟨g9, 0, none⟩) 8 c9) ((V8.steps ws k v).toL.map u32v)) ∧ Hid (w4.grownBy wq (some g9))) (fun ti _ => 64 - (intOf ti).toNat)
      case atStart => exact ⟨0, by omega, rfl, hown4, hide (grown_refl _ _)⟩
      case round =>
        obtain ⟨k, hk, rfl, HV, HG⟩ := hrel
        by_cases hlt : k < 64
        · have hk64 : (k : Int) < 64 := by omega
          have HSt := hide (show V8.steps ws (k + 1) v = (V8.steps ws k v).step (at_ kTab k) (at_ ws k) from rfl)
          have hVok := V8.steps_ok hv ws k
          generalize V8.steps ws k v = V at HV HSt hVok
          obtain ⟨b0, b1, b2, b3, b4, b5, b6, b7⟩ := V
          obtain ⟨o0, o1, o2, o3, o4, o5, o6, o7⟩ := hVok
          dsimp only at o0 o1 o2 o3 o4 o5 o6 o7
          have q0 := (unhide HV).cell (k := 0) (u := .int .u32 (b0 : Int)) rfl
          have q1 := (unhide HV).cell (k := 1) (u := .int .u32 (b1 : Int)) rfl
          have q2 := (unhide HV).cell (k := 2) (u := .int .u32 (b2 : Int)) rfl
          have q4 := (unhide HV).cell (k := 4) (u := .int .u32 (b4 : Int)) rfl
          have q5 := (unhide HV).cell (k := 5) (u := .int .u32 (b5 : Int)) rfl
          have q6 := (unhide HV).cell (k := 6) (u := .int .u32 (b6 : Int)) rfl
          have q7 := (unhide HV).cell (k := 7) (u := .int .u32 (b7 : Int)) rfl
          have qk := ((unhide HK4).grown2 (unhide HG) hnek).cell (u32_get (l := kTab) (k := k) hlt)
          have qw := ((unhide HW4).grown2 (unhide HG) hne7).cell (u32_get (l := ws) (k := k) (by have := unhide HL; rw [List.length_map] at this; omega))
          obtain ⟨kk, hkk⟩ : ∃ x, x = at_ kTab k := ⟨_, rfl⟩
          obtain ⟨ww, hww⟩ : ∃ x, x = at_ ws k := ⟨_, rfl⟩
          rw [← hkk, ← hww] at HSt
          rw [← hkk] at qk
          rw [← hww] at qw
          clear hkk hww
          go_wp2
          go_region_held3 (fun W => W.cell? ⟨g9, 0, none⟩ = some (.int .u32 (b0 : Int)) ∧ W.cell? ⟨g9, 1, none⟩ = some (.int .u32 (b1 : Int)) ∧ W.cell? ⟨g9, 2, none⟩ = some (.int .u32 (b2 : Int)) ∧ W.cell? ⟨g9, 5, none⟩ = some (.int .u32 (b5 : Int)) ∧ W.cell? ⟨g9, 6, none⟩ = some (.int .u32 (b6 : Int)) ∧ W.cell? ⟨g9, 7, none⟩ = some (.int .u32 (b7 : Int)) ∧ W.cell? ⟨gk, k, none⟩ = some (.int .u32 (kk : Int)) ∧ W.cell? ⟨g, k, none⟩ = some (.int .u32 (ww : Int))) (first | exact ⟨q0, q1, q2, q5, q6, q7, qk, qw⟩ | fail) (fail)
          go_wp2
          go_region_held3 (fun W => W.cell? ⟨g9, 0, none⟩ = some (.int .u32 (b0 : Int)) ∧ W.cell? ⟨g9, 1, none⟩ = some (.int .u32 (b1 : Int)) ∧ W.cell? ⟨g9, 2, none⟩ = some (.int .u32 (b2 : Int)) ∧ W.cell? ⟨g9, 5, none⟩ = some (.int .u32 (b5 : Int)) ∧ W.cell? ⟨g9, 6, none⟩ = some (.int .u32 (b6 : Int)) ∧ W.cell? ⟨g9, 7, none⟩ = some (.int .u32 (b7 : Int)) ∧ W.cell? ⟨gk, k, none⟩ = some (.int .u32 (kk : Int)) ∧ W.cell? ⟨g, k, none⟩ = some (.int .u32 (ww : Int))) (first | exact ⟨q0, q1, q2, q5, q6, q7, qk, qw⟩ | fail) (first
            | (go_at_call 90; refine (specS_lit _ _ _ _ _ o4 (by decide) _).mono ?_; rintro e w1 ⟨rfl, n1, rfl⟩)
            | fail)
          go_wp2
          go_region_held3 (fun W => W.cell? ⟨g9, 0, none⟩ = some (.int .u32 (b0 : Int)) ∧ W.cell? ⟨g9, 1, none⟩ = some (.int .u32 (b1 : Int)) ∧ W.cell? ⟨g9, 2, none⟩ = some (.int .u32 (b2 : Int)) ∧ W.cell? ⟨g9, 5, none⟩ = some (.int .u32 (b5 : Int)) ∧ W.cell? ⟨g9, 6, none⟩ = some (.int .u32 (b6 : Int)) ∧ W.cell? ⟨g9, 7, none⟩ = some (.int .u32 (b7 : Int)) ∧ W.cell? ⟨gk, k, none⟩ = some (.int .u32 (kk : Int)) ∧ W.cell? ⟨g, k, none⟩ = some (.int .u32 (ww : Int))) (first | exact ⟨q0, q1, q2, q5, q6, q7, qk, qw⟩ | fail) (fail)
          go_wp2_with (go_at_call 90; refine (specS_lit _ _ _ _ _ o0 (by decide) _).mono ?_; rintro e w1 ⟨rfl, n2, rfl⟩)
          have ec1 : IntKind.u32.wrap (4294967295 - (b4 : Int)) = ((4294967295 - b4 : Nat) : Int) := by rw [IntKind.wrap_u32]; omega
          have ech : bits .xor .u32 (bits .and .u32 (b4 : Int) (b5 : Int)) (bits .and .u32 (IntKind.u32.wrap (4294967295 - (b4 : Int))) (b6 : Int)) = ((chN b4 b5 b6 : Nat) : Int) := by
            rw [ec1, u32_and_nat b4 b5 o4 o5, u32_and_nat _ b6 (by omega) o6, u32_xor_nat _ _ (and32 o4) (and32 (by omega))]
            rfl
          have emj : bits .xor .u32 (bits .xor .u32 (bits .and .u32 (b0 : Int) (b1 : Int)) (bits .and .u32 (b0 : Int) (b2 : Int))) (bits .and .u32 (b1 : Int) (b2 : Int)) = ((majN b0 b1 b2 : Nat) : Int) := by
            rw [u32_and_nat b0 b1 o0 o1, u32_and_nat b0 b2 o0 o2, u32_and_nat b1 b2 o1 o2, u32_xor_nat _ _ (and32 o0) (and32 o0), u32_xor_nat _ _ (xor32 (and32 o0) (and32 o0)) (and32 o1)]
            rfl
          rw [ech, emj]
          obtain ⟨T1, hT1⟩ : ∃ x : Nat, x = (V8.mk b0 b1 b2 b3 b4 b5 b6 b7).t1 kk ww := ⟨_, rfl⟩
          obtain ⟨T2, hT2⟩ : ∃ x : Nat, x = (V8.mk b0 b1 b2 b3 b4 b5 b6 b7).t2 := ⟨_, rfl⟩
          have et1 : IntKind.u32.wrap (IntKind.u32.wrap (IntKind.u32.wrap (IntKind.u32.wrap ((b7 : Int) + (sgV 64 b4 : Int)) + (chN b4 b5 b6 : Int)) + (kk : Int)) + (ww : Int)) = (T1 : Int) := by
            rw [hT1, sgV_c, show (V8.mk b0 b1 b2 b3 b4 b5 b6 b7).t1 kk ww = (b7 + sg3 6 11 25 b4 + chN b4 b5 b6 + kk + ww) % 4294967296 from rfl]
            simp only [IntKind.wrap_u32]
            omega
          have et2 : ((sgV 4 b0 : Int) + (majN b0 b1 b2 : Int)) % 4294967296 = (T2 : Int) := by
            rw [hT2, sgV_d, show (V8.mk b0 b1 b2 b3 b4 b5 b6 b7).t2 = (sg3 2 13 22 b0 + majN b0 b1 b2) % 4294967296 from rfl]
            omega
          rw [et1, et2]
          have HSt2 := hide (show V8.steps ws (k + 1) v = V8.mk ((T1 + T2) % 4294967296) b0 b1 b2 ((b3 + T1) % 4294967296) b4 b5 b6 by rw [unhide HSt, hT1, hT2]; rfl)
          clear HSt hT1 hT2 et1 et2 ech emj ec1 q0 q1 q2 q4 q5 q6 q7 qk qw o0 o1 o2 o3 o4 o5 o6 o7
          have HV2 : ∀ n, Hid (OwnV (wr.drewN n) w.heap.size 76 (.slice (some ⟨g9, 0, none⟩) 8 c9) (shL ([b0, b1, b2, b3, b4, b5, b6, b7].map u32v) 7)) := fun _ => HV
          have HG2 : ∀ n, Hid (w4.grownBy (wr.drewN n) (some g9)) := fun n => hide (grown_drew (unhide HG) n)
          replace HV2 := HV2 (1 + (1 + n1) + 1 + n2)
          replace HG2 := HG2 (1 + (1 + n1) + 1 + n2)
          clear HV HG
          generalize wr.drewN (1 + (1 + n1) + 1 + n2) = W5 at *
          go_loopw [16] (fun ti wq => ∃ j : Nat, j ≤ 7 ∧ ti = .int .i64 (j : Int) ∧ Hid (OwnV wq w.heap.size 76 (.slice (some ⟨g9, 0, none⟩) 8 c9) (shL ([b0, b1, b2, b3, b4, b5, b6, b7].map u32v) j)) ∧ Hid (w4.grownBy wq (some g9))) (fun ti _ => (intOf ti).toNat)
          case atStart => exact ⟨7, by omega, rfl, HV2, HG2⟩
          case round =>
            clear HV2 HG2
            obtain ⟨j, hj, rfl, HV, HG⟩ := hrel
            by_cases hj0 : 0 < j
            · obtain ⟨u, hu1, hu2⟩ := shL_at b0 b1 b2 b3 b4 b5 b6 b7 j hj0 hj
              have cp := (unhide HV).cell hu1
              have fj := (unhide HV).frozen j
              have cj := (unhide HV).cell (List.getElem?_eq_getElem (l := shL ([b0, b1, b2, b3, b4, b5, b6, b7].map u32v) j) (i := j) (by rw [shL_len b0 b1 b2 b3 b4 b5 b6 b7 j hj]; omega))
              have HS := hide ((unhide HV).set j (.int .u32 (u : Int)))
              rw [hu2] at HS
              have HG5 := hide (grown_set (unhide HG) j (.int .u32 (u : Int)))
              obtain ⟨p, hp⟩ : ∃ p, p = j - 1 := ⟨_, rfl⟩
              rw [← hp] at cp HS
              have e1 : IntKind.i64.wrap ((j : Int) - 1) = (p : Int) := by rw [IntKind.wrap_i64]; omega
              have l1 : (p : Int) < 8 := by omega
              have l2 : (j : Int) < 8 := by omega
              have l3 : (0 : Int) < (j : Int) := by omega
              replace hp := hide hp
              clear hu1 hu2 HV HG
              go_wp2
              have hp' := unhide hp
              exact ⟨⟨p, by omega, rfl, HS, HG5⟩, by simp [intOf]; omega⟩
            · obtain rfl : j = 0 := by omega
              replace HV := hide (show OwnV wr w.heap.size 76 (.slice (some ⟨g9, 0, none⟩) 8 c9) ([b0, b0, b1, b2, b3, b4, b5, b6].map u32v) from unhide HV)
              have d4 := (unhide HV).cell (k := 4) (u := .int .u32 (b3 : Int)) rfl
              have f4 := (unhide HV).frozen 4
              have HV2 := hide ((unhide HV).set 4 (.int .u32 (((b3 + T1) % 4294967296 : Nat) : Int)))
              have d0 := (unhide HV2).cell (k := 0) (u := .int .u32 (b0 : Int)) rfl
              have f0 := (unhide HV2).frozen 0
              have HV3 := hide ((unhide HV2).set 0 (.int .u32 (((T1 + T2) % 4294967296 : Nat) : Int)))
              have HG3 := hide (grown_set (grown_set (unhide HG) 4 (.int .u32 (((b3 + T1) % 4294967296 : Nat) : Int))) 0 (.int .u32 (((T1 + T2) % 4294967296 : Nat) : Int)))
              have es1 : IntKind.u32.wrap ((b3 : Int) + (T1 : Int)) = (((b3 + T1) % 4294967296 : Nat) : Int) := by rw [IntKind.wrap_u32]; omega
              have es2 : IntKind.u32.wrap ((T1 : Int) + (T2 : Int)) = (((T1 + T2) % 4294967296 : Nat) : Int) := by rw [IntKind.wrap_u32]; omega
              clear HV HV2 HG
              generalize (b3 + T1) % 4294967296 = X4 at *
              generalize (T1 + T2) % 4294967296 = X0 at *
              replace HV3 := hide (show OwnV ((wr.setCell ⟨g9, 4, none⟩ (.int .u32 (X4 : Int))).setCell ⟨g9, 0, none⟩ (.int .u32 (X0 : Int))) w.heap.size 76 (.slice (some ⟨g9, 0, none⟩) 8 c9) ((V8.steps ws (k + 1) v).toL.map u32v) by rw [unhide HSt2]; exact unhide HV3)
              go_wp2
              go_roundw
              case rel => exact ⟨k + 1, by omega, by go_num, HV3, HG3⟩
              case measure => simp [intOf]; omega
        · have hk6 : k = 64 := by omega
          have hk7 : ¬ (k : Int) < 64 := by omega
          replace HV := hide (show OwnV wr w.heap.size 76 (.slice (some ⟨g9, 0, none⟩) 8 c9) ((V8.steps ws 64 v).toL.map u32v) by have := unhide HV; rw [hk6] at this; exact this)
          replace hk6 := hide hk6
          have HSum : Hid (roundW v s = v.plus (V8.steps ws 64 v)) := hide (by rw [unhide hws]; rfl)
          have HA6 := hide ((unhide HA4).grown2 (unhide HG) hnea)
          have hbw : Below w.heap.size w wr := hb5.grown (unhide HG) hb5.size (fun q hq => by cases hq; exact hg9)
          have hwz := hbw.size
          generalize V8.steps ws 64 v = V at HV HSum
          obtain ⟨R, hR⟩ : ∃ R, R = roundW v s := ⟨_, rfl⟩
          rw [← hR] at HSum
          obtain ⟨W6, hW6⟩ : ∃ W, W = wr := ⟨_, rfl⟩
          subst hW6
          have hla := ((unhide HA6).lt ga rfl).2
          have hlv := ((unhide HV).lt g9 rfl).2
          clear HG HW4 HA4 HK4 hb5 hws HL
          go_wp2
          go_loopw [17, 18] (fun tv ti wq => ∃ k : Nat, k ≤ 8 ∧ ti = .int .i64 (k : Int) ∧ Hid (OwnV wq W6.heap.size 76 tv ((R.toL.take k).map u32v)) ∧ Below W6.heap.size W6 wq) (fun _ ti _ => 8 - (intOf ti).toNat)
          case atStart => exact ⟨0, by omega, rfl, hide (World.ownsRow_made W6 #[] 0 (Nat.le_refl _) (by decide) (by simp)), (Below.refl _ _).alloc (Nat.le_refl _) _⟩
          case round =>
            obtain ⟨k, hk, rfl, HO, hb⟩ := hrel
            by_cases hlt : k < 8
            · have hk8 : (k : Int) < 8 := by omega
              have ca0 := (unhide HA6).cell (u32_get (l := v.toL) (k := k) hlt)
              have cv0 := (unhide HV).cell (u32_get (l := V.toL) (k := k) hlt)
              have hpt := hide (plus_take v V k hlt)
              obtain ⟨x, hx⟩ : ∃ x, x = at_ v.toL k := ⟨_, rfl⟩
              obtain ⟨y, hy⟩ : ∃ y, y = at_ V.toL k := ⟨_, rfl⟩
              rw [← hx] at ca0 hpt
              rw [← hy] at cv0 hpt
              rw [← unhide HSum] at hpt
              clear hx hy
              have KS := hide (fun (W : World) (h : Below W6.heap.size W6 W) => (⟨(h.cell (p := ⟨ga, k, none⟩) hla).trans ca0, (h.cell (p := ⟨g9, k, none⟩) hlv).trans cv0⟩ : W.cell? ⟨ga, k, none⟩ = some (.int .u32 (x : Int)) ∧ W.cell? ⟨g9, k, none⟩ = some (.int .u32 (y : Int))))
              obtain ⟨ca, cv⟩ := (unhide KS) _ hb
              have hsz := hb.size
              have hl1 : ((R.toL.take k).map u32v).length + 1 ≤ maxLen := by rw [take_len8 R k hk]; unfold maxLen; omega
              have hl2 : (((R.toL.take k).map u32v).length + 1) * 4 ≤ 140737488355328 := by rw [take_len8 R k hk]; omega
              replace hl1 := hide hl1
              replace hl2 := hide hl2
              clear ca0 cv0
              go_wp2
              go_region_held3 (fun W => W.cell? ⟨ga, k, none⟩ = some (.int .u32 (x : Int)) ∧ W.cell? ⟨g9, k, none⟩ = some (.int .u32 (y : Int))) (first | exact ⟨ca, cv⟩ | exact (unhide KS) _ (hb.drew.alloc hsz _) | exact (unhide KS) _ hb2 | fail) (first
                | (refine step_append_lone (w := wr.drew) (x := IntKind.u32.wrap ((x : Int) + (y : Int))) (e := 76) rfl rfl (.tmp 151) (.tmp 161) 101 rfl W6.heap.size W6.heap.size i0 (.int .u32 0) 4 Tryz.underlying101 hi hz0 hz1 hz2 rfl _ _ rfl (by exact unhide HO) rfl (unhide hl1) (unhide hl2) (Nat.le_refl _) (by exact hsz) (by exact hb.drew) ?_; intro v' w2 hown2 hb2))
              have hev : IntKind.u32.wrap ((x : Int) + (y : Int)) = (((x + y) % 4294967296 : Nat) : Int) := by rw [IntKind.wrap_u32]; omega
              have hown3 : OwnV w2 W6.heap.size 76 v' ((R.toL.take (k + 1)).map u32v) := by
                rw [hev] at hown2
                rw [unhide hpt, List.map_append]
                exact hown2
              replace hown3 := hide hown3
              clear hown2 hev hpt KS
              go_wp2
              go_roundw
              case rel => exact ⟨k + 1, by omega, by go_num, hown3, hb2⟩
              case measure => simp [intOf]; omega
            · obtain rfl : k = 8 := by omega
              have hown := unhide HO
              obtain ⟨a7, c7, e7⟩ := hown.shape
              rw [take_len8 R 8 (by omega)] at e7
              subst e7
              obtain ⟨g7, rfl, _, _⟩ := hown.some_at (by omega)
              have hfin : OwnV wr w.heap.size 76 (.slice (some ⟨g7, 0, none⟩) 8 c7) ((roundW v s).toL.map u32v) := by rw [← hR]; exact hown.low hwz
              replace hfin := hide hfin
              have hbf := hbw.trans (hb.mono hwz)
              clear hown HO HV HA6 HSum hR
              go_wp2
              go_ret
              exact ⟨⟨_, _, rfl, unhide hfin⟩, hbf⟩
end Go.Proofs.YtkbbcjnickgfjabGreat

/- A state out of bytes, and the blocks of a text handed on one by one, by impl, over the loaded program. -/
namespace Go.Proofs.YtkbbcjnickgfjabGreat
open Go.RowKit
theorem fill8_set {l : List Nat} {k : Nat} (h : l.length = k) (hk : k < 8) (v : Nat) : (l ++ List.replicate (8 - k) 0).set k v = (l ++ [v]) ++ List.replicate (8 - (k + 1)) 0 := by
  rw [List.set_append_right _ _ (by omega), show 8 - k = (8 - (k + 1)) + 1 by omega, List.replicate_succ, h, Nat.sub_self]
  simp
theorem two_z8 (w : World) (T : TypeId) : ArrAt ((w.alloc (.cells #[.int .u32 0, .int .u32 0, .int .u32 0, .int .u32 0, .int .u32 0, .int .u32 0, .int .u32 0, .int .u32 0] T)).alloc (.cells #[.int .u32 0, .int .u32 0, .int .u32 0, .int .u32 0, .int .u32 0, .int .u32 0, .int .u32 0, .int .u32 0] T)) (w.heap.size + 1) T zeros8 ∧
    ArrAt ((w.alloc (.cells #[.int .u32 0, .int .u32 0, .int .u32 0, .int .u32 0, .int .u32 0, .int .u32 0, .int .u32 0, .int .u32 0] T)).alloc (.cells #[.int .u32 0, .int .u32 0, .int .u32 0, .int .u32 0, .int .u32 0, .int .u32 0, .int .u32 0, .int .u32 0] T)) w.heap.size T zeros8 ∧
    Below w.heap.size w ((w.alloc (.cells #[.int .u32 0, .int .u32 0, .int .u32 0, .int .u32 0, .int .u32 0, .int .u32 0, .int .u32 0, .int .u32 0] T)).alloc (.cells #[.int .u32 0, .int .u32 0, .int .u32 0, .int .u32 0, .int .u32 0, .int .u32 0, .int .u32 0, .int .u32 0] T)) := two_arrs w T zeros8
theorem cut_front (s : ByteArray) (a : Nat) (h : a + 64 ≤ s.size) : (s.extract a s.size).extract 0 64 = s.extract a (a + 64) := by
  rw [ByteArray.extract_extract]
  congr 1
  omega
theorem cut_back (s : ByteArray) (a : Nat) (h : a + 64 ≤ s.size) : (s.extract a s.size).extract 64 (s.extract a s.size).size = s.extract (a + 64) s.size := by
  rw [ByteArray.extract_extract, ByteArray.size_extract]
  congr 1
  omega
theorem grownBy_trans {a b c : World} {g : Nat} (h : a.grownBy b (some g)) (k : b.grownBy c (some g)) : a.grownBy c (some g) :=
  ⟨k.os.trans h.os, k.tape.trans h.tape, k.output.trans h.output, Nat.le_trans h.size k.size, fun q hq hne => (k.block q (Nat.lt_of_lt_of_le hq h.size) hne).trans (h.block q hq hne)⟩
set_option maxRecDepth 20000 in
set_option maxHeartbeats 400000 in
theorem eachBlock_any (v : V8) (hv : v.ok) (s : ByteArray) (hs : s.size ≤ 10000000) (g : Nat) (w : World) (hA : ArrAt w g 78 v.toL) :
    Calls Tryz.prog 47 #[.string s, .int .i64 64, .func (Fn.func 48) #[.pointer (some ⟨g, 0, none⟩)] #[]] w fun e w' => e = .returned (.string (s.extract (64 * (s.size / 64)) s.size)) ∧ ArrAt w' g 78 (blocksW v s 0 (s.size / 64)).toL ∧ w.grownBy w' (some g) := by
  have HA := hide hA
  clear hA
  have HE := hide (show s = s.extract (64 * 0) s.size by simp)
  go_enter Tryz.func47, Tryz.ntmps47
  go_wp2
  go_loopw [0] (fun ti wr => ∃ k : Nat, 64 * k ≤ s.size ∧ ti = .string (s.extract (64 * k) s.size) ∧ Hid (ArrAt wr g 78 (blocksW v s 0 k).toL) ∧ Hid (w.grownBy wr (some g))) (fun ti _ => match ti with | .string t => t.size | _ => 0)
  case atStart => exact ⟨0, by omega, by rw [← unhide HE], HA, hide (World.grownBy.refl w _)⟩
  case round =>
    obtain ⟨k, hk, rfl, HM, HG⟩ := hrel
    have hez : (s.extract (64 * k) s.size).size = s.size - 64 * k := by rw [ByteArray.size_extract]; omega
    by_cases hlt : 64 * k + 64 ≤ s.size
    · have hf := cut_front s (64 * k) hlt
      have hb := cut_back s (64 * k) hlt
      have hz : (s.extract (64 * k) (64 * k + 64)).size = 64 := by rw [ByteArray.size_extract]; omega
      have hn : (s.extract (64 * k + 64) s.size).size + 64 = (s.extract (64 * k) s.size).size := by rw [ByteArray.size_extract, hez]; omega
      have HR := hide (show roundW (blocksW v s 0 k) (s.extract (64 * k) (64 * k + 64)) = blocksW v s 0 (k + 1) by show _ = roundW _ (s.extract (0 + 64 * k) (0 + 64 * k + 64)); rw [Nat.zero_add])
      obtain ⟨t2, ht2⟩ : ∃ t2, t2 = s.extract (64 * (k + 1)) s.size := ⟨_, rfl⟩
      have e2 : s.extract (64 * k + 64) s.size = t2 := by rw [ht2, Nat.mul_add]
      rw [e2] at hb hn
      clear e2
      have HK := hide ht2
      clear ht2
      have h64 : 64 ≤ ((s.extract (64 * k) s.size).size : Int) := by omega
      have hbig : (s.extract (64 * k) s.size).size ≤ 10000000 := by omega
      generalize s.extract (64 * k) s.size = t at *
      generalize s.extract (64 * k) (64 * k + 64) = blk at *
      have C := hide (take_any (blocksW v s 0 k) (blocksW_ok hv s 0 k) blk hz g wr (unhide HM))
      clear hez
      go_wp2_with (go_at_call 48; refine (unhide C).mono ?_; rintro e w1 ⟨rfl, hA1, hg1⟩)
      go_roundw
      case rel => exact ⟨k + 1, by omega, by rw [unhide HK], hide (by rw [← unhide HR]; exact hA1), hide (grownBy_trans (unhide HG) hg1)⟩
      case measure => show t2.size < t.size; omega
    · have hkk := hide (show s.size / 64 = k by omega)
      have h64 : ¬ 64 ≤ ((s.extract (64 * k) s.size).size : Int) := by omega
      have hbig : (s.extract (64 * k) s.size).size ≤ 10000000 := by omega
      obtain ⟨t, ht⟩ : ∃ t, t = s.extract (64 * k) s.size := ⟨_, rfl⟩
      rw [← ht] at h64 hbig ⊢
      replace ht := hide ht
      clear hez HE
      go_wp2
      go_ret
      rw [unhide hkk]
      exact ⟨by rw [← unhide ht]; rfl, unhide HM, unhide HG⟩
end Go.Proofs.YtkbbcjnickgfjabGreat

/- Laws of no program: 'append(xs, make([]byte, n)...)' on a row of the call's own that has room. -/
namespace Go.Proofs.YtkbbcjnickgfjabGreat
open Go.RowKit
theorem zeroCells_one (m : Nat) : (Builtin.zeroCells (Value.int .u8 0).cells m).toList = List.replicate m (Value.int .u8 0) := by
  apply List.ext_getElem
  · simp [Builtin.zeroCells, Value.cells]
  · intro i h1 h2
    simp [Builtin.zeroCells, Value.cells, Nat.mod_one]
theorem run_append_zeros {P : Program} (w : World) (t ti ty e : TypeId) (i : TypeInfo) (ht : P.underlying t = some (.slice e)) (hti : P.underlying ti = some (.int .i64)) (hi : P.info? e = some i) (hz : i.zero = some (.int .u8 0)) (hsize : i.size = 1) (hby : i.bytes = 1)
    (g sLen sCap m : Nat) (cur : Array Value) (hg : w.heap[g]? = some (.cells cur e (0, 0))) (hm : m ≤ 1000) (hroom : sLen + m ≤ sCap) (hfit : sLen + m ≤ cur.size) :
    (Builtin.append_ #[t, ti] ty #[.slice (some ⟨g, 0, none⟩) sLen sCap, .int .i64 (m : Int)]).run P w =
      .ok (.slice (some ⟨g, 0, none⟩) (sLen + m) sCap) (w.setRow g (cur.toList.take sLen ++ List.replicate m (Value.int .u8 0) ++ cur.toList.drop (sLen + m)).toArray) := by
  have hst := run_storeCells_at P g sLen e (List.replicate m (Value.int .u8 0)) 0 cur w hg (by simpa using hfit) (by intro v hv; rw [List.eq_of_mem_replicate hv]; rfl)
  simp only [Nat.add_zero, List.length_replicate] at hst
  have hw : IntKind.i64.wrap (m : Int) = (m : Int) := by rw [IntKind.wrap_i64]; omega
  have h0 : ¬ (m : Int) < 0 := by omega
  have h1 : ¬ (281474976710656 : Int) < (m : Int) := by omega
  by_cases hm0 : m = 0
  · subst hm0
    have hw0 : IntKind.i64.wrap 0 = 0 := by rw [IntKind.wrap_i64]; rfl
    have hself : w.setRow g (cur.toList.take sLen ++ List.replicate 0 (Value.int .u8 0) ++ cur.toList.drop (sLen + 0)).toArray = w := by
      simp only [List.replicate_zero, List.append_nil, Nat.add_zero, List.take_append_drop, Array.toArray_toList]
      exact setRow_self w g cur e (0, 0) hg
    rw [hself]
    simp at hroom
    simp [Builtin.append_, run_underlying ht, run_underlying hti, sizeOf, typeInfo, hi, hroom, hby, asInt, asIntOf, hw0, Addr.add_lit, storeCells]
  · simp [Builtin.append_, run_underlying ht, run_underlying hti, sizeOf, typeInfo, hi, hroom, hsize, hby, asInt, asIntOf, hw, h0, h1, hm0, zeroValue, hz, zeroCells_one, Addr.add_lit, hst]
theorem wpList_append_zeros {P : Program} {w : World} {ops : Array Oper} {rest : List Oper} {o : Oper} {a : Act} {Q : Exit → Act → World → Prop} (hgd : o.guard = none) (s x : Operand) (t ti : TypeId)
    (ho : o.op = .call { callee := .builtin .append, args := #[s, x], argTypes := #[t, ti] })
    (base e : TypeId) (i : TypeInfo) (ht : P.underlying t = some (.slice e)) (hti : P.underlying ti = some (.int .i64)) (hi : P.info? e = some i) (hz : i.zero = some (.int .u8 0)) (hsize : i.size = 1) (hby : i.bytes = 1)
    (g n c m : Nat) (l : List UInt8) (hs : a.eval s = .slice (some ⟨g, 0, none⟩) n c) (hx : a.eval x = .int .i64 (m : Int)) (hown : OwnB w base e (.slice (some ⟨g, 0, none⟩) n c) l) (hm : m ≤ 1000) (hroom : n + m ≤ c)
    (h : ∀ w', OwnB w' base e (.slice (some ⟨g, 0, none⟩) (n + m) c) (l ++ List.replicate m 0) → Below base w w' → wpList P ops Q rest (a.put o.dst (.slice (some ⟨g, 0, none⟩) (n + m) c)) w') : wpList P ops Q (o :: rest) a w := by
  rcases hown.2 with ⟨h1, _⟩ | ⟨g', cap, cur, h1, hb, h2, h3, h4, h5, h6⟩
  · cases h1
  · simp only [Value.slice.injEq, Option.some.injEq, Addr.mk.injEq] at h1
    obtain ⟨⟨rfl, _⟩, rfl, rfl⟩ := h1
    have hr := run_append_zeros w t ti o.type e i ht hti hi hz hsize hby g l.length c m cur h2 hm hroom (by omega)
    refine wpList_plain hgd fun K hK => ?_
    unfold Oper.wp execOp
    simp only [ho, resolve, invoke, builtin, Sem.run_bind, Sem.run_pure, Result.andThen_ok, List.map_toArray, List.map_cons, List.map_nil, hs, hx, hr]
    refine hK _ _ (h _ ?_ (Go.below_setRow (Below.refl _ _) hb _))
    rw [Nat.mul_one] at h6
    refine ⟨by simp, .inr ⟨g, c, _, by simp, hb, setRow_heap w g cur _ e (0, 0) h2, by simpa using hroom, h4, ?_, ?_⟩⟩
    · simp; omega
    · simp only [List.length_append, List.length_replicate, Nat.mul_one, List.map_append, List.map_replicate]
      rw [h6, List.take_append_of_le_length (by simp), List.take_of_length_le (by simp)]
      rfl
end Go.Proofs.YtkbbcjnickgfjabGreat

/- What fills up the last block, by impl, over the loaded program. -/
namespace Go.Proofs.YtkbbcjnickgfjabGreat
open Go.RowKit
theorem one_new (w : World) (e : TypeId) (v : Value) : ∀ j u, [v][j]? = some u → (w.alloc (.cells #[v] e)).cell? ((⟨w.heap.size, 0, none⟩ : Addr).add j) = some u := by
  intro j u hj
  cases j with
  | zero =>
    simp only [List.getElem?_cons_zero, Option.some.injEq] at hj
    subst hj
    have h := heap_alloc_new w (.cells #[v] e)
    rw [Addr.add_lit, cell_of_row _ _ _ _ _ _ h]
    rfl
  | succ j => simp at hj
def zerosB (n : Nat) : Nat := 63 - (n + 8) % 64
def endL (n : Nat) : List UInt8 := ((([byteOf 128] ++ List.replicate (zerosB n) 0) ++ bytesW (8 * n / 4294967296)) ++ bytesW (8 * n % 4294967296))
set_option maxRecDepth 20000 in
set_option maxHeartbeats 400000 in
theorem ending_any (n : Nat) (hn : n ≤ 1000000000) (w : World) :
    Calls Tryz.prog 79 #[.int .i64 (n : Int)] w fun e w' => e = .returned (.string ⟨(endL n).toArray⟩) ∧ Below w.heap.size w w' := by
  obtain ⟨i0, hi, hz0, hz1, hz2⟩ := info_parts Tryz.infoByte
  have hzn : zerosB n ≤ 63 := by unfold zerosB; omega
  have ez : IntKind.i64.wrap (63 - ((n : Int) + 8) % 64) = (zerosB n : Int) := by rw [IntKind.wrap_i64]; unfold zerosB; omega
  have ez2 : 63 - ((n : Int) + 8) % 64 = (zerosB n : Int) := by unfold zerosB; omega
  have HL : Hid (endL n = ((([byteOf 128] ++ List.replicate (zerosB n) 0) ++ bytesW (8 * n / 4294967296)) ++ bytesW (8 * n % 4294967296))) := hide rfl
  have hx1 : 8 * n / 4294967296 < 4294967296 := by omega
  have hx2 : 8 * n % 4294967296 < 4294967296 := by omega
  have C1 := hide (fun (v : Value) (l : List UInt8) (W : World) => withWord_any (8 * n / 4294967296) hx1 v l w.heap.size W)
  have C2 := hide (fun (v : Value) (l : List UInt8) (W : World) => withWord_any (8 * n % 4294967296) hx2 v l w.heap.size W)
  generalize zerosB n = zz at *
  go_enter Tryz.func79, Tryz.ntmps79
  go_wp2_with (first
    | (at_make; refine wpList_make_own _ rfl _ _ 73 rfl w.heap.size 5 i0 (.int .u8 0) 1 Tryz.underlying73 hi hz0 hz1 _ _ _ 128 rfl rfl (by omega) (by rw [hz2]; omega) (by unfold maxLen; omega) (Nat.le_refl _) ?_; intro w1 hown1 hgrow1)
    | (at_builtin; refine wpList_append_fits _ rfl (.tmp 10) (.tmp 11) 73 rfl w.heap.size 5 i0 1 Tryz.underlying73 hi hz1 w.heap.size 0 128 [] rfl (World.ownsRow.alloc hown1 _) ⟨w1.heap.size, 0, none⟩ 1 1 [.int .u8 128] rfl rfl (one_new w1 5 (.int .u8 128)) (by intro u hu; simp only [List.mem_singleton] at hu; subst hu; rfl) (by omega) ?_; intro w2 hown2 hgrow2; have hb2 : Below w.heap.size w w2 := (((Below.refl w.heap.size w).grown hgrow1 (Nat.le_refl _) (fun k hk => by cases hk)).alloc hgrow1.size _).grown hgrow2 (by have := hgrow1.size; simp; omega) (fun k hk => by simp only [Option.some.injEq] at hk; omega); have hownB : OwnB w2 w.heap.size 5 (.slice (some ⟨w.heap.size, 0, none⟩) 1 128) [byteOf 128] := hown2; clear hown1 hown2 hgrow1 hgrow2)
    | (at_builtin; refine wpList_append_zeros rfl (.tmp 13) (.tmp 14) 73 3 rfl w.heap.size 5 i0 Tryz.underlying73 Tryz.underlying3 hi hz0 hz1 hz2 w.heap.size 1 128 zz [byteOf 128] rfl rfl hownB (by omega) (by omega) ?_; intro w3 hown3 hb3; have hb3' := hb2.trans hb3; clear hownB hb2 hb3)
    | fail)
  have e1 : (8 * (n : Int) / 4294967296) = ((8 * n / 4294967296 : Nat) : Int) := by omega
  have e2 : (8 * (n : Int) % 4294967296) = ((8 * n % 4294967296 : Nat) : Int) := by omega
  rw [e1]
  refine ((unhide C1) _ _ w3 hown3 (by simp; omega) hb3'.size).mono ?_
  rintro e w4 ⟨⟨v4, rfl, hown4⟩, hb4⟩
  have hb4' := hb3'.trans hb4
  clear hown3 hb3' hb4
  replace e1 := hide e1
  replace e2 := hide e2
  go_wp2_with fail
  rw [unhide e2]
  refine ((unhide C2) _ _ w4 hown4 (by simp [bytesW]; omega) hb4'.size).mono ?_
  rintro e w5 ⟨⟨v5, rfl, hown5⟩, hb5⟩
  rw [← unhide HL] at hown5
  have hb5' := hb4'.trans hb5
  clear hown4 hb4' hb5
  have hc := run_string_owned (P := Tryz.prog) w5 73 9 5 w.heap.size v5 (endL n) Tryz.underlying73 Tryz.underlying5 Tryz.underlying9 hown5
  go_wp2
  go_ret
  exact ⟨rfl, hb5'⟩
end Go.Proofs.YtkbbcjnickgfjabGreat

/- A text's end, by impl, over the loaded program. -/
namespace Go.Proofs.YtkbbcjnickgfjabGreat
open Go.RowKit
def endT (rest : ByteArray) (n : Nat) : ByteArray := rest ++ ⟨(endL n).toArray⟩
def endV (v : V8) (rest : ByteArray) (n : Nat) : ByteArray := (blocksW v (endT rest n) 0 ((endT rest n).size / 64)).text
theorem endL_len (n : Nat) : (endL n).length ≤ 72 := by
  unfold endL zerosB
  simp [bytesW]
theorem endT_size (rest : ByteArray) (n : Nat) : (endT rest n).size = rest.size + (endL n).length := by
  unfold endT
  rw [ByteArray.size_append]
  rfl
theorem grown_below {a b c : World} {g : Nat} (h : a.grownBy b (some g)) (k : Below b.heap.size b c) : a.grownBy c (some g) :=
  ⟨k.os.trans h.os, k.tape.trans h.tape, k.output.trans h.output, Nat.le_trans h.size k.size, fun q hq hne => (k.block q (Nat.lt_of_lt_of_le hq h.size)).trans (h.block q hq hne)⟩
theorem below_grown {a b c : World} {g : Nat} (k : Below a.heap.size a b) (h : b.grownBy c (some g)) : a.grownBy c (some g) :=
  ⟨h.os.trans k.os, h.tape.trans k.tape, h.output.trans k.output, Nat.le_trans k.size h.size, fun q hq hne => (h.block q (Nat.lt_of_lt_of_le hq k.size) hne).trans (k.block q hq)⟩
set_option maxRecDepth 20000 in
set_option maxHeartbeats 400000 in
theorem ended_any (v : V8) (hv : v.ok) (rest : ByteArray) (hr : rest.size ≤ 4000000) (n : Nat) (hn : n ≤ 1000000000) (g : Nat) (w : World) (hA : ArrAt w g 78 v.toL) :
    Calls Tryz.prog 49 #[.pointer (some ⟨g, 0, none⟩), .string rest, .int .i64 (n : Int)] w fun e w' => e = .returned (.string (endV v rest n)) ∧ w.grownBy w' (some g) := by
  have hmf : ∀ (fn : Fn) (first cap : Array Value) (w : World), (Instr.makeFunc fn first cap).run Tryz.prog w = .ok (.func fn first cap) w := fun _ _ _ _ => rfl
  have hgl := hA.lt
  have HA := hide hA
  clear hA
  have hes := endT_size rest n
  have hel := endL_len n
  have C1 := hide (fun W => ending_any n hn W)
  have C2 := hide (fun g W hW => eachBlock_any v hv (endT rest n) (by omega) g W hW)
  have hOk := hide (blocksW_ok hv (endT rest n) 0 ((endT rest n).size / 64))
  have HV : Hid (endV v rest n = (blocksW v (endT rest n) 0 ((endT rest n).size / 64)).text) := hide rfl
  have HT : Hid (rest ++ ⟨(endL n).toArray⟩ = endT rest n) := hide rfl
  have hls : (⟨(endL n).toArray⟩ : ByteArray).size = (endL n).length := rfl
  generalize (⟨(endL n).toArray⟩ : ByteArray) = eb at *
  go_enter Tryz.func49, Tryz.ntmps49
  go_wp2_with fail
  refine ((unhide C1) w).mono ?_
  rintro e w1 ⟨rfl, hb1⟩
  have hA1 := hide ((unhide HA).below hb1 hgl)
  go_wp2_with fail
  rw [unhide HT]
  refine ((unhide C2) g w1 (unhide hA1)).mono ?_
  rintro e w2 ⟨rfl, hA2, hg2⟩
  have hgr := hide (below_grown hb1 hg2)
  clear hb1 hg2 hA1 hes hel hls
  generalize (endT rest n).size / 64 = q at *
  go_wp2_with fail
  refine (inBytes_any _ (unhide hOk) g w2 hA2).mono ?_
  rintro e w3 ⟨rfl, hb3⟩
  rw [← unhide HV]
  go_wp2
  go_ret
  exact ⟨rfl, grown_below (unhide hgr) hb3⟩
theorem grown_new {w w' W : World} {B : Nat} (hb : Below B w W) (h : W.grownBy w' (some B)) (hB : B ≤ W.heap.size) : Below B w w' :=
  hb.grown h hB (fun k hk => by simp only [Option.some.injEq] at hk; omega)
set_option maxRecDepth 20000 in
set_option maxHeartbeats 400000 in
theorem implDigest_any (s : ByteArray) (hs : s.size ≤ 4000000) (w : World) :
    Calls Tryz.prog 30 #[.string s] w fun e w' => e = .returned (.string (endV (blocksW first8 s 0 (s.size / 64)) (s.extract (64 * (s.size / 64)) s.size) s.size)) ∧ Below w.heap.size w w' := by
  have hmf : ∀ (fn : Fn) (first cap : Array Value) (w : World), (Instr.makeFunc fn first cap).run Tryz.prog w = .ok (.func fn first cap) w := fun _ _ _ _ => rfl
  have C2 := hide (fun g W hW => eachBlock_any first8 first8_ok s (by omega) g W hW)
  have hrs : (s.extract (64 * (s.size / 64)) s.size).size ≤ 4000000 := by rw [ByteArray.size_extract]; omega
  have C3 := hide (fun g W hW => ended_any (blocksW first8 s 0 (s.size / 64)) (blocksW_ok first8_ok s 0 _) (s.extract (64 * (s.size / 64)) s.size) hrs s.size (by omega) g W hW)
  clear hrs
  generalize hV : endV (blocksW first8 s 0 (s.size / 64)) (s.extract (64 * (s.size / 64)) s.size) s.size = out at *
  generalize s.extract (64 * (s.size / 64)) s.size = rest at *
  generalize blocksW first8 s 0 (s.size / 64) = v2 at *
  clear hV
  go_enter Tryz.func30, Tryz.ntmps30
  go_wp2_with fail
  refine (firstState_any _).mono ?_
  rintro e w1 ⟨rfl, hb1⟩
  have H8 := hide (one_z8 w1 78)
  have hs1 := hb1.size
  go_wp2_with (refine wpList_store_arr_as rfl 78 (.tmp 3) (.tmp 5) rfl w1.heap.size _ zeros8 rfl rfl 78 (unhide H8).1 (info8 first8) rfl ?_; intro w2 hA2 _ hB2; have hb2 := (unhide H8).2.trans hB2; clear hB2 H8)
  refine ((unhide C2) _ w2 hA2).mono ?_
  rintro e w3 ⟨rfl, hA3, hg3⟩
  have hs2 := hb2.size
  have hl3 := hA3.lt
  have hb3 := grown_new hb2 hg3 hs2
  have HT3 := hide (hb1.trans (hb3.mono hs1))
  have hs3 := hb3.size
  clear hA2 hg3 hb1 hb2 hb3
  go_wp2_with fail
  refine ((unhide C3) _ w3 hA3).mono ?_
  rintro e w4 ⟨rfl, hg4⟩
  have hb4 := (unhide HT3).grown hg4 (by omega) (fun k hk => by simp only [Option.some.injEq] at hk; omega)
  clear hA3 hg4
  go_wp2
  go_ret
  exact ⟨rfl, hb4⟩
end Go.Proofs.YtkbbcjnickgfjabGreat

/- The library's functions that this seat's program calls, each by its contract, at this program's own numbers (laid by the shelf's own tools). -/
namespace Go.Proofs
open Go.Shelf
def Tryz.laysM316_ren : Go.Shelf.Ren := ⟨fun | 316 => 66 | n => n, fun | 9 => 9 | 3 => 3 | 4 => 4 | 37 => 73 | 0 => 0 | 127 => 122 | 5 => 5 | n => n, fun | n => n⟩
theorem Tryz.laysM316 : Go.Proofs.LaysM.n316 Tryz.prog Tryz.laysM316_ren := {
  mixed := by kernel_rfl
  f316 := Tryz.func66.trans (congrArg some (by kernel_rfl))
  t0 := Tryz.underlying0
  a0 := Tryz.isAgg0
  z0 := Tryz.sizeOf0
  v0 := Tryz.zeroValue0
  t3 := Tryz.underlying3
  a3 := Tryz.isAgg3
  z3 := Tryz.sizeOf3
  v3 := Tryz.zeroValue3
  t4 := Tryz.underlying4
  a4 := Tryz.isAgg4
  z4 := Tryz.sizeOf4
  v4 := Tryz.zeroValue4
  t9 := Tryz.underlying9
  a9 := Tryz.isAgg9
  z9 := Tryz.sizeOf9
  v9 := Tryz.zeroValue9
  t37 := Tryz.underlying73
  a37 := Tryz.isAgg73
  z37 := Tryz.sizeOf73
  v37 := Tryz.zeroValue73
  t127 := Tryz.underlying122
  a127 := Tryz.isAgg122
  z127 := Tryz.sizeOf122
  v127 := Tryz.zeroValue122
  t5 := Tryz.underlying5
  a5 := Tryz.isAgg5
  z5 := Tryz.sizeOf5
  v5 := Tryz.zeroValue5
  i0 := by kernel_rfl
  i3 := by kernel_rfl
  i4 := by kernel_rfl
  i5 := by kernel_rfl
  i9 := by kernel_rfl
  i37 := by kernel_rfl
  i127 := by kernel_rfl }
open Go.RowKit in
theorem Tryz.stringslite_Clone (s : ByteArray) (w : World) (hlim : s.size ≤ 281474976710656) :
    Calls Tryz.prog 66 #[.string s] w fun e w' => e = .returned (.string s) ∧ Below w.heap.size w w' := Any.stringslite_Clone Tryz.laysM316 s w hlim
end Go.Proofs

/- More text comes, by impl, over the loaded program. -/
namespace Go.Proofs.YtkbbcjnickgfjabGreat
open Go.RowKit
def moreT (a : Hs) (s : ByteArray) : ByteArray := a.rs ++ s
def moreH (a : Hs) (s : ByteArray) : Hs := ⟨(blocksW (stOf a.st) (moreT a s) 0 ((moreT a s).size / 64)).text, (moreT a s).extract (64 * ((moreT a s).size / 64)) (moreT a s).size, a.ct + (s.size : Int)⟩
theorem two_hash (w : World) (a b : Hs) (T U : TypeId) : ∃ W, (w.alloc (.cells #[.string a.st, .string a.rs, .int .i64 a.ct] T)).alloc (.cells #[.string b.st, .string b.rs, .int .i64 b.ct] U) = W ∧ HB W w.heap.size T a ∧ HB W (w.heap.size + 1) U b ∧ Below w.heap.size w W ∧ w.heap.size + 1 < W.heap.size := by
  obtain ⟨W1, hW1, hB1, hb1, hl1⟩ := one_hash w a T
  obtain ⟨W2, hW2, hB2, hb2, hl2⟩ := one_hash W1 b U
  have hsz : W1.heap.size = w.heap.size + 1 := by rw [← hW1]; simp
  refine ⟨W2, by rw [hW1]; exact hW2, hB1.below hb2 (by omega), by rw [← hsz]; exact hB2, hb1.trans (hb2.mono (by omega)), by omega⟩
theorem keep3 {w : World} {g h : Nat} {u x y z : Value} (hc : w.cell? ⟨g, 2, none⟩ = some u) (hne : g < h) : (((w.setCell ⟨h, 0, none⟩ x).setCell ⟨h, 1, none⟩ y).setCell ⟨h, 2, none⟩ z).cell? ⟨g, 2, none⟩ = some u :=
  (((((Below.refl h w).setCell (p := ⟨h, 0, none⟩) (Nat.le_refl _) x).setCell (p := ⟨h, 1, none⟩) (Nat.le_refl _) y).setCell (p := ⟨h, 2, none⟩) (Nat.le_refl _) z).cell (p := ⟨g, 2, none⟩) hne).trans hc
theorem clone_any (s : ByteArray) (w : World) (h : s.size ≤ 281474976710656) :
    Calls Tryz.prog 41 #[.string s] w fun e w' => e = .returned (.string s) ∧ Below w.heap.size w w' := by
  go_enter Tryz.func41, Tryz.ntmps41
  go_wp2_with (go_at_call 66; refine (Tryz.stringslite_Clone _ _ h).mono ?_; rintro e w2 ⟨rfl, hb2⟩)
  go_ret
  exact ⟨rfl, hb2⟩
end Go.Proofs.YtkbbcjnickgfjabGreat

/- More text comes, by spec, over the loaded program. -/
namespace Go.Proofs.YtkbbcjnickgfjabGreat
open Go.RowKit
theorem slice_lh (T : ByteArray) (i j : Nat) (w : World) (h1 : i ≤ j) (h2 : j ≤ T.size) : (Instr.slice 9 (.string T) (some (.int .i64 (i : Int))) (some (.int .i64 (j : Int))) none).run Tryz.prog w = .ok (.string (T.extract i j)) w := by
  rw [run_slice_string_if w 9 T .i64 .i64 (i : Int) (j : Int) Tryz.underlying9, if_pos (by omega), if_pos (by omega)]
  rfl
theorem slice_l (T : ByteArray) (i : Nat) (w : World) (h2 : i ≤ T.size) : (Instr.slice 9 (.string T) (some (.int .i64 (i : Int))) none none).run Tryz.prog w = .ok (.string (T.extract i T.size)) w := by
  rw [run_slice_string_l w 9 T Tryz.underlying9 .i64 (i : Int) (by omega) (by omega)]
  rfl
theorem toL_small {v : V8} (h : v.ok) : ∀ x ∈ v.toL, x < 4294967296 := by
  obtain ⟨h1, h2, h3, h4, h5, h6, h7, h8⟩ := h
  intro x hx
  simp only [V8.toL, List.mem_cons, List.not_mem_nil, or_false] at hx
  rcases hx with rfl | rfl | rfl | rfl | rfl | rfl | rfl | rfl <;> assumption
set_option maxRecDepth 20000 in
set_option maxHeartbeats 400000 in
theorem specMore_yes (a : Hs) (s : ByteArray) (w : World) (h1 : a.st.size ≤ maxLen) (h2 : a.rs.size ≤ 1048576) (hs : s.size ≤ 4000000) (hok : okH a = true) (hc : a.ct + (s.size : Int) ≤ 1000000000) :
    Calls Tryz.prog 39 #[hsv a, .string s] w fun e w' => e = .returned (hsv (moreH a s)) ∧ Below w.heap.size w w' := by
  have CO := hide (fun W => specOk_any a W h1 (by unfold maxLen; omega))
  rw [hok] at CO
  obtain ⟨q1, q2, q3, q4⟩ := okH_yes hok
  obtain ⟨st, rs, ct⟩ := a
  dsimp only at *
  obtain ⟨m, rfl⟩ : ∃ m : Nat, ct = (m : Int) := ⟨ct.toNat, by omega⟩
  have hts : (moreT ⟨st, rs, (m : Int)⟩ s).size ≤ 10000000 := by unfold moreT; rw [ByteArray.size_append]; dsimp only; omega
  have C1 := hide (fun W => specWords_any st 8 q1 (by decide) W)
  have hlt1 : ¬ 1000000000 < (m : Int) + (s.size : Int) := by omega
  have ew : IntKind.i64.wrap ((m : Int) + (s.size : Int)) = (m : Int) + (s.size : Int) := by rw [IntKind.wrap_i64]; omega
  have hm : m ≤ 1000000000 := by omega
  unfold hsv at CO ⊢
  dsimp only at CO ⊢
  clear q1 q2 q3 q4 h1 hok
  go_enter Tryz.func39, Tryz.ntmps39
  go_wp2_with fail
  obtain ⟨W, hW, hB, hR, hb, hlt⟩ := two_hash w ⟨st, rs, (m : Int)⟩ h0 70 70
  unfold h0 at hW
  dsimp only at hW
  rw [hW]
  clear hW
  refine ((unhide CO) W).mono ?_
  rintro e w1 ⟨rfl, hb1⟩
  have hB1 := hB.step hb1
  have hR1 := hide (hR.step hb1)
  have k0 := hB1.c0
  have k1 := hB1.c1
  have k2 := hB1.c2
  dsimp only at k0 k1 k2
  have hl1 := (unhide hR1).lt
  have hl1' := hB1.lt
  have HT1 := hide (hb.trans (hb1.mono (by omega)))
  replace hB1 := hide hB1
  clear hB hb hb1 hR hlt
  have hx : (moreT ⟨st, rs, (m : Int)⟩ s) = rs ++ s := rfl
  obtain ⟨T, hT⟩ : ∃ T, T = moreT ⟨st, rs, (m : Int)⟩ s := ⟨_, rfl⟩
  rw [← hT] at hts hx
  have HM : Hid (moreH ⟨st, rs, (m : Int)⟩ s = ⟨(blocksW (stOf st) T 0 (T.size / 64)).text, T.extract (64 * (T.size / 64)) T.size, (m : Int) + (s.size : Int)⟩) := hide (by rw [hT]; rfl)
  replace hT := hide hT
  replace hx := hide hx
  go_wp2_with fail
  refine ((unhide C1) w1).mono ?_
  rintro e w2 ⟨⟨a8, c8, rfl, hown2⟩, hb2⟩
  obtain ⟨g8, rfl, hg81, hg82⟩ := hown2.some_at (by omega)
  replace hown2 := hide hown2
  have hs12 := hb2.size
  have j1 := hb2.cell (p := ⟨w.heap.size, 1, none⟩) hl1'
  rw [k1] at j1
  go_wp2_with fail
  refine (specK_any w2).mono ?_
  rintro e w3 ⟨⟨a9, c9, rfl, hown3⟩, hb3⟩
  obtain ⟨g9, rfl, hg91, hg92⟩ := hown3.some_at (by omega)
  have HK := hide (hown3.low hs12)
  have HS := hide ((unhide hown2).below hb3)
  clear hown3 hown2
  have hB3 := ((unhide hB1).step hb2).step hb3
  have hR3 := hide (((unhide hR1).step hb2).step hb3)
  have i1 := hB3.c1
  have i2 := hB3.c2
  dsimp only at i1 i2
  have hl3 := (unhide hR3).lt
  have hl3' := hB3.lt
  have HT3 := hide (((unhide HT1).trans (hb2.mono (by omega))).trans (hb3.mono (by omega)))
  have hs13 : w1.heap.size ≤ w3.heap.size := by have := hb3.size; omega
  replace hB3 := hide hB3
  clear hB1 hR1 HT1 hl1 hl1' k0 k1 k2 hb2 hb3 j1
  go_wp2_with fail
  rw [← unhide hx]
  go_loopw [5, 8] (fun tv ti wq => ∃ q : Nat, 64 * q ≤ T.size ∧ ti = .int .i64 ((64 * q : Nat) : Int) ∧ (∃ g c, tv = .slice (some ⟨g, 0, none⟩) 8 c ∧ Hid (OwnV wq w1.heap.size 76 (.slice (some ⟨g, 0, none⟩) 8 c) ((blocksW (stOf st) T 0 q).toL.map u32v))) ∧ Below w3.heap.size w3 wq) (fun _ ti _ => T.size - (intOf ti).toNat)
  case atStart => exact ⟨0, by omega, rfl, ⟨g8, c8, rfl, HS⟩, Below.refl _ _⟩
  case round =>
    clear HS
    obtain ⟨q, hq, rfl, ⟨g, c, rfl, HS⟩, hb⟩ := hrel
    obtain ⟨i, hi⟩ : ∃ i, i = 64 * q := ⟨_, rfl⟩
    rw [← hi] at hq ⊢
    have hib : i ≤ 10000000 := by omega
    obtain ⟨j, hj⟩ : ∃ j, j = i + 64 := ⟨_, rfl⟩
    have ei : IntKind.i64.wrap ((i : Int) + 64) = (j : Int) := by rw [IntKind.wrap_i64]; omega
    by_cases hlt : j ≤ T.size
    · have hl4 : (j : Int) ≤ (T.size : Int) := by omega
      have hsl := slice_lh T i j wr (by omega) hlt
      have hxs : (T.extract i j).size = 64 := by rw [ByteArray.size_extract]; omega
      have HSt := hide (show blocksW (stOf st) T 0 (q + 1) = roundW (blocksW (stOf st) T 0 q) (T.extract i j) by rw [hj, hi]; simp only [blocksW, Nat.zero_add])
      have hOk := blocksW_ok (stOf_ok st) T 0 q
      have hKq := hide ((unhide HK).below hb)
      generalize T.extract i j = blk at *
      have C5 := hide (specRound_any (blocksW (stOf st) T 0 q) hOk blk hxs g c g9 c9 w1.heap.size wr (unhide HS) (unhide hKq))
      have hsz := hb.size
      replace hi := hide hi
      replace hj := hide hj
      clear hOk HS hKq hxs
      go_wp2_with fail
      refine (unhide C5).mono ?_
      rintro e w4 ⟨⟨g4, c4, rfl, hown4⟩, hb4⟩
      have hown5 := hide (hown4.low (base' := w1.heap.size) (by omega))
      rw [← unhide HSt] at hown5
      have hb5 := hb.trans (hb4.mono hsz)
      clear hown4 hb4 C5
      go_wp2
      go_roundw
      case rel => exact ⟨q + 1, by have := unhide hi; have := unhide hj; omega, by have := unhide hi; have := unhide hj; go_num, ⟨_, _, rfl, hown5⟩, hb5⟩
      case measure => have := unhide hi; have := unhide hj; simp [intOf]; omega
    · have hl4 : ¬ (j : Int) ≤ (T.size : Int) := by omega
      have hqe : q = T.size / 64 := by omega
      have hsl := slice_l T i wr (by omega)
      rw [hi, hqe] at hsl
      rw [← hqe, ← hi] at hsl
      have HM2 : Hid (moreH ⟨st, rs, (m : Int)⟩ s = ⟨(blocksW (stOf st) T 0 q).text, T.extract i T.size, (m : Int) + (s.size : Int)⟩) := hide (by rw [unhide HM, hi, hqe])
      have hOk := blocksW_ok (stOf_ok st) T 0 q
      have C6 := hide (fun (W : World) (hW : OwnV W w1.heap.size 76 (.slice (some ⟨g, 0, none⟩) 8 c) ((blocksW (stOf st) T 0 q).toL.map u32v)) => specBytes_any (blocksW (stOf st) T 0 q).toL (toL_small hOk) (by show 8 ≤ 1000; omega) _ w1.heap.size W hW)
      generalize blocksW (stOf st) T 0 q = v2 at *
      have hB5 := (unhide hB3).below hb hl3'
      have hR5 := hide ((unhide hR3).below hb hl3)
      have n2 := hB5.c2
      dsimp only at n2
      have hb5 := (unhide HT3).trans (hb.mono (by have := (unhide HT3).size; omega))
      have hs5 := hb.size
      replace hi := hide hi
      replace hj := hide hj
      replace hqe := hide hqe
      clear HM HK hB5
      go_wp2_with fail
      go_region_held3 (fun W => W.cell? ⟨w.heap.size, 2, none⟩ = some (.int .i64 (m : Int))) (first | exact n2 | exact n5 | exact keep3 n5 (by omega) | fail) (first
        | (go_at_call 64; refine ((unhide C6) _ (by exact unhide HS)).mono ?_; rintro e w5 ⟨rfl, hb6⟩; have hb7 := hb.drew.trans (hb6.mono hs5); have n5 := ((unhide hB3).below hb7 hl3').c2; have hR6 := (unhide hR3).below hb7 hl3; have r0 := hR6.c0; have r1 := hR6.c1; have r2 := hR6.c2; have f0 := hR6.frozen 0; have f1 := hR6.frozen 1; have f2 := hR6.frozen 2)
        | fail)
      have HT6 := hide ((unhide HT3).trans (hb7.mono (by have := (unhide HT3).size; omega)))
      have e2 : (⟨(bytesL v2.toL).toArray⟩ : ByteArray) = v2.text := rfl
      rw [e2]
      replace hR6 := hide hR6
      clear hb6 hb7 hb5 hb n2 n5 r0 r1 r2 f0 f1 f2 e2 C6
      go_wp2
      refine bodyPost_ret (v := hsv ⟨v2.text, T.extract i T.size, (m : Int) + (s.size : Int)⟩) (results_hash Tryz.results39 _ _ (w.heap.size + 1) 70 _ _ rfl (HB.set3 (unhide hR6) ⟨v2.text, T.extract i T.size, (m : Int) + (s.size : Int)⟩) Tryz.underlying70 (by kernel_rfl)) rfl ⟨by rw [unhide HM2]; rfl, ?_⟩
      exact (((unhide HT6).setCell (p := ⟨w.heap.size + 1, 0, none⟩) (Nat.le_succ _) _).setCell (p := ⟨w.heap.size + 1, 1, none⟩) (Nat.le_succ _) _).setCell (p := ⟨w.heap.size + 1, 2, none⟩) (Nat.le_succ _) _
set_option maxRecDepth 20000 in
set_option maxHeartbeats 400000 in
theorem specMore_no (a : Hs) (s : ByteArray) (w : World) (h1 : a.st.size ≤ maxLen) (h2 : a.rs.size ≤ maxLen) (hs : s.size ≤ 4000000) (hok : okH a = false ∨ (okH a = true ∧ 1000000000 < a.ct + (s.size : Int))) :
    Calls Tryz.prog 39 #[hsv a, .string s] w fun e w' => e = .returned (hsv a) ∧ Below w.heap.size w w' := by
  have CO := hide (fun W => specOk_any a W h1 h2)
  have hbd : okH a = true → 0 ≤ a.ct ∧ a.ct ≤ 1000000000 := fun h => ⟨(okH_yes h).2.1, (okH_yes h).2.2.1⟩
  obtain ⟨st, rs, ct⟩ := a
  dsimp only at *
  clear h1 h2
  unfold hsv
  dsimp only
  unfold hsv at CO
  dsimp only at CO
  generalize okH ⟨st, rs, ct⟩ = ok at *
  go_enter Tryz.func39, Tryz.ntmps39
  go_wp2_with fail
  obtain ⟨W, hW, hB, hR, hb, hlt⟩ := two_hash w ⟨st, rs, ct⟩ h0 70 70
  unfold h0 at hW
  dsimp only at hW
  rw [hW]
  clear hW
  refine ((unhide CO) W).mono ?_
  rintro e w1 ⟨rfl, hb1⟩
  have hB1 := hB.step hb1
  have hR1 := hide (hR.step hb1)
  have k0 := hB1.c0
  have k1 := hB1.c1
  have k2 := hB1.c2
  dsimp only at k0 k1 k2
  have r0 := (unhide hR1).c0
  have r1 := (unhide hR1).c1
  have r2 := (unhide hR1).c2
  have f0 := (unhide hR1).frozen 0
  have f1 := (unhide hR1).frozen 1
  have f2 := (unhide hR1).frozen 2
  have hl1 := (unhide hR1).lt
  have hl1' := hB1.lt
  have HT1 := hide (hb.trans (hb1.mono (by omega)))
  replace hB1 := hide hB1
  clear hB hb hb1 hR hlt CO
  rcases hok with rfl | ⟨rfl, hbig⟩
  · clear hbd
    go_wp2
    refine bodyPost_ret (v := hsv ⟨st, rs, ct⟩) (results_hash Tryz.results39 _ _ (w.heap.size + 1) 70 _ _ rfl (HB.set3 (unhide hR1) ⟨st, rs, ct⟩) Tryz.underlying70 (by kernel_rfl)) rfl ⟨rfl, ?_⟩
    exact (((unhide HT1).setCell (p := ⟨w.heap.size + 1, 0, none⟩) (Nat.le_succ _) _).setCell (p := ⟨w.heap.size + 1, 1, none⟩) (Nat.le_succ _) _).setCell (p := ⟨w.heap.size + 1, 2, none⟩) (Nat.le_succ _) _
  · obtain ⟨hb0, hb9⟩ := hbd rfl
    have hlt1 : 1000000000 < ct + (s.size : Int) := by omega
    have ew : IntKind.i64.wrap (ct + (s.size : Int)) = ct + (s.size : Int) := by rw [IntKind.wrap_i64]; omega
    clear hbd
    go_wp2
    refine bodyPost_ret (v := hsv ⟨st, rs, ct⟩) (results_hash Tryz.results39 _ _ (w.heap.size + 1) 70 _ _ rfl (HB.set3 (unhide hR1) ⟨st, rs, ct⟩) Tryz.underlying70 (by kernel_rfl)) rfl ⟨rfl, ?_⟩
    exact (((unhide HT1).setCell (p := ⟨w.heap.size + 1, 0, none⟩) (Nat.le_succ _) _).setCell (p := ⟨w.heap.size + 1, 1, none⟩) (Nat.le_succ _) _).setCell (p := ⟨w.heap.size + 1, 2, none⟩) (Nat.le_succ _) _
end Go.Proofs.YtkbbcjnickgfjabGreat

/- A row of bytes of the call's own that came of a text: the mark of a conversion lies behind its cells; bytes are appended to it, one by one, with room or without. -/
namespace Go.Proofs.YtkbbcjnickgfjabGreat
open Go.RowKit
def MB (w : World) (base : Nat) (e : TypeId) (v : Value) (l : List UInt8) : Prop :=
  ∃ (g cap : Nat) (cur : Array Value) (lo hi : Nat), v = .slice (some ⟨g, 0, none⟩) l.length cap ∧ base ≤ g ∧ w.heap[g]? = some (.cells cur e (lo, hi)) ∧ (∀ j, j < cur.size → ¬ (lo ≤ j ∧ j < hi)) ∧ l.length ≤ cap ∧ cur.size = cap ∧ cur.toList.take l.length = l.map bv
theorem MB.shape {w : World} {base : Nat} {e : TypeId} {v : Value} {l : List UInt8} (h : MB w base e v l) : ∃ g c, v = .slice (some ⟨g, 0, none⟩) l.length c ∧ base ≤ g ∧ g < w.heap.size ∧ l.length ≤ c := by
  obtain ⟨g, cap, cur, lo, hi, h1, h2, h3, _, h5, _⟩ := h
  refine ⟨g, cap, h1, h2, ?_, h5⟩
  rcases Nat.lt_or_ge g w.heap.size with h | h
  · exact h
  · rw [Array.getElem?_eq_none h] at h3; cases h3
theorem MB.keep {w w' : World} {base : Nat} {e : TypeId} {v : Value} {l : List UInt8} (h : MB w base e v l) (hb : ∀ g, v.ownBlock = some g → w'.heap[g]? = w.heap[g]?) : MB w' base e v l := by
  obtain ⟨g, cap, cur, lo, hi, rfl, h2, h3, r⟩ := h
  exact ⟨g, cap, cur, lo, hi, rfl, h2, by rw [hb g rfl]; exact h3, r⟩
theorem MB.below {w w' : World} {base : Nat} {e : TypeId} {v : Value} {l : List UInt8} (h : MB w base e v l) (hb : Below w.heap.size w w') : MB w' base e v l := by
  obtain ⟨g, c, rfl, _, hg, _⟩ := h.shape
  exact h.keep (fun k hk => by simp only [Value.ownBlock, Option.some.injEq] at hk; subst hk; exact hb.block g hg)
theorem MB.cell {w : World} {base g n c : Nat} {e : TypeId} {l : List UInt8} (h : MB w base e (.slice (some ⟨g, 0, none⟩) n c) l) {j : Nat} {b : UInt8} (hj : l[j]? = some b) : w.cell? ⟨g, j, none⟩ = some (bv b) := by
  obtain ⟨g', cap, cur, lo, hi, h1, h2, h3, h4, h5, h6, h7⟩ := h
  simp only [Value.slice.injEq, Option.some.injEq, Addr.mk.injEq] at h1
  obtain ⟨⟨rfl, _⟩, rfl, rfl⟩ := h1
  have hl : j < l.length := (List.getElem?_eq_some_iff.mp hj).1
  have e1 : (cur.toList.take l.length)[j]? = some (bv b) := by rw [h7, List.getElem?_map, hj]; rfl
  rw [List.getElem?_take_of_lt hl] at e1
  simp only [World.cell?, h3]
  simpa using e1
theorem bytes_mb (w : World) (e : TypeId) (s : ByteArray) : MB (Lib.bytesWorld w e s) w.heap.size e (.slice (some ⟨w.heap.size, 0, none⟩) s.size (grownCap w s.size 0 e)) s.data.toList := by
  have hge := grownCap_ge w s.size 0 e
  have hsz : (Lib.bytesCells w e s).size = grownCap w s.size 0 e := by
    simp only [Lib.bytesCells, Array.size_append, Array.size_map, Array.size_replicate]
    show s.size + _ = _
    omega
  refine ⟨w.heap.size, grownCap w s.size 0 e, Lib.bytesCells w e s, _, _, rfl, Nat.le_refl _, Lib.bytesWorld_at_new w e s, fun j hj => by omega, hge, hsz, ?_⟩
  simp only [Lib.bytesCells, Array.toList_append, Array.toList_map]
  rw [List.take_left' (by rw [List.length_map])]
  rfl
theorem bytes_below2 (w : World) (e : TypeId) (s : ByteArray) : Below w.heap.size w (Lib.bytesWorld w e s) :=
  ⟨rfl, rfl, rfl, by rw [Lib.bytesWorld_size]; omega, fun k hk => Lib.bytesWorld_at_old w e s k hk⟩
theorem heap_setCell_at (w : World) (g k : Nat) (cur : Array Value) (e : TypeId) (f : Nat × Nat) (u : Value) (h : w.heap[g]? = some (.cells cur e f)) : (w.setCell ⟨g, k, none⟩ u).heap[g]? = some (.cells (cur.setIfInBounds k u) e f) := by
  simp [World.setCell, Array.getElem?_modify, h]
theorem run_append_mark {P : Program} (w : World) (t ty e : TypeId) (i : TypeInfo) (z : Value) (ht : P.underlying t = some (.slice e)) (hi : P.info? e = some i) (hz : i.zero = some z) (hsize : i.size = 1) (hby : i.bytes = 1) (hzs : z.cells.size = 1)
    (base : Nat) (v : Value) (l : List UInt8) (h : MB w base e v l) (a : Addr) (c : Nat) (b : UInt8) (hx : w.cell? (a.add 0) = some (bv b)) (hlen : l.length + 1 ≤ 140737488355328) (hbase : base ≤ w.heap.size) :
    ∃ v' w', (Builtin.append_ #[t, t] ty #[v, .slice (some a) 1 c]).run P w = .ok v' w' ∧ MB w' base e v' (l ++ [b]) ∧ w.grownBy w' v.ownBlock := by
  have hnews : ∀ j u, [bv b][j]? = some u → w.cell? (a.add j) = some u := by
    intro j u hu
    cases j with
    | zero => simp only [List.getElem?_cons_zero, Option.some.injEq] at hu; subst hu; exact hx
    | succ j => simp at hu
  have hM := h
  obtain ⟨g, cap, cur, lo, hi', rfl, h2, h3, h4, h5, h6, h7⟩ := h
  by_cases hroom : l.length + 1 ≤ cap
  · have hin : l.length < cur.size := by omega
    have hcell : w.cell? ⟨g, l.length, none⟩ = some cur[l.length] := by simp [World.cell?, h3, hin]
    have hfro : w.frozen? ⟨g, l.length, none⟩ = false := by
      have := h4 l.length hin
      simp only [World.frozen?, h3]
      simp
      omega
    have hadd : (⟨g, l.length, none⟩ : Addr).add 0 = ⟨g, l.length, none⟩ := by unfold Addr.add; split <;> simp_all
    have hst : (storeCells ⟨g, l.length, none⟩ [bv b] 0).run P w = .ok () (w.setCell ⟨g, l.length, none⟩ (bv b)) := by
      have h0 : (store ((⟨g, l.length, none⟩ : Addr).add 0) (bv b)).run P w = .ok () (w.setCell ⟨g, l.length, none⟩ (bv b)) := by
        rw [hadd, run_store P w _ (bv b) _ rfl, hcell]
        simp [hfro]
      simp only [storeCells, Sem.run_bind, h0, Result.andThen_ok]
      rfl
    have hf := run_firstCells_some (P := P) w i.size 1 a 1 c [bv b] (by rw [hsize]; rfl) hnews
    have hr : (Builtin.append_ #[t, t] ty #[.slice (some ⟨g, 0, none⟩) l.length cap, .slice (some a) 1 c]).run P w = .ok (.slice (some ⟨g, 0, none⟩) (l.length + 1) cap) (w.setCell ⟨g, l.length, none⟩ (bv b)) := by
      rw [hsize] at hf
      simp [Builtin.append_, run_underlying ht, sizeOf, typeInfo, hi, Builtin.lenOf, hroom, hf, Addr.add_lit, hst, hsize]
    refine ⟨_, _, hr, ⟨g, cap, cur.setIfInBounds l.length (bv b), lo, hi', by rw [List.length_append]; rfl, h2, heap_setCell_at w g _ cur e _ _ h3, by rw [Array.size_setIfInBounds]; exact h4, by rw [List.length_append]; exact hroom, by rw [Array.size_setIfInBounds]; exact h6, ?_⟩, ⟨rfl, rfl, rfl, by simp, fun k _ hk => RowKit.Below.heap_setCell _ _ _ _ (fun e => hk (by simp [Value.ownBlock, e]))⟩⟩
    have hll : l.length < cur.toList.length := by simpa using hin
    rw [List.length_append, List.length_singleton, List.map_append, ← h7, Array.toList_setIfInBounds]
    apply List.ext_getElem?
    intro j
    simp only [List.getElem?_take, List.getElem?_set, List.getElem?_append, List.length_take]
    have hmin : min l.length cur.toList.length = l.length := by omega
    rw [hmin]
    by_cases hj : j < l.length
    · rw [if_pos (by omega), if_neg (by omega), if_pos hj, if_pos hj]
    · by_cases hj2 : j = l.length
      · subst hj2
        rw [if_pos (by omega), if_pos rfl, if_pos hll, if_neg (by omega), Nat.sub_self]
        rfl
      · rw [if_neg (by omega), if_neg (by omega), List.getElem?_eq_none (by simp; omega)]
  · have holds : ∀ j u, (l.map bv)[j]? = some u → w.cell? ((⟨g, 0, none⟩ : Addr).add j) = some u := by
      intro j u hu
      have hadd : (⟨g, 0, none⟩ : Addr).add j = ⟨g, j, none⟩ := by unfold Addr.add; split <;> simp_all
      rw [hadd]
      rw [List.getElem?_map] at hu
      cases hb : l[j]? with
      | none => rw [hb] at hu; cases hu
      | some b' => rw [hb] at hu; cases hu; exact hM.cell hb
    have hr := run_append_grow (P := P) w t ty e i z ht hi hz ⟨g, 0, none⟩ l.length cap (l.map bv) (by rw [hsize, Nat.mul_one, List.length_map]) holds a 1 c [bv b] (by rw [hsize]; rfl) hnews (by omega) (by omega) (growslice_fits (by omega) (by rw [hby, Nat.mul_one]; exact hlen))
    have hge := grownCap_ge w (l.length + 1) cap e
    refine ⟨_, _, hr, ⟨w.heap.size, grownCap w (l.length + 1) cap e, _, 0, 0, by rw [List.length_append]; rfl, hbase, heap_alloc_new w.drew _, fun j _ => by omega, by rw [List.length_append]; exact hge, ?_, ?_⟩, ⟨rfl, rfl, rfl, by simp, fun k hk _ => (((Below.refl w.heap.size w).drew).alloc (Nat.le_refl _) _).block k hk⟩⟩
    · simp only [Array.size_append, List.size_toArray, size_zeroCells, hzs, List.length_map, List.length_singleton]
      omega
    · simp only [Array.toList_append, List.length_append, List.length_singleton, List.map_append, List.map_cons, List.map_nil]
      rw [List.take_left' (by simp)]
theorem wpList_append_mark {P : Program} {w : World} {ops : Array Oper} {rest : List Oper} {o : Oper} {a : Act} {Q : Exit → Act → World → Prop} {e : TypeId} {x : Int} (hgd : o.guard = none) (s y : Operand) (t : TypeId)
    (ho : o.op = .call { callee := .builtin .append, args := #[s, y], argTypes := #[t, t] })
    (base B : Nat) (i : TypeInfo) (z : Value) (ht : P.underlying t = some (.slice e)) (hi : P.info? e = some i) (hz : i.zero = some z) (hsize : i.size = 1) (hby : i.bytes = 1) (hzs : z.cells.size = 1)
    (v : Value) (l : List UInt8) (hs : a.eval s = v) (hown : MB w base e v l) (b : UInt8) (hxb : x = (b.toNat : Int))
    (hx : a.eval y = .slice (some ⟨w.heap.size, 0, none⟩) 1 1)
    (hlen : l.length + 1 ≤ 140737488355328) (hB : B ≤ base) (hbase : base ≤ w.heap.size) {w00 : World} (hbel : Below B w00 w)
    (h : ∀ v' w', MB w' base e v' (l ++ [b]) → Below B w00 w' → wpList P ops Q rest (a.put o.dst v') w') :
    wpList P ops Q (o :: rest) a (w.alloc (.cells #[.int .u8 x] e)) := by
  subst hxb
  refine wpList_plain hgd fun K hK => ?_
  have hM : MB (w.alloc (.cells #[.int .u8 (b.toNat : Int)] e)) base e v l := hown.below ((Below.refl w.heap.size w).alloc (Nat.le_refl _) _)
  have hc : (w.alloc (.cells #[.int .u8 (b.toNat : Int)] e)).cell? ((⟨w.heap.size, 0, none⟩ : Addr).add 0) = some (bv b) := by
    have hadd : (⟨w.heap.size, 0, none⟩ : Addr).add 0 = ⟨w.heap.size, 0, none⟩ := by unfold Addr.add; split <;> simp_all
    rw [hadd, cell_of_row _ w.heap.size 0 #[.int .u8 (b.toNat : Int)] e (0, 0) (heap_alloc_new w _)]
    rfl
  obtain ⟨v', w', hr, h2, h3⟩ := run_append_mark (P := P) (w.alloc (.cells #[.int .u8 (b.toNat : Int)] e)) t o.type e i z ht hi hz hsize hby hzs base v l hM ⟨w.heap.size, 0, none⟩ 1 b hc hlen (by simp; omega)
  unfold Oper.wp execOp
  simp only [ho, resolve, invoke, builtin, Sem.run_bind, Sem.run_pure, Result.andThen_ok, List.map_toArray, List.map_cons, List.map_nil, hs, hx, hr]
  refine hK _ _ (h v' w' h2 ?_)
  refine (hbel.alloc (by omega) _).grown h3 (by simp; omega) ?_
  intro k hk
  obtain ⟨g, c, rfl, hg, _⟩ := hown.shape
  simp only [Value.ownBlock, Option.some.injEq] at hk
  omega
end Go.Proofs.YtkbbcjnickgfjabGreat

