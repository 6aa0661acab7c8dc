/- What a held pool gives under its lock, over the loaded program. -/
import Derived.Test.YtanianfealalgaoPol2
import Derived.Test.YtanianfealalgaoPolB
import Derived.Lib.AppendStr
namespace Go.Proofs.Ytanianfealalgao
open Go.RowKit Go.MuLone
theorem OwnB.grown8 {w w' : World} {base g : Nat} {e : TypeId} {v : Value} {l : List UInt8} (ho : OwnB w base e v l) (hg : w.grownBy w' (some g)) (hh : g < base) : OwnB w' base e v l :=
  World.ownsRow.kept (row := some g) ho hg (by
    cases hv : v.ownBlock with
    | none => simp
    | some k => have := (World.ownsRow.lt ho k hv).1; simp; omega)
set_option maxRecDepth 20000 in
set_option maxHeartbeats 1000000 in
theorem give8_any (g : Nat) (a : Hs) (n : Nat) (hn : n ≤ 200) (g1 : a.st.size = 32) (g2 : a.rs.size = 32) (g3 : 0 ≤ a.ct) (g4 : a.ct < 20) (w : World) (hA : HP w g 47 0 a) :
    Calls Try.prog 24 #[.pointer (some ⟨g, 0, none⟩), .int .i64 (n : Int)] w fun e w' => e = .returned (.tuple #[hsv (takeH a n), .string (takeB a n)]) ∧ w.grownBy w' (some g) := by
  obtain ⟨i0, hi, hz0, hz1, hz2⟩ := info_parts Try.infoByte
  obtain ⟨c0, hc0⟩ : ∃ c, c = n + 32 := ⟨_, rfl⟩
  have ec : IntKind.i64.wrap ((n : Int) + 32) = (c0 : Int) := by rw [IntKind.wrap_i64]; omega
  have hcb : c0 ≤ 10000 := by omega
  obtain ⟨st, rs, ct⟩ := a
  dsimp only at g1 g2 g3 g4
  replace hc0 := hide hc0
  have hlt := hA.lt
  go_enter_defers Try.func24, Try.ntmps24
  go_wp2_with fail
  obtain ⟨W, hW, hR, hb, hl⟩ := one_hash w hz 23
  unfold hz at hW
  rw [hW]
  clear hW
  have hA1 := hA.step hb
  refine (lock_free Try.muLib ⟨g, 0, none⟩ W hA1.c0 (hA1.frozen 0)).mono ?_
  rintro e w1 ⟨rfl, hw1⟩
  have hA2 := hA1.set0 1
  have hR2 := hR.set_off (h := g) (k := 0) (by omega) (.int .i32 1)
  have hG2 := pT (pB hb (some g)) (pS W g 0 (.int .i32 1))
  rw [← hw1] at hA2 hR2 hG2
  clear hw1 hA hA1 hR hb hl
  have hl1 := hR2.lt
  replace hA2 := hide hA2; replace hR2 := hide hR2; replace hG2 := hide hG2
  go_wp2_with (at_make; refine wpList_make_own _ rfl _ _ 49 rfl w1.heap.size 5 i0 (.int .u8 0) 1 Try.underlying49 hi hz0 hz1 _ _ _ c0 rfl rfl (by omega) (by rw [hz2]; omega) (by unfold maxLen; omega) (Nat.le_refl _) ?_; intro w2 hown2 hgrow2)
  have hb0 : Below w1.heap.size w1 w2 := (Below.refl w1.heap.size w1).grown hgrow2 (Nat.le_refl _) (fun k hk => by cases hk)
  clear hgrow2
  go_loopw [6] (fun tv wq => ∃ j : Nat, j ≤ (n + 31) / 32 ∧ Hid (OwnB wq w1.heap.size 5 tv (outN st rs j)) ∧ Hid (HP wq g 47 1 ⟨st, valN st rs j, ct⟩) ∧ Hid (HB wq w.heap.size 23 hz) ∧ Hid (w.grownBy wq (some g)) ∧ w1.heap.size ≤ wq.heap.size) (fun tv _ => 1000 - lenP tv)
  case atStart =>
    exact ⟨0, by omega, hide hown2, hide ((unhide hA2).step hb0), hide ((unhide hR2).step hb0), hide (pTB (unhide hG2) (hb0.mono (unhide hG2).size)), hb0.size⟩
  case round =>
    clear hown2 hb0 hA2 hR2 hG2
    obtain ⟨j, hj, HO, HA, HR, HT, hsz⟩ := hrel
    have hjl := outN_len st rs j
    have hjb : j ≤ 7 := by omega
    obtain ⟨m, hm⟩ : ∃ m, m = 32 * j := ⟨_, rfl⟩
    rw [← hm] at hjl
    have hvs := valN_size st rs g2 j
    obtain ⟨v, hv⟩ : ∃ v, v = valN st rs j := ⟨_, rfl⟩
    obtain ⟨a9, c9, hv9⟩ : ∃ a c, u6 = .slice a m c := by
      have h9 : wr.ownsRow w1.heap.size 5 1 u6 (outN st rs j).length ((outN st rs j).map bv) := unhide HO
      rw [hjl] at h9
      rcases h9.2 with ⟨h, h'⟩ | ⟨g, cap, cur, h, _⟩
      · exact ⟨none, 0, by rw [h, h']⟩
      · exact ⟨_, cap, h⟩
    subst hv9
    rw [← hv] at HA hvs
    by_cases hlt : m < n
    · have hlt' : (m : Int) < (n : Int) := by omega
      have CS := hide (fun W => step_any g 1 ⟨st, v, ct⟩ (by show st.size ≤ _; omega) (by show v.size ≤ _; omega) W)
      dsimp only at CS
      obtain ⟨tn, htn⟩ : ∃ t, t = macB st v := ⟨_, rfl⟩
      rw [← htn] at CS
      have htn' : tn = valN st rs (j + 1) := by rw [htn, hv]; rfl
      have hTs : tn.size = 32 := by rw [htn]; exact macB_size _ _
      have HLs := hide (show outN st rs (j + 1) = outN st rs j ++ tn.data.toList by rw [htn']; rfl)
      replace htn := hide htn; replace htn' := hide htn'; replace hm := hide hm; replace hv := hide hv
      go_wp2_with fail
      refine ((unhide CS) wr (unhide HA)).mono ?_
      rintro e w3 ⟨rfl, hA3, hG3⟩
      have hR3 := (unhide HR).kept8 hG3 (by omega)
      have hT3 := pT (unhide HT) hG3
      have hO3 := (unhide HO).grown8 hG3 (by omega)
      have hsz3 := Nat.le_trans hsz hG3.size
      have q3 := hA3.c3
      dsimp only at q3
      have hown3 : w3.ownsRow w1.heap.size 5 1 (.slice a9 m c9) m ((outN st rs j).map bv) := by
        have := hO3
        unfold OwnB at this
        rw [hjl] at this
        exact this
      clear HO HA HR HT CS hO3 hG3
      replace hown3 := hide hown3; replace hA3 := hide hA3; replace hR3 := hide hR3; replace hT3 := hide hT3
      go_wp2_with (at_builtin; refine Lib.wpList_append_own_string _ rfl (.tmp 23) (.tmp 28) 49 9 rfl w1.heap.size 5 i0 Try.underlying49 Try.underlying9 hi hz0 hz1 hz2 _ m _ rfl (unhide hown3) tn rfl (by unfold maxLen; omega) (by omega) hsz3 ?_; intro v4 w4 hown4 hg4 _)
      have hb4 : Below w1.heap.size w3 w4 := (Below.refl w1.heap.size w3).grown hg4 hsz3 (fun k hk => ((unhide hown3).lt k hk).1)
      have hA4 := (unhide hA3).below hb4 (by omega)
      have hR4 := (unhide hR3).below hb4 (by omega)
      have hT4 := pTB (unhide hT3) (hb4.mono (by omega))
      have hsz4 := Nat.le_trans hsz3 hg4.size
      have hown5 : OwnB w4 w1.heap.size 5 v4 (outN st rs (j + 1)) := by
        unfold OwnB
        rw [unhide HLs, List.length_append, hjl, List.map_append]
        exact hown4
      obtain ⟨a6, c6, hv6⟩ : ∃ a c, v4 = .slice a (m + tn.size) c := by
        rcases hown4.2 with ⟨h, h'⟩ | ⟨g, cap, cur, h, _⟩
        · exact ⟨none, 0, by rw [h, h']⟩
        · exact ⟨_, cap, h⟩
      subst hv6
      rw [unhide htn'] at hA4
      replace hown5 := hide hown5; replace hA4 := hide hA4; replace hR4 := hide hR4; replace hT4 := hide hT4
      clear hown4 hg4 hown3 hA3 hR3 hT3 HLs hb4 q3
      go_wp2
      have q1 := unhide hm
      exact ⟨⟨j + 1, by omega, hown5, hA4, hR4, hT4, hsz4⟩, by simp [lenP]; omega⟩
    · have hlt' : ¬ (m : Int) < (n : Int) := by omega
      have hje : j = (n + 31) / 32 := by omega
      have EB := hide (show takeB ⟨st, rs, ct⟩ n = ⟨((outN st rs j).take n).toArray⟩ by unfold takeB; rw [hje])
      obtain ⟨b, hbm⟩ : ∃ b, b = mixH ⟨st, v, ct⟩ ⟨#[]⟩ := ⟨_, rfl⟩
      have EH := hide (show takeH ⟨st, rs, ct⟩ n = ⟨b.st, b.rs, ct + 1⟩ by unfold takeH takeM; dsimp only; rw [← hje, ← hv, ← hbm])
      have CX := hide (fun W => mix_any g 1 ⟨st, v, ct⟩ ⟨#[]⟩ (by show st.size ≤ _; omega) (by show v.size ≤ _; omega) (by decide) W)
      rw [← hbm] at CX
      obtain ⟨m1, m2, m3⟩ := mixH_st ⟨st, v, ct⟩ ⟨#[]⟩
      rw [← hbm] at m1 m2 m3
      dsimp only at m3
      obtain ⟨bs, br, bc⟩ := b
      dsimp only at m1 m2 m3 EH
      subst m3
      have ew : IntKind.i64.wrap (bc + 1) = bc + 1 := by rw [IntKind.wrap_i64]; omega
      replace hje := hide hje; replace hm := hide hm; replace hv := hide hv; replace hbm := hide hbm
      go_wp2_with fail
      refine ((unhide CX) wr (unhide HA)).mono ?_
      rintro e w3 ⟨rfl, hA3, hG3⟩
      have hR3 := (unhide HR).kept8 hG3 (by omega)
      have hT3 := pT (unhide HT) hG3
      have hO3 := (unhide HO).grown8 hG3 (by omega)
      have hsz3 := Nat.le_trans hsz hG3.size
      clear HO HA HR HT CX hG3
      have q4 := hA3.c4; have p4 := hA3.frozen 4
      dsimp only at q4
      have hA4 := hA3.set4 (bc + 1)
      have hR4 := hR3.set_off (h := g) (k := 4) (by omega) (.int .i64 (bc + 1))
      have hO4 := hO3.off8 (h := g) (k := 4) (by omega) (.int .i64 (bc + 1))
      have hT4 := pT hT3 (pS w3 g 4 (.int .i64 (bc + 1)))
      dsimp only at hA4
      obtain ⟨wq, hwq⟩ : ∃ wq, wq = w3.setCell ⟨g, 4, none⟩ (.int .i64 (bc + 1)) := ⟨_, rfl⟩
      rw [← hwq] at hA4 hR4 hO4 hT4
      replace hA4 := hide hA4; replace hR4 := hide hR4; replace hO4 := hide hO4; replace hT4 := hide hT4; replace hwq := hide hwq
      clear hA3 hR3 hO3 hT3
      go_wp2_with fail
      rw [← unhide hwq]
      clear hwq q4 p4
      have q0 := (unhide hA4).c2; have q1 := (unhide hA4).c3; have q2 := (unhide hA4).c4
      have r0 := (unhide hR4).frozen 0; have r1 := (unhide hR4).frozen 1; have r2 := (unhide hR4).frozen 2
      have u0 := (unhide hR4).c0; have u1 := (unhide hR4).c1; have u2 := (unhide hR4).c2
      dsimp only at q0 q1 q2
      unfold hz at u0 u1 u2
      have hF := (unhide hR4).set3 ⟨bs, br, bc + 1⟩
      have hA5 := (((unhide hA4).set_off (h := w.heap.size) (k := 0) (by omega) (.string bs)).set_off (h := w.heap.size) (k := 1) (by omega) (.string br)).set_off (h := w.heap.size) (k := 2) (by omega) (.int .i64 (bc + 1))
      dsimp only at hF hA5
      have hO5 := (((unhide hO4).off8 (h := w.heap.size) (k := 0) (by omega) (.string bs)).off8 (h := w.heap.size) (k := 1) (by omega) (.string br)).off8 (h := w.heap.size) (k := 2) (by omega) (.int .i64 (bc + 1))
      have hB5 : Below w.heap.size wq (((wq.setCell ⟨w.heap.size, 0, none⟩ (.string bs)).setCell ⟨w.heap.size, 1, none⟩ (.string br)).setCell ⟨w.heap.size, 2, none⟩ (.int .i64 (bc + 1))) := (((Below.refl w.heap.size wq).setCell (p := ⟨w.heap.size, 0, none⟩) (Nat.le_refl _) (.string bs)).setCell (p := ⟨w.heap.size, 1, none⟩) (Nat.le_refl _) (.string br)).setCell (p := ⟨w.heap.size, 2, none⟩) (Nat.le_refl _) (.int .i64 (bc + 1))
      have HTF := hide (pTB (unhide hT4) hB5)
      have h4 : wq.ownsRow w1.heap.size 5 1 (.slice a9 m c9) m ((outN st rs j).map bv) := by
        have := unhide hO4
        unfold OwnB at this
        rw [hjl] at this
        exact this
      have h5 : (((wq.setCell ⟨w.heap.size, 0, none⟩ (.string bs)).setCell ⟨w.heap.size, 1, none⟩ (.string br)).setCell ⟨w.heap.size, 2, none⟩ (.int .i64 (bc + 1))).ownsRow w1.heap.size 5 1 (.slice a9 m c9) m ((outN st rs j).map bv) := by
        have := hO5
        unfold OwnB at this
        rw [hjl] at this
        exact this
      have hnl : ((outN st rs j).take n).length = n := by rw [List.length_take, hjl]; have := unhide hm; omega
      replace hF := hide hF; replace hA5 := hide hA5
      clear hO5 hO4 hB5
      rcases h4.2 with ⟨hv', hm0⟩ | ⟨gg, cap, cur, hv', _, _, hmc, _⟩
      · cases hv'
        have hn0 : n = 0 := by omega
        subst hn0
        have hc1 := run_convert_bytes_nil (P := Try.prog) wq.drew 49 5 Try.underlying49 Try.underlying5 0 0 9 Try.underlying9
        have hc2 := run_convert_bytes_nil (P := Try.prog) (((wq.setCell ⟨w.heap.size, 0, none⟩ (.string bs)).setCell ⟨w.heap.size, 1, none⟩ (.string br)).setCell ⟨w.heap.size, 2, none⟩ (.int .i64 (bc + 1))).drew 49 5 Try.underlying49 Try.underlying5 0 0 9 Try.underlying9
        clear h4 h5
        go_region
        all_goals go_wp2
        all_goals (
          generalize ((wq.setCell ⟨w.heap.size, 0, none⟩ (.string bs)).setCell ⟨w.heap.size, 1, none⟩ (.string br)).setCell ⟨w.heap.size, 2, none⟩ (.int .i64 (bc + 1)) = w5 at *
          have hA6 := HP.c0 (w := w5.drew) (unhide hA5)
          have hz6 := HP.frozen (w := w5.drew) (unhide hA5) 0
          have f0 := (unhide hF).c0; have f1 := (unhide hF).c1; have f2 := (unhide hF).c2
          dsimp only at f0 f1 f2
          refine leaves_cons (f := 33) (args := #[.pointer (some ⟨g, 0, none⟩)]) (by simp) (by simp [go_sem]) ?_
          refine (unlock_deferred Try.muLib ⟨g, 0, none⟩ .returning w5.drew hA6 hz6).mono ?_
          rintro e u' w'' ⟨rfl, rfl, rfl⟩
          refine ⟨.tuple #[.agg #[.string bs, .string br, .int .i64 (bc + 1)], .string ByteArray.empty], ?_, by rw [unhide EB, unhide EH]; rfl, pT (pTB (unhide HTF) (Below.refl _ _).drew) (pS w5.drew g 0 _)⟩
          simp [results, Try.results24, go_sem, f0, f1, f2])
      · cases hv'
        have hcl4 := h4.cells (g := gg) rfl
        have hcl5 := h5.cells (g := gg) rfl
        have hc1 := run_convert_bytes_back (P := Try.prog) wq.drew 49 9 5 ⟨gg, 0, none⟩ c9 ((outN st rs j).take n) Try.underlying49 Try.underlying5 Try.underlying9 (fun q hq => by
          apply hcl4 q
          rw [hnl] at hq
          rw [List.getElem?_map, List.getElem_take, List.getElem?_eq_getElem (by have := unhide hm; omega)]
          rfl)
        have hc2 := run_convert_bytes_back (P := Try.prog) (((wq.setCell ⟨w.heap.size, 0, none⟩ (.string bs)).setCell ⟨w.heap.size, 1, none⟩ (.string br)).setCell ⟨w.heap.size, 2, none⟩ (.int .i64 (bc + 1))).drew 49 9 5 ⟨gg, 0, none⟩ c9 ((outN st rs j).take n) Try.underlying49 Try.underlying5 Try.underlying9 (fun q hq => by
          apply hcl5 q
          rw [hnl] at hq
          rw [List.getElem?_map, List.getElem_take, List.getElem?_eq_getElem (by have := unhide hm; omega)]
          rfl)
        rw [hnl] at hc1 hc2
        have hnc : (n : Int) ≤ (c9 : Int) := by omega
        clear h4 h5 hcl4 hcl5
        go_region
        all_goals go_wp2
        all_goals (
          generalize ((wq.setCell ⟨w.heap.size, 0, none⟩ (.string bs)).setCell ⟨w.heap.size, 1, none⟩ (.string br)).setCell ⟨w.heap.size, 2, none⟩ (.int .i64 (bc + 1)) = w5 at *
          have hA6 := HP.c0 (w := w5.drew) (unhide hA5)
          have hz6 := HP.frozen (w := w5.drew) (unhide hA5) 0
          have f0 := (unhide hF).c0; have f1 := (unhide hF).c1; have f2 := (unhide hF).c2
          dsimp only at f0 f1 f2
          refine leaves_cons (f := 33) (args := #[.pointer (some ⟨g, 0, none⟩)]) (by simp) (by simp [go_sem]) ?_
          refine (unlock_deferred Try.muLib ⟨g, 0, none⟩ .returning w5.drew hA6 hz6).mono ?_
          rintro e u' w'' ⟨rfl, rfl, rfl⟩
          refine ⟨.tuple #[.agg #[.string bs, .string br, .int .i64 (bc + 1)], .string ⟨((outN st rs j).take n).toArray⟩], ?_, by rw [unhide EB, unhide EH]; rfl, pT (pTB (unhide HTF) (Below.refl _ _).drew) (pS w5.drew g 0 _)⟩
          simp [results, Try.results24, go_sem, f0, f1, f2])
set_option maxRecDepth 20000 in
set_option maxHeartbeats 1000000 in
theorem implTake_yes (a : Hs) (hok : okP a = true) (hc : a.ct < 20) (n : Nat) (hn : n ≤ 200) (w : World) :
    Calls Try.prog 15 #[hsv a, .int .i64 (n : Int)] w fun e w' => e = .returned (.tuple #[hsv (takeH a n), .string (takeB a n), .bool true]) ∧ Below w.heap.size w w' := by
  obtain ⟨g1, g2, g3, g4⟩ := okP_yes hok
  have CO := hide (fun W => implPoolOk_any a (by unfold maxLen; omega) (by unfold maxLen; omega) W)
  rw [hok] at CO
  have CX := hide (fun g W => give8_any g a n hn g1 g2 g3 hc W)
  generalize takeH a n = b at *
  generalize takeB a n = t at *
  have hb1 : ¬ (n : Int) < 0 := by omega
  have hb2 : ¬ (200 : Int) < (n : Int) := by omega
  obtain ⟨bs, br, bc⟩ := b
  obtain ⟨st, rs, ct⟩ := a
  dsimp only at g1 g2 g3 g4 hc
  have hce : (ct == 20) = false := by rw [beq_eq_false_iff_ne]; omega
  unfold hsv at CX CO ⊢
  dsimp only at CX CO ⊢
  replace hok := hide hok
  go_enter Try.func15, Try.ntmps15
  go_wp2_with fail
  obtain ⟨W, hW, hA, hR, hb, hlt⟩ := two_hs w ⟨st, rs, ct⟩ hz 23
  unfold hz at hW
  rw [hW]
  clear hW
  refine (unhide CO _).mono ?_
  rintro e w1 ⟨rfl, hb1⟩
  have hA1 := hA.step hb1
  have hR1 := hR.step hb1
  have HT1 := hb.trans (hb1.mono (by omega))
  clear hA hR hb hlt hb1
  have q0 := hA1.c0; have q1 := hA1.c1; have q2 := hA1.c2
  have hl1 := hR1.lt
  dsimp only at q0 q1 q2
  replace hA1 := hide hA1; replace hR1 := hide hR1; replace HT1 := hide HT1
  go_wp2_with fail
  obtain ⟨W2, hW2, hP2, hb2, hl2⟩ := one_hp w1 47 ⟨st, rs, ct⟩
  dsimp only at hW2
  rw [hW2]
  clear hW2
  refine (unhide CX _ _ hP2).mono ?_
  rintro e w3 ⟨rfl, hG3⟩
  have hR2 := (unhide hR1).step hb2
  have hR3 := hR2.kept8 hG3 (by omega)
  have HT2 := (unhide HT1).trans (hb2.mono (unhide HT1).size)
  have HT3 := HT2.trans (pBelow hG3 (B := w.heap.size) (by omega) (fun k hk => by cases hk; omega))
  have hl3 := hR3.lt
  clear hR2 HT2 hb2 hG3 hP2 hA1 hR1 HT1 q0 q1 q2
  have r0 := hR3.frozen 0; have r1 := hR3.frozen 1; have r2 := hR3.frozen 2
  have u0 := hR3.c0; have u1 := hR3.c1; have u2 := hR3.c2
  unfold hz at u0 u1 u2
  have hF := hR3.set3 ⟨bs, br, bc⟩
  dsimp only at hF
  replace hF := hide hF
  have HTF := hide (((HT3.setCell (p := ⟨w.heap.size + 1, 0, none⟩) (Nat.le_succ _) (.string bs)).setCell (p := ⟨w.heap.size + 1, 1, none⟩) (Nat.le_succ _) (.string br)).setCell (p := ⟨w.heap.size + 1, 2, none⟩) (Nat.le_succ _) (.int .i64 bc))
  clear hR3 HT3
  go_wp2_with fail
  generalize ((w3.setCell ⟨w.heap.size + 1, 0, none⟩ (.string bs)).setCell ⟨w.heap.size + 1, 1, none⟩ (.string br)).setCell ⟨w.heap.size + 1, 2, none⟩ (.int .i64 bc) = V at *
  obtain ⟨V2, hV2, _, hbV, _⟩ := one_hash V ⟨bs, br, bc⟩ 23
  dsimp only at hV2
  rw [hV2]
  have hG := (unhide hF).step hbV
  have f0 := hG.c0; have f1 := hG.c1; have f2 := hG.c2
  dsimp only at f0 f1 f2
  refine bodyPost_ret (v := .tuple #[.agg #[.string bs, .string br, .int .i64 bc], .string t, .bool true]) ?_ rfl ⟨rfl, (unhide HTF).trans (hbV.mono (unhide HTF).size)⟩
  simp [results, Try.results15, go_sem, f0, f1, f2]
set_option maxRecDepth 20000 in
set_option maxHeartbeats 1000000 in
theorem implTake_no (a : Hs) (z : Int) (hno : okP a = false ∨ z < 0 ∨ 200 < z ∨ a.ct = 20) (h1 : a.st.size ≤ maxLen) (h2 : a.rs.size ≤ maxLen) (w : World) :
    Calls Try.prog 15 #[hsv a, .int .i64 z] w fun e w' => e = .returned (.tuple #[hsv hz, .string ⟨#[]⟩, .bool false]) ∧ Below w.heap.size w w' := by
  have CO := hide (fun W => implPoolOk_any a h1 h2 W)
  obtain ⟨st, rs, ct⟩ := a
  by_cases c1 : okP ⟨st, rs, ct⟩ = false
  · rw [c1] at CO
    clear hno
    unfold hsv at CO ⊢
    unfold hz
    dsimp only at CO ⊢
    go_enter Try.func15, Try.ntmps15
    go_wp2_with fail
    obtain ⟨W, hW, hA, hR, hb, hlt⟩ := two_hs w ⟨st, rs, ct⟩ hz 23
    unfold hz at hW
    rw [hW]
    clear hW
    refine (unhide CO _).mono ?_
    rintro e w1 ⟨rfl, hb1⟩
    have hA1 := hA.step hb1
    have hR1 := hR.step hb1
    have HT1 := hb.trans (hb1.mono (by omega))
    have q2 := hA1.c2
    have r0 := hR1.frozen 0; have r1 := hR1.frozen 1; have r2 := hR1.frozen 2
    have u0 := hR1.c0; have u1 := hR1.c1; have u2 := hR1.c2
    dsimp only at q2
    unfold hz at u0 u1 u2
    clear hA hR hb hlt hb1
    replace hA1 := hide hA1; replace hR1 := hide hR1; replace HT1 := hide HT1
    have HTF := hide ((((unhide HT1).setCell (p := ⟨w.heap.size + 1, 0, none⟩) (by show w.heap.size ≤ w.heap.size + 1; omega) (.string ⟨#[]⟩)).setCell (p := ⟨w.heap.size + 1, 1, none⟩) (by show w.heap.size ≤ w.heap.size + 1; omega) (.string ⟨#[]⟩)).setCell (p := ⟨w.heap.size + 1, 2, none⟩) (by show w.heap.size ≤ w.heap.size + 1; omega) (.int .i64 0))
    have hF := (unhide hR1).set3 ⟨⟨#[]⟩, ⟨#[]⟩, 0⟩
    have f0 := hF.c0; have f1 := hF.c1; have f2 := hF.c2
    dsimp only at f0 f1 f2
    clear hF
    go_wp2_with fail
    refine bodyPost_ret (v := .tuple #[.agg #[.string ⟨#[]⟩, .string ⟨#[]⟩, .int .i64 0], .string ⟨#[]⟩, .bool false]) ?_ rfl ⟨rfl, unhide HTF⟩
    simp [results, Try.results15, go_sem, f0, f1, f2]
  · have c2 : okP ⟨st, rs, ct⟩ = true := by simpa using c1
    rw [c2] at CO
    by_cases c3 : z < 0
    · clear hno
      unfold hsv at CO ⊢
      unfold hz
      dsimp only at CO ⊢
      go_enter Try.func15, Try.ntmps15
      go_wp2_with fail
      obtain ⟨W, hW, hA, hR, hb, hlt⟩ := two_hs w ⟨st, rs, ct⟩ hz 23
      unfold hz at hW
      rw [hW]
      clear hW
      refine (unhide CO _).mono ?_
      rintro e w1 ⟨rfl, hb1⟩
      have hA1 := hA.step hb1
      have hR1 := hR.step hb1
      have HT1 := hb.trans (hb1.mono (by omega))
      have q2 := hA1.c2
      have r0 := hR1.frozen 0; have r1 := hR1.frozen 1; have r2 := hR1.frozen 2
      have u0 := hR1.c0; have u1 := hR1.c1; have u2 := hR1.c2
      dsimp only at q2
      unfold hz at u0 u1 u2
      clear hA hR hb hlt hb1
      replace hA1 := hide hA1; replace hR1 := hide hR1; replace HT1 := hide HT1
      have HTF := hide ((((unhide HT1).setCell (p := ⟨w.heap.size + 1, 0, none⟩) (by show w.heap.size ≤ w.heap.size + 1; omega) (.string ⟨#[]⟩)).setCell (p := ⟨w.heap.size + 1, 1, none⟩) (by show w.heap.size ≤ w.heap.size + 1; omega) (.string ⟨#[]⟩)).setCell (p := ⟨w.heap.size + 1, 2, none⟩) (by show w.heap.size ≤ w.heap.size + 1; omega) (.int .i64 0))
      have hF := (unhide hR1).set3 ⟨⟨#[]⟩, ⟨#[]⟩, 0⟩
      have f0 := hF.c0; have f1 := hF.c1; have f2 := hF.c2
      dsimp only at f0 f1 f2
      clear hF
      go_wp2_with fail
      refine bodyPost_ret (v := .tuple #[.agg #[.string ⟨#[]⟩, .string ⟨#[]⟩, .int .i64 0], .string ⟨#[]⟩, .bool false]) ?_ rfl ⟨rfl, unhide HTF⟩
      simp [results, Try.results15, go_sem, f0, f1, f2]
    · by_cases c5 : 200 < z
      · clear hno
        unfold hsv at CO ⊢
        unfold hz
        dsimp only at CO ⊢
        go_enter Try.func15, Try.ntmps15
        go_wp2_with fail
        obtain ⟨W, hW, hA, hR, hb, hlt⟩ := two_hs w ⟨st, rs, ct⟩ hz 23
        unfold hz at hW
        rw [hW]
        clear hW
        refine (unhide CO _).mono ?_
        rintro e w1 ⟨rfl, hb1⟩
        have hA1 := hA.step hb1
        have hR1 := hR.step hb1
        have HT1 := hb.trans (hb1.mono (by omega))
        have q2 := hA1.c2
        have r0 := hR1.frozen 0; have r1 := hR1.frozen 1; have r2 := hR1.frozen 2
        have u0 := hR1.c0; have u1 := hR1.c1; have u2 := hR1.c2
        dsimp only at q2
        unfold hz at u0 u1 u2
        clear hA hR hb hlt hb1
        replace hA1 := hide hA1; replace hR1 := hide hR1; replace HT1 := hide HT1
        have HTF := hide ((((unhide HT1).setCell (p := ⟨w.heap.size + 1, 0, none⟩) (by show w.heap.size ≤ w.heap.size + 1; omega) (.string ⟨#[]⟩)).setCell (p := ⟨w.heap.size + 1, 1, none⟩) (by show w.heap.size ≤ w.heap.size + 1; omega) (.string ⟨#[]⟩)).setCell (p := ⟨w.heap.size + 1, 2, none⟩) (by show w.heap.size ≤ w.heap.size + 1; omega) (.int .i64 0))
        have hF := (unhide hR1).set3 ⟨⟨#[]⟩, ⟨#[]⟩, 0⟩
        have f0 := hF.c0; have f1 := hF.c1; have f2 := hF.c2
        dsimp only at f0 f1 f2
        clear hF
        go_wp2_with fail
        refine bodyPost_ret (v := .tuple #[.agg #[.string ⟨#[]⟩, .string ⟨#[]⟩, .int .i64 0], .string ⟨#[]⟩, .bool false]) ?_ rfl ⟨rfl, unhide HTF⟩
        simp [results, Try.results15, go_sem, f0, f1, f2]
      · have c4 : ct = 20 := by
          rcases hno with h | h | h | h
          · exact absurd h c1
          · omega
          · omega
          · exact h
        subst c4
        clear hno
        unfold hsv at CO ⊢
        unfold hz
        dsimp only at CO ⊢
        go_enter Try.func15, Try.ntmps15
        go_wp2_with fail
        obtain ⟨W, hW, hA, hR, hb, hlt⟩ := two_hs w ⟨st, rs, 20⟩ hz 23
        unfold hz at hW
        rw [hW]
        clear hW
        refine (unhide CO _).mono ?_
        rintro e w1 ⟨rfl, hb1⟩
        have hA1 := hA.step hb1
        have hR1 := hR.step hb1
        have HT1 := hb.trans (hb1.mono (by omega))
        have q2 := hA1.c2
        have r0 := hR1.frozen 0; have r1 := hR1.frozen 1; have r2 := hR1.frozen 2
        have u0 := hR1.c0; have u1 := hR1.c1; have u2 := hR1.c2
        dsimp only at q2
        unfold hz at u0 u1 u2
        clear hA hR hb hlt hb1
        replace hA1 := hide hA1; replace hR1 := hide hR1; replace HT1 := hide HT1
        have HTF := hide ((((unhide HT1).setCell (p := ⟨w.heap.size + 1, 0, none⟩) (by show w.heap.size ≤ w.heap.size + 1; omega) (.string ⟨#[]⟩)).setCell (p := ⟨w.heap.size + 1, 1, none⟩) (by show w.heap.size ≤ w.heap.size + 1; omega) (.string ⟨#[]⟩)).setCell (p := ⟨w.heap.size + 1, 2, none⟩) (by show w.heap.size ≤ w.heap.size + 1; omega) (.int .i64 0))
        have hF := (unhide hR1).set3 ⟨⟨#[]⟩, ⟨#[]⟩, 0⟩
        have f0 := hF.c0; have f1 := hF.c1; have f2 := hF.c2
        dsimp only at f0 f1 f2
        clear hF
        go_wp2_with fail
        refine bodyPost_ret (v := .tuple #[.agg #[.string ⟨#[]⟩, .string ⟨#[]⟩, .int .i64 0], .string ⟨#[]⟩, .bool false]) ?_ rfl ⟨rfl, unhide HTF⟩
        simp [results, Try.results15, go_sem, f0, f1, f2]
end Go.Proofs.Ytanianfealalgao
