/- What impl.Unhex comes to, over the loaded program; the law of the two, walked. -/
import Derived.Test.YthoeebdibhdeoaaDoorUnhex
import Derived.Deep.LoopGhost
namespace Go.Proofs.YthoeebdibhdeoaaDoor
open Go.RowKit

set_option maxRecDepth 20000 in
set_option maxHeartbeats 1000000 in
theorem implUnhex_any (s : ByteArray) (w : World) (hs : s.size ≤ 40000) (he : s.size % 2 = 0) :
    Calls Tryd.prog 15 #[.string s] w fun e w' => e = .returned (uhTup (unhexB s.data.toList)) ∧ Below w.heap.size w w' := by
  obtain ⟨i0, hi, hz0, hz1, hz2⟩ := info_parts Tryd.infoBU
  have h0 : ¬ (40000 : Int) < (s.size : Int) := by omega
  have h1 : ((s.size : Int) % 2 == 0) = true := by rw [beq_iff_eq]; omega
  go_enter Tryd.func15, Tryd.ntmps15
  go_wp2
  go_step3
  go_wp2_with (at_make; refine wpList_make_own _ rfl _ _ 22 rfl w.heap.size 5 i0 (.int .u8 0) 1 Tryd.underlying22 hi hz0 hz1 _ _ _ (s.size / 2) rfl rfl (by omega) (by rw [hz2]; omega) (by unfold maxLen; omega) (Nat.le_refl _) ?_; intro w1 hown1 hgrow1)
  have hb1 : Below w.heap.size w w1 := (Below.refl _ _).grown hgrow1 (Nat.le_refl _) (fun k hk => by cases hk)
  have hown0 : OwnB w1 w.heap.size 5 (.slice (some ⟨w.heap.size, 0, none⟩) 0 (s.size / 2)) [] := hown1
  clear hown1 hgrow1
  go_step3
  go_wp2
  go_loopw [4, 5, 6] (fun v th ti wr => ∃ (i j : Nat) (pre : List UInt8), i ≤ s.size ∧ UhAt s j pre ∧ ti = .int .i64 i ∧ OwnB wr w.heap.size 5 v pre ∧ Below w.heap.size w wr ∧ (i = j ∨ (i = j + 1 ∧ ∃ (hj : j < s.size) (a : Nat), halfV s[j].toNat = some a ∧ th = .int .u8 a)))
    (fun _ _ ti _ => s.size - (intOf ti).toNat)
  case atStart => exact ⟨0, 0, [], Nat.zero_le _, UhAt.start s, rfl, hown0, hb1, .inl rfl⟩
  case round =>
    clear hown0 hb1
    obtain ⟨i, j, pre, his, hat, rfl, hown, hb, hcase⟩ := hrel
    have hsz := hb.size
    have hev := hat.even
    have hpl : pre.length ≤ 40000 := by have := hat.len; rcases hcase with h | ⟨h, _⟩ <;> omega
    rcases hcase with rfl | ⟨rfl, hj, a, hv1, rfl⟩
    · by_cases hlt : i < s.size
      · have hlt2 : i + 1 < s.size := by omega
        have hm2 : ((i : Int) % 2 == 0) = true := by rw [beq_iff_eq]; omega
        have hbb : s[i].toNat < 256 := s[i].toNat_lt
        have c1 := fun W => halfByte_any s[i].toNat W hbb
        cases hv1 : halfV s[i].toNat with
        | none =>
          have hfin := hide (hat.fail1 hlt2 hv1)
          rw [hv1] at c1
          simp only [halfT] at c1
          have C1 := hide c1
          clear c1 hv1
          go_wp2_with fail
          refine ((unhide C1) _).mono ?_
          rintro e w' ⟨rfl, rfl⟩
          go_wp2
          try rw [Exit.noGoto_ret]
          go_ret2
          exact ⟨uhTup_none (unhide hfin), hb⟩
        | some a =>
          have ha16 := halfV_lt hv1
          have hv1' := hide hv1
          rw [hv1] at c1
          simp only [halfT] at c1
          have C1 := hide c1
          clear c1 hv1
          go_wp2_with fail
          refine ((unhide C1) _).mono ?_
          rintro e w' ⟨rfl, rfl⟩
          go_wp2
          go_roundw
          case rel => exact ⟨i + 1, i, pre, by omega, hat, by go_num, hown, hb, .inr ⟨rfl, hlt, a, unhide hv1', rfl⟩⟩
          case measure => simp [intOf]; omega
      · have hfin := hide (hat.done (by omega))
        have hc := run_string_owned (P := Tryd.prog) wr 22 9 5 w.heap.size _ _ Tryd.underlying22 Tryd.underlying5 Tryd.underlying9 hown
        go_wp2
        try rw [Exit.noGoto_ret]
        go_ret2
        exact ⟨uhTup_some (unhide hfin), hb⟩
    · have hlt2 : j + 1 < s.size := by omega
      have hlt3 : (j : Int) + 1 < (s.size : Int) := by omega
      have hm2 : (((j : Int) + 1) % 2 == 0) = false := by rw [beq_eq_false_iff_ne]; omega
      have hbb : s[j + 1].toNat < 256 := s[j + 1].toNat_lt
      have ha16 := halfV_lt hv1
      have c1 := fun W => halfByte_any s[j + 1].toNat W hbb
      cases hv2 : halfV s[j + 1].toNat with
      | none =>
        have hfin := hide (hat.fail2 hlt2 hv2)
        rw [hv2] at c1
        simp only [halfT] at c1
        have C1 := hide c1
        clear c1 hv1 hv2
        go_wp2_with fail
        refine ((unhide C1) _).mono ?_
        rintro e w' ⟨rfl, rfl⟩
        go_wp2
        try rw [Exit.noGoto_ret]
        go_ret2
        exact ⟨uhTup_none (unhide hfin), hb⟩
      | some b =>
        have hb16 := halfV_lt hv2
        have hx := hat.next hlt2 hv1 hv2
        rw [hv2] at c1
        simp only [halfT] at c1
        have C1 := hide c1
        clear c1 hv1 hv2
        have hval : (16 : Int) * (a : Int) + (b : Int) = ((byteOf (16 * a + b)).toNat : Int) := by rw [byteOf_toNat (by omega)]; omega
        have HV := hide hval
        clear hval
        go_wp2_with fail
        refine ((unhide C1) _).mono ?_
        rintro e w' ⟨rfl, rfl⟩
        go_wp2_with (at_builtin; refine wpList_append_bytes rfl (.tmp 43) (.tmp 48) 22 rfl w.heap.size w.heap.size 5 i0 Tryd.underlying22 hi hz0 hz1 hz2 _ pre rfl hown _ [byteOf (16 * a + b)] (cs_oneU (unhide HV)) 1 1 rfl rfl (by omega) (Nat.le_refl _) hsz hb ?_; intro v' w1 hown' hb')
        clear hown hb
        go_wp2
        go_roundw
        case rel => exact ⟨j + 1 + 1, j + 2, _, by omega, hx, by go_num, hown', hb', .inl rfl⟩
        case measure => simp [intOf]; omega

end Go.Proofs.YthoeebdibhdeoaaDoor
