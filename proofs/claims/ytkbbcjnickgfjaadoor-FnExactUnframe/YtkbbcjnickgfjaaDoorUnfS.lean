/- What spec.Unframe comes to: the records of the frames that a file begins with, and the place behind the last. -/
import Derived.Test.YtkbbcjnickgfjaaDoorUnfU
import Derived.Test.YtkbbcjnickgfjaaDoorReadVarS
namespace Go.Proofs.YtkbbcjnickgfjaaDoor
open Go.RowKit

theorem made_nilS (w : World) (base : Nat) (hb : base ≤ w.heap.size) : OwnV (w.alloc (.cells #[] 9)) base 9 (.slice (some ⟨w.heap.size, 0, none⟩) 0 0) [] :=
  World.ownsRow_made w #[] 0 hb (by decide) (by simp)

/-- Where the reading stands: the records so far, and the place behind them. -/
structure UnfAt (s : ByteArray) (p : Nat) (pre : List (ByteArray × Nat)) : Prop where
  le : p ≤ s.size
  all : frs s 0 = pre ++ frs s p
  last : lastEnd 0 pre = p
  few : pre.length ≤ p
theorem UnfAt.start (s : ByteArray) : UnfAt s 0 [] := ⟨Nat.zero_le _, rfl, rfl, Nat.le_refl _⟩
theorem UnfAt.next {s : ByteArray} {p b e : Nat} {pre : List (ByteArray × Nat)} (h : UnfAt s p pre) (hf : frAt s p = some (b, e)) : UnfAt s e (pre ++ [(s.extract b e, e)]) := by
  obtain ⟨h1, h2, h3, h4, h5⟩ := frAt_some h.le hf
  refine ⟨h3, ?_, ?_, ?_⟩
  · rw [h.all, frs_some h.le hf]; simp
  · rw [lastEnd_snoc]
  · have := h.few; simp only [List.length_append, List.length_singleton]; omega
theorem UnfAt.done {s : ByteArray} {p : Nat} {pre : List (ByteArray × Nat)} (h : UnfAt s p pre) (hf : frAt s p = none) : pre = frs s 0 ∧ p = lastEnd 0 (frs s 0) := by
  have h1 := h.all
  rw [frs_none hf, List.append_nil] at h1
  rw [h1]
  exact ⟨rfl, h.last.symm⟩

/-- What a call of Unframe leaves. -/
def UfEnd (l : List (ByteArray × Nat)) (w : World) (e : Ending) (w' : World) : Prop := ∃ v, e = .returned (.tuple #[v, .int .i64 (lastEnd 0 l : Int)]) ∧ OwnV w' w.heap.size 9 v (l.map recV) ∧ Below w.heap.size w w'

theorem UfEnd.of {s : ByteArray} {p : Nat} {pre : List (ByteArray × Nat)} {w w' : World} {v : Value} (h : UnfAt s p pre) (hf : frAt s p = none) (ho : OwnV w' w.heap.size 9 v (pre.map recV)) (hb : Below w.heap.size w w') :
    UfEnd (frs s 0) w (.returned (.tuple #[v, .int .i64 (p : Int)])) w' := by
  obtain ⟨h1, h2⟩ := h.done hf
  rw [h1] at ho
  exact ⟨v, by rw [← h2], ho, hb⟩

set_option maxRecDepth 20000 in
set_option maxHeartbeats 2000000 in
theorem specUnframe_yes (s : ByteArray) (w : World) (hs : s.size ≤ 20000) :
    Calls Tryd.prog 11 #[.string s] w fun e w' => UfEnd (frs s 0) w e w' := by
  obtain ⟨i0, hi, hz0, hz1, hz2⟩ := info_parts infoStr
  have hs' : ¬ (20000 : Int) < (s.size : Int) := by omega
  go_enter Tryd.func11, Tryd.ntmps11
  go_wp2
  go_loopw [4, 5] (fun v tp wr => ∃ (p : Nat) (pre : List (ByteArray × Nat)), tp = .int .i64 p ∧ OwnV wr w.heap.size 9 v (pre.map recV) ∧ Below w.heap.size w wr ∧ Hid (UnfAt s p pre))
    (fun _ tp _ => s.size - (intOf tp).toNat)
  case atStart => exact ⟨0, [], rfl, made_nilS w _ (Nat.le_refl _), (Below.refl _ _).alloc (Nat.le_refl _) _, UnfAt.start s⟩
  case round =>
    obtain ⟨p, pre, rfl, hown, hb, HU⟩ := hrel
    have hp := (unhide HU).le
    have hfew := (unhide HU).few
    have hsz := hb.size
    by_cases hlt : p < s.size
    · have CR := hide (specReadVar_yes s p wr (by omega) hp)
      cases hrv : rvRun s p p 1 0 with
      | none =>
        rw [hrv] at CR
        unfold rvTup at CR
        have HF := hide (frAt_none hrv)
        clear hrv
        replace hown := hide hown
        go_wp2_with (go_at_call 26; refine (unhide CR).mono ?_; rintro e w1 ⟨rfl, hb1⟩)
        go_ret2
        exact UfEnd.of (unhide HU) (unhide HF) ((unhide hown).below hb1) (hb.trans (hb1.mono hsz))
      | some r =>
        obtain ⟨n, j⟩ := r
        rw [hrv] at CR
        unfold rvTup at CR
        obtain ⟨q1, q2, q3, q4, _⟩ := rvRun_own hp hrv
        have HRV := hide hrv
        clear hrv
        by_cases c1 : (s.size : Int) - (j : Int) - 4 < (n : Int)
        · have HF := hide (frAt_no (unhide HRV) (fun hw => by obtain ⟨w1, w2, w3, _⟩ := hw; omega))
          replace hown := hide hown
          go_wp2_with (go_at_call 26; refine (unhide CR).mono ?_; rintro e w1 ⟨rfl, hb1⟩)
          go_ret2
          exact UfEnd.of (unhide HU) (unhide HF) ((unhide hown).below hb1) (hb.trans (hb1.mono hsz))
        · obtain ⟨b0, hb0⟩ : ∃ b0 : Nat, (j : Int) + 4 = (b0 : Int) := ⟨j + 4, by omega⟩
          obtain ⟨e0, he0⟩ : ∃ e0 : Nat, (b0 : Int) + (n : Int) = (e0 : Int) := ⟨b0 + n, by omega⟩
          have hb0n : b0 = j + 4 := by omega
          have he0n : e0 = j + 4 + n := by omega
          have HB0 := hide hb0n
          have HE0 := hide he0n
          clear hb0n he0n
          obtain ⟨a, ha⟩ : ∃ a, s.extract b0 e0 = a := ⟨_, rfl⟩
          obtain ⟨d, hd⟩ : ∃ d, s.extract p e0 = d := ⟨_, rfl⟩
          have CF : Hid (∀ W, Calls Tryd.prog 27 #[.string a] W fun e w' => e = .returned (frameRes a) ∧ Below W.heap.size W w') := fun W => specFrame_any a W
          have hsa : a.size = n := by rw [← ha, ByteArray.size_extract]; omega
          have HSA := hide hsa
          clear hsa
          have g4 : (0 : Int) ≤ (b0 : Int) := by omega
          have g5 : (b0 : Int) ≤ (e0 : Int) := by omega
          have g6 : (e0 : Int) ≤ (s.size : Int) := by omega
          have g7 : (0 : Int) ≤ (p : Int) := by omega
          have g8 : (p : Int) ≤ (e0 : Int) := by omega
          by_cases c2 : 1 ≤ n ∧ n ≤ 9000
          · have ht := frame_test s p n j hp (unhide HRV) (by have := unhide HB0; have := unhide HE0; omega)
            rw [← unhide HE0, ← unhide HB0, ha, hd] at ht
            by_cases c3 : frameB a = d
            · have hwh : wholeAt s n j := ⟨c2.1, c2.2, by have := unhide HE0; omega, by rw [← unhide HE0, ← unhide HB0, ha]; exact ht.1 c3⟩
              have HF := hide (frAt_yes (unhide HRV) hwh)
              rw [← unhide HE0, ← unhide HB0] at HF
              have HN := hide ((unhide HU).next (unhide HF))
              rw [ha] at HN
              have CF2 : Hid (∀ W, Calls Tryd.prog 27 #[.string a] W fun e w' => e = .returned (.tuple #[.string d, .bool true]) ∧ Below W.heap.size W w') := by
                intro W
                have := (unhide CF) W
                unfold frameRes at this
                rw [if_pos (by have := unhide HSA; omega), c3] at this
                exact this
              clear ht c3 hwh CF
              have hown0 := hide hown
              clear hown
              go_wp2_with (first
                | (go_at_call 26; refine (unhide CR).mono ?_; rintro e w1 ⟨rfl, hb1⟩)
                | (go_at_call 27; refine ((unhide CF2) _).mono ?_; rintro e w2 ⟨rfl, hb2⟩; have hown2 := ((unhide hown0).below hb1).below hb2; have hbb2 := hb.trans ((hb1.trans (hb2.mono hb1.size)).mono hsz); have hsz2 := hbb2.size)
                | (at_builtin; refine wpList_append_vals rfl (.tmp 69) (.tmp 71) 27 rfl w.heap.size w.heap.size 9 i0 _ 16 Tryd.underlying27 hi hz0 hz1 hz2 rfl _ (pre.map recV) rfl hown2 _ [.string a] rfl (by intro u hu; simp only [List.mem_singleton] at hu; subst hu; rfl) 1 1 rfl rfl (by rw [List.length_map]; unfold maxLen; omega) (by rw [List.length_map]; omega) (Nat.le_refl _) hsz2 hbb2 ?_; intro v' w3 hown' hb'))
              go_roundw
              case rel => exact ⟨e0, pre ++ [(a, e0)], by go_num, by rw [List.map_append]; exact hown', hb', HN⟩
              case measure => simp [intOf]; omega
            · have hwh : ¬ wholeAt s n j := fun hw => c3 (ht.2 (by rw [← ha, unhide HE0, unhide HB0]; exact hw.2.2.2))
              have HF := hide (frAt_no (unhide HRV) hwh)
              have hne : ((frameB a).toList == d.toList) = false := bytes_ne' c3
              have CF2 : Hid (∀ W, Calls Tryd.prog 27 #[.string a] W fun e w' => e = .returned (.tuple #[.string (frameB a), .bool true]) ∧ Below W.heap.size W w') := by
                intro W
                have := (unhide CF) W
                unfold frameRes at this
                rw [if_pos (by have := unhide HSA; omega)] at this
                exact this
              generalize frameB a = fb at CF2 hne
              clear ht c3 hwh CF
              replace hown := hide hown
              go_wp2_with (first
                | (go_at_call 26; refine (unhide CR).mono ?_; rintro e w1 ⟨rfl, hb1⟩)
                | (go_at_call 27; refine ((unhide CF2) _).mono ?_; rintro e w2 ⟨rfl, hb2⟩))
              go_ret2
              exact UfEnd.of (unhide HU) (unhide HF) (((unhide hown).below hb1).below hb2) (hb.trans ((hb1.trans (hb2.mono hb1.size)).mono hsz))
          · have HF := hide (frAt_no (unhide HRV) (fun hw => c2 ⟨hw.1, hw.2.1⟩))
            have CF2 : Hid (∀ W, Calls Tryd.prog 27 #[.string a] W fun e w' => e = .returned (.tuple #[.string ⟨#[]⟩, .bool false]) ∧ Below W.heap.size W w') := by
              intro W
              have := (unhide CF) W
              unfold frameRes at this
              rw [if_neg (by have := unhide HSA; omega)] at this
              exact this
            clear CF
            replace hown := hide hown
            go_wp2_with (first
              | (go_at_call 26; refine (unhide CR).mono ?_; rintro e w1 ⟨rfl, hb1⟩)
              | (go_at_call 27; refine ((unhide CF2) _).mono ?_; rintro e w2 ⟨rfl, hb2⟩))
            go_ret2
            exact UfEnd.of (unhide HU) (unhide HF) (((unhide hown).below hb1).below hb2) (hb.trans ((hb1.trans (hb2.mono hb1.size)).mono hsz))
    · have HF := hide (frAt_end (s := s) (p := p) (by omega))
      replace hown := hide hown
      go_wp2
      go_ret2
      exact UfEnd.of (unhide HU) (unhide HF) (unhide hown) hb

set_option maxHeartbeats 400000 in
theorem specUnframe_no (s : ByteArray) (w : World) (hs : (20000 : Int) < (s.size : Int)) :
    Calls Tryd.prog 11 #[.string s] w fun e w' => UfEnd [] w e w' := by
  go_enter Tryd.func11, Tryd.ntmps11
  go_wp2
  go_ret2
  exact ⟨_, rfl, made_nilS w _ (Nat.le_refl _), (Below.refl _ _).alloc (Nat.le_refl _) _⟩

theorem specUnframe_any (s : ByteArray) (w : World) :
    Calls Tryd.prog 11 #[.string s] w fun e w' => UfEnd (unfL s) w e w' := by
  unfold unfL
  by_cases hs : s.size ≤ 20000
  · rw [if_pos hs]; exact specUnframe_yes s w hs
  · rw [if_neg hs]; exact specUnframe_no s w (by omega)
end Go.Proofs.YtkbbcjnickgfjaaDoor
