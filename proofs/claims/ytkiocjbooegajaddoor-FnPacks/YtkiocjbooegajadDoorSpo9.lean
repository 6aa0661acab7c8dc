/- A drawn text, spoilt, over the loaded program. -/
import Derived.Test.YtkiocjbooegajadDoorDrawT
import Derived.Deep.RegionWith
import Derived.Laws.IdiomStrings
namespace Go.Proofs.YtkiocjbooegajadDoor
open Go.RowKit
theorem cut_h9 (T : ByteArray) (j : Nat) (w : World) (h2 : j ≤ T.size) : (Instr.slice 9 (.string T) none (some (.int .i64 (j : Int))) none).run Tryd.prog w = .ok (.string (T.extract 0 j)) w := by
  rw [run_slice_string_h w 9 T Tryd.underlying9 .i64 (j : Int) (by omega) (by omega)]
  rfl
theorem cut_l9 (T : ByteArray) (i : Nat) (w : World) (h2 : i ≤ T.size) : (Instr.slice 9 (.string T) (some (.int .i64 (i : Int))) none none).run Tryd.prog w = .ok (.string (T.extract i T.size)) w := by
  rw [run_slice_string_l w 9 T Tryd.underlying9 .i64 (i : Int) (by omega) (by omega)]
  rfl
set_option maxRecDepth 20000 in
set_option maxHeartbeats 1000000 in
theorem spoilt9_any {w : World} {base g n c : Nat} {o : Option Addr} (h : Cur w base g o n c) (hn : n ≤ 1048576) (s : ByteArray) (hs : s.size ≤ 1000) :
    Calls Tryd.prog 27 #[.pointer (some ⟨g, 0, none⟩), .string s] w fun e w' => ∃ t : ByteArray, t.size ≤ 1001 ∧ e = .returned (.string t) ∧ Below base w w' := by
  have hlo := h.lo
  have H := hide h
  clear h
  go_enter Tryd.func27, Tryd.ntmps27
  go_wp2_with fail
  refine (l01Below_any (unhide H) hn 12 (by omega) (by omega)).mono ?_
  rintro e w1 ⟨x, hx, rfl, ho1, hc1⟩
  have hb1 := ho1.below hlo
  replace hc1 := hide hc1
  clear ho1 H
  by_cases h0 : x = 0
  · have h0' : (x : Int) = 0 := by omega
    go_wp2_with fail
    refine (l01Text_any (unhide hc1) hn 1 (by omega)).mono ?_
    rintro e w2 ⟨l, hl, rfl, hb2, _⟩
    have HB := hide (hb1.trans hb2)
    clear hb1 hb2
    have hls : (⟨l.toArray⟩ : ByteArray).size = 1 := by show l.toArray.size = 1; simpa using hl
    generalize (⟨l.toArray⟩ : ByteArray) = t1 at *
    go_wp2
    go_ret
    refine ⟨_, ?_, rfl, unhide HB⟩
    rw [ByteArray.size_append]; omega
  · have h0' : ¬ (x : Int) = 0 := by omega
    by_cases h1 : x = 1
    · have h1' : (x : Int) = 1 := by omega
      obtain ⟨m, hm⟩ : ∃ m, m = s.size + 1 := ⟨_, rfl⟩
      have em : IntKind.i64.wrap ((s.size : Int) + 1) = (m : Int) := by rw [IntKind.wrap_i64]; omega
      have C := hide (l01Below_any (unhide hc1) hn m (by omega) (by omega))
      replace hm := hide hm
      go_wp2_with fail
      refine (unhide C).mono ?_
      rintro e w2 ⟨y, hy, rfl, ho2, _⟩
      have HB := hide (hb1.trans (ho2.below hlo))
      have hys : y ≤ s.size := by have := unhide hm; omega
      have hsl := cut_h9 s y w2 hys
      have hxs : (s.extract 0 y).size = y := by rw [ByteArray.size_extract]; omega
      clear hb1 ho2
      have hys' : (y : Int) ≤ (s.size : Int) := by omega
      go_wp2
      go_ret
      exact ⟨_, by rw [hxs]; omega, rfl, unhide HB⟩
    · have h1' : ¬ (x : Int) = 1 := by omega
      by_cases h23 : x = 2 ∨ x = 3
      · by_cases hz : 0 < s.size
        · have hz' : (0 : Int) < (s.size : Int) := by omega
          have C := hide (l01Below_any (unhide hc1) hn s.size (by omega) (by omega))
          have key : ∀ X : Int, (X = 2 ∨ X = 3) → X = (x : Int) → True := fun _ _ _ => trivial
          clear key
          rcases h23 with rfl | rfl
          all_goals (
            go_wp2_with fail
            refine (unhide C).mono ?_
            rintro e w2 ⟨i, hi, rfl, ho2, hc2⟩
            have hb2 := hb1.trans (ho2.below hlo)
            obtain ⟨j, hj⟩ : ∃ j, j = i + 1 := ⟨_, rfl⟩
            have ej : IntKind.i64.wrap ((i : Int) + 1) = (j : Int) := by rw [IntKind.wrap_i64]; omega
            have hi' : (i : Int) ≤ (s.size : Int) := by omega
            have hj' : (j : Int) ≤ (s.size : Int) := by omega
            have hsl1 := fun V => cut_h9 s i V (by omega)
            have hsl2 := fun V => cut_l9 s j V (by omega)
            have hx1 : (s.extract 0 i).size = i := by rw [ByteArray.size_extract]; omega
            have hx2 : (s.extract j s.size).size = s.size - j := by rw [ByteArray.size_extract]; omega
            have hc2d := hide (hc2.below ((Below.refl w2.heap.size w2).drew) hc2.lt)
            clear hc2
            replace hj := hide hj
            replace hb2 := hide hb2
            clear ho2 hb1
            go_wp2
            go_region_with (first | (go_at_call 32; refine (l01Text_any (unhide hc2d) hn 1 (by omega)).mono ?_; rintro e w3 ⟨l, hl, rfl, hb3, _⟩; have hls : (⟨l.toArray⟩ : ByteArray).size = 1 := by (show l.toArray.size = 1; simpa using hl)))
            all_goals (
              have HB := hide ((unhide hb2).drew.trans hb3)
              clear hb3
              go_wp2
              go_ret
              refine ⟨_, ?_, rfl, unhide HB⟩
              rw [ByteArray.size_append, ByteArray.size_append, hx1, hx2, hls]
              have := unhide hj
              omega))
        · have hz' : ¬ (0 : Int) < (s.size : Int) := by omega
          rcases h23 with rfl | rfl
          all_goals (
            replace hb1 := hide hb1
            go_wp2
            go_ret
            exact ⟨s, by omega, rfl, unhide hb1⟩)
      · have h2' : ¬ (x : Int) = 2 := by omega
        have h3' : ¬ (x : Int) = 3 := by omega
        replace hb1 := hide hb1
        go_wp2
        go_ret
        exact ⟨s, by omega, rfl, unhide hb1⟩
end Go.Proofs.YtkiocjbooegajadDoor
