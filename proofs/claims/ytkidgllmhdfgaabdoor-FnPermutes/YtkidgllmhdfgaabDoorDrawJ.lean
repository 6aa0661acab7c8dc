/- The draws of chapter 7 by contracts, over the loaded program. -/
import Derived.Test.YtkidgllmhdfgaabDoorDrawH
namespace Go.Proofs.YtkidgllmhdfgaabDoor
open Go.RowKit
theorem nums11 (w : World) (T : TypeId) : ∀ j, j < 11 → ∃ z, (w.alloc (.cells #[.int .i64 0, .int .i64 3, .int .i64 130, .int .i64 131, .int .i64 132, .int .i64 133, .int .i64 163, .int .i64 164, .int .i64 165, .int .i64 166, .int .i64 300] T)).cell? ⟨w.heap.size, j, none⟩ = some (.int .i64 z) ∧ (0 ≤ z ∧ z ≤ 300) := by
  intro j hj
  rw [cell_of_row _ w.heap.size j _ T (0, 0) (heap_alloc_new w _)]
  match j, hj with
  | 0, _ => exact ⟨0, rfl, by decide⟩
  | 1, _ => exact ⟨3, rfl, by decide⟩
  | 2, _ => exact ⟨130, rfl, by decide⟩
  | 3, _ => exact ⟨131, rfl, by decide⟩
  | 4, _ => exact ⟨132, rfl, by decide⟩
  | 5, _ => exact ⟨133, rfl, by decide⟩
  | 6, _ => exact ⟨163, rfl, by decide⟩
  | 7, _ => exact ⟨164, rfl, by decide⟩
  | 8, _ => exact ⟨165, rfl, by decide⟩
  | 9, _ => exact ⟨166, rfl, by decide⟩
  | 10, _ => exact ⟨300, rfl, by decide⟩
  | j + 11, hj => exact absurd hj (by omega)
set_option maxRecDepth 20000 in
set_option maxHeartbeats 400000 in
theorem l07Text_any {w : World} {base g n c : Nat} {o : Option Addr} (h : Cur w base g o n c) (hn : n ≤ 1048576) :
    Calls Tryd.prog 20 #[.pointer (some ⟨g, 0, none⟩)] w fun e w' => ∃ s : ByteArray, s.size ≤ 400 ∧ e = .returned (.string s) ∧ Below base w w' ∧ Cur w' base g o n c := by
  have hlo := h.lo
  have hgl := h.lt
  have H1 := hide (h.below ((Below.refl w.heap.size w).alloc (Nat.le_refl _) (.cells #[.int .i64 0, .int .i64 3, .int .i64 130, .int .i64 131, .int .i64 132, .int .i64 133, .int .i64 163, .int .i64 164, .int .i64 165, .int .i64 166, .int .i64 300] 3)) hgl)
  have HN := hide (nums11 w 3)
  have hb1 : Below base w (w.alloc (.cells #[.int .i64 0, .int .i64 3, .int .i64 130, .int .i64 131, .int .i64 132, .int .i64 133, .int .i64 163, .int .i64 164, .int .i64 165, .int .i64 166, .int .i64 300] 3)) := (Below.refl base w).alloc (by omega) _
  have hne : w.heap.size ≠ g := by omega
  clear h
  go_enter Tryd.func20, Tryd.ntmps20
  go_wp2_with fail
  generalize w.alloc (.cells #[.int .i64 0, .int .i64 3, .int .i64 130, .int .i64 131, .int .i64 132, .int .i64 133, .int .i64 163, .int .i64 164, .int .i64 165, .int .i64 166, .int .i64 300] 3) = w1 at *
  refine (l01PickP_any (fun z => 0 ≤ z ∧ z ≤ 300) (unhide H1) hn w.heap.size 11 11 (by omega) (by omega) (unhide HN) hne).mono ?_
  rintro e w2 ⟨z, ⟨hz0, hz1⟩, rfl, ho2, hc2⟩
  obtain ⟨m, rfl⟩ : ∃ m : Nat, z = (m : Int) := ⟨z.toNat, by omega⟩
  have hb2 := hb1.trans (ho2.below hlo)
  replace hc2 := hide hc2
  clear hb1 ho2 H1 HN
  go_wp2_with fail
  refine (l01Below_any (unhide hc2) hn 6 (by omega) (by omega)).mono ?_
  rintro e w3 ⟨x, hx, rfl, ho3, hc3⟩
  have hb3 := hb2.trans (ho3.below hlo)
  replace hc3 := hide hc3
  clear hb2 ho3 hc2
  go_wp2_with fail
  refine (l01Text_any (unhide hc3) hn x (by omega)).mono ?_
  rintro e w4 ⟨l, hl, rfl, hb34, hc4⟩
  have hb4 := hb3.trans hb34
  replace hc4 := hide hc4
  clear hb3 hb34 hc3
  go_wp2_with fail
  refine (l01Below_any (unhide hc4) hn 20 (by omega) (by omega)).mono ?_
  rintro e w5 ⟨y, hy, rfl, ho5, hc5⟩
  have hb5 := hb4.trans (ho5.below hlo)
  clear hb4 ho5 hc4
  have hgl5 := hc5.lt
  replace hc5 := hide hc5
  obtain ⟨y2, hy2⟩ : ∃ y2, y2 = 65 + y := ⟨_, rfl⟩
  have ey : IntKind.i64.wrap (65 + (y : Int)) = (y2 : Int) := by rw [IntKind.wrap_i64]; omega
  have ey2 : IntKind.u8.wrap (y2 : Int) = (y2 : Int) := by rw [IntKind.wrap_u8]; omega
  have hyl : y2 < 256 := by omega
  replace hy2 := hide hy2
  go_wp2_with fail
  refine (l01Long0_any m y2 w5 (by omega) hyl).mono ?_
  rintro e w6 ⟨l2, hl2, rfl, hb56⟩
  have hc6 := (unhide hc5).below hb56 hgl5
  have hb6 := hb5.trans (hb56.mono (by omega))
  clear hb5 hb56 hc5
  go_wp2
  go_ret
  refine ⟨_, ?_, rfl, hb6, hc6⟩
  rw [ByteArray.size_append]
  show l.length + l2.length ≤ 400
  omega
set_option maxRecDepth 20000 in
set_option maxHeartbeats 400000 in
theorem drawSha3_any (w : World) (o : Option Addr) (n c : Nat) (hs : Src w w.heap.size o n) (hn : n ≤ 1048576) :
    Calls Tryd.prog 17 #[.slice o n c] w fun e w' => ∃ s : ByteArray, s.size ≤ 400 ∧ e = .returned (.string s) ∧ Below w.heap.size w w' := by
  have HS := hide hs
  clear hs
  go_enter Tryd.func17, Tryd.ntmps17
  go_wp2_with fail
  refine (l01New_any w o n c (unhide HS) hn).mono ?_
  rintro e w1 ⟨rfl, hb1, hc1⟩
  replace hc1 := hide hc1
  go_wp2_with fail
  refine (l07Text_any (unhide hc1) hn).mono ?_
  rintro e w2 ⟨s, hs2, rfl, hb2, _⟩
  have hb12 := hb1.trans hb2
  clear hb1 hb2 hc1
  go_wp2
  go_ret
  exact ⟨s, hs2, rfl, hb12⟩
set_option maxRecDepth 20000 in
set_option maxHeartbeats 400000 in
theorem drawStreamNew_any (w : World) (o : Option Addr) (n c : Nat) (hs : Src w w.heap.size o n) (hn : n ≤ 1048576) :
    Calls Tryd.prog 7 #[.slice o n c] w fun e w' => ∃ s : ByteArray, s.size ≤ 400 ∧ e = .returned (.string s) ∧ Below w.heap.size w w' := by
  have HS := hide hs
  clear hs
  go_enter Tryd.func7, Tryd.ntmps7
  go_wp2_with fail
  refine (l01New_any w o n c (unhide HS) hn).mono ?_
  rintro e w1 ⟨rfl, hb1, hc1⟩
  replace hc1 := hide hc1
  go_wp2_with fail
  refine (l07Text_any (unhide hc1) hn).mono ?_
  rintro e w2 ⟨s, hs2, rfl, hb2, _⟩
  have hb12 := hb1.trans hb2
  clear hb1 hb2 hc1
  go_wp2
  go_ret
  exact ⟨s, hs2, rfl, hb12⟩
end Go.Proofs.YtkidgllmhdfgaabDoor
