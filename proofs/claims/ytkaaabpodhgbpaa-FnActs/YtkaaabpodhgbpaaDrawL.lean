/- What spec.l03Left and spec.l01Place come to: some numbers. -/
import Derived.Test.YtkaaabpodhgbpaaDrawA
import Derived.Test.YtkaaabpodhgbpaaDrawPR
namespace Go.Proofs.Ytkaaabpodhgbpaa
open Go.RowKit

theorem nums10b (w : World) (T : TypeId) : Nums (w.alloc (.cells #[.int .i64 0, .int .i64 1, .int .i64 2, .int .i64 3, .int .i64 5, .int .i64 9, .int .i64 40, .int .i64 200, .int .i64 (-1), .int .i64 9223372036854775807] T)) w.heap.size 10 := by
  intro j hj
  rw [cell_of_row _ w.heap.size j _ T (0, 0) (heap_alloc_new w _)]
  match j, hj with
  | 0, _ => exact ⟨_, by decide, by decide, rfl⟩
  | 1, _ => exact ⟨_, by decide, by decide, rfl⟩
  | 2, _ => exact ⟨_, by decide, by decide, rfl⟩
  | 3, _ => exact ⟨_, by decide, by decide, rfl⟩
  | 4, _ => exact ⟨_, by decide, by decide, rfl⟩
  | 5, _ => exact ⟨_, by decide, by decide, rfl⟩
  | 6, _ => exact ⟨_, by decide, by decide, rfl⟩
  | 7, _ => exact ⟨_, by decide, by decide, rfl⟩
  | 8, _ => exact ⟨_, by decide, by decide, rfl⟩
  | 9, _ => exact ⟨_, by decide, by decide, rfl⟩
  | j + 10, hj => exact absurd hj (by omega)
theorem nums5 (w : World) (T : TypeId) (a b : Int) (ha : -9223372036854775808 ≤ a ∧ a ≤ 9223372036854775807) (hb : -9223372036854775808 ≤ b ∧ b ≤ 9223372036854775807) : Nums (w.alloc (.cells #[.int .i64 (-1), .int .i64 a, .int .i64 b, .int .i64 9223372036854775807, .int .i64 (-9223372036854775808)] T)) w.heap.size 5 := by
  intro j hj
  rw [cell_of_row _ w.heap.size j _ T (0, 0) (heap_alloc_new w _)]
  match j, hj with
  | 0, _ => exact ⟨_, by decide, by decide, rfl⟩
  | 1, _ => exact ⟨a, ha.1, ha.2, rfl⟩
  | 2, _ => exact ⟨b, hb.1, hb.2, rfl⟩
  | 3, _ => exact ⟨_, by decide, by decide, rfl⟩
  | 4, _ => exact ⟨_, by decide, by decide, rfl⟩
  | j + 5, hj => exact absurd hj (by omega)

set_option maxRecDepth 20000 in
set_option maxHeartbeats 1000000 in
theorem l01Place_any {w : World} {base g n c : Nat} {o : Option Addr} (h : Cur w base g o n c) (hn : n ≤ 1048576) (m : Nat) (hm : 0 < m) (hm2 : m ≤ 1000000) :
    Calls Try.prog 32 #[.pointer (some ⟨g, 0, none⟩), .int .i64 (m : Int)] w fun e w' => ∃ z : Int, e = .returned (.int .i64 z) ∧ w.grownBy w' (some g) ∧ Cur w' base g o n c := by
  have hg := h.lt
  have H := hide h
  clear h
  go_enter Try.func32, Try.ntmps32
  go_wp2_with fail
  go_at_call 49
  refine (l01Once_any (unhide H) hn 15 (by decide) (by decide)).mono ?_
  rintro e w1 ⟨b, rfl, ho1, hc1⟩
  have G1 := hide (gO ho1)
  have s1 : w.heap.size ≤ w1.heap.size := by rw [ho1.size]; exact Nat.le_refl _
  replace hc1 := hide hc1
  clear ho1
  cases b with
  | true =>
    go_wp2_with fail
    go_at_call 45
    refine (l01PickInt_any ((unhide hc1).below ((Below.refl w1.heap.size w1).alloc (Nat.le_refl _) _) (by omega)) hn w1.heap.size 5 5 (by decide) (by decide) (nums5 w1 _ (m : Int) ((m : Int) + 1) (by omega) (by omega)) (by omega)).mono ?_
    rintro e w2 ⟨z, _, _, rfl, ho2, hc2⟩
    have G2 := hide (gT (unhide G1) (gT (gB ((Below.refl w1.heap.size w1).alloc (Nat.le_refl _) _) (some g)) (gO ho2)))
    replace hc2 := hide hc2
    replace ho2 := hide ho2
    go_wp2
    go_ret
    exact ⟨z, rfl, unhide G2, unhide hc2⟩
  | false =>
    go_wp2_with fail
    go_at_call 22
    refine (l01Below_any (unhide hc1) hn m hm (by omega)).mono ?_
    rintro e w2 ⟨x, hx, rfl, ho2, hc2⟩
    have G2 := hide (gT (unhide G1) (gO ho2))
    replace hc2 := hide hc2
    replace ho2 := hide ho2
    go_wp2
    go_ret
    exact ⟨(x : Int), rfl, unhide G2, unhide hc2⟩
set_option maxRecDepth 20000 in
set_option maxHeartbeats 2000000 in
theorem l03Left_any {w : World} {base g n c : Nat} {o : Option Addr} (h : Cur w base g o n c) (hn : n ≤ 1048576) :
    Calls Try.prog 33 #[.pointer (some ⟨g, 0, none⟩)] w fun e w' => ∃ (is : List Int) (v : Value), is.length ≤ 6 ∧ e = .returned v ∧ OwnV w' w.heap.size 3 v (is.map iv) ∧ w.grownBy w' (some g) ∧ Cur w' base g o n c := by
  obtain ⟨i0, hi, hz0, hz1, hz2⟩ := info_parts Try.infoIC
  have hg := h.lt
  have H := hide h
  clear h
  go_enter Try.func33, Try.ntmps33
  go_wp2
  go_loopw [3, 4] (fun v ti wr => ∃ (k : Nat) (is : List Int), k ≤ 6 ∧ is.length = k ∧ ti = .int .i64 (k : Int) ∧ OwnV wr w.heap.size 3 v (is.map iv) ∧ w.grownBy wr (some g) ∧ Hid (Cur wr base g o n c))
    (fun _ ti _ => 6 - (intOf ti).toNat)
  case atStart => exact ⟨0, [], Nat.zero_le _, rfl, rfl, World.ownsRow_made w #[] 0 (Nat.le_refl _) (by decide) (by simp), gB ((Below.refl w.heap.size w).alloc (Nat.le_refl _) _) _, (unhide H).below ((Below.refl w.heap.size w).alloc (Nat.le_refl _) _) hg⟩
  case round =>
    obtain ⟨k, is, hk, hil, rfl, hown, hgr, HC⟩ := hrel
    have hs := hgr.size
    replace hown := hide hown
    replace hgr := hide hgr
    go_wp2_with fail
    go_at_call 22
    refine (l01Below_any (unhide HC) hn 6 (by decide) (by decide)).mono ?_
    rintro e w2 ⟨x, hx, rfl, ho2, hc2⟩
    have hown2 := hide ((unhide hown).grown (gO ho2) (fun k hk => by have := ((unhide hown).lt k hk).1; simp; omega))
    have G2 := hide (gT (unhide hgr) (gO ho2))
    have s2 : wr.heap.size ≤ w2.heap.size := by rw [ho2.size]; exact Nat.le_refl _
    replace hc2 := hide hc2
    replace ho2 := hide ho2
    by_cases hkx : (k : Int) < (x : Int)
    · go_wp2_with fail
      go_at_call 45
      refine (l01PickInt_any ((unhide hc2).below ((Below.refl w2.heap.size w2).alloc (Nat.le_refl _) _) (by omega)) hn w2.heap.size 10 10 (by decide) (by decide) (nums10b w2 _) (by omega)).mono ?_
      rintro e w3 ⟨z, _, _, rfl, ho3, hc3⟩
      have g3 := gT (gB ((Below.refl w2.heap.size w2).alloc (Nat.le_refl _) (.cells #[.int .i64 0, .int .i64 1, .int .i64 2, .int .i64 3, .int .i64 5, .int .i64 9, .int .i64 40, .int .i64 200, .int .i64 (-1), .int .i64 9223372036854775807] 3)) (some g)) (gO ho3)
      have hown3 := (unhide hown2).grown g3 (fun k hk => by have := ((unhide hown2).lt k hk).1; simp; omega)
      have G3 := hide (gT (unhide G2) g3)
      have s3 : w2.heap.size ≤ w3.heap.size := g3.size
      replace hc3 := hide hc3
      replace ho3 := hide ho3
      replace g3 := hide g3
      go_wp2_with (at_builtin; refine wpList_append_vals rfl (.tmp 12) (.tmp 16) 28 rfl w.heap.size w.heap.size 3 i0 (.int .i64 0) 8 Try.underlying28 hi hz0 hz1 hz2 rfl _ (is.map iv) rfl hown3 _ [.int .i64 z] rfl (by intro u hu; simp only [List.mem_singleton] at hu; subst hu; rfl) 1 1 rfl rfl (by rw [List.length_map]; unfold maxLen; omega) (by rw [List.length_map]; omega) (Nat.le_refl _) (by omega) (Below.refl _ w3) ?_; intro v' w4 hown' hb4)
      have G4 := hide (gTB (unhide G3) hb4)
      have hc4 := hide ((unhide hc3).below hb4 hg)
      replace hb4 := hide hb4
      replace hown3 := hide hown3
      go_wp2
      go_roundw
      case rel => exact ⟨k + 1, is ++ [z], by omega, by simp [hil], by go_num, by rw [List.map_append]; exact hown', unhide G4, hc4⟩
      case measure => simp [intOf]; omega
    · go_wp2
      go_ret
      exact ⟨is, _, by omega, rfl, unhide hown2, unhide G2, unhide hc2⟩
end Go.Proofs.Ytkaaabpodhgbpaa
