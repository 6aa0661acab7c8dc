/- Draws of a seed and two places, over the loaded program. -/
import Derived.Test.YtfjfjiolmadbaaeDrawH
import Derived.Test.YtfjfjiolmadbaaeDrawY
namespace Go.Proofs.Ytfjfjiolmadbaae
open Go.RowKit
theorem nums5v (w : World) (T : TypeId) (a b : Int) (ha : -9223372036854775808 ≤ a ∧ a ≤ 9223372036854775807) (hb : -9223372036854775808 ≤ b ∧ b ≤ 9223372036854775807) : Nums (w.alloc (.cells #[.int .i64 (-1), .int .i64 a, .int .i64 b, .int .i64 9223372036854775807, .int .i64 (-9223372036854775808)] T)) w.heap.size 5 := by
  intro j hj
  rw [cell_of_row _ w.heap.size j _ T (0, 0) (heap_alloc_new w _)]
  match j, hj with
  | 0, _ => exact ⟨_, by decide, by decide, rfl⟩
  | 1, _ => exact ⟨a, ha.1, ha.2, rfl⟩
  | 2, _ => exact ⟨b, hb.1, hb.2, rfl⟩
  | 3, _ => exact ⟨_, by decide, by decide, rfl⟩
  | 4, _ => exact ⟨_, by decide, by decide, rfl⟩
  | j + 5, hj => exact absurd hj (by omega)

set_option maxRecDepth 20000 in
set_option maxHeartbeats 1000000 in
theorem l01Place_v {w : World} {base g n c : Nat} {o : Option Addr} (h : Cur w base g o n c) (hn : n ≤ 1048576) (m : Nat) (hm : 0 < m) (hm2 : m ≤ 1000000) :
    Calls Try.prog 27 #[.pointer (some ⟨g, 0, none⟩), .int .i64 (m : Int)] w fun e w' => ∃ z : Int, e = .returned (.int .i64 z) ∧ w.grownBy w' (some g) ∧ Cur w' base g o n c := by
  have hg := h.lt
  have H := hide h
  clear h
  go_enter Try.func27, Try.ntmps27
  go_wp2_with fail
  go_at_call 43
  refine (l01Once_any (unhide H) hn 15 (by decide) (by decide)).mono ?_
  rintro e w1 ⟨b, rfl, ho1, hc1⟩
  have G1 := hide (gO9 ho1)
  have s1 : w.heap.size ≤ w1.heap.size := by rw [ho1.size]; exact Nat.le_refl _
  replace hc1 := hide hc1
  clear ho1
  cases b with
  | true =>
    go_wp2_with fail
    go_at_call 44
    refine (l01PickInt_any ((unhide hc1).below ((Below.refl w1.heap.size w1).alloc (Nat.le_refl _) _) (by omega)) hn w1.heap.size 5 5 (by decide) (by decide) (nums5v w1 _ (m : Int) ((m : Int) + 1) (by omega) (by omega)) (by omega)).mono ?_
    rintro e w2 ⟨z, _, _, rfl, ho2, hc2⟩
    have G2 := hide (gT (unhide G1) (gT (gB ((Below.refl w1.heap.size w1).alloc (Nat.le_refl _) _) (some g)) (gO9 ho2)))
    replace hc2 := hide hc2
    replace ho2 := hide ho2
    go_wp2
    go_ret
    exact ⟨z, rfl, unhide G2, unhide hc2⟩
  | false =>
    go_wp2_with fail
    go_at_call 26
    refine (l01Below_any (unhide hc1) hn m hm (by omega)).mono ?_
    rintro e w2 ⟨x, hx, rfl, ho2, hc2⟩
    have G2 := hide (gT (unhide G1) (gO9 ho2))
    replace hc2 := hide hc2
    replace ho2 := hide ho2
    go_wp2
    go_ret
    exact ⟨(x : Int), rfl, unhide G2, unhide hc2⟩
end Go.Proofs.Ytfjfjiolmadbaae
