/- The law FnExactMacOf, walked over the loaded program. -/
import Derived.Test.YtkidgllmhdfgaanMac2
namespace Go.Proofs.Ytkidgllmhdfgaan
open Go.RowKit
theorem one_text (w : World) (a : ByteArray) (T : TypeId) : ∀ (j : Nat) x, [a][j]? = some x → (w.alloc (.cells #[.string a] T)).cell? ⟨w.heap.size, j, none⟩ = some (.string x) := by
  intro j x hx
  rw [cell_of_row _ w.heap.size j _ T (0, 0) (heap_alloc_new w _)]
  match j, hx with
  | 0, h => cases h; rfl
  | j + 1, h => simp at h
set_option maxRecDepth 20000 in
set_option maxHeartbeats 400000 in
theorem implMac_any (key t : ByteArray) (hk : key.size ≤ 1048576) (ht : t.size ≤ 2000000) (w : World) :
    Calls Try.prog 7 #[.string key, .string t] w fun e w' => e = .returned (.string (macB key t)) ∧ Below w.heap.size w w' := by
  have C := hide (macParts_any key hk w.heap.size 1 1 [t] rfl t (by simp) ht (w.alloc (.cells #[.string t] 9)) (one_text w t 9) (by simp) (by omega))
  have hb0 : Below w.heap.size w (w.alloc (.cells #[.string t] 9)) := (Below.refl w.heap.size w).alloc (Nat.le_refl _) _
  generalize macB key t = d at *
  go_enter Try.func7, Try.ntmps7
  go_wp2_with fail
  refine (unhide C).mono ?_
  rintro e w1 ⟨rfl, hb1⟩
  have hb01 := hb0.trans (hb1.mono hb0.size)
  clear hb0 hb1 C
  go_wp2
  go_ret
  exact ⟨rfl, hb01⟩
set_option maxRecDepth 20000 in
set_option maxHeartbeats 400000 in
theorem lawMacOf_any (a b : ByteArray) (w : World) :
    Calls Try.prog 3 #[.string a, .string b] w fun e w' => e = .returned (.bool true) ∧ Below w.heap.size w w' := by
  by_cases h1 : (1048576 : Int) < (a.size : Int)
  · go_enter Try.func3, Try.ntmps3
    go_wp2
    go_ret
    exact ⟨rfl, Below.refl _ _⟩
  by_cases h2 : (1048576 : Int) < (b.size : Int)
  · go_enter Try.func3, Try.ntmps3
    go_wp2
    go_ret
    exact ⟨rfl, Below.refl _ _⟩
  have C1 := hide (fun W => specMac_any a b (by omega) (by omega) W)
  have C2 := hide (fun W => implMac_any a b (by omega) (by omega) W)
  generalize macB a b = d at C1 C2
  go_enter Try.func3, Try.ntmps3
  go_wp2_with fail
  refine ((unhide C1) w).mono ?_
  rintro e w1 ⟨rfl, hb1⟩
  go_wp2_with fail
  refine ((unhide C2) w1).mono ?_
  rintro e w2 ⟨rfl, hb2⟩
  have hb12 := hb1.trans (hb2.mono hb1.size)
  clear hb1 hb2
  go_wp2
  go_ret
  exact ⟨rfl, hb12⟩
end Go.Proofs.Ytkidgllmhdfgaan
