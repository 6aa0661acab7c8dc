/- The law FnExactMacOf, walked over the loaded program. -/
import Derived.Test.YtanianfealalgaoMac2
namespace Go.Proofs.Ytanianfealalgao
open Go.RowKit
theorem one_text (w : World) (a : ByteArray) (T : TypeId) : ∀ (j : Nat) x, [a][j]? = some x → (w.alloc (.cells #[.string a] T)).cell? ⟨w.heap.size, j, none⟩ = some (.string x) := by
  intro j x hx
  rw [cell_of_row _ w.heap.size j _ T (0, 0) (heap_alloc_new w _)]
  match j, hx with
  | 0, h => cases h; rfl
  | j + 1, h => simp at h
set_option maxRecDepth 20000 in
set_option maxHeartbeats 400000 in
theorem implMac_any (key t : ByteArray) (hk : key.size ≤ 1048576) (ht : t.size ≤ 2000000) (w : World) :
    Calls Try.prog 50 #[.string key, .string t] w fun e w' => e = .returned (.string (macB key t)) ∧ Below w.heap.size w w' := by
  have C := hide (macParts_any key hk w.heap.size 1 1 [t] rfl t (by simp) ht (w.alloc (.cells #[.string t] 9)) (one_text w t 9) (by simp) (by omega))
  have hb0 : Below w.heap.size w (w.alloc (.cells #[.string t] 9)) := (Below.refl w.heap.size w).alloc (Nat.le_refl _) _
  generalize macB key t = d at *
  go_enter Try.func50, Try.ntmps50
  go_wp2_with fail
  refine (unhide C).mono ?_
  rintro e w1 ⟨rfl, hb1⟩
  have hb01 := hb0.trans (hb1.mono hb0.size)
  clear hb0 hb1 C
  go_wp2
  go_ret
  exact ⟨rfl, hb01⟩
end Go.Proofs.Ytanianfealalgao
