/- What laws.sameTexts comes to: rows that hold the same texts are the same. -/
import Derived.Test.YtkbbcjnickgfjaaDoorRd
import Derived.Test.YtkbbcjnickgfjaaDoorChecked
import Derived.Deep.RegionHeld3
import Derived.Deep.QuietTactic
import Derived.BigQuiet
namespace Go.Proofs.YtkbbcjnickgfjaaDoor
open Go.RowKit

set_option maxHeartbeats 1000000 in
theorem sameTexts_any (ts : List ByteArray) (v1 v2 : Value) (w : World) (hr1 : RdV w v1 (ts.map Value.string)) (hr2 : RdV w v2 (ts.map Value.string)) (_ : ts.length ≤ 2000000) :
    Calls Tryd.prog 10 #[v1, v2] w fun e w' => e = .returned (.bool true) ∧ Below w.heap.size w w' := by
  obtain ⟨a1, c1, rfl, hc1⟩ := hr1.open
  obtain ⟨a2, c2, rfl, hc2⟩ := hr2.open
  clear hr1 hr2
  rw [List.length_map]
  obtain ⟨n, hnn⟩ : ∃ n, ts.length = n := ⟨_, rfl⟩
  rw [hnn]
  replace hnn := hide hnn
  go_enter Tryd.func10, Tryd.ntmps10
  go_wp2
  go_loopw [5] (fun ti wr => ∃ k q : Nat, k ≤ n ∧ ti = .int .i64 k ∧ wr = w.drewN q) (fun ti _ => n - (intOf ti).toNat)
  case atStart => exact ⟨0, 0, Nat.zero_le _, rfl, rfl⟩
  case round =>
    obtain ⟨k, q, hk, rfl, rfl⟩ := hrel
    by_cases hlt : k < n
    · have hk' : k < ts.length := by rw [unhide hnn]; exact hlt
      have hf : (ts.map Value.string)[k]? = some (.string ts[k]) := by rw [List.getElem?_map, List.getElem?_eq_getElem hk']; rfl
      obtain ⟨g1, o1, rfl, hg1, d1⟩ := hc1 k _ hf
      obtain ⟨g2, o2, rfl, hg2, d2⟩ := hc2 k _ hf
      have hi0 : (0 : Int) ≤ (k : Int) := by omega
      have hi1 : (k : Int) < (n : Int) := by omega
      generalize ts[k] = told at *
      clear hc1 hc2 hf
      go_wp2
      go_quiet (fail)
      go_wp2
      go_roundw
      case rel => exact ⟨k + 1, _, by omega, by go_num, by first | rfl | rw [World.drewN_drewN]⟩
      case measure => simp [intOf]; omega
    · go_wp2
      go_ret
      exact ⟨rfl, bDN (Below.refl _ w) _⟩

end Go.Proofs.YtkbbcjnickgfjaaDoor
