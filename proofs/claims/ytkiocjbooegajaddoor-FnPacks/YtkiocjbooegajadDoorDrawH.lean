/- The draws of chapter 5 by contracts, over the loaded program. -/
import Derived.Test.YtkiocjbooegajadDoorDrawT
import Derived.Test.YtkiocjbooegajadDoorDrawN
namespace Go.Proofs.YtkiocjbooegajadDoor
open Go.RowKit
set_option maxRecDepth 20000 in
set_option maxHeartbeats 400000 in
theorem l01PickP_any {w : World} {base g n c : Nat} {o : Option Addr} (p : Int → Prop) (h : Cur w base g o n c) (hn : n ≤ 1048576) (b k cap : Nat) (hk : 0 < k) (hk2 : k ≤ 1000) (hN : ∀ j, j < k → ∃ z, w.cell? ⟨b, j, none⟩ = some (.int .i64 z) ∧ p z) (hbg : b ≠ g) :
    Calls Tryd.prog 16 #[.pointer (some ⟨g, 0, none⟩), .slice (some ⟨b, 0, none⟩) k cap] w fun e w' => ∃ z : Int, p z ∧ e = .returned (.int .i64 z) ∧ Only g w w' ∧ Cur w' base g o n c := by
  have H := hide h
  have HN := hide hN
  clear h hN
  go_enter Tryd.func16, Tryd.ntmps16
  go_wp2_with fail
  go_at_call 17
  refine (l01Below_any (unhide H) hn k hk (by omega)).mono ?_
  rintro e w1 ⟨x, hx, rfl, ho, hc⟩
  replace hc := hide hc
  obtain ⟨z, hcell, hz⟩ := (unhide HN) x hx
  have hcell1 : w1.cell? ⟨b, x, none⟩ = some (.int .i64 z) := (World.cell?_of_block (w := w) (ho.block b hbg)).trans hcell
  replace ho := hide ho
  replace hz := hide hz
  have hx0 : (0 : Int) ≤ (x : Int) := by omega
  have hx1 : (x : Int) < (k : Int) := by omega
  go_wp2
  go_ret
  exact ⟨z, unhide hz, rfl, unhide ho, unhide hc⟩
end Go.Proofs.YtkiocjbooegajadDoor
