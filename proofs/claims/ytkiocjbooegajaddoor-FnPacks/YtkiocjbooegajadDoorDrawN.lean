/- More draws by contracts: once in so many times, one of a list of numbers, many bytes of one kind, a number, a text. -/
import Derived.Test.YtkiocjbooegajadDoorCur
namespace Go.Proofs.YtkiocjbooegajadDoor
open Go.RowKit

set_option maxRecDepth 20000 in
set_option maxHeartbeats 400000 in
theorem l01Once_any {w : World} {base g n c : Nat} {o : Option Addr} (h : Cur w base g o n c) (hn : n ≤ 1048576) (m : Nat) (hm : 0 < m) (hm2 : m ≤ 4294967296) :
    Calls Tryd.prog 19 #[.pointer (some ⟨g, 0, none⟩), .int .i64 (m : Int)] w fun e w' => ∃ b : Bool, e = .returned (.bool b) ∧ Only g w w' ∧ Cur w' base g o n c := by
  have H := hide h
  clear h
  go_enter Tryd.func19, Tryd.ntmps19
  go_wp2_with (go_at_call 17; refine (l01Below_any (unhide H) hn m hm hm2).mono ?_; rintro e w1 ⟨x, hx, rfl, ho, hc⟩; replace hc := hide hc)
  go_ret
  exact ⟨_, rfl, ho, unhide hc⟩

/-- A row of numbers in block b. -/
def Nums (w : World) (b k : Nat) : Prop := ∀ j, j < k → ∃ z : Int, -9223372036854775808 ≤ z ∧ z ≤ 9223372036854775807 ∧ w.cell? ⟨b, j, none⟩ = some (.int .i64 z)

set_option maxRecDepth 20000 in
set_option maxHeartbeats 400000 in
theorem l01PickInt_any {w : World} {base g n c : Nat} {o : Option Addr} (h : Cur w base g o n c) (hn : n ≤ 1048576) (b k cap : Nat) (hk : 0 < k) (hk2 : k ≤ 1000) (hN : Nums w b k) (hbg : b ≠ g) :
    Calls Tryd.prog 16 #[.pointer (some ⟨g, 0, none⟩), .slice (some ⟨b, 0, none⟩) k cap] w fun e w' => ∃ z : Int, -9223372036854775808 ≤ z ∧ z ≤ 9223372036854775807 ∧ e = .returned (.int .i64 z) ∧ Only g w w' ∧ Cur w' base g o n c := by
  have H := hide h
  have HN := hide hN
  clear h hN
  go_enter Tryd.func16, Tryd.ntmps16
  go_wp2_with fail
  go_at_call 17
  refine (l01Below_any (unhide H) hn k hk (by omega)).mono ?_
  rintro e w1 ⟨x, hx, rfl, ho, hc⟩
  replace hc := hide hc
  obtain ⟨z, hz1, hz2, hcell⟩ := (unhide HN) x hx
  have hcell1 : w1.cell? ⟨b, x, none⟩ = some (.int .i64 z) := (World.cell?_of_block (w := w) (ho.block b hbg)).trans hcell
  replace ho := hide ho
  have hx0 : (0 : Int) ≤ (x : Int) := by omega
  have hx1 : (x : Int) < (k : Int) := by omega
  go_wp2
  go_ret
  exact ⟨z, hz1, hz2, rfl, unhide ho, unhide hc⟩



end Go.Proofs.YtkiocjbooegajadDoor
