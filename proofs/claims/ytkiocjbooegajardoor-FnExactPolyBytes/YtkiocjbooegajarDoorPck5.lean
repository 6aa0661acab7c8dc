/- Polynomials as bytes by the given model, over the loaded program. -/
import Derived.Test.YtkiocjbooegajarDoorPck3
import Derived.Test.YtkiocjbooegajarDoorPck4
namespace Go.Proofs.YtkiocjbooegajarDoor
open Go.RowKit
def polB (l : List Int) : ByteArray := if okPl l = true then pkB l 12 else ⟨#[]⟩
def pfOk (s : ByteArray) : Bool := upOk s 12 256 && okPl (upL s 12 256)
def pfL (s : ByteArray) : List Int := if pfOk s = true then upL s 12 256 else []
set_option maxRecDepth 20000 in
set_option maxHeartbeats 400000 in
theorem specPolyBytes_any (l : List Int) (va : Value) (w : World) (ra : RdV w va (l.map iv)) :
    Calls Tryd.prog 5 #[va] w fun e w' => e = .returned (.string (polB l)) ∧ Below w.heap.size w w' := by
  have CA := hide (specPolyOk_any l va w ra)
  by_cases ha : okPl l = true
  · rw [ha] at CA
    have CP := hide (specPack_any l 12 (by rw [(okPl_yes ha).1]; omega) va w ra)
    have E := hide (show polB l = pkB l 12 by unfold polB; rw [if_pos ha])
    rw [unhide E]
    generalize pkB l 12 = t at *
    generalize pkOk l 12 = q at *
    go_enter Tryd.func5, Tryd.ntmps5
    go_wp2_with fail
    refine (unhide CA).mono ?_
    rintro e w1 ⟨rfl, hw1⟩
    have hw2 := hw1.symm
    subst hw2
    clear hw1
    go_wp2_with fail
    refine (unhide CP).mono ?_
    rintro e w1 ⟨rfl, hb1⟩
    go_wp2
    go_ret
    exact ⟨rfl, hb1⟩
  · have ha' : okPl l = false := by simpa using ha
    rw [ha'] at CA
    have E := hide (show polB l = ⟨#[]⟩ by unfold polB; rw [if_neg ha])
    rw [unhide E]
    go_enter Tryd.func5, Tryd.ntmps5
    go_wp2_with fail
    refine (unhide CA).mono ?_
    rintro e w1 ⟨rfl, hw1⟩
    have hw2 := hw1.symm
    subst hw2
    clear hw1
    go_wp2
    go_ret
    exact ⟨rfl, Below.refl _ _⟩
set_option maxRecDepth 20000 in
set_option maxHeartbeats 400000 in
theorem specPolyFrom_any (s : ByteArray) (hs : s.size ≤ 1048576) (w : World) :
    Calls Tryd.prog 9 #[.string s] w fun e w' => (∃ v, e = .returned (.tuple #[v, .bool (pfOk s)]) ∧ OwnV w' w.heap.size 3 v ((pfL s).map iv)) ∧ Below w.heap.size w w' := by
  have CU := hide (specUnpack_any s 12 256 hs w)
  have EO := hide (show pfOk s = (upOk s 12 256 && okPl (upL s 12 256)) from rfl)
  have EL := hide (show pfL s = if pfOk s = true then upL s 12 256 else [] from rfl)
  generalize upL s 12 256 = l at *
  generalize upOk s 12 256 = q at *
  go_enter Tryd.func9, Tryd.ntmps9
  go_wp2_with fail
  refine (unhide CU).mono ?_
  rintro e w1 ⟨⟨v, rfl, hO⟩, hb1⟩
  have hsz := hb1.size
  cases q with
  | false =>
    have E1 := hide (show pfOk s = false by rw [unhide EO]; rfl)
    have E2 := hide (show pfL s = [] by rw [unhide EL, unhide E1]; rfl)
    go_wp2
    refine bodyPost_ret (v := .tuple #[.slice (some ⟨w1.heap.size, 0, none⟩) 0 0, .bool false]) (by simp [results, Tryd.results9, go_sem]) rfl ⟨⟨_, by rw [unhide E1], by rw [unhide E2]; exact World.ownsRow_made w1 #[] 0 hsz (by decide) (by simp)⟩, hb1.alloc hsz _⟩
  | true =>
    have CA := hide (specPolyOk_any l v w1 hO.rdv)
    have E1 := hide (show pfOk s = okPl l by rw [unhide EO]; exact Bool.true_and _)
    cases hk : okPl l with
    | false =>
      rw [hk] at CA
      have E3 := hide (show pfOk s = false by rw [unhide E1]; exact hk)
      have E2 := hide (show pfL s = [] by rw [unhide EL, unhide E3]; rfl)
      replace hk := hide hk
      go_wp2_with fail
      refine (unhide CA).mono ?_
      rintro e w2 ⟨rfl, hw1⟩
      have hw2 := hw1.symm
      subst hw2
      clear hw1
      go_wp2
      refine bodyPost_ret (v := .tuple #[.slice (some ⟨w1.heap.size, 0, none⟩) 0 0, .bool false]) (by simp [results, Tryd.results9, go_sem]) rfl ⟨⟨_, by rw [unhide E3], by rw [unhide E2]; exact World.ownsRow_made w1 #[] 0 hsz (by decide) (by simp)⟩, hb1.alloc hsz _⟩
    | true =>
      rw [hk] at CA
      have E3 := hide (show pfOk s = true by rw [unhide E1]; exact hk)
      have E2 := hide (show pfL s = l by rw [unhide EL, unhide E3]; rfl)
      replace hk := hide hk
      go_wp2_with fail
      refine (unhide CA).mono ?_
      rintro e w2 ⟨rfl, hw1⟩
      have hw2 := hw1.symm
      subst hw2
      clear hw1
      go_wp2
      refine bodyPost_ret (v := .tuple #[v, .bool true]) (by simp [results, Tryd.results9, go_sem]) rfl ⟨⟨v, by rw [unhide E3], by rw [unhide E2]; exact hO⟩, hb1⟩
end Go.Proofs.YtkiocjbooegajarDoor
