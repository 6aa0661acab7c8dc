/- Packing by the project: polynomials, over the loaded program. -/
import Derived.Test.YtkiocjbooegajadDoorPckE
import Derived.Test.YtkiocjbooegajadDoorPck5
import Derived.Test.YtkiocjbooegajadDoorPlyB
namespace Go.Proofs.YtkiocjbooegajadDoor
open Go.RowKit
set_option maxRecDepth 20000 in
theorem implPolyBytes_any (a : List Int) (ua : Value) (hl : a.length ≤ 1048576) (w : World) (hL : LaidB w) (r : RdV w ua (a.map iv)) :
    Calls Tryd.prog 14 #[ua] w fun e w' => e = .returned (.string (polB a)) ∧ Below w.heap.size w w' := by
  have C1 := hide (implPolyOk_q a ua w r)
  have C2 := hide (fun q => implPack_any a 12 ua hl (w.drewN q) (hL.below (bDN (Below.refl _ _) q)) (r.below (bDN (Below.refl _ _) q)))
  obtain ⟨s0, c0, rfl⟩ := r.shape
  rw [List.length_map] at C1 C2 ⊢
  clear r
  cases hok : okPl a with
  | false =>
    rw [hok] at C1
    have E := hide (show polB a = ⟨#[]⟩ by unfold polB; rw [hok]; rfl)
    replace hok := hide hok
    go_enter Tryd.func14, Tryd.ntmps14
    go_wp2_with fail
    refine (unhide C1).mono ?_
    rintro e w2 ⟨rfl, q, rfl⟩
    go_wp2
    go_ret
    exact ⟨by rw [unhide E]; rfl, bDN (Below.refl _ _) q⟩
  | true =>
    rw [hok] at C1
    have E := hide (show polB a = pkB a 12 by unfold polB; rw [hok]; rfl)
    rw [unhide E]
    generalize pkB a 12 = tx at *
    generalize pkOk a 12 = ok at *
    replace hok := hide hok
    go_enter Tryd.func14, Tryd.ntmps14
    go_wp2_with fail
    refine (unhide C1).mono ?_
    rintro e w2 ⟨rfl, q, rfl⟩
    go_wp2_with fail
    refine (unhide C2 q).mono ?_
    rintro e w2 ⟨rfl, hB⟩
    have hB2 := (bDN (Below.refl w.heap.size w) q).trans hB
    go_wp2
    go_ret
    exact ⟨rfl, hB2⟩
set_option maxRecDepth 20000 in
theorem implPolyFrom_any (s : ByteArray) (hs : s.size ≤ 1048576) (w : World) (hL : LaidB w) :
    Calls Tryd.prog 13 #[.string s] w fun e w' => (∃ v, e = .returned (.tuple #[v, .bool (pfOk s)]) ∧ OwnV w' w.heap.size 3 v ((pfL s).map iv)) ∧ Below w.heap.size w w' := by
  have C1 := hide (implUnpack_any s 12 256 hs w hL)
  have C2 := hide (fun (W : World) (v : Value) (r : RdV W v ((upL s 12 256).map iv)) => implPolyOk_q (upL s 12 256) v W r)
  have EO : Hid (pfOk s = (upOk s 12 256 && okPl (upL s 12 256))) := hide rfl
  have EL : Hid (pfL s = if pfOk s = true then upL s 12 256 else []) := hide rfl
  generalize upL s 12 256 = ls at *
  cases ho : upOk s 12 256 with
  | false =>
    rw [ho] at C1 EO
    have E1 := hide (show pfOk s = false by rw [unhide EO]; rfl)
    have E2 := hide (show pfL s = [] by rw [unhide EL, unhide E1]; rfl)
    replace ho := hide ho
    go_enter Tryd.func13, Tryd.ntmps13
    go_wp2_with fail
    refine (unhide C1).mono ?_
    rintro e w2 ⟨⟨v, rfl, hO⟩, hB⟩
    replace hO := hide hO
    go_wp2
    refine bodyPost_ret (v := .tuple #[.slice none 0 0, .bool false]) (by simp [results, Tryd.results13, go_sem]) rfl ⟨⟨_, by rw [unhide E1], by rw [unhide E2]; exact OwnV.nil _ _ _⟩, hB⟩
  | true =>
    rw [ho] at C1 EO
    cases hp : okPl ls with
    | false =>
      rw [hp] at C2 EO
      have E1 := hide (show pfOk s = false by rw [unhide EO]; rfl)
      have E2 := hide (show pfL s = [] by rw [unhide EL, unhide E1]; rfl)
      replace ho := hide ho; replace hp := hide hp
      go_enter Tryd.func13, Tryd.ntmps13
      go_wp2_with fail
      refine (unhide C1).mono ?_
      rintro e w2 ⟨⟨v, rfl, hO⟩, hB⟩
      have hr := hide hO.rdv
      replace hO := hide hO
      go_wp2_with fail
      refine (unhide C2 _ _ (unhide hr)).mono ?_
      rintro e w3 ⟨rfl, q, rfl⟩
      have hB2 := bDN hB q
      go_wp2
      refine bodyPost_ret (v := .tuple #[.slice none 0 0, .bool false]) (by simp [results, Tryd.results13, go_sem]) rfl ⟨⟨_, by rw [unhide E1], by rw [unhide E2]; exact OwnV.nil _ _ _⟩, hB2⟩
    | true =>
      rw [hp] at C2 EO
      have E1 := hide (show pfOk s = true by rw [unhide EO]; rfl)
      have E2 := hide (show pfL s = ls by rw [unhide EL, unhide E1]; rfl)
      replace ho := hide ho; replace hp := hide hp
      go_enter Tryd.func13, Tryd.ntmps13
      go_wp2_with fail
      refine (unhide C1).mono ?_
      rintro e w2 ⟨⟨v, rfl, hO⟩, hB⟩
      have hr := hide hO.rdv
      replace hO := hide hO
      go_wp2_with fail
      refine (unhide C2 _ _ (unhide hr)).mono ?_
      rintro e w3 ⟨rfl, q, rfl⟩
      have hB2 := bDN hB q
      have hO2 : Hid (OwnV (w2.drewN q) w.heap.size 3 v (ls.map iv)) := hide (unhide hO)
      go_wp2
      refine bodyPost_ret (v := .tuple #[v, .bool true]) (by simp [results, Tryd.results13, go_sem]) rfl ⟨⟨_, by rw [unhide E1], by rw [unhide E2]; exact unhide hO2⟩, hB2⟩
end Go.Proofs.YtkiocjbooegajadDoor
