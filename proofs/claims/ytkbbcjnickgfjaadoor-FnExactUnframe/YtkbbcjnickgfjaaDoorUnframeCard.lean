/-
  For every file the law FnExactUnframe returns true: spec.Unframe and impl.Unframe answer alike, the answer owns its memory, behind another call too; the argument reads as it did.
  Condition, tied by the card: the table fourSteps of impl's sums holds what the program's text lays.
-/
import Derived.Test.YtkbbcjnickgfjaaDoorRows
import Derived.Test.YtkbbcjnickgfjaaDoorCards
import Derived.Test.YtkbbcjnickgfjaaDoorTie
import Derived.Test.YtkbbcjnickgfjaaDoorLawUnf
import Derived.WalkKit
import Derived.ProofKit
import Derived.OpenShut
import Derived.ShutString
import Derived.ChangeVars
import Derived.LaidMore
import Derived.Stop.Joined
import Derived.Below
import Derived.Carry
import Derived.SevenTiedAt
import Derived.Lib.LaidTab
namespace Go.Proofs.YtkbbcjnickgfjaaDoor
namespace fnExactUnframe
open Go.ChangeShapes Go.WideShapes Go.ChangeAt Go.RowKit Go.WideElems
open Go.ChangeMaps (open_string shut_string)
set_option linter.unusedVariables false

theorem own : ownKnob Tryd.prog.godebug = none := by kernel_rfl
theorem tFour : (Tryd.prog.globals[0]?).map (·.type) = some 57 := by kernel_rfl

theorem tab_eq : (Rows.laid_loop_example_g00186_impl_fourSteps : DataW Unit) = Lib.tabData .u32 fourTab := rfl

theorem of_laid {W : World} (h : laidMetH Tryd.prog Rows.fnExactUnframeRow.laid W) : Laid W := by
  rw [MakeChecks.laidMetH_plain _ _ _ (by kernel_rfl)] at h
  obtain ⟨ps, ⟨g0, t0, cs0, f0, p0, q0, hg0, ht0, hv0, hd0, _, _⟩, _, _⟩ := h
  obtain rfl := Option.some.inj (gFour.symm.trans hg0)
  obtain rfl := Option.some.inj (tFour.symm.trans ht0)
  unfold Laid Lib.TabIs
  rw [hv0]
  rw [tab_eq] at hd0
  have := Lib.cells_of_tab (n := 16) Tryd.underlying57 Tryd.underlying44 (by kernel_rfl) (by kernel_rfl) hd0
  rw [← this]

theorem door_met (os : Os) (args : Array Value) : laidMetH Tryd.prog Rows.fnExactUnframeRow.laid ((World.doorLaid Tryd.prog 400 os).forCall (fun _ _ => 0) ⟨#[], args, []⟩).memory :=
  laidMetH_of_parts3 (fuel := 8) (laidMet_of_run' 8 (by kernel_rfl) (by kernel_rfl)) (by kernel_rfl) (by kernel_rfl)

theorem vars_stay {H : Type} {enc : TypeId × Value → H} {W W' : World} {gs : List (DataW H)} {q : List MemPlace} (hV : DataW.TrodVars enc Tryd.prog W (fun _ => true) ["loop.example/g00186/impl.fourSteps"] gs q) (hb : Below W.heap.size W W') :
    DataW.TrodVars enc Tryd.prog W' (fun b => decide (b < W.heap.size)) ["loop.example/g00186/impl.fourSteps"] gs q := by
  have hlt := hV.lt
  obtain ⟨g, t, cs, fuel, d, p', rfl, hg, ht, hvar, hd, rfl⟩ := trodVars_one hV
  obtain rfl := Option.some.inj (tFour.symm.trans (by rw [← Option.some.inj (gFour.symm.trans hg)] at ht; exact ht))
  have hl' : ∀ x ∈ p', x.block < W.heap.size := fun x hx => hlt x (List.mem_append_right _ hx)
  refine trodVars_mk1 (fuel := fuel) hg ht (Go.Joins.var_stays hg hvar hb (Nat.le_refl _)) ?_
  exact DataW.trod_stays (kids_book (by kernel_rfl) (by kernel_rfl : Tryd.prog.readableRec 57 = true)) (book_sized (by kernel_rfl)) (fun h => by cases h) ⟨by decide +kernel, book_self _⟩ hd (fun x hx => hb.same (hl' x hx)) (fun x hx => by simpa using hl' x hx)

set_option maxRecDepth 100000 in
theorem lifted (os : Os) (started : os.Started) (H : Type) (enc : TypeId × Value → H) :
    ReturnsInHanded {} Tryd.checked os 4 .any (fun w args => (Rows.fnExactUnframeSpec.pre enc Tryd.prog Tryd.f4 [] false w args ∧ laidMetH Tryd.prog Rows.fnExactUnframeRow.laid w) ∧ sizedMet enc Tryd.prog Tryd.f4 (OpenSpec.ofChange Rows.fnExactUnframeSpec) false w args)
      (Rows.fnExactUnframeSpec.post enc Tryd.prog Tryd.f4 false true false false) := by
  refine returnsInHanded_of_change_and (C := Tryd.checked) (X := fun w _ => laidMetH Tryd.prog Rows.fnExactUnframeRow.laid w) (fun _ _ _ hh h => h.of_heap hh) own started (by kernel_rfl) Tryd.func4
    (ChangeSpec.witness_shaped (enc := enc) (C := Tryd.checked) (os := os) (X := fun w _ => laidMetH Tryd.prog Rows.fnExactUnframeRow.laid w) false (World.doorLaid Tryd.prog 400 os) #[.string ByteArray.empty] 8 rfl (World.shaped_of_RefB (by kernel_rfl) (by kernel_rfl)) (by kernel_rfl) (by kernel_rfl) (by kernel_rfl) (door_met os _)) ?_
  intro W base args ds gs before hval0 hW _ _ hL _
  have hval : ∀ (j : Nat) t v, Tryd.f4.params[j]? = some t → args[j]? = some v → Value.okWide Tryd.prog W .any base t v := hval0
  have hW' := hW
  obtain ⟨p, q, hA0, hV0, rfl, hfz, hnd⟩ := hW
  have hA : DataW.TrodAll enc Tryd.prog W 0 (fun _ => true) true Tryd.f4.params.toList args.toList ds p := hA0
  have hV : DataW.TrodVars enc Tryd.prog W (fun _ => true) ["loop.example/g00186/impl.fourSteps"] gs q := hV0
  rw [Tryd.params4] at hA hval
  obtain ⟨v0, d0, rfl, rfl, h0⟩ := trodAll_one hA
  obtain ⟨g, t, cs, fuel, dg, pg, rfl, -, -, -, -, -⟩ := trodVars_one hV
  obtain ⟨a0, rfl, rfl, rfl, w0⟩ := open_string Tryd.underlying9 (hval 0 9 v0 rfl rfl) h0
  have htab := of_laid hL
  clear hA0 hval0
  refine (lawUnframe_any a0 W htab).mono fun e W' ⟨he, hg⟩ => ?_
  subst he
  exact ⟨_, rfl, _, _, _, [], [], q, hW', trodAll_mk1 (shut_bool Tryd.underlying4 _), (trodAll_cons_mk (shut_string Tryd.underlying9 w0) trodAll_mk0), vars_stay hV hg, hg.frame _, fun h => by cases h⟩

theorem over : Rows.FnExactUnframeSaid :=
  OpenClaim.holds_of_wide 4 Tryd.f4 rfl rfl rfl rfl rfl rfl rfl ⟨rfl, rfl, rfl, rfl, rfl⟩ rfl rfl rfl rfl rfl (by kernel_rfl) Tryd.func4 (by kernel_rfl)
    (of_decide_eq_true (by kernel_rfl)) (by unfold Func.isWrapper; first | (rw [if_pos (by decide +kernel)]; kernel_rfl) | (rw [if_neg (by decide +kernel)]; exact ⟨rfl, rfl⟩))
    (fun os started H enc _ => lifted os started H enc)
end fnExactUnframe

theorem fnExactUnframe_holds : Rows.FnExactUnframeCardSaid :=
  Claim7.holds_tied_plain_at .later [] [.data] true (true, "9ab43549814bb71f183e94a7bc54260f5e9de4ef873ec00a42ff3061b4f7cd57") false
    fnExactUnframe.over (fun _ h => by cases h) (by kernel_rfl) (fun _ h => by cases h) fnExactUnframe_row_tie rfl ⟨rfl, rfl⟩ (by kernel_rfl) rfl
    (fun f fn hf hfn => by
      obtain rfl : f = 4 := Option.some.inj ((show Tryd.prog.funcNamed "loop.example/g00186/laws.FnExactUnframe" = some 4 by kernel_rfl).symm.trans hf) |>.symm
      obtain rfl : fn = Tryd.f4 := (Option.some.inj (Tryd.func4.symm.trans hfn)).symm
      exact ⟨by kernel_rfl, fun j t ht => by
        rw [Tryd.params4] at ht
        have hm : t ∈ [9] := by simpa using Array.mem_of_getElem? ht
        have hall : ([9].all fun u => !Tryd.prog.wantsStandIn u) = true := by kernel_rfl
        exact (show Tryd.prog.wantsStandIn t = false by simpa using List.all_eq_true.1 hall t hm)⟩)
    (by kernel_rfl)
end Go.Proofs.YtkbbcjnickgfjaaDoor
