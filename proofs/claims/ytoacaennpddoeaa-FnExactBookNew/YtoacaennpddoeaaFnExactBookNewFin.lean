/-
  The law FnExactBookNew, which takes no argument, returns true: spec.BookNew and impl.BookNew answer alike, field by field. No condition.
-/
import Derived.Test.YtoacaennpddoeaaMgBookNew1
import Derived.Test.YtoacaennpddoeaaMgBookNew2
import Derived.Test.YtoacaennpddoeaaMgBookNew3
import Derived.Test.YtoacaennpddoeaaMgBookNew4
import Derived.Test.YtoacaennpddoeaaMgBookNew5
import Derived.Test.YtoacaennpddoeaaMgBookNew6
import Derived.Test.YtoacaennpddoeaaMgBookNew7
import Derived.Test.YtoacaennpddoeaaRows
import Derived.Below
import Derived.Carry
import Derived.WalkKit
import Derived.ProofKit
import Derived.OpenShut
import Derived.ShutString

namespace Go.Proofs.Ytoacaennpddoeaa
namespace fnExactBookNew
open Go.ChangeShapes Go.WideShapes Go.ChangeAt Go.RowKit Go.WideElems
open Go.ChangeMaps (open_string shut_string)
set_option linter.unusedVariables false

theorem own : ownKnob Try.prog.godebug = none := by kernel_rfl

set_option maxRecDepth 100000 in
theorem lifted (os : Os) (started : os.Started) (H : Type) (enc : TypeId × Value → H) :
    ReturnsInHanded {} Try.checked os 5 .any (Rows.fnExactBookNewSpec.pre6 enc Try.prog Try.f5 Rows.fnExactBookNewRow.domain false) (Rows.fnExactBookNewSpec.post enc Try.prog Try.f5 false true false false) := by
  refine returnsInHanded_of_change (C := Try.checked) own started (by kernel_rfl) Try.func5
    (ChangeSpec.witness6 (enc := enc) (C := Try.checked) false ⟨#[], #[], []⟩ 8 (by kernel_rfl) (by kernel_rfl) (by kernel_rfl) (by kernel_rfl)) ?_
  intro W base args ds gs before hval0 hW hcnd _
  have hval : ∀ (j : Nat) t v, Try.f5.params[j]? = some t → args[j]? = some v → Value.okWide Try.prog W .any base t v := hval0
  have hW' := hW
  obtain ⟨p, q, hA0, hV, rfl, hfz, hnd⟩ := hW
  have hA : DataW.TrodAll enc Try.prog W 0 (fun _ => true) true Try.f5.params.toList args.toList ds p := hA0
  rw [Try.params5] at hA hval
  obtain ⟨hargs, rfl, rfl⟩ := trodAll_nil hA
  obtain rfl : args = #[] := by cases args; simp_all
  obtain ⟨rfl, rfl⟩ := trodVars_none hV
  clear hA0 hval0
  refine (lawBookNew_any W (fun W' => implBookNew_any W')).mono fun e W' ⟨he, hg⟩ => ?_
  subst he
  exact ⟨_, rfl, _, _, _, [], [], [], hW', trodAll_mk1 (shut_bool Try.underlying4 _), trodAll_mk0, rfl, hg.frame _, fun h => by cases h⟩

theorem over : Rows.fnExactBookNewRow.holds Try.pinned (OpenSpec.ofChange Rows.fnExactBookNewSpec) :=
  OpenClaim.holds_of_wide 5 Try.f5 rfl rfl rfl rfl rfl rfl rfl ⟨rfl, rfl, rfl, rfl, rfl⟩ rfl rfl rfl rfl rfl (by kernel_rfl) Try.func5 (by kernel_rfl)
    (of_decide_eq_true (by kernel_rfl)) (by unfold Func.isWrapper; first | (rw [if_pos (by decide +kernel)]; kernel_rfl) | (rw [if_neg (by decide +kernel)]; exact ⟨rfl, rfl⟩))
    (fun os started H enc _ => lifted os started H enc)
end fnExactBookNew
theorem fnExactBookNew_holds : Rows.FnExactBookNewSaid := fnExactBookNew.over
end Go.Proofs.Ytoacaennpddoeaa
