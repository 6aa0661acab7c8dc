/-
  A path of a drawn tree, with its leaf, makes the root, for every code that inputs are drawn from. No condition.
-/
import Derived.Test.YtljjajbkaffofaeMga1
import Derived.Test.YtljjajbkaffofaeMga2
import Derived.Test.YtljjajbkaffofaeMga3
import Derived.Test.YtljjajbkaffofaeMga4
import Derived.Test.YtljjajbkaffofaeMga5
import Derived.Test.YtljjajbkaffofaeMga6
import Derived.Test.YtljjajbkaffofaeMga7
import Derived.Test.YtljjajbkaffofaeMga8
import Derived.Test.YtljjajbkaffofaeMga9
import Derived.Test.YtljjajbkaffofaeRows
import Derived.Below
import Derived.Carry
import Derived.WalkKit
import Derived.ProofKit
import Derived.OpenShut
import Derived.ShutString

namespace Go.Proofs.Ytljjajbkaffofae
namespace fnPaths
open Go.ChangeShapes Go.WideShapes Go.ChangeAt Go.RowKit Go.WideElems
open Go.ChangeMaps (open_string shut_string)
set_option linter.unusedVariables false

theorem own : ownKnob Try.prog.godebug = none := by kernel_rfl

set_option maxRecDepth 100000 in
theorem lifted (os : Os) (started : os.Started) (H : Type) (enc : TypeId × Value → H) :
    ReturnsInHanded {} Try.checked os 6 .any (Rows.fnPathsSpec.pre6 enc Try.prog Try.f6 Rows.fnPathsRow.domain false) (Rows.fnPathsSpec.post enc Try.prog Try.f6 false true false false) := by
  refine returnsInHanded_of_change (C := Try.checked) own started (by kernel_rfl) Try.func6
    (ChangeSpec.witness6 (enc := enc) (C := Try.checked) false ⟨#[], #[.slice none 0 0], []⟩ 8 (by kernel_rfl) (by kernel_rfl) (by kernel_rfl) (by kernel_rfl)) ?_
  intro W base args ds gs before hval0 hW hcnd _
  have hval : ∀ (j : Nat) t v, Try.f6.params[j]? = some t → args[j]? = some v → Value.okWide Try.prog W .any base t v := hval0
  have hW' := hW
  obtain ⟨p, q, hA0, hV, rfl, hfz, hnd⟩ := hW
  have hA : DataW.TrodAll enc Try.prog W 0 (fun _ => true) true Try.f6.params.toList args.toList ds p := hA0
  rw [Try.params6] at hA hval
  obtain ⟨v0, vs0, d0, ds0, p0, q0, hargs, rfl, rfl, h0, r0⟩ := trodAll_cons hA
  obtain ⟨rfl, rfl, rfl⟩ := trodAll_nil r0
  obtain rfl : args = #[v0] := by cases args; simp_all
  obtain ⟨rfl, rfl⟩ := trodVars_none hV
  have hlt0 : ∀ x ∈ p0, x.block < W.heap.size := fun x hx => by simpa using hW'.lt x (by simp [hx])
  obtain ⟨a0, len0, cap0, rfl⟩ := okWide_slice Try.underlying22 (hval 0 22 v0 rfl rfl)
  clear hA0 hval0
  refine (lawPaths_any W a0 len0 cap0 (src_of h0 hlt0) (fun l W' ua h _ r => implRootOf_any l ua W' r (sums_le l h)) (fun l leaf W' ua h _ r => implPathOf_any l leaf ua W' r (sums_le l h)) (fun x leaf l W' ua hx h _ r => implRootBy_any x leaf l ua W' hx r (sums_le l h)) (fun level l W' ua h _ r => implLevelUp_any level l ua W' r (sums_le l h) (by omega)) (fun level place a b W' ha hb _ => implNode_any level place a b ha hb W')).mono fun e W' ⟨he, hg⟩ => ?_
  subst he
  exact ⟨_, rfl, _, _, _, [], p0 ++ [], [], hW', trodAll_mk1 (shut_bool Try.underlying4 _), (trodAll_cons_mk (Below.trod (by kernel_rfl) (by kernel_rfl) (of_decide_eq_true (by kernel_rfl)) h0 hg hlt0) trodAll_mk0), rfl, hg.frame _, fun h => by cases h⟩

theorem over : Rows.fnPathsRow.holds Try.pinned (OpenSpec.ofChange Rows.fnPathsSpec) :=
  OpenClaim.holds_of_wide 6 Try.f6 rfl rfl rfl rfl rfl rfl rfl ⟨rfl, rfl, rfl, rfl, rfl⟩ rfl rfl rfl rfl rfl (by kernel_rfl) Try.func6 (by kernel_rfl)
    (of_decide_eq_true (by kernel_rfl)) (by unfold Func.isWrapper; first | (rw [if_pos (by decide +kernel)]; kernel_rfl) | (rw [if_neg (by decide +kernel)]; exact ⟨rfl, rfl⟩))
    (fun os started H enc _ => lifted os started H enc)
end fnPaths
theorem fnPaths_holds : Rows.FnPathsSaid := fnPaths.over
end Go.Proofs.Ytljjajbkaffofae
