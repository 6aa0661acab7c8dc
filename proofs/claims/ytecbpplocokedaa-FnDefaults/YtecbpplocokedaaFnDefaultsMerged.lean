/-
  A new thing of a drawn kind is right, with an Id, and what comes in again never signs, and begins at no leaf, for every code that inputs are drawn from. No condition.
-/
import Derived.Test.YtecbpplocokedaaMgDefaults1
import Derived.Test.YtecbpplocokedaaMgDefaults2
import Derived.Test.YtecbpplocokedaaMgDefaults3
import Derived.Test.YtecbpplocokedaaMgDefaults4
import Derived.Test.YtecbpplocokedaaMgDefaults5
import Derived.Test.YtecbpplocokedaaMgDefaults6
import Derived.Test.YtecbpplocokedaaMgDefaults7
import Derived.Test.YtecbpplocokedaaMgDefaults8
import Derived.Test.YtecbpplocokedaaMgDefaults9
import Derived.Test.YtecbpplocokedaaRows
import Derived.Below
import Derived.Carry
import Derived.WalkKit
import Derived.ProofKit
import Derived.OpenShut
import Derived.ShutString

namespace Go.Proofs.Ytecbpplocokedaa
namespace fnDefaults
open Go.ChangeShapes Go.WideShapes Go.ChangeAt Go.RowKit Go.WideElems
open Go.ChangeMaps (open_string shut_string)
set_option linter.unusedVariables false

theorem own : ownKnob Try.prog.godebug = none := by kernel_rfl

set_option maxRecDepth 100000 in
theorem lifted (os : Os) (started : os.Started) (H : Type) (enc : TypeId × Value → H) :
    ReturnsInHanded {} Try.checked os 4 .any (Rows.fnDefaultsSpec.pre6 enc Try.prog Try.f4 Rows.fnDefaultsRow.domain false) (Rows.fnDefaultsSpec.post enc Try.prog Try.f4 false true false false) := by
  refine returnsInHanded_of_change (C := Try.checked) own started (by kernel_rfl) Try.func4
    (ChangeSpec.witness6 (enc := enc) (C := Try.checked) false ⟨#[], #[.slice none 0 0], []⟩ 8 (by kernel_rfl) (by kernel_rfl) (by kernel_rfl) (by kernel_rfl)) ?_
  intro W base args ds gs before hval0 hW hcnd _
  have hval : ∀ (j : Nat) t v, Try.f4.params[j]? = some t → args[j]? = some v → Value.okWide Try.prog W .any base t v := hval0
  have hW' := hW
  obtain ⟨p, q, hA0, hV, rfl, hfz, hnd⟩ := hW
  have hA : DataW.TrodAll enc Try.prog W 0 (fun _ => true) true Try.f4.params.toList args.toList ds p := hA0
  rw [Try.params4] at hA hval
  obtain ⟨v0, vs0, d0, ds0, p0, q0, hargs, rfl, rfl, h0, r0⟩ := trodAll_cons hA
  obtain ⟨rfl, rfl, rfl⟩ := trodAll_nil r0
  obtain rfl : args = #[v0] := by cases args; simp_all
  obtain ⟨rfl, rfl⟩ := trodVars_none hV
  have hlt0 : ∀ x ∈ p0, x.block < W.heap.size := fun x hx => by simpa using hW'.lt x (by simp [hx])
  obtain ⟨a0, len0, cap0, rfl⟩ := okWide_slice Try.underlying22 (hval 0 22 v0 rfl rfl)
  clear hA0 hval0
  refine (lawDefaults_any W a0 len0 cap0 (src_of h0 hlt0) (fun k s W' hs _ => implDefaults_any k s (by omega) W') (fun x W' hx _ => implRestored_any x (by omega) W') (fun x d W' _ _ => implMay_any x d W') (fun x W' _ _ => implThingOk_any x W')).mono fun e W' ⟨he, hg⟩ => ?_
  subst he
  exact ⟨_, rfl, _, _, _, [], p0 ++ [], [], hW', trodAll_mk1 (shut_bool Try.underlying4 _), (trodAll_cons_mk (Below.trod (by kernel_rfl) (by kernel_rfl) (of_decide_eq_true (by kernel_rfl)) h0 hg hlt0) trodAll_mk0), rfl, hg.frame _, fun h => by cases h⟩

theorem over : Rows.fnDefaultsRow.holds Try.pinned (OpenSpec.ofChange Rows.fnDefaultsSpec) :=
  OpenClaim.holds_of_wide 4 Try.f4 rfl rfl rfl rfl rfl rfl rfl ⟨rfl, rfl, rfl, rfl, rfl⟩ rfl rfl rfl rfl rfl (by kernel_rfl) Try.func4 (by kernel_rfl)
    (of_decide_eq_true (by kernel_rfl)) (by unfold Func.isWrapper; first | (rw [if_pos (by decide +kernel)]; kernel_rfl) | (rw [if_neg (by decide +kernel)]; exact ⟨rfl, rfl⟩))
    (fun os started H enc _ => lifted os started H enc)
end fnDefaults
theorem fnDefaults_holds : Rows.FnDefaultsSaid := fnDefaults.over
end Go.Proofs.Ytecbpplocokedaa
