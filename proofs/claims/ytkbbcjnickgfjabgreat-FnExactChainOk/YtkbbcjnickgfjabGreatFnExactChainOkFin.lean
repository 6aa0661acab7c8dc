/-
  ChainOk: what the project's own function answers at every argument is what the given model answers. No condition.
-/
import Derived.Test.YtkbbcjnickgfjabGreatMgChainOk1
import Derived.Test.YtkbbcjnickgfjabGreatMgChainOk2
import Derived.Test.YtkbbcjnickgfjabGreatMgChainOk3
import Derived.Test.YtkbbcjnickgfjabGreatMgChainOk4
import Derived.Test.YtkbbcjnickgfjabGreatMgChainOk5
import Derived.Test.YtkbbcjnickgfjabGreatMgChainOk6
import Derived.Test.YtkbbcjnickgfjabGreatMgChainOk7
import Derived.Test.YtkbbcjnickgfjabGreatMgChainOk8
import Derived.Test.YtkbbcjnickgfjabGreatMgChainOk9
import Derived.Test.YtkbbcjnickgfjabGreatMgChainOk10
import Derived.Test.YtkbbcjnickgfjabGreatMgChainOk11
import Derived.Test.YtkbbcjnickgfjabGreatMgChainOk12
import Derived.Test.YtkbbcjnickgfjabGreatRows
import Derived.Below
import Derived.Carry
import Derived.WalkKit
import Derived.ProofKit
import Derived.OpenShut
import Derived.ShutString

namespace Go.Proofs.YtkbbcjnickgfjabGreat
namespace fnExactChainOk
open Go.ChangeShapes Go.WideShapes Go.ChangeAt Go.RowKit Go.WideElems
open Go.ChangeMaps (open_string shut_string)
set_option linter.unusedVariables false

theorem own : ownKnob Tryz.prog.godebug = none := by kernel_rfl

set_option maxRecDepth 100000 in
theorem lifted (os : Os) (started : os.Started) (H : Type) (enc : TypeId × Value → H) :
    ReturnsInHanded {} Tryz.checked os 3 .any (Rows.fnExactChainOkSpec.pre6 enc Tryz.prog Tryz.f3 Rows.fnExactChainOkRow.domain false) (Rows.fnExactChainOkSpec.post enc Tryz.prog Tryz.f3 false true false false) := by
  refine returnsInHanded_of_change (C := Tryz.checked) own started (by kernel_rfl) Tryz.func3
    (ChangeSpec.witness6 (enc := enc) (C := Tryz.checked) false ⟨#[], #[.agg #[.string ByteArray.empty, .int .i64 0, .slice none 0 0, .int .i64 0, .string ByteArray.empty, .int .i64 0], .slice none 0 0], []⟩ 8 (by kernel_rfl) (by kernel_rfl) (by kernel_rfl) (by kernel_rfl)) ?_
  intro W base args ds gs before hval0 hW hcnd _
  have hval : ∀ (j : Nat) t v, Tryz.f3.params[j]? = some t → args[j]? = some v → Value.okWide Tryz.prog W .any base t v := hval0
  have hW' := hW
  obtain ⟨p, q, hA0, hV, rfl, hfz, hnd⟩ := hW
  have hA : DataW.TrodAll enc Tryz.prog W 0 (fun _ => true) true Tryz.f3.params.toList args.toList ds p := hA0
  rw [Tryz.params3] at hA hval
  obtain ⟨v0, vs0, d0, ds0, p0, q0, hargs, rfl, rfl, h0, r0⟩ := trodAll_cons hA
  obtain ⟨v1, vs1, d1, ds1, p1, q1, rfl, rfl, rfl, h1, r1⟩ := trodAll_cons r0
  obtain ⟨rfl, rfl, rfl⟩ := trodAll_nil r1
  obtain rfl : args = #[v0, v1] := by cases args; simp_all
  obtain ⟨rfl, rfl⟩ := trodVars_none hV
  have hlt0 : ∀ x ∈ p0, x.block < W.heap.size := fun x hx => by simpa using hW'.lt x (by simp [hx])
  have hlt1 : ∀ x ∈ p1, x.block < W.heap.size := fun x hx => by simpa using hW'.lt x (by simp [hx])
  obtain ⟨b0, rb0, kb0⟩ := open_book (hval 0 24 v0 rfl rfl) h0
  obtain ⟨a1, len1, cap1, rfl⟩ := okWide_slice Tryz.underlying25 (hval 1 25 v1 rfl rfl)
  obtain ⟨rs1, rr1, nr1, zr1⟩ := open_recs h1
  clear hA0 hval0
  refine (lawChainOk_any b0 rs1 v0 _ W rb0 kb0 rr1 nr1 zr1 (fun h' h'' v' u' W' hv hu => implChainOk_any b0 rs1 v' u' W' hv hu h' (fun r hr => by have := h'' r hr; omega))).mono fun e W' ⟨he, hg⟩ => ?_
  subst he
  exact ⟨_, rfl, _, _, _, [], p0 ++ (p1 ++ []), [], hW', trodAll_mk1 (shut_bool Tryz.underlying4 _), (trodAll_cons_mk (Below.trod (by kernel_rfl) (by kernel_rfl) (of_decide_eq_true (by kernel_rfl)) h0 hg hlt0) (trodAll_cons_mk (Below.trod (by kernel_rfl) (by kernel_rfl) (of_decide_eq_true (by kernel_rfl)) h1 hg hlt1) trodAll_mk0)), rfl, hg.frame _, fun h => by cases h⟩

theorem over : Rows.fnExactChainOkRow.holds Tryz.pinned (OpenSpec.ofChange Rows.fnExactChainOkSpec) :=
  OpenClaim.holds_of_wide 3 Tryz.f3 rfl rfl rfl rfl rfl rfl rfl ⟨rfl, rfl, rfl, rfl, rfl⟩ rfl rfl rfl rfl rfl (by kernel_rfl) Tryz.func3 (by kernel_rfl)
    (of_decide_eq_true (by kernel_rfl)) (by unfold Func.isWrapper; first | (rw [if_pos (by decide +kernel)]; kernel_rfl) | (rw [if_neg (by decide +kernel)]; exact ⟨rfl, rfl⟩))
    (fun os started H enc _ => lifted os started H enc)
end fnExactChainOk
theorem fnExactChainOk_holds : Rows.FnExactChainOkSaid := fnExactChainOk.over
end Go.Proofs.YtkbbcjnickgfjabGreat
