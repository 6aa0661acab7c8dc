/-
  A signature of each index of a drawn tree of trees is right for its text, tells its index, and comes back from its bytes, for every code that inputs are drawn from. No condition.
-/
import Derived.Test.YtjgnjjphankhnaaGreatRows
import Derived.Test.YtjgnjjphankhnaaGreatMga1
import Derived.Test.YtjgnjjphankhnaaGreatMga2
import Derived.Test.YtjgnjjphankhnaaGreatMga3
import Derived.Test.YtjgnjjphankhnaaGreatMga4
import Derived.Test.YtjgnjjphankhnaaGreatMga5
import Derived.Test.YtjgnjjphankhnaaGreatMga6
import Derived.Test.YtjgnjjphankhnaaGreatMga7
import Derived.Test.YtjgnjjphankhnaaGreatMga8
import Derived.Test.YtjgnjjphankhnaaGreatMga9
import Derived.Test.YtjgnjjphankhnaaGreatMga10
import Derived.Test.YtjgnjjphankhnaaGreatMga11
import Derived.Test.YtjgnjjphankhnaaGreatMga12
import Derived.Below
import Derived.Carry
import Derived.WalkKit
import Derived.ProofKit
import Derived.OpenShut
import Derived.ShutString
namespace Go.Proofs.YtjgnjjphankhnaaGreat
namespace fnHypers
open Go.ChangeShapes Go.WideShapes Go.ChangeAt Go.RowKit Go.WideElems
open Go.ChangeMaps (open_string shut_string)
set_option linter.unusedVariables false

theorem own : ownKnob Tryz.prog.godebug = none := by kernel_rfl

set_option maxRecDepth 100000 in
theorem lifted (os : Os) (started : os.Started) (H : Type) (enc : TypeId × Value → H) :
    ReturnsInHanded {} Tryz.checked os 4 .any (Rows.fnHypersSpec.pre6 enc Tryz.prog Tryz.f4 Rows.fnHypersRow.domain false) (Rows.fnHypersSpec.post enc Tryz.prog Tryz.f4 false true false false) := by
  refine returnsInHanded_of_change (C := Tryz.checked) own started (by kernel_rfl) Tryz.func4
    (ChangeSpec.witness6 (enc := enc) (C := Tryz.checked) false ⟨#[], #[.slice none 0 0], []⟩ 8 (by kernel_rfl) (by kernel_rfl) (by kernel_rfl) (by kernel_rfl)) ?_
  intro W base args ds gs before hval0 hW hcnd _
  have hval : ∀ (j : Nat) t v, Tryz.f4.params[j]? = some t → args[j]? = some v → Value.okWide Tryz.prog W .any base t v := hval0
  have hW' := hW
  obtain ⟨p, q, hA0, hV, rfl, hfz, hnd⟩ := hW
  have hA : DataW.TrodAll enc Tryz.prog W 0 (fun _ => true) true Tryz.f4.params.toList args.toList ds p := hA0
  rw [Tryz.params4] at hA hval
  obtain ⟨v0, vs0, d0, ds0, p0, q0, hargs, rfl, rfl, h0, r0⟩ := trodAll_cons hA
  obtain ⟨rfl, rfl, rfl⟩ := trodAll_nil r0
  obtain rfl : args = #[v0] := by cases args; simp_all
  obtain ⟨rfl, rfl⟩ := trodVars_none hV
  have hlt0 : ∀ x ∈ p0, x.block < W.heap.size := fun x hx => by simpa using hW'.lt x (by simp [hx])
  obtain ⟨a0, len0, cap0, rfl⟩ := okWide_slice Tryz.underlying22 (hval 0 22 v0 rfl rfl)
  clear hA0 hval0
  refine (lawHypers_any W a0 len0 cap0 (src_of h0 hlt0) (fun s W' h _ => implHyperPublic_any s h W') (fun s m i W' h hm _ => implHyperSign_any s i m h hm W') (fun S W' v _ _ r => implHyperText_any S v W' r) (fun t W' _ _ => implReadHyper_any t W') (fun p m S W' v _ hm hz _ _ r => implHyperCheck_any p m S v W' r hz hm) (fun S W' v _ _ r => implHyperIndex_any S v W' r)).mono fun e W' ⟨he, hg⟩ => ?_
  subst he
  exact ⟨_, rfl, _, _, _, [], p0 ++ [], [], hW', trodAll_mk1 (shut_bool Tryz.underlying4 _), (trodAll_cons_mk (Below.trod (by kernel_rfl) (by kernel_rfl) (of_decide_eq_true (by kernel_rfl)) h0 hg hlt0) trodAll_mk0), rfl, hg.frame _, fun h => by cases h⟩

theorem over : Rows.fnHypersRow.holds Tryz.pinned (OpenSpec.ofChange Rows.fnHypersSpec) :=
  OpenClaim.holds_of_wide 4 Tryz.f4 rfl rfl rfl rfl rfl rfl rfl ⟨rfl, rfl, rfl, rfl, rfl⟩ rfl rfl rfl rfl rfl (by kernel_rfl) Tryz.func4 (by kernel_rfl)
    (of_decide_eq_true (by kernel_rfl)) (by unfold Func.isWrapper; first | (rw [if_pos (by decide +kernel)]; kernel_rfl) | (rw [if_neg (by decide +kernel)]; exact ⟨rfl, rfl⟩))
    (fun os started H enc _ => lifted os started H enc)
end fnHypers
theorem fnHypers_holds : Rows.FnHypersSaid := fnHypers.over
end Go.Proofs.YtjgnjjphankhnaaGreat
