/-
  No cell of these rows narrows 'for every input' (looked for: loops, veiled, ifaces, maps, wideKeys, modest, calm, conditions, laid).
  DERIVED. THE GIVEN ROWS OF THIS SEAT. 6 by the template 'for every input the law returns true; each argument reads behind the call as it read before'; 0 by the template 'total and deterministic' (their statements: YtljjajbkaffofauTotals.lean).
  GIVEN WITH THE SEED: the statements are not yours to turn. If you find one false, say at which input.
  Laid BY PROGRAM, IN A SANDBOX (cutbox-rows.mjs): the forced cells as the released guide's own fill.sh prints them over the translation 68853f59bf922722… (all of the seat's roots in one cut). By AI agents, Wed Nov 11 2026. No macro, syntax, notation, axiom, sorry.
-/
import Derived.Test.YtljjajbkaffofauChecked
import GoSem.Claim
import GoSem.ClaimJoined
import GoSem.ClaimMapViews
import Derived.JoinedTies
import Derived.KernelRfl
namespace Go.Proofs.Ytljjajbkaffofau
/- THE CELL 'sum', in the pinned program and in every row, IS THE sha256 OF THE DUMP (.gsa) THAT YtljjajbkaffofauProg.lean LOADS. Nothing in Lean hashes anything: it is a label: what it is worth is what the hold of that sum in a sandbox is worth. -/
noncomputable def Try.pinned : Pinned := { name := "ytljjajbkaffofau", sum := "68853f59bf922722c835e5714f278760e16992baa13f3853ee8a484c8e56e82e", checked := Try.checked }
namespace Rows
def none {H : Type} : Left H := { results := [], args := [] }

/-- 'laws.FnExactOncePublic': WHATEVER THE INPUT: true; the input reads as it did. -/
def fnExactOncePublicSpec : ChangeSpec := { name := "fnExactOncePublic", fn := fun _ => fun
  | [d1, d2] => { results := [.lit (.bool true)], args := [d1, d2] }
  | _ => none }
def fnExactOncePublicRow : OpenClaim := { program := "ytljjajbkaffofau", sum := "68853f59bf922722c835e5714f278760e16992baa13f3853ee8a484c8e56e82e", func := "loop.example/g00186/laws.FnExactOncePublic", spec := "fnExactOncePublic", inPlace := ["internal/abi.NoEscape", "internal/bytealg.MakeNoZero"], unfollowed := true, recurses := true, apart := false }
def FnExactOncePublicSaid : Prop := fnExactOncePublicRow.holds Try.pinned (OpenSpec.ofChange fnExactOncePublicSpec)

/-- ITS FALSE NEIGHBOUR: 'it returns false'. Refute it at one input. -/
def fnExactOncePublicWrong : ChangeSpec := { name := "fnExactOncePublic", fn := fun _ => fun
  | [d1, d2] => { results := [.lit (.bool false)], args := [d1, d2] }
  | _ => none }
def FnExactOncePublicWrongFalsely : Prop := fnExactOncePublicRow.holds Try.pinned (OpenSpec.ofChange fnExactOncePublicWrong)

/-- 'laws.FnExactOnceSign': WHATEVER THE INPUT: true; the input reads as it did. -/
def fnExactOnceSignSpec : ChangeSpec := { name := "fnExactOnceSign", fn := fun _ => fun
  | [d1, d2, d3] => { results := [.lit (.bool true)], args := [d1, d2, d3] }
  | _ => none }
def fnExactOnceSignRow : OpenClaim := { program := "ytljjajbkaffofau", sum := "68853f59bf922722c835e5714f278760e16992baa13f3853ee8a484c8e56e82e", func := "loop.example/g00186/laws.FnExactOnceSign", spec := "fnExactOnceSign", inPlace := ["internal/abi.NoEscape", "internal/bytealg.MakeNoZero"], unfollowed := true, recurses := true, apart := false }
def FnExactOnceSignSaid : Prop := fnExactOnceSignRow.holds Try.pinned (OpenSpec.ofChange fnExactOnceSignSpec)

/-- ITS FALSE NEIGHBOUR: 'it returns false'. Refute it at one input. -/
def fnExactOnceSignWrong : ChangeSpec := { name := "fnExactOnceSign", fn := fun _ => fun
  | [d1, d2, d3] => { results := [.lit (.bool false)], args := [d1, d2, d3] }
  | _ => none }
def FnExactOnceSignWrongFalsely : Prop := fnExactOnceSignRow.holds Try.pinned (OpenSpec.ofChange fnExactOnceSignWrong)

/-- 'laws.FnExactOnceFound': WHATEVER THE INPUT: true; the input reads as it did. -/
def fnExactOnceFoundSpec : ChangeSpec := { name := "fnExactOnceFound", fn := fun _ => fun
  | [d1, d2, d3] => { results := [.lit (.bool true)], args := [d1, d2, d3] }
  | _ => none }
def fnExactOnceFoundRow : OpenClaim := { program := "ytljjajbkaffofau", sum := "68853f59bf922722c835e5714f278760e16992baa13f3853ee8a484c8e56e82e", func := "loop.example/g00186/laws.FnExactOnceFound", spec := "fnExactOnceFound", inPlace := ["internal/abi.NoEscape", "internal/bytealg.MakeNoZero"], unfollowed := true, recurses := true, apart := false }
def FnExactOnceFoundSaid : Prop := fnExactOnceFoundRow.holds Try.pinned (OpenSpec.ofChange fnExactOnceFoundSpec)

/-- ITS FALSE NEIGHBOUR: 'it returns false'. Refute it at one input. -/
def fnExactOnceFoundWrong : ChangeSpec := { name := "fnExactOnceFound", fn := fun _ => fun
  | [d1, d2, d3] => { results := [.lit (.bool false)], args := [d1, d2, d3] }
  | _ => none }
def FnExactOnceFoundWrongFalsely : Prop := fnExactOnceFoundRow.holds Try.pinned (OpenSpec.ofChange fnExactOnceFoundWrong)

/-- 'laws.FnExactNode': WHATEVER THE INPUT: true; the input reads as it did. -/
def fnExactNodeSpec : ChangeSpec := { name := "fnExactNode", fn := fun _ => fun
  | [d1, d2, d3, d4] => { results := [.lit (.bool true)], args := [d1, d2, d3, d4] }
  | _ => none }
def fnExactNodeRow : OpenClaim := { program := "ytljjajbkaffofau", sum := "68853f59bf922722c835e5714f278760e16992baa13f3853ee8a484c8e56e82e", func := "loop.example/g00186/laws.FnExactNode", spec := "fnExactNode", inPlace := ["internal/abi.NoEscape", "internal/bytealg.MakeNoZero"], unfollowed := true, recurses := true, apart := false }
def FnExactNodeSaid : Prop := fnExactNodeRow.holds Try.pinned (OpenSpec.ofChange fnExactNodeSpec)

/-- ITS FALSE NEIGHBOUR: 'it returns false'. Refute it at one input. -/
def fnExactNodeWrong : ChangeSpec := { name := "fnExactNode", fn := fun _ => fun
  | [d1, d2, d3, d4] => { results := [.lit (.bool false)], args := [d1, d2, d3, d4] }
  | _ => none }
def FnExactNodeWrongFalsely : Prop := fnExactNodeRow.holds Try.pinned (OpenSpec.ofChange fnExactNodeWrong)

/-- 'laws.FnExactLevelUp': WHATEVER THE INPUT: true; the input reads as it did. -/
def fnExactLevelUpSpec : ChangeSpec := { name := "fnExactLevelUp", fn := fun _ => fun
  | [d1, d2] => { results := [.lit (.bool true)], args := [d1, d2] }
  | _ => none }
def fnExactLevelUpRow : OpenClaim := { program := "ytljjajbkaffofau", sum := "68853f59bf922722c835e5714f278760e16992baa13f3853ee8a484c8e56e82e", func := "loop.example/g00186/laws.FnExactLevelUp", spec := "fnExactLevelUp", inPlace := ["internal/abi.NoEscape", "internal/bytealg.MakeNoZero"], unfollowed := true, recurses := true, apart := false }
def FnExactLevelUpSaid : Prop := fnExactLevelUpRow.holds Try.pinned (OpenSpec.ofChange fnExactLevelUpSpec)

/-- ITS FALSE NEIGHBOUR: 'it returns false'. Refute it at one input. -/
def fnExactLevelUpWrong : ChangeSpec := { name := "fnExactLevelUp", fn := fun _ => fun
  | [d1, d2] => { results := [.lit (.bool false)], args := [d1, d2] }
  | _ => none }
def FnExactLevelUpWrongFalsely : Prop := fnExactLevelUpRow.holds Try.pinned (OpenSpec.ofChange fnExactLevelUpWrong)

/-- 'laws.FnExactRootOf': WHATEVER THE INPUT: true; the input reads as it did. -/
def fnExactRootOfSpec : ChangeSpec := { name := "fnExactRootOf", fn := fun _ => fun
  | [d] => { results := [.lit (.bool true)], args := [d] }
  | _ => none }
def fnExactRootOfRow : OpenClaim := { program := "ytljjajbkaffofau", sum := "68853f59bf922722c835e5714f278760e16992baa13f3853ee8a484c8e56e82e", func := "loop.example/g00186/laws.FnExactRootOf", spec := "fnExactRootOf", inPlace := ["internal/abi.NoEscape", "internal/bytealg.MakeNoZero"], unfollowed := true, recurses := true, apart := false }
def FnExactRootOfSaid : Prop := fnExactRootOfRow.holds Try.pinned (OpenSpec.ofChange fnExactRootOfSpec)

/-- ITS FALSE NEIGHBOUR: 'it returns false'. Refute it at one input. -/
def fnExactRootOfWrong : ChangeSpec := { name := "fnExactRootOf", fn := fun _ => fun
  | [d] => { results := [.lit (.bool false)], args := [d] }
  | _ => none }
def FnExactRootOfWrongFalsely : Prop := fnExactRootOfRow.holds Try.pinned (OpenSpec.ofChange fnExactRootOfWrong)

/- THE SECOND FORM. 'bulk': how many values and letters a reading holds, each counted each time it is reached (what is shared counts as often as it is met; a slice's spare places count too). A statement '..UptoSaid' is the law's where the arguments, and the package variables that the reading takes, are together of bulk at most 1048576: NARROWER than '..Said'. Prove '..Said' where nothing that the law and all that it calls make is longer than what came in: it says more and counts as full. Else prove '..UptoSaid'. A law counts once. -/
mutual
def uptoBulk {H : Type} : DataW H → Nat
  | .lit (.string bytes) => bytes.length + 1
  | .lit _ => 1
  | .nil => 1
  | .ptr d => uptoBulk d + 1
  | .slice elems spare => uptoBulkAll elems + uptoBulkAll spare + 1
  | .agg parts => uptoBulkAll parts + 1
  | .iface _ d => uptoBulk d + 1
  | .map entries => uptoBulkEntries entries + 1
  | .held _ => 1
def uptoBulkAll {H : Type} : List (DataW H) → Nat
  | [] => 0
  | d :: r => uptoBulk d + uptoBulkAll r
def uptoBulkEntries {H : Type} : List (Lit × DataW H) → Nat
  | [] => 0
  | x :: r => uptoBulkEntry x + uptoBulkEntries r
def uptoBulkEntry {H : Type} : Lit × DataW H → Nat
  | (.string bytes, d) => bytes.length + uptoBulk d + 1
  | (_, d) => uptoBulk d + 1
 end
def uptoSmall : (H : Type) → List (DataW H) → Bool := fun _ ds => decide (uptoBulkAll ds ≤ 1048576)
def OpenSpec.upto (s : _root_.Go.ChangeSpec) : _root_.Go.OpenSpec := { _root_.Go.OpenSpec.ofChange s with cond := some uptoSmall }

/-- 'laws.FnExactOncePublic', WHERE WHAT IT READS IS OF BULK AT MOST 1048576: true; the input reads as it did. -/
def fnExactOncePublicUptoRow : OpenClaim := { program := "ytljjajbkaffofau", sum := "68853f59bf922722c835e5714f278760e16992baa13f3853ee8a484c8e56e82e", func := "loop.example/g00186/laws.FnExactOncePublic", spec := "fnExactOncePublic", inPlace := ["internal/abi.NoEscape", "internal/bytealg.MakeNoZero"], unfollowed := true, recurses := true, apart := false, narrowed := true }
def FnExactOncePublicUptoSaid : Prop := fnExactOncePublicUptoRow.holds Try.pinned (OpenSpec.upto fnExactOncePublicSpec)

/-- 'laws.FnExactOnceSign', WHERE WHAT IT READS IS OF BULK AT MOST 1048576: true; the input reads as it did. -/
def fnExactOnceSignUptoRow : OpenClaim := { program := "ytljjajbkaffofau", sum := "68853f59bf922722c835e5714f278760e16992baa13f3853ee8a484c8e56e82e", func := "loop.example/g00186/laws.FnExactOnceSign", spec := "fnExactOnceSign", inPlace := ["internal/abi.NoEscape", "internal/bytealg.MakeNoZero"], unfollowed := true, recurses := true, apart := false, narrowed := true }
def FnExactOnceSignUptoSaid : Prop := fnExactOnceSignUptoRow.holds Try.pinned (OpenSpec.upto fnExactOnceSignSpec)

/-- 'laws.FnExactOnceFound', WHERE WHAT IT READS IS OF BULK AT MOST 1048576: true; the input reads as it did. -/
def fnExactOnceFoundUptoRow : OpenClaim := { program := "ytljjajbkaffofau", sum := "68853f59bf922722c835e5714f278760e16992baa13f3853ee8a484c8e56e82e", func := "loop.example/g00186/laws.FnExactOnceFound", spec := "fnExactOnceFound", inPlace := ["internal/abi.NoEscape", "internal/bytealg.MakeNoZero"], unfollowed := true, recurses := true, apart := false, narrowed := true }
def FnExactOnceFoundUptoSaid : Prop := fnExactOnceFoundUptoRow.holds Try.pinned (OpenSpec.upto fnExactOnceFoundSpec)

/-- 'laws.FnExactNode', WHERE WHAT IT READS IS OF BULK AT MOST 1048576: true; the input reads as it did. -/
def fnExactNodeUptoRow : OpenClaim := { program := "ytljjajbkaffofau", sum := "68853f59bf922722c835e5714f278760e16992baa13f3853ee8a484c8e56e82e", func := "loop.example/g00186/laws.FnExactNode", spec := "fnExactNode", inPlace := ["internal/abi.NoEscape", "internal/bytealg.MakeNoZero"], unfollowed := true, recurses := true, apart := false, narrowed := true }
def FnExactNodeUptoSaid : Prop := fnExactNodeUptoRow.holds Try.pinned (OpenSpec.upto fnExactNodeSpec)

/-- 'laws.FnExactLevelUp', WHERE WHAT IT READS IS OF BULK AT MOST 1048576: true; the input reads as it did. -/
def fnExactLevelUpUptoRow : OpenClaim := { program := "ytljjajbkaffofau", sum := "68853f59bf922722c835e5714f278760e16992baa13f3853ee8a484c8e56e82e", func := "loop.example/g00186/laws.FnExactLevelUp", spec := "fnExactLevelUp", inPlace := ["internal/abi.NoEscape", "internal/bytealg.MakeNoZero"], unfollowed := true, recurses := true, apart := false, narrowed := true }
def FnExactLevelUpUptoSaid : Prop := fnExactLevelUpUptoRow.holds Try.pinned (OpenSpec.upto fnExactLevelUpSpec)

/-- 'laws.FnExactRootOf', WHERE WHAT IT READS IS OF BULK AT MOST 1048576: true; the input reads as it did. -/
def fnExactRootOfUptoRow : OpenClaim := { program := "ytljjajbkaffofau", sum := "68853f59bf922722c835e5714f278760e16992baa13f3853ee8a484c8e56e82e", func := "loop.example/g00186/laws.FnExactRootOf", spec := "fnExactRootOf", inPlace := ["internal/abi.NoEscape", "internal/bytealg.MakeNoZero"], unfollowed := true, recurses := true, apart := false, narrowed := true }
def FnExactRootOfUptoSaid : Prop := fnExactRootOfUptoRow.holds Try.pinned (OpenSpec.upto fnExactRootOfSpec)

end Rows
end Go.Proofs.Ytljjajbkaffofau
