/-
  No cell of these rows narrows 'for every input' (looked for: loops, veiled, ifaces, maps, wideKeys, modest, calm, conditions, laid).
  DERIVED. THE GIVEN ROWS OF THIS SEAT. 3 by the template 'for every input the law returns true; each argument reads behind the call as it read before'; 0 by the template 'total and deterministic' (their statements: YtkidgllmhdfgaanTotals.lean).
  GIVEN WITH THE SEED: the statements are not yours to turn. If you find one false, say at which input.
  Laid BY PROGRAM, IN A SANDBOX (cutbox-rows.mjs): the forced cells as the released guide's own fill.sh prints them over the translation eb29e0430225a23e… (all of the seat's roots in one cut). By AI agents, Wed Nov 11 2026. No macro, syntax, notation, axiom, sorry.
-/
import Derived.Test.YtkidgllmhdfgaanChecked
import GoSem.Claim
import GoSem.ClaimJoined
import GoSem.ClaimMapViews
import Derived.JoinedTies
import Derived.KernelRfl
namespace Go.Proofs.Ytkidgllmhdfgaan
/- THE CELL 'sum', in the pinned program and in every row, IS THE sha256 OF THE DUMP (.gsa) THAT YtkidgllmhdfgaanProg.lean LOADS. Nothing in Lean hashes anything: it is a label: what it is worth is what the hold of that sum in a sandbox is worth. -/
noncomputable def Try.pinned : Pinned := { name := "ytkidgllmhdfgaan", sum := "eb29e0430225a23e67f796cea85dc93fba8074ecb912b9e61a28e326feb7dcce", checked := Try.checked }
namespace Rows
def none {H : Type} : Left H := { results := [], args := [] }

/-- 'laws.FnExactMacOf': WHATEVER THE INPUT: true; the input reads as it did. -/
def fnExactMacOfSpec : ChangeSpec := { name := "fnExactMacOf", fn := fun _ => fun
  | [d1, d2] => { results := [.lit (.bool true)], args := [d1, d2] }
  | _ => none }
def fnExactMacOfRow : OpenClaim := { program := "ytkidgllmhdfgaan", sum := "eb29e0430225a23e67f796cea85dc93fba8074ecb912b9e61a28e326feb7dcce", func := "loop.example/g00186/laws.FnExactMacOf", spec := "fnExactMacOf", inPlace := ["internal/abi.NoEscape", "internal/bytealg.MakeNoZero"], unfollowed := true, recurses := true, apart := false }
def FnExactMacOfSaid : Prop := fnExactMacOfRow.holds Try.pinned (OpenSpec.ofChange fnExactMacOfSpec)

/-- ITS FALSE NEIGHBOUR: 'it returns false'. Refute it at one input. -/
def fnExactMacOfWrong : ChangeSpec := { name := "fnExactMacOf", fn := fun _ => fun
  | [d1, d2] => { results := [.lit (.bool false)], args := [d1, d2] }
  | _ => none }
def FnExactMacOfWrongFalsely : Prop := fnExactMacOfRow.holds Try.pinned (OpenSpec.ofChange fnExactMacOfWrong)

/-- 'laws.FnExactExpand': WHATEVER THE INPUT: true; the input reads as it did. -/
def fnExactExpandSpec : ChangeSpec := { name := "fnExactExpand", fn := fun _ => fun
  | [d1, d2, d3] => { results := [.lit (.bool true)], args := [d1, d2, d3] }
  | _ => none }
def fnExactExpandRow : OpenClaim := { program := "ytkidgllmhdfgaan", sum := "eb29e0430225a23e67f796cea85dc93fba8074ecb912b9e61a28e326feb7dcce", func := "loop.example/g00186/laws.FnExactExpand", spec := "fnExactExpand", inPlace := ["internal/abi.NoEscape", "internal/bytealg.MakeNoZero"], unfollowed := true, recurses := true, apart := false }
def FnExactExpandSaid : Prop := fnExactExpandRow.holds Try.pinned (OpenSpec.ofChange fnExactExpandSpec)

/-- ITS FALSE NEIGHBOUR: 'it returns false'. Refute it at one input. -/
def fnExactExpandWrong : ChangeSpec := { name := "fnExactExpand", fn := fun _ => fun
  | [d1, d2, d3] => { results := [.lit (.bool false)], args := [d1, d2, d3] }
  | _ => none }
def FnExactExpandWrongFalsely : Prop := fnExactExpandRow.holds Try.pinned (OpenSpec.ofChange fnExactExpandWrong)

/-- 'laws.FnExactSameMac': WHATEVER THE INPUT: true; the input reads as it did. -/
def fnExactSameMacSpec : ChangeSpec := { name := "fnExactSameMac", fn := fun _ => fun
  | [d1, d2] => { results := [.lit (.bool true)], args := [d1, d2] }
  | _ => none }
def fnExactSameMacRow : OpenClaim := { program := "ytkidgllmhdfgaan", sum := "eb29e0430225a23e67f796cea85dc93fba8074ecb912b9e61a28e326feb7dcce", func := "loop.example/g00186/laws.FnExactSameMac", spec := "fnExactSameMac", apart := false }
def FnExactSameMacSaid : Prop := fnExactSameMacRow.holds Try.pinned (OpenSpec.ofChange fnExactSameMacSpec)

/-- ITS FALSE NEIGHBOUR: 'it returns false'. Refute it at one input. -/
def fnExactSameMacWrong : ChangeSpec := { name := "fnExactSameMac", fn := fun _ => fun
  | [d1, d2] => { results := [.lit (.bool false)], args := [d1, d2] }
  | _ => none }
def FnExactSameMacWrongFalsely : Prop := fnExactSameMacRow.holds Try.pinned (OpenSpec.ofChange fnExactSameMacWrong)

/- THE SECOND FORM. 'bulk': how many values and letters a reading holds, each counted each time it is reached (what is shared counts as often as it is met; a slice's spare places count too). A statement '..UptoSaid' is the law's where the arguments, and the package variables that the reading takes, are together of bulk at most 1048576: NARROWER than '..Said'. Prove '..Said' where nothing that the law and all that it calls make is longer than what came in: it says more and counts as full. Else prove '..UptoSaid'. A law counts once. -/
mutual
def uptoBulk {H : Type} : DataW H → Nat
  | .lit (.string bytes) => bytes.length + 1
  | .lit _ => 1
  | .nil => 1
  | .ptr d => uptoBulk d + 1
  | .slice elems spare => uptoBulkAll elems + uptoBulkAll spare + 1
  | .agg parts => uptoBulkAll parts + 1
  | .iface _ d => uptoBulk d + 1
  | .map entries => uptoBulkEntries entries + 1
  | .held _ => 1
def uptoBulkAll {H : Type} : List (DataW H) → Nat
  | [] => 0
  | d :: r => uptoBulk d + uptoBulkAll r
def uptoBulkEntries {H : Type} : List (Lit × DataW H) → Nat
  | [] => 0
  | x :: r => uptoBulkEntry x + uptoBulkEntries r
def uptoBulkEntry {H : Type} : Lit × DataW H → Nat
  | (.string bytes, d) => bytes.length + uptoBulk d + 1
  | (_, d) => uptoBulk d + 1
 end
def uptoSmall : (H : Type) → List (DataW H) → Bool := fun _ ds => decide (uptoBulkAll ds ≤ 1048576)
def OpenSpec.upto (s : _root_.Go.ChangeSpec) : _root_.Go.OpenSpec := { _root_.Go.OpenSpec.ofChange s with cond := some uptoSmall }

/-- 'laws.FnExactMacOf', WHERE WHAT IT READS IS OF BULK AT MOST 1048576: true; the input reads as it did. -/
def fnExactMacOfUptoRow : OpenClaim := { program := "ytkidgllmhdfgaan", sum := "eb29e0430225a23e67f796cea85dc93fba8074ecb912b9e61a28e326feb7dcce", func := "loop.example/g00186/laws.FnExactMacOf", spec := "fnExactMacOf", inPlace := ["internal/abi.NoEscape", "internal/bytealg.MakeNoZero"], unfollowed := true, recurses := true, apart := false, narrowed := true }
def FnExactMacOfUptoSaid : Prop := fnExactMacOfUptoRow.holds Try.pinned (OpenSpec.upto fnExactMacOfSpec)

/-- 'laws.FnExactExpand', WHERE WHAT IT READS IS OF BULK AT MOST 1048576: true; the input reads as it did. -/
def fnExactExpandUptoRow : OpenClaim := { program := "ytkidgllmhdfgaan", sum := "eb29e0430225a23e67f796cea85dc93fba8074ecb912b9e61a28e326feb7dcce", func := "loop.example/g00186/laws.FnExactExpand", spec := "fnExactExpand", inPlace := ["internal/abi.NoEscape", "internal/bytealg.MakeNoZero"], unfollowed := true, recurses := true, apart := false, narrowed := true }
def FnExactExpandUptoSaid : Prop := fnExactExpandUptoRow.holds Try.pinned (OpenSpec.upto fnExactExpandSpec)

/-- 'laws.FnExactSameMac', WHERE WHAT IT READS IS OF BULK AT MOST 1048576: true; the input reads as it did. -/
def fnExactSameMacUptoRow : OpenClaim := { program := "ytkidgllmhdfgaan", sum := "eb29e0430225a23e67f796cea85dc93fba8074ecb912b9e61a28e326feb7dcce", func := "loop.example/g00186/laws.FnExactSameMac", spec := "fnExactSameMac", apart := false, narrowed := true }
def FnExactSameMacUptoSaid : Prop := fnExactSameMacUptoRow.holds Try.pinned (OpenSpec.upto fnExactSameMacSpec)

end Rows
end Go.Proofs.Ytkidgllmhdfgaan
