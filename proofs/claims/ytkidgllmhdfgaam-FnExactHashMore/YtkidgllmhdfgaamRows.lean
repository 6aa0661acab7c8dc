/-
  No cell of these rows narrows 'for every input' (looked for: loops, veiled, ifaces, maps, wideKeys, modest, calm, conditions, laid).
  DERIVED. THE GIVEN ROWS OF THIS SEAT. 5 by the template 'for every input the law returns true; each argument reads behind the call as it read before'; 0 by the template 'total and deterministic' (their statements: YtkidgllmhdfgaamTotals.lean).
  GIVEN WITH THE SEED: the statements are not yours to turn. If you find one false, say at which input.
  Laid BY PROGRAM, IN A SANDBOX (cutbox-rows.mjs): the forced cells as the released guide's own fill.sh prints them over the translation cadf8c856d8a908e… (all of the seat's roots in one cut). By AI agents, Wed Nov 11 2026. No macro, syntax, notation, axiom, sorry.
-/
import Derived.Test.YtkidgllmhdfgaamChecked
import GoSem.Claim
import GoSem.ClaimJoined
import GoSem.ClaimMapViews
import Derived.JoinedTies
import Derived.KernelRfl
namespace Go.Proofs.Ytkidgllmhdfgaam
/- THE CELL 'sum', in the pinned program and in every row, IS THE sha256 OF THE DUMP (.gsa) THAT YtkidgllmhdfgaamProg.lean LOADS. Nothing in Lean hashes anything: it is a label: what it is worth is what the hold of that sum in a sandbox is worth. -/
noncomputable def Try.pinned : Pinned := { name := "ytkidgllmhdfgaam", sum := "cadf8c856d8a908ef26723f255f02f77fd755980e2ac08ea1fb51679f1b7dc97", checked := Try.checked }
namespace Rows
def none {H : Type} : Left H := { results := [], args := [] }

/-- 'laws.FnExactDigestOf': WHATEVER THE INPUT: true; the input reads as it did. -/
def fnExactDigestOfSpec : ChangeSpec := { name := "fnExactDigestOf", fn := fun _ => fun
  | [d] => { results := [.lit (.bool true)], args := [d] }
  | _ => none }
def fnExactDigestOfRow : OpenClaim := { program := "ytkidgllmhdfgaam", sum := "cadf8c856d8a908ef26723f255f02f77fd755980e2ac08ea1fb51679f1b7dc97", func := "loop.example/g00186/laws.FnExactDigestOf", spec := "fnExactDigestOf", unfollowed := true, recurses := true, apart := false }
def FnExactDigestOfSaid : Prop := fnExactDigestOfRow.holds Try.pinned (OpenSpec.ofChange fnExactDigestOfSpec)

/-- ITS FALSE NEIGHBOUR: 'it returns false'. Refute it at one input. -/
def fnExactDigestOfWrong : ChangeSpec := { name := "fnExactDigestOf", fn := fun _ => fun
  | [d] => { results := [.lit (.bool false)], args := [d] }
  | _ => none }
def FnExactDigestOfWrongFalsely : Prop := fnExactDigestOfRow.holds Try.pinned (OpenSpec.ofChange fnExactDigestOfWrong)

/-- 'laws.FnExactHasherNew': WHATEVER THE INPUT: true; the input reads as it did. -/
def fnExactHasherNewSpec : ChangeSpec := { name := "fnExactHasherNew", fn := fun _ => fun
  | [] => { results := [.lit (.bool true)], args := [] }
  | _ => none }
def fnExactHasherNewRow : OpenClaim := { program := "ytkidgllmhdfgaam", sum := "cadf8c856d8a908ef26723f255f02f77fd755980e2ac08ea1fb51679f1b7dc97", func := "loop.example/g00186/laws.FnExactHasherNew", spec := "fnExactHasherNew", apart := false }
def FnExactHasherNewSaid : Prop := fnExactHasherNewRow.holds Try.pinned (OpenSpec.ofChange fnExactHasherNewSpec)

/-- ITS FALSE NEIGHBOUR: 'it returns false'. Refute it at one input. -/
def fnExactHasherNewWrong : ChangeSpec := { name := "fnExactHasherNew", fn := fun _ => fun
  | [] => { results := [.lit (.bool false)], args := [] }
  | _ => none }
def FnExactHasherNewWrongFalsely : Prop := fnExactHasherNewRow.holds Try.pinned (OpenSpec.ofChange fnExactHasherNewWrong)

/-- 'laws.FnExactHasherOk': WHATEVER THE INPUT: true; the input reads as it did. -/
def fnExactHasherOkSpec : ChangeSpec := { name := "fnExactHasherOk", fn := fun _ => fun
  | [d] => { results := [.lit (.bool true)], args := [d] }
  | _ => none }
def fnExactHasherOkRow : OpenClaim := { program := "ytkidgllmhdfgaam", sum := "cadf8c856d8a908ef26723f255f02f77fd755980e2ac08ea1fb51679f1b7dc97", func := "loop.example/g00186/laws.FnExactHasherOk", spec := "fnExactHasherOk", apart := false }
def FnExactHasherOkSaid : Prop := fnExactHasherOkRow.holds Try.pinned (OpenSpec.ofChange fnExactHasherOkSpec)

/-- ITS FALSE NEIGHBOUR: 'it returns false'. Refute it at one input. -/
def fnExactHasherOkWrong : ChangeSpec := { name := "fnExactHasherOk", fn := fun _ => fun
  | [d] => { results := [.lit (.bool false)], args := [d] }
  | _ => none }
def FnExactHasherOkWrongFalsely : Prop := fnExactHasherOkRow.holds Try.pinned (OpenSpec.ofChange fnExactHasherOkWrong)

/-- 'laws.FnExactHashMore': WHATEVER THE INPUT: true; the input reads as it did. -/
def fnExactHashMoreSpec : ChangeSpec := { name := "fnExactHashMore", fn := fun _ => fun
  | [d1, d2] => { results := [.lit (.bool true)], args := [d1, d2] }
  | _ => none }
def fnExactHashMoreRow : OpenClaim := { program := "ytkidgllmhdfgaam", sum := "cadf8c856d8a908ef26723f255f02f77fd755980e2ac08ea1fb51679f1b7dc97", func := "loop.example/g00186/laws.FnExactHashMore", spec := "fnExactHashMore", unfollowed := true, recurses := true, apart := false }
def FnExactHashMoreSaid : Prop := fnExactHashMoreRow.holds Try.pinned (OpenSpec.ofChange fnExactHashMoreSpec)

/-- ITS FALSE NEIGHBOUR: 'it returns false'. Refute it at one input. -/
def fnExactHashMoreWrong : ChangeSpec := { name := "fnExactHashMore", fn := fun _ => fun
  | [d1, d2] => { results := [.lit (.bool false)], args := [d1, d2] }
  | _ => none }
def FnExactHashMoreWrongFalsely : Prop := fnExactHashMoreRow.holds Try.pinned (OpenSpec.ofChange fnExactHashMoreWrong)

/-- 'laws.FnExactHashEnd': WHATEVER THE INPUT: true; the input reads as it did. -/
def fnExactHashEndSpec : ChangeSpec := { name := "fnExactHashEnd", fn := fun _ => fun
  | [d] => { results := [.lit (.bool true)], args := [d] }
  | _ => none }
def fnExactHashEndRow : OpenClaim := { program := "ytkidgllmhdfgaam", sum := "cadf8c856d8a908ef26723f255f02f77fd755980e2ac08ea1fb51679f1b7dc97", func := "loop.example/g00186/laws.FnExactHashEnd", spec := "fnExactHashEnd", unfollowed := true, recurses := true, apart := false }
def FnExactHashEndSaid : Prop := fnExactHashEndRow.holds Try.pinned (OpenSpec.ofChange fnExactHashEndSpec)

/-- ITS FALSE NEIGHBOUR: 'it returns false'. Refute it at one input. -/
def fnExactHashEndWrong : ChangeSpec := { name := "fnExactHashEnd", fn := fun _ => fun
  | [d] => { results := [.lit (.bool false)], args := [d] }
  | _ => none }
def FnExactHashEndWrongFalsely : Prop := fnExactHashEndRow.holds Try.pinned (OpenSpec.ofChange fnExactHashEndWrong)

/- THE SECOND FORM. 'bulk': how many values and letters a reading holds, each counted each time it is reached (what is shared counts as often as it is met; a slice's spare places count too). A statement '..UptoSaid' is the law's where the arguments, and the package variables that the reading takes, are together of bulk at most 1048576: NARROWER than '..Said'. Prove '..Said' where nothing that the law and all that it calls make is longer than what came in: it says more and counts as full. Else prove '..UptoSaid'. A law counts once. -/
mutual
def uptoBulk {H : Type} : DataW H → Nat
  | .lit (.string bytes) => bytes.length + 1
  | .lit _ => 1
  | .nil => 1
  | .ptr d => uptoBulk d + 1
  | .slice elems spare => uptoBulkAll elems + uptoBulkAll spare + 1
  | .agg parts => uptoBulkAll parts + 1
  | .iface _ d => uptoBulk d + 1
  | .map entries => uptoBulkEntries entries + 1
  | .held _ => 1
def uptoBulkAll {H : Type} : List (DataW H) → Nat
  | [] => 0
  | d :: r => uptoBulk d + uptoBulkAll r
def uptoBulkEntries {H : Type} : List (Lit × DataW H) → Nat
  | [] => 0
  | x :: r => uptoBulkEntry x + uptoBulkEntries r
def uptoBulkEntry {H : Type} : Lit × DataW H → Nat
  | (.string bytes, d) => bytes.length + uptoBulk d + 1
  | (_, d) => uptoBulk d + 1
 end
def uptoSmall : (H : Type) → List (DataW H) → Bool := fun _ ds => decide (uptoBulkAll ds ≤ 1048576)
def OpenSpec.upto (s : _root_.Go.ChangeSpec) : _root_.Go.OpenSpec := { _root_.Go.OpenSpec.ofChange s with cond := some uptoSmall }

/-- 'laws.FnExactDigestOf', WHERE WHAT IT READS IS OF BULK AT MOST 1048576: true; the input reads as it did. -/
def fnExactDigestOfUptoRow : OpenClaim := { program := "ytkidgllmhdfgaam", sum := "cadf8c856d8a908ef26723f255f02f77fd755980e2ac08ea1fb51679f1b7dc97", func := "loop.example/g00186/laws.FnExactDigestOf", spec := "fnExactDigestOf", unfollowed := true, recurses := true, apart := false, narrowed := true }
def FnExactDigestOfUptoSaid : Prop := fnExactDigestOfUptoRow.holds Try.pinned (OpenSpec.upto fnExactDigestOfSpec)

/-- 'laws.FnExactHasherNew', WHERE WHAT IT READS IS OF BULK AT MOST 1048576: true; the input reads as it did. -/
def fnExactHasherNewUptoRow : OpenClaim := { program := "ytkidgllmhdfgaam", sum := "cadf8c856d8a908ef26723f255f02f77fd755980e2ac08ea1fb51679f1b7dc97", func := "loop.example/g00186/laws.FnExactHasherNew", spec := "fnExactHasherNew", apart := false, narrowed := true }
def FnExactHasherNewUptoSaid : Prop := fnExactHasherNewUptoRow.holds Try.pinned (OpenSpec.upto fnExactHasherNewSpec)

/-- 'laws.FnExactHasherOk', WHERE WHAT IT READS IS OF BULK AT MOST 1048576: true; the input reads as it did. -/
def fnExactHasherOkUptoRow : OpenClaim := { program := "ytkidgllmhdfgaam", sum := "cadf8c856d8a908ef26723f255f02f77fd755980e2ac08ea1fb51679f1b7dc97", func := "loop.example/g00186/laws.FnExactHasherOk", spec := "fnExactHasherOk", apart := false, narrowed := true }
def FnExactHasherOkUptoSaid : Prop := fnExactHasherOkUptoRow.holds Try.pinned (OpenSpec.upto fnExactHasherOkSpec)

/-- 'laws.FnExactHashMore', WHERE WHAT IT READS IS OF BULK AT MOST 1048576: true; the input reads as it did. -/
def fnExactHashMoreUptoRow : OpenClaim := { program := "ytkidgllmhdfgaam", sum := "cadf8c856d8a908ef26723f255f02f77fd755980e2ac08ea1fb51679f1b7dc97", func := "loop.example/g00186/laws.FnExactHashMore", spec := "fnExactHashMore", unfollowed := true, recurses := true, apart := false, narrowed := true }
def FnExactHashMoreUptoSaid : Prop := fnExactHashMoreUptoRow.holds Try.pinned (OpenSpec.upto fnExactHashMoreSpec)

/-- 'laws.FnExactHashEnd', WHERE WHAT IT READS IS OF BULK AT MOST 1048576: true; the input reads as it did. -/
def fnExactHashEndUptoRow : OpenClaim := { program := "ytkidgllmhdfgaam", sum := "cadf8c856d8a908ef26723f255f02f77fd755980e2ac08ea1fb51679f1b7dc97", func := "loop.example/g00186/laws.FnExactHashEnd", spec := "fnExactHashEnd", unfollowed := true, recurses := true, apart := false, narrowed := true }
def FnExactHashEndUptoSaid : Prop := fnExactHashEndUptoRow.holds Try.pinned (OpenSpec.upto fnExactHashEndSpec)

end Rows
end Go.Proofs.Ytkidgllmhdfgaam
