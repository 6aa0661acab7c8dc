/-
  No cell of these rows narrows 'for every input' (looked for: loops, veiled, ifaces, maps, wideKeys, modest, calm, conditions, laid).
  DERIVED. THE GIVEN ROWS OF THIS SEAT. 4 by the template 'for every input the law returns true; each argument reads behind the call as it read before'; 0 by the template 'total and deterministic' (their statements: YtjgnjjphankhnacTotals.lean).
  GIVEN WITH THE SEED: the statements are not yours to turn. If you find one false, say at which input.
  Laid BY PROGRAM, IN A SANDBOX (cutbox-rows.mjs): the forced cells as the released guide's own fill.sh prints them over the translation 5d2cefa4eed81263… (all of the seat's roots in one cut). By AI agents, Wed Nov 11 2026. No macro, syntax, notation, axiom, sorry.
-/
import Derived.Test.YtjgnjjphankhnacChecked
import GoSem.Claim
import GoSem.ClaimJoined
import GoSem.ClaimMapViews
import Derived.JoinedTies
import Derived.KernelRfl
namespace Go.Proofs.Ytjgnjjphankhnac
/- THE CELL 'sum', in the pinned program and in every row, IS THE sha256 OF THE DUMP (.gsa) THAT YtjgnjjphankhnacProg.lean LOADS. Nothing in Lean hashes anything: it is a label: what it is worth is what the hold of that sum in a sandbox is worth. -/
noncomputable def Try.pinned : Pinned := { name := "ytjgnjjphankhnac", sum := "5d2cefa4eed812636d46ef7b3374e533b43f1d53e1206ebffdc43ec1dd29678e", checked := Try.checked }
namespace Rows
def none {H : Type} : Left H := { results := [], args := [] }

/-- 'laws.FnExactHyperCheck': WHATEVER THE INPUT: true; the input reads as it did. -/
def fnExactHyperCheckSpec : ChangeSpec := { name := "fnExactHyperCheck", fn := fun _ => fun
  | [d1, d2, d3] => { results := [.lit (.bool true)], args := [d1, d2, d3] }
  | _ => none }
def fnExactHyperCheckRow : OpenClaim := { program := "ytjgnjjphankhnac", sum := "5d2cefa4eed812636d46ef7b3374e533b43f1d53e1206ebffdc43ec1dd29678e", func := "loop.example/g00186/laws.FnExactHyperCheck", spec := "fnExactHyperCheck", inPlace := ["internal/abi.NoEscape", "internal/bytealg.MakeNoZero"], unfollowed := true, recurses := true, apart := false }
def FnExactHyperCheckSaid : Prop := fnExactHyperCheckRow.holds Try.pinned (OpenSpec.ofChange fnExactHyperCheckSpec)

/-- ITS FALSE NEIGHBOUR: 'it returns false'. Refute it at one input. -/
def fnExactHyperCheckWrong : ChangeSpec := { name := "fnExactHyperCheck", fn := fun _ => fun
  | [d1, d2, d3] => { results := [.lit (.bool false)], args := [d1, d2, d3] }
  | _ => none }
def FnExactHyperCheckWrongFalsely : Prop := fnExactHyperCheckRow.holds Try.pinned (OpenSpec.ofChange fnExactHyperCheckWrong)

/-- 'laws.FnExactHyperIndex': WHATEVER THE INPUT: true; the input reads as it did. -/
def fnExactHyperIndexSpec : ChangeSpec := { name := "fnExactHyperIndex", fn := fun _ => fun
  | [d] => { results := [.lit (.bool true)], args := [d] }
  | _ => none }
def fnExactHyperIndexRow : OpenClaim := { program := "ytjgnjjphankhnac", sum := "5d2cefa4eed812636d46ef7b3374e533b43f1d53e1206ebffdc43ec1dd29678e", func := "loop.example/g00186/laws.FnExactHyperIndex", spec := "fnExactHyperIndex", apart := false }
def FnExactHyperIndexSaid : Prop := fnExactHyperIndexRow.holds Try.pinned (OpenSpec.ofChange fnExactHyperIndexSpec)

/-- ITS FALSE NEIGHBOUR: 'it returns false'. Refute it at one input. -/
def fnExactHyperIndexWrong : ChangeSpec := { name := "fnExactHyperIndex", fn := fun _ => fun
  | [d] => { results := [.lit (.bool false)], args := [d] }
  | _ => none }
def FnExactHyperIndexWrongFalsely : Prop := fnExactHyperIndexRow.holds Try.pinned (OpenSpec.ofChange fnExactHyperIndexWrong)

/-- 'laws.FnExactHyperText': WHATEVER THE INPUT: true; the input reads as it did. -/
def fnExactHyperTextSpec : ChangeSpec := { name := "fnExactHyperText", fn := fun _ => fun
  | [d] => { results := [.lit (.bool true)], args := [d] }
  | _ => none }
def fnExactHyperTextRow : OpenClaim := { program := "ytjgnjjphankhnac", sum := "5d2cefa4eed812636d46ef7b3374e533b43f1d53e1206ebffdc43ec1dd29678e", func := "loop.example/g00186/laws.FnExactHyperText", spec := "fnExactHyperText", inPlace := ["internal/abi.NoEscape", "internal/bytealg.MakeNoZero"], apart := false }
def FnExactHyperTextSaid : Prop := fnExactHyperTextRow.holds Try.pinned (OpenSpec.ofChange fnExactHyperTextSpec)

/-- ITS FALSE NEIGHBOUR: 'it returns false'. Refute it at one input. -/
def fnExactHyperTextWrong : ChangeSpec := { name := "fnExactHyperText", fn := fun _ => fun
  | [d] => { results := [.lit (.bool false)], args := [d] }
  | _ => none }
def FnExactHyperTextWrongFalsely : Prop := fnExactHyperTextRow.holds Try.pinned (OpenSpec.ofChange fnExactHyperTextWrong)

/-- 'laws.FnExactReadHyper': WHATEVER THE INPUT: true; the input reads as it did. -/
def fnExactReadHyperSpec : ChangeSpec := { name := "fnExactReadHyper", fn := fun _ => fun
  | [d] => { results := [.lit (.bool true)], args := [d] }
  | _ => none }
def fnExactReadHyperRow : OpenClaim := { program := "ytjgnjjphankhnac", sum := "5d2cefa4eed812636d46ef7b3374e533b43f1d53e1206ebffdc43ec1dd29678e", func := "loop.example/g00186/laws.FnExactReadHyper", spec := "fnExactReadHyper", apart := false }
def FnExactReadHyperSaid : Prop := fnExactReadHyperRow.holds Try.pinned (OpenSpec.ofChange fnExactReadHyperSpec)

/-- ITS FALSE NEIGHBOUR: 'it returns false'. Refute it at one input. -/
def fnExactReadHyperWrong : ChangeSpec := { name := "fnExactReadHyper", fn := fun _ => fun
  | [d] => { results := [.lit (.bool false)], args := [d] }
  | _ => none }
def FnExactReadHyperWrongFalsely : Prop := fnExactReadHyperRow.holds Try.pinned (OpenSpec.ofChange fnExactReadHyperWrong)

/- THE SECOND FORM. 'bulk': how many values and letters a reading holds, each counted each time it is reached (what is shared counts as often as it is met; a slice's spare places count too). A statement '..UptoSaid' is the law's where the arguments, and the package variables that the reading takes, are together of bulk at most 1048576: NARROWER than '..Said'. Prove '..Said' where nothing that the law and all that it calls make is longer than what came in: it says more and counts as full. Else prove '..UptoSaid'. A law counts once. -/
mutual
def uptoBulk {H : Type} : DataW H → Nat
  | .lit (.string bytes) => bytes.length + 1
  | .lit _ => 1
  | .nil => 1
  | .ptr d => uptoBulk d + 1
  | .slice elems spare => uptoBulkAll elems + uptoBulkAll spare + 1
  | .agg parts => uptoBulkAll parts + 1
  | .iface _ d => uptoBulk d + 1
  | .map entries => uptoBulkEntries entries + 1
  | .held _ => 1
def uptoBulkAll {H : Type} : List (DataW H) → Nat
  | [] => 0
  | d :: r => uptoBulk d + uptoBulkAll r
def uptoBulkEntries {H : Type} : List (Lit × DataW H) → Nat
  | [] => 0
  | x :: r => uptoBulkEntry x + uptoBulkEntries r
def uptoBulkEntry {H : Type} : Lit × DataW H → Nat
  | (.string bytes, d) => bytes.length + uptoBulk d + 1
  | (_, d) => uptoBulk d + 1
 end
def uptoSmall : (H : Type) → List (DataW H) → Bool := fun _ ds => decide (uptoBulkAll ds ≤ 1048576)
def OpenSpec.upto (s : _root_.Go.ChangeSpec) : _root_.Go.OpenSpec := { _root_.Go.OpenSpec.ofChange s with cond := some uptoSmall }

/-- 'laws.FnExactHyperCheck', WHERE WHAT IT READS IS OF BULK AT MOST 1048576: true; the input reads as it did. -/
def fnExactHyperCheckUptoRow : OpenClaim := { program := "ytjgnjjphankhnac", sum := "5d2cefa4eed812636d46ef7b3374e533b43f1d53e1206ebffdc43ec1dd29678e", func := "loop.example/g00186/laws.FnExactHyperCheck", spec := "fnExactHyperCheck", inPlace := ["internal/abi.NoEscape", "internal/bytealg.MakeNoZero"], unfollowed := true, recurses := true, apart := false, narrowed := true }
def FnExactHyperCheckUptoSaid : Prop := fnExactHyperCheckUptoRow.holds Try.pinned (OpenSpec.upto fnExactHyperCheckSpec)

/-- 'laws.FnExactHyperIndex', WHERE WHAT IT READS IS OF BULK AT MOST 1048576: true; the input reads as it did. -/
def fnExactHyperIndexUptoRow : OpenClaim := { program := "ytjgnjjphankhnac", sum := "5d2cefa4eed812636d46ef7b3374e533b43f1d53e1206ebffdc43ec1dd29678e", func := "loop.example/g00186/laws.FnExactHyperIndex", spec := "fnExactHyperIndex", apart := false, narrowed := true }
def FnExactHyperIndexUptoSaid : Prop := fnExactHyperIndexUptoRow.holds Try.pinned (OpenSpec.upto fnExactHyperIndexSpec)

/-- 'laws.FnExactHyperText', WHERE WHAT IT READS IS OF BULK AT MOST 1048576: true; the input reads as it did. -/
def fnExactHyperTextUptoRow : OpenClaim := { program := "ytjgnjjphankhnac", sum := "5d2cefa4eed812636d46ef7b3374e533b43f1d53e1206ebffdc43ec1dd29678e", func := "loop.example/g00186/laws.FnExactHyperText", spec := "fnExactHyperText", inPlace := ["internal/abi.NoEscape", "internal/bytealg.MakeNoZero"], apart := false, narrowed := true }
def FnExactHyperTextUptoSaid : Prop := fnExactHyperTextUptoRow.holds Try.pinned (OpenSpec.upto fnExactHyperTextSpec)

/-- 'laws.FnExactReadHyper', WHERE WHAT IT READS IS OF BULK AT MOST 1048576: true; the input reads as it did. -/
def fnExactReadHyperUptoRow : OpenClaim := { program := "ytjgnjjphankhnac", sum := "5d2cefa4eed812636d46ef7b3374e533b43f1d53e1206ebffdc43ec1dd29678e", func := "loop.example/g00186/laws.FnExactReadHyper", spec := "fnExactReadHyper", apart := false, narrowed := true }
def FnExactReadHyperUptoSaid : Prop := fnExactReadHyperUptoRow.holds Try.pinned (OpenSpec.upto fnExactReadHyperSpec)

end Rows
end Go.Proofs.Ytjgnjjphankhnac
