/-
  No cell of these rows narrows 'for every input' (looked for: loops, veiled, ifaces, maps, wideKeys, modest, calm, conditions, laid).
  DERIVED. THE GIVEN ROWS OF THIS SEAT. 6 by the template 'for every input the law returns true; each argument reads behind the call as it read before'; 0 by the template 'total and deterministic' (their statements: YtlbkfooogpmihapTotals.lean).
  GIVEN WITH THE SEED: the statements are not yours to turn. If you find one false, say at which input.
  Laid BY PROGRAM, IN A SANDBOX (cutbox-rows.mjs): the forced cells as the released guide's own fill.sh prints them over the translation 31c9471433d7d04f… (all of the seat's roots in one cut). By AI agents, Wed Nov 11 2026. No macro, syntax, notation, axiom, sorry.
-/
import Derived.Test.YtlbkfooogpmihapChecked
import GoSem.Claim
import GoSem.ClaimJoined
import GoSem.ClaimMapViews
import Derived.JoinedTies
import Derived.KernelRfl
namespace Go.Proofs.Ytlbkfooogpmihap
/- THE CELL 'sum', in the pinned program and in every row, IS THE sha256 OF THE DUMP (.gsa) THAT YtlbkfooogpmihapProg.lean LOADS. Nothing in Lean hashes anything: it is a label: what it is worth is what the hold of that sum in a sandbox is worth. -/
noncomputable def Try.pinned : Pinned := { name := "ytlbkfooogpmihap", sum := "31c9471433d7d04fa446cd1eb0c27134e0c63df09bbc3acb641f801480e7833d", checked := Try.checked }
namespace Rows
def none {H : Type} : Left H := { results := [], args := [] }

/-- 'laws.FnExactPowQ': WHATEVER THE INPUT: true; the input reads as it did. -/
def fnExactPowQSpec : ChangeSpec := { name := "fnExactPowQ", fn := fun _ => fun
  | [d1, d2] => { results := [.lit (.bool true)], args := [d1, d2] }
  | _ => none }
def fnExactPowQRow : OpenClaim := { program := "ytlbkfooogpmihap", sum := "31c9471433d7d04fa446cd1eb0c27134e0c63df09bbc3acb641f801480e7833d", func := "loop.example/g00186/laws.FnExactPowQ", spec := "fnExactPowQ", apart := false }
def FnExactPowQSaid : Prop := fnExactPowQRow.holds Try.pinned (OpenSpec.ofChange fnExactPowQSpec)

/-- ITS FALSE NEIGHBOUR: 'it returns false'. Refute it at one input. -/
def fnExactPowQWrong : ChangeSpec := { name := "fnExactPowQ", fn := fun _ => fun
  | [d1, d2] => { results := [.lit (.bool false)], args := [d1, d2] }
  | _ => none }
def FnExactPowQWrongFalsely : Prop := fnExactPowQRow.holds Try.pinned (OpenSpec.ofChange fnExactPowQWrong)

/-- 'laws.FnExactPolyOk': WHATEVER THE INPUT: true; the input reads as it did. -/
def fnExactPolyOkSpec : ChangeSpec := { name := "fnExactPolyOk", fn := fun _ => fun
  | [d] => { results := [.lit (.bool true)], args := [d] }
  | _ => none }
def fnExactPolyOkRow : OpenClaim := { program := "ytlbkfooogpmihap", sum := "31c9471433d7d04fa446cd1eb0c27134e0c63df09bbc3acb641f801480e7833d", func := "loop.example/g00186/laws.FnExactPolyOk", spec := "fnExactPolyOk", unfollowed := true, recurses := true, apart := false }
def FnExactPolyOkSaid : Prop := fnExactPolyOkRow.holds Try.pinned (OpenSpec.ofChange fnExactPolyOkSpec)

/-- ITS FALSE NEIGHBOUR: 'it returns false'. Refute it at one input. -/
def fnExactPolyOkWrong : ChangeSpec := { name := "fnExactPolyOk", fn := fun _ => fun
  | [d] => { results := [.lit (.bool false)], args := [d] }
  | _ => none }
def FnExactPolyOkWrongFalsely : Prop := fnExactPolyOkRow.holds Try.pinned (OpenSpec.ofChange fnExactPolyOkWrong)

/-- 'laws.FnExactPolyAdd': WHATEVER THE INPUT: true; the input reads as it did. -/
def fnExactPolyAddSpec : ChangeSpec := { name := "fnExactPolyAdd", fn := fun _ => fun
  | [d1, d2] => { results := [.lit (.bool true)], args := [d1, d2] }
  | _ => none }
def fnExactPolyAddRow : OpenClaim := { program := "ytlbkfooogpmihap", sum := "31c9471433d7d04fa446cd1eb0c27134e0c63df09bbc3acb641f801480e7833d", func := "loop.example/g00186/laws.FnExactPolyAdd", spec := "fnExactPolyAdd", unfollowed := true, recurses := true, apart := false }
def FnExactPolyAddSaid : Prop := fnExactPolyAddRow.holds Try.pinned (OpenSpec.ofChange fnExactPolyAddSpec)

/-- ITS FALSE NEIGHBOUR: 'it returns false'. Refute it at one input. -/
def fnExactPolyAddWrong : ChangeSpec := { name := "fnExactPolyAdd", fn := fun _ => fun
  | [d1, d2] => { results := [.lit (.bool false)], args := [d1, d2] }
  | _ => none }
def FnExactPolyAddWrongFalsely : Prop := fnExactPolyAddRow.holds Try.pinned (OpenSpec.ofChange fnExactPolyAddWrong)

/-- 'laws.FnExactPolySub': WHATEVER THE INPUT: true; the input reads as it did. -/
def fnExactPolySubSpec : ChangeSpec := { name := "fnExactPolySub", fn := fun _ => fun
  | [d1, d2] => { results := [.lit (.bool true)], args := [d1, d2] }
  | _ => none }
def fnExactPolySubRow : OpenClaim := { program := "ytlbkfooogpmihap", sum := "31c9471433d7d04fa446cd1eb0c27134e0c63df09bbc3acb641f801480e7833d", func := "loop.example/g00186/laws.FnExactPolySub", spec := "fnExactPolySub", unfollowed := true, recurses := true, apart := false }
def FnExactPolySubSaid : Prop := fnExactPolySubRow.holds Try.pinned (OpenSpec.ofChange fnExactPolySubSpec)

/-- ITS FALSE NEIGHBOUR: 'it returns false'. Refute it at one input. -/
def fnExactPolySubWrong : ChangeSpec := { name := "fnExactPolySub", fn := fun _ => fun
  | [d1, d2] => { results := [.lit (.bool false)], args := [d1, d2] }
  | _ => none }
def FnExactPolySubWrongFalsely : Prop := fnExactPolySubRow.holds Try.pinned (OpenSpec.ofChange fnExactPolySubWrong)

/-- 'laws.FnExactPolyMul': WHATEVER THE INPUT: true; the input reads as it did. -/
def fnExactPolyMulSpec : ChangeSpec := { name := "fnExactPolyMul", fn := fun _ => fun
  | [d1, d2] => { results := [.lit (.bool true)], args := [d1, d2] }
  | _ => none }
def fnExactPolyMulRow : OpenClaim := { program := "ytlbkfooogpmihap", sum := "31c9471433d7d04fa446cd1eb0c27134e0c63df09bbc3acb641f801480e7833d", func := "loop.example/g00186/laws.FnExactPolyMul", spec := "fnExactPolyMul", unfollowed := true, recurses := true, apart := false }
def FnExactPolyMulSaid : Prop := fnExactPolyMulRow.holds Try.pinned (OpenSpec.ofChange fnExactPolyMulSpec)

/-- ITS FALSE NEIGHBOUR: 'it returns false'. Refute it at one input. -/
def fnExactPolyMulWrong : ChangeSpec := { name := "fnExactPolyMul", fn := fun _ => fun
  | [d1, d2] => { results := [.lit (.bool false)], args := [d1, d2] }
  | _ => none }
def FnExactPolyMulWrongFalsely : Prop := fnExactPolyMulRow.holds Try.pinned (OpenSpec.ofChange fnExactPolyMulWrong)

/-- 'laws.FnExactTurn7': WHATEVER THE INPUT: true; the input reads as it did. -/
def fnExactTurn7Spec : ChangeSpec := { name := "fnExactTurn7", fn := fun _ => fun
  | [d] => { results := [.lit (.bool true)], args := [d] }
  | _ => none }
def fnExactTurn7Row : OpenClaim := { program := "ytlbkfooogpmihap", sum := "31c9471433d7d04fa446cd1eb0c27134e0c63df09bbc3acb641f801480e7833d", func := "loop.example/g00186/laws.FnExactTurn7", spec := "fnExactTurn7", apart := false }
def FnExactTurn7Said : Prop := fnExactTurn7Row.holds Try.pinned (OpenSpec.ofChange fnExactTurn7Spec)

/-- ITS FALSE NEIGHBOUR: 'it returns false'. Refute it at one input. -/
def fnExactTurn7Wrong : ChangeSpec := { name := "fnExactTurn7", fn := fun _ => fun
  | [d] => { results := [.lit (.bool false)], args := [d] }
  | _ => none }
def FnExactTurn7WrongFalsely : Prop := fnExactTurn7Row.holds Try.pinned (OpenSpec.ofChange fnExactTurn7Wrong)

/- THE SECOND FORM. 'bulk': how many values and letters a reading holds, each counted each time it is reached (what is shared counts as often as it is met; a slice's spare places count too). A statement '..UptoSaid' is the law's where the arguments, and the package variables that the reading takes, are together of bulk at most 1048576: NARROWER than '..Said'. Prove '..Said' where nothing that the law and all that it calls make is longer than what came in: it says more and counts as full. Else prove '..UptoSaid'. A law counts once. -/
mutual
def uptoBulk {H : Type} : DataW H → Nat
  | .lit (.string bytes) => bytes.length + 1
  | .lit _ => 1
  | .nil => 1
  | .ptr d => uptoBulk d + 1
  | .slice elems spare => uptoBulkAll elems + uptoBulkAll spare + 1
  | .agg parts => uptoBulkAll parts + 1
  | .iface _ d => uptoBulk d + 1
  | .map entries => uptoBulkEntries entries + 1
  | .held _ => 1
def uptoBulkAll {H : Type} : List (DataW H) → Nat
  | [] => 0
  | d :: r => uptoBulk d + uptoBulkAll r
def uptoBulkEntries {H : Type} : List (Lit × DataW H) → Nat
  | [] => 0
  | x :: r => uptoBulkEntry x + uptoBulkEntries r
def uptoBulkEntry {H : Type} : Lit × DataW H → Nat
  | (.string bytes, d) => bytes.length + uptoBulk d + 1
  | (_, d) => uptoBulk d + 1
 end
def uptoSmall : (H : Type) → List (DataW H) → Bool := fun _ ds => decide (uptoBulkAll ds ≤ 1048576)
def OpenSpec.upto (s : _root_.Go.ChangeSpec) : _root_.Go.OpenSpec := { _root_.Go.OpenSpec.ofChange s with cond := some uptoSmall }

/-- 'laws.FnExactPowQ', WHERE WHAT IT READS IS OF BULK AT MOST 1048576: true; the input reads as it did. -/
def fnExactPowQUptoRow : OpenClaim := { program := "ytlbkfooogpmihap", sum := "31c9471433d7d04fa446cd1eb0c27134e0c63df09bbc3acb641f801480e7833d", func := "loop.example/g00186/laws.FnExactPowQ", spec := "fnExactPowQ", apart := false, narrowed := true }
def FnExactPowQUptoSaid : Prop := fnExactPowQUptoRow.holds Try.pinned (OpenSpec.upto fnExactPowQSpec)

/-- 'laws.FnExactPolyOk', WHERE WHAT IT READS IS OF BULK AT MOST 1048576: true; the input reads as it did. -/
def fnExactPolyOkUptoRow : OpenClaim := { program := "ytlbkfooogpmihap", sum := "31c9471433d7d04fa446cd1eb0c27134e0c63df09bbc3acb641f801480e7833d", func := "loop.example/g00186/laws.FnExactPolyOk", spec := "fnExactPolyOk", unfollowed := true, recurses := true, apart := false, narrowed := true }
def FnExactPolyOkUptoSaid : Prop := fnExactPolyOkUptoRow.holds Try.pinned (OpenSpec.upto fnExactPolyOkSpec)

/-- 'laws.FnExactPolyAdd', WHERE WHAT IT READS IS OF BULK AT MOST 1048576: true; the input reads as it did. -/
def fnExactPolyAddUptoRow : OpenClaim := { program := "ytlbkfooogpmihap", sum := "31c9471433d7d04fa446cd1eb0c27134e0c63df09bbc3acb641f801480e7833d", func := "loop.example/g00186/laws.FnExactPolyAdd", spec := "fnExactPolyAdd", unfollowed := true, recurses := true, apart := false, narrowed := true }
def FnExactPolyAddUptoSaid : Prop := fnExactPolyAddUptoRow.holds Try.pinned (OpenSpec.upto fnExactPolyAddSpec)

/-- 'laws.FnExactPolySub', WHERE WHAT IT READS IS OF BULK AT MOST 1048576: true; the input reads as it did. -/
def fnExactPolySubUptoRow : OpenClaim := { program := "ytlbkfooogpmihap", sum := "31c9471433d7d04fa446cd1eb0c27134e0c63df09bbc3acb641f801480e7833d", func := "loop.example/g00186/laws.FnExactPolySub", spec := "fnExactPolySub", unfollowed := true, recurses := true, apart := false, narrowed := true }
def FnExactPolySubUptoSaid : Prop := fnExactPolySubUptoRow.holds Try.pinned (OpenSpec.upto fnExactPolySubSpec)

/-- 'laws.FnExactPolyMul', WHERE WHAT IT READS IS OF BULK AT MOST 1048576: true; the input reads as it did. -/
def fnExactPolyMulUptoRow : OpenClaim := { program := "ytlbkfooogpmihap", sum := "31c9471433d7d04fa446cd1eb0c27134e0c63df09bbc3acb641f801480e7833d", func := "loop.example/g00186/laws.FnExactPolyMul", spec := "fnExactPolyMul", unfollowed := true, recurses := true, apart := false, narrowed := true }
def FnExactPolyMulUptoSaid : Prop := fnExactPolyMulUptoRow.holds Try.pinned (OpenSpec.upto fnExactPolyMulSpec)

/-- 'laws.FnExactTurn7', WHERE WHAT IT READS IS OF BULK AT MOST 1048576: true; the input reads as it did. -/
def fnExactTurn7UptoRow : OpenClaim := { program := "ytlbkfooogpmihap", sum := "31c9471433d7d04fa446cd1eb0c27134e0c63df09bbc3acb641f801480e7833d", func := "loop.example/g00186/laws.FnExactTurn7", spec := "fnExactTurn7", apart := false, narrowed := true }
def FnExactTurn7UptoSaid : Prop := fnExactTurn7UptoRow.holds Try.pinned (OpenSpec.upto fnExactTurn7Spec)

end Rows
end Go.Proofs.Ytlbkfooogpmihap
