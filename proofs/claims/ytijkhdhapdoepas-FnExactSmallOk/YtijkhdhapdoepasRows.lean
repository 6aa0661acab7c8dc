/-
  No cell of these rows narrows 'for every input' (looked for: loops, veiled, ifaces, maps, wideKeys, modest, calm, conditions, laid).
  DERIVED. THE GIVEN ROWS OF THIS SEAT. 5 by the template 'for every input the law returns true; each argument reads behind the call as it read before'; 0 by the template 'total and deterministic' (their statements: YtijkhdhapdoepasTotals.lean).
  GIVEN WITH THE SEED: the statements are not yours to turn. If you find one false, say at which input.
  Laid BY PROGRAM, IN A SANDBOX (cutbox-rows.mjs): the forced cells as the released guide's own fill.sh prints them over the translation cdfa3ded02645cfe… (all of the seat's roots in one cut). By AI agents, Wed Nov 11 2026. No macro, syntax, notation, axiom, sorry.
-/
import Derived.Test.YtijkhdhapdoepasChecked
import GoSem.Claim
import GoSem.ClaimJoined
import GoSem.ClaimMapViews
import Derived.JoinedTies
import Derived.KernelRfl
namespace Go.Proofs.Ytijkhdhapdoepas
/- THE CELL 'sum', in the pinned program and in every row, IS THE sha256 OF THE DUMP (.gsa) THAT YtijkhdhapdoepasProg.lean LOADS. Nothing in Lean hashes anything: it is a label: what it is worth is what the hold of that sum in a sandbox is worth. -/
noncomputable def Try.pinned : Pinned := { name := "ytijkhdhapdoepas", sum := "cdfa3ded02645cfe8e27d31a5e6eeb597046c30d141bc79547bbba29d0275fbd", checked := Try.checked }
namespace Rows
def none {H : Type} : Left H := { results := [], args := [] }

/-- 'laws.FnExactSmallOk': WHATEVER THE INPUT: true; the input reads as it did. -/
def fnExactSmallOkSpec : ChangeSpec := { name := "fnExactSmallOk", fn := fun _ => fun
  | [d] => { results := [.lit (.bool true)], args := [d] }
  | _ => none }
def fnExactSmallOkRow : OpenClaim := { program := "ytijkhdhapdoepas", sum := "cdfa3ded02645cfe8e27d31a5e6eeb597046c30d141bc79547bbba29d0275fbd", func := "loop.example/g00186/laws.FnExactSmallOk", spec := "fnExactSmallOk", unfollowed := true, recurses := true, apart := false }
def FnExactSmallOkSaid : Prop := fnExactSmallOkRow.holds Try.pinned (OpenSpec.ofChange fnExactSmallOkSpec)

/-- ITS FALSE NEIGHBOUR: 'it returns false'. Refute it at one input. -/
def fnExactSmallOkWrong : ChangeSpec := { name := "fnExactSmallOk", fn := fun _ => fun
  | [d] => { results := [.lit (.bool false)], args := [d] }
  | _ => none }
def FnExactSmallOkWrongFalsely : Prop := fnExactSmallOkRow.holds Try.pinned (OpenSpec.ofChange fnExactSmallOkWrong)

/-- 'laws.FnExactPairOf': WHATEVER THE INPUT: true; the input reads as it did. -/
def fnExactPairOfSpec : ChangeSpec := { name := "fnExactPairOf", fn := fun _ => fun
  | [d] => { results := [.lit (.bool true)], args := [d] }
  | _ => none }
def fnExactPairOfRow : OpenClaim := { program := "ytijkhdhapdoepas", sum := "cdfa3ded02645cfe8e27d31a5e6eeb597046c30d141bc79547bbba29d0275fbd", func := "loop.example/g00186/laws.FnExactPairOf", spec := "fnExactPairOf", apart := false }
def FnExactPairOfSaid : Prop := fnExactPairOfRow.holds Try.pinned (OpenSpec.ofChange fnExactPairOfSpec)

/-- ITS FALSE NEIGHBOUR: 'it returns false'. Refute it at one input. -/
def fnExactPairOfWrong : ChangeSpec := { name := "fnExactPairOf", fn := fun _ => fun
  | [d] => { results := [.lit (.bool false)], args := [d] }
  | _ => none }
def FnExactPairOfWrongFalsely : Prop := fnExactPairOfRow.holds Try.pinned (OpenSpec.ofChange fnExactPairOfWrong)

/-- 'laws.FnExactPublicOk': WHATEVER THE INPUT: true; the input reads as it did. -/
def fnExactPublicOkSpec : ChangeSpec := { name := "fnExactPublicOk", fn := fun _ => fun
  | [d] => { results := [.lit (.bool true)], args := [d] }
  | _ => none }
def fnExactPublicOkRow : OpenClaim := { program := "ytijkhdhapdoepas", sum := "cdfa3ded02645cfe8e27d31a5e6eeb597046c30d141bc79547bbba29d0275fbd", func := "loop.example/g00186/laws.FnExactPublicOk", spec := "fnExactPublicOk", apart := false }
def FnExactPublicOkSaid : Prop := fnExactPublicOkRow.holds Try.pinned (OpenSpec.ofChange fnExactPublicOkSpec)

/-- ITS FALSE NEIGHBOUR: 'it returns false'. Refute it at one input. -/
def fnExactPublicOkWrong : ChangeSpec := { name := "fnExactPublicOk", fn := fun _ => fun
  | [d] => { results := [.lit (.bool false)], args := [d] }
  | _ => none }
def FnExactPublicOkWrongFalsely : Prop := fnExactPublicOkRow.holds Try.pinned (OpenSpec.ofChange fnExactPublicOkWrong)

/-- 'laws.FnExactEncrypt': WHATEVER THE INPUT: true; the input reads as it did. -/
def fnExactEncryptSpec : ChangeSpec := { name := "fnExactEncrypt", fn := fun _ => fun
  | [d1, d2, d3] => { results := [.lit (.bool true)], args := [d1, d2, d3] }
  | _ => none }
def fnExactEncryptRow : OpenClaim := { program := "ytijkhdhapdoepas", sum := "cdfa3ded02645cfe8e27d31a5e6eeb597046c30d141bc79547bbba29d0275fbd", func := "loop.example/g00186/laws.FnExactEncrypt", spec := "fnExactEncrypt", apart := false }
def FnExactEncryptSaid : Prop := fnExactEncryptRow.holds Try.pinned (OpenSpec.ofChange fnExactEncryptSpec)

/-- ITS FALSE NEIGHBOUR: 'it returns false'. Refute it at one input. -/
def fnExactEncryptWrong : ChangeSpec := { name := "fnExactEncrypt", fn := fun _ => fun
  | [d1, d2, d3] => { results := [.lit (.bool false)], args := [d1, d2, d3] }
  | _ => none }
def FnExactEncryptWrongFalsely : Prop := fnExactEncryptRow.holds Try.pinned (OpenSpec.ofChange fnExactEncryptWrong)

/-- 'laws.FnExactDecrypt': WHATEVER THE INPUT: true; the input reads as it did. -/
def fnExactDecryptSpec : ChangeSpec := { name := "fnExactDecrypt", fn := fun _ => fun
  | [d1, d2] => { results := [.lit (.bool true)], args := [d1, d2] }
  | _ => none }
def fnExactDecryptRow : OpenClaim := { program := "ytijkhdhapdoepas", sum := "cdfa3ded02645cfe8e27d31a5e6eeb597046c30d141bc79547bbba29d0275fbd", func := "loop.example/g00186/laws.FnExactDecrypt", spec := "fnExactDecrypt", apart := false }
def FnExactDecryptSaid : Prop := fnExactDecryptRow.holds Try.pinned (OpenSpec.ofChange fnExactDecryptSpec)

/-- ITS FALSE NEIGHBOUR: 'it returns false'. Refute it at one input. -/
def fnExactDecryptWrong : ChangeSpec := { name := "fnExactDecrypt", fn := fun _ => fun
  | [d1, d2] => { results := [.lit (.bool false)], args := [d1, d2] }
  | _ => none }
def FnExactDecryptWrongFalsely : Prop := fnExactDecryptRow.holds Try.pinned (OpenSpec.ofChange fnExactDecryptWrong)

/- THE SECOND FORM. 'bulk': how many values and letters a reading holds, each counted each time it is reached (what is shared counts as often as it is met; a slice's spare places count too). A statement '..UptoSaid' is the law's where the arguments, and the package variables that the reading takes, are together of bulk at most 1048576: NARROWER than '..Said'. Prove '..Said' where nothing that the law and all that it calls make is longer than what came in: it says more and counts as full. Else prove '..UptoSaid'. A law counts once. -/
mutual
def uptoBulk {H : Type} : DataW H → Nat
  | .lit (.string bytes) => bytes.length + 1
  | .lit _ => 1
  | .nil => 1
  | .ptr d => uptoBulk d + 1
  | .slice elems spare => uptoBulkAll elems + uptoBulkAll spare + 1
  | .agg parts => uptoBulkAll parts + 1
  | .iface _ d => uptoBulk d + 1
  | .map entries => uptoBulkEntries entries + 1
  | .held _ => 1
def uptoBulkAll {H : Type} : List (DataW H) → Nat
  | [] => 0
  | d :: r => uptoBulk d + uptoBulkAll r
def uptoBulkEntries {H : Type} : List (Lit × DataW H) → Nat
  | [] => 0
  | x :: r => uptoBulkEntry x + uptoBulkEntries r
def uptoBulkEntry {H : Type} : Lit × DataW H → Nat
  | (.string bytes, d) => bytes.length + uptoBulk d + 1
  | (_, d) => uptoBulk d + 1
 end
def uptoSmall : (H : Type) → List (DataW H) → Bool := fun _ ds => decide (uptoBulkAll ds ≤ 1048576)
def OpenSpec.upto (s : _root_.Go.ChangeSpec) : _root_.Go.OpenSpec := { _root_.Go.OpenSpec.ofChange s with cond := some uptoSmall }

/-- 'laws.FnExactSmallOk', WHERE WHAT IT READS IS OF BULK AT MOST 1048576: true; the input reads as it did. -/
def fnExactSmallOkUptoRow : OpenClaim := { program := "ytijkhdhapdoepas", sum := "cdfa3ded02645cfe8e27d31a5e6eeb597046c30d141bc79547bbba29d0275fbd", func := "loop.example/g00186/laws.FnExactSmallOk", spec := "fnExactSmallOk", unfollowed := true, recurses := true, apart := false, narrowed := true }
def FnExactSmallOkUptoSaid : Prop := fnExactSmallOkUptoRow.holds Try.pinned (OpenSpec.upto fnExactSmallOkSpec)

/-- 'laws.FnExactPairOf', WHERE WHAT IT READS IS OF BULK AT MOST 1048576: true; the input reads as it did. -/
def fnExactPairOfUptoRow : OpenClaim := { program := "ytijkhdhapdoepas", sum := "cdfa3ded02645cfe8e27d31a5e6eeb597046c30d141bc79547bbba29d0275fbd", func := "loop.example/g00186/laws.FnExactPairOf", spec := "fnExactPairOf", apart := false, narrowed := true }
def FnExactPairOfUptoSaid : Prop := fnExactPairOfUptoRow.holds Try.pinned (OpenSpec.upto fnExactPairOfSpec)

/-- 'laws.FnExactPublicOk', WHERE WHAT IT READS IS OF BULK AT MOST 1048576: true; the input reads as it did. -/
def fnExactPublicOkUptoRow : OpenClaim := { program := "ytijkhdhapdoepas", sum := "cdfa3ded02645cfe8e27d31a5e6eeb597046c30d141bc79547bbba29d0275fbd", func := "loop.example/g00186/laws.FnExactPublicOk", spec := "fnExactPublicOk", apart := false, narrowed := true }
def FnExactPublicOkUptoSaid : Prop := fnExactPublicOkUptoRow.holds Try.pinned (OpenSpec.upto fnExactPublicOkSpec)

/-- 'laws.FnExactEncrypt', WHERE WHAT IT READS IS OF BULK AT MOST 1048576: true; the input reads as it did. -/
def fnExactEncryptUptoRow : OpenClaim := { program := "ytijkhdhapdoepas", sum := "cdfa3ded02645cfe8e27d31a5e6eeb597046c30d141bc79547bbba29d0275fbd", func := "loop.example/g00186/laws.FnExactEncrypt", spec := "fnExactEncrypt", apart := false, narrowed := true }
def FnExactEncryptUptoSaid : Prop := fnExactEncryptUptoRow.holds Try.pinned (OpenSpec.upto fnExactEncryptSpec)

/-- 'laws.FnExactDecrypt', WHERE WHAT IT READS IS OF BULK AT MOST 1048576: true; the input reads as it did. -/
def fnExactDecryptUptoRow : OpenClaim := { program := "ytijkhdhapdoepas", sum := "cdfa3ded02645cfe8e27d31a5e6eeb597046c30d141bc79547bbba29d0275fbd", func := "loop.example/g00186/laws.FnExactDecrypt", spec := "fnExactDecrypt", apart := false, narrowed := true }
def FnExactDecryptUptoSaid : Prop := fnExactDecryptUptoRow.holds Try.pinned (OpenSpec.upto fnExactDecryptSpec)

end Rows
end Go.Proofs.Ytijkhdhapdoepas
