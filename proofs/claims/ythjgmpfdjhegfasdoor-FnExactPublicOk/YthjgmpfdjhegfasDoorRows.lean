/-
  NARROWER THAN 'FOR EVERY INPUT', by the rows' own cells (each row's printed sentence says how): FnExactPublicOk: laid · FnExactDecrypt: laid · FnExactErrorOf: laid.
  DERIVED. THE GIVEN ROWS OF THIS SEAT. 3 by the template 'for every input the law returns true; each argument reads behind the call as it read before'; 0 by the template 'total and deterministic' (their statements: YthjgmpfdjhegfasDoorTotals.lean).
  GIVEN WITH THE SEED: the statements are not yours to turn. If you find one false, say at which input.
  Laid BY PROGRAM, IN A SANDBOX (cutbox-rows.mjs): the forced cells as the released guide's own fill.sh prints them over the translation 82ada8e9e58a9df4… (all of the seat's roots in one cut). By AI agents, Wed Nov 11 2026. No macro, syntax, notation, axiom, sorry.
-/
import Derived.Test.YthjgmpfdjhegfasDoorChecked
import GoSem.Claim
import GoSem.ClaimJoined
import GoSem.ClaimMapViews
import Derived.JoinedTies
import Derived.KernelRfl
namespace Go.Proofs.YthjgmpfdjhegfasDoor
/- THE CELL 'sum', in the pinned program and in every row, IS THE sha256 OF THE DUMP (.gsa) THAT YthjgmpfdjhegfasDoorProg.lean LOADS. Nothing in Lean hashes anything: it is a label: what it is worth is what the hold of that sum in a sandbox is worth. -/
noncomputable def Tryd.pinned : Pinned := { name := "ythjgmpfdjhegfasdoor", sum := "82ada8e9e58a9df4674c15400758db334b788554a5387f8a0ffa6ad4829446fd", checked := Tryd.checked }
namespace Rows
def none {H : Type} : Left H := { results := [], args := [] }

/- WHAT THE LISTED PACKAGE-LEVEL VARIABLES READ AS WHEN THE CALL BEGINS. Each datum BY PROGRAM (the guide's laid-datum.mjs) off the statement by which the dump's own 'gosem.cut.vars' lays the variable. In a bare row this is a premise. The card (YthjgmpfdjhegfasDoorCards.lean) ties it to the program's text. -/
def laid_loop_example_g00186_impl_bitsOfByte {H : Type} : DataW H := .agg [.lit (.int .u8 1), .lit (.int .u8 2), .lit (.int .u8 4), .lit (.int .u8 8), .lit (.int .u8 16), .lit (.int .u8 32), .lit (.int .u8 64), .lit (.int .u8 128)]

/-- 'laws.FnExactPublicOk': WHATEVER THE INPUT: true; the input reads as it did. -/
def fnExactPublicOkSpec : ChangeSpec := { name := "fnExactPublicOk", vars := ["loop.example/g00186/impl.bitsOfByte"], fn := fun _ => fun
  | [d, g1] => { results := [.lit (.bool true)], args := [d], vars := [g1] }
  | _ => none }
def fnExactPublicOkRow : OpenClaim := { program := "ythjgmpfdjhegfasdoor", sum := "82ada8e9e58a9df4674c15400758db334b788554a5387f8a0ffa6ad4829446fd", func := "loop.example/g00186/laws.FnExactPublicOk", spec := "fnExactPublicOk", unfollowed := true, recurses := true, named := ["loop.example/g00186/impl.bitsOfByte"], apart := false, laid := [("loop.example/g00186/impl.bitsOfByte", laid_loop_example_g00186_impl_bitsOfByte)] }
def FnExactPublicOkSaid : Prop := fnExactPublicOkRow.holds Tryd.pinned (OpenSpec.ofChange fnExactPublicOkSpec)

/-- ITS FALSE NEIGHBOUR: 'it returns false'. Refute it at one input. -/
def fnExactPublicOkWrong : ChangeSpec := { name := "fnExactPublicOk", vars := ["loop.example/g00186/impl.bitsOfByte"], fn := fun _ => fun
  | [d, g1] => { results := [.lit (.bool false)], args := [d], vars := [g1] }
  | _ => none }
def FnExactPublicOkWrongFalsely : Prop := fnExactPublicOkRow.holds Tryd.pinned (OpenSpec.ofChange fnExactPublicOkWrong)

/-- 'laws.FnExactDecrypt': WHATEVER THE INPUT: true; the input reads as it did. -/
def fnExactDecryptSpec : ChangeSpec := { name := "fnExactDecrypt", vars := ["loop.example/g00186/impl.bitsOfByte"], fn := fun _ => fun
  | [d1, d2, g1] => { results := [.lit (.bool true)], args := [d1, d2], vars := [g1] }
  | _ => none }
def fnExactDecryptRow : OpenClaim := { program := "ythjgmpfdjhegfasdoor", sum := "82ada8e9e58a9df4674c15400758db334b788554a5387f8a0ffa6ad4829446fd", func := "loop.example/g00186/laws.FnExactDecrypt", spec := "fnExactDecrypt", unfollowed := true, recurses := true, named := ["loop.example/g00186/impl.bitsOfByte"], apart := false, laid := [("loop.example/g00186/impl.bitsOfByte", laid_loop_example_g00186_impl_bitsOfByte)] }
def FnExactDecryptSaid : Prop := fnExactDecryptRow.holds Tryd.pinned (OpenSpec.ofChange fnExactDecryptSpec)

/-- ITS FALSE NEIGHBOUR: 'it returns false'. Refute it at one input. -/
def fnExactDecryptWrong : ChangeSpec := { name := "fnExactDecrypt", vars := ["loop.example/g00186/impl.bitsOfByte"], fn := fun _ => fun
  | [d1, d2, g1] => { results := [.lit (.bool false)], args := [d1, d2], vars := [g1] }
  | _ => none }
def FnExactDecryptWrongFalsely : Prop := fnExactDecryptRow.holds Tryd.pinned (OpenSpec.ofChange fnExactDecryptWrong)

/-- 'laws.FnExactErrorOf': WHATEVER THE INPUT: true; the input reads as it did. -/
def fnExactErrorOfSpec : ChangeSpec := { name := "fnExactErrorOf", vars := ["loop.example/g00186/impl.bitsOfByte"], fn := fun _ => fun
  | [d1, d2, d3, g1] => { results := [.lit (.bool true)], args := [d1, d2, d3], vars := [g1] }
  | _ => none }
def fnExactErrorOfRow : OpenClaim := { program := "ythjgmpfdjhegfasdoor", sum := "82ada8e9e58a9df4674c15400758db334b788554a5387f8a0ffa6ad4829446fd", func := "loop.example/g00186/laws.FnExactErrorOf", spec := "fnExactErrorOf", unfollowed := true, recurses := true, named := ["loop.example/g00186/impl.bitsOfByte"], apart := false, laid := [("loop.example/g00186/impl.bitsOfByte", laid_loop_example_g00186_impl_bitsOfByte)] }
def FnExactErrorOfSaid : Prop := fnExactErrorOfRow.holds Tryd.pinned (OpenSpec.ofChange fnExactErrorOfSpec)

/-- ITS FALSE NEIGHBOUR: 'it returns false'. Refute it at one input. -/
def fnExactErrorOfWrong : ChangeSpec := { name := "fnExactErrorOf", vars := ["loop.example/g00186/impl.bitsOfByte"], fn := fun _ => fun
  | [d1, d2, d3, g1] => { results := [.lit (.bool false)], args := [d1, d2, d3], vars := [g1] }
  | _ => none }
def FnExactErrorOfWrongFalsely : Prop := fnExactErrorOfRow.holds Tryd.pinned (OpenSpec.ofChange fnExactErrorOfWrong)

/- THE SECOND FORM. 'bulk': how many values and letters a reading holds, each counted each time it is reached (what is shared counts as often as it is met; a slice's spare places count too). A statement '..UptoSaid' is the law's where the arguments, and the package variables that the reading takes, are together of bulk at most 1048576: NARROWER than '..Said'. Prove '..Said' where nothing that the law and all that it calls make is longer than what came in: it says more and counts as full. Else prove '..UptoSaid'. A law counts once. -/
mutual
def uptoBulk {H : Type} : DataW H → Nat
  | .lit (.string bytes) => bytes.length + 1
  | .lit _ => 1
  | .nil => 1
  | .ptr d => uptoBulk d + 1
  | .slice elems spare => uptoBulkAll elems + uptoBulkAll spare + 1
  | .agg parts => uptoBulkAll parts + 1
  | .iface _ d => uptoBulk d + 1
  | .map entries => uptoBulkEntries entries + 1
  | .held _ => 1
def uptoBulkAll {H : Type} : List (DataW H) → Nat
  | [] => 0
  | d :: r => uptoBulk d + uptoBulkAll r
def uptoBulkEntries {H : Type} : List (Lit × DataW H) → Nat
  | [] => 0
  | x :: r => uptoBulkEntry x + uptoBulkEntries r
def uptoBulkEntry {H : Type} : Lit × DataW H → Nat
  | (.string bytes, d) => bytes.length + uptoBulk d + 1
  | (_, d) => uptoBulk d + 1
 end
def uptoSmall : (H : Type) → List (DataW H) → Bool := fun _ ds => decide (uptoBulkAll ds ≤ 1048576)
def OpenSpec.upto (s : _root_.Go.ChangeSpec) : _root_.Go.OpenSpec := { _root_.Go.OpenSpec.ofChange s with cond := some uptoSmall }

/-- 'laws.FnExactPublicOk', WHERE WHAT IT READS IS OF BULK AT MOST 1048576: true; the input reads as it did. -/
def fnExactPublicOkUptoRow : OpenClaim := { program := "ythjgmpfdjhegfasdoor", sum := "82ada8e9e58a9df4674c15400758db334b788554a5387f8a0ffa6ad4829446fd", func := "loop.example/g00186/laws.FnExactPublicOk", spec := "fnExactPublicOk", unfollowed := true, recurses := true, named := ["loop.example/g00186/impl.bitsOfByte"], apart := false, laid := [("loop.example/g00186/impl.bitsOfByte", laid_loop_example_g00186_impl_bitsOfByte)], narrowed := true }
def FnExactPublicOkUptoSaid : Prop := fnExactPublicOkUptoRow.holds Tryd.pinned (OpenSpec.upto fnExactPublicOkSpec)

/-- 'laws.FnExactDecrypt', WHERE WHAT IT READS IS OF BULK AT MOST 1048576: true; the input reads as it did. -/
def fnExactDecryptUptoRow : OpenClaim := { program := "ythjgmpfdjhegfasdoor", sum := "82ada8e9e58a9df4674c15400758db334b788554a5387f8a0ffa6ad4829446fd", func := "loop.example/g00186/laws.FnExactDecrypt", spec := "fnExactDecrypt", unfollowed := true, recurses := true, named := ["loop.example/g00186/impl.bitsOfByte"], apart := false, laid := [("loop.example/g00186/impl.bitsOfByte", laid_loop_example_g00186_impl_bitsOfByte)], narrowed := true }
def FnExactDecryptUptoSaid : Prop := fnExactDecryptUptoRow.holds Tryd.pinned (OpenSpec.upto fnExactDecryptSpec)

/-- 'laws.FnExactErrorOf', WHERE WHAT IT READS IS OF BULK AT MOST 1048576: true; the input reads as it did. -/
def fnExactErrorOfUptoRow : OpenClaim := { program := "ythjgmpfdjhegfasdoor", sum := "82ada8e9e58a9df4674c15400758db334b788554a5387f8a0ffa6ad4829446fd", func := "loop.example/g00186/laws.FnExactErrorOf", spec := "fnExactErrorOf", unfollowed := true, recurses := true, named := ["loop.example/g00186/impl.bitsOfByte"], apart := false, laid := [("loop.example/g00186/impl.bitsOfByte", laid_loop_example_g00186_impl_bitsOfByte)], narrowed := true }
def FnExactErrorOfUptoSaid : Prop := fnExactErrorOfUptoRow.holds Tryd.pinned (OpenSpec.upto fnExactErrorOfSpec)

end Rows
end Go.Proofs.YthjgmpfdjhegfasDoor
