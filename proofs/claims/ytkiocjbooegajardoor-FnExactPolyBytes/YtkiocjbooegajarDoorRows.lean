/-
  NARROWER THAN 'FOR EVERY INPUT', by the rows' own cells (each row's printed sentence says how): FnExactPolyBytes: laid · FnExactPolyFrom: laid.
  DERIVED. THE GIVEN ROWS OF THIS SEAT. 2 by the template 'for every input the law returns true; each argument reads behind the call as it read before'; 0 by the template 'total and deterministic' (their statements: YtkiocjbooegajarDoorTotals.lean).
  GIVEN WITH THE SEED: the statements are not yours to turn. If you find one false, say at which input.
  Laid BY PROGRAM, IN A SANDBOX (cutbox-rows.mjs): the forced cells as the released guide's own fill.sh prints them over the translation 4ea3a0e4736627f1… (all of the seat's roots in one cut). By AI agents, Wed Nov 11 2026. No macro, syntax, notation, axiom, sorry.
-/
import Derived.Test.YtkiocjbooegajarDoorChecked
import GoSem.Claim
import GoSem.ClaimJoined
import GoSem.ClaimMapViews
import Derived.JoinedTies
import Derived.KernelRfl
namespace Go.Proofs.YtkiocjbooegajarDoor
/- THE CELL 'sum', in the pinned program and in every row, IS THE sha256 OF THE DUMP (.gsa) THAT YtkiocjbooegajarDoorProg.lean LOADS. Nothing in Lean hashes anything: it is a label: what it is worth is what the hold of that sum in a sandbox is worth. -/
noncomputable def Tryd.pinned : Pinned := { name := "ytkiocjbooegajardoor", sum := "4ea3a0e4736627f19daff5815292fc5775d7ed49b6590358178c0ff8c059d221", checked := Tryd.checked }
namespace Rows
def none {H : Type} : Left H := { results := [], args := [] }

/- WHAT THE LISTED PACKAGE-LEVEL VARIABLES READ AS WHEN THE CALL BEGINS. Each datum BY PROGRAM (the guide's laid-datum.mjs) off the statement by which the dump's own 'gosem.cut.vars' lays the variable. In a bare row this is a premise. The card (YtkiocjbooegajarDoorCards.lean) ties it to the program's text. -/
def laid_loop_example_g00186_impl_bitsOfByte {H : Type} : DataW H := .agg [.lit (.int .u8 1), .lit (.int .u8 2), .lit (.int .u8 4), .lit (.int .u8 8), .lit (.int .u8 16), .lit (.int .u8 32), .lit (.int .u8 64), .lit (.int .u8 128)]

/-- 'laws.FnExactPolyBytes': WHATEVER THE INPUT: true; the input reads as it did. -/
def fnExactPolyBytesSpec : ChangeSpec := { name := "fnExactPolyBytes", vars := ["loop.example/g00186/impl.bitsOfByte"], fn := fun _ => fun
  | [d, g1] => { results := [.lit (.bool true)], args := [d], vars := [g1] }
  | _ => none }
def fnExactPolyBytesRow : OpenClaim := { program := "ytkiocjbooegajardoor", sum := "4ea3a0e4736627f19daff5815292fc5775d7ed49b6590358178c0ff8c059d221", func := "loop.example/g00186/laws.FnExactPolyBytes", spec := "fnExactPolyBytes", unfollowed := true, recurses := true, named := ["loop.example/g00186/impl.bitsOfByte"], apart := false, laid := [("loop.example/g00186/impl.bitsOfByte", laid_loop_example_g00186_impl_bitsOfByte)] }
def FnExactPolyBytesSaid : Prop := fnExactPolyBytesRow.holds Tryd.pinned (OpenSpec.ofChange fnExactPolyBytesSpec)

/-- ITS FALSE NEIGHBOUR: 'it returns false'. Refute it at one input. -/
def fnExactPolyBytesWrong : ChangeSpec := { name := "fnExactPolyBytes", vars := ["loop.example/g00186/impl.bitsOfByte"], fn := fun _ => fun
  | [d, g1] => { results := [.lit (.bool false)], args := [d], vars := [g1] }
  | _ => none }
def FnExactPolyBytesWrongFalsely : Prop := fnExactPolyBytesRow.holds Tryd.pinned (OpenSpec.ofChange fnExactPolyBytesWrong)

/-- 'laws.FnExactPolyFrom': WHATEVER THE INPUT: true; the input reads as it did. -/
def fnExactPolyFromSpec : ChangeSpec := { name := "fnExactPolyFrom", vars := ["loop.example/g00186/impl.bitsOfByte"], fn := fun _ => fun
  | [d, g1] => { results := [.lit (.bool true)], args := [d], vars := [g1] }
  | _ => none }
def fnExactPolyFromRow : OpenClaim := { program := "ytkiocjbooegajardoor", sum := "4ea3a0e4736627f19daff5815292fc5775d7ed49b6590358178c0ff8c059d221", func := "loop.example/g00186/laws.FnExactPolyFrom", spec := "fnExactPolyFrom", unfollowed := true, recurses := true, named := ["loop.example/g00186/impl.bitsOfByte"], apart := false, laid := [("loop.example/g00186/impl.bitsOfByte", laid_loop_example_g00186_impl_bitsOfByte)] }
def FnExactPolyFromSaid : Prop := fnExactPolyFromRow.holds Tryd.pinned (OpenSpec.ofChange fnExactPolyFromSpec)

/-- ITS FALSE NEIGHBOUR: 'it returns false'. Refute it at one input. -/
def fnExactPolyFromWrong : ChangeSpec := { name := "fnExactPolyFrom", vars := ["loop.example/g00186/impl.bitsOfByte"], fn := fun _ => fun
  | [d, g1] => { results := [.lit (.bool false)], args := [d], vars := [g1] }
  | _ => none }
def FnExactPolyFromWrongFalsely : Prop := fnExactPolyFromRow.holds Tryd.pinned (OpenSpec.ofChange fnExactPolyFromWrong)

/- THE SECOND FORM. 'bulk': how many values and letters a reading holds, each counted each time it is reached (what is shared counts as often as it is met; a slice's spare places count too). A statement '..UptoSaid' is the law's where the arguments, and the package variables that the reading takes, are together of bulk at most 1048576: NARROWER than '..Said'. Prove '..Said' where nothing that the law and all that it calls make is longer than what came in: it says more and counts as full. Else prove '..UptoSaid'. A law counts once. -/
mutual
def uptoBulk {H : Type} : DataW H → Nat
  | .lit (.string bytes) => bytes.length + 1
  | .lit _ => 1
  | .nil => 1
  | .ptr d => uptoBulk d + 1
  | .slice elems spare => uptoBulkAll elems + uptoBulkAll spare + 1
  | .agg parts => uptoBulkAll parts + 1
  | .iface _ d => uptoBulk d + 1
  | .map entries => uptoBulkEntries entries + 1
  | .held _ => 1
def uptoBulkAll {H : Type} : List (DataW H) → Nat
  | [] => 0
  | d :: r => uptoBulk d + uptoBulkAll r
def uptoBulkEntries {H : Type} : List (Lit × DataW H) → Nat
  | [] => 0
  | x :: r => uptoBulkEntry x + uptoBulkEntries r
def uptoBulkEntry {H : Type} : Lit × DataW H → Nat
  | (.string bytes, d) => bytes.length + uptoBulk d + 1
  | (_, d) => uptoBulk d + 1
 end
def uptoSmall : (H : Type) → List (DataW H) → Bool := fun _ ds => decide (uptoBulkAll ds ≤ 1048576)
def OpenSpec.upto (s : _root_.Go.ChangeSpec) : _root_.Go.OpenSpec := { _root_.Go.OpenSpec.ofChange s with cond := some uptoSmall }

/-- 'laws.FnExactPolyBytes', WHERE WHAT IT READS IS OF BULK AT MOST 1048576: true; the input reads as it did. -/
def fnExactPolyBytesUptoRow : OpenClaim := { program := "ytkiocjbooegajardoor", sum := "4ea3a0e4736627f19daff5815292fc5775d7ed49b6590358178c0ff8c059d221", func := "loop.example/g00186/laws.FnExactPolyBytes", spec := "fnExactPolyBytes", unfollowed := true, recurses := true, named := ["loop.example/g00186/impl.bitsOfByte"], apart := false, laid := [("loop.example/g00186/impl.bitsOfByte", laid_loop_example_g00186_impl_bitsOfByte)], narrowed := true }
def FnExactPolyBytesUptoSaid : Prop := fnExactPolyBytesUptoRow.holds Tryd.pinned (OpenSpec.upto fnExactPolyBytesSpec)

/-- 'laws.FnExactPolyFrom', WHERE WHAT IT READS IS OF BULK AT MOST 1048576: true; the input reads as it did. -/
def fnExactPolyFromUptoRow : OpenClaim := { program := "ytkiocjbooegajardoor", sum := "4ea3a0e4736627f19daff5815292fc5775d7ed49b6590358178c0ff8c059d221", func := "loop.example/g00186/laws.FnExactPolyFrom", spec := "fnExactPolyFrom", unfollowed := true, recurses := true, named := ["loop.example/g00186/impl.bitsOfByte"], apart := false, laid := [("loop.example/g00186/impl.bitsOfByte", laid_loop_example_g00186_impl_bitsOfByte)], narrowed := true }
def FnExactPolyFromUptoSaid : Prop := fnExactPolyFromUptoRow.holds Tryd.pinned (OpenSpec.upto fnExactPolyFromSpec)

end Rows
end Go.Proofs.YtkiocjbooegajarDoor
