/-
  NARROWER THAN 'FOR EVERY INPUT', by the rows' own cells (each row's printed sentence says how): FnExactPermute: laid · FnExactShakeOf: laid · FnExactSha3Of: laid.
  DERIVED. THE GIVEN ROWS OF THIS SEAT. 3 by the template 'for every input the law returns true; each argument reads behind the call as it read before'; 0 by the template 'total and deterministic' (their statements: YtkidgllmhdfgaanDoorTotals.lean).
  GIVEN WITH THE SEED: the statements are not yours to turn. If you find one false, say at which input.
  Laid BY PROGRAM, IN A SANDBOX (cutbox-rows.mjs): the forced cells as the released guide's own fill.sh prints them over the translation 88ff9768b91b068b… (all of the seat's roots in one cut). By AI agents, Wed Nov 11 2026. No macro, syntax, notation, axiom, sorry.
-/
import Derived.Test.YtkidgllmhdfgaanDoorChecked
import GoSem.Claim
import GoSem.ClaimJoined
import GoSem.ClaimMapViews
import Derived.JoinedTies
import Derived.KernelRfl
namespace Go.Proofs.YtkidgllmhdfgaanDoor
/- THE CELL 'sum', in the pinned program and in every row, IS THE sha256 OF THE DUMP (.gsa) THAT YtkidgllmhdfgaanDoorProg.lean LOADS. Nothing in Lean hashes anything: it is a label: what it is worth is what the hold of that sum in a sandbox is worth. -/
noncomputable def Tryd.pinned : Pinned := { name := "ytkidgllmhdfgaandoor", sum := "88ff9768b91b068b36db40fc6e5051f504a9c4c230ca4575d0286f140d2a5eed", checked := Tryd.checked }
namespace Rows
def none {H : Type} : Left H := { results := [], args := [] }

/- WHAT THE LISTED PACKAGE-LEVEL VARIABLES READ AS WHEN THE CALL BEGINS. Each datum BY PROGRAM (the guide's laid-datum.mjs) off the statement by which the dump's own 'gosem.cut.vars' lays the variable. In a bare row this is a premise. The card (YtkidgllmhdfgaanDoorCards.lean) ties it to the program's text. -/
def laid_loop_example_g00186_impl_spongeNumbers {H : Type} : DataW H := .agg [.lit (.int .u64 1), .lit (.int .u64 32898), .lit (.int .u64 9223372036854808714), .lit (.int .u64 9223372039002292224), .lit (.int .u64 32907), .lit (.int .u64 2147483649), .lit (.int .u64 9223372039002292353), .lit (.int .u64 9223372036854808585), .lit (.int .u64 138), .lit (.int .u64 136), .lit (.int .u64 2147516425), .lit (.int .u64 2147483658), .lit (.int .u64 2147516555), .lit (.int .u64 9223372036854775947), .lit (.int .u64 9223372036854808713), .lit (.int .u64 9223372036854808579), .lit (.int .u64 9223372036854808578), .lit (.int .u64 9223372036854775936), .lit (.int .u64 32778), .lit (.int .u64 9223372039002259466), .lit (.int .u64 9223372039002292353), .lit (.int .u64 9223372036854808704), .lit (.int .u64 2147483649), .lit (.int .u64 9223372039002292232)]

/-- 'laws.FnExactPermute': WHATEVER THE INPUT: true; the input reads as it did. -/
def fnExactPermuteSpec : ChangeSpec := { name := "fnExactPermute", vars := ["loop.example/g00186/impl.spongeNumbers"], fn := fun _ => fun
  | [d, g1] => { results := [.lit (.bool true)], args := [d], vars := [g1] }
  | _ => none }
def fnExactPermuteRow : OpenClaim := { program := "ytkidgllmhdfgaandoor", sum := "88ff9768b91b068b36db40fc6e5051f504a9c4c230ca4575d0286f140d2a5eed", func := "loop.example/g00186/laws.FnExactPermute", spec := "fnExactPermute", named := ["loop.example/g00186/impl.spongeNumbers"], apart := false, laid := [("loop.example/g00186/impl.spongeNumbers", laid_loop_example_g00186_impl_spongeNumbers)] }
def FnExactPermuteSaid : Prop := fnExactPermuteRow.holds Tryd.pinned (OpenSpec.ofChange fnExactPermuteSpec)

/-- ITS FALSE NEIGHBOUR: 'it returns false'. Refute it at one input. -/
def fnExactPermuteWrong : ChangeSpec := { name := "fnExactPermute", vars := ["loop.example/g00186/impl.spongeNumbers"], fn := fun _ => fun
  | [d, g1] => { results := [.lit (.bool false)], args := [d], vars := [g1] }
  | _ => none }
def FnExactPermuteWrongFalsely : Prop := fnExactPermuteRow.holds Tryd.pinned (OpenSpec.ofChange fnExactPermuteWrong)

/-- 'laws.FnExactShakeOf': WHATEVER THE INPUT: true; the input reads as it did. -/
def fnExactShakeOfSpec : ChangeSpec := { name := "fnExactShakeOf", vars := ["loop.example/g00186/impl.spongeNumbers"], fn := fun _ => fun
  | [d1, d2, g1] => { results := [.lit (.bool true)], args := [d1, d2], vars := [g1] }
  | _ => none }
def fnExactShakeOfRow : OpenClaim := { program := "ytkidgllmhdfgaandoor", sum := "88ff9768b91b068b36db40fc6e5051f504a9c4c230ca4575d0286f140d2a5eed", func := "loop.example/g00186/laws.FnExactShakeOf", spec := "fnExactShakeOf", unfollowed := true, recurses := true, named := ["loop.example/g00186/impl.spongeNumbers"], apart := false, laid := [("loop.example/g00186/impl.spongeNumbers", laid_loop_example_g00186_impl_spongeNumbers)] }
def FnExactShakeOfSaid : Prop := fnExactShakeOfRow.holds Tryd.pinned (OpenSpec.ofChange fnExactShakeOfSpec)

/-- ITS FALSE NEIGHBOUR: 'it returns false'. Refute it at one input. -/
def fnExactShakeOfWrong : ChangeSpec := { name := "fnExactShakeOf", vars := ["loop.example/g00186/impl.spongeNumbers"], fn := fun _ => fun
  | [d1, d2, g1] => { results := [.lit (.bool false)], args := [d1, d2], vars := [g1] }
  | _ => none }
def FnExactShakeOfWrongFalsely : Prop := fnExactShakeOfRow.holds Tryd.pinned (OpenSpec.ofChange fnExactShakeOfWrong)

/-- 'laws.FnExactSha3Of': WHATEVER THE INPUT: true; the input reads as it did. -/
def fnExactSha3OfSpec : ChangeSpec := { name := "fnExactSha3Of", vars := ["loop.example/g00186/impl.spongeNumbers"], fn := fun _ => fun
  | [d, g1] => { results := [.lit (.bool true)], args := [d], vars := [g1] }
  | _ => none }
def fnExactSha3OfRow : OpenClaim := { program := "ytkidgllmhdfgaandoor", sum := "88ff9768b91b068b36db40fc6e5051f504a9c4c230ca4575d0286f140d2a5eed", func := "loop.example/g00186/laws.FnExactSha3Of", spec := "fnExactSha3Of", unfollowed := true, recurses := true, named := ["loop.example/g00186/impl.spongeNumbers"], apart := false, laid := [("loop.example/g00186/impl.spongeNumbers", laid_loop_example_g00186_impl_spongeNumbers)] }
def FnExactSha3OfSaid : Prop := fnExactSha3OfRow.holds Tryd.pinned (OpenSpec.ofChange fnExactSha3OfSpec)

/-- ITS FALSE NEIGHBOUR: 'it returns false'. Refute it at one input. -/
def fnExactSha3OfWrong : ChangeSpec := { name := "fnExactSha3Of", vars := ["loop.example/g00186/impl.spongeNumbers"], fn := fun _ => fun
  | [d, g1] => { results := [.lit (.bool false)], args := [d], vars := [g1] }
  | _ => none }
def FnExactSha3OfWrongFalsely : Prop := fnExactSha3OfRow.holds Tryd.pinned (OpenSpec.ofChange fnExactSha3OfWrong)

/- THE SECOND FORM. 'bulk': how many values and letters a reading holds, each counted each time it is reached (what is shared counts as often as it is met; a slice's spare places count too). A statement '..UptoSaid' is the law's where the arguments, and the package variables that the reading takes, are together of bulk at most 1048576: NARROWER than '..Said'. Prove '..Said' where nothing that the law and all that it calls make is longer than what came in: it says more and counts as full. Else prove '..UptoSaid'. A law counts once. -/
mutual
def uptoBulk {H : Type} : DataW H → Nat
  | .lit (.string bytes) => bytes.length + 1
  | .lit _ => 1
  | .nil => 1
  | .ptr d => uptoBulk d + 1
  | .slice elems spare => uptoBulkAll elems + uptoBulkAll spare + 1
  | .agg parts => uptoBulkAll parts + 1
  | .iface _ d => uptoBulk d + 1
  | .map entries => uptoBulkEntries entries + 1
  | .held _ => 1
def uptoBulkAll {H : Type} : List (DataW H) → Nat
  | [] => 0
  | d :: r => uptoBulk d + uptoBulkAll r
def uptoBulkEntries {H : Type} : List (Lit × DataW H) → Nat
  | [] => 0
  | x :: r => uptoBulkEntry x + uptoBulkEntries r
def uptoBulkEntry {H : Type} : Lit × DataW H → Nat
  | (.string bytes, d) => bytes.length + uptoBulk d + 1
  | (_, d) => uptoBulk d + 1
 end
def uptoSmall : (H : Type) → List (DataW H) → Bool := fun _ ds => decide (uptoBulkAll ds ≤ 1048576)
def OpenSpec.upto (s : _root_.Go.ChangeSpec) : _root_.Go.OpenSpec := { _root_.Go.OpenSpec.ofChange s with cond := some uptoSmall }

/-- 'laws.FnExactPermute', WHERE WHAT IT READS IS OF BULK AT MOST 1048576: true; the input reads as it did. -/
def fnExactPermuteUptoRow : OpenClaim := { program := "ytkidgllmhdfgaandoor", sum := "88ff9768b91b068b36db40fc6e5051f504a9c4c230ca4575d0286f140d2a5eed", func := "loop.example/g00186/laws.FnExactPermute", spec := "fnExactPermute", named := ["loop.example/g00186/impl.spongeNumbers"], apart := false, laid := [("loop.example/g00186/impl.spongeNumbers", laid_loop_example_g00186_impl_spongeNumbers)], narrowed := true }
def FnExactPermuteUptoSaid : Prop := fnExactPermuteUptoRow.holds Tryd.pinned (OpenSpec.upto fnExactPermuteSpec)

/-- 'laws.FnExactShakeOf', WHERE WHAT IT READS IS OF BULK AT MOST 1048576: true; the input reads as it did. -/
def fnExactShakeOfUptoRow : OpenClaim := { program := "ytkidgllmhdfgaandoor", sum := "88ff9768b91b068b36db40fc6e5051f504a9c4c230ca4575d0286f140d2a5eed", func := "loop.example/g00186/laws.FnExactShakeOf", spec := "fnExactShakeOf", unfollowed := true, recurses := true, named := ["loop.example/g00186/impl.spongeNumbers"], apart := false, laid := [("loop.example/g00186/impl.spongeNumbers", laid_loop_example_g00186_impl_spongeNumbers)], narrowed := true }
def FnExactShakeOfUptoSaid : Prop := fnExactShakeOfUptoRow.holds Tryd.pinned (OpenSpec.upto fnExactShakeOfSpec)

/-- 'laws.FnExactSha3Of', WHERE WHAT IT READS IS OF BULK AT MOST 1048576: true; the input reads as it did. -/
def fnExactSha3OfUptoRow : OpenClaim := { program := "ytkidgllmhdfgaandoor", sum := "88ff9768b91b068b36db40fc6e5051f504a9c4c230ca4575d0286f140d2a5eed", func := "loop.example/g00186/laws.FnExactSha3Of", spec := "fnExactSha3Of", unfollowed := true, recurses := true, named := ["loop.example/g00186/impl.spongeNumbers"], apart := false, laid := [("loop.example/g00186/impl.spongeNumbers", laid_loop_example_g00186_impl_spongeNumbers)], narrowed := true }
def FnExactSha3OfUptoSaid : Prop := fnExactSha3OfUptoRow.holds Tryd.pinned (OpenSpec.upto fnExactSha3OfSpec)

end Rows
end Go.Proofs.YtkidgllmhdfgaanDoor
