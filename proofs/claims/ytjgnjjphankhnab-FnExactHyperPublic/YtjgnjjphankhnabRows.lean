/-
  No cell of these rows narrows 'for every input' (looked for: loops, veiled, ifaces, maps, wideKeys, modest, calm, conditions, laid).
  DERIVED. THE GIVEN ROWS OF THIS SEAT. 5 by the template 'for every input the law returns true; each argument reads behind the call as it read before'; 0 by the template 'total and deterministic' (their statements: YtjgnjjphankhnabTotals.lean).
  GIVEN WITH THE SEED: the statements are not yours to turn. If you find one false, say at which input.
  Laid BY PROGRAM, IN A SANDBOX (cutbox-rows.mjs): the forced cells as the released guide's own fill.sh prints them over the translation ba054777a1a30f9c… (all of the seat's roots in one cut). By AI agents, Wed Nov 11 2026. No macro, syntax, notation, axiom, sorry.
-/
import Derived.Test.YtjgnjjphankhnabChecked
import GoSem.Claim
import GoSem.ClaimJoined
import GoSem.ClaimMapViews
import Derived.JoinedTies
import Derived.KernelRfl
namespace Go.Proofs.Ytjgnjjphankhnab
/- THE CELL 'sum', in the pinned program and in every row, IS THE sha256 OF THE DUMP (.gsa) THAT YtjgnjjphankhnabProg.lean LOADS. Nothing in Lean hashes anything: it is a label: what it is worth is what the hold of that sum in a sandbox is worth. -/
noncomputable def Try.pinned : Pinned := { name := "ytjgnjjphankhnab", sum := "ba054777a1a30f9c8161c4041db2eb59605322bc2628e293bfe15ad718c3ace8", checked := Try.checked }
namespace Rows
def none {H : Type} : Left H := { results := [], args := [] }

/-- 'laws.FnExactSigOk': WHATEVER THE INPUT: true; the input reads as it did. -/
def fnExactSigOkSpec : ChangeSpec := { name := "fnExactSigOk", fn := fun _ => fun
  | [d] => { results := [.lit (.bool true)], args := [d] }
  | _ => none }
def fnExactSigOkRow : OpenClaim := { program := "ytjgnjjphankhnab", sum := "ba054777a1a30f9c8161c4041db2eb59605322bc2628e293bfe15ad718c3ace8", func := "loop.example/g00186/laws.FnExactSigOk", spec := "fnExactSigOk", apart := false }
def FnExactSigOkSaid : Prop := fnExactSigOkRow.holds Try.pinned (OpenSpec.ofChange fnExactSigOkSpec)

/-- ITS FALSE NEIGHBOUR: 'it returns false'. Refute it at one input. -/
def fnExactSigOkWrong : ChangeSpec := { name := "fnExactSigOk", fn := fun _ => fun
  | [d] => { results := [.lit (.bool false)], args := [d] }
  | _ => none }
def FnExactSigOkWrongFalsely : Prop := fnExactSigOkRow.holds Try.pinned (OpenSpec.ofChange fnExactSigOkWrong)

/-- 'laws.FnExactCheckSig': WHATEVER THE INPUT: true; the input reads as it did. -/
def fnExactCheckSigSpec : ChangeSpec := { name := "fnExactCheckSig", fn := fun _ => fun
  | [d1, d2, d3] => { results := [.lit (.bool true)], args := [d1, d2, d3] }
  | _ => none }
def fnExactCheckSigRow : OpenClaim := { program := "ytjgnjjphankhnab", sum := "ba054777a1a30f9c8161c4041db2eb59605322bc2628e293bfe15ad718c3ace8", func := "loop.example/g00186/laws.FnExactCheckSig", spec := "fnExactCheckSig", inPlace := ["internal/abi.NoEscape", "internal/bytealg.MakeNoZero"], unfollowed := true, recurses := true, apart := false }
def FnExactCheckSigSaid : Prop := fnExactCheckSigRow.holds Try.pinned (OpenSpec.ofChange fnExactCheckSigSpec)

/-- ITS FALSE NEIGHBOUR: 'it returns false'. Refute it at one input. -/
def fnExactCheckSigWrong : ChangeSpec := { name := "fnExactCheckSig", fn := fun _ => fun
  | [d1, d2, d3] => { results := [.lit (.bool false)], args := [d1, d2, d3] }
  | _ => none }
def FnExactCheckSigWrongFalsely : Prop := fnExactCheckSigRow.holds Try.pinned (OpenSpec.ofChange fnExactCheckSigWrong)

/-- 'laws.FnExactSigText': WHATEVER THE INPUT: true; the input reads as it did. -/
def fnExactSigTextSpec : ChangeSpec := { name := "fnExactSigText", fn := fun _ => fun
  | [d] => { results := [.lit (.bool true)], args := [d] }
  | _ => none }
def fnExactSigTextRow : OpenClaim := { program := "ytjgnjjphankhnab", sum := "ba054777a1a30f9c8161c4041db2eb59605322bc2628e293bfe15ad718c3ace8", func := "loop.example/g00186/laws.FnExactSigText", spec := "fnExactSigText", inPlace := ["internal/abi.NoEscape", "internal/bytealg.MakeNoZero"], apart := false }
def FnExactSigTextSaid : Prop := fnExactSigTextRow.holds Try.pinned (OpenSpec.ofChange fnExactSigTextSpec)

/-- ITS FALSE NEIGHBOUR: 'it returns false'. Refute it at one input. -/
def fnExactSigTextWrong : ChangeSpec := { name := "fnExactSigText", fn := fun _ => fun
  | [d] => { results := [.lit (.bool false)], args := [d] }
  | _ => none }
def FnExactSigTextWrongFalsely : Prop := fnExactSigTextRow.holds Try.pinned (OpenSpec.ofChange fnExactSigTextWrong)

/-- 'laws.FnExactReadSig': WHATEVER THE INPUT: true; the input reads as it did. -/
def fnExactReadSigSpec : ChangeSpec := { name := "fnExactReadSig", fn := fun _ => fun
  | [d] => { results := [.lit (.bool true)], args := [d] }
  | _ => none }
def fnExactReadSigRow : OpenClaim := { program := "ytjgnjjphankhnab", sum := "ba054777a1a30f9c8161c4041db2eb59605322bc2628e293bfe15ad718c3ace8", func := "loop.example/g00186/laws.FnExactReadSig", spec := "fnExactReadSig", apart := false }
def FnExactReadSigSaid : Prop := fnExactReadSigRow.holds Try.pinned (OpenSpec.ofChange fnExactReadSigSpec)

/-- ITS FALSE NEIGHBOUR: 'it returns false'. Refute it at one input. -/
def fnExactReadSigWrong : ChangeSpec := { name := "fnExactReadSig", fn := fun _ => fun
  | [d] => { results := [.lit (.bool false)], args := [d] }
  | _ => none }
def FnExactReadSigWrongFalsely : Prop := fnExactReadSigRow.holds Try.pinned (OpenSpec.ofChange fnExactReadSigWrong)

/-- 'laws.FnExactHyperPublic': WHATEVER THE INPUT: true; the input reads as it did. -/
def fnExactHyperPublicSpec : ChangeSpec := { name := "fnExactHyperPublic", fn := fun _ => fun
  | [d] => { results := [.lit (.bool true)], args := [d] }
  | _ => none }
def fnExactHyperPublicRow : OpenClaim := { program := "ytjgnjjphankhnab", sum := "ba054777a1a30f9c8161c4041db2eb59605322bc2628e293bfe15ad718c3ace8", func := "loop.example/g00186/laws.FnExactHyperPublic", spec := "fnExactHyperPublic", inPlace := ["internal/abi.NoEscape", "internal/bytealg.MakeNoZero"], unfollowed := true, recurses := true, apart := false }
def FnExactHyperPublicSaid : Prop := fnExactHyperPublicRow.holds Try.pinned (OpenSpec.ofChange fnExactHyperPublicSpec)

/-- ITS FALSE NEIGHBOUR: 'it returns false'. Refute it at one input. -/
def fnExactHyperPublicWrong : ChangeSpec := { name := "fnExactHyperPublic", fn := fun _ => fun
  | [d] => { results := [.lit (.bool false)], args := [d] }
  | _ => none }
def FnExactHyperPublicWrongFalsely : Prop := fnExactHyperPublicRow.holds Try.pinned (OpenSpec.ofChange fnExactHyperPublicWrong)

/- THE SECOND FORM. 'bulk': how many values and letters a reading holds, each counted each time it is reached (what is shared counts as often as it is met; a slice's spare places count too). A statement '..UptoSaid' is the law's where the arguments, and the package variables that the reading takes, are together of bulk at most 1048576: NARROWER than '..Said'. Prove '..Said' where nothing that the law and all that it calls make is longer than what came in: it says more and counts as full. Else prove '..UptoSaid'. A law counts once. -/
mutual
def uptoBulk {H : Type} : DataW H → Nat
  | .lit (.string bytes) => bytes.length + 1
  | .lit _ => 1
  | .nil => 1
  | .ptr d => uptoBulk d + 1
  | .slice elems spare => uptoBulkAll elems + uptoBulkAll spare + 1
  | .agg parts => uptoBulkAll parts + 1
  | .iface _ d => uptoBulk d + 1
  | .map entries => uptoBulkEntries entries + 1
  | .held _ => 1
def uptoBulkAll {H : Type} : List (DataW H) → Nat
  | [] => 0
  | d :: r => uptoBulk d + uptoBulkAll r
def uptoBulkEntries {H : Type} : List (Lit × DataW H) → Nat
  | [] => 0
  | x :: r => uptoBulkEntry x + uptoBulkEntries r
def uptoBulkEntry {H : Type} : Lit × DataW H → Nat
  | (.string bytes, d) => bytes.length + uptoBulk d + 1
  | (_, d) => uptoBulk d + 1
 end
def uptoSmall : (H : Type) → List (DataW H) → Bool := fun _ ds => decide (uptoBulkAll ds ≤ 1048576)
def OpenSpec.upto (s : _root_.Go.ChangeSpec) : _root_.Go.OpenSpec := { _root_.Go.OpenSpec.ofChange s with cond := some uptoSmall }

/-- 'laws.FnExactSigOk', WHERE WHAT IT READS IS OF BULK AT MOST 1048576: true; the input reads as it did. -/
def fnExactSigOkUptoRow : OpenClaim := { program := "ytjgnjjphankhnab", sum := "ba054777a1a30f9c8161c4041db2eb59605322bc2628e293bfe15ad718c3ace8", func := "loop.example/g00186/laws.FnExactSigOk", spec := "fnExactSigOk", apart := false, narrowed := true }
def FnExactSigOkUptoSaid : Prop := fnExactSigOkUptoRow.holds Try.pinned (OpenSpec.upto fnExactSigOkSpec)

/-- 'laws.FnExactCheckSig', WHERE WHAT IT READS IS OF BULK AT MOST 1048576: true; the input reads as it did. -/
def fnExactCheckSigUptoRow : OpenClaim := { program := "ytjgnjjphankhnab", sum := "ba054777a1a30f9c8161c4041db2eb59605322bc2628e293bfe15ad718c3ace8", func := "loop.example/g00186/laws.FnExactCheckSig", spec := "fnExactCheckSig", inPlace := ["internal/abi.NoEscape", "internal/bytealg.MakeNoZero"], unfollowed := true, recurses := true, apart := false, narrowed := true }
def FnExactCheckSigUptoSaid : Prop := fnExactCheckSigUptoRow.holds Try.pinned (OpenSpec.upto fnExactCheckSigSpec)

/-- 'laws.FnExactSigText', WHERE WHAT IT READS IS OF BULK AT MOST 1048576: true; the input reads as it did. -/
def fnExactSigTextUptoRow : OpenClaim := { program := "ytjgnjjphankhnab", sum := "ba054777a1a30f9c8161c4041db2eb59605322bc2628e293bfe15ad718c3ace8", func := "loop.example/g00186/laws.FnExactSigText", spec := "fnExactSigText", inPlace := ["internal/abi.NoEscape", "internal/bytealg.MakeNoZero"], apart := false, narrowed := true }
def FnExactSigTextUptoSaid : Prop := fnExactSigTextUptoRow.holds Try.pinned (OpenSpec.upto fnExactSigTextSpec)

/-- 'laws.FnExactReadSig', WHERE WHAT IT READS IS OF BULK AT MOST 1048576: true; the input reads as it did. -/
def fnExactReadSigUptoRow : OpenClaim := { program := "ytjgnjjphankhnab", sum := "ba054777a1a30f9c8161c4041db2eb59605322bc2628e293bfe15ad718c3ace8", func := "loop.example/g00186/laws.FnExactReadSig", spec := "fnExactReadSig", apart := false, narrowed := true }
def FnExactReadSigUptoSaid : Prop := fnExactReadSigUptoRow.holds Try.pinned (OpenSpec.upto fnExactReadSigSpec)

/-- 'laws.FnExactHyperPublic', WHERE WHAT IT READS IS OF BULK AT MOST 1048576: true; the input reads as it did. -/
def fnExactHyperPublicUptoRow : OpenClaim := { program := "ytjgnjjphankhnab", sum := "ba054777a1a30f9c8161c4041db2eb59605322bc2628e293bfe15ad718c3ace8", func := "loop.example/g00186/laws.FnExactHyperPublic", spec := "fnExactHyperPublic", inPlace := ["internal/abi.NoEscape", "internal/bytealg.MakeNoZero"], unfollowed := true, recurses := true, apart := false, narrowed := true }
def FnExactHyperPublicUptoSaid : Prop := fnExactHyperPublicUptoRow.holds Try.pinned (OpenSpec.upto fnExactHyperPublicSpec)

end Rows
end Go.Proofs.Ytjgnjjphankhnab
