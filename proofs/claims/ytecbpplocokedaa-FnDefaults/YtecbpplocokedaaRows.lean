/-
  No cell of these rows narrows 'for every input' (looked for: loops, veiled, ifaces, maps, wideKeys, modest, calm, conditions, laid).
  DERIVED. THE GIVEN ROWS OF THIS SEAT. 6 by the template 'for every input the law returns true; each argument reads behind the call as it read before'; 0 by the template 'total and deterministic' (their statements: YtecbpplocokedaaTotals.lean).
  GIVEN WITH THE SEED: the statements are not yours to turn. If you find one false, say at which input.
  Laid BY PROGRAM, IN A SANDBOX (cutbox-rows.mjs): the forced cells as the released guide's own fill.sh prints them over the translation aa62981bda179a67… (all of the seat's roots in one cut). By AI agents, Wed Nov 11 2026. No macro, syntax, notation, axiom, sorry.
-/
import Derived.Test.YtecbpplocokedaaChecked
import GoSem.Claim
import GoSem.ClaimJoined
import GoSem.ClaimMapViews
import Derived.JoinedTies
import Derived.KernelRfl
namespace Go.Proofs.Ytecbpplocokedaa
/- THE CELL 'sum', in the pinned program and in every row, IS THE sha256 OF THE DUMP (.gsa) THAT YtecbpplocokedaaProg.lean LOADS. Nothing in Lean hashes anything: it is a label: what it is worth is what the hold of that sum in a sandbox is worth. -/
noncomputable def Try.pinned : Pinned := { name := "ytecbpplocokedaa", sum := "aa62981bda179a676a87c1bd71e0557f9adae3f43193362fc3c59017d7b22575", checked := Try.checked }
namespace Rows
def none {H : Type} : Left H := { results := [], args := [] }

/-- 'laws.FnRules': WHATEVER THE INPUT: true; the input reads as it did. -/
def fnRulesSpec : ChangeSpec := { name := "fnRules", fn := fun _ => fun
  | [d] => { results := [.lit (.bool true)], args := [d] }
  | _ => none }
def fnRulesRow : OpenClaim := { program := "ytecbpplocokedaa", sum := "aa62981bda179a676a87c1bd71e0557f9adae3f43193362fc3c59017d7b22575", func := "loop.example/g00186/laws.FnRules", spec := "fnRules", unfollowed := true, recurses := true, apart := false }
def FnRulesSaid : Prop := fnRulesRow.holds Try.pinned (OpenSpec.ofChange fnRulesSpec)

/-- ITS FALSE NEIGHBOUR: 'it returns false'. Refute it at one input. -/
def fnRulesWrong : ChangeSpec := { name := "fnRules", fn := fun _ => fun
  | [d] => { results := [.lit (.bool false)], args := [d] }
  | _ => none }
def FnRulesWrongFalsely : Prop := fnRulesRow.holds Try.pinned (OpenSpec.ofChange fnRulesWrong)

/-- 'laws.FnDefaults': WHATEVER THE INPUT: true; the input reads as it did. -/
def fnDefaultsSpec : ChangeSpec := { name := "fnDefaults", fn := fun _ => fun
  | [d] => { results := [.lit (.bool true)], args := [d] }
  | _ => none }
def fnDefaultsRow : OpenClaim := { program := "ytecbpplocokedaa", sum := "aa62981bda179a676a87c1bd71e0557f9adae3f43193362fc3c59017d7b22575", func := "loop.example/g00186/laws.FnDefaults", spec := "fnDefaults", unfollowed := true, recurses := true, apart := false }
def FnDefaultsSaid : Prop := fnDefaultsRow.holds Try.pinned (OpenSpec.ofChange fnDefaultsSpec)

/-- ITS FALSE NEIGHBOUR: 'it returns false'. Refute it at one input. -/
def fnDefaultsWrong : ChangeSpec := { name := "fnDefaults", fn := fun _ => fun
  | [d] => { results := [.lit (.bool false)], args := [d] }
  | _ => none }
def FnDefaultsWrongFalsely : Prop := fnDefaultsRow.holds Try.pinned (OpenSpec.ofChange fnDefaultsWrong)

/-- 'laws.FnExactMay': WHATEVER THE INPUT: true; the input reads as it did. -/
def fnExactMaySpec : ChangeSpec := { name := "fnExactMay", fn := fun _ => fun
  | [d1, d2] => { results := [.lit (.bool true)], args := [d1, d2] }
  | _ => none }
def fnExactMayRow : OpenClaim := { program := "ytecbpplocokedaa", sum := "aa62981bda179a676a87c1bd71e0557f9adae3f43193362fc3c59017d7b22575", func := "loop.example/g00186/laws.FnExactMay", spec := "fnExactMay", unfollowed := true, recurses := true, apart := false }
def FnExactMaySaid : Prop := fnExactMayRow.holds Try.pinned (OpenSpec.ofChange fnExactMaySpec)

/-- ITS FALSE NEIGHBOUR: 'it returns false'. Refute it at one input. -/
def fnExactMayWrong : ChangeSpec := { name := "fnExactMay", fn := fun _ => fun
  | [d1, d2] => { results := [.lit (.bool false)], args := [d1, d2] }
  | _ => none }
def FnExactMayWrongFalsely : Prop := fnExactMayRow.holds Try.pinned (OpenSpec.ofChange fnExactMayWrong)

/-- 'laws.FnExactChange': WHATEVER THE INPUT: true; the input reads as it did. -/
def fnExactChangeSpec : ChangeSpec := { name := "fnExactChange", fn := fun _ => fun
  | [d1, d2, d3] => { results := [.lit (.bool true)], args := [d1, d2, d3] }
  | _ => none }
def fnExactChangeRow : OpenClaim := { program := "ytecbpplocokedaa", sum := "aa62981bda179a676a87c1bd71e0557f9adae3f43193362fc3c59017d7b22575", func := "loop.example/g00186/laws.FnExactChange", spec := "fnExactChange", apart := false }
def FnExactChangeSaid : Prop := fnExactChangeRow.holds Try.pinned (OpenSpec.ofChange fnExactChangeSpec)

/-- ITS FALSE NEIGHBOUR: 'it returns false'. Refute it at one input. -/
def fnExactChangeWrong : ChangeSpec := { name := "fnExactChange", fn := fun _ => fun
  | [d1, d2, d3] => { results := [.lit (.bool false)], args := [d1, d2, d3] }
  | _ => none }
def FnExactChangeWrongFalsely : Prop := fnExactChangeRow.holds Try.pinned (OpenSpec.ofChange fnExactChangeWrong)

/-- 'laws.FnExactDefaults': WHATEVER THE INPUT: true; the input reads as it did. -/
def fnExactDefaultsSpec : ChangeSpec := { name := "fnExactDefaults", fn := fun _ => fun
  | [d1, d2] => { results := [.lit (.bool true)], args := [d1, d2] }
  | _ => none }
def fnExactDefaultsRow : OpenClaim := { program := "ytecbpplocokedaa", sum := "aa62981bda179a676a87c1bd71e0557f9adae3f43193362fc3c59017d7b22575", func := "loop.example/g00186/laws.FnExactDefaults", spec := "fnExactDefaults", unfollowed := true, recurses := true, apart := false }
def FnExactDefaultsSaid : Prop := fnExactDefaultsRow.holds Try.pinned (OpenSpec.ofChange fnExactDefaultsSpec)

/-- ITS FALSE NEIGHBOUR: 'it returns false'. Refute it at one input. -/
def fnExactDefaultsWrong : ChangeSpec := { name := "fnExactDefaults", fn := fun _ => fun
  | [d1, d2] => { results := [.lit (.bool false)], args := [d1, d2] }
  | _ => none }
def FnExactDefaultsWrongFalsely : Prop := fnExactDefaultsRow.holds Try.pinned (OpenSpec.ofChange fnExactDefaultsWrong)

/-- 'laws.FnExactRestored': WHATEVER THE INPUT: true; the input reads as it did. -/
def fnExactRestoredSpec : ChangeSpec := { name := "fnExactRestored", fn := fun _ => fun
  | [d] => { results := [.lit (.bool true)], args := [d] }
  | _ => none }
def fnExactRestoredRow : OpenClaim := { program := "ytecbpplocokedaa", sum := "aa62981bda179a676a87c1bd71e0557f9adae3f43193362fc3c59017d7b22575", func := "loop.example/g00186/laws.FnExactRestored", spec := "fnExactRestored", apart := false }
def FnExactRestoredSaid : Prop := fnExactRestoredRow.holds Try.pinned (OpenSpec.ofChange fnExactRestoredSpec)

/-- ITS FALSE NEIGHBOUR: 'it returns false'. Refute it at one input. -/
def fnExactRestoredWrong : ChangeSpec := { name := "fnExactRestored", fn := fun _ => fun
  | [d] => { results := [.lit (.bool false)], args := [d] }
  | _ => none }
def FnExactRestoredWrongFalsely : Prop := fnExactRestoredRow.holds Try.pinned (OpenSpec.ofChange fnExactRestoredWrong)

/- THE SECOND FORM. 'bulk': how many values and letters a reading holds, each counted each time it is reached (what is shared counts as often as it is met; a slice's spare places count too). A statement '..UptoSaid' is the law's where the arguments, and the package variables that the reading takes, are together of bulk at most 1048576: NARROWER than '..Said'. Prove '..Said' where nothing that the law and all that it calls make is longer than what came in: it says more and counts as full. Else prove '..UptoSaid'. A law counts once. -/
mutual
def uptoBulk {H : Type} : DataW H → Nat
  | .lit (.string bytes) => bytes.length + 1
  | .lit _ => 1
  | .nil => 1
  | .ptr d => uptoBulk d + 1
  | .slice elems spare => uptoBulkAll elems + uptoBulkAll spare + 1
  | .agg parts => uptoBulkAll parts + 1
  | .iface _ d => uptoBulk d + 1
  | .map entries => uptoBulkEntries entries + 1
  | .held _ => 1
def uptoBulkAll {H : Type} : List (DataW H) → Nat
  | [] => 0
  | d :: r => uptoBulk d + uptoBulkAll r
def uptoBulkEntries {H : Type} : List (Lit × DataW H) → Nat
  | [] => 0
  | x :: r => uptoBulkEntry x + uptoBulkEntries r
def uptoBulkEntry {H : Type} : Lit × DataW H → Nat
  | (.string bytes, d) => bytes.length + uptoBulk d + 1
  | (_, d) => uptoBulk d + 1
 end
def uptoSmall : (H : Type) → List (DataW H) → Bool := fun _ ds => decide (uptoBulkAll ds ≤ 1048576)
def OpenSpec.upto (s : _root_.Go.ChangeSpec) : _root_.Go.OpenSpec := { _root_.Go.OpenSpec.ofChange s with cond := some uptoSmall }

/-- 'laws.FnRules', WHERE WHAT IT READS IS OF BULK AT MOST 1048576: true; the input reads as it did. -/
def fnRulesUptoRow : OpenClaim := { program := "ytecbpplocokedaa", sum := "aa62981bda179a676a87c1bd71e0557f9adae3f43193362fc3c59017d7b22575", func := "loop.example/g00186/laws.FnRules", spec := "fnRules", unfollowed := true, recurses := true, apart := false, narrowed := true }
def FnRulesUptoSaid : Prop := fnRulesUptoRow.holds Try.pinned (OpenSpec.upto fnRulesSpec)

/-- 'laws.FnDefaults', WHERE WHAT IT READS IS OF BULK AT MOST 1048576: true; the input reads as it did. -/
def fnDefaultsUptoRow : OpenClaim := { program := "ytecbpplocokedaa", sum := "aa62981bda179a676a87c1bd71e0557f9adae3f43193362fc3c59017d7b22575", func := "loop.example/g00186/laws.FnDefaults", spec := "fnDefaults", unfollowed := true, recurses := true, apart := false, narrowed := true }
def FnDefaultsUptoSaid : Prop := fnDefaultsUptoRow.holds Try.pinned (OpenSpec.upto fnDefaultsSpec)

/-- 'laws.FnExactMay', WHERE WHAT IT READS IS OF BULK AT MOST 1048576: true; the input reads as it did. -/
def fnExactMayUptoRow : OpenClaim := { program := "ytecbpplocokedaa", sum := "aa62981bda179a676a87c1bd71e0557f9adae3f43193362fc3c59017d7b22575", func := "loop.example/g00186/laws.FnExactMay", spec := "fnExactMay", unfollowed := true, recurses := true, apart := false, narrowed := true }
def FnExactMayUptoSaid : Prop := fnExactMayUptoRow.holds Try.pinned (OpenSpec.upto fnExactMaySpec)

/-- 'laws.FnExactChange', WHERE WHAT IT READS IS OF BULK AT MOST 1048576: true; the input reads as it did. -/
def fnExactChangeUptoRow : OpenClaim := { program := "ytecbpplocokedaa", sum := "aa62981bda179a676a87c1bd71e0557f9adae3f43193362fc3c59017d7b22575", func := "loop.example/g00186/laws.FnExactChange", spec := "fnExactChange", apart := false, narrowed := true }
def FnExactChangeUptoSaid : Prop := fnExactChangeUptoRow.holds Try.pinned (OpenSpec.upto fnExactChangeSpec)

/-- 'laws.FnExactDefaults', WHERE WHAT IT READS IS OF BULK AT MOST 1048576: true; the input reads as it did. -/
def fnExactDefaultsUptoRow : OpenClaim := { program := "ytecbpplocokedaa", sum := "aa62981bda179a676a87c1bd71e0557f9adae3f43193362fc3c59017d7b22575", func := "loop.example/g00186/laws.FnExactDefaults", spec := "fnExactDefaults", unfollowed := true, recurses := true, apart := false, narrowed := true }
def FnExactDefaultsUptoSaid : Prop := fnExactDefaultsUptoRow.holds Try.pinned (OpenSpec.upto fnExactDefaultsSpec)

/-- 'laws.FnExactRestored', WHERE WHAT IT READS IS OF BULK AT MOST 1048576: true; the input reads as it did. -/
def fnExactRestoredUptoRow : OpenClaim := { program := "ytecbpplocokedaa", sum := "aa62981bda179a676a87c1bd71e0557f9adae3f43193362fc3c59017d7b22575", func := "loop.example/g00186/laws.FnExactRestored", spec := "fnExactRestored", apart := false, narrowed := true }
def FnExactRestoredUptoSaid : Prop := fnExactRestoredUptoRow.holds Try.pinned (OpenSpec.upto fnExactRestoredSpec)

end Rows
end Go.Proofs.Ytecbpplocokedaa
