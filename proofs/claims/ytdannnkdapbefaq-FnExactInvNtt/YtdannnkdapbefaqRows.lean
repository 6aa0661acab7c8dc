/-
  No cell of these rows narrows 'for every input' (looked for: loops, veiled, ifaces, maps, wideKeys, modest, calm, conditions, laid).
  DERIVED. THE GIVEN ROWS OF THIS SEAT. 4 by the template 'for every input the law returns true; each argument reads behind the call as it read before'; 0 by the template 'total and deterministic' (their statements: YtdannnkdapbefaqTotals.lean).
  GIVEN WITH THE SEED: the statements are not yours to turn. If you find one false, say at which input.
  Laid BY PROGRAM, IN A SANDBOX (cutbox-rows.mjs): the forced cells as the released guide's own fill.sh prints them over the translation cf3794055974266f… (all of the seat's roots in one cut). By AI agents, Wed Nov 11 2026. No macro, syntax, notation, axiom, sorry.
-/
import Derived.Test.YtdannnkdapbefaqChecked
import GoSem.Claim
import GoSem.ClaimJoined
import GoSem.ClaimMapViews
import Derived.JoinedTies
import Derived.KernelRfl
namespace Go.Proofs.Ytdannnkdapbefaq
/- THE CELL 'sum', in the pinned program and in every row, IS THE sha256 OF THE DUMP (.gsa) THAT YtdannnkdapbefaqProg.lean LOADS. Nothing in Lean hashes anything: it is a label: what it is worth is what the hold of that sum in a sandbox is worth. -/
noncomputable def Try.pinned : Pinned := { name := "ytdannnkdapbefaq", sum := "cf3794055974266f52ffbb39032cfe35e2a3de416aeee2aed449bf08ca6b4f49", checked := Try.checked }
namespace Rows
def none {H : Type} : Left H := { results := [], args := [] }

/-- 'laws.FnExactFar': WHATEVER THE INPUT: true; the input reads as it did. -/
def fnExactFarSpec : ChangeSpec := { name := "fnExactFar", fn := fun _ => fun
  | [d1, d2] => { results := [.lit (.bool true)], args := [d1, d2] }
  | _ => none }
def fnExactFarRow : OpenClaim := { program := "ytdannnkdapbefaq", sum := "cf3794055974266f52ffbb39032cfe35e2a3de416aeee2aed449bf08ca6b4f49", func := "loop.example/g00186/laws.FnExactFar", spec := "fnExactFar", unfollowed := true, recurses := true, apart := false }
def FnExactFarSaid : Prop := fnExactFarRow.holds Try.pinned (OpenSpec.ofChange fnExactFarSpec)

/-- ITS FALSE NEIGHBOUR: 'it returns false'. Refute it at one input. -/
def fnExactFarWrong : ChangeSpec := { name := "fnExactFar", fn := fun _ => fun
  | [d1, d2] => { results := [.lit (.bool false)], args := [d1, d2] }
  | _ => none }
def FnExactFarWrongFalsely : Prop := fnExactFarRow.holds Try.pinned (OpenSpec.ofChange fnExactFarWrong)

/-- 'laws.FnExactNtt': WHATEVER THE INPUT: true; the input reads as it did. -/
def fnExactNttSpec : ChangeSpec := { name := "fnExactNtt", fn := fun _ => fun
  | [d] => { results := [.lit (.bool true)], args := [d] }
  | _ => none }
def fnExactNttRow : OpenClaim := { program := "ytdannnkdapbefaq", sum := "cf3794055974266f52ffbb39032cfe35e2a3de416aeee2aed449bf08ca6b4f49", func := "loop.example/g00186/laws.FnExactNtt", spec := "fnExactNtt", unfollowed := true, recurses := true, apart := false }
def FnExactNttSaid : Prop := fnExactNttRow.holds Try.pinned (OpenSpec.ofChange fnExactNttSpec)

/-- ITS FALSE NEIGHBOUR: 'it returns false'. Refute it at one input. -/
def fnExactNttWrong : ChangeSpec := { name := "fnExactNtt", fn := fun _ => fun
  | [d] => { results := [.lit (.bool false)], args := [d] }
  | _ => none }
def FnExactNttWrongFalsely : Prop := fnExactNttRow.holds Try.pinned (OpenSpec.ofChange fnExactNttWrong)

/-- 'laws.FnExactInvNtt': WHATEVER THE INPUT: true; the input reads as it did. -/
def fnExactInvNttSpec : ChangeSpec := { name := "fnExactInvNtt", fn := fun _ => fun
  | [d] => { results := [.lit (.bool true)], args := [d] }
  | _ => none }
def fnExactInvNttRow : OpenClaim := { program := "ytdannnkdapbefaq", sum := "cf3794055974266f52ffbb39032cfe35e2a3de416aeee2aed449bf08ca6b4f49", func := "loop.example/g00186/laws.FnExactInvNtt", spec := "fnExactInvNtt", unfollowed := true, recurses := true, apart := false }
def FnExactInvNttSaid : Prop := fnExactInvNttRow.holds Try.pinned (OpenSpec.ofChange fnExactInvNttSpec)

/-- ITS FALSE NEIGHBOUR: 'it returns false'. Refute it at one input. -/
def fnExactInvNttWrong : ChangeSpec := { name := "fnExactInvNtt", fn := fun _ => fun
  | [d] => { results := [.lit (.bool false)], args := [d] }
  | _ => none }
def FnExactInvNttWrongFalsely : Prop := fnExactInvNttRow.holds Try.pinned (OpenSpec.ofChange fnExactInvNttWrong)

/-- 'laws.FnExactMulNtt': WHATEVER THE INPUT: true; the input reads as it did. -/
def fnExactMulNttSpec : ChangeSpec := { name := "fnExactMulNtt", fn := fun _ => fun
  | [d1, d2] => { results := [.lit (.bool true)], args := [d1, d2] }
  | _ => none }
def fnExactMulNttRow : OpenClaim := { program := "ytdannnkdapbefaq", sum := "cf3794055974266f52ffbb39032cfe35e2a3de416aeee2aed449bf08ca6b4f49", func := "loop.example/g00186/laws.FnExactMulNtt", spec := "fnExactMulNtt", unfollowed := true, recurses := true, apart := false }
def FnExactMulNttSaid : Prop := fnExactMulNttRow.holds Try.pinned (OpenSpec.ofChange fnExactMulNttSpec)

/-- ITS FALSE NEIGHBOUR: 'it returns false'. Refute it at one input. -/
def fnExactMulNttWrong : ChangeSpec := { name := "fnExactMulNtt", fn := fun _ => fun
  | [d1, d2] => { results := [.lit (.bool false)], args := [d1, d2] }
  | _ => none }
def FnExactMulNttWrongFalsely : Prop := fnExactMulNttRow.holds Try.pinned (OpenSpec.ofChange fnExactMulNttWrong)

/- THE SECOND FORM. 'bulk': how many values and letters a reading holds, each counted each time it is reached (what is shared counts as often as it is met; a slice's spare places count too). A statement '..UptoSaid' is the law's where the arguments, and the package variables that the reading takes, are together of bulk at most 1048576: NARROWER than '..Said'. Prove '..Said' where nothing that the law and all that it calls make is longer than what came in: it says more and counts as full. Else prove '..UptoSaid'. A law counts once. -/
mutual
def uptoBulk {H : Type} : DataW H → Nat
  | .lit (.string bytes) => bytes.length + 1
  | .lit _ => 1
  | .nil => 1
  | .ptr d => uptoBulk d + 1
  | .slice elems spare => uptoBulkAll elems + uptoBulkAll spare + 1
  | .agg parts => uptoBulkAll parts + 1
  | .iface _ d => uptoBulk d + 1
  | .map entries => uptoBulkEntries entries + 1
  | .held _ => 1
def uptoBulkAll {H : Type} : List (DataW H) → Nat
  | [] => 0
  | d :: r => uptoBulk d + uptoBulkAll r
def uptoBulkEntries {H : Type} : List (Lit × DataW H) → Nat
  | [] => 0
  | x :: r => uptoBulkEntry x + uptoBulkEntries r
def uptoBulkEntry {H : Type} : Lit × DataW H → Nat
  | (.string bytes, d) => bytes.length + uptoBulk d + 1
  | (_, d) => uptoBulk d + 1
 end
def uptoSmall : (H : Type) → List (DataW H) → Bool := fun _ ds => decide (uptoBulkAll ds ≤ 1048576)
def OpenSpec.upto (s : _root_.Go.ChangeSpec) : _root_.Go.OpenSpec := { _root_.Go.OpenSpec.ofChange s with cond := some uptoSmall }

/-- 'laws.FnExactFar', WHERE WHAT IT READS IS OF BULK AT MOST 1048576: true; the input reads as it did. -/
def fnExactFarUptoRow : OpenClaim := { program := "ytdannnkdapbefaq", sum := "cf3794055974266f52ffbb39032cfe35e2a3de416aeee2aed449bf08ca6b4f49", func := "loop.example/g00186/laws.FnExactFar", spec := "fnExactFar", unfollowed := true, recurses := true, apart := false, narrowed := true }
def FnExactFarUptoSaid : Prop := fnExactFarUptoRow.holds Try.pinned (OpenSpec.upto fnExactFarSpec)

/-- 'laws.FnExactNtt', WHERE WHAT IT READS IS OF BULK AT MOST 1048576: true; the input reads as it did. -/
def fnExactNttUptoRow : OpenClaim := { program := "ytdannnkdapbefaq", sum := "cf3794055974266f52ffbb39032cfe35e2a3de416aeee2aed449bf08ca6b4f49", func := "loop.example/g00186/laws.FnExactNtt", spec := "fnExactNtt", unfollowed := true, recurses := true, apart := false, narrowed := true }
def FnExactNttUptoSaid : Prop := fnExactNttUptoRow.holds Try.pinned (OpenSpec.upto fnExactNttSpec)

/-- 'laws.FnExactInvNtt', WHERE WHAT IT READS IS OF BULK AT MOST 1048576: true; the input reads as it did. -/
def fnExactInvNttUptoRow : OpenClaim := { program := "ytdannnkdapbefaq", sum := "cf3794055974266f52ffbb39032cfe35e2a3de416aeee2aed449bf08ca6b4f49", func := "loop.example/g00186/laws.FnExactInvNtt", spec := "fnExactInvNtt", unfollowed := true, recurses := true, apart := false, narrowed := true }
def FnExactInvNttUptoSaid : Prop := fnExactInvNttUptoRow.holds Try.pinned (OpenSpec.upto fnExactInvNttSpec)

/-- 'laws.FnExactMulNtt', WHERE WHAT IT READS IS OF BULK AT MOST 1048576: true; the input reads as it did. -/
def fnExactMulNttUptoRow : OpenClaim := { program := "ytdannnkdapbefaq", sum := "cf3794055974266f52ffbb39032cfe35e2a3de416aeee2aed449bf08ca6b4f49", func := "loop.example/g00186/laws.FnExactMulNtt", spec := "fnExactMulNtt", unfollowed := true, recurses := true, apart := false, narrowed := true }
def FnExactMulNttUptoSaid : Prop := fnExactMulNttUptoRow.holds Try.pinned (OpenSpec.upto fnExactMulNttSpec)

end Rows
end Go.Proofs.Ytdannnkdapbefaq
