/- What spec.ReadVar and impl.ReadVar come to, over the loaded program. -/
import Derived.Test.YtecbpplocokedaaVar
import Derived.Test.YtecbpplocokedaaRv
namespace Go.Proofs.Ytecbpplocokedaa
open Go.RowKit

/-- The three results of ReadVar. -/
def rvTup : Option (Nat × Nat) → Value
  | none => .tuple #[.int .i64 0, .int .i64 0, .bool false]
  | some (n, j) => .tuple #[.int .i64 (n : Int), .int .i64 (j : Int), .bool true]

theorem rvTup_none {x : Option (Nat × Nat)} (h : x = none) : Ending.returned (.tuple #[.int .i64 0, .int .i64 0, .bool false]) = .returned (rvTup x) := by subst h; rfl
theorem rvTup_some {x : Option (Nat × Nat)} {n j : Nat} (h : x = some (n, j)) : Ending.returned (.tuple #[.int .i64 (n : Int), .int .i64 (j : Int), .bool true]) = .returned (rvTup x) := by subst h; rfl



end Go.Proofs.Ytecbpplocokedaa
