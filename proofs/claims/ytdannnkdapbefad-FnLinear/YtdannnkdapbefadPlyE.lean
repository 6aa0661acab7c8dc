/- Polynomials by the project: how far two are apart, over the loaded program. -/
import Derived.Test.YtdannnkdapbefadPlyA
import Derived.Test.YtdannnkdapbefadPlyB
namespace Go.Proofs.Ytdannnkdapbefad
open Go.RowKit
theorem circ_min (x y : Int) : circ x y = if (y - x) % 3329 < (x - y) % 3329 then (y - x) % 3329 else (x - y) % 3329 := by
  unfold circ
  split <;> split <;> omega
end Go.Proofs.Ytdannnkdapbefad
