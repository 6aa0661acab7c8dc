/- Keys of a tree by the project's own functions: the keys of a seed, public texts, signatures, over the loaded program. -/
import Derived.Test.YtecononlghjepawSgH
import Derived.Test.YtecononlghjepawByI
namespace Go.Proofs.Ytecononlghjepaw
open Go.RowKit
theorem sum_four16 (l : List ByteArray) (h : ∀ x ∈ l, x.size = 4) : sumS l = 4 * l.length := by
  induction l with
  | nil => rfl
  | cons x xs ih =>
    show x.size + sumS xs = 4 * (xs.length + 1)
    rw [h x (by simp), ih fun y hy => h y (by simp [hy])]
    omega
theorem keysO_sum (s : ByteArray) (leaf : Int) : sumS (keysO s leaf) ≤ 1048576 := by
  rw [sum_four16 _ (keysO_size s leaf), keysO_len]; omega
end Go.Proofs.Ytecononlghjepaw
