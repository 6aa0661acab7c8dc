/- Keys of a tree by the given model: leaves, public texts, signatures, over the loaded program. -/
import Derived.Test.YtecononlghjepawSgH
import Derived.Test.YtecononlghjepawByI
namespace Go.Proofs.Ytecononlghjepaw
open Go.RowKit
end Go.Proofs.Ytecononlghjepaw
