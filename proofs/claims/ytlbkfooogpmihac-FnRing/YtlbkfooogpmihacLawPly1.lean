/- The laws FnExactPowQ, FnExactPolyOk, FnExactTurn7, FnExactFar, walked over the loaded program; what the project's function answers is a premise. -/
import Derived.Test.YtlbkfooogpmihacPly2
import Derived.Test.YtlbkfooogpmihacPly5
namespace Go.Proofs.Ytlbkfooogpmihac
open Go.RowKit
end Go.Proofs.Ytlbkfooogpmihac
