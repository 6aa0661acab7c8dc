/- The laws FnExactSqueeze, FnExactStretch, walked over the loaded program; what the project's function answers is a premise. -/
import Derived.Test.YtkiocjbooegajadPck1
namespace Go.Proofs.Ytkiocjbooegajad
open Go.RowKit
end Go.Proofs.Ytkiocjbooegajad
