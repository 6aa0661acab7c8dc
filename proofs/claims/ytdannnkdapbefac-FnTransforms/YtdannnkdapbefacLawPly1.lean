/- The laws FnExactPowQ, FnExactPolyOk, FnExactTurn7, FnExactFar, walked over the loaded program; what the project's function answers is a premise. -/
import Derived.Test.YtdannnkdapbefacPly2
import Derived.Test.YtdannnkdapbefacPly5
namespace Go.Proofs.Ytdannnkdapbefac
open Go.RowKit
end Go.Proofs.Ytdannnkdapbefac
