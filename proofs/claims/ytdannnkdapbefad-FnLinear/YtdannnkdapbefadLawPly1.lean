/- The laws FnExactPowQ, FnExactPolyOk, FnExactTurn7, FnExactFar, walked over the loaded program; what the project's function answers is a premise. -/
import Derived.Test.YtdannnkdapbefadPly2
import Derived.Test.YtdannnkdapbefadPly5
namespace Go.Proofs.Ytdannnkdapbefad
open Go.RowKit
end Go.Proofs.Ytdannnkdapbefad
