/- What spec.ReadVar comes to, over the loaded program. -/
import Derived.Test.YtecbpplocokedaaReadVar
import Derived.Deep.RegionWith
import Derived.Deep.RegionHeld3
namespace Go.Proofs.Ytecbpplocokedaa
open Go.RowKit




end Go.Proofs.Ytecbpplocokedaa
