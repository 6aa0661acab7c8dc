/- What spec.ReadVar comes to, over the loaded program. -/
import Derived.Test.YthoeebdibhdeoaaDoorReadVar
import Derived.Deep.RegionWith
import Derived.Deep.RegionHeld3
namespace Go.Proofs.YthoeebdibhdeoaaDoor
open Go.RowKit




end Go.Proofs.YthoeebdibhdeoaaDoor
