/- Packing by the project: polynomials, over the loaded program. -/
import Derived.Test.YtkiocjbooegajaqDoorPckE
import Derived.Test.YtkiocjbooegajaqDoorPck5
import Derived.Test.YtkiocjbooegajaqDoorPlyB
namespace Go.Proofs.YtkiocjbooegajaqDoor
open Go.RowKit
end Go.Proofs.YtkiocjbooegajaqDoor
