/- Polynomials as bytes by the given model, over the loaded program. -/
import Derived.Test.YtkiocjbooegajaqDoorPck3
import Derived.Test.YtkiocjbooegajaqDoorPck4
namespace Go.Proofs.YtkiocjbooegajaqDoor
open Go.RowKit
def polB (l : List Int) : ByteArray := if okPl l = true then pkB l 12 else ⟨#[]⟩
def pfOk (s : ByteArray) : Bool := upOk s 12 256 && okPl (upL s 12 256)
def pfL (s : ByteArray) : List Int := if pfOk s = true then upL s 12 256 else []
end Go.Proofs.YtkiocjbooegajaqDoor
