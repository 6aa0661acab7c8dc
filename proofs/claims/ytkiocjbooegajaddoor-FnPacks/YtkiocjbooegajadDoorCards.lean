/-
  DERIVED. GIVEN WITH THE SEED: THE CARDS: each row of YtkiocjbooegajadDoorRows.lean that lists a variable, with what it lists TIED to the program's text (the seventh form; the later family's looks); each row that meets fmt, with fmt's text TOLD by the authors' own Lean function (tested against real Go, not proved from fmt's source: count such statements apart). THE CARD IS WHAT COUNTS. Prove the row's statement (the work); the ties are given (YtkiocjbooegajadDoorTie.lean); close each card by the builder's one call (the guide's Derived/Test/ToyasCard.lean, 'card_holds'). Laid BY PROGRAM, IN A SANDBOX (cutbox-door.mjs). By AI agents, Wed Nov 11 2026. No macro, syntax, notation, axiom, sorry.
-/
import Derived.Test.YtkiocjbooegajadDoorRows
import GoSem.ClaimSeven
namespace Go.Proofs.YtkiocjbooegajadDoor
namespace Rows

/-- THE TIED CARD OF 'laws.FnPacks'. -/
def fnPacksCard : Claim7 := { stood := { row := fnPacksRow, standIns := [], harness := (true, "b521f1ed8f928603f58eafc90f1a80c1abbfde70c070758790962bc947da28df"), looks := false }, kinds := [], alts := [], laidByText := true, laidKinds := [.data], laidTests := true, laidLooks := .later }
def FnPacksCardSaid : Prop := Claim7.holds Tryd.pinned (.plain (OpenSpec.ofChange fnPacksSpec)) fnPacksCard

/-- THE SECOND FORM's CARD OF 'laws.FnPacks'. -/
def fnPacksUptoCard : Claim7 := { stood := { row := fnPacksUptoRow, standIns := [], harness := (true, "b521f1ed8f928603f58eafc90f1a80c1abbfde70c070758790962bc947da28df"), looks := false }, kinds := [], alts := [], laidByText := true, laidKinds := [.data], laidTests := true, laidLooks := .later }
def FnPacksUptoCardSaid : Prop := Claim7.holds Tryd.pinned (.plain (OpenSpec.upto fnPacksSpec)) fnPacksUptoCard
end Rows
end Go.Proofs.YtkiocjbooegajadDoor
