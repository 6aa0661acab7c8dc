/-
  DERIVED. GIVEN WITH THE SEED: THE CARDS: each row of YtkiocjbooegajarDoorRows.lean that lists a variable, with what it lists TIED to the program's text (the seventh form; the later family's looks); each row that meets fmt, with fmt's text TOLD by the authors' own Lean function (tested against real Go, not proved from fmt's source: count such statements apart). THE CARD IS WHAT COUNTS. Prove the row's statement (the work); the ties are given (YtkiocjbooegajarDoorTie.lean); close each card by the builder's one call (the guide's Derived/Test/ToyasCard.lean, 'card_holds'). Laid BY PROGRAM, IN A SANDBOX (cutbox-door.mjs). By AI agents, Wed Nov 11 2026. No macro, syntax, notation, axiom, sorry.
-/
import Derived.Test.YtkiocjbooegajarDoorRows
import GoSem.ClaimSeven
namespace Go.Proofs.YtkiocjbooegajarDoor
namespace Rows

/-- THE TIED CARD OF 'laws.FnExactPolyBytes'. -/
def fnExactPolyBytesCard : Claim7 := { stood := { row := fnExactPolyBytesRow, standIns := [], harness := (true, "d72e4373306f1786c7327a902225cf1a003bce61b1c89170abcd70f710eeb0ab"), looks := false }, kinds := [], alts := [], laidByText := true, laidKinds := [.data], laidTests := true, laidLooks := .later }
def FnExactPolyBytesCardSaid : Prop := Claim7.holds Tryd.pinned (.plain (OpenSpec.ofChange fnExactPolyBytesSpec)) fnExactPolyBytesCard

/-- THE TIED CARD OF 'laws.FnExactPolyFrom'. -/
def fnExactPolyFromCard : Claim7 := { stood := { row := fnExactPolyFromRow, standIns := [], harness := (true, "d72e4373306f1786c7327a902225cf1a003bce61b1c89170abcd70f710eeb0ab"), looks := false }, kinds := [], alts := [], laidByText := true, laidKinds := [.data], laidTests := true, laidLooks := .later }
def FnExactPolyFromCardSaid : Prop := Claim7.holds Tryd.pinned (.plain (OpenSpec.ofChange fnExactPolyFromSpec)) fnExactPolyFromCard

/-- THE SECOND FORM's CARD OF 'laws.FnExactPolyBytes'. -/
def fnExactPolyBytesUptoCard : Claim7 := { stood := { row := fnExactPolyBytesUptoRow, standIns := [], harness := (true, "d72e4373306f1786c7327a902225cf1a003bce61b1c89170abcd70f710eeb0ab"), looks := false }, kinds := [], alts := [], laidByText := true, laidKinds := [.data], laidTests := true, laidLooks := .later }
def FnExactPolyBytesUptoCardSaid : Prop := Claim7.holds Tryd.pinned (.plain (OpenSpec.upto fnExactPolyBytesSpec)) fnExactPolyBytesUptoCard

/-- THE SECOND FORM's CARD OF 'laws.FnExactPolyFrom'. -/
def fnExactPolyFromUptoCard : Claim7 := { stood := { row := fnExactPolyFromUptoRow, standIns := [], harness := (true, "d72e4373306f1786c7327a902225cf1a003bce61b1c89170abcd70f710eeb0ab"), looks := false }, kinds := [], alts := [], laidByText := true, laidKinds := [.data], laidTests := true, laidLooks := .later }
def FnExactPolyFromUptoCardSaid : Prop := Claim7.holds Tryd.pinned (.plain (OpenSpec.upto fnExactPolyFromSpec)) fnExactPolyFromUptoCard
end Rows
end Go.Proofs.YtkiocjbooegajarDoor
