/-
  DERIVED. GIVEN WITH THE SEED: THE CARDS: each row of YtkidgllmhdfgaanDoorRows.lean that lists a variable, with what it lists TIED to the program's text (the seventh form; the later family's looks); each row that meets fmt, with fmt's text TOLD by the authors' own Lean function (tested against real Go, not proved from fmt's source: count such statements apart). THE CARD IS WHAT COUNTS. Prove the row's statement (the work); the ties are given (YtkidgllmhdfgaanDoorTie.lean); close each card by the builder's one call (the guide's Derived/Test/ToyasCard.lean, 'card_holds'). Laid BY PROGRAM, IN A SANDBOX (cutbox-door.mjs). By AI agents, Wed Nov 11 2026. No macro, syntax, notation, axiom, sorry.
-/
import Derived.Test.YtkidgllmhdfgaanDoorRows
import GoSem.ClaimSeven
namespace Go.Proofs.YtkidgllmhdfgaanDoor
namespace Rows

/-- THE TIED CARD OF 'laws.FnExactPermute'. -/
def fnExactPermuteCard : Claim7 := { stood := { row := fnExactPermuteRow, standIns := [], harness := (true, "a9d8cc062e66cf64d38a057c8bb7cbc27a70f907a9b1d84a6180aee1e0b3eb6b"), looks := false }, kinds := [], alts := [], laidByText := true, laidKinds := [.data], laidTests := true, laidLooks := .later }
def FnExactPermuteCardSaid : Prop := Claim7.holds Tryd.pinned (.plain (OpenSpec.ofChange fnExactPermuteSpec)) fnExactPermuteCard

/-- THE TIED CARD OF 'laws.FnExactShakeOf'. -/
def fnExactShakeOfCard : Claim7 := { stood := { row := fnExactShakeOfRow, standIns := [], harness := (true, "a9d8cc062e66cf64d38a057c8bb7cbc27a70f907a9b1d84a6180aee1e0b3eb6b"), looks := false }, kinds := [], alts := [], laidByText := true, laidKinds := [.data], laidTests := true, laidLooks := .later }
def FnExactShakeOfCardSaid : Prop := Claim7.holds Tryd.pinned (.plain (OpenSpec.ofChange fnExactShakeOfSpec)) fnExactShakeOfCard

/-- THE TIED CARD OF 'laws.FnExactSha3Of'. -/
def fnExactSha3OfCard : Claim7 := { stood := { row := fnExactSha3OfRow, standIns := [], harness := (true, "a9d8cc062e66cf64d38a057c8bb7cbc27a70f907a9b1d84a6180aee1e0b3eb6b"), looks := false }, kinds := [], alts := [], laidByText := true, laidKinds := [.data], laidTests := true, laidLooks := .later }
def FnExactSha3OfCardSaid : Prop := Claim7.holds Tryd.pinned (.plain (OpenSpec.ofChange fnExactSha3OfSpec)) fnExactSha3OfCard

/-- THE SECOND FORM's CARD OF 'laws.FnExactPermute'. -/
def fnExactPermuteUptoCard : Claim7 := { stood := { row := fnExactPermuteUptoRow, standIns := [], harness := (true, "a9d8cc062e66cf64d38a057c8bb7cbc27a70f907a9b1d84a6180aee1e0b3eb6b"), looks := false }, kinds := [], alts := [], laidByText := true, laidKinds := [.data], laidTests := true, laidLooks := .later }
def FnExactPermuteUptoCardSaid : Prop := Claim7.holds Tryd.pinned (.plain (OpenSpec.upto fnExactPermuteSpec)) fnExactPermuteUptoCard

/-- THE SECOND FORM's CARD OF 'laws.FnExactShakeOf'. -/
def fnExactShakeOfUptoCard : Claim7 := { stood := { row := fnExactShakeOfUptoRow, standIns := [], harness := (true, "a9d8cc062e66cf64d38a057c8bb7cbc27a70f907a9b1d84a6180aee1e0b3eb6b"), looks := false }, kinds := [], alts := [], laidByText := true, laidKinds := [.data], laidTests := true, laidLooks := .later }
def FnExactShakeOfUptoCardSaid : Prop := Claim7.holds Tryd.pinned (.plain (OpenSpec.upto fnExactShakeOfSpec)) fnExactShakeOfUptoCard

/-- THE SECOND FORM's CARD OF 'laws.FnExactSha3Of'. -/
def fnExactSha3OfUptoCard : Claim7 := { stood := { row := fnExactSha3OfUptoRow, standIns := [], harness := (true, "a9d8cc062e66cf64d38a057c8bb7cbc27a70f907a9b1d84a6180aee1e0b3eb6b"), looks := false }, kinds := [], alts := [], laidByText := true, laidKinds := [.data], laidTests := true, laidLooks := .later }
def FnExactSha3OfUptoCardSaid : Prop := Claim7.holds Tryd.pinned (.plain (OpenSpec.upto fnExactSha3OfSpec)) fnExactSha3OfUptoCard
end Rows
end Go.Proofs.YtkidgllmhdfgaanDoor
