/-
  DERIVED. GIVEN WITH THE SEED: THE CARDS: each row of YtkidgllmhdfgaabDoorRows.lean that lists a variable, with what it lists TIED to the program's text (the seventh form; the later family's looks); each row that meets fmt, with fmt's text TOLD by the authors' own Lean function (tested against real Go, not proved from fmt's source: count such statements apart). THE CARD IS WHAT COUNTS. Prove the row's statement (the work); the ties are given (YtkidgllmhdfgaabDoorTie.lean); close each card by the builder's one call (the guide's Derived/Test/ToyasCard.lean, 'card_holds'). Laid BY PROGRAM, IN A SANDBOX (cutbox-door.mjs). By AI agents, Wed Nov 11 2026. No macro, syntax, notation, axiom, sorry.
-/
import Derived.Test.YtkidgllmhdfgaabDoorRows
import GoSem.ClaimSeven
namespace Go.Proofs.YtkidgllmhdfgaabDoor
namespace Rows

/-- THE TIED CARD OF 'laws.FnSponges'. -/
def fnSpongesCard : Claim7 := { stood := { row := fnSpongesRow, standIns := [], harness := (true, "1ad3d1b11050fce3b56fdabcc5adaf4d660adc0effa96a9319df4270eb9db511"), looks := false }, kinds := [], alts := [], laidByText := true, laidKinds := [.data], laidTests := true, laidLooks := .later }
def FnSpongesCardSaid : Prop := Claim7.holds Tryd.pinned (.plain (OpenSpec.ofChange fnSpongesSpec)) fnSpongesCard

/-- THE TIED CARD OF 'laws.FnPermutes'. -/
def fnPermutesCard : Claim7 := { stood := { row := fnPermutesRow, standIns := [], harness := (true, "1ad3d1b11050fce3b56fdabcc5adaf4d660adc0effa96a9319df4270eb9db511"), looks := false }, kinds := [], alts := [], laidByText := true, laidKinds := [.data], laidTests := true, laidLooks := .later }
def FnPermutesCardSaid : Prop := Claim7.holds Tryd.pinned (.plain (OpenSpec.ofChange fnPermutesSpec)) fnPermutesCard

/-- THE TIED CARD OF 'laws.FnSha3'. -/
def fnSha3Card : Claim7 := { stood := { row := fnSha3Row, standIns := [], harness := (true, "1ad3d1b11050fce3b56fdabcc5adaf4d660adc0effa96a9319df4270eb9db511"), looks := false }, kinds := [], alts := [], laidByText := true, laidKinds := [.data], laidTests := true, laidLooks := .later }
def FnSha3CardSaid : Prop := Claim7.holds Tryd.pinned (.plain (OpenSpec.ofChange fnSha3Spec)) fnSha3Card

/-- THE SECOND FORM's CARD OF 'laws.FnSponges'. -/
def fnSpongesUptoCard : Claim7 := { stood := { row := fnSpongesUptoRow, standIns := [], harness := (true, "1ad3d1b11050fce3b56fdabcc5adaf4d660adc0effa96a9319df4270eb9db511"), looks := false }, kinds := [], alts := [], laidByText := true, laidKinds := [.data], laidTests := true, laidLooks := .later }
def FnSpongesUptoCardSaid : Prop := Claim7.holds Tryd.pinned (.plain (OpenSpec.upto fnSpongesSpec)) fnSpongesUptoCard

/-- THE SECOND FORM's CARD OF 'laws.FnPermutes'. -/
def fnPermutesUptoCard : Claim7 := { stood := { row := fnPermutesUptoRow, standIns := [], harness := (true, "1ad3d1b11050fce3b56fdabcc5adaf4d660adc0effa96a9319df4270eb9db511"), looks := false }, kinds := [], alts := [], laidByText := true, laidKinds := [.data], laidTests := true, laidLooks := .later }
def FnPermutesUptoCardSaid : Prop := Claim7.holds Tryd.pinned (.plain (OpenSpec.upto fnPermutesSpec)) fnPermutesUptoCard

/-- THE SECOND FORM's CARD OF 'laws.FnSha3'. -/
def fnSha3UptoCard : Claim7 := { stood := { row := fnSha3UptoRow, standIns := [], harness := (true, "1ad3d1b11050fce3b56fdabcc5adaf4d660adc0effa96a9319df4270eb9db511"), looks := false }, kinds := [], alts := [], laidByText := true, laidKinds := [.data], laidTests := true, laidLooks := .later }
def FnSha3UptoCardSaid : Prop := Claim7.holds Tryd.pinned (.plain (OpenSpec.upto fnSha3Spec)) fnSha3UptoCard
end Rows
end Go.Proofs.YtkidgllmhdfgaabDoor
