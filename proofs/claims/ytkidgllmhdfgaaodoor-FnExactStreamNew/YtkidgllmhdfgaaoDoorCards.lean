/-
  DERIVED. GIVEN WITH THE SEED: THE CARDS: each row of YtkidgllmhdfgaaoDoorRows.lean that lists a variable, with what it lists TIED to the program's text (the seventh form; the later family's looks); each row that meets fmt, with fmt's text TOLD by the authors' own Lean function (tested against real Go, not proved from fmt's source: count such statements apart). THE CARD IS WHAT COUNTS. Prove the row's statement (the work); the ties are given (YtkidgllmhdfgaaoDoorTie.lean); close each card by the builder's one call (the guide's Derived/Test/ToyasCard.lean, 'card_holds'). Laid BY PROGRAM, IN A SANDBOX (cutbox-door.mjs). By AI agents, Wed Nov 11 2026. No macro, syntax, notation, axiom, sorry.
-/
import Derived.Test.YtkidgllmhdfgaaoDoorRows
import GoSem.ClaimSeven
namespace Go.Proofs.YtkidgllmhdfgaaoDoor
namespace Rows

/-- THE TIED CARD OF 'laws.FnExactStreamNew'. -/
def fnExactStreamNewCard : Claim7 := { stood := { row := fnExactStreamNewRow, standIns := [], harness := (true, "14e6c0b5550cc397b877cb819869e1186e5c461d5c558a9b924684c666273a1b"), looks := false }, kinds := [], alts := [], laidByText := true, laidKinds := [.data], laidTests := true, laidLooks := .later }
def FnExactStreamNewCardSaid : Prop := Claim7.holds Tryd.pinned (.plain (OpenSpec.ofChange fnExactStreamNewSpec)) fnExactStreamNewCard

/-- THE TIED CARD OF 'laws.FnExactStreamTake'. -/
def fnExactStreamTakeCard : Claim7 := { stood := { row := fnExactStreamTakeRow, standIns := [], harness := (true, "14e6c0b5550cc397b877cb819869e1186e5c461d5c558a9b924684c666273a1b"), looks := false }, kinds := [], alts := [], laidByText := true, laidKinds := [.data], laidTests := true, laidLooks := .later }
def FnExactStreamTakeCardSaid : Prop := Claim7.holds Tryd.pinned (.plain (OpenSpec.ofChange fnExactStreamTakeSpec)) fnExactStreamTakeCard

/-- THE SECOND FORM's CARD OF 'laws.FnExactStreamNew'. -/
def fnExactStreamNewUptoCard : Claim7 := { stood := { row := fnExactStreamNewUptoRow, standIns := [], harness := (true, "14e6c0b5550cc397b877cb819869e1186e5c461d5c558a9b924684c666273a1b"), looks := false }, kinds := [], alts := [], laidByText := true, laidKinds := [.data], laidTests := true, laidLooks := .later }
def FnExactStreamNewUptoCardSaid : Prop := Claim7.holds Tryd.pinned (.plain (OpenSpec.upto fnExactStreamNewSpec)) fnExactStreamNewUptoCard

/-- THE SECOND FORM's CARD OF 'laws.FnExactStreamTake'. -/
def fnExactStreamTakeUptoCard : Claim7 := { stood := { row := fnExactStreamTakeUptoRow, standIns := [], harness := (true, "14e6c0b5550cc397b877cb819869e1186e5c461d5c558a9b924684c666273a1b"), looks := false }, kinds := [], alts := [], laidByText := true, laidKinds := [.data], laidTests := true, laidLooks := .later }
def FnExactStreamTakeUptoCardSaid : Prop := Claim7.holds Tryd.pinned (.plain (OpenSpec.upto fnExactStreamTakeSpec)) fnExactStreamTakeUptoCard
end Rows
end Go.Proofs.YtkidgllmhdfgaaoDoor
