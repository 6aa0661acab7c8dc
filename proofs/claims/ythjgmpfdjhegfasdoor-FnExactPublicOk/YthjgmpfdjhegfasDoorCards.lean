/-
  DERIVED. GIVEN WITH THE SEED: THE CARDS: each row of YthjgmpfdjhegfasDoorRows.lean that lists a variable, with what it lists TIED to the program's text (the seventh form; the later family's looks); each row that meets fmt, with fmt's text TOLD by the authors' own Lean function (tested against real Go, not proved from fmt's source: count such statements apart). THE CARD IS WHAT COUNTS. Prove the row's statement (the work); the ties are given (YthjgmpfdjhegfasDoorTie.lean); close each card by the builder's one call (the guide's Derived/Test/ToyasCard.lean, 'card_holds'). Laid BY PROGRAM, IN A SANDBOX (cutbox-door.mjs). By AI agents, Wed Nov 11 2026. No macro, syntax, notation, axiom, sorry.
-/
import Derived.Test.YthjgmpfdjhegfasDoorRows
import GoSem.ClaimSeven
namespace Go.Proofs.YthjgmpfdjhegfasDoor
namespace Rows

/-- THE TIED CARD OF 'laws.FnExactPublicOk'. -/
def fnExactPublicOkCard : Claim7 := { stood := { row := fnExactPublicOkRow, standIns := [], harness := (true, "351d9685cbb4a8a093ea204862a7bd83f785e3f9bf79a97169128c5b9f79af1f"), looks := true }, kinds := [], alts := [], laidByText := true, laidKinds := [.data], laidTests := true, laidLooks := .later }
def FnExactPublicOkCardSaid : Prop := Claim7.holds Tryd.pinned (.plain (OpenSpec.ofChange fnExactPublicOkSpec)) fnExactPublicOkCard

/-- THE TIED CARD OF 'laws.FnExactDecrypt'. -/
def fnExactDecryptCard : Claim7 := { stood := { row := fnExactDecryptRow, standIns := [], harness := (true, "351d9685cbb4a8a093ea204862a7bd83f785e3f9bf79a97169128c5b9f79af1f"), looks := true }, kinds := [], alts := [], laidByText := true, laidKinds := [.data], laidTests := true, laidLooks := .later }
def FnExactDecryptCardSaid : Prop := Claim7.holds Tryd.pinned (.plain (OpenSpec.ofChange fnExactDecryptSpec)) fnExactDecryptCard

/-- THE TIED CARD OF 'laws.FnExactErrorOf'. -/
def fnExactErrorOfCard : Claim7 := { stood := { row := fnExactErrorOfRow, standIns := [], harness := (true, "351d9685cbb4a8a093ea204862a7bd83f785e3f9bf79a97169128c5b9f79af1f"), looks := true }, kinds := [], alts := [], laidByText := true, laidKinds := [.data], laidTests := true, laidLooks := .later }
def FnExactErrorOfCardSaid : Prop := Claim7.holds Tryd.pinned (.plain (OpenSpec.ofChange fnExactErrorOfSpec)) fnExactErrorOfCard

/-- THE SECOND FORM's CARD OF 'laws.FnExactPublicOk'. -/
def fnExactPublicOkUptoCard : Claim7 := { stood := { row := fnExactPublicOkUptoRow, standIns := [], harness := (true, "351d9685cbb4a8a093ea204862a7bd83f785e3f9bf79a97169128c5b9f79af1f"), looks := true }, kinds := [], alts := [], laidByText := true, laidKinds := [.data], laidTests := true, laidLooks := .later }
def FnExactPublicOkUptoCardSaid : Prop := Claim7.holds Tryd.pinned (.plain (OpenSpec.upto fnExactPublicOkSpec)) fnExactPublicOkUptoCard

/-- THE SECOND FORM's CARD OF 'laws.FnExactDecrypt'. -/
def fnExactDecryptUptoCard : Claim7 := { stood := { row := fnExactDecryptUptoRow, standIns := [], harness := (true, "351d9685cbb4a8a093ea204862a7bd83f785e3f9bf79a97169128c5b9f79af1f"), looks := true }, kinds := [], alts := [], laidByText := true, laidKinds := [.data], laidTests := true, laidLooks := .later }
def FnExactDecryptUptoCardSaid : Prop := Claim7.holds Tryd.pinned (.plain (OpenSpec.upto fnExactDecryptSpec)) fnExactDecryptUptoCard

/-- THE SECOND FORM's CARD OF 'laws.FnExactErrorOf'. -/
def fnExactErrorOfUptoCard : Claim7 := { stood := { row := fnExactErrorOfUptoRow, standIns := [], harness := (true, "351d9685cbb4a8a093ea204862a7bd83f785e3f9bf79a97169128c5b9f79af1f"), looks := true }, kinds := [], alts := [], laidByText := true, laidKinds := [.data], laidTests := true, laidLooks := .later }
def FnExactErrorOfUptoCardSaid : Prop := Claim7.holds Tryd.pinned (.plain (OpenSpec.upto fnExactErrorOfSpec)) fnExactErrorOfUptoCard
end Rows
end Go.Proofs.YthjgmpfdjhegfasDoor
