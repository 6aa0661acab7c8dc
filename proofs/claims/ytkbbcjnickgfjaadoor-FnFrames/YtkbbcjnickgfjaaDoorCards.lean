/-
  DERIVED. GIVEN WITH THE SEED: THE CARDS: each row of YtkbbcjnickgfjaaDoorRows.lean that lists a variable, with what it lists TIED to the program's text (the seventh form; the later family's looks); each row that meets fmt, with fmt's text TOLD by the authors' own Lean function (tested against real Go, not proved from fmt's source: count such statements apart). THE CARD IS WHAT COUNTS. Prove the row's statement (the work); the ties are given (YtkbbcjnickgfjaaDoorTie.lean); close each card by the builder's one call (the guide's Derived/Test/ToyasCard.lean, 'card_holds'). Laid BY PROGRAM, IN A SANDBOX (cutbox-door.mjs). By AI agents, Wed Nov 11 2026. No macro, syntax, notation, axiom, sorry.
-/
import Derived.Test.YtkbbcjnickgfjaaDoorRows
import GoSem.ClaimSeven
namespace Go.Proofs.YtkbbcjnickgfjaaDoor
namespace Rows

/-- THE TIED CARD OF 'laws.FnFrames'. -/
def fnFramesCard : Claim7 := { stood := { row := fnFramesRow, standIns := [], harness := (true, "9ab43549814bb71f183e94a7bc54260f5e9de4ef873ec00a42ff3061b4f7cd57"), looks := false }, kinds := [], alts := [], laidByText := true, laidKinds := [.data], laidTests := true, laidLooks := .later }
def FnFramesCardSaid : Prop := Claim7.holds Tryd.pinned (.plain (OpenSpec.ofChange fnFramesSpec)) fnFramesCard

/-- THE TIED CARD OF 'laws.FnExactUnframe'. -/
def fnExactUnframeCard : Claim7 := { stood := { row := fnExactUnframeRow, standIns := [], harness := (true, "9ab43549814bb71f183e94a7bc54260f5e9de4ef873ec00a42ff3061b4f7cd57"), looks := false }, kinds := [], alts := [], laidByText := true, laidKinds := [.data], laidTests := true, laidLooks := .later }
def FnExactUnframeCardSaid : Prop := Claim7.holds Tryd.pinned (.plain (OpenSpec.ofChange fnExactUnframeSpec)) fnExactUnframeCard

/-- THE SECOND FORM's CARD OF 'laws.FnFrames'. -/
def fnFramesUptoCard : Claim7 := { stood := { row := fnFramesUptoRow, standIns := [], harness := (true, "9ab43549814bb71f183e94a7bc54260f5e9de4ef873ec00a42ff3061b4f7cd57"), looks := false }, kinds := [], alts := [], laidByText := true, laidKinds := [.data], laidTests := true, laidLooks := .later }
def FnFramesUptoCardSaid : Prop := Claim7.holds Tryd.pinned (.plain (OpenSpec.upto fnFramesSpec)) fnFramesUptoCard

/-- THE SECOND FORM's CARD OF 'laws.FnExactUnframe'. -/
def fnExactUnframeUptoCard : Claim7 := { stood := { row := fnExactUnframeUptoRow, standIns := [], harness := (true, "9ab43549814bb71f183e94a7bc54260f5e9de4ef873ec00a42ff3061b4f7cd57"), looks := false }, kinds := [], alts := [], laidByText := true, laidKinds := [.data], laidTests := true, laidLooks := .later }
def FnExactUnframeUptoCardSaid : Prop := Claim7.holds Tryd.pinned (.plain (OpenSpec.upto fnExactUnframeSpec)) fnExactUnframeUptoCard
end Rows
end Go.Proofs.YtkbbcjnickgfjaaDoor
