/-
  DERIVED. GIVEN WITH THE SEED: THE CARDS: each row of YtofebojblmmfeaaDoorRows.lean that lists a variable, with what it lists TIED to the program's text (the seventh form; the later family's looks); each row that meets fmt, with fmt's text TOLD by the authors' own Lean function (tested against real Go, not proved from fmt's source: count such statements apart). THE CARD IS WHAT COUNTS. Prove the row's statement (the work); the ties are given (YtofebojblmmfeaaDoorTie.lean); close each card by the builder's one call (the guide's Derived/Test/ToyasCard.lean, 'card_holds'). Laid BY PROGRAM, IN A SANDBOX (cutbox-door.mjs). By AI agents, Wed Nov 11 2026. No macro, syntax, notation, axiom, sorry.
-/
import Derived.Test.YtofebojblmmfeaaDoorRows
import GoSem.ClaimSeven
namespace Go.Proofs.YtofebojblmmfeaaDoor
namespace Rows

/-- THE TIED CARD OF 'stairlaw2.UpdateNewer'. -/
def updateNewerCard : Claim7 := { stood := { row := updateNewerRow, standIns := [], harness := (true, "4358fe114025bc81a75b405f659a80138fb807c9b416416f05401c2ef24cd208"), looks := true }, kinds := [], alts := [], laidByText := true, laidKinds := [.data, .data, .data, .handle], laidTests := true, laidLooks := .later }
def UpdateNewerCardSaid : Prop := Claim7.holds Tryd.pinned (.plain (OpenSpec.ofChange updateNewerSpec)) updateNewerCard

/-- THE TIED CARD OF 'stairlaw4.UpdateSame'. -/
def updateSameCard : Claim7 := { stood := { row := updateSameRow, standIns := [], harness := (true, "4358fe114025bc81a75b405f659a80138fb807c9b416416f05401c2ef24cd208"), looks := true }, kinds := [], alts := [], laidByText := true, laidKinds := [.data, .data, .data, .handle], laidTests := true, laidLooks := .later }
def UpdateSameCardSaid : Prop := Claim7.holds Tryd.pinned (.plain (OpenSpec.ofChange updateSameSpec)) updateSameCard

/-- THE SECOND FORM's CARD OF 'stairlaw2.UpdateNewer'. -/
def updateNewerUptoCard : Claim7 := { stood := { row := updateNewerUptoRow, standIns := [], harness := (true, "4358fe114025bc81a75b405f659a80138fb807c9b416416f05401c2ef24cd208"), looks := true }, kinds := [], alts := [], laidByText := true, laidKinds := [.data, .data, .data, .handle], laidTests := true, laidLooks := .later }
def UpdateNewerUptoCardSaid : Prop := Claim7.holds Tryd.pinned (.plain (OpenSpec.upto updateNewerSpec)) updateNewerUptoCard

/-- THE SECOND FORM's CARD OF 'stairlaw4.UpdateSame'. -/
def updateSameUptoCard : Claim7 := { stood := { row := updateSameUptoRow, standIns := [], harness := (true, "4358fe114025bc81a75b405f659a80138fb807c9b416416f05401c2ef24cd208"), looks := true }, kinds := [], alts := [], laidByText := true, laidKinds := [.data, .data, .data, .handle], laidTests := true, laidLooks := .later }
def UpdateSameUptoCardSaid : Prop := Claim7.holds Tryd.pinned (.plain (OpenSpec.upto updateSameSpec)) updateSameUptoCard
end Rows
end Go.Proofs.YtofebojblmmfeaaDoor
