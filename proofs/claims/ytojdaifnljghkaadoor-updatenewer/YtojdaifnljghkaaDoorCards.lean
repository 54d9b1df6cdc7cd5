/-
  DERIVED. GIVEN WITH THE SEED: THE CARDS: each row of YtojdaifnljghkaaDoorRows.lean that lists a variable, with what it lists TIED to the program's text (the seventh form; the later family's looks); each row that meets fmt, with fmt's text TOLD by the authors' own Lean function (tested against real Go, not proved from fmt's source: count such statements apart). THE CARD IS WHAT COUNTS. Prove the row's statement (the work); the ties are given (YtojdaifnljghkaaDoorTie.lean); close each card by the builder's one call (the guide's Derived/Test/ToyasCard.lean, 'card_holds'). Laid BY PROGRAM, IN A SANDBOX (cutbox-door.mjs). By AI agents, Wed Nov 11 2026. No macro, syntax, notation, axiom, sorry.
-/
import Derived.Test.YtojdaifnljghkaaDoorRows
import GoSem.ClaimSeven
namespace Go.Proofs.YtojdaifnljghkaaDoor
namespace Rows

/-- THE TIED CARD OF 'stairlaw2.CountRises'. -/
def countRisesCard : Claim7 := { stood := { row := countRisesRow, standIns := [], harness := (true, "9f16f6e54244b0b749aa9b650b083a8a151e16566d1c6f927ad878c0a6a71ee1"), looks := true }, kinds := [], alts := [], laidByText := true, laidKinds := [.handle], laidTests := true, laidLooks := .later }
def CountRisesCardSaid : Prop := Claim7.holds Tryd.pinned (.plain (OpenSpec.ofChange countRisesSpec)) countRisesCard

/-- THE TIED CARD OF 'stairlaw4.CountFull'. -/
def countFullCard : Claim7 := { stood := { row := countFullRow, standIns := [], harness := (true, "9f16f6e54244b0b749aa9b650b083a8a151e16566d1c6f927ad878c0a6a71ee1"), looks := true }, kinds := [], alts := [], laidByText := true, laidKinds := [.handle], laidTests := true, laidLooks := .later }
def CountFullCardSaid : Prop := Claim7.holds Tryd.pinned (.plain (OpenSpec.ofChange countFullSpec)) countFullCard

/-- THE TIED CARD OF 'stairlaw2.CountPlays'. -/
def countPlaysCard : Claim7 := { stood := { row := countPlaysRow, standIns := [], harness := (true, "9f16f6e54244b0b749aa9b650b083a8a151e16566d1c6f927ad878c0a6a71ee1"), looks := true }, kinds := [], alts := [], laidByText := true, laidKinds := [.handle], laidTests := true, laidLooks := .later }
def CountPlaysCardSaid : Prop := Claim7.holds Tryd.pinned (.plain (OpenSpec.ofChange countPlaysSpec)) countPlaysCard

/-- THE TIED CARD OF 'stairlaw2.UpdateNewer'. -/
def updateNewerCard : Claim7 := { stood := { row := updateNewerRow, standIns := [], harness := (true, "9f16f6e54244b0b749aa9b650b083a8a151e16566d1c6f927ad878c0a6a71ee1"), looks := true }, kinds := [], alts := [], laidByText := true, laidKinds := [.data, .data, .data, .handle], laidTests := true, laidLooks := .later }
def UpdateNewerCardSaid : Prop := Claim7.holds Tryd.pinned (.plain (OpenSpec.ofChange updateNewerSpec)) updateNewerCard

/-- THE TIED CARD OF 'stairlaw4.UpdateSame'. -/
def updateSameCard : Claim7 := { stood := { row := updateSameRow, standIns := [], harness := (true, "9f16f6e54244b0b749aa9b650b083a8a151e16566d1c6f927ad878c0a6a71ee1"), looks := true }, kinds := [], alts := [], laidByText := true, laidKinds := [.data, .data, .data, .handle], laidTests := true, laidLooks := .later }
def UpdateSameCardSaid : Prop := Claim7.holds Tryd.pinned (.plain (OpenSpec.ofChange updateSameSpec)) updateSameCard

/-- THE SECOND FORM's CARD OF 'stairlaw2.CountRises'. -/
def countRisesUptoCard : Claim7 := { stood := { row := countRisesUptoRow, standIns := [], harness := (true, "9f16f6e54244b0b749aa9b650b083a8a151e16566d1c6f927ad878c0a6a71ee1"), looks := true }, kinds := [], alts := [], laidByText := true, laidKinds := [.handle], laidTests := true, laidLooks := .later }
def CountRisesUptoCardSaid : Prop := Claim7.holds Tryd.pinned (.plain (OpenSpec.upto countRisesSpec)) countRisesUptoCard

/-- THE SECOND FORM's CARD OF 'stairlaw4.CountFull'. -/
def countFullUptoCard : Claim7 := { stood := { row := countFullUptoRow, standIns := [], harness := (true, "9f16f6e54244b0b749aa9b650b083a8a151e16566d1c6f927ad878c0a6a71ee1"), looks := true }, kinds := [], alts := [], laidByText := true, laidKinds := [.handle], laidTests := true, laidLooks := .later }
def CountFullUptoCardSaid : Prop := Claim7.holds Tryd.pinned (.plain (OpenSpec.upto countFullSpec)) countFullUptoCard

/-- THE SECOND FORM's CARD OF 'stairlaw2.CountPlays'. -/
def countPlaysUptoCard : Claim7 := { stood := { row := countPlaysUptoRow, standIns := [], harness := (true, "9f16f6e54244b0b749aa9b650b083a8a151e16566d1c6f927ad878c0a6a71ee1"), looks := true }, kinds := [], alts := [], laidByText := true, laidKinds := [.handle], laidTests := true, laidLooks := .later }
def CountPlaysUptoCardSaid : Prop := Claim7.holds Tryd.pinned (.plain (OpenSpec.upto countPlaysSpec)) countPlaysUptoCard

/-- THE SECOND FORM's CARD OF 'stairlaw2.UpdateNewer'. -/
def updateNewerUptoCard : Claim7 := { stood := { row := updateNewerUptoRow, standIns := [], harness := (true, "9f16f6e54244b0b749aa9b650b083a8a151e16566d1c6f927ad878c0a6a71ee1"), looks := true }, kinds := [], alts := [], laidByText := true, laidKinds := [.data, .data, .data, .handle], laidTests := true, laidLooks := .later }
def UpdateNewerUptoCardSaid : Prop := Claim7.holds Tryd.pinned (.plain (OpenSpec.upto updateNewerSpec)) updateNewerUptoCard

/-- THE SECOND FORM's CARD OF 'stairlaw4.UpdateSame'. -/
def updateSameUptoCard : Claim7 := { stood := { row := updateSameUptoRow, standIns := [], harness := (true, "9f16f6e54244b0b749aa9b650b083a8a151e16566d1c6f927ad878c0a6a71ee1"), looks := true }, kinds := [], alts := [], laidByText := true, laidKinds := [.data, .data, .data, .handle], laidTests := true, laidLooks := .later }
def UpdateSameUptoCardSaid : Prop := Claim7.holds Tryd.pinned (.plain (OpenSpec.upto updateSameSpec)) updateSameUptoCard
end Rows
end Go.Proofs.YtojdaifnljghkaaDoor
