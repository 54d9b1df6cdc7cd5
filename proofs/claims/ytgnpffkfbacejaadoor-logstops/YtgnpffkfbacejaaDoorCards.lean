/-
  DERIVED. GIVEN WITH THE SEED: THE CARDS: each row of YtgnpffkfbacejaaDoorRows.lean that lists a variable, with what it lists TIED to the program's text (the seventh form; the later family's looks); each row that meets fmt, with fmt's text TOLD by the authors' own Lean function (tested against real Go, not proved from fmt's source: count such statements apart). THE CARD IS WHAT COUNTS. Prove the row's statement (the work); the ties are given (YtgnpffkfbacejaaDoorTie.lean); close each card by the builder's one call (the guide's Derived/Test/ToyasCard.lean, 'card_holds'). Laid BY PROGRAM, IN A SANDBOX (cutbox-door.mjs). By AI agents, Wed Nov 11 2026. No macro, syntax, notation, axiom, sorry.
-/
import Derived.Test.YtgnpffkfbacejaaDoorRows
import GoSem.ClaimSeven
namespace Go.Proofs.YtgnpffkfbacejaaDoor
namespace Rows

/-- THE TIED CARD OF 'stairlaw3.LogStops'. -/
def logStopsCard : Claim7 := { stood := { row := logStopsRow, standIns := [], harness := (true, "2f5a176489986a8f28e53094d8272559aa7adf13f6bc997b9e23365db03d50dc"), looks := true }, kinds := [], alts := [], laidByText := true, laidKinds := [.data, .data, .data, .handle, .sentinel, .sentinel], laidTests := true, laidLooks := .later }
def LogStopsCardSaid : Prop := Claim7.holds Tryd.pinned (.plain (OpenSpec.ofChange logStopsSpec)) logStopsCard

/-- THE TIED CARD OF 'stairlaw4.LogSame'. -/
def logSameCard : Claim7 := { stood := { row := logSameRow, standIns := [], harness := (true, "2f5a176489986a8f28e53094d8272559aa7adf13f6bc997b9e23365db03d50dc"), looks := true }, kinds := [], alts := [], laidByText := true, laidKinds := [.data, .data, .data], laidTests := true, laidLooks := .later }
def LogSameCardSaid : Prop := Claim7.holds Tryd.pinned (.plain (OpenSpec.ofChange logSameSpec)) logSameCard

/-- THE SECOND FORM's CARD OF 'stairlaw3.LogStops'. -/
def logStopsUptoCard : Claim7 := { stood := { row := logStopsUptoRow, standIns := [], harness := (true, "2f5a176489986a8f28e53094d8272559aa7adf13f6bc997b9e23365db03d50dc"), looks := true }, kinds := [], alts := [], laidByText := true, laidKinds := [.data, .data, .data, .handle, .sentinel, .sentinel], laidTests := true, laidLooks := .later }
def LogStopsUptoCardSaid : Prop := Claim7.holds Tryd.pinned (.plain (OpenSpec.upto logStopsSpec)) logStopsUptoCard

/-- THE SECOND FORM's CARD OF 'stairlaw4.LogSame'. -/
def logSameUptoCard : Claim7 := { stood := { row := logSameUptoRow, standIns := [], harness := (true, "2f5a176489986a8f28e53094d8272559aa7adf13f6bc997b9e23365db03d50dc"), looks := true }, kinds := [], alts := [], laidByText := true, laidKinds := [.data, .data, .data], laidTests := true, laidLooks := .later }
def LogSameUptoCardSaid : Prop := Claim7.holds Tryd.pinned (.plain (OpenSpec.upto logSameSpec)) logSameUptoCard
end Rows
end Go.Proofs.YtgnpffkfbacejaaDoor
