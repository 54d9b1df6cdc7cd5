/-
  DERIVED. GIVEN WITH THE SEED: THE CARDS: each row of YtjpkkhphelnpiaaDoorRows.lean that lists a variable, with what it lists TIED to the program's text (the seventh form; the later family's looks); each row that meets fmt, with fmt's text TOLD by the authors' own Lean function (tested against real Go, not proved from fmt's source: count such statements apart). THE CARD IS WHAT COUNTS. Prove the row's statement (the work); the ties are given (YtjpkkhphelnpiaaDoorTie.lean); close each card by the builder's one call (the guide's Derived/Test/ToyasCard.lean, 'card_holds'). Laid BY PROGRAM, IN A SANDBOX (cutbox-door.mjs). By AI agents, Wed Nov 11 2026. No macro, syntax, notation, axiom, sorry.
-/
import Derived.Test.YtjpkkhphelnpiaaDoorRows
import GoSem.ClaimSeven
namespace Go.Proofs.YtjpkkhphelnpiaaDoor
namespace Rows

/-- THE TIED CARD OF 'stairlaw4.LogSame'. -/
def logSameCard : Claim7 := { stood := { row := logSameRow, standIns := [], harness := (true, "9c9624e17f8b64f06ad7c86a6c317415ad3b2ad00a36c5bed0500f30468dd04a"), looks := false }, kinds := [], alts := [], laidByText := true, laidKinds := [.data, .data, .data], laidTests := true, laidLooks := .later }
def LogSameCardSaid : Prop := Claim7.holds Tryd.pinned (.plain (OpenSpec.ofChange logSameSpec)) logSameCard

/-- THE SECOND FORM's CARD OF 'stairlaw4.LogSame'. -/
def logSameUptoCard : Claim7 := { stood := { row := logSameUptoRow, standIns := [], harness := (true, "9c9624e17f8b64f06ad7c86a6c317415ad3b2ad00a36c5bed0500f30468dd04a"), looks := false }, kinds := [], alts := [], laidByText := true, laidKinds := [.data, .data, .data], laidTests := true, laidLooks := .later }
def LogSameUptoCardSaid : Prop := Claim7.holds Tryd.pinned (.plain (OpenSpec.upto logSameSpec)) logSameUptoCard
end Rows
end Go.Proofs.YtjpkkhphelnpiaaDoor
