/-
  DERIVED. GIVEN WITH THE SEED: THE CARDS: each row of YtlmalnbfmokpoaaDoorRows.lean that lists a variable, with what it lists TIED to the program's text (the seventh form; the later family's looks); each row that meets fmt, with fmt's text TOLD by the authors' own Lean function (tested against real Go, not proved from fmt's source: count such statements apart). THE CARD IS WHAT COUNTS. Prove the row's statement (the work); the ties are given (YtlmalnbfmokpoaaDoorTie.lean); close each card by the builder's one call (the guide's Derived/Test/ToyasCard.lean, 'card_holds'). Laid BY PROGRAM, IN A SANDBOX (cutbox-door.mjs). By AI agents, Wed Nov 11 2026. No macro, syntax, notation, axiom, sorry.
-/
import Derived.Test.YtlmalnbfmokpoaaDoorRows
import GoSem.ClaimSeven
namespace Go.Proofs.YtlmalnbfmokpoaaDoor
namespace Rows

/-- THE TIED CARD OF 'stairlaw1.MeasureTells'. -/
def measureTellsCard : Claim7 := { stood := { row := measureTellsRow, standIns := [], harness := (true, "aa33e4d8181fb426d9b20700de2d6667dcc02847d3c58899c7b9004219a89585"), looks := true }, kinds := [], alts := [], laidByText := true, laidKinds := [.handle], laidTests := true, laidLooks := .later }
def MeasureTellsCardSaid : Prop := Claim7.holds Tryd.pinned (.plain (OpenSpec.ofChange measureTellsSpec)) measureTellsCard

/-- THE TIED CARD OF 'stairlaw1.BankTells'. -/
def bankTellsCard : Claim7 := { stood := { row := bankTellsRow, standIns := [], harness := (true, "aa33e4d8181fb426d9b20700de2d6667dcc02847d3c58899c7b9004219a89585"), looks := true }, kinds := [], alts := [], laidByText := true, laidKinds := [.handle], laidTests := true, laidLooks := .later }
def BankTellsCardSaid : Prop := Claim7.holds Tryd.pinned (.plain (OpenSpec.ofChange bankTellsSpec)) bankTellsCard

/-- THE SECOND FORM's CARD OF 'stairlaw1.MeasureTells'. -/
def measureTellsUptoCard : Claim7 := { stood := { row := measureTellsUptoRow, standIns := [], harness := (true, "aa33e4d8181fb426d9b20700de2d6667dcc02847d3c58899c7b9004219a89585"), looks := true }, kinds := [], alts := [], laidByText := true, laidKinds := [.handle], laidTests := true, laidLooks := .later }
def MeasureTellsUptoCardSaid : Prop := Claim7.holds Tryd.pinned (.plain (OpenSpec.upto measureTellsSpec)) measureTellsUptoCard

/-- THE SECOND FORM's CARD OF 'stairlaw1.BankTells'. -/
def bankTellsUptoCard : Claim7 := { stood := { row := bankTellsUptoRow, standIns := [], harness := (true, "aa33e4d8181fb426d9b20700de2d6667dcc02847d3c58899c7b9004219a89585"), looks := true }, kinds := [], alts := [], laidByText := true, laidKinds := [.handle], laidTests := true, laidLooks := .later }
def BankTellsUptoCardSaid : Prop := Claim7.holds Tryd.pinned (.plain (OpenSpec.upto bankTellsSpec)) bankTellsUptoCard
end Rows
end Go.Proofs.YtlmalnbfmokpoaaDoor
