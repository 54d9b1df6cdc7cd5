/-
  DERIVED. GIVEN WITH THE SEED: THE CARDS: each row of YteebkpjnihffiaaDoorRows.lean that lists a variable, with what it lists TIED to the program's text (the seventh form; the later family's looks); each row that meets fmt, with fmt's text TOLD by the authors' own Lean function (tested against real Go, not proved from fmt's source: count such statements apart). THE CARD IS WHAT COUNTS. Prove the row's statement (the work); the ties are given (YteebkpjnihffiaaDoorTie.lean); close each card by the builder's one call (the guide's Derived/Test/ToyasCard.lean, 'card_holds'). Laid BY PROGRAM, IN A SANDBOX (cutbox-door.mjs). By AI agents, Wed Nov 11 2026. No macro, syntax, notation, axiom, sorry.
-/
import Derived.Test.YteebkpjnihffiaaDoorRows
import GoSem.ClaimSeven
namespace Go.Proofs.YteebkpjnihffiaaDoor
namespace Rows

/-- THE TIED CARD OF 'stairlaw2.BootMeasures'. -/
def bootMeasuresCard : Claim7 := { stood := { row := bootMeasuresRow, standIns := [], harness := (true, "d47616c43c4d75ab35b918781643fee2074dcec3ad6f94fd361effb1b99d6513"), looks := true }, kinds := [], alts := [], laidByText := true, laidKinds := [.data, .data, .data], laidTests := true, laidLooks := .later }
def BootMeasuresCardSaid : Prop := Claim7.holds Tryd.pinned (.plain (OpenSpec.ofChange bootMeasuresSpec)) bootMeasuresCard

/-- THE TIED CARD OF 'stairlaw2.EventTells'. -/
def eventTellsCard : Claim7 := { stood := { row := eventTellsRow, standIns := [], harness := (true, "d47616c43c4d75ab35b918781643fee2074dcec3ad6f94fd361effb1b99d6513"), looks := true }, kinds := [], alts := [], laidByText := true, laidKinds := [.handle], laidTests := true, laidLooks := .later }
def EventTellsCardSaid : Prop := Claim7.holds Tryd.pinned (.plain (OpenSpec.ofChange eventTellsSpec)) eventTellsCard

/-- THE SECOND FORM's CARD OF 'stairlaw2.BootMeasures'. -/
def bootMeasuresUptoCard : Claim7 := { stood := { row := bootMeasuresUptoRow, standIns := [], harness := (true, "d47616c43c4d75ab35b918781643fee2074dcec3ad6f94fd361effb1b99d6513"), looks := true }, kinds := [], alts := [], laidByText := true, laidKinds := [.data, .data, .data], laidTests := true, laidLooks := .later }
def BootMeasuresUptoCardSaid : Prop := Claim7.holds Tryd.pinned (.plain (OpenSpec.upto bootMeasuresSpec)) bootMeasuresUptoCard

/-- THE SECOND FORM's CARD OF 'stairlaw2.EventTells'. -/
def eventTellsUptoCard : Claim7 := { stood := { row := eventTellsUptoRow, standIns := [], harness := (true, "d47616c43c4d75ab35b918781643fee2074dcec3ad6f94fd361effb1b99d6513"), looks := true }, kinds := [], alts := [], laidByText := true, laidKinds := [.handle], laidTests := true, laidLooks := .later }
def EventTellsUptoCardSaid : Prop := Claim7.holds Tryd.pinned (.plain (OpenSpec.upto eventTellsSpec)) eventTellsUptoCard
end Rows
end Go.Proofs.YteebkpjnihffiaaDoor
