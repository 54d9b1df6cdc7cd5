/-
  DERIVED. GIVEN WITH THE SEED: THE CARDS: each row of YtdlkbifmmagkoaaDoorRows.lean that lists a variable, with what it lists TIED to the program's text (the seventh form; the later family's looks); each row that meets fmt, with fmt's text TOLD by the authors' own Lean function (tested against real Go, not proved from fmt's source: count such statements apart). THE CARD IS WHAT COUNTS. Prove the row's statement (the work); the ties are given (YtdlkbifmmagkoaaDoorTie.lean); close each card by the builder's one call (the guide's Derived/Test/ToyasCard.lean, 'card_holds'). Laid BY PROGRAM, IN A SANDBOX (cutbox-door.mjs). By AI agents, Wed Nov 11 2026. No macro, syntax, notation, axiom, sorry.
-/
import Derived.Test.YtdlkbifmmagkoaaDoorRows
import GoSem.ClaimSeven
namespace Go.Proofs.YtdlkbifmmagkoaaDoor
namespace Rows

/-- THE TIED CARD OF 'stairlaw1.MeasureTells'. -/
def measureTellsCard : Claim7 := { stood := { row := measureTellsRow, standIns := [], harness := (true, "f20b17710babb36fc261a0df3f314c0eac6374af7615592ef0839b5ee886463d"), looks := true }, kinds := [], alts := [], laidByText := true, laidKinds := [.handle], laidTests := true, laidLooks := .later }
def MeasureTellsCardSaid : Prop := Claim7.holds Tryd.pinned (.plain (OpenSpec.ofChange measureTellsSpec)) measureTellsCard

/-- THE SECOND FORM's CARD OF 'stairlaw1.MeasureTells'. -/
def measureTellsUptoCard : Claim7 := { stood := { row := measureTellsUptoRow, standIns := [], harness := (true, "f20b17710babb36fc261a0df3f314c0eac6374af7615592ef0839b5ee886463d"), looks := true }, kinds := [], alts := [], laidByText := true, laidKinds := [.handle], laidTests := true, laidLooks := .later }
def MeasureTellsUptoCardSaid : Prop := Claim7.holds Tryd.pinned (.plain (OpenSpec.upto measureTellsSpec)) measureTellsUptoCard
end Rows
end Go.Proofs.YtdlkbifmmagkoaaDoor
