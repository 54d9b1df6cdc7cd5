/-
  DERIVED. GIVEN WITH THE SEED: THE CARDS: each row of YtdbpeikijonjmaaDoorRows.lean that lists a variable, with what it lists TIED to the program's text (the seventh form; the later family's looks); each row that meets fmt, with fmt's text TOLD by the authors' own Lean function (tested against real Go, not proved from fmt's source: count such statements apart). THE CARD IS WHAT COUNTS. Prove the row's statement (the work); the ties are given (YtdbpeikijonjmaaDoorTie.lean); close each card by the builder's one call (the guide's Derived/Test/ToyasCard.lean, 'card_holds'). Laid BY PROGRAM, IN A SANDBOX (cutbox-door.mjs). By AI agents, Wed Nov 11 2026. No macro, syntax, notation, axiom, sorry.
-/
import Derived.Test.YtdbpeikijonjmaaDoorRows
import GoSem.ClaimSeven
namespace Go.Proofs.YtdbpeikijonjmaaDoor
namespace Rows

/-- THE TIED CARD OF 'stairlaw1.ImageTells'. -/
def imageTellsCard : Claim7 := { stood := { row := imageTellsRow, standIns := [], harness := (true, "fb1eb2941e7fc3f43625c2c7632b3a68a951ce5e6ddf10143bdd26b65a6dff21"), looks := true }, kinds := [], alts := [], laidByText := true, laidKinds := [.data, .data, .data, .data, .handle, .sentinel, .sentinel, .pinned], laidTests := true, laidLooks := .later }
def ImageTellsCardSaid : Prop := Claim7.holds Tryd.pinned (.plain (OpenSpec.ofChange imageTellsSpec)) imageTellsCard

/-- THE TIED CARD OF 'stairlaw1.ImageBack'. -/
def imageBackCard : Claim7 := { stood := { row := imageBackRow, standIns := [], harness := (true, "fb1eb2941e7fc3f43625c2c7632b3a68a951ce5e6ddf10143bdd26b65a6dff21"), looks := true }, kinds := [], alts := [], laidByText := true, laidKinds := [.data, .data, .data, .data, .sentinel, .sentinel, .pinned], laidTests := true, laidLooks := .later }
def ImageBackCardSaid : Prop := Claim7.holds Tryd.pinned (.plain (OpenSpec.ofChange imageBackSpec)) imageBackCard

/-- THE TIED CARD OF 'stairlaw4.ImageLong'. -/
def imageLongCard : Claim7 := { stood := { row := imageLongRow, standIns := [], harness := (true, "fb1eb2941e7fc3f43625c2c7632b3a68a951ce5e6ddf10143bdd26b65a6dff21"), looks := true }, kinds := [], alts := [], laidByText := true, laidKinds := [.handle], laidTests := true, laidLooks := .later }
def ImageLongCardSaid : Prop := Claim7.holds Tryd.pinned (.plain (OpenSpec.ofChange imageLongSpec)) imageLongCard

/-- THE SECOND FORM's CARD OF 'stairlaw1.ImageTells'. -/
def imageTellsUptoCard : Claim7 := { stood := { row := imageTellsUptoRow, standIns := [], harness := (true, "fb1eb2941e7fc3f43625c2c7632b3a68a951ce5e6ddf10143bdd26b65a6dff21"), looks := true }, kinds := [], alts := [], laidByText := true, laidKinds := [.data, .data, .data, .data, .handle, .sentinel, .sentinel, .pinned], laidTests := true, laidLooks := .later }
def ImageTellsUptoCardSaid : Prop := Claim7.holds Tryd.pinned (.plain (OpenSpec.upto imageTellsSpec)) imageTellsUptoCard

/-- THE SECOND FORM's CARD OF 'stairlaw1.ImageBack'. -/
def imageBackUptoCard : Claim7 := { stood := { row := imageBackUptoRow, standIns := [], harness := (true, "fb1eb2941e7fc3f43625c2c7632b3a68a951ce5e6ddf10143bdd26b65a6dff21"), looks := true }, kinds := [], alts := [], laidByText := true, laidKinds := [.data, .data, .data, .data, .sentinel, .sentinel, .pinned], laidTests := true, laidLooks := .later }
def ImageBackUptoCardSaid : Prop := Claim7.holds Tryd.pinned (.plain (OpenSpec.upto imageBackSpec)) imageBackUptoCard

/-- THE SECOND FORM's CARD OF 'stairlaw4.ImageLong'. -/
def imageLongUptoCard : Claim7 := { stood := { row := imageLongUptoRow, standIns := [], harness := (true, "fb1eb2941e7fc3f43625c2c7632b3a68a951ce5e6ddf10143bdd26b65a6dff21"), looks := true }, kinds := [], alts := [], laidByText := true, laidKinds := [.handle], laidTests := true, laidLooks := .later }
def ImageLongUptoCardSaid : Prop := Claim7.holds Tryd.pinned (.plain (OpenSpec.upto imageLongSpec)) imageLongUptoCard
end Rows
end Go.Proofs.YtdbpeikijonjmaaDoor
