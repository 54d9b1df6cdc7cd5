/-
  DERIVED. GIVEN WITH THE SEED: THE CARDS: each row of YtojdaifnljghkabDoorRows.lean that lists a variable, with what it lists TIED to the program's text (the seventh form; the later family's looks); each row that meets fmt, with fmt's text TOLD by the authors' own Lean function (tested against real Go, not proved from fmt's source: count such statements apart). THE CARD IS WHAT COUNTS. Prove the row's statement (the work); the ties are given (YtojdaifnljghkabDoorTie.lean); close each card by the builder's one call (the guide's Derived/Test/ToyasCard.lean, 'card_holds'). Laid BY PROGRAM, IN A SANDBOX (cutbox-door.mjs). By AI agents, Wed Nov 11 2026. No macro, syntax, notation, axiom, sorry.
-/
import Derived.Test.YtojdaifnljghkabDoorRows
import GoSem.ClaimSeven
namespace Go.Proofs.YtojdaifnljghkabDoor
namespace Rows

/-- THE TIED CARD OF 'stairlaw4.DeviceOff'. -/
def deviceOffCard : Claim7 := { stood := { row := deviceOffRow, standIns := [], harness := (true, "9c7a797e5edba5bc97aae7b86771b142b3e1d878879d60fc9f7df70b77063b8b"), looks := true }, kinds := [], alts := [], laidByText := true, laidKinds := [.data, .data, .data, .handle], laidTests := true, laidLooks := .later }
def DeviceOffCardSaid : Prop := Claim7.holds Tryd.pinned (.plain (OpenSpec.ofChange deviceOffSpec)) deviceOffCard

/-- THE SECOND FORM's CARD OF 'stairlaw4.DeviceOff'. -/
def deviceOffUptoCard : Claim7 := { stood := { row := deviceOffUptoRow, standIns := [], harness := (true, "9c7a797e5edba5bc97aae7b86771b142b3e1d878879d60fc9f7df70b77063b8b"), looks := true }, kinds := [], alts := [], laidByText := true, laidKinds := [.data, .data, .data, .handle], laidTests := true, laidLooks := .later }
def DeviceOffUptoCardSaid : Prop := Claim7.holds Tryd.pinned (.plain (OpenSpec.upto deviceOffSpec)) deviceOffUptoCard
end Rows
end Go.Proofs.YtojdaifnljghkabDoor
