/-
  DERIVED. GIVEN WITH THE SEED: THE CARDS: each row of YtbpgchmbmgfoaaaDoorRows.lean that lists a variable, with what it lists TIED to the program's text (the seventh form; the later family's looks); each row that meets fmt, with fmt's text TOLD by the authors' own Lean function (tested against real Go, not proved from fmt's source: count such statements apart). THE CARD IS WHAT COUNTS. Prove the row's statement (the work); the ties are given (YtbpgchmbmgfoaaaDoorTie.lean); close each card by the builder's one call (the guide's Derived/Test/ToyasCard.lean, 'card_holds'). Laid BY PROGRAM, IN A SANDBOX (cutbox-door.mjs). By AI agents, Wed Nov 11 2026. No macro, syntax, notation, axiom, sorry.
-/
import Derived.Test.YtbpgchmbmgfoaaaDoorRows
import GoSem.ClaimSeven
namespace Go.Proofs.YtbpgchmbmgfoaaaDoor
namespace Rows

/-- THE TIED CARD OF 'stairlaw2.BootTells'. -/
def bootTellsCard : Claim7 := { stood := { row := bootTellsRow, standIns := [], harness := (true, "6b273670cb3fe846efc6487c2a4b2d5350b9cef577f6a47f76b7d014f1a35521"), looks := true }, kinds := [], alts := [], laidByText := true, laidKinds := [.data, .data, .data, .handle], laidTests := true, laidLooks := .later }
def BootTellsCardSaid : Prop := Claim7.holds Tryd.pinned (.plain (OpenSpec.ofChange bootTellsSpec)) bootTellsCard

/-- THE TIED CARD OF 'stairlaw4.BootNone'. -/
def bootNoneCard : Claim7 := { stood := { row := bootNoneRow, standIns := [], harness := (true, "6b273670cb3fe846efc6487c2a4b2d5350b9cef577f6a47f76b7d014f1a35521"), looks := true }, kinds := [], alts := [], laidByText := true, laidKinds := [.data, .data, .data], laidTests := true, laidLooks := .later }
def BootNoneCardSaid : Prop := Claim7.holds Tryd.pinned (.plain (OpenSpec.ofChange bootNoneSpec)) bootNoneCard

/-- THE SECOND FORM's CARD OF 'stairlaw2.BootTells'. -/
def bootTellsUptoCard : Claim7 := { stood := { row := bootTellsUptoRow, standIns := [], harness := (true, "6b273670cb3fe846efc6487c2a4b2d5350b9cef577f6a47f76b7d014f1a35521"), looks := true }, kinds := [], alts := [], laidByText := true, laidKinds := [.data, .data, .data, .handle], laidTests := true, laidLooks := .later }
def BootTellsUptoCardSaid : Prop := Claim7.holds Tryd.pinned (.plain (OpenSpec.upto bootTellsSpec)) bootTellsUptoCard

/-- THE SECOND FORM's CARD OF 'stairlaw4.BootNone'. -/
def bootNoneUptoCard : Claim7 := { stood := { row := bootNoneUptoRow, standIns := [], harness := (true, "6b273670cb3fe846efc6487c2a4b2d5350b9cef577f6a47f76b7d014f1a35521"), looks := true }, kinds := [], alts := [], laidByText := true, laidKinds := [.data, .data, .data], laidTests := true, laidLooks := .later }
def BootNoneUptoCardSaid : Prop := Claim7.holds Tryd.pinned (.plain (OpenSpec.upto bootNoneSpec)) bootNoneUptoCard
end Rows
end Go.Proofs.YtbpgchmbmgfoaaaDoor
