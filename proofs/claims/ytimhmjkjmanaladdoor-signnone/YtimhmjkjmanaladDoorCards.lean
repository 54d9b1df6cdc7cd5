/-
  DERIVED. GIVEN WITH THE SEED: THE CARDS: each row of YtimhmjkjmanaladDoorRows.lean that lists a variable, with what it lists TIED to the program's text (the seventh form; the later family's looks); each row that meets fmt, with fmt's text TOLD by the authors' own Lean function (tested against real Go, not proved from fmt's source: count such statements apart). THE CARD IS WHAT COUNTS. Prove the row's statement (the work); the ties are given (YtimhmjkjmanaladDoorTie.lean); close each card by the builder's one call (the guide's Derived/Test/ToyasCard.lean, 'card_holds'). Laid BY PROGRAM, IN A SANDBOX (cutbox-door.mjs). By AI agents, Wed Nov 11 2026. No macro, syntax, notation, axiom, sorry.
-/
import Derived.Test.YtimhmjkjmanaladDoorRows
import GoSem.ClaimSeven
namespace Go.Proofs.YtimhmjkjmanaladDoor
namespace Rows

/-- THE TIED CARD OF 'stairlaw4.SignNone'. -/
def signNoneCard : Claim7 := { stood := { row := signNoneRow, standIns := [], harness := (true, "7086be4300b652585aa3c8110876cbff0889948bb7802f61e338ed1762bfc396"), looks := false }, kinds := [], alts := [], laidByText := true, laidKinds := [.data, .data, .data], laidTests := true, laidLooks := .later }
def SignNoneCardSaid : Prop := Claim7.holds Tryd.pinned (.plain (OpenSpec.ofChange signNoneSpec)) signNoneCard

/-- THE SECOND FORM's CARD OF 'stairlaw4.SignNone'. -/
def signNoneUptoCard : Claim7 := { stood := { row := signNoneUptoRow, standIns := [], harness := (true, "7086be4300b652585aa3c8110876cbff0889948bb7802f61e338ed1762bfc396"), looks := false }, kinds := [], alts := [], laidByText := true, laidKinds := [.data, .data, .data], laidTests := true, laidLooks := .later }
def SignNoneUptoCardSaid : Prop := Claim7.holds Tryd.pinned (.plain (OpenSpec.upto signNoneSpec)) signNoneUptoCard
end Rows
end Go.Proofs.YtimhmjkjmanaladDoor
