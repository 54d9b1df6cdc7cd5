/-
  DERIVED. GIVEN WITH THE SEED: THE CARDS: each row of YtidnjnhmkhekeaaDoorRows.lean that lists a variable, with what it lists TIED to the program's text (the seventh form; the later family's looks); each row that meets fmt, with fmt's text TOLD by the authors' own Lean function (tested against real Go, not proved from fmt's source: count such statements apart). THE CARD IS WHAT COUNTS. Prove the row's statement (the work); the ties are given (YtidnjnhmkhekeaaDoorTie.lean); close each card by the builder's one call (the guide's Derived/Test/ToyasCard.lean, 'card_holds'). Laid BY PROGRAM, IN A SANDBOX (cutbox-door.mjs). By AI agents, Wed Nov 11 2026. No macro, syntax, notation, axiom, sorry.
-/
import Derived.Test.YtidnjnhmkhekeaaDoorRows
import GoSem.ClaimSeven
namespace Go.Proofs.YtidnjnhmkhekeaaDoor
namespace Rows

/-- THE TIED CARD OF 'stairlaw2.KeeperOnce'. -/
def keeperOnceCard : Claim7 := { stood := { row := keeperOnceRow, standIns := [], harness := (true, "2243173c9a7982bc1c17a79cb9d946eb9a26ee4cff3fb844e0b7007286113fc4"), looks := true }, kinds := [], alts := [], laidByText := true, laidKinds := [.handle], laidTests := true, laidLooks := .later }
def KeeperOnceCardSaid : Prop := Claim7.holds Tryd.pinned (.plain (OpenSpec.ofChange keeperOnceSpec)) keeperOnceCard

/-- THE TIED CARD OF 'stairlaw4.KeeperNone'. -/
def keeperNoneCard : Claim7 := { stood := { row := keeperNoneRow, standIns := [], harness := (true, "2243173c9a7982bc1c17a79cb9d946eb9a26ee4cff3fb844e0b7007286113fc4"), looks := true }, kinds := [], alts := [], laidByText := true, laidKinds := [.handle], laidTests := true, laidLooks := .later }
def KeeperNoneCardSaid : Prop := Claim7.holds Tryd.pinned (.plain (OpenSpec.ofChange keeperNoneSpec)) keeperNoneCard

/-- THE TIED CARD OF 'stairlaw2.KeeperPlays'. -/
def keeperPlaysCard : Claim7 := { stood := { row := keeperPlaysRow, standIns := [], harness := (true, "2243173c9a7982bc1c17a79cb9d946eb9a26ee4cff3fb844e0b7007286113fc4"), looks := true }, kinds := [], alts := [], laidByText := true, laidKinds := [.handle], laidTests := true, laidLooks := .later }
def KeeperPlaysCardSaid : Prop := Claim7.holds Tryd.pinned (.plain (OpenSpec.ofChange keeperPlaysSpec)) keeperPlaysCard

/-- THE TIED CARD OF 'stairtop.TopAttest'. -/
def topAttestCard : Claim7 := { stood := { row := topAttestRow, standIns := [], harness := (true, "2243173c9a7982bc1c17a79cb9d946eb9a26ee4cff3fb844e0b7007286113fc4"), looks := true }, kinds := [], alts := [], laidByText := true, laidKinds := [.data, .data, .data], laidTests := true, laidLooks := .later }
def TopAttestCardSaid : Prop := Claim7.holds Tryd.pinned (.plain (OpenSpec.ofChange topAttestSpec)) topAttestCard

/-- THE SECOND FORM's CARD OF 'stairlaw2.KeeperOnce'. -/
def keeperOnceUptoCard : Claim7 := { stood := { row := keeperOnceUptoRow, standIns := [], harness := (true, "2243173c9a7982bc1c17a79cb9d946eb9a26ee4cff3fb844e0b7007286113fc4"), looks := true }, kinds := [], alts := [], laidByText := true, laidKinds := [.handle], laidTests := true, laidLooks := .later }
def KeeperOnceUptoCardSaid : Prop := Claim7.holds Tryd.pinned (.plain (OpenSpec.upto keeperOnceSpec)) keeperOnceUptoCard

/-- THE SECOND FORM's CARD OF 'stairlaw4.KeeperNone'. -/
def keeperNoneUptoCard : Claim7 := { stood := { row := keeperNoneUptoRow, standIns := [], harness := (true, "2243173c9a7982bc1c17a79cb9d946eb9a26ee4cff3fb844e0b7007286113fc4"), looks := true }, kinds := [], alts := [], laidByText := true, laidKinds := [.handle], laidTests := true, laidLooks := .later }
def KeeperNoneUptoCardSaid : Prop := Claim7.holds Tryd.pinned (.plain (OpenSpec.upto keeperNoneSpec)) keeperNoneUptoCard

/-- THE SECOND FORM's CARD OF 'stairlaw2.KeeperPlays'. -/
def keeperPlaysUptoCard : Claim7 := { stood := { row := keeperPlaysUptoRow, standIns := [], harness := (true, "2243173c9a7982bc1c17a79cb9d946eb9a26ee4cff3fb844e0b7007286113fc4"), looks := true }, kinds := [], alts := [], laidByText := true, laidKinds := [.handle], laidTests := true, laidLooks := .later }
def KeeperPlaysUptoCardSaid : Prop := Claim7.holds Tryd.pinned (.plain (OpenSpec.upto keeperPlaysSpec)) keeperPlaysUptoCard

/-- THE SECOND FORM's CARD OF 'stairtop.TopAttest'. -/
def topAttestUptoCard : Claim7 := { stood := { row := topAttestUptoRow, standIns := [], harness := (true, "2243173c9a7982bc1c17a79cb9d946eb9a26ee4cff3fb844e0b7007286113fc4"), looks := true }, kinds := [], alts := [], laidByText := true, laidKinds := [.data, .data, .data], laidTests := true, laidLooks := .later }
def TopAttestUptoCardSaid : Prop := Claim7.holds Tryd.pinned (.plain (OpenSpec.upto topAttestSpec)) topAttestUptoCard
end Rows
end Go.Proofs.YtidnjnhmkhekeaaDoor
