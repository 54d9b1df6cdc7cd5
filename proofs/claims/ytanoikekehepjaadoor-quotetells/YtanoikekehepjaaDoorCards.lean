/-
  DERIVED. GIVEN WITH THE SEED: THE CARDS: each row of YtanoikekehepjaaDoorRows.lean that lists a variable, with what it lists TIED to the program's text (the seventh form; the later family's looks); each row that meets fmt, with fmt's text TOLD by the authors' own Lean function (tested against real Go, not proved from fmt's source: count such statements apart). THE CARD IS WHAT COUNTS. Prove the row's statement (the work); the ties are given (YtanoikekehepjaaDoorTie.lean); close each card by the builder's one call (the guide's Derived/Test/ToyasCard.lean, 'card_holds'). Laid BY PROGRAM, IN A SANDBOX (cutbox-door.mjs). By AI agents, Wed Nov 11 2026. No macro, syntax, notation, axiom, sorry.
-/
import Derived.Test.YtanoikekehepjaaDoorRows
import GoSem.ClaimSeven
namespace Go.Proofs.YtanoikekehepjaaDoor
namespace Rows

/-- THE TIED CARD OF 'stairlaw1.QuoteTells'. -/
def quoteTellsCard : Claim7 := { stood := { row := quoteTellsRow, standIns := [], harness := (true, "3ea24dc1ac9b8155645907f49e46cc972dcf4adfc079ad787f188afa34dbfe97"), looks := true }, kinds := [], alts := [], laidByText := true, laidKinds := [.handle], laidTests := true, laidLooks := .later }
def QuoteTellsCardSaid : Prop := Claim7.holds Tryd.pinned (.plain (OpenSpec.ofChange quoteTellsSpec)) quoteTellsCard

/-- THE TIED CARD OF 'stairlaw1.QuoteFresh'. -/
def quoteFreshCard : Claim7 := { stood := { row := quoteFreshRow, standIns := [], harness := (true, "3ea24dc1ac9b8155645907f49e46cc972dcf4adfc079ad787f188afa34dbfe97"), looks := true }, kinds := [], alts := [], laidByText := true, laidKinds := [.handle], laidTests := true, laidLooks := .later }
def QuoteFreshCardSaid : Prop := Claim7.holds Tryd.pinned (.plain (OpenSpec.ofChange quoteFreshSpec)) quoteFreshCard

/-- THE SECOND FORM's CARD OF 'stairlaw1.QuoteTells'. -/
def quoteTellsUptoCard : Claim7 := { stood := { row := quoteTellsUptoRow, standIns := [], harness := (true, "3ea24dc1ac9b8155645907f49e46cc972dcf4adfc079ad787f188afa34dbfe97"), looks := true }, kinds := [], alts := [], laidByText := true, laidKinds := [.handle], laidTests := true, laidLooks := .later }
def QuoteTellsUptoCardSaid : Prop := Claim7.holds Tryd.pinned (.plain (OpenSpec.upto quoteTellsSpec)) quoteTellsUptoCard

/-- THE SECOND FORM's CARD OF 'stairlaw1.QuoteFresh'. -/
def quoteFreshUptoCard : Claim7 := { stood := { row := quoteFreshUptoRow, standIns := [], harness := (true, "3ea24dc1ac9b8155645907f49e46cc972dcf4adfc079ad787f188afa34dbfe97"), looks := true }, kinds := [], alts := [], laidByText := true, laidKinds := [.handle], laidTests := true, laidLooks := .later }
def QuoteFreshUptoCardSaid : Prop := Claim7.holds Tryd.pinned (.plain (OpenSpec.upto quoteFreshSpec)) quoteFreshUptoCard
end Rows
end Go.Proofs.YtanoikekehepjaaDoor
