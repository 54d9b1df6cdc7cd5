/-
  DERIVED. GIVEN WITH THE SEED: THE CARDS: each row of YtbmcmigeohcnlaaDoorRows.lean that lists a variable, with what it lists TIED to the program's text (the seventh form; the later family's looks); each row that meets fmt, with fmt's text TOLD by the authors' own Lean function (tested against real Go, not proved from fmt's source: count such statements apart). THE CARD IS WHAT COUNTS. Prove the row's statement (the work); the ties are given (YtbmcmigeohcnlaaDoorTie.lean); close each card by the builder's one call (the guide's Derived/Test/ToyasCard.lean, 'card_holds'). Laid BY PROGRAM, IN A SANDBOX (cutbox-door.mjs). By AI agents, Wed Nov 11 2026. No macro, syntax, notation, axiom, sorry.
-/
import Derived.Test.YtbmcmigeohcnlaaDoorRows
import GoSem.ClaimSeven
namespace Go.Proofs.YtbmcmigeohcnlaaDoor
namespace Rows

/-- THE TIED CARD OF 'stairlaw1.NonceOnce'. -/
def nonceOnceCard : Claim7 := { stood := { row := nonceOnceRow, standIns := [], harness := (true, "482b57f049c61f35cddb59a8a2cd3d4a71c0502f27a517f5beea2078b5b9671b"), looks := true }, kinds := [], alts := [], laidByText := true, laidKinds := [.handle], laidTests := true, laidLooks := .later }
def NonceOnceCardSaid : Prop := Claim7.holds Tryd.pinned (.plain (OpenSpec.ofChange nonceOnceSpec)) nonceOnceCard

/-- THE TIED CARD OF 'stairlaw4.NonceFull'. -/
def nonceFullCard : Claim7 := { stood := { row := nonceFullRow, standIns := [], harness := (true, "482b57f049c61f35cddb59a8a2cd3d4a71c0502f27a517f5beea2078b5b9671b"), looks := true }, kinds := [], alts := [], laidByText := true, laidKinds := [.handle], laidTests := true, laidLooks := .later }
def NonceFullCardSaid : Prop := Claim7.holds Tryd.pinned (.plain (OpenSpec.ofChange nonceFullSpec)) nonceFullCard

/-- THE TIED CARD OF 'stairlaw1.NoncePlays'. -/
def noncePlaysCard : Claim7 := { stood := { row := noncePlaysRow, standIns := [], harness := (true, "482b57f049c61f35cddb59a8a2cd3d4a71c0502f27a517f5beea2078b5b9671b"), looks := true }, kinds := [], alts := [], laidByText := true, laidKinds := [.handle], laidTests := true, laidLooks := .later }
def NoncePlaysCardSaid : Prop := Claim7.holds Tryd.pinned (.plain (OpenSpec.ofChange noncePlaysSpec)) noncePlaysCard

/-- THE SECOND FORM's CARD OF 'stairlaw1.NonceOnce'. -/
def nonceOnceUptoCard : Claim7 := { stood := { row := nonceOnceUptoRow, standIns := [], harness := (true, "482b57f049c61f35cddb59a8a2cd3d4a71c0502f27a517f5beea2078b5b9671b"), looks := true }, kinds := [], alts := [], laidByText := true, laidKinds := [.handle], laidTests := true, laidLooks := .later }
def NonceOnceUptoCardSaid : Prop := Claim7.holds Tryd.pinned (.plain (OpenSpec.upto nonceOnceSpec)) nonceOnceUptoCard

/-- THE SECOND FORM's CARD OF 'stairlaw4.NonceFull'. -/
def nonceFullUptoCard : Claim7 := { stood := { row := nonceFullUptoRow, standIns := [], harness := (true, "482b57f049c61f35cddb59a8a2cd3d4a71c0502f27a517f5beea2078b5b9671b"), looks := true }, kinds := [], alts := [], laidByText := true, laidKinds := [.handle], laidTests := true, laidLooks := .later }
def NonceFullUptoCardSaid : Prop := Claim7.holds Tryd.pinned (.plain (OpenSpec.upto nonceFullSpec)) nonceFullUptoCard

/-- THE SECOND FORM's CARD OF 'stairlaw1.NoncePlays'. -/
def noncePlaysUptoCard : Claim7 := { stood := { row := noncePlaysUptoRow, standIns := [], harness := (true, "482b57f049c61f35cddb59a8a2cd3d4a71c0502f27a517f5beea2078b5b9671b"), looks := true }, kinds := [], alts := [], laidByText := true, laidKinds := [.handle], laidTests := true, laidLooks := .later }
def NoncePlaysUptoCardSaid : Prop := Claim7.holds Tryd.pinned (.plain (OpenSpec.upto noncePlaysSpec)) noncePlaysUptoCard
end Rows
end Go.Proofs.YtbmcmigeohcnlaaDoor
