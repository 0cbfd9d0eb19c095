/-
  DERIVED. GIVEN WITH THE SEED: THE CARDS: each row of YtnlepnfdgdbkoaaGreatDoorRows.lean that lists a variable, with what it lists TIED to the program's text (the seventh form; the later family's looks); each row that meets fmt, with fmt's text TOLD by the authors' own Lean function (tested against real Go, not proved from fmt's source: count such statements apart). THE CARD IS WHAT COUNTS. Prove the row's statement (the work); the ties are given (YtnlepnfdgdbkoaaGreatDoorTie.lean); close each card by the builder's one call (the guide's Derived/Test/ToyasCard.lean, 'card_holds'). Laid BY PROGRAM, IN A SANDBOX (cutbox-door.mjs). By AI agents, Wed Nov 11 2026. No macro, syntax, notation, axiom, sorry.
-/
import Derived.Test.YtnlepnfdgdbkoaaGreatDoorRows
import GoSem.ClaimSeven
namespace Go.Proofs.YtnlepnfdgdbkoaaGreatDoor
namespace Rows

/-- THE TIED CARD OF 'laws.FnSerials'. -/
def fnSerialsCard : Claim7 := { stood := { row := fnSerialsRow, standIns := [], harness := (true, "e9108aae69081dbd0caf3c9094ad28fda5c03447841107d612fbdc15c1d5ae4b"), looks := false }, kinds := [], alts := [], laidByText := true, laidKinds := [.data, .pinned], laidTests := true, laidLooks := .later }
def FnSerialsCardSaid : Prop := Claim7.holds Tryz.pinned (.plain (OpenSpec.ofChange fnSerialsSpec)) fnSerialsCard

/-- THE TIED CARD OF 'laws.FnPrefix'. -/
def fnPrefixCard : Claim7 := { stood := { row := fnPrefixRow, standIns := [], harness := (true, "e9108aae69081dbd0caf3c9094ad28fda5c03447841107d612fbdc15c1d5ae4b"), looks := false }, kinds := [], alts := [], laidByText := true, laidKinds := [.data, .pinned], laidTests := true, laidLooks := .later }
def FnPrefixCardSaid : Prop := Claim7.holds Tryz.pinned (.plain (OpenSpec.ofChange fnPrefixSpec)) fnPrefixCard

/-- THE TIED CARD OF 'laws.FnBlocked'. -/
def fnBlockedCard : Claim7 := { stood := { row := fnBlockedRow, standIns := [], harness := (true, "e9108aae69081dbd0caf3c9094ad28fda5c03447841107d612fbdc15c1d5ae4b"), looks := false }, kinds := [], alts := [], laidByText := true, laidKinds := [.data, .pinned], laidTests := true, laidLooks := .later }
def FnBlockedCardSaid : Prop := Claim7.holds Tryz.pinned (.plain (OpenSpec.ofChange fnBlockedSpec)) fnBlockedCard

/-- THE SECOND FORM's CARD OF 'laws.FnSerials'. -/
def fnSerialsUptoCard : Claim7 := { stood := { row := fnSerialsUptoRow, standIns := [], harness := (true, "e9108aae69081dbd0caf3c9094ad28fda5c03447841107d612fbdc15c1d5ae4b"), looks := false }, kinds := [], alts := [], laidByText := true, laidKinds := [.data, .pinned], laidTests := true, laidLooks := .later }
def FnSerialsUptoCardSaid : Prop := Claim7.holds Tryz.pinned (.plain (OpenSpec.upto fnSerialsSpec)) fnSerialsUptoCard

/-- THE SECOND FORM's CARD OF 'laws.FnPrefix'. -/
def fnPrefixUptoCard : Claim7 := { stood := { row := fnPrefixUptoRow, standIns := [], harness := (true, "e9108aae69081dbd0caf3c9094ad28fda5c03447841107d612fbdc15c1d5ae4b"), looks := false }, kinds := [], alts := [], laidByText := true, laidKinds := [.data, .pinned], laidTests := true, laidLooks := .later }
def FnPrefixUptoCardSaid : Prop := Claim7.holds Tryz.pinned (.plain (OpenSpec.upto fnPrefixSpec)) fnPrefixUptoCard

/-- THE SECOND FORM's CARD OF 'laws.FnBlocked'. -/
def fnBlockedUptoCard : Claim7 := { stood := { row := fnBlockedUptoRow, standIns := [], harness := (true, "e9108aae69081dbd0caf3c9094ad28fda5c03447841107d612fbdc15c1d5ae4b"), looks := false }, kinds := [], alts := [], laidByText := true, laidKinds := [.data, .pinned], laidTests := true, laidLooks := .later }
def FnBlockedUptoCardSaid : Prop := Claim7.holds Tryz.pinned (.plain (OpenSpec.upto fnBlockedSpec)) fnBlockedUptoCard
end Rows
end Go.Proofs.YtnlepnfdgdbkoaaGreatDoor
