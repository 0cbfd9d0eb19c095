/-
  DERIVED. GIVEN WITH THE SEED: THE CARDS: each row of YthfbacaamhkjpaaGreatDoorRows.lean that lists a variable, with what it lists TIED to the program's text (the seventh form; the later family's looks); each row that meets fmt, with fmt's text TOLD by the authors' own Lean function (tested against real Go, not proved from fmt's source: count such statements apart). THE CARD IS WHAT COUNTS. Prove the row's statement (the work); the ties are given (YthfbacaamhkjpaaGreatDoorTie.lean); close each card by the builder's one call (the guide's Derived/Test/ToyasCard.lean, 'card_holds'). Laid BY PROGRAM, IN A SANDBOX (cutbox-door.mjs). By AI agents, Wed Nov 11 2026. No macro, syntax, notation, axiom, sorry.
-/
import Derived.Test.YthfbacaamhkjpaaGreatDoorRows
import GoSem.ClaimSeven
namespace Go.Proofs.YthfbacaamhkjpaaGreatDoor
namespace Rows

/-- THE TIED CARD OF 'laws.FnDrained'. -/
def fnDrainedCard : Claim7 := { stood := { row := fnDrainedRow, standIns := [], harness := (true, "85eade808c60af1adfd23fb809bd9f5570850e70f2d7f8ea05ea5e3240103c5b"), looks := false }, kinds := [], alts := [], laidByText := true, laidKinds := [.data, .pinned], laidTests := true, laidLooks := .later }
def FnDrainedCardSaid : Prop := Claim7.holds Tryz.pinned (.plain (OpenSpec.ofChange fnDrainedSpec)) fnDrainedCard

/-- THE SECOND FORM's CARD OF 'laws.FnDrained'. -/
def fnDrainedUptoCard : Claim7 := { stood := { row := fnDrainedUptoRow, standIns := [], harness := (true, "85eade808c60af1adfd23fb809bd9f5570850e70f2d7f8ea05ea5e3240103c5b"), looks := false }, kinds := [], alts := [], laidByText := true, laidKinds := [.data, .pinned], laidTests := true, laidLooks := .later }
def FnDrainedUptoCardSaid : Prop := Claim7.holds Tryz.pinned (.plain (OpenSpec.upto fnDrainedSpec)) fnDrainedUptoCard
end Rows
end Go.Proofs.YthfbacaamhkjpaaGreatDoor
