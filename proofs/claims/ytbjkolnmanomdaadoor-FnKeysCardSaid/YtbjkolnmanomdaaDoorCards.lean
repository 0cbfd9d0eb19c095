/-
  DERIVED. GIVEN WITH THE SEED: THE CARDS: each row of YtbjkolnmanomdaaDoorRows.lean that lists a variable, with what it lists TIED to the program's text (the seventh form; the later family's looks); each row that meets fmt, with fmt's text TOLD by the authors' own Lean function (tested against real Go, not proved from fmt's source: count such statements apart). THE CARD IS WHAT COUNTS. Prove the row's statement (the work); the ties are given (YtbjkolnmanomdaaDoorTie.lean); close each card by the builder's one call (the guide's Derived/Test/ToyasCard.lean, 'card_holds'). Laid BY PROGRAM, IN A SANDBOX (cutbox-door.mjs). By AI agents, Wed Nov 11 2026. No macro, syntax, notation, axiom, sorry.
-/
import Derived.Test.YtbjkolnmanomdaaDoorRows
import GoSem.ClaimSeven
namespace Go.Proofs.YtbjkolnmanomdaaDoor
namespace Rows

/-- THE TIED CARD OF 'laws.FnKeys'. -/
def fnKeysCard : Claim7 := { stood := { row := fnKeysRow, standIns := [], harness := (true, "34c6e71c27b12d455a974f7b5f070bfde5b06c080d6bce170a08c0e0442217fa"), looks := false }, kinds := [], alts := [], laidByText := true, laidKinds := [.data, .pinned], laidTests := true, laidLooks := .later }
def FnKeysCardSaid : Prop := Claim7.holds Tryd.pinned (.plain (OpenSpec.ofChange fnKeysSpec)) fnKeysCard

/-- THE TIED CARD OF 'laws.FnExactUnpackKey'. -/
def fnExactUnpackKeyCard : Claim7 := { stood := { row := fnExactUnpackKeyRow, standIns := [], harness := (true, "34c6e71c27b12d455a974f7b5f070bfde5b06c080d6bce170a08c0e0442217fa"), looks := false }, kinds := [], alts := [], laidByText := true, laidKinds := [.data, .pinned], laidTests := true, laidLooks := .later }
def FnExactUnpackKeyCardSaid : Prop := Claim7.holds Tryd.pinned (.plain (OpenSpec.ofChange fnExactUnpackKeySpec)) fnExactUnpackKeyCard

/-- THE SECOND FORM's CARD OF 'laws.FnKeys'. -/
def fnKeysUptoCard : Claim7 := { stood := { row := fnKeysUptoRow, standIns := [], harness := (true, "34c6e71c27b12d455a974f7b5f070bfde5b06c080d6bce170a08c0e0442217fa"), looks := false }, kinds := [], alts := [], laidByText := true, laidKinds := [.data, .pinned], laidTests := true, laidLooks := .later }
def FnKeysUptoCardSaid : Prop := Claim7.holds Tryd.pinned (.plain (OpenSpec.upto fnKeysSpec)) fnKeysUptoCard

/-- THE SECOND FORM's CARD OF 'laws.FnExactUnpackKey'. -/
def fnExactUnpackKeyUptoCard : Claim7 := { stood := { row := fnExactUnpackKeyUptoRow, standIns := [], harness := (true, "34c6e71c27b12d455a974f7b5f070bfde5b06c080d6bce170a08c0e0442217fa"), looks := false }, kinds := [], alts := [], laidByText := true, laidKinds := [.data, .pinned], laidTests := true, laidLooks := .later }
def FnExactUnpackKeyUptoCardSaid : Prop := Claim7.holds Tryd.pinned (.plain (OpenSpec.upto fnExactUnpackKeySpec)) fnExactUnpackKeyUptoCard
end Rows
end Go.Proofs.YtbjkolnmanomdaaDoor
