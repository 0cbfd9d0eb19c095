/-
  DERIVED. GIVEN WITH THE SEED: THE CARDS: each row of YtmnkjjgfebfgmaaDoorRows.lean that lists a variable, with what it lists TIED to the program's text (the seventh form; the later family's looks); each row that meets fmt, with fmt's text TOLD by the authors' own Lean function (tested against real Go, not proved from fmt's source: count such statements apart). THE CARD IS WHAT COUNTS. Prove the row's statement (the work); the ties are given (YtmnkjjgfebfgmaaDoorTie.lean); close each card by the builder's one call (the guide's Derived/Test/ToyasCard.lean, 'card_holds'). Laid BY PROGRAM, IN A SANDBOX (cutbox-door.mjs). By AI agents, Wed Nov 11 2026. No macro, syntax, notation, axiom, sorry.
-/
import Derived.Test.YtmnkjjgfebfgmaaDoorRows
import GoSem.ClaimSeven
namespace Go.Proofs.YtmnkjjgfebfgmaaDoor
namespace Rows

/-- THE TIED CARD OF 'laws.FnExactFindKey'. -/
def fnExactFindKeyCard : Claim7 := { stood := { row := fnExactFindKeyRow, standIns := [], harness := (true, "c9d4f9e86ba4703a84d5fcbb5048432c2129c52e7829d2f474f123b0618ee136"), looks := false }, kinds := [], alts := [], laidByText := true, laidKinds := [.data, .pinned], laidTests := true, laidLooks := .later }
def FnExactFindKeyCardSaid : Prop := Claim7.holds Tryd.pinned (.plain (OpenSpec.ofChange fnExactFindKeySpec)) fnExactFindKeyCard

/-- THE TIED CARD OF 'laws.FnExactRegister'. -/
def fnExactRegisterCard : Claim7 := { stood := { row := fnExactRegisterRow, standIns := [], harness := (true, "c9d4f9e86ba4703a84d5fcbb5048432c2129c52e7829d2f474f123b0618ee136"), looks := false }, kinds := [], alts := [], laidByText := true, laidKinds := [.data, .pinned], laidTests := true, laidLooks := .later }
def FnExactRegisterCardSaid : Prop := Claim7.holds Tryd.pinned (.plain (OpenSpec.ofChange fnExactRegisterSpec)) fnExactRegisterCard

/-- THE TIED CARD OF 'laws.FnExactKeysIn'. -/
def fnExactKeysInCard : Claim7 := { stood := { row := fnExactKeysInRow, standIns := [], harness := (true, "c9d4f9e86ba4703a84d5fcbb5048432c2129c52e7829d2f474f123b0618ee136"), looks := false }, kinds := [], alts := [], laidByText := true, laidKinds := [.data, .pinned], laidTests := true, laidLooks := .later }
def FnExactKeysInCardSaid : Prop := Claim7.holds Tryd.pinned (.plain (OpenSpec.ofChange fnExactKeysInSpec)) fnExactKeysInCard

/-- THE TIED CARD OF 'laws.FnExactTableOk'. -/
def fnExactTableOkCard : Claim7 := { stood := { row := fnExactTableOkRow, standIns := [], harness := (true, "c9d4f9e86ba4703a84d5fcbb5048432c2129c52e7829d2f474f123b0618ee136"), looks := false }, kinds := [], alts := [], laidByText := true, laidKinds := [.data, .pinned], laidTests := true, laidLooks := .later }
def FnExactTableOkCardSaid : Prop := Claim7.holds Tryd.pinned (.plain (OpenSpec.ofChange fnExactTableOkSpec)) fnExactTableOkCard

/-- THE SECOND FORM's CARD OF 'laws.FnExactFindKey'. -/
def fnExactFindKeyUptoCard : Claim7 := { stood := { row := fnExactFindKeyUptoRow, standIns := [], harness := (true, "c9d4f9e86ba4703a84d5fcbb5048432c2129c52e7829d2f474f123b0618ee136"), looks := false }, kinds := [], alts := [], laidByText := true, laidKinds := [.data, .pinned], laidTests := true, laidLooks := .later }
def FnExactFindKeyUptoCardSaid : Prop := Claim7.holds Tryd.pinned (.plain (OpenSpec.upto fnExactFindKeySpec)) fnExactFindKeyUptoCard

/-- THE SECOND FORM's CARD OF 'laws.FnExactRegister'. -/
def fnExactRegisterUptoCard : Claim7 := { stood := { row := fnExactRegisterUptoRow, standIns := [], harness := (true, "c9d4f9e86ba4703a84d5fcbb5048432c2129c52e7829d2f474f123b0618ee136"), looks := false }, kinds := [], alts := [], laidByText := true, laidKinds := [.data, .pinned], laidTests := true, laidLooks := .later }
def FnExactRegisterUptoCardSaid : Prop := Claim7.holds Tryd.pinned (.plain (OpenSpec.upto fnExactRegisterSpec)) fnExactRegisterUptoCard

/-- THE SECOND FORM's CARD OF 'laws.FnExactKeysIn'. -/
def fnExactKeysInUptoCard : Claim7 := { stood := { row := fnExactKeysInUptoRow, standIns := [], harness := (true, "c9d4f9e86ba4703a84d5fcbb5048432c2129c52e7829d2f474f123b0618ee136"), looks := false }, kinds := [], alts := [], laidByText := true, laidKinds := [.data, .pinned], laidTests := true, laidLooks := .later }
def FnExactKeysInUptoCardSaid : Prop := Claim7.holds Tryd.pinned (.plain (OpenSpec.upto fnExactKeysInSpec)) fnExactKeysInUptoCard

/-- THE SECOND FORM's CARD OF 'laws.FnExactTableOk'. -/
def fnExactTableOkUptoCard : Claim7 := { stood := { row := fnExactTableOkUptoRow, standIns := [], harness := (true, "c9d4f9e86ba4703a84d5fcbb5048432c2129c52e7829d2f474f123b0618ee136"), looks := false }, kinds := [], alts := [], laidByText := true, laidKinds := [.data, .pinned], laidTests := true, laidLooks := .later }
def FnExactTableOkUptoCardSaid : Prop := Claim7.holds Tryd.pinned (.plain (OpenSpec.upto fnExactTableOkSpec)) fnExactTableOkUptoCard
end Rows
end Go.Proofs.YtmnkjjgfebfgmaaDoor
