/-
  DERIVED. GIVEN WITH THE SEED: THE CARDS: each row of YtdefhiblbahhnaaDoorRows.lean that lists a variable, with what it lists TIED to the program's text (the seventh form; the later family's looks); each row that meets fmt, with fmt's text TOLD by the authors' own Lean function (tested against real Go, not proved from fmt's source: count such statements apart). THE CARD IS WHAT COUNTS. Prove the row's statement (the work); the ties are given (YtdefhiblbahhnaaDoorTie.lean); close each card by the builder's one call (the guide's Derived/Test/ToyasCard.lean, 'card_holds'). Laid BY PROGRAM, IN A SANDBOX (cutbox-door.mjs). By AI agents, Wed Nov 11 2026. No macro, syntax, notation, axiom, sorry.
-/
import Derived.Test.YtdefhiblbahhnaaDoorRows
import GoSem.ClaimSeven
namespace Go.Proofs.YtdefhiblbahhnaaDoor
namespace Rows

/-- THE TIED CARD OF 'laws.FnLayout'. -/
def fnLayoutCard : Claim7 := { stood := { row := fnLayoutRow, standIns := [], harness := (true, "d01edbee8bfb4b7c6d174070c0ae10ba8d1616e46a89927bb8bec4f638231bf1"), looks := false }, kinds := [], alts := [], laidByText := true, laidKinds := [.data, .data, .data], laidTests := true, laidLooks := .later }
def FnLayoutCardSaid : Prop := Claim7.holds Tryd.pinned (.plain (OpenSpec.ofChange fnLayoutSpec)) fnLayoutCard

/-- THE TIED CARD OF 'laws.FnExactCellName'. -/
def fnExactCellNameCard : Claim7 := { stood := { row := fnExactCellNameRow, standIns := [], harness := (true, "d01edbee8bfb4b7c6d174070c0ae10ba8d1616e46a89927bb8bec4f638231bf1"), looks := false }, kinds := [], alts := [], laidByText := true, laidKinds := [.data, .data, .data], laidTests := true, laidLooks := .later }
def FnExactCellNameCardSaid : Prop := Claim7.holds Tryd.pinned (.plain (OpenSpec.ofChange fnExactCellNameSpec)) fnExactCellNameCard

/-- THE SECOND FORM's CARD OF 'laws.FnLayout'. -/
def fnLayoutUptoCard : Claim7 := { stood := { row := fnLayoutUptoRow, standIns := [], harness := (true, "d01edbee8bfb4b7c6d174070c0ae10ba8d1616e46a89927bb8bec4f638231bf1"), looks := false }, kinds := [], alts := [], laidByText := true, laidKinds := [.data, .data, .data], laidTests := true, laidLooks := .later }
def FnLayoutUptoCardSaid : Prop := Claim7.holds Tryd.pinned (.plain (OpenSpec.upto fnLayoutSpec)) fnLayoutUptoCard

/-- THE SECOND FORM's CARD OF 'laws.FnExactCellName'. -/
def fnExactCellNameUptoCard : Claim7 := { stood := { row := fnExactCellNameUptoRow, standIns := [], harness := (true, "d01edbee8bfb4b7c6d174070c0ae10ba8d1616e46a89927bb8bec4f638231bf1"), looks := false }, kinds := [], alts := [], laidByText := true, laidKinds := [.data, .data, .data], laidTests := true, laidLooks := .later }
def FnExactCellNameUptoCardSaid : Prop := Claim7.holds Tryd.pinned (.plain (OpenSpec.upto fnExactCellNameSpec)) fnExactCellNameUptoCard
end Rows
end Go.Proofs.YtdefhiblbahhnaaDoor
