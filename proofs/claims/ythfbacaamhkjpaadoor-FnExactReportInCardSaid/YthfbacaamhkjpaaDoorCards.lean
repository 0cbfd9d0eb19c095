/-
  DERIVED. GIVEN WITH THE SEED: THE CARDS: each row of YthfbacaamhkjpaaDoorRows.lean that lists a variable, with what it lists TIED to the program's text (the seventh form; the later family's looks); each row that meets fmt, with fmt's text TOLD by the authors' own Lean function (tested against real Go, not proved from fmt's source: count such statements apart). THE CARD IS WHAT COUNTS. Prove the row's statement (the work); the ties are given (YthfbacaamhkjpaaDoorTie.lean); close each card by the builder's one call (the guide's Derived/Test/ToyasCard.lean, 'card_holds'). Laid BY PROGRAM, IN A SANDBOX (cutbox-door.mjs). By AI agents, Wed Nov 11 2026. No macro, syntax, notation, axiom, sorry.
-/
import Derived.Test.YthfbacaamhkjpaaDoorRows
import GoSem.ClaimSeven
namespace Go.Proofs.YthfbacaamhkjpaaDoor
namespace Rows

/-- THE TIED CARD OF 'laws.FnExactRowFrom'. -/
def fnExactRowFromCard : Claim7 := { stood := { row := fnExactRowFromRow, standIns := [], harness := (true, "ee037ad34e74e81ad964a734f9d8db7459298df210e491047c2941cf2a70eb7c"), looks := false }, kinds := [], alts := [], laidByText := true, laidKinds := [.data, .pinned], laidTests := true, laidLooks := .later }
def FnExactRowFromCardSaid : Prop := Claim7.holds Tryd.pinned (.plain (OpenSpec.ofChange fnExactRowFromSpec)) fnExactRowFromCard

/-- THE TIED CARD OF 'laws.FnExactRowIn'. -/
def fnExactRowInCard : Claim7 := { stood := { row := fnExactRowInRow, standIns := [], harness := (true, "ee037ad34e74e81ad964a734f9d8db7459298df210e491047c2941cf2a70eb7c"), looks := false }, kinds := [], alts := [], laidByText := true, laidKinds := [.data, .pinned], laidTests := true, laidLooks := .later }
def FnExactRowInCardSaid : Prop := Claim7.holds Tryd.pinned (.plain (OpenSpec.ofChange fnExactRowInSpec)) fnExactRowInCard

/-- THE TIED CARD OF 'laws.FnExactReportIn'. -/
def fnExactReportInCard : Claim7 := { stood := { row := fnExactReportInRow, standIns := [], harness := (true, "ee037ad34e74e81ad964a734f9d8db7459298df210e491047c2941cf2a70eb7c"), looks := false }, kinds := [], alts := [], laidByText := true, laidKinds := [.data, .pinned], laidTests := true, laidLooks := .later }
def FnExactReportInCardSaid : Prop := Claim7.holds Tryd.pinned (.plain (OpenSpec.ofChange fnExactReportInSpec)) fnExactReportInCard

/-- THE SECOND FORM's CARD OF 'laws.FnExactRowFrom'. -/
def fnExactRowFromUptoCard : Claim7 := { stood := { row := fnExactRowFromUptoRow, standIns := [], harness := (true, "ee037ad34e74e81ad964a734f9d8db7459298df210e491047c2941cf2a70eb7c"), looks := false }, kinds := [], alts := [], laidByText := true, laidKinds := [.data, .pinned], laidTests := true, laidLooks := .later }
def FnExactRowFromUptoCardSaid : Prop := Claim7.holds Tryd.pinned (.plain (OpenSpec.upto fnExactRowFromSpec)) fnExactRowFromUptoCard

/-- THE SECOND FORM's CARD OF 'laws.FnExactRowIn'. -/
def fnExactRowInUptoCard : Claim7 := { stood := { row := fnExactRowInUptoRow, standIns := [], harness := (true, "ee037ad34e74e81ad964a734f9d8db7459298df210e491047c2941cf2a70eb7c"), looks := false }, kinds := [], alts := [], laidByText := true, laidKinds := [.data, .pinned], laidTests := true, laidLooks := .later }
def FnExactRowInUptoCardSaid : Prop := Claim7.holds Tryd.pinned (.plain (OpenSpec.upto fnExactRowInSpec)) fnExactRowInUptoCard

/-- THE SECOND FORM's CARD OF 'laws.FnExactReportIn'. -/
def fnExactReportInUptoCard : Claim7 := { stood := { row := fnExactReportInUptoRow, standIns := [], harness := (true, "ee037ad34e74e81ad964a734f9d8db7459298df210e491047c2941cf2a70eb7c"), looks := false }, kinds := [], alts := [], laidByText := true, laidKinds := [.data, .pinned], laidTests := true, laidLooks := .later }
def FnExactReportInUptoCardSaid : Prop := Claim7.holds Tryd.pinned (.plain (OpenSpec.upto fnExactReportInSpec)) fnExactReportInUptoCard
end Rows
end Go.Proofs.YthfbacaamhkjpaaDoor
