/-
  DERIVED. GIVEN WITH THE SEED: THE CARDS: each row of YtmglidfnolmcaaaDoorRows.lean that lists a variable, with what it lists TIED to the program's text (the seventh form; the later family's looks); each row that meets fmt, with fmt's text TOLD by the authors' own Lean function (tested against real Go, not proved from fmt's source: count such statements apart). THE CARD IS WHAT COUNTS. Prove the row's statement (the work); the ties are given (YtmglidfnolmcaaaDoorTie.lean); close each card by the builder's one call (the guide's Derived/Test/ToyasCard.lean, 'card_holds'). Laid BY PROGRAM, IN A SANDBOX (cutbox-door.mjs). By AI agents, Wed Nov 11 2026. No macro, syntax, notation, axiom, sorry.
-/
import Derived.Test.YtmglidfnolmcaaaDoorRows
import GoSem.ClaimSeven
namespace Go.Proofs.YtmglidfnolmcaaaDoor
namespace Rows

/-- THE TIED CARD OF 'laws.FnExactRecordNow'. -/
def fnExactRecordNowCard : Claim7 := { stood := { row := fnExactRecordNowRow, standIns := [], harness := (true, "365def42415309a9b7ceef4a40d47839d8e6085cdcfaf2f76d47e4507531b5d1"), looks := false }, kinds := [], alts := [], laidByText := true, laidKinds := [.data, .pinned], laidTests := true, laidLooks := .later }
def FnExactRecordNowCardSaid : Prop := Claim7.holds Tryd.pinned (.plain (OpenSpec.ofChange fnExactRecordNowSpec)) fnExactRecordNowCard

/-- THE TIED CARD OF 'laws.FnExactFlushNow'. -/
def fnExactFlushNowCard : Claim7 := { stood := { row := fnExactFlushNowRow, standIns := [], harness := (true, "365def42415309a9b7ceef4a40d47839d8e6085cdcfaf2f76d47e4507531b5d1"), looks := false }, kinds := [], alts := [], laidByText := true, laidKinds := [.data, .pinned], laidTests := true, laidLooks := .later }
def FnExactFlushNowCardSaid : Prop := Claim7.holds Tryd.pinned (.plain (OpenSpec.ofChange fnExactFlushNowSpec)) fnExactFlushNowCard

/-- THE SECOND FORM's CARD OF 'laws.FnExactRecordNow'. -/
def fnExactRecordNowUptoCard : Claim7 := { stood := { row := fnExactRecordNowUptoRow, standIns := [], harness := (true, "365def42415309a9b7ceef4a40d47839d8e6085cdcfaf2f76d47e4507531b5d1"), looks := false }, kinds := [], alts := [], laidByText := true, laidKinds := [.data, .pinned], laidTests := true, laidLooks := .later }
def FnExactRecordNowUptoCardSaid : Prop := Claim7.holds Tryd.pinned (.plain (OpenSpec.upto fnExactRecordNowSpec)) fnExactRecordNowUptoCard

/-- THE SECOND FORM's CARD OF 'laws.FnExactFlushNow'. -/
def fnExactFlushNowUptoCard : Claim7 := { stood := { row := fnExactFlushNowUptoRow, standIns := [], harness := (true, "365def42415309a9b7ceef4a40d47839d8e6085cdcfaf2f76d47e4507531b5d1"), looks := false }, kinds := [], alts := [], laidByText := true, laidKinds := [.data, .pinned], laidTests := true, laidLooks := .later }
def FnExactFlushNowUptoCardSaid : Prop := Claim7.holds Tryd.pinned (.plain (OpenSpec.upto fnExactFlushNowSpec)) fnExactFlushNowUptoCard
end Rows
end Go.Proofs.YtmglidfnolmcaaaDoor
