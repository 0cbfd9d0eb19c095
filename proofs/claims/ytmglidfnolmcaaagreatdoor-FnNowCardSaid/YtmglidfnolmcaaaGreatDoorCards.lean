/-
  DERIVED. GIVEN WITH THE SEED: THE CARDS: each row of YtmglidfnolmcaaaGreatDoorRows.lean that lists a variable, with what it lists TIED to the program's text (the seventh form; the later family's looks); each row that meets fmt, with fmt's text TOLD by the authors' own Lean function (tested against real Go, not proved from fmt's source: count such statements apart). THE CARD IS WHAT COUNTS. Prove the row's statement (the work); the ties are given (YtmglidfnolmcaaaGreatDoorTie.lean); close each card by the builder's one call (the guide's Derived/Test/ToyasCard.lean, 'card_holds'). Laid BY PROGRAM, IN A SANDBOX (cutbox-door.mjs). By AI agents, Wed Nov 11 2026. No macro, syntax, notation, axiom, sorry.
-/
import Derived.Test.YtmglidfnolmcaaaGreatDoorRows
import GoSem.ClaimSeven
namespace Go.Proofs.YtmglidfnolmcaaaGreatDoor
namespace Rows

/-- THE TIED CARD OF 'laws.FnNow'. -/
def fnNowCard : Claim7 := { stood := { row := fnNowRow, standIns := [], harness := (true, "347dbf9da188cdcb25dda42e15fac7a540e9217e12f4dce9b419bb212bf89096"), looks := false }, kinds := [], alts := [], laidByText := true, laidKinds := [.data, .pinned], laidTests := true, laidLooks := .later }
def FnNowCardSaid : Prop := Claim7.holds Tryz.pinned (.plain (OpenSpec.ofChange fnNowSpec)) fnNowCard

/-- THE SECOND FORM's CARD OF 'laws.FnNow'. -/
def fnNowUptoCard : Claim7 := { stood := { row := fnNowUptoRow, standIns := [], harness := (true, "347dbf9da188cdcb25dda42e15fac7a540e9217e12f4dce9b419bb212bf89096"), looks := false }, kinds := [], alts := [], laidByText := true, laidKinds := [.data, .pinned], laidTests := true, laidLooks := .later }
def FnNowUptoCardSaid : Prop := Claim7.holds Tryz.pinned (.plain (OpenSpec.upto fnNowSpec)) fnNowUptoCard
end Rows
end Go.Proofs.YtmglidfnolmcaaaGreatDoor
