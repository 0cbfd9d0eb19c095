/-
  DERIVED. GIVEN WITH THE SEED: THE CARDS: each row of YtcgjbfalandffaaDoorRows.lean that lists a variable, with what it lists TIED to the program's text (the seventh form; the later family's looks); each row that meets fmt, with fmt's text TOLD by the authors' own Lean function (tested against real Go, not proved from fmt's source: count such statements apart). THE CARD IS WHAT COUNTS. Prove the row's statement (the work); the ties are given (YtcgjbfalandffaaDoorTie.lean); close each card by the builder's one call (the guide's Derived/Test/ToyasCard.lean, 'card_holds'). Laid BY PROGRAM, IN A SANDBOX (cutbox-door.mjs). By AI agents, Wed Nov 11 2026. No macro, syntax, notation, axiom, sorry.
-/
import Derived.Test.YtcgjbfalandffaaDoorRows
import GoSem.ClaimSeven
namespace Go.Proofs.YtcgjbfalandffaaDoor
namespace Rows

/-- THE TIED CARD OF 'laws.FnTags'. -/
def fnTagsCard : Claim7 := { stood := { row := fnTagsRow, standIns := [], harness := (true, "8750c0fcfcaa199eb61d5911a38658ff6ffa7a87ae981523ae8d99994d209fa2"), looks := false }, kinds := [], alts := [], laidByText := true, laidKinds := [.data, .pinned], laidTests := true, laidLooks := .later }
def FnTagsCardSaid : Prop := Claim7.holds Tryd.pinned (.plain (OpenSpec.ofChange fnTagsSpec)) fnTagsCard

/-- THE TIED CARD OF 'laws.FnExactUntag'. -/
def fnExactUntagCard : Claim7 := { stood := { row := fnExactUntagRow, standIns := [], harness := (true, "8750c0fcfcaa199eb61d5911a38658ff6ffa7a87ae981523ae8d99994d209fa2"), looks := false }, kinds := [], alts := [], laidByText := true, laidKinds := [.data, .pinned], laidTests := true, laidLooks := .later }
def FnExactUntagCardSaid : Prop := Claim7.holds Tryd.pinned (.plain (OpenSpec.ofChange fnExactUntagSpec)) fnExactUntagCard

/-- THE SECOND FORM's CARD OF 'laws.FnTags'. -/
def fnTagsUptoCard : Claim7 := { stood := { row := fnTagsUptoRow, standIns := [], harness := (true, "8750c0fcfcaa199eb61d5911a38658ff6ffa7a87ae981523ae8d99994d209fa2"), looks := false }, kinds := [], alts := [], laidByText := true, laidKinds := [.data, .pinned], laidTests := true, laidLooks := .later }
def FnTagsUptoCardSaid : Prop := Claim7.holds Tryd.pinned (.plain (OpenSpec.upto fnTagsSpec)) fnTagsUptoCard

/-- THE SECOND FORM's CARD OF 'laws.FnExactUntag'. -/
def fnExactUntagUptoCard : Claim7 := { stood := { row := fnExactUntagUptoRow, standIns := [], harness := (true, "8750c0fcfcaa199eb61d5911a38658ff6ffa7a87ae981523ae8d99994d209fa2"), looks := false }, kinds := [], alts := [], laidByText := true, laidKinds := [.data, .pinned], laidTests := true, laidLooks := .later }
def FnExactUntagUptoCardSaid : Prop := Claim7.holds Tryd.pinned (.plain (OpenSpec.upto fnExactUntagSpec)) fnExactUntagUptoCard
end Rows
end Go.Proofs.YtcgjbfalandffaaDoor
