/-
  No cell of these rows narrows 'for every input' (looked for: loops, veiled, ifaces, maps, wideKeys, modest, calm, conditions, laid).
  DERIVED. THE GIVEN ROWS OF THIS SEAT. 8 by the template 'for every input the law returns true; each argument reads behind the call as it read before'; 0 by the template 'total and deterministic' (their statements: YtdefhiblbahhnaaTotals.lean).
  GIVEN WITH THE SEED: the statements are not yours to turn. If you find one false, say at which input.
  Laid BY PROGRAM, IN A SANDBOX (cutbox-rows.mjs): the forced cells as the released guide's own fill.sh prints them over the translation ffa5b73641765e8b… (all of the seat's roots in one cut). By AI agents, Wed Nov 11 2026. No macro, syntax, notation, axiom, sorry.
-/
import Derived.Test.YtdefhiblbahhnaaChecked
import GoSem.Claim
import GoSem.ClaimJoined
import GoSem.ClaimMapViews
import Derived.JoinedTies
import Derived.KernelRfl
namespace Go.Proofs.Ytdefhiblbahhnaa
/- THE CELL 'sum', in the pinned program and in every row, IS THE sha256 OF THE DUMP (.gsa) THAT YtdefhiblbahhnaaProg.lean LOADS. Nothing in Lean hashes anything: it is a label: what it is worth is what the hold of that sum in a sandbox is worth. -/
noncomputable def Try.pinned : Pinned := { name := "ytdefhiblbahhnaa", sum := "ffa5b73641765e8bd51574fa8e82fe8bd97e77f98d5dd9be6c798464d9bea946", checked := Try.checked }
namespace Rows
def none {H : Type} : Left H := { results := [], args := [] }

/-- 'laws.FnExactInCell': WHATEVER THE INPUT: true; the input reads as it did. -/
def fnExactInCellSpec : ChangeSpec := { name := "fnExactInCell", fn := fun _ => fun
  | [d] => { results := [.lit (.bool true)], args := [d] }
  | _ => none }
def fnExactInCellRow : OpenClaim := { program := "ytdefhiblbahhnaa", sum := "ffa5b73641765e8bd51574fa8e82fe8bd97e77f98d5dd9be6c798464d9bea946", func := "loop.example/g01608/laws.FnExactInCell", spec := "fnExactInCell", apart := false }
def FnExactInCellSaid : Prop := fnExactInCellRow.holds Try.pinned (OpenSpec.ofChange fnExactInCellSpec)

/-- ITS FALSE NEIGHBOUR: 'it returns false'. Refute it at one input. -/
def fnExactInCellWrong : ChangeSpec := { name := "fnExactInCell", fn := fun _ => fun
  | [d] => { results := [.lit (.bool false)], args := [d] }
  | _ => none }
def FnExactInCellWrongFalsely : Prop := fnExactInCellRow.holds Try.pinned (OpenSpec.ofChange fnExactInCellWrong)

/-- 'laws.FnExactKeyCell': WHATEVER THE INPUT: true; the input reads as it did. -/
def fnExactKeyCellSpec : ChangeSpec := { name := "fnExactKeyCell", fn := fun _ => fun
  | [d] => { results := [.lit (.bool true)], args := [d] }
  | _ => none }
def fnExactKeyCellRow : OpenClaim := { program := "ytdefhiblbahhnaa", sum := "ffa5b73641765e8bd51574fa8e82fe8bd97e77f98d5dd9be6c798464d9bea946", func := "loop.example/g01608/laws.FnExactKeyCell", spec := "fnExactKeyCell", apart := false }
def FnExactKeyCellSaid : Prop := fnExactKeyCellRow.holds Try.pinned (OpenSpec.ofChange fnExactKeyCellSpec)

/-- ITS FALSE NEIGHBOUR: 'it returns false'. Refute it at one input. -/
def fnExactKeyCellWrong : ChangeSpec := { name := "fnExactKeyCell", fn := fun _ => fun
  | [d] => { results := [.lit (.bool false)], args := [d] }
  | _ => none }
def FnExactKeyCellWrongFalsely : Prop := fnExactKeyCellRow.holds Try.pinned (OpenSpec.ofChange fnExactKeyCellWrong)

/-- 'laws.FnExactSlotBase': WHATEVER THE INPUT: true; the input reads as it did. -/
def fnExactSlotBaseSpec : ChangeSpec := { name := "fnExactSlotBase", fn := fun _ => fun
  | [d1, d2] => { results := [.lit (.bool true)], args := [d1, d2] }
  | _ => none }
def fnExactSlotBaseRow : OpenClaim := { program := "ytdefhiblbahhnaa", sum := "ffa5b73641765e8bd51574fa8e82fe8bd97e77f98d5dd9be6c798464d9bea946", func := "loop.example/g01608/laws.FnExactSlotBase", spec := "fnExactSlotBase", apart := false }
def FnExactSlotBaseSaid : Prop := fnExactSlotBaseRow.holds Try.pinned (OpenSpec.ofChange fnExactSlotBaseSpec)

/-- ITS FALSE NEIGHBOUR: 'it returns false'. Refute it at one input. -/
def fnExactSlotBaseWrong : ChangeSpec := { name := "fnExactSlotBase", fn := fun _ => fun
  | [d1, d2] => { results := [.lit (.bool false)], args := [d1, d2] }
  | _ => none }
def FnExactSlotBaseWrongFalsely : Prop := fnExactSlotBaseRow.holds Try.pinned (OpenSpec.ofChange fnExactSlotBaseWrong)

/-- 'laws.FnExactStripeCell': WHATEVER THE INPUT: true; the input reads as it did. -/
def fnExactStripeCellSpec : ChangeSpec := { name := "fnExactStripeCell", fn := fun _ => fun
  | [d1, d2, d3] => { results := [.lit (.bool true)], args := [d1, d2, d3] }
  | _ => none }
def fnExactStripeCellRow : OpenClaim := { program := "ytdefhiblbahhnaa", sum := "ffa5b73641765e8bd51574fa8e82fe8bd97e77f98d5dd9be6c798464d9bea946", func := "loop.example/g01608/laws.FnExactStripeCell", spec := "fnExactStripeCell", apart := false }
def FnExactStripeCellSaid : Prop := fnExactStripeCellRow.holds Try.pinned (OpenSpec.ofChange fnExactStripeCellSpec)

/-- ITS FALSE NEIGHBOUR: 'it returns false'. Refute it at one input. -/
def fnExactStripeCellWrong : ChangeSpec := { name := "fnExactStripeCell", fn := fun _ => fun
  | [d1, d2, d3] => { results := [.lit (.bool false)], args := [d1, d2, d3] }
  | _ => none }
def FnExactStripeCellWrongFalsely : Prop := fnExactStripeCellRow.holds Try.pinned (OpenSpec.ofChange fnExactStripeCellWrong)

/-- 'laws.FnExactStampCell': WHATEVER THE INPUT: true; the input reads as it did. -/
def fnExactStampCellSpec : ChangeSpec := { name := "fnExactStampCell", fn := fun _ => fun
  | [d1, d2] => { results := [.lit (.bool true)], args := [d1, d2] }
  | _ => none }
def fnExactStampCellRow : OpenClaim := { program := "ytdefhiblbahhnaa", sum := "ffa5b73641765e8bd51574fa8e82fe8bd97e77f98d5dd9be6c798464d9bea946", func := "loop.example/g01608/laws.FnExactStampCell", spec := "fnExactStampCell", apart := false }
def FnExactStampCellSaid : Prop := fnExactStampCellRow.holds Try.pinned (OpenSpec.ofChange fnExactStampCellSpec)

/-- ITS FALSE NEIGHBOUR: 'it returns false'. Refute it at one input. -/
def fnExactStampCellWrong : ChangeSpec := { name := "fnExactStampCell", fn := fun _ => fun
  | [d1, d2] => { results := [.lit (.bool false)], args := [d1, d2] }
  | _ => none }
def FnExactStampCellWrongFalsely : Prop := fnExactStampCellRow.holds Try.pinned (OpenSpec.ofChange fnExactStampCellWrong)

/-- 'laws.FnExactGaugeCell': WHATEVER THE INPUT: true; the input reads as it did. -/
def fnExactGaugeCellSpec : ChangeSpec := { name := "fnExactGaugeCell", fn := fun _ => fun
  | [d1, d2] => { results := [.lit (.bool true)], args := [d1, d2] }
  | _ => none }
def fnExactGaugeCellRow : OpenClaim := { program := "ytdefhiblbahhnaa", sum := "ffa5b73641765e8bd51574fa8e82fe8bd97e77f98d5dd9be6c798464d9bea946", func := "loop.example/g01608/laws.FnExactGaugeCell", spec := "fnExactGaugeCell", apart := false }
def FnExactGaugeCellSaid : Prop := fnExactGaugeCellRow.holds Try.pinned (OpenSpec.ofChange fnExactGaugeCellSpec)

/-- ITS FALSE NEIGHBOUR: 'it returns false'. Refute it at one input. -/
def fnExactGaugeCellWrong : ChangeSpec := { name := "fnExactGaugeCell", fn := fun _ => fun
  | [d1, d2] => { results := [.lit (.bool false)], args := [d1, d2] }
  | _ => none }
def FnExactGaugeCellWrongFalsely : Prop := fnExactGaugeCellRow.holds Try.pinned (OpenSpec.ofChange fnExactGaugeCellWrong)

/-- 'laws.FnExactTicketCell': WHATEVER THE INPUT: true; the input reads as it did. -/
def fnExactTicketCellSpec : ChangeSpec := { name := "fnExactTicketCell", fn := fun _ => fun
  | [d1, d2] => { results := [.lit (.bool true)], args := [d1, d2] }
  | _ => none }
def fnExactTicketCellRow : OpenClaim := { program := "ytdefhiblbahhnaa", sum := "ffa5b73641765e8bd51574fa8e82fe8bd97e77f98d5dd9be6c798464d9bea946", func := "loop.example/g01608/laws.FnExactTicketCell", spec := "fnExactTicketCell", apart := false }
def FnExactTicketCellSaid : Prop := fnExactTicketCellRow.holds Try.pinned (OpenSpec.ofChange fnExactTicketCellSpec)

/-- ITS FALSE NEIGHBOUR: 'it returns false'. Refute it at one input. -/
def fnExactTicketCellWrong : ChangeSpec := { name := "fnExactTicketCell", fn := fun _ => fun
  | [d1, d2] => { results := [.lit (.bool false)], args := [d1, d2] }
  | _ => none }
def FnExactTicketCellWrongFalsely : Prop := fnExactTicketCellRow.holds Try.pinned (OpenSpec.ofChange fnExactTicketCellWrong)

/-- 'laws.FnExactRingCell': WHATEVER THE INPUT: true; the input reads as it did. -/
def fnExactRingCellSpec : ChangeSpec := { name := "fnExactRingCell", fn := fun _ => fun
  | [d1, d2, d3] => { results := [.lit (.bool true)], args := [d1, d2, d3] }
  | _ => none }
def fnExactRingCellRow : OpenClaim := { program := "ytdefhiblbahhnaa", sum := "ffa5b73641765e8bd51574fa8e82fe8bd97e77f98d5dd9be6c798464d9bea946", func := "loop.example/g01608/laws.FnExactRingCell", spec := "fnExactRingCell", apart := false }
def FnExactRingCellSaid : Prop := fnExactRingCellRow.holds Try.pinned (OpenSpec.ofChange fnExactRingCellSpec)

/-- ITS FALSE NEIGHBOUR: 'it returns false'. Refute it at one input. -/
def fnExactRingCellWrong : ChangeSpec := { name := "fnExactRingCell", fn := fun _ => fun
  | [d1, d2, d3] => { results := [.lit (.bool false)], args := [d1, d2, d3] }
  | _ => none }
def FnExactRingCellWrongFalsely : Prop := fnExactRingCellRow.holds Try.pinned (OpenSpec.ofChange fnExactRingCellWrong)

/- THE SECOND FORM. 'bulk': how many values and letters a reading holds, each counted each time it is reached (what is shared counts as often as it is met; a slice's spare places count too). A statement '..UptoSaid' is the law's where the arguments, and the package variables that the reading takes, are together of bulk at most 1048576: NARROWER than '..Said'. Prove '..Said' where nothing that the law and all that it calls make is longer than what came in: it says more and counts as full. Else prove '..UptoSaid'. A law counts once. -/
mutual
def uptoBulk {H : Type} : DataW H → Nat
  | .lit (.string bytes) => bytes.length + 1
  | .lit _ => 1
  | .nil => 1
  | .ptr d => uptoBulk d + 1
  | .slice elems spare => uptoBulkAll elems + uptoBulkAll spare + 1
  | .agg parts => uptoBulkAll parts + 1
  | .iface _ d => uptoBulk d + 1
  | .map entries => uptoBulkEntries entries + 1
  | .held _ => 1
def uptoBulkAll {H : Type} : List (DataW H) → Nat
  | [] => 0
  | d :: r => uptoBulk d + uptoBulkAll r
def uptoBulkEntries {H : Type} : List (Lit × DataW H) → Nat
  | [] => 0
  | x :: r => uptoBulkEntry x + uptoBulkEntries r
def uptoBulkEntry {H : Type} : Lit × DataW H → Nat
  | (.string bytes, d) => bytes.length + uptoBulk d + 1
  | (_, d) => uptoBulk d + 1
 end
def uptoSmall : (H : Type) → List (DataW H) → Bool := fun _ ds => decide (uptoBulkAll ds ≤ 1048576)
def OpenSpec.upto (s : _root_.Go.ChangeSpec) : _root_.Go.OpenSpec := { _root_.Go.OpenSpec.ofChange s with cond := some uptoSmall }

/-- 'laws.FnExactInCell', WHERE WHAT IT READS IS OF BULK AT MOST 1048576: true; the input reads as it did. -/
def fnExactInCellUptoRow : OpenClaim := { program := "ytdefhiblbahhnaa", sum := "ffa5b73641765e8bd51574fa8e82fe8bd97e77f98d5dd9be6c798464d9bea946", func := "loop.example/g01608/laws.FnExactInCell", spec := "fnExactInCell", apart := false, narrowed := true }
def FnExactInCellUptoSaid : Prop := fnExactInCellUptoRow.holds Try.pinned (OpenSpec.upto fnExactInCellSpec)

/-- 'laws.FnExactKeyCell', WHERE WHAT IT READS IS OF BULK AT MOST 1048576: true; the input reads as it did. -/
def fnExactKeyCellUptoRow : OpenClaim := { program := "ytdefhiblbahhnaa", sum := "ffa5b73641765e8bd51574fa8e82fe8bd97e77f98d5dd9be6c798464d9bea946", func := "loop.example/g01608/laws.FnExactKeyCell", spec := "fnExactKeyCell", apart := false, narrowed := true }
def FnExactKeyCellUptoSaid : Prop := fnExactKeyCellUptoRow.holds Try.pinned (OpenSpec.upto fnExactKeyCellSpec)

/-- 'laws.FnExactSlotBase', WHERE WHAT IT READS IS OF BULK AT MOST 1048576: true; the input reads as it did. -/
def fnExactSlotBaseUptoRow : OpenClaim := { program := "ytdefhiblbahhnaa", sum := "ffa5b73641765e8bd51574fa8e82fe8bd97e77f98d5dd9be6c798464d9bea946", func := "loop.example/g01608/laws.FnExactSlotBase", spec := "fnExactSlotBase", apart := false, narrowed := true }
def FnExactSlotBaseUptoSaid : Prop := fnExactSlotBaseUptoRow.holds Try.pinned (OpenSpec.upto fnExactSlotBaseSpec)

/-- 'laws.FnExactStripeCell', WHERE WHAT IT READS IS OF BULK AT MOST 1048576: true; the input reads as it did. -/
def fnExactStripeCellUptoRow : OpenClaim := { program := "ytdefhiblbahhnaa", sum := "ffa5b73641765e8bd51574fa8e82fe8bd97e77f98d5dd9be6c798464d9bea946", func := "loop.example/g01608/laws.FnExactStripeCell", spec := "fnExactStripeCell", apart := false, narrowed := true }
def FnExactStripeCellUptoSaid : Prop := fnExactStripeCellUptoRow.holds Try.pinned (OpenSpec.upto fnExactStripeCellSpec)

/-- 'laws.FnExactStampCell', WHERE WHAT IT READS IS OF BULK AT MOST 1048576: true; the input reads as it did. -/
def fnExactStampCellUptoRow : OpenClaim := { program := "ytdefhiblbahhnaa", sum := "ffa5b73641765e8bd51574fa8e82fe8bd97e77f98d5dd9be6c798464d9bea946", func := "loop.example/g01608/laws.FnExactStampCell", spec := "fnExactStampCell", apart := false, narrowed := true }
def FnExactStampCellUptoSaid : Prop := fnExactStampCellUptoRow.holds Try.pinned (OpenSpec.upto fnExactStampCellSpec)

/-- 'laws.FnExactGaugeCell', WHERE WHAT IT READS IS OF BULK AT MOST 1048576: true; the input reads as it did. -/
def fnExactGaugeCellUptoRow : OpenClaim := { program := "ytdefhiblbahhnaa", sum := "ffa5b73641765e8bd51574fa8e82fe8bd97e77f98d5dd9be6c798464d9bea946", func := "loop.example/g01608/laws.FnExactGaugeCell", spec := "fnExactGaugeCell", apart := false, narrowed := true }
def FnExactGaugeCellUptoSaid : Prop := fnExactGaugeCellUptoRow.holds Try.pinned (OpenSpec.upto fnExactGaugeCellSpec)

/-- 'laws.FnExactTicketCell', WHERE WHAT IT READS IS OF BULK AT MOST 1048576: true; the input reads as it did. -/
def fnExactTicketCellUptoRow : OpenClaim := { program := "ytdefhiblbahhnaa", sum := "ffa5b73641765e8bd51574fa8e82fe8bd97e77f98d5dd9be6c798464d9bea946", func := "loop.example/g01608/laws.FnExactTicketCell", spec := "fnExactTicketCell", apart := false, narrowed := true }
def FnExactTicketCellUptoSaid : Prop := fnExactTicketCellUptoRow.holds Try.pinned (OpenSpec.upto fnExactTicketCellSpec)

/-- 'laws.FnExactRingCell', WHERE WHAT IT READS IS OF BULK AT MOST 1048576: true; the input reads as it did. -/
def fnExactRingCellUptoRow : OpenClaim := { program := "ytdefhiblbahhnaa", sum := "ffa5b73641765e8bd51574fa8e82fe8bd97e77f98d5dd9be6c798464d9bea946", func := "loop.example/g01608/laws.FnExactRingCell", spec := "fnExactRingCell", apart := false, narrowed := true }
def FnExactRingCellUptoSaid : Prop := fnExactRingCellUptoRow.holds Try.pinned (OpenSpec.upto fnExactRingCellSpec)

end Rows
end Go.Proofs.Ytdefhiblbahhnaa
