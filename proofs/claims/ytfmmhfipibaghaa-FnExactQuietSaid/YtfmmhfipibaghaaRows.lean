/-
  No cell of these rows narrows 'for every input' (looked for: loops, veiled, ifaces, maps, wideKeys, modest, calm, conditions, laid).
  DERIVED. THE GIVEN ROWS OF THIS SEAT. 7 by the template 'for every input the law returns true; each argument reads behind the call as it read before'; 0 by the template 'total and deterministic' (their statements: YtfmmhfipibaghaaTotals.lean).
  GIVEN WITH THE SEED: the statements are not yours to turn. If you find one false, say at which input.
  Laid BY PROGRAM, IN A SANDBOX (cutbox-rows.mjs): the forced cells as the released guide's own fill.sh prints them over the translation a91703c904d659c3… (all of the seat's roots in one cut). By AI agents, Wed Nov 11 2026. No macro, syntax, notation, axiom, sorry.
-/
import Derived.Test.YtfmmhfipibaghaaChecked
import GoSem.Claim
import GoSem.ClaimJoined
import GoSem.ClaimMapViews
import Derived.JoinedTies
import Derived.KernelRfl
namespace Go.Proofs.Ytfmmhfipibaghaa
/- THE CELL 'sum', in the pinned program and in every row, IS THE sha256 OF THE DUMP (.gsa) THAT YtfmmhfipibaghaaProg.lean LOADS. Nothing in Lean hashes anything: it is a label: what it is worth is what the hold of that sum in a sandbox is worth. -/
noncomputable def Try.pinned : Pinned := { name := "ytfmmhfipibaghaa", sum := "a91703c904d659c3705f991e12221a865c1933605b753390c8f3ca31ee7eae5c", checked := Try.checked }
namespace Rows
def none {H : Type} : Left H := { results := [], args := [] }

/-- 'laws.FnRows': WHATEVER THE INPUT: true; the input reads as it did. -/
def fnRowsSpec : ChangeSpec := { name := "fnRows", fn := fun _ => fun
  | [d] => { results := [.lit (.bool true)], args := [d] }
  | _ => none }
def fnRowsRow : OpenClaim := { program := "ytfmmhfipibaghaa", sum := "a91703c904d659c3705f991e12221a865c1933605b753390c8f3ca31ee7eae5c", func := "loop.example/g01608/laws.FnRows", spec := "fnRows", apart := false }
def FnRowsSaid : Prop := fnRowsRow.holds Try.pinned (OpenSpec.ofChange fnRowsSpec)

/-- ITS FALSE NEIGHBOUR: 'it returns false'. Refute it at one input. -/
def fnRowsWrong : ChangeSpec := { name := "fnRows", fn := fun _ => fun
  | [d] => { results := [.lit (.bool false)], args := [d] }
  | _ => none }
def FnRowsWrongFalsely : Prop := fnRowsRow.holds Try.pinned (OpenSpec.ofChange fnRowsWrong)

/-- 'laws.FnExactRowOk': WHATEVER THE INPUT: true; the input reads as it did. -/
def fnExactRowOkSpec : ChangeSpec := { name := "fnExactRowOk", fn := fun _ => fun
  | [d] => { results := [.lit (.bool true)], args := [d] }
  | _ => none }
def fnExactRowOkRow : OpenClaim := { program := "ytfmmhfipibaghaa", sum := "a91703c904d659c3705f991e12221a865c1933605b753390c8f3ca31ee7eae5c", func := "loop.example/g01608/laws.FnExactRowOk", spec := "fnExactRowOk", apart := false }
def FnExactRowOkSaid : Prop := fnExactRowOkRow.holds Try.pinned (OpenSpec.ofChange fnExactRowOkSpec)

/-- ITS FALSE NEIGHBOUR: 'it returns false'. Refute it at one input. -/
def fnExactRowOkWrong : ChangeSpec := { name := "fnExactRowOk", fn := fun _ => fun
  | [d] => { results := [.lit (.bool false)], args := [d] }
  | _ => none }
def FnExactRowOkWrongFalsely : Prop := fnExactRowOkRow.holds Try.pinned (OpenSpec.ofChange fnExactRowOkWrong)

/-- 'laws.FnExactQuiet': WHATEVER THE INPUT: true; the input reads as it did. -/
def fnExactQuietSpec : ChangeSpec := { name := "fnExactQuiet", fn := fun _ => fun
  | [d] => { results := [.lit (.bool true)], args := [d] }
  | _ => none }
def fnExactQuietRow : OpenClaim := { program := "ytfmmhfipibaghaa", sum := "a91703c904d659c3705f991e12221a865c1933605b753390c8f3ca31ee7eae5c", func := "loop.example/g01608/laws.FnExactQuiet", spec := "fnExactQuiet", apart := false }
def FnExactQuietSaid : Prop := fnExactQuietRow.holds Try.pinned (OpenSpec.ofChange fnExactQuietSpec)

/-- ITS FALSE NEIGHBOUR: 'it returns false'. Refute it at one input. -/
def fnExactQuietWrong : ChangeSpec := { name := "fnExactQuiet", fn := fun _ => fun
  | [d] => { results := [.lit (.bool false)], args := [d] }
  | _ => none }
def FnExactQuietWrongFalsely : Prop := fnExactQuietRow.holds Try.pinned (OpenSpec.ofChange fnExactQuietWrong)

/-- 'laws.FnExactSampled': WHATEVER THE INPUT: true; the input reads as it did. -/
def fnExactSampledSpec : ChangeSpec := { name := "fnExactSampled", fn := fun _ => fun
  | [d1, d2] => { results := [.lit (.bool true)], args := [d1, d2] }
  | _ => none }
def fnExactSampledRow : OpenClaim := { program := "ytfmmhfipibaghaa", sum := "a91703c904d659c3705f991e12221a865c1933605b753390c8f3ca31ee7eae5c", func := "loop.example/g01608/laws.FnExactSampled", spec := "fnExactSampled", apart := false }
def FnExactSampledSaid : Prop := fnExactSampledRow.holds Try.pinned (OpenSpec.ofChange fnExactSampledSpec)

/-- ITS FALSE NEIGHBOUR: 'it returns false'. Refute it at one input. -/
def fnExactSampledWrong : ChangeSpec := { name := "fnExactSampled", fn := fun _ => fun
  | [d1, d2] => { results := [.lit (.bool false)], args := [d1, d2] }
  | _ => none }
def FnExactSampledWrongFalsely : Prop := fnExactSampledRow.holds Try.pinned (OpenSpec.ofChange fnExactSampledWrong)

/-- 'laws.FnExactCounted': WHATEVER THE INPUT: true; the input reads as it did. -/
def fnExactCountedSpec : ChangeSpec := { name := "fnExactCounted", fn := fun _ => fun
  | [d1, d2] => { results := [.lit (.bool true)], args := [d1, d2] }
  | _ => none }
def fnExactCountedRow : OpenClaim := { program := "ytfmmhfipibaghaa", sum := "a91703c904d659c3705f991e12221a865c1933605b753390c8f3ca31ee7eae5c", func := "loop.example/g01608/laws.FnExactCounted", spec := "fnExactCounted", apart := false }
def FnExactCountedSaid : Prop := fnExactCountedRow.holds Try.pinned (OpenSpec.ofChange fnExactCountedSpec)

/-- ITS FALSE NEIGHBOUR: 'it returns false'. Refute it at one input. -/
def fnExactCountedWrong : ChangeSpec := { name := "fnExactCounted", fn := fun _ => fun
  | [d1, d2] => { results := [.lit (.bool false)], args := [d1, d2] }
  | _ => none }
def FnExactCountedWrongFalsely : Prop := fnExactCountedRow.holds Try.pinned (OpenSpec.ofChange fnExactCountedWrong)

/-- 'laws.FnExactReportOk': WHATEVER THE INPUT: true; the input reads as it did. -/
def fnExactReportOkSpec : ChangeSpec := { name := "fnExactReportOk", fn := fun _ => fun
  | [d] => { results := [.lit (.bool true)], args := [d] }
  | _ => none }
def fnExactReportOkRow : OpenClaim := { program := "ytfmmhfipibaghaa", sum := "a91703c904d659c3705f991e12221a865c1933605b753390c8f3ca31ee7eae5c", func := "loop.example/g01608/laws.FnExactReportOk", spec := "fnExactReportOk", apart := false }
def FnExactReportOkSaid : Prop := fnExactReportOkRow.holds Try.pinned (OpenSpec.ofChange fnExactReportOkSpec)

/-- ITS FALSE NEIGHBOUR: 'it returns false'. Refute it at one input. -/
def fnExactReportOkWrong : ChangeSpec := { name := "fnExactReportOk", fn := fun _ => fun
  | [d] => { results := [.lit (.bool false)], args := [d] }
  | _ => none }
def FnExactReportOkWrongFalsely : Prop := fnExactReportOkRow.holds Try.pinned (OpenSpec.ofChange fnExactReportOkWrong)

/-- 'laws.FnExactSameReport': WHATEVER THE INPUT: true; the input reads as it did. -/
def fnExactSameReportSpec : ChangeSpec := { name := "fnExactSameReport", fn := fun _ => fun
  | [d1, d2] => { results := [.lit (.bool true)], args := [d1, d2] }
  | _ => none }
def fnExactSameReportRow : OpenClaim := { program := "ytfmmhfipibaghaa", sum := "a91703c904d659c3705f991e12221a865c1933605b753390c8f3ca31ee7eae5c", func := "loop.example/g01608/laws.FnExactSameReport", spec := "fnExactSameReport", apart := false }
def FnExactSameReportSaid : Prop := fnExactSameReportRow.holds Try.pinned (OpenSpec.ofChange fnExactSameReportSpec)

/-- ITS FALSE NEIGHBOUR: 'it returns false'. Refute it at one input. -/
def fnExactSameReportWrong : ChangeSpec := { name := "fnExactSameReport", fn := fun _ => fun
  | [d1, d2] => { results := [.lit (.bool false)], args := [d1, d2] }
  | _ => none }
def FnExactSameReportWrongFalsely : Prop := fnExactSameReportRow.holds Try.pinned (OpenSpec.ofChange fnExactSameReportWrong)

/- THE SECOND FORM. 'bulk': how many values and letters a reading holds, each counted each time it is reached (what is shared counts as often as it is met; a slice's spare places count too). A statement '..UptoSaid' is the law's where the arguments, and the package variables that the reading takes, are together of bulk at most 1048576: NARROWER than '..Said'. Prove '..Said' where nothing that the law and all that it calls make is longer than what came in: it says more and counts as full. Else prove '..UptoSaid'. A law counts once. -/
mutual
def uptoBulk {H : Type} : DataW H → Nat
  | .lit (.string bytes) => bytes.length + 1
  | .lit _ => 1
  | .nil => 1
  | .ptr d => uptoBulk d + 1
  | .slice elems spare => uptoBulkAll elems + uptoBulkAll spare + 1
  | .agg parts => uptoBulkAll parts + 1
  | .iface _ d => uptoBulk d + 1
  | .map entries => uptoBulkEntries entries + 1
  | .held _ => 1
def uptoBulkAll {H : Type} : List (DataW H) → Nat
  | [] => 0
  | d :: r => uptoBulk d + uptoBulkAll r
def uptoBulkEntries {H : Type} : List (Lit × DataW H) → Nat
  | [] => 0
  | x :: r => uptoBulkEntry x + uptoBulkEntries r
def uptoBulkEntry {H : Type} : Lit × DataW H → Nat
  | (.string bytes, d) => bytes.length + uptoBulk d + 1
  | (_, d) => uptoBulk d + 1
 end
def uptoSmall : (H : Type) → List (DataW H) → Bool := fun _ ds => decide (uptoBulkAll ds ≤ 1048576)
def OpenSpec.upto (s : _root_.Go.ChangeSpec) : _root_.Go.OpenSpec := { _root_.Go.OpenSpec.ofChange s with cond := some uptoSmall }

/-- 'laws.FnRows', WHERE WHAT IT READS IS OF BULK AT MOST 1048576: true; the input reads as it did. -/
def fnRowsUptoRow : OpenClaim := { program := "ytfmmhfipibaghaa", sum := "a91703c904d659c3705f991e12221a865c1933605b753390c8f3ca31ee7eae5c", func := "loop.example/g01608/laws.FnRows", spec := "fnRows", apart := false, narrowed := true }
def FnRowsUptoSaid : Prop := fnRowsUptoRow.holds Try.pinned (OpenSpec.upto fnRowsSpec)

/-- 'laws.FnExactRowOk', WHERE WHAT IT READS IS OF BULK AT MOST 1048576: true; the input reads as it did. -/
def fnExactRowOkUptoRow : OpenClaim := { program := "ytfmmhfipibaghaa", sum := "a91703c904d659c3705f991e12221a865c1933605b753390c8f3ca31ee7eae5c", func := "loop.example/g01608/laws.FnExactRowOk", spec := "fnExactRowOk", apart := false, narrowed := true }
def FnExactRowOkUptoSaid : Prop := fnExactRowOkUptoRow.holds Try.pinned (OpenSpec.upto fnExactRowOkSpec)

/-- 'laws.FnExactQuiet', WHERE WHAT IT READS IS OF BULK AT MOST 1048576: true; the input reads as it did. -/
def fnExactQuietUptoRow : OpenClaim := { program := "ytfmmhfipibaghaa", sum := "a91703c904d659c3705f991e12221a865c1933605b753390c8f3ca31ee7eae5c", func := "loop.example/g01608/laws.FnExactQuiet", spec := "fnExactQuiet", apart := false, narrowed := true }
def FnExactQuietUptoSaid : Prop := fnExactQuietUptoRow.holds Try.pinned (OpenSpec.upto fnExactQuietSpec)

/-- 'laws.FnExactSampled', WHERE WHAT IT READS IS OF BULK AT MOST 1048576: true; the input reads as it did. -/
def fnExactSampledUptoRow : OpenClaim := { program := "ytfmmhfipibaghaa", sum := "a91703c904d659c3705f991e12221a865c1933605b753390c8f3ca31ee7eae5c", func := "loop.example/g01608/laws.FnExactSampled", spec := "fnExactSampled", apart := false, narrowed := true }
def FnExactSampledUptoSaid : Prop := fnExactSampledUptoRow.holds Try.pinned (OpenSpec.upto fnExactSampledSpec)

/-- 'laws.FnExactCounted', WHERE WHAT IT READS IS OF BULK AT MOST 1048576: true; the input reads as it did. -/
def fnExactCountedUptoRow : OpenClaim := { program := "ytfmmhfipibaghaa", sum := "a91703c904d659c3705f991e12221a865c1933605b753390c8f3ca31ee7eae5c", func := "loop.example/g01608/laws.FnExactCounted", spec := "fnExactCounted", apart := false, narrowed := true }
def FnExactCountedUptoSaid : Prop := fnExactCountedUptoRow.holds Try.pinned (OpenSpec.upto fnExactCountedSpec)

/-- 'laws.FnExactReportOk', WHERE WHAT IT READS IS OF BULK AT MOST 1048576: true; the input reads as it did. -/
def fnExactReportOkUptoRow : OpenClaim := { program := "ytfmmhfipibaghaa", sum := "a91703c904d659c3705f991e12221a865c1933605b753390c8f3ca31ee7eae5c", func := "loop.example/g01608/laws.FnExactReportOk", spec := "fnExactReportOk", apart := false, narrowed := true }
def FnExactReportOkUptoSaid : Prop := fnExactReportOkUptoRow.holds Try.pinned (OpenSpec.upto fnExactReportOkSpec)

/-- 'laws.FnExactSameReport', WHERE WHAT IT READS IS OF BULK AT MOST 1048576: true; the input reads as it did. -/
def fnExactSameReportUptoRow : OpenClaim := { program := "ytfmmhfipibaghaa", sum := "a91703c904d659c3705f991e12221a865c1933605b753390c8f3ca31ee7eae5c", func := "loop.example/g01608/laws.FnExactSameReport", spec := "fnExactSameReport", apart := false, narrowed := true }
def FnExactSameReportUptoSaid : Prop := fnExactSameReportUptoRow.holds Try.pinned (OpenSpec.upto fnExactSameReportSpec)

end Rows
end Go.Proofs.Ytfmmhfipibaghaa
