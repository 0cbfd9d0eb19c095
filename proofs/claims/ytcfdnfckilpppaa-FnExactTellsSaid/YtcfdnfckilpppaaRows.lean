/-
  No cell of these rows narrows 'for every input' (looked for: loops, veiled, ifaces, maps, wideKeys, modest, calm, conditions, laid).
  DERIVED. THE GIVEN ROWS OF THIS SEAT. 3 by the template 'for every input the law returns true; each argument reads behind the call as it read before'; 0 by the template 'total and deterministic' (their statements: YtcfdnfckilpppaaTotals.lean).
  GIVEN WITH THE SEED: the statements are not yours to turn. If you find one false, say at which input.
  Laid BY PROGRAM, IN A SANDBOX (cutbox-rows.mjs): the forced cells as the released guide's own fill.sh prints them over the translation 0728ad9a6d6303fc… (all of the seat's roots in one cut). By AI agents, Wed Nov 11 2026. No macro, syntax, notation, axiom, sorry.
-/
import Derived.Test.YtcfdnfckilpppaaChecked
import GoSem.Claim
import GoSem.ClaimJoined
import GoSem.ClaimMapViews
import Derived.JoinedTies
import Derived.KernelRfl
namespace Go.Proofs.Ytcfdnfckilpppaa
/- THE CELL 'sum', in the pinned program and in every row, IS THE sha256 OF THE DUMP (.gsa) THAT YtcfdnfckilpppaaProg.lean LOADS. Nothing in Lean hashes anything: it is a label: what it is worth is what the hold of that sum in a sandbox is worth. -/
noncomputable def Try.pinned : Pinned := { name := "ytcfdnfckilpppaa", sum := "0728ad9a6d6303fcfeba52aa7cab870b47b29b2d608a7a4df092952b75ebdbbf", checked := Try.checked }
namespace Rows
def none {H : Type} : Left H := { results := [], args := [] }

/-- 'laws.FnExactTells': WHATEVER THE INPUT: true; the input reads as it did. -/
def fnExactTellsSpec : ChangeSpec := { name := "fnExactTells", fn := fun _ => fun
  | [d] => { results := [.lit (.bool true)], args := [d] }
  | _ => none }
def fnExactTellsRow : OpenClaim := { program := "ytcfdnfckilpppaa", sum := "0728ad9a6d6303fcfeba52aa7cab870b47b29b2d608a7a4df092952b75ebdbbf", func := "loop.example/g01608/laws.FnExactTells", spec := "fnExactTells", apart := false }
def FnExactTellsSaid : Prop := fnExactTellsRow.holds Try.pinned (OpenSpec.ofChange fnExactTellsSpec)

/-- ITS FALSE NEIGHBOUR: 'it returns false'. Refute it at one input. -/
def fnExactTellsWrong : ChangeSpec := { name := "fnExactTells", fn := fun _ => fun
  | [d] => { results := [.lit (.bool false)], args := [d] }
  | _ => none }
def FnExactTellsWrongFalsely : Prop := fnExactTellsRow.holds Try.pinned (OpenSpec.ofChange fnExactTellsWrong)

/-- 'laws.FnExactAmong': WHATEVER THE INPUT: true; the input reads as it did. -/
def fnExactAmongSpec : ChangeSpec := { name := "fnExactAmong", fn := fun _ => fun
  | [d1, d2] => { results := [.lit (.bool true)], args := [d1, d2] }
  | _ => none }
def fnExactAmongRow : OpenClaim := { program := "ytcfdnfckilpppaa", sum := "0728ad9a6d6303fcfeba52aa7cab870b47b29b2d608a7a4df092952b75ebdbbf", func := "loop.example/g01608/laws.FnExactAmong", spec := "fnExactAmong", apart := false }
def FnExactAmongSaid : Prop := fnExactAmongRow.holds Try.pinned (OpenSpec.ofChange fnExactAmongSpec)

/-- ITS FALSE NEIGHBOUR: 'it returns false'. Refute it at one input. -/
def fnExactAmongWrong : ChangeSpec := { name := "fnExactAmong", fn := fun _ => fun
  | [d1, d2] => { results := [.lit (.bool false)], args := [d1, d2] }
  | _ => none }
def FnExactAmongWrongFalsely : Prop := fnExactAmongRow.holds Try.pinned (OpenSpec.ofChange fnExactAmongWrong)

/-- 'laws.FnExactReports': WHATEVER THE INPUT: true; the input reads as it did. -/
def fnExactReportsSpec : ChangeSpec := { name := "fnExactReports", fn := fun _ => fun
  | [d] => { results := [.lit (.bool true)], args := [d] }
  | _ => none }
def fnExactReportsRow : OpenClaim := { program := "ytcfdnfckilpppaa", sum := "0728ad9a6d6303fcfeba52aa7cab870b47b29b2d608a7a4df092952b75ebdbbf", func := "loop.example/g01608/laws.FnExactReports", spec := "fnExactReports", apart := false }
def FnExactReportsSaid : Prop := fnExactReportsRow.holds Try.pinned (OpenSpec.ofChange fnExactReportsSpec)

/-- ITS FALSE NEIGHBOUR: 'it returns false'. Refute it at one input. -/
def fnExactReportsWrong : ChangeSpec := { name := "fnExactReports", fn := fun _ => fun
  | [d] => { results := [.lit (.bool false)], args := [d] }
  | _ => none }
def FnExactReportsWrongFalsely : Prop := fnExactReportsRow.holds Try.pinned (OpenSpec.ofChange fnExactReportsWrong)

/- THE SECOND FORM. 'bulk': how many values and letters a reading holds, each counted each time it is reached (what is shared counts as often as it is met; a slice's spare places count too). A statement '..UptoSaid' is the law's where the arguments, and the package variables that the reading takes, are together of bulk at most 1048576: NARROWER than '..Said'. Prove '..Said' where nothing that the law and all that it calls make is longer than what came in: it says more and counts as full. Else prove '..UptoSaid'. A law counts once. -/
mutual
def uptoBulk {H : Type} : DataW H → Nat
  | .lit (.string bytes) => bytes.length + 1
  | .lit _ => 1
  | .nil => 1
  | .ptr d => uptoBulk d + 1
  | .slice elems spare => uptoBulkAll elems + uptoBulkAll spare + 1
  | .agg parts => uptoBulkAll parts + 1
  | .iface _ d => uptoBulk d + 1
  | .map entries => uptoBulkEntries entries + 1
  | .held _ => 1
def uptoBulkAll {H : Type} : List (DataW H) → Nat
  | [] => 0
  | d :: r => uptoBulk d + uptoBulkAll r
def uptoBulkEntries {H : Type} : List (Lit × DataW H) → Nat
  | [] => 0
  | x :: r => uptoBulkEntry x + uptoBulkEntries r
def uptoBulkEntry {H : Type} : Lit × DataW H → Nat
  | (.string bytes, d) => bytes.length + uptoBulk d + 1
  | (_, d) => uptoBulk d + 1
 end
def uptoSmall : (H : Type) → List (DataW H) → Bool := fun _ ds => decide (uptoBulkAll ds ≤ 1048576)
def OpenSpec.upto (s : _root_.Go.ChangeSpec) : _root_.Go.OpenSpec := { _root_.Go.OpenSpec.ofChange s with cond := some uptoSmall }

/-- 'laws.FnExactTells', WHERE WHAT IT READS IS OF BULK AT MOST 1048576: true; the input reads as it did. -/
def fnExactTellsUptoRow : OpenClaim := { program := "ytcfdnfckilpppaa", sum := "0728ad9a6d6303fcfeba52aa7cab870b47b29b2d608a7a4df092952b75ebdbbf", func := "loop.example/g01608/laws.FnExactTells", spec := "fnExactTells", apart := false, narrowed := true }
def FnExactTellsUptoSaid : Prop := fnExactTellsUptoRow.holds Try.pinned (OpenSpec.upto fnExactTellsSpec)

/-- 'laws.FnExactAmong', WHERE WHAT IT READS IS OF BULK AT MOST 1048576: true; the input reads as it did. -/
def fnExactAmongUptoRow : OpenClaim := { program := "ytcfdnfckilpppaa", sum := "0728ad9a6d6303fcfeba52aa7cab870b47b29b2d608a7a4df092952b75ebdbbf", func := "loop.example/g01608/laws.FnExactAmong", spec := "fnExactAmong", apart := false, narrowed := true }
def FnExactAmongUptoSaid : Prop := fnExactAmongUptoRow.holds Try.pinned (OpenSpec.upto fnExactAmongSpec)

/-- 'laws.FnExactReports', WHERE WHAT IT READS IS OF BULK AT MOST 1048576: true; the input reads as it did. -/
def fnExactReportsUptoRow : OpenClaim := { program := "ytcfdnfckilpppaa", sum := "0728ad9a6d6303fcfeba52aa7cab870b47b29b2d608a7a4df092952b75ebdbbf", func := "loop.example/g01608/laws.FnExactReports", spec := "fnExactReports", apart := false, narrowed := true }
def FnExactReportsUptoSaid : Prop := fnExactReportsUptoRow.holds Try.pinned (OpenSpec.upto fnExactReportsSpec)

end Rows
end Go.Proofs.Ytcfdnfckilpppaa
