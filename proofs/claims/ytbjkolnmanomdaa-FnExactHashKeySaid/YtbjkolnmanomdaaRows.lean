/-
  No cell of these rows narrows 'for every input' (looked for: loops, veiled, ifaces, maps, wideKeys, modest, calm, conditions, laid).
  DERIVED. THE GIVEN ROWS OF THIS SEAT. 4 by the template 'for every input the law returns true; each argument reads behind the call as it read before'; 0 by the template 'total and deterministic' (their statements: YtbjkolnmanomdaaTotals.lean).
  GIVEN WITH THE SEED: the statements are not yours to turn. If you find one false, say at which input.
  Laid BY PROGRAM, IN A SANDBOX (cutbox-rows.mjs): the forced cells as the released guide's own fill.sh prints them over the translation 393aa12c3e0c598b… (all of the seat's roots in one cut). By AI agents, Wed Nov 11 2026. No macro, syntax, notation, axiom, sorry.
-/
import Derived.Test.YtbjkolnmanomdaaChecked
import GoSem.Claim
import GoSem.ClaimJoined
import GoSem.ClaimMapViews
import Derived.JoinedTies
import Derived.KernelRfl
namespace Go.Proofs.Ytbjkolnmanomdaa
/- THE CELL 'sum', in the pinned program and in every row, IS THE sha256 OF THE DUMP (.gsa) THAT YtbjkolnmanomdaaProg.lean LOADS. Nothing in Lean hashes anything: it is a label: what it is worth is what the hold of that sum in a sandbox is worth. -/
noncomputable def Try.pinned : Pinned := { name := "ytbjkolnmanomdaa", sum := "393aa12c3e0c598bd6a1ca56cc8245a4952009a8e773e5637d04f73f24a15118", checked := Try.checked }
namespace Rows
def none {H : Type} : Left H := { results := [], args := [] }

/-- 'laws.FnExactKeyOk': WHATEVER THE INPUT: true; the input reads as it did. -/
def fnExactKeyOkSpec : ChangeSpec := { name := "fnExactKeyOk", fn := fun _ => fun
  | [d] => { results := [.lit (.bool true)], args := [d] }
  | _ => none }
def fnExactKeyOkRow : OpenClaim := { program := "ytbjkolnmanomdaa", sum := "393aa12c3e0c598bd6a1ca56cc8245a4952009a8e773e5637d04f73f24a15118", func := "loop.example/g01608/laws.FnExactKeyOk", spec := "fnExactKeyOk", apart := false }
def FnExactKeyOkSaid : Prop := fnExactKeyOkRow.holds Try.pinned (OpenSpec.ofChange fnExactKeyOkSpec)

/-- ITS FALSE NEIGHBOUR: 'it returns false'. Refute it at one input. -/
def fnExactKeyOkWrong : ChangeSpec := { name := "fnExactKeyOk", fn := fun _ => fun
  | [d] => { results := [.lit (.bool false)], args := [d] }
  | _ => none }
def FnExactKeyOkWrongFalsely : Prop := fnExactKeyOkRow.holds Try.pinned (OpenSpec.ofChange fnExactKeyOkWrong)

/-- 'laws.FnExactPackKey': WHATEVER THE INPUT: true; the input reads as it did. -/
def fnExactPackKeySpec : ChangeSpec := { name := "fnExactPackKey", fn := fun _ => fun
  | [d] => { results := [.lit (.bool true)], args := [d] }
  | _ => none }
def fnExactPackKeyRow : OpenClaim := { program := "ytbjkolnmanomdaa", sum := "393aa12c3e0c598bd6a1ca56cc8245a4952009a8e773e5637d04f73f24a15118", func := "loop.example/g01608/laws.FnExactPackKey", spec := "fnExactPackKey", apart := false }
def FnExactPackKeySaid : Prop := fnExactPackKeyRow.holds Try.pinned (OpenSpec.ofChange fnExactPackKeySpec)

/-- ITS FALSE NEIGHBOUR: 'it returns false'. Refute it at one input. -/
def fnExactPackKeyWrong : ChangeSpec := { name := "fnExactPackKey", fn := fun _ => fun
  | [d] => { results := [.lit (.bool false)], args := [d] }
  | _ => none }
def FnExactPackKeyWrongFalsely : Prop := fnExactPackKeyRow.holds Try.pinned (OpenSpec.ofChange fnExactPackKeyWrong)

/-- 'laws.FnExactHashKey': WHATEVER THE INPUT: true; the input reads as it did. -/
def fnExactHashKeySpec : ChangeSpec := { name := "fnExactHashKey", fn := fun _ => fun
  | [d] => { results := [.lit (.bool true)], args := [d] }
  | _ => none }
def fnExactHashKeyRow : OpenClaim := { program := "ytbjkolnmanomdaa", sum := "393aa12c3e0c598bd6a1ca56cc8245a4952009a8e773e5637d04f73f24a15118", func := "loop.example/g01608/laws.FnExactHashKey", spec := "fnExactHashKey", apart := false }
def FnExactHashKeySaid : Prop := fnExactHashKeyRow.holds Try.pinned (OpenSpec.ofChange fnExactHashKeySpec)

/-- ITS FALSE NEIGHBOUR: 'it returns false'. Refute it at one input. -/
def fnExactHashKeyWrong : ChangeSpec := { name := "fnExactHashKey", fn := fun _ => fun
  | [d] => { results := [.lit (.bool false)], args := [d] }
  | _ => none }
def FnExactHashKeyWrongFalsely : Prop := fnExactHashKeyRow.holds Try.pinned (OpenSpec.ofChange fnExactHashKeyWrong)

/-- 'laws.FnExactProbe': WHATEVER THE INPUT: true; the input reads as it did. -/
def fnExactProbeSpec : ChangeSpec := { name := "fnExactProbe", fn := fun _ => fun
  | [d1, d2] => { results := [.lit (.bool true)], args := [d1, d2] }
  | _ => none }
def fnExactProbeRow : OpenClaim := { program := "ytbjkolnmanomdaa", sum := "393aa12c3e0c598bd6a1ca56cc8245a4952009a8e773e5637d04f73f24a15118", func := "loop.example/g01608/laws.FnExactProbe", spec := "fnExactProbe", apart := false }
def FnExactProbeSaid : Prop := fnExactProbeRow.holds Try.pinned (OpenSpec.ofChange fnExactProbeSpec)

/-- ITS FALSE NEIGHBOUR: 'it returns false'. Refute it at one input. -/
def fnExactProbeWrong : ChangeSpec := { name := "fnExactProbe", fn := fun _ => fun
  | [d1, d2] => { results := [.lit (.bool false)], args := [d1, d2] }
  | _ => none }
def FnExactProbeWrongFalsely : Prop := fnExactProbeRow.holds Try.pinned (OpenSpec.ofChange fnExactProbeWrong)

/- THE SECOND FORM. 'bulk': how many values and letters a reading holds, each counted each time it is reached (what is shared counts as often as it is met; a slice's spare places count too). A statement '..UptoSaid' is the law's where the arguments, and the package variables that the reading takes, are together of bulk at most 1048576: NARROWER than '..Said'. Prove '..Said' where nothing that the law and all that it calls make is longer than what came in: it says more and counts as full. Else prove '..UptoSaid'. A law counts once. -/
mutual
def uptoBulk {H : Type} : DataW H → Nat
  | .lit (.string bytes) => bytes.length + 1
  | .lit _ => 1
  | .nil => 1
  | .ptr d => uptoBulk d + 1
  | .slice elems spare => uptoBulkAll elems + uptoBulkAll spare + 1
  | .agg parts => uptoBulkAll parts + 1
  | .iface _ d => uptoBulk d + 1
  | .map entries => uptoBulkEntries entries + 1
  | .held _ => 1
def uptoBulkAll {H : Type} : List (DataW H) → Nat
  | [] => 0
  | d :: r => uptoBulk d + uptoBulkAll r
def uptoBulkEntries {H : Type} : List (Lit × DataW H) → Nat
  | [] => 0
  | x :: r => uptoBulkEntry x + uptoBulkEntries r
def uptoBulkEntry {H : Type} : Lit × DataW H → Nat
  | (.string bytes, d) => bytes.length + uptoBulk d + 1
  | (_, d) => uptoBulk d + 1
 end
def uptoSmall : (H : Type) → List (DataW H) → Bool := fun _ ds => decide (uptoBulkAll ds ≤ 1048576)
def OpenSpec.upto (s : _root_.Go.ChangeSpec) : _root_.Go.OpenSpec := { _root_.Go.OpenSpec.ofChange s with cond := some uptoSmall }

/-- 'laws.FnExactKeyOk', WHERE WHAT IT READS IS OF BULK AT MOST 1048576: true; the input reads as it did. -/
def fnExactKeyOkUptoRow : OpenClaim := { program := "ytbjkolnmanomdaa", sum := "393aa12c3e0c598bd6a1ca56cc8245a4952009a8e773e5637d04f73f24a15118", func := "loop.example/g01608/laws.FnExactKeyOk", spec := "fnExactKeyOk", apart := false, narrowed := true }
def FnExactKeyOkUptoSaid : Prop := fnExactKeyOkUptoRow.holds Try.pinned (OpenSpec.upto fnExactKeyOkSpec)

/-- 'laws.FnExactPackKey', WHERE WHAT IT READS IS OF BULK AT MOST 1048576: true; the input reads as it did. -/
def fnExactPackKeyUptoRow : OpenClaim := { program := "ytbjkolnmanomdaa", sum := "393aa12c3e0c598bd6a1ca56cc8245a4952009a8e773e5637d04f73f24a15118", func := "loop.example/g01608/laws.FnExactPackKey", spec := "fnExactPackKey", apart := false, narrowed := true }
def FnExactPackKeyUptoSaid : Prop := fnExactPackKeyUptoRow.holds Try.pinned (OpenSpec.upto fnExactPackKeySpec)

/-- 'laws.FnExactHashKey', WHERE WHAT IT READS IS OF BULK AT MOST 1048576: true; the input reads as it did. -/
def fnExactHashKeyUptoRow : OpenClaim := { program := "ytbjkolnmanomdaa", sum := "393aa12c3e0c598bd6a1ca56cc8245a4952009a8e773e5637d04f73f24a15118", func := "loop.example/g01608/laws.FnExactHashKey", spec := "fnExactHashKey", apart := false, narrowed := true }
def FnExactHashKeyUptoSaid : Prop := fnExactHashKeyUptoRow.holds Try.pinned (OpenSpec.upto fnExactHashKeySpec)

/-- 'laws.FnExactProbe', WHERE WHAT IT READS IS OF BULK AT MOST 1048576: true; the input reads as it did. -/
def fnExactProbeUptoRow : OpenClaim := { program := "ytbjkolnmanomdaa", sum := "393aa12c3e0c598bd6a1ca56cc8245a4952009a8e773e5637d04f73f24a15118", func := "loop.example/g01608/laws.FnExactProbe", spec := "fnExactProbe", apart := false, narrowed := true }
def FnExactProbeUptoSaid : Prop := fnExactProbeUptoRow.holds Try.pinned (OpenSpec.upto fnExactProbeSpec)

end Rows
end Go.Proofs.Ytbjkolnmanomdaa
