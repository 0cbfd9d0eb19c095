/-
  Chapter 6, the model's functions: each answers what the plain words say. They turn nothing that was there.
-/
import Derived.Test.YthfbacaamhkjpaaTblV
import Derived.Test.YthfbacaamhkjpaaKdS
import Derived.Test.YthfbacaamhkjpaaLayS
import Derived.Test.YthfbacaamhkjpaaCellA
import Derived.Test.YthfbacaamhkjpaaCopyS
namespace Go.Proofs.Ythfbacaamhkjpaa
open Go.RowKit M
set_option linter.unusedVariables false
theorem key_ne {key : ByteArray} (h : keyOkV key = true) : key ≠ ⟨#[]⟩ := fun e => by subst e; exact absurd h (by decide)
theorem cellK_at {w : World} {b off : Nat} {zs : List Int} {s : Int} (h4 : ∀ j, j < zs.length → w.cell? ⟨b, off + j, none⟩ = some (.int .i64 (zs.getD j 0))) (hl : zs.length = 71) (h0 : 0 ≤ s) (h3 : s ≤ 3) : w.cell? ⟨b, off + (3 + s).toNat, none⟩ = some (.int .i64 (cellK zs s)) :=
  h4 _ (by omega)
/-- Three numbers. -/
def find3 (r : Int × Int × Int) : Value := .tuple #[.int .i64 r.1, .int .i64 r.2.1, .int .i64 r.2.2]
theorem ret_find {a b c : Int} {r : Int × Int × Int} (h : r = (a, b, c)) : Ending.returned (.tuple #[.int .i64 a, .int .i64 b, .int .i64 c]) = .returned (find3 r) := by subst h; rfl
end Go.Proofs.Ythfbacaamhkjpaa
