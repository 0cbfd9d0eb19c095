/-
  Chapter 10, the program's comparison of two jobs, two queues, two events. It turns nothing that was there.
-/
import Derived.Test.YtfemdhknnfmpcaaEqI
import Derived.Test.YtfemdhknnfmpcaaJobS
import Derived.Test.YtfemdhknnfmpcaaRpI
import Derived.Test.YtfemdhknnfmpcaaIdleI
import Derived.BigGuardPart
namespace Go.Proofs.Ytfemdhknnfmpcaa
open Go.RowKit M
set_option linter.unusedVariables false
set_option linter.unusedSimpArgs false
/-- The world under one name, ahead of an operation. -/
theorem wpList_gen {P : Program} {ops : Array Oper} {Q : Exit → Act → World → Prop} {rest : List Oper} {a : Act} {w : World} (R : World → Prop) (h : R w) (k : ∀ W, R W → wpList P ops Q rest a W) : wpList P ops Q rest a w := k w h
theorem bool_beq (x y : Bool) : (x == y) = decide (x = y) := by cases x <;> cases y <;> rfl
end Go.Proofs.Ytfemdhknnfmpcaa
