/-
  Texts of this seat, laid together.
-/
import Derived.Test.YtnlepnfdgdbkoaaGreatDoorYMd
import Derived.Test.YtnlepnfdgdbkoaaGreatDoorYZa
import Derived.Test.YtnlepnfdgdbkoaaGreatDoorYZb
import Derived.BigFrame
namespace Go.Proofs.YtnlepnfdgdbkoaaGreatDoor
open Go.RowKit M
set_option linter.unusedVariables false
set_option linter.unusedSimpArgs false
theorem wpList_load_rowG {P : Program} {ops : Array Oper} {rest : List Oper} {o : Oper} {a : Act} {w : World} {Q : Exit → Act → World → Prop} (ty : TypeId) (x : Operand) (ho : o.op = .load ty x)
    (g : Nat) (hx : a.eval x = .pointer (some ⟨g, 0, none⟩)) (t : TypeId) (cs : Array Value) (fr : Nat × Nat) (d : TypeDesc) (hg : w.heap[g]? = some (.cells cs t fr))
    (hu : P.underlying ty = some d) (hd : (match d with | .struct _ | .array _ _ => true | _ => false) = true) (hi : (P.info? ty).map (·.size) = some cs.size)
    (hw : Region.wanted o (yielded ops a.tmps) = true) (h : wpList P ops Q rest (a.put o.dst (.agg cs)) w) : wpList P ops Q (o :: rest) a w :=
  Go.BigFrame.wpList_want hw fun _ hK => wp_load_row ty x ho g hx t cs fr d hg hu hd hi (hK _ _ h)
theorem ret_bl {a b : Bool} (h : a = b) : Ending.returned (.bool a) = .returned (.bool b) := by rw [h]
theorem int_beq2 (x y : Int) : (x == y) = decide (x = y) := by
  by_cases h : x = y
  · rw [decide_eq_true h, beq_iff_eq]; exact h
  · rw [decide_eq_false h, beq_eq_false_iff_ne]; exact h
theorem nat_beq (n : Nat) (m : Nat) : (((n : Int) == (m : Int)) = decide (n = m)) := by
  by_cases h : n = m
  · subst h; simp
  · rw [decide_eq_false h, beq_eq_false_iff_ne]; omega
theorem count_01 {r : J} (h : r.pc = 0 ∨ r.pc = 1) : countOkV r = decide (0 ≤ r.k ∧ r.k ≤ 3) := if_pos h
theorem count_8 {r : J} (h : r.pc = 8) : countOkV r = decide (0 ≤ r.k ∧ r.k ≤ 2) := by unfold countOkV; rw [if_neg (by omega), if_pos h]
theorem count_14 {r : J} (h : r.pc = 14) : countOkV r = (decide (0 ≤ r.k ∧ r.k ≤ 3) && (decide ((r.keys.length : Int) = r.k) && decide (r.raw.length = 0))) := by unfold countOkV; rw [if_neg (by omega), if_neg (by omega), if_pos h]
theorem count_15 {r : J} (h : r.pc = 15) : countOkV r = (decide (0 ≤ r.k ∧ r.k ≤ 31) && (decide (r.keys.length = 4) && decide ((r.raw.length : Int) = r.k))) := by unfold countOkV; rw [if_neg (by omega), if_neg (by omega), if_neg (by omega), if_pos h]
theorem count_12 {r : J} (h : r.pc = 13 ∨ r.pc = 12) : countOkV r = (decide (r.keys.length = 0) && decide (r.raw.length = 0)) := by unfold countOkV; rw [if_neg (by omega), if_neg (by omega), if_neg (by omega), if_neg (by omega), if_pos h]
theorem count_no {r : J} (h : r.pc ≠ 0 ∧ r.pc ≠ 1 ∧ r.pc ≠ 8 ∧ r.pc ≠ 14 ∧ r.pc ≠ 15 ∧ r.pc ≠ 13 ∧ r.pc ≠ 12) : countOkV r = true := by unfold countOkV; rw [if_neg (by omega), if_neg (by omega), if_neg (by omega), if_neg (by omega), if_neg (by omega)]
theorem below_one (w : World) (o : Obj) : Below w.heap.size w (w.alloc o) := (Below.refl _ _).alloc (Nat.le_refl _) o
theorem zeroO_eq (r : O) : decide (r = ⟨0, ⟨#[]⟩, 0, 0⟩) = isZeroO r := by
  obtain ⟨kind, key, what, val⟩ := r
  unfold isZeroO
  congr 1
  simp
end Go.Proofs.YtnlepnfdgdbkoaaGreatDoor
