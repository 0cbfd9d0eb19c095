/-
  Chapter 5's draws, told in less: some text and some kind; two numbers.
-/
import Derived.Test.YtfmmhfipibaghaaDrawK
namespace Go.Proofs.Ytfmmhfipibaghaa
open Go.RowKit M
set_option linter.unusedVariables false
theorem l5Kind_some (w : World) (g : Nat) (K : Code) (s : St) (c : Cur w g K s) : Calls Try.prog 49 #[.pointer (some ⟨g, 0, none⟩)] w (SomeI w g K fun x => 0 ≤ x ∧ x ≤ 4) := by
  have HC := Lib.hid c
  clear c
  go_enter Try.func49, Try.ntmps49
  go_wp2_with fail
  refine (pick_some w g K s HC.out [1, 2, 3, 1, 2, 3, 1, 2, 3, 0, 4] 11 rfl (by decide) (by decide) _ rfl).mono ?_
  rintro e w1 ⟨x, s1, hx, rfl, hc1, hg1⟩
  have X : 0 ≤ x ∧ x ≤ 4 := by simp at hx; omega
  have C1 := Lib.hid hc1
  have G1 := Lib.hid hg1
  clear hx hc1 hg1
  go_wp2_with fail
  go_ret
  exact ⟨x, s1, X, rfl, C1.out, G1.out⟩
/-- Some text and some kind; nothing that was there is turned. -/
def GivesTI (w : World) (e : Ending) (w' : World) : Prop := ∃ (x : ByteArray) (k : Int), x.size ≤ 5 ∧ (0 ≤ k ∧ k ≤ 4) ∧ e = .returned (.tuple #[.string x, .int .i64 k]) ∧ Below w.heap.size w w'
/-- Two numbers; nothing that was there is turned. -/
def GivesII (w : World) (e : Ending) (w' : World) : Prop := ∃ a b : Int, (-1 ≤ a ∧ a ≤ 65536) ∧ (-1 ≤ b ∧ b ≤ 65536) ∧ e = .returned (.tuple #[.int .i64 a, .int .i64 b]) ∧ Below w.heap.size w w'
end Go.Proofs.Ytfmmhfipibaghaa
