/-
  Chapter 3, the model's: each function of a cell's number answers what the plain words say, and leaves the world alone.
-/
import Derived.Test.YthfbacaamhkjpaaGive
import Derived.Test.YthfbacaamhkjpaaLay
import Derived.Test.YthfbacaamhkjpaaMath
import Derived.Test.YthfbacaamhkjpaaIn
namespace Go.Proofs.Ythfbacaamhkjpaa
open Go.RowKit M
set_option linter.unusedVariables false
theorem sIn_any (x : Int) (w : World) : Calls Try.prog 15 #[.int .i64 x] w (Same w (.int .i64 (inV x))) := by
  by_cases h : 0 ≤ x ∧ x ≤ 1
  · have E := Lib.hid (inV_yes h)
    obtain ⟨h0, h1⟩ := h
    go_enter Try.func15, Try.ntmps15
    go_wp2_with (go_at_call 20; first | (refine (l1In_yes _ _ _ _ (by omega) (by omega)).mono ?_; rintro e w' ⟨rfl, rfl⟩) | (refine (l1In_no _ _ _ _ (by omega)).mono ?_; rintro e w' ⟨rfl, rfl⟩))
    go_ret
    exact ⟨ret_i (by rw [E.out]), rfl⟩
  · have E := Lib.hid (inV_no h)
    go_enter Try.func15, Try.ntmps15
    go_wp2_with (go_at_call 20; first | (refine (l1In_yes _ _ _ _ (by omega) (by omega)).mono ?_; rintro e w' ⟨rfl, rfl⟩) | (refine (l1In_no _ _ _ _ (by omega)).mono ?_; rintro e w' ⟨rfl, rfl⟩))
    go_ret
    exact ⟨ret_i (by rw [E.out]), rfl⟩
end Go.Proofs.Ythfbacaamhkjpaa
