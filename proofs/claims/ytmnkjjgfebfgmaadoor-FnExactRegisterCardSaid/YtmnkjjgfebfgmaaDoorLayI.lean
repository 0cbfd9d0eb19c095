/-
  Chapter 3, the program's: each function of a cell's number answers what the plain words say, and leaves the world alone.
-/
import Derived.Test.YtmnkjjgfebfgmaaDoorGive
import Derived.Test.YtmnkjjgfebfgmaaDoorIdx
import Derived.Test.YtmnkjjgfebfgmaaDoorLay
import Derived.Test.YtmnkjjgfebfgmaaDoorMath
namespace Go.Proofs.YtmnkjjgfebfgmaaDoor
open Go.RowKit M
set_option linter.unusedVariables false
theorem iKey_any (x : Int) (w : World) : Calls Tryd.prog 28 #[.int .i64 x] w (Same w (.int .i64 (keyV x))) := by
  by_cases h : 0 ≤ x ∧ x ≤ 3
  · have E := Lib.hid (keyV_yes h)
    obtain ⟨h0, h1⟩ := h
    go_enter Tryd.func28, Tryd.ntmps28
    go_wp2_with (go_at_call 44; first | (refine (isIdx_yes _ _ _ (by omega) (by omega)).mono ?_; rintro e w' ⟨rfl, rfl⟩) | (refine (isIdx_no _ _ _ (by omega)).mono ?_; rintro e w' ⟨rfl, rfl⟩))
    go_ret
    exact ⟨ret_i (by rw [E.out]), rfl⟩
  · have E := Lib.hid (keyV_no h)
    go_enter Tryd.func28, Tryd.ntmps28
    go_wp2_with (go_at_call 44; first | (refine (isIdx_yes _ _ _ (by omega) (by omega)).mono ?_; rintro e w' ⟨rfl, rfl⟩) | (refine (isIdx_no _ _ _ (by omega)).mono ?_; rintro e w' ⟨rfl, rfl⟩))
    go_ret
    exact ⟨ret_i (by rw [E.out]), rfl⟩
end Go.Proofs.YtmnkjjgfebfgmaaDoor
