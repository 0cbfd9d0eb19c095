/-
  Chapter 3, the model's: each function of a cell's number answers what the plain words say, and leaves the world alone.
-/
import Derived.Test.YtmnkjjgfebfgmaaDoorGive
import Derived.Test.YtmnkjjgfebfgmaaDoorLay
import Derived.Test.YtmnkjjgfebfgmaaDoorMath
import Derived.Test.YtmnkjjgfebfgmaaDoorIn
namespace Go.Proofs.YtmnkjjgfebfgmaaDoor
open Go.RowKit M
set_option linter.unusedVariables false
theorem sKey_any (x : Int) (w : World) : Calls Tryd.prog 32 #[.int .i64 x] w (Same w (.int .i64 (keyV x))) := by
  by_cases h : 0 ≤ x ∧ x ≤ 3
  · have E := Lib.hid (keyV_yes h)
    obtain ⟨h0, h1⟩ := h
    go_enter Tryd.func32, Tryd.ntmps32
    go_wp2_with (go_at_call 38; first | (refine (l1In_yes _ _ _ _ (by omega) (by omega)).mono ?_; rintro e w' ⟨rfl, rfl⟩) | (refine (l1In_no _ _ _ _ (by omega)).mono ?_; rintro e w' ⟨rfl, rfl⟩))
    go_ret
    exact ⟨ret_i (by rw [E.out]), rfl⟩
  · have E := Lib.hid (keyV_no h)
    go_enter Tryd.func32, Tryd.ntmps32
    go_wp2_with (go_at_call 38; first | (refine (l1In_yes _ _ _ _ (by omega) (by omega)).mono ?_; rintro e w' ⟨rfl, rfl⟩) | (refine (l1In_no _ _ _ _ (by omega)).mono ?_; rintro e w' ⟨rfl, rfl⟩))
    go_ret
    exact ⟨ret_i (by rw [E.out]), rfl⟩
end Go.Proofs.YtmnkjjgfebfgmaaDoor
