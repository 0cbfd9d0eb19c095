/-
  Chapter 3, the program's: each function of a cell's number answers what the plain words say, and leaves the world alone.
-/
import Derived.Test.YthfbacaamhkjpaaGive
import Derived.Test.YthfbacaamhkjpaaIdx
import Derived.Test.YthfbacaamhkjpaaLay
import Derived.Test.YthfbacaamhkjpaaMath
namespace Go.Proofs.Ythfbacaamhkjpaa
open Go.RowKit M
set_option linter.unusedVariables false
theorem iBase_any (b s : Int) (w : World) : Calls Try.prog 21 #[.int .i64 b, .int .i64 s] w (Same w (.int .i64 (cellV b s 0))) := by
  by_cases h : 0 ≤ b ∧ b ≤ 1
  · by_cases h' : 0 ≤ s ∧ s ≤ 3
    · have E := Lib.hid (cellV_yes (k := 0) h h')
      obtain ⟨h0, h1⟩ := h
      obtain ⟨h2, h3⟩ := h'
      go_enter Try.func21, Try.ntmps21
      go_wp2_with (go_at_call 24; first | (refine (isIdx_yes _ _ _ (by omega) (by omega)).mono ?_; rintro e w' ⟨rfl, rfl⟩) | (refine (isIdx_no _ _ _ (by omega)).mono ?_; rintro e w' ⟨rfl, rfl⟩))
      go_ret
      exact ⟨ret_i (by rw [E.out, Int.add_zero]), rfl⟩
    · have E := Lib.hid (cellV_noS (b := b) (k := 0) h')
      obtain ⟨h0, h1⟩ := h
      go_enter Try.func21, Try.ntmps21
      go_wp2_with (go_at_call 24; first | (refine (isIdx_yes _ _ _ (by omega) (by omega)).mono ?_; rintro e w' ⟨rfl, rfl⟩) | (refine (isIdx_no _ _ _ (by omega)).mono ?_; rintro e w' ⟨rfl, rfl⟩))
      go_ret
      exact ⟨ret_i (by rw [E.out]), rfl⟩
  · have E := Lib.hid (cellV_noB (s := s) (k := 0) h)
    go_enter Try.func21, Try.ntmps21
    go_wp2_with (go_at_call 24; first | (refine (isIdx_yes _ _ _ (by omega) (by omega)).mono ?_; rintro e w' ⟨rfl, rfl⟩) | (refine (isIdx_no _ _ _ (by omega)).mono ?_; rintro e w' ⟨rfl, rfl⟩))
    go_ret
    exact ⟨ret_i (by rw [E.out]), rfl⟩
end Go.Proofs.Ythfbacaamhkjpaa
