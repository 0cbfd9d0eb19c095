/-
  The exact laws' helpers on the record Op and on rows of it: the copy, the size, comparing two.
-/
import Derived.Test.YtjiaogbkmpjciaaZa
import Derived.Deep.QuietTactic
import Derived.BigQuiet
import Derived.ProofKit
import Derived.OpenShut
import Derived.BigGuardPart
namespace Go.Proofs.Ytjiaogbkmpjciaa
open Go.RowKit M
set_option linter.unusedVariables false
set_option linter.unusedSimpArgs false
set_option maxRecDepth 100000 in
theorem toOp_any (w : World) (r : O) : Calls Try.prog 46 #[r.v] w (Gives r.v w) := by
  obtain ⟨kind_, key_, what_, val_⟩ := r
  unfold O.v
  simp only
  go_enter Try.func46, Try.ntmps46
  go_wp2_with fail
  exact bodyPost_ret (v := .agg #[.int .i64 kind_, .string key_, .int .i64 what_, .int .i64 val_]) (by simp [results, Try.results46, go_sem]) rfl ⟨rfl, (((Below.refl _ _).alloc (Nat.le_refl _) _).alloc (by simp [go_sem]) _).alloc (by simp [go_sem]; omega) _⟩
set_option maxRecDepth 100000 in
set_option maxHeartbeats 800000 in
theorem eqOp_same (w : World) (r : O) : Calls Try.prog 48 #[r.v, r.v] w (Gives (.bool true) w) := by
  obtain ⟨kind_, key_, what_, val_⟩ := r
  unfold O.v
  simp only
  go_enter Try.func48, Try.ntmps48
  go_wp2_with fail
  go_ret
  exact ⟨rfl, ((Below.refl _ _).alloc (Nat.le_refl _) _).alloc (by simp [go_sem]) _⟩
/-- What is left of a budget behind a record's text. -/
theorem szOp_any (w : World) (r : O) (left : Int) (hk : r.key.size ≤ maxLen) (h0 : 0 ≤ left) (h1 : left ≤ 1048576) : Calls Try.prog 44 #[r.v, .int .i64 left] w (Gives (.int .i64 (if left - (r.key.size : Int) < 0 then -1 else left - (r.key.size : Int))) w) := by
  obtain ⟨kind_, key_, what_, val_⟩ := r
  unfold O.v
  simp only at *
  unfold maxLen at hk
  by_cases h : left - (key_.size : Int) < 0
  · have hd : decide (left - (key_.size : Int) < 0) = true := by rw [decide_eq_true]; exact h
    rw [if_pos h]
    go_enter Try.func44, Try.ntmps44
    go_wp2_with fail
    go_ret
    exact ⟨rfl, (Below.refl _ _).alloc (Nat.le_refl _) _⟩
  · have hd : decide (left - (key_.size : Int) < 0) = false := by rw [decide_eq_false]; exact h
    rw [if_neg h]
    go_enter Try.func44, Try.ntmps44
    go_wp2_with fail
    go_ret
    exact ⟨rfl, (Below.refl _ _).alloc (Nat.le_refl _) _⟩
end Go.Proofs.Ytjiaogbkmpjciaa
