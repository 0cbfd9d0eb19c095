/-
  Chapter 7, the program's functions on one row, first part: what is quiet, which fields a kind has, when a timer's numbers are right. They turn nothing that was there.
-/
import Derived.Test.YtlnkjpacjbhncaaGreatDoorRowO
import Derived.Test.YtlnkjpacjbhncaaGreatDoorZb
import Derived.Test.YtlnkjpacjbhncaaGreatDoorZa
namespace Go.Proofs.YtlnkjpacjbhncaaGreatDoor
open Go.RowKit M
set_option linter.unusedVariables false
set_option linter.unusedSimpArgs false
set_option maxRecDepth 100000 in
theorem iQuiet_any (w : World) (r : R) (h : r.Fit) : Calls Tryz.prog 65 #[r.v] w (Gives (.bool (quietV r)) w) := by
  have E : quietV r = (r.sum == 0 && (!r.set && r.n == 0)) := rfl
  generalize quietV r = q at *
  clear h
  obtain ⟨key, kind, sum, st, last, n, mn, mx, total, dropped⟩ := r
  unfold R.v
  simp only at *
  have HE := Lib.hid E
  clear E
  cases hs : (sum == 0) <;> cases hn : (n == 0) <;> cases st
  all_goals
    go_enter Tryz.func65, Tryz.ntmps65
    go_wp2_with fail
    go_ret
    exact ⟨ret_bool (by rw [HE.out, hs, hn]; rfl), (Below.refl _ _).alloc (Nat.le_refl _) _⟩
set_option maxRecDepth 100000 in
set_option maxHeartbeats 8000000 in
theorem iSamples_any (w : World) (r : R) : Calls Tryz.prog 128 #[r.v] w (Gives (.bool (timerV r)) w) := by
  have E : timerV r = if r.n = 0 then decide (r.mn = 0 ∧ r.mx = 0 ∧ r.total = 0 ∧ r.dropped = 0)
      else decide ((1 ≤ r.n ∧ r.n ≤ 3) ∧ (0 ≤ r.mn ∧ r.mn ≤ r.mx) ∧ r.mx ≤ 65535 ∧ (r.mn * r.n ≤ r.total ∧ r.total ≤ r.mx * r.n) ∧ (0 ≤ r.dropped ∧ r.dropped ≤ 65535) ∧ (r.dropped = 0 ∨ r.n = 3)) := rfl
  generalize timerV r = q at *
  obtain ⟨key, kind, sum, st, last, n, mn, mx, total, dropped⟩ := r
  unfold R.v
  simp only at *
  have HV0 := fun k W h0 h1 => Lib.hid (isValue_yes k W h0 h1)
  have HV1 := fun k W h => Lib.hid (isValue_no k W h)
  by_cases h0 : n = 0
  case pos =>
    subst h0
    rw [if_pos rfl] at E
    have HE := Lib.hid E
    clear E
    go_enter Tryz.func128, Tryz.ntmps128
    go_wp2_with fail
    all_goals (go_ret; exact ⟨ret_bool (by rw [HE.out]; simp_all [beq0]), (Below.refl _ _).alloc (Nat.le_refl _) _⟩)
  rw [if_neg h0] at E
  have t0 : (n == 0) = false := by rw [beq_eq_false_iff_ne]; exact h0
  have HE := Lib.hid E
  clear E
  by_cases h1 : n < 1
  case pos =>
    go_enter Tryz.func128, Tryz.ntmps128
    go_wp2_with (go_at_call 122; first | (refine (HV0 _ _ (by omega) (by omega)).out.mono ?_; rintro e w' ⟨rfl, rfl⟩) | (refine (HV1 _ _ (by omega)).out.mono ?_; rintro e w' ⟨rfl, rfl⟩))
    go_ret
    exact ⟨ret_bool (by rw [HE.out]; exact (decide_eq_false (by omega)).symm), (Below.refl _ _).alloc (Nat.le_refl _) _⟩
  have t1 : decide (n < 1) = false := decide_eq_false h1
  by_cases h2 : 3 < n
  case pos =>
    go_enter Tryz.func128, Tryz.ntmps128
    go_wp2_with (go_at_call 122; first | (refine (HV0 _ _ (by omega) (by omega)).out.mono ?_; rintro e w' ⟨rfl, rfl⟩) | (refine (HV1 _ _ (by omega)).out.mono ?_; rintro e w' ⟨rfl, rfl⟩))
    go_ret
    exact ⟨ret_bool (by rw [HE.out]; exact (decide_eq_false (by omega)).symm), (Below.refl _ _).alloc (Nat.le_refl _) _⟩
  have t2 : decide (3 < n) = false := decide_eq_false h2
  by_cases h3 : mn < 0
  case pos =>
    go_enter Tryz.func128, Tryz.ntmps128
    go_wp2_with (go_at_call 122; first | (refine (HV0 _ _ (by omega) (by omega)).out.mono ?_; rintro e w' ⟨rfl, rfl⟩) | (refine (HV1 _ _ (by omega)).out.mono ?_; rintro e w' ⟨rfl, rfl⟩))
    go_ret
    exact ⟨ret_bool (by rw [HE.out]; exact (decide_eq_false (by omega)).symm), (Below.refl _ _).alloc (Nat.le_refl _) _⟩
  have t3 : decide (mn < 0) = false := decide_eq_false h3
  by_cases h4 : mx < mn
  case pos =>
    go_enter Tryz.func128, Tryz.ntmps128
    go_wp2_with (go_at_call 122; first | (refine (HV0 _ _ (by omega) (by omega)).out.mono ?_; rintro e w' ⟨rfl, rfl⟩) | (refine (HV1 _ _ (by omega)).out.mono ?_; rintro e w' ⟨rfl, rfl⟩))
    go_ret
    exact ⟨ret_bool (by rw [HE.out]; exact (decide_eq_false (by omega)).symm), (Below.refl _ _).alloc (Nat.le_refl _) _⟩
  have t4 : decide (mx < mn) = false := decide_eq_false h4
  by_cases h5 : 65535 < mx
  case pos =>
    go_enter Tryz.func128, Tryz.ntmps128
    go_wp2_with (go_at_call 122; first | (refine (HV0 _ _ (by omega) (by omega)).out.mono ?_; rintro e w' ⟨rfl, rfl⟩) | (refine (HV1 _ _ (by omega)).out.mono ?_; rintro e w' ⟨rfl, rfl⟩))
    go_ret
    exact ⟨ret_bool (by rw [HE.out]; exact (decide_eq_false (by omega)).symm), (Below.refl _ _).alloc (Nat.le_refl _) _⟩
  have t5 : decide (65535 < mx) = false := decide_eq_false h5
  have hn : n = 1 ∨ n = 2 ∨ n = 3 := by omega
  clear h0 h1 h2 t0 t1 t2
  rcases hn with rfl | rfl | rfl
  · skip
    have wmn : IntKind.i64.wrap mn = mn := by rw [IntKind.wrap_i64]; omega
    have wmx : IntKind.i64.wrap mx = mx := by rw [IntKind.wrap_i64]; omega
    by_cases h6 : total < mn
    case pos =>
      go_enter Tryz.func128, Tryz.ntmps128
      go_wp2_with (go_at_call 122; first | (refine (HV0 _ _ (by omega) (by omega)).out.mono ?_; rintro e w' ⟨rfl, rfl⟩) | (refine (HV1 _ _ (by omega)).out.mono ?_; rintro e w' ⟨rfl, rfl⟩))
      go_ret
      exact ⟨ret_bool (by rw [HE.out]; exact (decide_eq_false (by omega)).symm), (Below.refl _ _).alloc (Nat.le_refl _) _⟩
    have t6 : decide (total < mn) = false := decide_eq_false h6
    by_cases h7 : mx < total
    case pos =>
      go_enter Tryz.func128, Tryz.ntmps128
      go_wp2_with (go_at_call 122; first | (refine (HV0 _ _ (by omega) (by omega)).out.mono ?_; rintro e w' ⟨rfl, rfl⟩) | (refine (HV1 _ _ (by omega)).out.mono ?_; rintro e w' ⟨rfl, rfl⟩))
      go_ret
      exact ⟨ret_bool (by rw [HE.out]; exact (decide_eq_false (by omega)).symm), (Below.refl _ _).alloc (Nat.le_refl _) _⟩
    have t7 : decide (mx < total) = false := decide_eq_false h7
    by_cases h8 : 0 ≤ dropped ∧ dropped ≤ 65535
    case neg =>
      go_enter Tryz.func128, Tryz.ntmps128
      go_wp2_with (go_at_call 122; first | (refine (HV0 _ _ (by omega) (by omega)).out.mono ?_; rintro e w' ⟨rfl, rfl⟩) | (refine (HV1 _ _ (by omega)).out.mono ?_; rintro e w' ⟨rfl, rfl⟩))
      go_ret
      exact ⟨ret_bool (by rw [HE.out]; exact (decide_eq_false (by omega)).symm), (Below.refl _ _).alloc (Nat.le_refl _) _⟩
    by_cases h9 : dropped = 0
    case pos =>
      subst h9
      go_enter Tryz.func128, Tryz.ntmps128
      go_wp2_with (go_at_call 122; first | (refine (HV0 _ _ (by omega) (by omega)).out.mono ?_; rintro e w' ⟨rfl, rfl⟩) | (refine (HV1 _ _ (by omega)).out.mono ?_; rintro e w' ⟨rfl, rfl⟩))
      go_ret
      exact ⟨ret_bool (by rw [HE.out]; symm; rw [decide_eq_true_iff]; (try simp only [true_or, or_true, and_true, true_and]); omega), (Below.refl _ _).alloc (Nat.le_refl _) _⟩
    have t9 : (dropped == 0) = false := by rw [beq_eq_false_iff_ne]; exact h9
    go_enter Tryz.func128, Tryz.ntmps128
    go_wp2_with (go_at_call 122; first | (refine (HV0 _ _ (by omega) (by omega)).out.mono ?_; rintro e w' ⟨rfl, rfl⟩) | (refine (HV1 _ _ (by omega)).out.mono ?_; rintro e w' ⟨rfl, rfl⟩))
    go_ret
    exact ⟨ret_bool (by rw [HE.out]; exact (decide_eq_false (by omega)).symm), (Below.refl _ _).alloc (Nat.le_refl _) _⟩
  · skip
    have wmn : IntKind.i64.wrap (2 * mn) = 2 * mn := by rw [IntKind.wrap_i64]; omega
    have wmx : IntKind.i64.wrap (2 * mx) = 2 * mx := by rw [IntKind.wrap_i64]; omega
    by_cases h6 : total < 2 * mn
    case pos =>
      go_enter Tryz.func128, Tryz.ntmps128
      go_wp2_with (go_at_call 122; first | (refine (HV0 _ _ (by omega) (by omega)).out.mono ?_; rintro e w' ⟨rfl, rfl⟩) | (refine (HV1 _ _ (by omega)).out.mono ?_; rintro e w' ⟨rfl, rfl⟩))
      go_ret
      exact ⟨ret_bool (by rw [HE.out]; exact (decide_eq_false (by omega)).symm), (Below.refl _ _).alloc (Nat.le_refl _) _⟩
    have t6 : decide (total < 2 * mn) = false := decide_eq_false h6
    by_cases h7 : 2 * mx < total
    case pos =>
      go_enter Tryz.func128, Tryz.ntmps128
      go_wp2_with (go_at_call 122; first | (refine (HV0 _ _ (by omega) (by omega)).out.mono ?_; rintro e w' ⟨rfl, rfl⟩) | (refine (HV1 _ _ (by omega)).out.mono ?_; rintro e w' ⟨rfl, rfl⟩))
      go_ret
      exact ⟨ret_bool (by rw [HE.out]; exact (decide_eq_false (by omega)).symm), (Below.refl _ _).alloc (Nat.le_refl _) _⟩
    have t7 : decide (2 * mx < total) = false := decide_eq_false h7
    by_cases h8 : 0 ≤ dropped ∧ dropped ≤ 65535
    case neg =>
      go_enter Tryz.func128, Tryz.ntmps128
      go_wp2_with (go_at_call 122; first | (refine (HV0 _ _ (by omega) (by omega)).out.mono ?_; rintro e w' ⟨rfl, rfl⟩) | (refine (HV1 _ _ (by omega)).out.mono ?_; rintro e w' ⟨rfl, rfl⟩))
      go_ret
      exact ⟨ret_bool (by rw [HE.out]; exact (decide_eq_false (by omega)).symm), (Below.refl _ _).alloc (Nat.le_refl _) _⟩
    by_cases h9 : dropped = 0
    case pos =>
      subst h9
      go_enter Tryz.func128, Tryz.ntmps128
      go_wp2_with (go_at_call 122; first | (refine (HV0 _ _ (by omega) (by omega)).out.mono ?_; rintro e w' ⟨rfl, rfl⟩) | (refine (HV1 _ _ (by omega)).out.mono ?_; rintro e w' ⟨rfl, rfl⟩))
      go_ret
      exact ⟨ret_bool (by rw [HE.out]; symm; rw [decide_eq_true_iff]; (try simp only [true_or, or_true, and_true, true_and]); omega), (Below.refl _ _).alloc (Nat.le_refl _) _⟩
    have t9 : (dropped == 0) = false := by rw [beq_eq_false_iff_ne]; exact h9
    go_enter Tryz.func128, Tryz.ntmps128
    go_wp2_with (go_at_call 122; first | (refine (HV0 _ _ (by omega) (by omega)).out.mono ?_; rintro e w' ⟨rfl, rfl⟩) | (refine (HV1 _ _ (by omega)).out.mono ?_; rintro e w' ⟨rfl, rfl⟩))
    go_ret
    exact ⟨ret_bool (by rw [HE.out]; exact (decide_eq_false (by omega)).symm), (Below.refl _ _).alloc (Nat.le_refl _) _⟩
  · skip
    have wmn : IntKind.i64.wrap (3 * mn) = 3 * mn := by rw [IntKind.wrap_i64]; omega
    have wmx : IntKind.i64.wrap (3 * mx) = 3 * mx := by rw [IntKind.wrap_i64]; omega
    by_cases h6 : total < 3 * mn
    case pos =>
      go_enter Tryz.func128, Tryz.ntmps128
      go_wp2_with (go_at_call 122; first | (refine (HV0 _ _ (by omega) (by omega)).out.mono ?_; rintro e w' ⟨rfl, rfl⟩) | (refine (HV1 _ _ (by omega)).out.mono ?_; rintro e w' ⟨rfl, rfl⟩))
      go_ret
      exact ⟨ret_bool (by rw [HE.out]; exact (decide_eq_false (by omega)).symm), (Below.refl _ _).alloc (Nat.le_refl _) _⟩
    have t6 : decide (total < 3 * mn) = false := decide_eq_false h6
    by_cases h7 : 3 * mx < total
    case pos =>
      go_enter Tryz.func128, Tryz.ntmps128
      go_wp2_with (go_at_call 122; first | (refine (HV0 _ _ (by omega) (by omega)).out.mono ?_; rintro e w' ⟨rfl, rfl⟩) | (refine (HV1 _ _ (by omega)).out.mono ?_; rintro e w' ⟨rfl, rfl⟩))
      go_ret
      exact ⟨ret_bool (by rw [HE.out]; exact (decide_eq_false (by omega)).symm), (Below.refl _ _).alloc (Nat.le_refl _) _⟩
    have t7 : decide (3 * mx < total) = false := decide_eq_false h7
    by_cases h8 : 0 ≤ dropped ∧ dropped ≤ 65535
    case neg =>
      go_enter Tryz.func128, Tryz.ntmps128
      go_wp2_with (go_at_call 122; first | (refine (HV0 _ _ (by omega) (by omega)).out.mono ?_; rintro e w' ⟨rfl, rfl⟩) | (refine (HV1 _ _ (by omega)).out.mono ?_; rintro e w' ⟨rfl, rfl⟩))
      go_ret
      exact ⟨ret_bool (by rw [HE.out]; exact (decide_eq_false (by omega)).symm), (Below.refl _ _).alloc (Nat.le_refl _) _⟩
    by_cases h9 : dropped = 0
    case pos =>
      subst h9
      go_enter Tryz.func128, Tryz.ntmps128
      go_wp2_with (go_at_call 122; first | (refine (HV0 _ _ (by omega) (by omega)).out.mono ?_; rintro e w' ⟨rfl, rfl⟩) | (refine (HV1 _ _ (by omega)).out.mono ?_; rintro e w' ⟨rfl, rfl⟩))
      go_ret
      exact ⟨ret_bool (by rw [HE.out]; symm; rw [decide_eq_true_iff]; (try simp only [true_or, or_true, and_true, true_and]); omega), (Below.refl _ _).alloc (Nat.le_refl _) _⟩
    have t9 : (dropped == 0) = false := by rw [beq_eq_false_iff_ne]; exact h9
    go_enter Tryz.func128, Tryz.ntmps128
    go_wp2_with (go_at_call 122; first | (refine (HV0 _ _ (by omega) (by omega)).out.mono ?_; rintro e w' ⟨rfl, rfl⟩) | (refine (HV1 _ _ (by omega)).out.mono ?_; rintro e w' ⟨rfl, rfl⟩))
    go_ret
    exact ⟨ret_bool (by rw [HE.out]; symm; rw [decide_eq_true_iff]; (try simp only [true_or, or_true, and_true, true_and]); omega), (Below.refl _ _).alloc (Nat.le_refl _) _⟩
end Go.Proofs.YtlnkjpacjbhncaaGreatDoor
