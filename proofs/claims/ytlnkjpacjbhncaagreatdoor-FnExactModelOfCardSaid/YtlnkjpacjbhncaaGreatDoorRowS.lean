/-
  Chapter 7, the model's functions on one row: each answers what the plain words say. They turn nothing that was there.
-/
import Derived.Test.YtlnkjpacjbhncaaGreatDoorZa
namespace Go.Proofs.YtlnkjpacjbhncaaGreatDoor
open Go.RowKit M
set_option linter.unusedVariables false
set_option linter.unusedSimpArgs false
theorem beq0 (x : Int) : (x == 0) = decide (x = 0) := by by_cases h : x = 0 <;> simp [h]
set_option maxRecDepth 100000 in
theorem sQuiet_any (w : World) (r : R) : Calls Tryz.prog 37 #[r.v] w (Gives (.bool (quietV r)) w) := by
  have E : quietV r = (r.sum == 0 && (!r.set && r.n == 0)) := rfl
  generalize quietV r = q at *
  obtain ⟨key, kind, sum, st, last, n, mn, mx, total, dropped⟩ := r
  unfold R.v
  simp only at *
  have HE := Lib.hid E
  clear E
  cases hs : (sum == 0) with
  | false =>
    go_enter Tryz.func37, Tryz.ntmps37
    go_wp2
    go_ret
    exact ⟨ret_bool (by rw [HE.out, hs]; rfl), (Below.refl _ _).alloc (Nat.le_refl _) _⟩
  | true =>
    cases st with
    | true =>
      go_enter Tryz.func37, Tryz.ntmps37
      go_wp2
      go_ret
      exact ⟨ret_bool (by rw [HE.out, hs]; rfl), (Below.refl _ _).alloc (Nat.le_refl _) _⟩
    | false =>
      go_enter Tryz.func37, Tryz.ntmps37
      go_wp2
      go_ret
      exact ⟨ret_bool (by rw [HE.out, hs]; simp), (Below.refl _ _).alloc (Nat.le_refl _) _⟩
set_option maxRecDepth 100000 in
set_option maxHeartbeats 4000000 in
theorem sTimer_any (w : World) (r : R) : Calls Tryz.prog 117 #[r.v] w (Gives (.bool (timerV r)) w) := by
  have E : timerV r = if r.n = 0 then decide (r.mn = 0 ∧ r.mx = 0 ∧ r.total = 0 ∧ r.dropped = 0)
      else decide ((1 ≤ r.n ∧ r.n ≤ 3) ∧ (0 ≤ r.mn ∧ r.mn ≤ r.mx) ∧ r.mx ≤ 65535 ∧ (r.mn * r.n ≤ r.total ∧ r.total ≤ r.mx * r.n) ∧ (0 ≤ r.dropped ∧ r.dropped ≤ 65535) ∧ (r.dropped = 0 ∨ r.n = 3)) := rfl
  generalize timerV r = q at *
  obtain ⟨key, kind, sum, st, last, n, mn, mx, total, dropped⟩ := r
  unfold R.v
  simp only at *
  by_cases h0 : n = 0
  · subst h0
    rw [if_pos rfl] at E
    have HE := Lib.hid E
    clear E
    go_enter Tryz.func117, Tryz.ntmps117
    go_wp2_with fail
    all_goals (go_ret; exact ⟨ret_bool (by rw [HE.out]; simp_all [beq0]), (Below.refl _ _).alloc (Nat.le_refl _) _⟩)
  · rw [if_neg h0] at E
    have t0 : (n == 0) = false := by rw [beq_eq_false_iff_ne]; exact h0
    have HE := Lib.hid E
    clear E
    by_cases h1 : 1 ≤ n ∧ n ≤ 3
    · have hn : n = 1 ∨ n = 2 ∨ n = 3 := by omega
      clear h0 h1 t0
      rcases hn with rfl | rfl | rfl
      · skip
        by_cases h2 : 0 ≤ mn ∧ mn ≤ mx
        case neg =>
          go_enter Tryz.func117, Tryz.ntmps117
          go_wp2_with (go_at_call 32; first | (refine (l1In_yes _ _ _ _ (by omega) (by omega)).mono ?_; rintro e w' ⟨rfl, rfl⟩) | (refine (l1In_no _ _ _ _ (by omega)).mono ?_; rintro e w' ⟨rfl, rfl⟩))
          go_ret
          exact ⟨ret_bool (by rw [HE.out]; exact (decide_eq_false (by omega)).symm), (Below.refl _ _).alloc (Nat.le_refl _) _⟩
        by_cases h3 : mx ≤ 65535
        case neg =>
          have t3 : decide (mx ≤ 65535) = false := by rw [decide_eq_false_iff_not]; exact h3
          go_enter Tryz.func117, Tryz.ntmps117
          go_wp2_with (go_at_call 32; first | (refine (l1In_yes _ _ _ _ (by omega) (by omega)).mono ?_; rintro e w' ⟨rfl, rfl⟩) | (refine (l1In_no _ _ _ _ (by omega)).mono ?_; rintro e w' ⟨rfl, rfl⟩))
          go_ret
          exact ⟨ret_bool (by rw [HE.out]; exact (decide_eq_false (by omega)).symm), (Below.refl _ _).alloc (Nat.le_refl _) _⟩
        by_cases h4 : mn * 1 ≤ total ∧ total ≤ mx * 1
        case neg =>
          go_enter Tryz.func117, Tryz.ntmps117
          go_wp2_with (go_at_call 32; first | (refine (l1In_yes _ _ _ _ (by omega) (by omega)).mono ?_; rintro e w' ⟨rfl, rfl⟩) | (refine (l1In_no _ _ _ _ (by omega)).mono ?_; rintro e w' ⟨rfl, rfl⟩))
          go_ret
          exact ⟨ret_bool (by rw [HE.out]; exact (decide_eq_false (by omega)).symm), (Below.refl _ _).alloc (Nat.le_refl _) _⟩
        by_cases h5 : 0 ≤ dropped ∧ dropped ≤ 65535
        case neg =>
          go_enter Tryz.func117, Tryz.ntmps117
          go_wp2_with (go_at_call 32; first | (refine (l1In_yes _ _ _ _ (by omega) (by omega)).mono ?_; rintro e w' ⟨rfl, rfl⟩) | (refine (l1In_no _ _ _ _ (by omega)).mono ?_; rintro e w' ⟨rfl, rfl⟩))
          go_ret
          exact ⟨ret_bool (by rw [HE.out]; exact (decide_eq_false (by omega)).symm), (Below.refl _ _).alloc (Nat.le_refl _) _⟩
        by_cases h6 : dropped = 0
        case neg =>
          have t6 : (dropped == 0) = false := by rw [beq_eq_false_iff_ne]; exact h6
          go_enter Tryz.func117, Tryz.ntmps117
          go_wp2_with (go_at_call 32; first | (refine (l1In_yes _ _ _ _ (by omega) (by omega)).mono ?_; rintro e w' ⟨rfl, rfl⟩) | (refine (l1In_no _ _ _ _ (by omega)).mono ?_; rintro e w' ⟨rfl, rfl⟩))
          go_ret
          exact ⟨ret_bool (by rw [HE.out]; exact (decide_eq_false (by omega)).symm), (Below.refl _ _).alloc (Nat.le_refl _) _⟩
        case pos =>
          subst h6
          go_enter Tryz.func117, Tryz.ntmps117
          go_wp2_with (go_at_call 32; first | (refine (l1In_yes _ _ _ _ (by omega) (by omega)).mono ?_; rintro e w' ⟨rfl, rfl⟩) | (refine (l1In_no _ _ _ _ (by omega)).mono ?_; rintro e w' ⟨rfl, rfl⟩))
          go_ret
          exact ⟨ret_bool (by rw [HE.out]; symm; rw [decide_eq_true_iff]; (try simp only [true_or, or_true, and_true, true_and]); omega), (Below.refl _ _).alloc (Nat.le_refl _) _⟩
      · skip
        by_cases h2 : 0 ≤ mn ∧ mn ≤ mx
        case neg =>
          go_enter Tryz.func117, Tryz.ntmps117
          go_wp2_with (go_at_call 32; first | (refine (l1In_yes _ _ _ _ (by omega) (by omega)).mono ?_; rintro e w' ⟨rfl, rfl⟩) | (refine (l1In_no _ _ _ _ (by omega)).mono ?_; rintro e w' ⟨rfl, rfl⟩))
          go_ret
          exact ⟨ret_bool (by rw [HE.out]; exact (decide_eq_false (by omega)).symm), (Below.refl _ _).alloc (Nat.le_refl _) _⟩
        by_cases h3 : mx ≤ 65535
        case neg =>
          have t3 : decide (mx ≤ 65535) = false := by rw [decide_eq_false_iff_not]; exact h3
          go_enter Tryz.func117, Tryz.ntmps117
          go_wp2_with (go_at_call 32; first | (refine (l1In_yes _ _ _ _ (by omega) (by omega)).mono ?_; rintro e w' ⟨rfl, rfl⟩) | (refine (l1In_no _ _ _ _ (by omega)).mono ?_; rintro e w' ⟨rfl, rfl⟩))
          go_ret
          exact ⟨ret_bool (by rw [HE.out]; exact (decide_eq_false (by omega)).symm), (Below.refl _ _).alloc (Nat.le_refl _) _⟩
        by_cases h4 : mn * 2 ≤ total ∧ total ≤ mx * 2
        case neg =>
          go_enter Tryz.func117, Tryz.ntmps117
          go_wp2_with (go_at_call 32; first | (refine (l1In_yes _ _ _ _ (by omega) (by omega)).mono ?_; rintro e w' ⟨rfl, rfl⟩) | (refine (l1In_no _ _ _ _ (by omega)).mono ?_; rintro e w' ⟨rfl, rfl⟩))
          go_ret
          exact ⟨ret_bool (by rw [HE.out]; exact (decide_eq_false (by omega)).symm), (Below.refl _ _).alloc (Nat.le_refl _) _⟩
        by_cases h5 : 0 ≤ dropped ∧ dropped ≤ 65535
        case neg =>
          go_enter Tryz.func117, Tryz.ntmps117
          go_wp2_with (go_at_call 32; first | (refine (l1In_yes _ _ _ _ (by omega) (by omega)).mono ?_; rintro e w' ⟨rfl, rfl⟩) | (refine (l1In_no _ _ _ _ (by omega)).mono ?_; rintro e w' ⟨rfl, rfl⟩))
          go_ret
          exact ⟨ret_bool (by rw [HE.out]; exact (decide_eq_false (by omega)).symm), (Below.refl _ _).alloc (Nat.le_refl _) _⟩
        by_cases h6 : dropped = 0
        case neg =>
          have t6 : (dropped == 0) = false := by rw [beq_eq_false_iff_ne]; exact h6
          go_enter Tryz.func117, Tryz.ntmps117
          go_wp2_with (go_at_call 32; first | (refine (l1In_yes _ _ _ _ (by omega) (by omega)).mono ?_; rintro e w' ⟨rfl, rfl⟩) | (refine (l1In_no _ _ _ _ (by omega)).mono ?_; rintro e w' ⟨rfl, rfl⟩))
          go_ret
          exact ⟨ret_bool (by rw [HE.out]; exact (decide_eq_false (by omega)).symm), (Below.refl _ _).alloc (Nat.le_refl _) _⟩
        case pos =>
          subst h6
          go_enter Tryz.func117, Tryz.ntmps117
          go_wp2_with (go_at_call 32; first | (refine (l1In_yes _ _ _ _ (by omega) (by omega)).mono ?_; rintro e w' ⟨rfl, rfl⟩) | (refine (l1In_no _ _ _ _ (by omega)).mono ?_; rintro e w' ⟨rfl, rfl⟩))
          go_ret
          exact ⟨ret_bool (by rw [HE.out]; symm; rw [decide_eq_true_iff]; (try simp only [true_or, or_true, and_true, true_and]); omega), (Below.refl _ _).alloc (Nat.le_refl _) _⟩
      · skip
        by_cases h2 : 0 ≤ mn ∧ mn ≤ mx
        case neg =>
          go_enter Tryz.func117, Tryz.ntmps117
          go_wp2_with (go_at_call 32; first | (refine (l1In_yes _ _ _ _ (by omega) (by omega)).mono ?_; rintro e w' ⟨rfl, rfl⟩) | (refine (l1In_no _ _ _ _ (by omega)).mono ?_; rintro e w' ⟨rfl, rfl⟩))
          go_ret
          exact ⟨ret_bool (by rw [HE.out]; exact (decide_eq_false (by omega)).symm), (Below.refl _ _).alloc (Nat.le_refl _) _⟩
        by_cases h3 : mx ≤ 65535
        case neg =>
          have t3 : decide (mx ≤ 65535) = false := by rw [decide_eq_false_iff_not]; exact h3
          go_enter Tryz.func117, Tryz.ntmps117
          go_wp2_with (go_at_call 32; first | (refine (l1In_yes _ _ _ _ (by omega) (by omega)).mono ?_; rintro e w' ⟨rfl, rfl⟩) | (refine (l1In_no _ _ _ _ (by omega)).mono ?_; rintro e w' ⟨rfl, rfl⟩))
          go_ret
          exact ⟨ret_bool (by rw [HE.out]; exact (decide_eq_false (by omega)).symm), (Below.refl _ _).alloc (Nat.le_refl _) _⟩
        by_cases h4 : mn * 3 ≤ total ∧ total ≤ mx * 3
        case neg =>
          go_enter Tryz.func117, Tryz.ntmps117
          go_wp2_with (go_at_call 32; first | (refine (l1In_yes _ _ _ _ (by omega) (by omega)).mono ?_; rintro e w' ⟨rfl, rfl⟩) | (refine (l1In_no _ _ _ _ (by omega)).mono ?_; rintro e w' ⟨rfl, rfl⟩))
          go_ret
          exact ⟨ret_bool (by rw [HE.out]; exact (decide_eq_false (by omega)).symm), (Below.refl _ _).alloc (Nat.le_refl _) _⟩
        by_cases h5 : 0 ≤ dropped ∧ dropped ≤ 65535
        case neg =>
          go_enter Tryz.func117, Tryz.ntmps117
          go_wp2_with (go_at_call 32; first | (refine (l1In_yes _ _ _ _ (by omega) (by omega)).mono ?_; rintro e w' ⟨rfl, rfl⟩) | (refine (l1In_no _ _ _ _ (by omega)).mono ?_; rintro e w' ⟨rfl, rfl⟩))
          go_ret
          exact ⟨ret_bool (by rw [HE.out]; exact (decide_eq_false (by omega)).symm), (Below.refl _ _).alloc (Nat.le_refl _) _⟩
        by_cases h6 : dropped = 0
        case neg =>
          have t6 : (dropped == 0) = false := by rw [beq_eq_false_iff_ne]; exact h6
          go_enter Tryz.func117, Tryz.ntmps117
          go_wp2_with (go_at_call 32; first | (refine (l1In_yes _ _ _ _ (by omega) (by omega)).mono ?_; rintro e w' ⟨rfl, rfl⟩) | (refine (l1In_no _ _ _ _ (by omega)).mono ?_; rintro e w' ⟨rfl, rfl⟩))
          go_ret
          exact ⟨ret_bool (by rw [HE.out]; symm; rw [decide_eq_true_iff]; (try simp only [true_or, or_true, and_true, true_and]); omega), (Below.refl _ _).alloc (Nat.le_refl _) _⟩
        case pos =>
          subst h6
          go_enter Tryz.func117, Tryz.ntmps117
          go_wp2_with (go_at_call 32; first | (refine (l1In_yes _ _ _ _ (by omega) (by omega)).mono ?_; rintro e w' ⟨rfl, rfl⟩) | (refine (l1In_no _ _ _ _ (by omega)).mono ?_; rintro e w' ⟨rfl, rfl⟩))
          go_ret
          exact ⟨ret_bool (by rw [HE.out]; symm; rw [decide_eq_true_iff]; (try simp only [true_or, or_true, and_true, true_and]); omega), (Below.refl _ _).alloc (Nat.le_refl _) _⟩
    · skip
      go_enter Tryz.func117, Tryz.ntmps117
      go_wp2_with (go_at_call 32; first | (refine (l1In_yes _ _ _ _ (by omega) (by omega)).mono ?_; rintro e w' ⟨rfl, rfl⟩) | (refine (l1In_no _ _ _ _ (by omega)).mono ?_; rintro e w' ⟨rfl, rfl⟩))
      go_ret
      exact ⟨ret_bool (by rw [HE.out]; exact (decide_eq_false (by omega)).symm), (Below.refl _ _).alloc (Nat.le_refl _) _⟩
end Go.Proofs.YtlnkjpacjbhncaaGreatDoor
