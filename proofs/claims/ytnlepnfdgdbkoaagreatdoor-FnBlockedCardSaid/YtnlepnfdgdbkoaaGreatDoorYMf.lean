/-
  Texts of this seat, laid together.
-/
import Derived.Test.YtnlepnfdgdbkoaaGreatDoorYZb
import Derived.OpenShut
import Derived.ProofKit
import Derived.BigQuiet
import Derived.Deep.RegionWith
import Derived.Deep.QuietTactic
import Derived.BigGuardPart
import Derived.Test.YtnlepnfdgdbkoaaGreatDoorYMd
import Derived.Test.YtnlepnfdgdbkoaaGreatDoorYZa
import Derived.Lib.SliceRun
import Derived.Deep.MidRow
section
namespace Go.Proofs.YtnlepnfdgdbkoaaGreatDoor
open Go.RowKit M
set_option linter.unusedVariables false
theorem zero_cells (n : Nat) : (madeCells zeroR.v.cells (n * 10)).toList = cellsR (List.replicate n zeroR) := by
  apply List.ext_getElem?
  intro i
  by_cases h : i < n * 10
  · have e : i = i / 10 * 10 + i % 10 := by omega
    rw [e, cellsR_at _ _ _ (by rw [List.length_replicate]; omega) (by omega), ← e]
    have hz : zeroR.v.cells = rowCells zeroR := rfl
    have hg : (List.replicate n zeroR).getD (i / 10) zeroR = zeroR := by
      rw [List.getD_eq_getElem?_getD, List.getElem?_replicate]; split <;> rfl
    have hs : (rowCells zeroR).size = 10 := rfl
    rw [hz, hg, Array.getElem?_toList]
    unfold madeCells
    rw [hs, Array.getElem?_map, Array.getElem?_range, if_pos h]
    have hk : i % 10 < (rowCells zeroR).size := by rw [hs]; omega
    simp [getElem!_pos, hk]
  · rw [List.getElem?_eq_none (by rw [Array.length_toList, size_madeCells]; omega), List.getElem?_eq_none (by rw [cellsR_length, List.length_replicate]; omega)]
def partR (rs : List R) (j : Nat) : List R := rs.take j ++ List.replicate (rs.length - j) zeroR
theorem partR_length (rs : List R) (j : Nat) : (partR rs j).length = rs.length := by
  simp only [partR, List.length_append, List.length_take, List.length_replicate]; omega
theorem partR_all (rs : List R) : partR rs rs.length = rs := by simp [partR]
theorem partR_zero (rs : List R) : partR rs 0 = List.replicate rs.length zeroR := by simp [partR]
theorem partR_set (rs : List R) (j : Nat) (hj : j < rs.length) : (partR rs j).set j (rs.getD j zeroR) = partR rs (j + 1) := by
  apply List.ext_getElem?
  intro i
  unfold partR
  rcases Nat.lt_trichotomy i j with h | h | h
  · rw [List.getElem?_set_ne (by omega), List.getElem?_append_left (by simp; omega), List.getElem?_append_left (by simp; omega), List.getElem?_take_of_lt h, List.getElem?_take_of_lt (by omega)]
  · subst h
    rw [List.getElem?_set_self (by simp; omega), List.getElem?_append_left (by simp; omega), List.getElem?_take_of_lt (by omega), List.getD_eq_getElem?_getD, List.getElem?_eq_getElem hj]; rfl
  · rw [List.getElem?_set_ne (by omega), List.getElem?_append_right (by simp; omega), List.getElem?_append_right (by simp; omega)]
    simp only [List.length_take, List.getElem?_replicate]
    congr 1
    simp only [eq_iff_iff]
    omega
theorem below_made' {w w1 : World} (hg : w.grownBy w1 none) : Below w.heap.size w w1 := (Below.refl _ _).grown hg (Nat.le_refl _) (by intro _ h; cases h)
end Go.Proofs.YtnlepnfdgdbkoaaGreatDoor
end
section
namespace Go.Proofs.YtnlepnfdgdbkoaaGreatDoor
open Go.RowKit M
set_option linter.unusedVariables false
set_option linter.unusedSimpArgs false
set_option maxRecDepth 100000 in
theorem iQuiet_any (w : World) (r : R) (h : r.Fit) : Calls Tryz.prog 132 #[r.v] w (Gives (.bool (quietV r)) w) := by
  have E : quietV r = (r.sum == 0 && (!r.set && r.n == 0)) := rfl
  generalize quietV r = q at *
  clear h
  obtain ⟨key, kind, sum, st, last, n, mn, mx, total, dropped⟩ := r
  unfold R.v
  simp only at *
  have HE := Lib.hid E
  clear E
  cases hs : (sum == 0) <;> cases hn : (n == 0) <;> cases st
  all_goals
    go_enter Tryz.func132, Tryz.ntmps132
    go_wp2_with fail
    go_ret
    exact ⟨ret_bool (by rw [HE.out, hs, hn]; rfl), (Below.refl _ _).alloc (Nat.le_refl _) _⟩
set_option maxRecDepth 100000 in
set_option maxHeartbeats 8000000 in
theorem iSamples_any (w : World) (r : R) : Calls Tryz.prog 156 #[r.v] w (Gives (.bool (timerV r)) w) := by
  have E : timerV r = if r.n = 0 then decide (r.mn = 0 ∧ r.mx = 0 ∧ r.total = 0 ∧ r.dropped = 0)
      else decide ((1 ≤ r.n ∧ r.n ≤ 3) ∧ (0 ≤ r.mn ∧ r.mn ≤ r.mx) ∧ r.mx ≤ 65535 ∧ (r.mn * r.n ≤ r.total ∧ r.total ≤ r.mx * r.n) ∧ (0 ≤ r.dropped ∧ r.dropped ≤ 65535) ∧ (r.dropped = 0 ∨ r.n = 3)) := rfl
  generalize timerV r = q at *
  obtain ⟨key, kind, sum, st, last, n, mn, mx, total, dropped⟩ := r
  unfold R.v
  simp only at *
  have HV0 := fun k W h0 h1 => Lib.hid (isValue_yes k W h0 h1)
  have HV1 := fun k W h => Lib.hid (isValue_no k W h)
  by_cases h0 : n = 0
  case pos =>
    subst h0
    rw [if_pos rfl] at E
    have HE := Lib.hid E
    clear E
    go_enter Tryz.func156, Tryz.ntmps156
    go_wp2_with fail
    all_goals (go_ret; exact ⟨ret_bool (by rw [HE.out]; simp_all [beq0]), (Below.refl _ _).alloc (Nat.le_refl _) _⟩)
  rw [if_neg h0] at E
  have t0 : (n == 0) = false := by rw [beq_eq_false_iff_ne]; exact h0
  have HE := Lib.hid E
  clear E
  by_cases h1 : n < 1
  case pos =>
    go_enter Tryz.func156, Tryz.ntmps156
    go_wp2_with (go_at_call 70; first | (refine (HV0 _ _ (by omega) (by omega)).out.mono ?_; rintro e w' ⟨rfl, rfl⟩) | (refine (HV1 _ _ (by omega)).out.mono ?_; rintro e w' ⟨rfl, rfl⟩))
    go_ret
    exact ⟨ret_bool (by rw [HE.out]; exact (decide_eq_false (by omega)).symm), (Below.refl _ _).alloc (Nat.le_refl _) _⟩
  have t1 : decide (n < 1) = false := decide_eq_false h1
  by_cases h2 : 3 < n
  case pos =>
    go_enter Tryz.func156, Tryz.ntmps156
    go_wp2_with (go_at_call 70; first | (refine (HV0 _ _ (by omega) (by omega)).out.mono ?_; rintro e w' ⟨rfl, rfl⟩) | (refine (HV1 _ _ (by omega)).out.mono ?_; rintro e w' ⟨rfl, rfl⟩))
    go_ret
    exact ⟨ret_bool (by rw [HE.out]; exact (decide_eq_false (by omega)).symm), (Below.refl _ _).alloc (Nat.le_refl _) _⟩
  have t2 : decide (3 < n) = false := decide_eq_false h2
  by_cases h3 : mn < 0
  case pos =>
    go_enter Tryz.func156, Tryz.ntmps156
    go_wp2_with (go_at_call 70; first | (refine (HV0 _ _ (by omega) (by omega)).out.mono ?_; rintro e w' ⟨rfl, rfl⟩) | (refine (HV1 _ _ (by omega)).out.mono ?_; rintro e w' ⟨rfl, rfl⟩))
    go_ret
    exact ⟨ret_bool (by rw [HE.out]; exact (decide_eq_false (by omega)).symm), (Below.refl _ _).alloc (Nat.le_refl _) _⟩
  have t3 : decide (mn < 0) = false := decide_eq_false h3
  by_cases h4 : mx < mn
  case pos =>
    go_enter Tryz.func156, Tryz.ntmps156
    go_wp2_with (go_at_call 70; first | (refine (HV0 _ _ (by omega) (by omega)).out.mono ?_; rintro e w' ⟨rfl, rfl⟩) | (refine (HV1 _ _ (by omega)).out.mono ?_; rintro e w' ⟨rfl, rfl⟩))
    go_ret
    exact ⟨ret_bool (by rw [HE.out]; exact (decide_eq_false (by omega)).symm), (Below.refl _ _).alloc (Nat.le_refl _) _⟩
  have t4 : decide (mx < mn) = false := decide_eq_false h4
  by_cases h5 : 65535 < mx
  case pos =>
    go_enter Tryz.func156, Tryz.ntmps156
    go_wp2_with (go_at_call 70; first | (refine (HV0 _ _ (by omega) (by omega)).out.mono ?_; rintro e w' ⟨rfl, rfl⟩) | (refine (HV1 _ _ (by omega)).out.mono ?_; rintro e w' ⟨rfl, rfl⟩))
    go_ret
    exact ⟨ret_bool (by rw [HE.out]; exact (decide_eq_false (by omega)).symm), (Below.refl _ _).alloc (Nat.le_refl _) _⟩
  have t5 : decide (65535 < mx) = false := decide_eq_false h5
  have hn : n = 1 ∨ n = 2 ∨ n = 3 := by omega
  clear h0 h1 h2 t0 t1 t2
  rcases hn with rfl | rfl | rfl
  · skip
    have wmn : IntKind.i64.wrap mn = mn := by rw [IntKind.wrap_i64]; omega
    have wmx : IntKind.i64.wrap mx = mx := by rw [IntKind.wrap_i64]; omega
    by_cases h6 : total < mn
    case pos =>
      go_enter Tryz.func156, Tryz.ntmps156
      go_wp2_with (go_at_call 70; first | (refine (HV0 _ _ (by omega) (by omega)).out.mono ?_; rintro e w' ⟨rfl, rfl⟩) | (refine (HV1 _ _ (by omega)).out.mono ?_; rintro e w' ⟨rfl, rfl⟩))
      go_ret
      exact ⟨ret_bool (by rw [HE.out]; exact (decide_eq_false (by omega)).symm), (Below.refl _ _).alloc (Nat.le_refl _) _⟩
    have t6 : decide (total < mn) = false := decide_eq_false h6
    by_cases h7 : mx < total
    case pos =>
      go_enter Tryz.func156, Tryz.ntmps156
      go_wp2_with (go_at_call 70; first | (refine (HV0 _ _ (by omega) (by omega)).out.mono ?_; rintro e w' ⟨rfl, rfl⟩) | (refine (HV1 _ _ (by omega)).out.mono ?_; rintro e w' ⟨rfl, rfl⟩))
      go_ret
      exact ⟨ret_bool (by rw [HE.out]; exact (decide_eq_false (by omega)).symm), (Below.refl _ _).alloc (Nat.le_refl _) _⟩
    have t7 : decide (mx < total) = false := decide_eq_false h7
    by_cases h8 : 0 ≤ dropped ∧ dropped ≤ 65535
    case neg =>
      go_enter Tryz.func156, Tryz.ntmps156
      go_wp2_with (go_at_call 70; first | (refine (HV0 _ _ (by omega) (by omega)).out.mono ?_; rintro e w' ⟨rfl, rfl⟩) | (refine (HV1 _ _ (by omega)).out.mono ?_; rintro e w' ⟨rfl, rfl⟩))
      go_ret
      exact ⟨ret_bool (by rw [HE.out]; exact (decide_eq_false (by omega)).symm), (Below.refl _ _).alloc (Nat.le_refl _) _⟩
    by_cases h9 : dropped = 0
    case pos =>
      subst h9
      go_enter Tryz.func156, Tryz.ntmps156
      go_wp2_with (go_at_call 70; first | (refine (HV0 _ _ (by omega) (by omega)).out.mono ?_; rintro e w' ⟨rfl, rfl⟩) | (refine (HV1 _ _ (by omega)).out.mono ?_; rintro e w' ⟨rfl, rfl⟩))
      go_ret
      exact ⟨ret_bool (by rw [HE.out]; symm; rw [decide_eq_true_iff]; (try simp only [true_or, or_true, and_true, true_and]); omega), (Below.refl _ _).alloc (Nat.le_refl _) _⟩
    have t9 : (dropped == 0) = false := by rw [beq_eq_false_iff_ne]; exact h9
    go_enter Tryz.func156, Tryz.ntmps156
    go_wp2_with (go_at_call 70; first | (refine (HV0 _ _ (by omega) (by omega)).out.mono ?_; rintro e w' ⟨rfl, rfl⟩) | (refine (HV1 _ _ (by omega)).out.mono ?_; rintro e w' ⟨rfl, rfl⟩))
    go_ret
    exact ⟨ret_bool (by rw [HE.out]; exact (decide_eq_false (by omega)).symm), (Below.refl _ _).alloc (Nat.le_refl _) _⟩
  · skip
    have wmn : IntKind.i64.wrap (2 * mn) = 2 * mn := by rw [IntKind.wrap_i64]; omega
    have wmx : IntKind.i64.wrap (2 * mx) = 2 * mx := by rw [IntKind.wrap_i64]; omega
    by_cases h6 : total < 2 * mn
    case pos =>
      go_enter Tryz.func156, Tryz.ntmps156
      go_wp2_with (go_at_call 70; first | (refine (HV0 _ _ (by omega) (by omega)).out.mono ?_; rintro e w' ⟨rfl, rfl⟩) | (refine (HV1 _ _ (by omega)).out.mono ?_; rintro e w' ⟨rfl, rfl⟩))
      go_ret
      exact ⟨ret_bool (by rw [HE.out]; exact (decide_eq_false (by omega)).symm), (Below.refl _ _).alloc (Nat.le_refl _) _⟩
    have t6 : decide (total < 2 * mn) = false := decide_eq_false h6
    by_cases h7 : 2 * mx < total
    case pos =>
      go_enter Tryz.func156, Tryz.ntmps156
      go_wp2_with (go_at_call 70; first | (refine (HV0 _ _ (by omega) (by omega)).out.mono ?_; rintro e w' ⟨rfl, rfl⟩) | (refine (HV1 _ _ (by omega)).out.mono ?_; rintro e w' ⟨rfl, rfl⟩))
      go_ret
      exact ⟨ret_bool (by rw [HE.out]; exact (decide_eq_false (by omega)).symm), (Below.refl _ _).alloc (Nat.le_refl _) _⟩
    have t7 : decide (2 * mx < total) = false := decide_eq_false h7
    by_cases h8 : 0 ≤ dropped ∧ dropped ≤ 65535
    case neg =>
      go_enter Tryz.func156, Tryz.ntmps156
      go_wp2_with (go_at_call 70; first | (refine (HV0 _ _ (by omega) (by omega)).out.mono ?_; rintro e w' ⟨rfl, rfl⟩) | (refine (HV1 _ _ (by omega)).out.mono ?_; rintro e w' ⟨rfl, rfl⟩))
      go_ret
      exact ⟨ret_bool (by rw [HE.out]; exact (decide_eq_false (by omega)).symm), (Below.refl _ _).alloc (Nat.le_refl _) _⟩
    by_cases h9 : dropped = 0
    case pos =>
      subst h9
      go_enter Tryz.func156, Tryz.ntmps156
      go_wp2_with (go_at_call 70; first | (refine (HV0 _ _ (by omega) (by omega)).out.mono ?_; rintro e w' ⟨rfl, rfl⟩) | (refine (HV1 _ _ (by omega)).out.mono ?_; rintro e w' ⟨rfl, rfl⟩))
      go_ret
      exact ⟨ret_bool (by rw [HE.out]; symm; rw [decide_eq_true_iff]; (try simp only [true_or, or_true, and_true, true_and]); omega), (Below.refl _ _).alloc (Nat.le_refl _) _⟩
    have t9 : (dropped == 0) = false := by rw [beq_eq_false_iff_ne]; exact h9
    go_enter Tryz.func156, Tryz.ntmps156
    go_wp2_with (go_at_call 70; first | (refine (HV0 _ _ (by omega) (by omega)).out.mono ?_; rintro e w' ⟨rfl, rfl⟩) | (refine (HV1 _ _ (by omega)).out.mono ?_; rintro e w' ⟨rfl, rfl⟩))
    go_ret
    exact ⟨ret_bool (by rw [HE.out]; exact (decide_eq_false (by omega)).symm), (Below.refl _ _).alloc (Nat.le_refl _) _⟩
  · skip
    have wmn : IntKind.i64.wrap (3 * mn) = 3 * mn := by rw [IntKind.wrap_i64]; omega
    have wmx : IntKind.i64.wrap (3 * mx) = 3 * mx := by rw [IntKind.wrap_i64]; omega
    by_cases h6 : total < 3 * mn
    case pos =>
      go_enter Tryz.func156, Tryz.ntmps156
      go_wp2_with (go_at_call 70; first | (refine (HV0 _ _ (by omega) (by omega)).out.mono ?_; rintro e w' ⟨rfl, rfl⟩) | (refine (HV1 _ _ (by omega)).out.mono ?_; rintro e w' ⟨rfl, rfl⟩))
      go_ret
      exact ⟨ret_bool (by rw [HE.out]; exact (decide_eq_false (by omega)).symm), (Below.refl _ _).alloc (Nat.le_refl _) _⟩
    have t6 : decide (total < 3 * mn) = false := decide_eq_false h6
    by_cases h7 : 3 * mx < total
    case pos =>
      go_enter Tryz.func156, Tryz.ntmps156
      go_wp2_with (go_at_call 70; first | (refine (HV0 _ _ (by omega) (by omega)).out.mono ?_; rintro e w' ⟨rfl, rfl⟩) | (refine (HV1 _ _ (by omega)).out.mono ?_; rintro e w' ⟨rfl, rfl⟩))
      go_ret
      exact ⟨ret_bool (by rw [HE.out]; exact (decide_eq_false (by omega)).symm), (Below.refl _ _).alloc (Nat.le_refl _) _⟩
    have t7 : decide (3 * mx < total) = false := decide_eq_false h7
    by_cases h8 : 0 ≤ dropped ∧ dropped ≤ 65535
    case neg =>
      go_enter Tryz.func156, Tryz.ntmps156
      go_wp2_with (go_at_call 70; first | (refine (HV0 _ _ (by omega) (by omega)).out.mono ?_; rintro e w' ⟨rfl, rfl⟩) | (refine (HV1 _ _ (by omega)).out.mono ?_; rintro e w' ⟨rfl, rfl⟩))
      go_ret
      exact ⟨ret_bool (by rw [HE.out]; exact (decide_eq_false (by omega)).symm), (Below.refl _ _).alloc (Nat.le_refl _) _⟩
    by_cases h9 : dropped = 0
    case pos =>
      subst h9
      go_enter Tryz.func156, Tryz.ntmps156
      go_wp2_with (go_at_call 70; first | (refine (HV0 _ _ (by omega) (by omega)).out.mono ?_; rintro e w' ⟨rfl, rfl⟩) | (refine (HV1 _ _ (by omega)).out.mono ?_; rintro e w' ⟨rfl, rfl⟩))
      go_ret
      exact ⟨ret_bool (by rw [HE.out]; symm; rw [decide_eq_true_iff]; (try simp only [true_or, or_true, and_true, true_and]); omega), (Below.refl _ _).alloc (Nat.le_refl _) _⟩
    have t9 : (dropped == 0) = false := by rw [beq_eq_false_iff_ne]; exact h9
    go_enter Tryz.func156, Tryz.ntmps156
    go_wp2_with (go_at_call 70; first | (refine (HV0 _ _ (by omega) (by omega)).out.mono ?_; rintro e w' ⟨rfl, rfl⟩) | (refine (HV1 _ _ (by omega)).out.mono ?_; rintro e w' ⟨rfl, rfl⟩))
    go_ret
    exact ⟨ret_bool (by rw [HE.out]; symm; rw [decide_eq_true_iff]; (try simp only [true_or, or_true, and_true, true_and]); omega), (Below.refl _ _).alloc (Nat.le_refl _) _⟩
end Go.Proofs.YtnlepnfdgdbkoaaGreatDoor
end
section
namespace Go.Proofs.YtnlepnfdgdbkoaaGreatDoor
open Go.RowKit M
set_option linter.unusedVariables false
set_option linter.unusedSimpArgs false
theorem own_short {w : World} {base size g n cap : Nat} {e : TypeId} {xs : List Value} (h : w.ownsRow base e size (.slice (some ⟨g, 0, none⟩) n cap) n xs) (k : Nat) (hk : k ≤ n) : w.ownsRow base e size (.slice (some ⟨g, 0, none⟩) k cap) k (xs.take (k * size)) := by
  have hle : k * size ≤ n * size := Nat.mul_le_mul_right _ hk
  refine ⟨by rw [List.length_take, h.1]; omega, .inr ?_⟩
  rcases h.2 with ⟨e0, _⟩ | ⟨g', cap', cur, e1, hb, hg, hn, hm, hc, ht⟩
  · cases e0
  · injection e1 with e2 e3 e4
    injection e2 with e5
    injection e5 with e6
    subst e6; subst e4
    exact ⟨g, cap, cur, rfl, hb, hg, by omega, hm, hc, by rw [← ht, List.take_take, Nat.min_eq_left hle]⟩
theorem own_behind {base size g n cap : Nat} {e : TypeId} (m : Nat) : ∀ (cs : List Value) (o : Nat) (w : World) (xs : List Value), m ≤ o → w.ownsRow base e size (.slice (some ⟨g, 0, none⟩) n cap) n xs →
    ∃ ys, (w.setCells g o cs).ownsRow base e size (.slice (some ⟨g, 0, none⟩) n cap) n ys ∧ ys.take m = xs.take m ∧ w.grownBy (w.setCells g o cs) (some g)
  | [], o, w, xs, _, h => ⟨xs, h, rfl, ⟨rfl, rfl, rfl, Nat.le_refl _, fun _ _ _ => rfl⟩⟩
  | c :: cs, o, w, xs, ho, h => by
    have h1 := World.ownsRow.stored h o c
    obtain ⟨ys, h2, h3, h4⟩ := own_behind m cs (o + 1) _ _ (by omega) h1.1
    refine ⟨ys, h2, ?_, grownR_trans h1.2 h4⟩
    rw [h3, List.take_set_of_le ho]
theorem cellsR_take (rs : List R) (k : Nat) : (cellsR rs).take (k * 10) = cellsR (rs.take k) := by
  induction rs generalizing k with
  | nil => simp [cellsR]
  | cons r rs ih =>
    cases k with
    | zero => simp [cellsR]
    | succ k =>
      show ((rowCells r).toList ++ cellsR rs).take ((k + 1) * 10) = (rowCells r).toList ++ cellsR (rs.take k)
      rw [List.take_append, cells10, show (k + 1) * 10 - 10 = k * 10 by omega, ih, List.take_of_length_le (by rw [cells10]; omega)]
theorem OwnR.cut {w : World} {base g n cap : Nat} {rs : List R} (h : OwnR w base (.slice (some ⟨g, 0, none⟩) n cap) rs) (hn : rs.length = n) (k : Nat) (hk : k ≤ n) (cs : List Value) :
    OwnR (w.setCells g (k * 10) cs) base (.slice (some ⟨g, 0, none⟩) k cap) (rs.take k) ∧ w.grownBy (w.setCells g (k * 10) cs) (some g) := by
  subst hn
  obtain ⟨ys, h1, h2, h3⟩ := own_behind (k * 10) cs (k * 10) w _ (Nat.le_refl _) h
  have h4 := own_short h1 k hk
  rw [h2, cellsR_take] at h4
  refine ⟨?_, h3⟩
  unfold OwnR
  rwa [List.length_take, Nat.min_eq_left hk]
def clearedR (m : Nat) : List Value := (Builtin.zeroCells zeroR.v.cells m).toList
theorem cleared_length (m : Nat) : (clearedR m).length = m * 10 := by
  unfold clearedR Builtin.zeroCells
  rw [Array.length_toList, Array.size_map, Array.size_range]
  rfl
theorem cleared_one (m : Nat) : ∀ u ∈ clearedR m, u.oneCell' = true := by
  intro u hu
  unfold clearedR Builtin.zeroCells at hu
  rw [Array.mem_toList_iff, Array.mem_map] at hu
  obtain ⟨i, _, rfl⟩ := hu
  have hlt : i % zeroR.v.cells.size < 10 := Nat.mod_lt _ (by decide)
  generalize i % zeroR.v.cells.size = j at *
  have hj : j = 0 ∨ j = 1 ∨ j = 2 ∨ j = 3 ∨ j = 4 ∨ j = 5 ∨ j = 6 ∨ j = 7 ∨ j = 8 ∨ j = 9 := by omega
  rcases hj with rfl | rfl | rfl | rfl | rfl | rfl | rfl | rfl | rfl | rfl <;> rfl
theorem zero_row (w : World) : (zeroValue 55).run Tryz.prog w = .ok zeroR.v w := Tryz.zeroValue55 w
theorem clear_rows {w : World} {base g n cap : Nat} {rs : List R} (h : OwnR w base (.slice (some ⟨g, 0, none⟩) n cap) rs) (hn : rs.length = n) (k : Nat) (hk : k < n) (ty : TypeId) (c : Nat) :
    (Builtin.clear_ #[37] ty #[.slice (some ⟨g, k * 10, none⟩) (n - k) c]).run Tryz.prog w = .ok (.tuple #[]) (w.setCells g (k * 10) (clearedR (n - k))) := by
  have hst := run_storeCells_cells (P := Tryz.prog) g (k * 10) (clearedR (n - k)) 0 w (by
      intro j hj
      rw [cleared_length] at hj
      have e : k * 10 + j = (k * 10 + j) / 10 * 10 + (k * 10 + j) % 10 := by omega
      rw [Nat.add_zero, e, h.at hn ((k * 10 + j) / 10) (by omega) ((k * 10 + j) % 10) (by omega)]
      have hm : (k * 10 + j) % 10 < 10 := by omega
      rw [Array.getElem?_eq_getElem (show (k * 10 + j) % 10 < (rowCells _).size from hm)]
      rfl) (fun j _ => h.frz hn _) (cleared_one _)
  simp only [Nat.add_zero] at hst
  unfold clearedR at hst ⊢
  obtain ⟨m, hm⟩ : ∃ m, n - k = m + 1 := ⟨n - k - 1, by omega⟩
  rw [hm] at hst ⊢
  simp only [zeroR, R.v] at hst ⊢
  simp [Builtin.clear_, run_underlying Tryz.underlying37, zero_row, zeroR, R.v, hst]
def quietAt (rs : List R) (k : Nat) : Prop := ∀ j, j < k → quietV (rs.getD j zeroR) = false
theorem FitR.get {rs : List R} (h : FitR rs) (j : Nat) (hj : j < rs.length) : (rs.getD j zeroR).Fit := h j hj
def IdxQ (w : World) (rs : List R) (e : Ending) (w' : World) : Prop := ((e = .returned (.int .i64 (-1)) ∧ quietAt rs rs.length) ∨ ∃ k : Nat, k < rs.length ∧ e = .returned (.int .i64 k) ∧ quietAt rs k ∧ quietV (rs.getD k zeroR) = true) ∧ Below w.heap.size w w'
set_option maxRecDepth 100000 in
set_option maxHeartbeats 4000000 in
theorem iIdx_any (w : World) (v : Value) (rs : List R) (h : RowsArg w v rs) (hf : FitR rs) : Calls Tryz.prog 143 #[v, .func (.func 132) #[] #[]] w (IdxQ w rs) := by
  obtain ⟨A, cap, rfl, h1, h2, h3⟩ := h
  unfold maxLen at h2
  have HI := Lib.hid (fun (e : Ending) (w' : World) (h : ((e = .returned (.int .i64 (-1)) ∧ quietAt rs rs.length) ∨ ∃ k : Nat, k < rs.length ∧ e = .returned (.int .i64 k) ∧ quietAt rs k ∧ quietV (rs.getD k zeroR) = true)) (hb : Below w.heap.size w w') => show IdxQ w rs e w' from ⟨h, hb⟩)
  have HF := Lib.hid hf
  clear hf
  generalize hn : rs.length = n at *
  have HNL := Lib.hid hn
  clear hn
  have H3 := Lib.hid h3
  clear h3
  go_enter Tryz.func143, Tryz.ntmps143
  go_wp2_with fail
  go_loopw [8] (fun i wr => ∃ j : Nat, j ≤ n ∧ i = .int .i64 j ∧ quietAt rs j ∧ Below w.heap.size w wr) (fun i _ => n - (intOf i).toNat)
  case atStart => exact ⟨0, Nat.zero_le _, rfl, fun j hj => absurd hj (Nat.not_lt_zero _), Below.refl _ _⟩
  case round =>
    obtain ⟨j, hj, rfl, hq, hbl⟩ := hrel
    have HQ := Lib.hid hq
    clear hq
    by_cases hlt : j < n
    · obtain ⟨b, off, rfl, hb, hc⟩ := H3.out (by omega)
      obtain ⟨x0, x1, x2, x3, x4, x5, x6, x7, x8, x9⟩ := ((hc j hlt).below hb hbl).get
      have hfj := HF.out j (by rw [HNL.out]; exact hlt)
      have HC := fun W => Lib.hid (iQuiet_any W (rs.getD j zeroR) hfj)
      have HB := Lib.hid hbl
      have HQ2 := Lib.hid (fun (q : quietV (rs.getD j zeroR) = false) => (show quietAt rs (j + 1) from fun i hi => by
        by_cases e : i = j
        · subst e; exact q
        · exact HQ.out i (by omega)))
      have HQ3 := Lib.hid (fun (q : quietV (rs.getD j zeroR) = true) => q)
      clear hc hbl hfj
      generalize hr : rs.getD j zeroR = r at *
      have HR := Lib.hid hr
      clear hr
      cases hq : quietV r with
      | true =>
        rw [hq] at HC
        obtain ⟨key, kind, sum, st, last, n', mn, mx, total, dropped⟩ := r
        unfold R.v at HC
        simp only at *
        go_wp2_with fail
        refine (HC _).out.mono ?_
        rintro e w2 ⟨rfl, hb2⟩
        have HB2 := Lib.hid (HB.out.trans (hb2.mono HB.out.size))
        clear hb2
        go_wp2_with fail
        go_ret
        exact HI.out _ _ (.inr ⟨j, hlt, rfl, HQ.out, by rw [HR.out]; exact hq⟩) HB2.out
      | false =>
        rw [hq] at HC
        have HQN := Lib.hid (HQ2.out hq)
        clear hq HQ2 HQ3
        obtain ⟨key, kind, sum, st, last, n', mn, mx, total, dropped⟩ := r
        unfold R.v at HC
        simp only at *
        go_wp2_with fail
        refine (HC _).out.mono ?_
        rintro e w2 ⟨rfl, hb2⟩
        have HB2 := Lib.hid (HB.out.trans (hb2.mono HB.out.size))
        clear hb2
        go_wp2_with fail
        go_roundw
        case rel => exact ⟨j + 1, by omega, by go_num, HQN.out, HB2.out⟩
        case measure => simp [intOf]; omega
    · have hjn : j = n := by omega
      subst hjn
      have HB := Lib.hid hbl
      clear hbl
      go_wp2_with fail
      go_ret
      exact HI.out _ _ (.inl ⟨rfl, HQ.out⟩) HB.out
end Go.Proofs.YtnlepnfdgdbkoaaGreatDoor
end
section
namespace Go.Proofs.YtnlepnfdgdbkoaaGreatDoor
open Go.RowKit M
set_option linter.unusedVariables false
set_option linter.unusedSimpArgs false
def InPlace (w : World) (base g cap : Nat) (rs : List R) (e : Ending) (w' : World) : Prop := ∃ n : Nat, n = rs.length ∧ e = .returned (.slice (some ⟨g, 0, none⟩) n cap) ∧ OwnR w' base (.slice (some ⟨g, 0, none⟩) n cap) rs ∧ w.grownBy w' (some g)
theorem grown_below {w w' : World} {g : Option Nat} (h : Below w.heap.size w w') : w.grownBy w' g := ⟨h.os, h.tape, h.output, h.size, fun i hi _ => h.block i hi⟩
theorem OwnR.inB {w : World} {base g n cap : Nat} {rs : List R} (h : OwnR w base (.slice (some ⟨g, 0, none⟩) n cap) rs) : base ≤ g ∧ g < w.heap.size := World.ownsRow.lt h g rfl
theorem OwnR.capLe {w : World} {base g n cap : Nat} {rs : List R} (h : OwnR w base (.slice (some ⟨g, 0, none⟩) n cap) rs) (hn : rs.length = n) : n ≤ cap ∧ cap ≤ maxLen := by
  subst hn
  rcases h.2 with ⟨e, _⟩ | ⟨g', cap', cur, e1, hb, hg, hn, hm, hc, ht⟩
  · cases e
  · injection e1 with e2 e3 e4; subst e4; exact ⟨hn, hm⟩
def keepQ (rs : List R) (j : Nat) : Bool := !quietV (rs.getD j zeroR)
theorem keepQ_all (rs : List R) : keptL (keepQ rs) rs rs.length = rs.filter fun r => !quietV r := keptL_filter (fun r => !quietV r) rs
theorem filter_none {rs : List R} (h : quietAt rs rs.length) : (rs.filter fun r => !quietV r) = rs := by
  rw [← keepQ_all, keptL_all (Nat.le_refl _) (fun j hj => by unfold keepQ; rw [h j hj]; rfl), List.take_length]
set_option maxRecDepth 100000 in
set_option maxHeartbeats 8000000 in
theorem iDel_any (w : World) (base g n cap : Nat) (rs : List R) (h : OwnR w base (.slice (some ⟨g, 0, none⟩) n cap) rs) (hn : rs.length = n) (hf : FitR rs) :
    Calls Tryz.prog 131 #[.slice (some ⟨g, 0, none⟩) n cap, .func (.func 132) #[] #[]] w (InPlace w base g cap (rs.filter fun r => !quietV r)) := by
  have HX := Lib.hid (iIdx_any w _ rs h.arg hf)
  obtain ⟨hc1, hc2⟩ := h.capLe hn
  have hg := h.inB.2
  have HO := Lib.hid h
  have HNL := Lib.hid hn
  have HF := Lib.hid hf
  unfold maxLen at hc2
  clear h hf hn
  go_enter Tryz.func131, Tryz.ntmps131
  go_wp2_with fail
  refine HX.out.mono ?_
  rintro e w2 ⟨hcase, hb2⟩
  have HO2 := Lib.hid (HO.out.below hb2)
  have HG2 := Lib.hid (grown_below (g := some g) hb2)
  rcases hcase with ⟨rfl, hq⟩ | ⟨k, hk, rfl, hq, hqk⟩
  · have HE := Lib.hid (filter_none hq)
    clear hq HX hb2
    go_wp2_with fail
    go_ret
    exact ⟨n, by rw [HE.out, HNL.out], rfl, by rw [HE.out]; exact HO2.out, HG2.out⟩
  · rw [HNL.out] at hk
    have hne : ((k : Int) == -1) = false := by rw [beq_eq_false_iff_ne]; omega
    have hs := strikeV_start (kp := keepQ rs) (l := rs) (k := k) (by rw [HNL.out]; exact hk) (fun j hj => by unfold keepQ; rw [hq j hj]; rfl) (by unfold keepQ; rw [hqk]; rfl)
    have HS := Lib.hid hs
    clear hs hq hqk HX hb2
    go_wp2_with fail
    go_loopw [5, 6] (fun i j wr => ∃ m : Nat, m ≤ n ∧ j = .int .i64 m ∧ i = .int .i64 ((keptL (keepQ rs) rs m).length : Nat) ∧ (keptL (keepQ rs) rs m).length < m ∧ OwnR wr base (.slice (some ⟨g, 0, none⟩) n cap) (strikeV (keepQ rs) rs m) ∧ w.grownBy wr (some g)) (fun _ j _ => n - (intOf j).toNat)
    case atStart =>
      have e : (keptL (keepQ rs) rs (k + 1)).length = k := by rw [HS.out.1, List.length_take, HNL.out]; omega
      exact ⟨k + 1, by omega, by go_num, by rw [e], by omega, by rw [HS.out.2]; exact HO2.out, HG2.out⟩
    case round =>
      obtain ⟨m, hm, rfl, rfl, hkm, ho, hgr⟩ := hrel
      clear HO2 HG2 HS
      have hsl : (strikeV (keepQ rs) rs m).length = n := by rw [strikeV_length (by rw [HNL.out]; exact hm), HNL.out]
      have HO2 := Lib.hid ho
      have HG2 := Lib.hid hgr
      have HSL := Lib.hid hsl
      by_cases hlt : m < n
      · have hrow := ho.at hsl m hlt
        rw [strikeV_high m (by omega)] at hrow
        have hfj := HF.out m (by rw [HNL.out]; exact hlt)
        have HC := fun W => Lib.hid (iQuiet_any W (rs.getD m zeroR) hfj)
        have HK := Lib.hid (fun (q : quietV (rs.getD m zeroR) = false) => strikeV_keep (kp := keepQ rs) (l := rs) (m := m) (by rw [HNL.out]; exact hlt) (by unfold keepQ; rw [q]; rfl))
        have HKN := Lib.hid (fun (q : quietV (rs.getD m zeroR) = true) => strikeV_skip (kp := keepQ rs) (l := rs) (m := m) (by unfold keepQ; rw [q]; rfl))
        generalize hL : (keptL (keepQ rs) rs m).length = L at *
        generalize rs.getD m zeroR = r at *
        have HL := Lib.hid hL
        clear hfj ho hgr hsl hL
        obtain ⟨x0, x1, x2, x3, x4, x5, x6, x7, x8, x9⟩ := hrow.get
        clear hrow
        have hLn : L < n := by omega
        have hltz : (m : Int) < (n : Int) := by omega
        have hLz : (L : Int) < (n : Int) := by omega
        cases hq : quietV r with
        | true =>
          rw [hq] at HC
          have HK2 := Lib.hid (HKN.out hq)
          clear hq HK HKN
          obtain ⟨key, kind, sum, st, last, n', mn, mx, total, dropped⟩ := r
          unfold R.v at HC
          simp only at *
          go_wp2_with fail
          refine (HC _).out.mono ?_
          rintro e w3 ⟨rfl, hb3⟩
          have HO3 := Lib.hid ((HO2.out.alloc (.cells (rowCells ⟨key, kind, sum, st, last, n', mn, mx, total, dropped⟩) 55)).below hb3)
          have HG3 := Lib.hid (grownR_trans HG2.out (grown_below (g := some g) (((Below.refl _ _).alloc (Nat.le_refl _) (.cells (rowCells ⟨key, kind, sum, st, last, n', mn, mx, total, dropped⟩) 55)).trans (hb3.mono (by simp [go_sem])))))
          clear hb3
          go_wp2_with fail
          go_roundw
          case rel => exact ⟨m + 1, by omega, by go_num, by rw [HK2.out.1, HL.out], by rw [HK2.out.1, HL.out]; omega, by rw [HK2.out.2]; exact HO3.out, HG3.out⟩
          case measure => simp [intOf]; omega
        | false =>
          rw [hq] at HC
          have HK2 := Lib.hid (HK.out hq)
          clear hq HK HKN
          obtain ⟨key, kind, sum, st, last, n', mn, mx, total, dropped⟩ := r
          unfold R.v at HC
          simp only at *
          go_wp2_with fail
          refine (HC _).out.mono ?_
          rintro e w3 ⟨rfl, hb3⟩
          have hx3 := (rowAt_new wr _ ⟨key, kind, sum, st, last, n', mn, mx, total, dropped⟩ rfl).below hb3
          have HO3 := Lib.hid ((HO2.out.alloc (.cells (rowCells ⟨key, kind, sum, st, last, n', mn, mx, total, dropped⟩) 55)).below hb3)
          have HG3 := Lib.hid (grownR_trans HG2.out (grown_below (g := some g) (((Below.refl _ _).alloc (Nat.le_refl _) (.cells (rowCells ⟨key, kind, sum, st, last, n', mn, mx, total, dropped⟩) 55)).trans (hb3.mono (by simp [go_sem])))))
          obtain ⟨z0, z1, z2, z3, z4, z5, z6, z7, z8, z9⟩ := (HO3.out.at HSL.out L hLn).get
          have zf := HO3.out.frz HSL.out
          clear hb3 x0 x1 x2 x3 x4 x5 x6 x7 x8 x9
          obtain ⟨x0, x1, x2, x3, x4, x5, x6, x7, x8, x9, xf⟩ := hx3.get
          clear hx3
          go_wp2_with fail
          go_roundw
          case rel =>
            have hst := HO3.out.put HSL.out L hLn ⟨key, kind, sum, st, last, n', mn, mx, total, dropped⟩
            exact ⟨m + 1, by omega, by go_num, by rw [HK2.out.1]; go_num, by rw [HK2.out.1]; omega, by rw [HK2.out.2]; exact hst.1, grownR_trans HG3.out hst.2⟩
          case measure => simp [intOf]; omega
      · have hmn : m = n := by omega
        subst hmn
        have hE := strikeV_done (keepQ rs) rs m
        have hF : keptL (keepQ rs) rs m = rs.filter fun r => !quietV r := by rw [← keepQ_all, HNL.out]
        rw [hF] at hE hkm
        rw [hF]
        have hcl := fun ty c => clear_rows ho hsl (rs.filter fun r => !quietV r).length hkm ty c
        have HCUT := Lib.hid (fun cs => ho.cut hsl (rs.filter fun r => !quietV r).length (Nat.le_of_lt hkm) cs)
        rw [hE] at HCUT
        clear ho hgr hsl hE hF HO2
        have HLL := Lib.hid (rfl : (rs.filter fun r => !quietV r).length = (rs.filter fun r => !quietV r).length)
        generalize hL : (rs.filter fun r => !quietV r).length = L at *
        have HL := Lib.hid hL
        clear hL HLL
        go_wp2_with fail
        go_ret
        exact ⟨L, HL.out.symm, rfl, (HCUT.out _).1, grownR_trans HG2.out (HCUT.out _).2⟩
end Go.Proofs.YtnlepnfdgdbkoaaGreatDoor
end
