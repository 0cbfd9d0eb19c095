/-
  What a sample and a count make of a valid row: a valid row, its numbers as promised.
-/
import Derived.Test.YtbhhhakfjmaglaaGreatRowM
import Derived.Test.YtbhhhakfjmaglaaGreatZb
namespace Go.Proofs.YtbhhhakfjmaglaaGreat
open Go.RowKit M
set_option linter.unusedVariables false
theorem rowOk_timer {r : R} (hk : r.kind = 3) : rowOkV r = true ↔ keyOkV r.key = true ∧ (r.sum = 0 ∧ r.set = false ∧ r.last = 0) ∧ timerV r = true := by
  unfold rowOkV
  rw [if_neg (by omega), if_neg (by omega), if_pos hk, Bool.and_eq_true, Bool.and_eq_true, decide_eq_true_eq]
theorem timer_iff {r : R} (hn : r.n ≠ 0) : timerV r = true ↔ ((1 ≤ r.n ∧ r.n ≤ 3) ∧ (0 ≤ r.mn ∧ r.mn ≤ r.mx) ∧ r.mx ≤ 65535 ∧ (r.mn * r.n ≤ r.total ∧ r.total ≤ r.mx * r.n) ∧ (0 ≤ r.dropped ∧ r.dropped ≤ 65535) ∧ (r.dropped = 0 ∨ r.n = 3)) := by
  unfold timerV
  rw [if_neg hn, decide_eq_true_eq]
theorem timer_zero {r : R} (hn : r.n = 0) : timerV r = true ↔ (r.mn = 0 ∧ r.mx = 0 ∧ r.total = 0 ∧ r.dropped = 0) := by
  unfold timerV
  rw [if_pos hn, decide_eq_true_eq]
theorem sampled_full {r : R} {v : Int} (h : rowOkV r = true ∧ r.kind = 3 ∧ (0 ≤ v ∧ v ≤ 65535)) (hn : r.n = 3) : rowOkV (sampledV r v) = true ∧ (sampledV r v).n = 3 ∧ (sampledV r v).dropped = min (r.dropped + 1) 65535 := by
  rw [sampled_3 h hn]
  have h' := (rowOk_timer h.2.1).1 h.1
  have ht := (timer_iff (by omega)).1 h'.2.2
  refine ⟨(rowOk_timer (by exact h.2.1)).2 ⟨h'.1, h'.2.1, (timer_iff (by simp only; omega)).2 ?_⟩, hn, ?_⟩
  · simp only
    refine ⟨ht.1, ht.2.1, ht.2.2.1, ht.2.2.2.1, ?_, .inr hn⟩
    split <;> omega
  · simp only; split <;> omega
theorem sampled_room {r : R} {v : Int} (h : rowOkV r = true ∧ r.kind = 3 ∧ (0 ≤ v ∧ v ≤ 65535)) (hn : r.n ≠ 3) :
    rowOkV (sampledV r v) = true ∧ ((sampledV r v).n = r.n + 1 ∧ (sampledV r v).dropped = 0 ∧ r.dropped = 0) ∧ (sampledV r v).mn ≤ v ∧ v ≤ (sampledV r v).mx ∧ (sampledV r v).total = r.total + v := by
  have h' := (rowOk_timer h.2.1).1 h.1
  obtain ⟨v0, v1⟩ := h.2.2
  by_cases h0 : r.n = 0
  · have ht := (timer_zero h0).1 h'.2.2
    rw [sampled_0 h h0]
    refine ⟨(rowOk_timer (by exact h.2.1)).2 ⟨h'.1, h'.2.1, (timer_iff (by simp)).2 ?_⟩, ⟨by simp only; omega, ht.2.2.2, ht.2.2.2⟩, by simp, by simp, rfl⟩
    simp only
    exact ⟨by omega, by omega, by omega, by omega, by omega, .inl ht.2.2.2⟩
  · have ht := (timer_iff h0).1 h'.2.2
    obtain ⟨⟨a1, a2⟩, ⟨b1, b2⟩, c1, ⟨d1, d2⟩, ⟨e1, e2⟩, f1⟩ := ht
    have hd : r.dropped = 0 := by omega
    rw [sampled_n h hn h0]
    refine ⟨(rowOk_timer (by exact h.2.1)).2 ⟨h'.1, h'.2.1, (timer_iff (by simp only; omega)).2 ?_⟩, ⟨rfl, hd, hd⟩, by simp only; split <;> omega, by simp only; split <;> omega, rfl⟩
    have hc : r.n = 1 ∨ r.n = 2 := by omega
    simp only
    rcases hc with hc | hc
    · rw [hc] at d1 d2 ⊢
      refine ⟨by omega, ?_, ?_, ?_, by omega, .inl hd⟩ <;> ((repeat' split) <;> omega)
    · rw [hc] at d1 d2 ⊢
      refine ⟨by omega, ?_, ?_, ?_, by omega, .inl hd⟩ <;> ((repeat' split) <;> omega)
theorem counted_ok {r : R} {v : Int} (h : countedV r v ≠ r) : rowOkV (countedV r v) = true ∧ (countedV r v).sum = (r.sum + v) % 281474976710656 ∧ 0 ≤ r.sum ∧ 0 ≤ v := by
  by_cases hc : rowOkV r = true ∧ r.kind = 1 ∧ (0 ≤ v ∧ v ≤ 65535)
  · have hf := count_facts hc.1 hc.2.1
    rw [counted_yes hc]
    refine ⟨?_, rfl, hf.1, hc.2.2.1⟩
    have h1 := hc.1
    unfold rowOkV at h1 ⊢
    simp only
    rw [if_pos hc.2.1, Bool.and_eq_true] at h1 ⊢
    refine ⟨h1.1, ?_⟩
    have h2 := h1.2
    unfold countV at h2 ⊢
    simp only [decide_eq_true_eq] at h2 ⊢
    exact ⟨by omega, h2.2⟩
  · exact absurd (counted_no hc) h
theorem quiet_zero (key : ByteArray) (kind : Int) : quietV ⟨key, kind, 0, false, 0, 0, 0, 0, 0, 0⟩ = true := rfl
end Go.Proofs.YtbhhhakfjmaglaaGreat
