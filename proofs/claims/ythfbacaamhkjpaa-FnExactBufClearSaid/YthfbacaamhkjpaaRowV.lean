/-
  Chapter 7 in plain words: a row, when it is valid, when it tells of nothing; what a sample and a count make of it.
-/
import Derived.Test.YthfbacaamhkjpaaKeyV
namespace Go.Proofs.Ythfbacaamhkjpaa.M
open Go.RowKit
set_option linter.unusedVariables false
structure R where
  key : ByteArray
  kind : Int
  sum : Int
  set : Bool
  last : Int
  n : Int
  mn : Int
  mx : Int
  total : Int
  dropped : Int
/-- The row as a value. -/
def R.v (r : R) : Value := .agg #[.string r.key, .int .i64 r.kind, .int .i64 r.sum, .bool r.set, .int .i64 r.last, .int .i64 r.n, .int .i64 r.mn, .int .i64 r.mx, .int .i64 r.total, .int .i64 r.dropped]
/-- The cells of a row. -/
def rowCells (r : R) : Array Value := #[.string r.key, .int .i64 r.kind, .int .i64 r.sum, .bool r.set, .int .i64 r.last, .int .i64 r.n, .int .i64 r.mn, .int .i64 r.mx, .int .i64 r.total, .int .i64 r.dropped]
/-- The row of zeros. -/
def zeroR : R := ⟨⟨#[]⟩, 0, 0, false, 0, 0, 0, 0, 0, 0⟩
def inW (x : Int) : Prop := -9223372036854775808 ≤ x ∧ x ≤ 9223372036854775807
/-- Each field fits its type. -/
structure R.Fit (r : R) : Prop where
  key : r.key.size ≤ maxLen
  kind : inW r.kind
  sum : inW r.sum
  last : inW r.last
  n : inW r.n
  mn : inW r.mn
  mx : inW r.mx
  total : inW r.total
  dropped : inW r.dropped
def quietV (r : R) : Bool := r.sum == 0 && (!r.set && r.n == 0)
def timerV (r : R) : Bool :=
  if r.n = 0 then decide (r.mn = 0 ∧ r.mx = 0 ∧ r.total = 0 ∧ r.dropped = 0)
  else decide ((1 ≤ r.n ∧ r.n ≤ 3) ∧ (0 ≤ r.mn ∧ r.mn ≤ r.mx) ∧ r.mx ≤ 65535 ∧ (r.mn * r.n ≤ r.total ∧ r.total ≤ r.mx * r.n) ∧ (0 ≤ r.dropped ∧ r.dropped ≤ 65535) ∧ (r.dropped = 0 ∨ r.n = 3))
def countV (r : R) : Bool := decide ((0 ≤ r.sum ∧ r.sum ≤ 281474976710655) ∧ r.set = false ∧ r.last = 0 ∧ r.n = 0 ∧ r.mn = 0 ∧ r.mx = 0 ∧ r.total = 0 ∧ r.dropped = 0)
def gaugeRV (r : R) : Bool := decide ((0 ≤ r.last ∧ r.last ≤ 65535) ∧ (r.set = true ∨ r.last = 0) ∧ r.sum = 0 ∧ r.n = 0 ∧ r.mn = 0 ∧ r.mx = 0 ∧ r.total = 0 ∧ r.dropped = 0)
def rowOkV (r : R) : Bool := keyOkV r.key && (if r.kind = 1 then countV r else if r.kind = 2 then gaugeRV r else if r.kind = 3 then decide (r.sum = 0 ∧ r.set = false ∧ r.last = 0) && timerV r else false)
/-- A row with one sample more. -/
def sampledV (r : R) (v : Int) : R :=
  if rowOkV r = true ∧ r.kind = 3 ∧ (0 ≤ v ∧ v ≤ 65535) then
    (if r.n = 3 then { r with dropped := if r.dropped < 65535 then r.dropped + 1 else 65535 }
     else if r.n = 0 then { r with mn := v, mx := v, total := r.total + v, n := 1 }
     else { r with mn := if r.mn ≤ v then r.mn else v, mx := if v ≤ r.mx then r.mx else v, total := r.total + v, n := r.n + 1 })
  else r
/-- A row with v counted. -/
def countedV (r : R) (v : Int) : R := if rowOkV r = true ∧ r.kind = 1 ∧ (0 ≤ v ∧ v ≤ 65535) then { r with sum := (r.sum + v) % 281474976710656 } else r
theorem timer_facts {r : R} (h : rowOkV r = true) (hk : r.kind = 3) : r.sum = 0 ∧ r.set = false ∧ r.last = 0 ∧ (0 ≤ r.n ∧ r.n ≤ 3) ∧ (0 ≤ r.mn ∧ r.mn ≤ r.mx) ∧ r.mx ≤ 65535 ∧ (0 ≤ r.total ∧ r.total ≤ 196605) ∧ (0 ≤ r.dropped ∧ r.dropped ≤ 65535) := by
  unfold rowOkV at h
  rw [if_neg (by omega), if_neg (by omega), if_pos hk, Bool.and_eq_true, Bool.and_eq_true, decide_eq_true_eq] at h
  obtain ⟨_, ⟨h1, h2, h3⟩, ht⟩ := h
  unfold timerV at ht
  split at ht
  · rename_i h0
    simp only [decide_eq_true_eq] at ht
    exact ⟨h1, h2, h3, by omega⟩
  · simp only [decide_eq_true_eq] at ht
    obtain ⟨⟨a1, a2⟩, ⟨b1, b2⟩, c, ⟨d1, d2⟩, e, _⟩ := ht
    have hn : r.n = 1 ∨ r.n = 2 ∨ r.n = 3 := by omega
    refine ⟨h1, h2, h3, ⟨by omega, a2⟩, ⟨b1, b2⟩, c, ?_, e⟩
    rcases hn with h | h | h <;> rw [h] at d1 d2 <;> omega
theorem count_facts {r : R} (h : rowOkV r = true) (hk : r.kind = 1) : 0 ≤ r.sum ∧ r.sum ≤ 281474976710655 := by
  unfold rowOkV at h
  rw [if_pos hk, Bool.and_eq_true] at h
  have := h.2
  unfold countV at this
  simp only [decide_eq_true_eq] at this
  exact this.1
end Go.Proofs.Ythfbacaamhkjpaa.M
