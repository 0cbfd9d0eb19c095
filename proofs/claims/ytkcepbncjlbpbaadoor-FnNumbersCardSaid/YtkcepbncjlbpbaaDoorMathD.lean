/-
  Plain mathematics of reading hexadecimal digits, with no program in sight.
-/
import Derived.Test.YtkcepbncjlbpbaaDoorMathC
namespace Go.Proofs.YtkcepbncjlbpbaaDoor.M
open Go.RowKit
/-- What a byte says as a lowercase hexadecimal digit; -1 where it is none. -/
def hv (x : Int) : Int := if 48 ≤ x ∧ x ≤ 57 then x - 48 else if 97 ≤ x ∧ x ≤ 102 then x - 87 else -1
theorem hv_bd (x : Int) : -1 ≤ hv x ∧ hv x ≤ 15 := by unfold hv; split <;> (try split) <;> omega
theorem hv_low {x : Int} (h0 : 48 ≤ x) (h1 : x ≤ 57) : hv x = x - 48 := by unfold hv; rw [if_pos ⟨h0, h1⟩]
theorem hv_high {x : Int} (h0 : 97 ≤ x) (h1 : x ≤ 102) : hv x = x - 97 + 10 := by unfold hv; rw [if_neg (by omega), if_pos ⟨h0, h1⟩]; omega
theorem hv_none {x : Int} (h0 : ¬ (48 ≤ x ∧ x ≤ 57)) (h1 : ¬ (97 ≤ x ∧ x ≤ 102)) : hv x = -1 := by unfold hv; rw [if_neg h0, if_neg h1]
theorem hv_hexd (k : Nat) (h : k < 16) : hv ((hexd k).toNat : Int) = k := by
  have : ∀ k : Nat, k < 16 → hv ((hexd k).toNat : Int) = k := by decide
  exact this k h
/-- A byte that is none of the sixteen digits says nothing. -/
theorem hv_missing (x : Int) (h : ∀ k : Nat, k < 16 → ((hexd k).toNat : Int) ≠ x) : hv x = -1 := by
  apply hv_none
  · intro hx
    obtain ⟨k, hk⟩ := Int.eq_ofNat_of_zero_le (show 0 ≤ x - 48 by omega)
    apply h k (by omega)
    unfold hexd
    rw [if_pos (by omega)]
    simp
    omega
  · intro hx
    obtain ⟨k, hk⟩ := Int.eq_ofNat_of_zero_le (show 0 ≤ x - 87 by omega)
    apply h k (by omega)
    unfold hexd
    rw [if_neg (by omega)]
    simp
    omega
def hvAt (s : ByteArray) (i : Nat) : Int := hv ((s.data.toList.getD i 0).toNat : Int)
theorem hvAt_eq (s : ByteArray) (i : Nat) (h : i < s.size) : hvAt s i = hv (s[i].toNat : Int) := by
  unfold hvAt
  rw [List.getD_eq_getElem?_getD, get_data s i h]; rfl
/-- The byte that the digits 2 j and 2 j + 1 say. -/
def ubAt (s : ByteArray) (j : Nat) : UInt8 := UInt8.ofNat (16 * hvAt s (2 * j) + hvAt s (2 * j + 1)).toNat
def uhl (s : ByteArray) : Nat → List UInt8
  | 0 => []
  | k + 1 => uhl s k ++ [ubAt s k]
theorem uhl_length (s : ByteArray) (k : Nat) : (uhl s k).length = k := by
  induction k with
  | zero => rfl
  | succ k ih => simp [uhl, ih]
theorem uhl_get (s : ByteArray) : ∀ k i, i < k → (uhl s k)[i]? = some (ubAt s i) := by
  intro k
  induction k with
  | zero => intro i h; omega
  | succ k ih =>
    intro i h
    rcases Nat.lt_or_ge i k with h1 | h1
    · rw [uhl, List.getElem?_append_left (by rw [uhl_length]; exact h1)]; exact ih i h1
    · obtain rfl : i = k := by omega
      rw [uhl, List.getElem?_append_right (by rw [uhl_length]; exact h1), uhl_length]; simp
theorem or16 (a b : Int) (a0 : 0 ≤ a) (a1 : a ≤ 15) (b0 : 0 ≤ b) (b1 : b ≤ 15) : bits .or .i64 (a * 16) b = 16 * a + b := by
  rw [bits_join .i64 63 (by decide) wraps_i64 4 _ _ (by omega) (by omega) (by omega) b0 (by omega) (by omega)]; omega
def OkTo (s : ByteArray) (k : Nat) : Prop := ∀ i, i < k → 0 ≤ hvAt s i
instance (s : ByteArray) (k : Nat) : Decidable (OkTo s k) := inferInstanceAs (Decidable (∀ i, i < k → 0 ≤ hvAt s i))
def uhT (s : ByteArray) : Bool := decide (s.size % 2 = 0) && decide (OkTo s s.size)
def uhV (s : ByteArray) : ByteArray := if uhT s = true then ⟨(uhl s (s.size / 2)).toArray⟩ else ⟨#[]⟩
theorem uh_odd {s : ByteArray} (h : s.size % 2 = 1) : uhT s = false := by
  unfold uhT
  rw [decide_eq_false (by omega)]; rfl
theorem uh_bad {s : ByteArray} {i : Nat} (h : i < s.size) (hb : hvAt s i < 0) : uhT s = false := by
  unfold uhT
  have : ¬ OkTo s s.size := fun k => by have := k i h; omega
  rw [decide_eq_false this, Bool.and_false]
theorem uh_good {s : ByteArray} (h : s.size % 2 = 0) (hb : OkTo s s.size) : uhT s = true := by
  unfold uhT
  rw [decide_eq_true h, decide_eq_true hb]; rfl
theorem uhV_no {s : ByteArray} (h : uhT s = false) : uhV s = ⟨#[]⟩ := by unfold uhV; rw [h]; rfl
theorem uhV_yes {s : ByteArray} (h : uhT s = true) : uhV s = ⟨(uhl s (s.size / 2)).toArray⟩ := by unfold uhV; rw [h]; rfl
theorem OkTo.two {s : ByteArray} {i : Nat} (h : OkTo s i) (h0 : 0 ≤ hvAt s i) (h1 : 0 ≤ hvAt s (i + 1)) : OkTo s (i + 2) := by
  intro j hj
  rcases Nat.lt_trichotomy j i with h2 | h2 | h2
  · exact h j h2
  · rw [h2]; exact h0
  · rw [show j = i + 1 by omega]; exact h1
theorem ub_val (s : ByteArray) (j : Nat) (h0 : 0 ≤ hvAt s (2 * j)) (h1 : 0 ≤ hvAt s (2 * j + 1)) : ((ubAt s j).toNat : Int) = 16 * hvAt s (2 * j) + hvAt s (2 * j + 1) := by
  have a := hv_bd ((s.data.toList.getD (2 * j) 0).toNat : Int)
  have b := hv_bd ((s.data.toList.getD (2 * j + 1) 0).toNat : Int)
  have a' : hvAt s (2 * j) ≤ 15 := a.2
  have b' : hvAt s (2 * j + 1) ≤ 15 := b.2
  unfold ubAt
  simp
  omega
end Go.Proofs.YtkcepbncjlbpbaaDoor.M
