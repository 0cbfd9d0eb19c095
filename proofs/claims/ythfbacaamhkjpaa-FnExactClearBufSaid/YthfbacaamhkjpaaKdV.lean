/-
  Chapter 5 in plain words: the words of the kinds and of the codes; a key with its kind in one number; a gauge's stamp and value in one number.
-/
import Derived.Test.YthfbacaamhkjpaaKeyV
namespace Go.Proofs.Ythfbacaamhkjpaa.M
open Go.RowKit
set_option linter.unusedVariables false
def kindW (k : Int) : ByteArray := if k = 1 then ⟨#[99]⟩ else if k = 2 then ⟨#[103]⟩ else if k = 3 then ⟨#[109, 115]⟩ else ⟨#[]⟩
def kindOfV (s : ByteArray) : Int := if ⟨#[99]⟩ = s then 1 else if ⟨#[103]⟩ = s then 2 else if ⟨#[109, 115]⟩ = s then 3 else 0
def codeW (k : Int) : ByteArray := if k = 0 then ⟨#[111, 107]⟩ else if k = 1 then ⟨#[97, 114, 103, 115]⟩ else if k = 2 then ⟨#[110, 111, 110, 101]⟩ else if k = 3 then ⟨#[102, 117, 108, 108]⟩ else if k = 4 then ⟨#[99, 108, 97, 115, 104]⟩ else if k = 5 then ⟨#[100, 114, 111, 112, 112, 101, 100]⟩ else ⟨#[]⟩
theorem kindW_no {k : Int} (h : ¬ (1 ≤ k ∧ k ≤ 3)) : kindW k = ⟨#[]⟩ := by unfold kindW; rw [if_neg (by omega), if_neg (by omega), if_neg (by omega)]
theorem codeW_no {k : Int} (h : ¬ (0 ≤ k ∧ k ≤ 5)) : codeW k = ⟨#[]⟩ := by unfold codeW; rw [if_neg (by omega), if_neg (by omega), if_neg (by omega), if_neg (by omega), if_neg (by omega), if_neg (by omega)]
theorem kindW_some {k : Int} (h : 1 ≤ k ∧ k ≤ 3) : kindW k ≠ ⟨#[]⟩ := by
  have : k = 1 ∨ k = 2 ∨ k = 3 := by omega
  rcases this with rfl | rfl | rfl <;> decide
theorem kindW_size (k : Int) : (kindW k).size ≤ 2 := by
  unfold kindW; (repeat' split) <;> decide
theorem kindOf_word {k : Int} (h : 1 ≤ k ∧ k ≤ 3) : kindOfV (kindW k) = k := by
  have : k = 1 ∨ k = 2 ∨ k = 3 := by omega
  rcases this with rfl | rfl | rfl <;> decide
theorem kindOf_no {s : ByteArray} (h1 : kindW 1 ≠ s) (h2 : kindW 2 ≠ s) (h3 : kindW 3 ≠ s) : kindOfV s = 0 := by
  have e1 : kindW 1 = ⟨#[99]⟩ := by decide
  have e2 : kindW 2 = ⟨#[103]⟩ := by decide
  have e3 : kindW 3 = ⟨#[109, 115]⟩ := by decide
  rw [e1] at h1; rw [e2] at h2; rw [e3] at h3
  unfold kindOfV; rw [if_neg h1, if_neg h2, if_neg h3]
/-- A key and its kind in one number. -/
def tagV (s : ByteArray) (k : Int) : Int := if keyOkV s = true ∧ (1 ≤ k ∧ k ≤ 3) then (packV s : Int) * 4 + k else 0
/-- The key and the kind of a number. -/
def untagV (n : Int) : Option (ByteArray × Int) := if 1 ≤ n ∧ n ≤ 17179869183 then (match unV (n / 4) with | some s => if 1 ≤ n % 4 then some (s, n % 4) else none | none => none) else none
def untT : Option (ByteArray × Int) → Value
  | some x => .tuple #[.string x.1, .int .i64 x.2]
  | none => .tuple #[.string ⟨#[]⟩, .int .i64 0]
theorem untT_some (s : ByteArray) (k : Int) : untT (some (s, k)) = .tuple #[.string s, .int .i64 k] := rfl
theorem untT_none : untT none = .tuple #[.string ⟨#[]⟩, .int .i64 0] := rfl
theorem tagV_yes {s : ByteArray} {k : Int} (h : keyOkV s = true) (hk : 1 ≤ k ∧ k ≤ 3) : tagV s k = (packV s : Int) * 4 + k := if_pos ⟨h, hk⟩
theorem tagV_no {s : ByteArray} {k : Int} (h : ¬ (keyOkV s = true ∧ (1 ≤ k ∧ k ≤ 3))) : tagV s k = 0 := if_neg h
theorem tagV_bd (s : ByteArray) (k : Int) : 0 ≤ tagV s k ∧ tagV s k ≤ 17179869183 := by
  have := packV_lt s
  unfold tagV; split <;> omega
/-- A key and its kind are read from their number. -/
theorem untag_tag {s : ByteArray} {k : Int} (h : keyOkV s = true) (hk : 1 ≤ k ∧ k ≤ 3) : untagV (tagV s k) = some (s, k) := by
  have hp := packV_lt s
  obtain ⟨hu, h1⟩ := unV_pack h
  rw [tagV_yes h hk]
  unfold untagV
  have e4 : ((packV s : Int) * 4 + k) / 4 = (packV s : Nat) := by omega
  have m4 : ((packV s : Int) * 4 + k) % 4 = k := by omega
  rw [if_pos (by omega), e4, m4, hu]
  simp only
  rw [if_pos hk.1]
theorem untag_zero : untagV 0 = none := if_neg (by omega)
/-- A number that has a key and a kind is their number. -/
theorem tag_untag {n : Int} {s : ByteArray} {k : Int} (h : untagV n = some (s, k)) : tagV s k = n ∧ keyOkV s = true ∧ 1 ≤ k ∧ k ≤ 3 := by
  unfold untagV at h
  split at h
  · split at h
    · rename_i h1 _ s' hu
      split at h
      · injection h with h
        injection h with h2 h3
        subst h2; subst h3
        obtain ⟨a, b⟩ := pack_unV hu
        refine ⟨?_, a, by omega, by omega⟩
        rw [tagV_yes a (by omega), b]; omega
      · cases h
    · cases h
  · cases h
/-- A gauge's stamp and value in one number, and back. -/
def gaugeV (a v : Int) : Int := if (1 ≤ a ∧ a ≤ 65535) ∧ (0 ≤ v ∧ v ≤ 65535) then a * 65536 + v else 0
def ungA (n : Int) : Int := if 65536 ≤ n ∧ n ≤ 4294967295 then n / 65536 else 0
def ungV (n : Int) : Int := if 65536 ≤ n ∧ n ≤ 4294967295 then n % 65536 else 0
theorem gaugeV_yes {a v : Int} (h : (1 ≤ a ∧ a ≤ 65535) ∧ (0 ≤ v ∧ v ≤ 65535)) : gaugeV a v = a * 65536 + v := if_pos h
theorem gaugeV_no {a v : Int} (h : ¬ ((1 ≤ a ∧ a ≤ 65535) ∧ (0 ≤ v ∧ v ≤ 65535))) : gaugeV a v = 0 := if_neg h
theorem ung_gauge {a v : Int} (h : (1 ≤ a ∧ a ≤ 65535) ∧ (0 ≤ v ∧ v ≤ 65535)) : ungA (gaugeV a v) = a ∧ ungV (gaugeV a v) = v := by
  rw [gaugeV_yes h]; unfold ungA ungV; rw [if_pos (by omega), if_pos (by omega)]; omega
end Go.Proofs.Ythfbacaamhkjpaa.M
