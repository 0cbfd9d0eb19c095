/-
  Contracts of chapter 2, the model's and the program's: the check of the cells, looking at a cell.
-/
import Derived.Test.YtfmmhfipibaghaaCells
import Derived.Test.YtfmmhfipibaghaaIn
namespace Go.Proofs.Ytfmmhfipibaghaa
open Go.RowKit M
set_option linter.unusedVariables false
/-- All of the first j numbers can be held by a cell. -/
def AllW (zs : List Int) (j : Nat) : Prop := ∀ m, m < j → isW (zs.getD m 0) = true
theorem AllW.zero (zs : List Int) : AllW zs 0 := fun m h => absurd h (Nat.not_lt_zero _)
theorem AllW.next {zs : List Int} {j : Nat} (h : AllW zs j) (k : isW (zs.getD j 0) = true) : AllW zs (j + 1) := fun m hm => by
  by_cases e : m = j
  · rw [e]; exact k
  · exact h m (by omega)
theorem AllW.yes {zs : List Int} (h : AllW zs zs.length) (hn : zs.length = 71) : okC zs = true := by
  unfold okC; rw [all_getD h, hn]; rfl
theorem okC_no_len {zs : List Int} (hn : ¬ zs.length = 71) : okC zs = false := by unfold okC; rw [decide_eq_false hn]; rfl
theorem okC_no_at {zs : List Int} {j : Nat} (hj : j < zs.length) (h : isW (zs.getD j 0) = false) : okC zs = false := by unfold okC; rw [all_no hj h, Bool.and_false]
theorem ret_bool' {a b : Bool} (h : a = b) : Ending.returned (.bool a) = .returned (.bool b) := by rw [h]
theorem isWord_yes (x : Int) (w : World) (h : isW x = true) :
    Calls Try.prog 43 #[.int .i64 x] w fun e w' => e = .returned (.bool true) ∧ w = w' := by
  obtain ⟨h1, h2⟩ := isW_iff.1 h
  clear h
  go_enter Try.func43, Try.ntmps43
  have h3 : x < 281474976710656 := by omega
  go_wp2
  go_ret
  exact ⟨rfl, rfl⟩
theorem isWord_no (x : Int) (w : World) (h : isW x = false) :
    Calls Try.prog 43 #[.int .i64 x] w fun e w' => e = .returned (.bool false) ∧ w = w' := by
  rcases isW_no.1 h with h1 | h1
  · have h2 : decide (0 ≤ x) = false := by simp; omega
    clear h
    go_enter Try.func43, Try.ntmps43
    go_wp2
    go_ret
    exact ⟨rfl, rfl⟩
  · have h2 : decide (0 ≤ x) = true := by simp; omega
    have h3 : decide (x < 281474976710656) = false := by simp; omega
    have h4 : 0 ≤ x := by omega
    clear h
    go_enter Try.func43, Try.ntmps43
    go_wp2
    go_ret
    exact ⟨rfl, rfl⟩
end Go.Proofs.Ytfmmhfipibaghaa
