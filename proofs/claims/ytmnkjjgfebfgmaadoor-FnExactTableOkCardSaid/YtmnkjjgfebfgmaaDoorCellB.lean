/-
  Contracts of chapter 2, the model's and the program's: looking at a cell; copying the row.
-/
import Derived.Test.YtmnkjjgfebfgmaaDoorCellA
import Derived.Test.YtmnkjjgfebfgmaaDoorCopyS
import Derived.Test.YtmnkjjgfebfgmaaDoorShelf
import Derived.Test.YtmnkjjgfebfgmaaDoorGive
namespace Go.Proofs.YtmnkjjgfebfgmaaDoor
open Go.RowKit M
set_option linter.unusedVariables false
theorem iLoad_yes (w : World) (v : Value) (zs : List Int) (i : Int) (h : Ints w v zs) (ha : atC zs i = true) :
    Calls Tryd.prog 50 #[v, .int .i64 i] w (Same w (.tuple #[.int .i64 (zs.getD i.toNat 0), .bool true])) := by
  obtain ⟨h0, i0, i1⟩ := atC_iff.1 ha
  have H := Lib.hid (iOk_b w v zs h true h0)
  obtain ⟨b, off, cap, rfl, h1, h2, h3, h4⟩ := h
  have hl := okC_len h0
  obtain ⟨j, rfl⟩ := Int.eq_ofNat_of_zero_le i0
  rw [Int.toNat_natCast]
  have g1 := h4 j (by omega)
  generalize zs.getD j 0 = z at *
  have hj : j < zs.length := by omega
  generalize zs.length = n at *
  unfold maxLen at h2
  have t1 : decide (n ≤ j) = false := by simp; omega
  have t2 : decide ((j : Int) < 0) = false := by simp
  clear h4 h0 hl ha
  go_enter Tryd.func50, Tryd.ntmps50
  go_wp2_with (first | (go_at_call 25; refine H.out.mono ?_; rintro e w' ⟨rfl, rfl⟩))
  go_ret2
  exact ⟨rfl, rfl⟩
theorem iLoad_no (w : World) (v : Value) (zs : List Int) (i : Int) (h : Ints w v zs) (ha : atC zs i = false) :
    Calls Tryd.prog 50 #[v, .int .i64 i] w (Same w (.tuple #[.int .i64 0, .bool false])) := by
  by_cases i0 : i < 0
  · obtain ⟨b, off, cap, rfl, h1, h2, h3, h4⟩ := h
    have t1 : decide (i < 0) = true := by simp; omega
    clear h4 ha
    go_enter Tryd.func50, Tryd.ntmps50
    go_wp2
    go_ret2
    exact ⟨rfl, rfl⟩
  · have t1 : decide (i < 0) = false := by simp; omega
    by_cases i1 : (zs.length : Int) ≤ i
    · have t2 : decide ((zs.length : Int) ≤ i) = true := by simp; omega
      obtain ⟨b, off, cap, rfl, h1, h2, h3, h4⟩ := h
      generalize zs.length = n at *
      clear h4 ha
      go_enter Tryd.func50, Tryd.ntmps50
      go_wp2
      go_ret2
      exact ⟨rfl, rfl⟩
    · have t2 : decide ((zs.length : Int) ≤ i) = false := by simp; omega
      have hok : okC zs = false := by
        cases hok : okC zs with
        | false => rfl
        | true =>
          have := okC_len hok
          rcases atC_no.1 ha with h | h
          · rw [hok] at h; cases h
          · omega
      have H := Lib.hid (iOk_b w v zs h false hok)
      obtain ⟨b, off, cap, rfl, h1, h2, h3, h4⟩ := h
      generalize zs.length = n at *
      clear h4 ha hok
      go_enter Tryd.func50, Tryd.ntmps50
      go_wp2_with (first | (go_at_call 25; refine H.out.mono ?_; rintro e w' ⟨rfl, rfl⟩))
      go_ret2
      exact ⟨rfl, rfl⟩
/-- slices.Clone of a row hands back a new one. -/
theorem clone_any (w : World) (v : Value) (zs : List Int) (h : Ints w v zs) (hl : zs.length ≤ 1048576) :
    Calls Tryd.prog 34 #[v] w (MadeI w zs) := by
  obtain ⟨b, off, cap, rfl, h1, h2, h3, h4⟩ := h
  refine (Tryd.slices_Clone_int b off zs.length cap zs w (Nat.le_refl _) (by omega) h4).mono ?_
  rintro e w' ⟨v', rfl, ho, hne, hb⟩
  rw [List.take_length] at ho
  exact ⟨v', rfl, OwnI.of_row ho rfl hne, hb⟩
end Go.Proofs.YtmnkjjgfebfgmaaDoor
