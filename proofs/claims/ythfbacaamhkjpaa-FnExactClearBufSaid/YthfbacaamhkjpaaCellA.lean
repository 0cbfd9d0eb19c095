/-
  Contracts of chapter 2, the model's and the program's: the check of the cells, looking at a cell.
-/
import Derived.Test.YthfbacaamhkjpaaCells
import Derived.Test.YthfbacaamhkjpaaIn
namespace Go.Proofs.Ythfbacaamhkjpaa
open Go.RowKit M
set_option linter.unusedVariables false
/-- All of the first j numbers can be held by a cell. -/
def AllW (zs : List Int) (j : Nat) : Prop := ∀ m, m < j → isW (zs.getD m 0) = true
theorem AllW.zero (zs : List Int) : AllW zs 0 := fun m h => absurd h (Nat.not_lt_zero _)
theorem AllW.next {zs : List Int} {j : Nat} (h : AllW zs j) (k : isW (zs.getD j 0) = true) : AllW zs (j + 1) := fun m hm => by
  by_cases e : m = j
  · rw [e]; exact k
  · exact h m (by omega)
theorem AllW.yes {zs : List Int} (h : AllW zs zs.length) (hn : zs.length = 71) : okC zs = true := by
  unfold okC; rw [all_getD h, hn]; rfl
theorem okC_no_len {zs : List Int} (hn : ¬ zs.length = 71) : okC zs = false := by unfold okC; rw [decide_eq_false hn]; rfl
theorem okC_no_at {zs : List Int} {j : Nat} (hj : j < zs.length) (h : isW (zs.getD j 0) = false) : okC zs = false := by unfold okC; rw [all_no hj h, Bool.and_false]
theorem ret_bool' {a b : Bool} (h : a = b) : Ending.returned (.bool a) = .returned (.bool b) := by rw [h]
set_option maxRecDepth 100000 in
theorem sOk_any (w : World) (v : Value) (zs : List Int) (h : Ints w v zs) :
    Calls Try.prog 14 #[v] w fun e w' => e = .returned (.bool (okC zs)) ∧ w = w' := by
  obtain ⟨b, off, cap, rfl, h1, h2, h3, h4⟩ := h
  generalize hn : zs.length = n at *
  have HN := Lib.hid hn
  have H4 := Lib.hid h4
  clear hn h4
  unfold maxLen at h2
  go_enter Try.func14, Try.ntmps14
  go_wp2
  go_loop [3] (fun i => ∃ j : Nat, j ≤ n ∧ i = .int .i64 j ∧ AllW zs j) (fun i => n - (intOf i).toNat)
  case atStart => exact ⟨0, Nat.zero_le _, rfl, AllW.zero _⟩
  case round =>
    obtain ⟨j, hj, rfl, ha⟩ := hrel
    have HA := Lib.hid ha
    clear ha
    by_cases hlt : j < n
    · have g1 := H4.out j hlt
      cases hw : isW (zs.getD j 0) with
      | true =>
        have HW := Lib.hid hw
        obtain ⟨w0, w1⟩ := isW_iff.1 hw
        clear hw
        generalize hz : zs.getD j 0 = z at *
        have HZ := Lib.hid hz
        clear hz
        go_wp2_with (go_at_call 20; refine (l1In_yes _ _ _ _ (by omega) (by omega)).mono ?_; rintro e w' ⟨rfl, rfl⟩)
        go_round
        case rel => exact ⟨j + 1, by omega, by go_num, HA.out.next (by rw [HZ.out]; exact HW.out)⟩
        case measure => simp [intOf]; omega
      | false =>
        have HW := Lib.hid (okC_no_at (by rw [HN.out]; exact hlt) hw)
        have w0 := isW_no.1 hw
        clear hw
        generalize hz : zs.getD j 0 = z at *
        clear hz
        go_wp2_with (go_at_call 20; refine (l1In_no _ _ _ _ (by omega)).mono ?_; rintro e w' ⟨rfl, rfl⟩)
        go_ret
        exact ⟨ret_bool' HW.out.symm, rfl⟩
    · obtain rfl : j = n := by omega
      by_cases h71 : j = 71
      · have t1 : ((j : Int) == 71) = true := by rw [beq_iff_eq]; omega
        have HX := Lib.hid (show okC zs = true from AllW.yes (by rw [HN.out]; exact HA.out) (by rw [HN.out]; exact h71))
        clear h71
        go_wp2
        go_ret
        exact ⟨ret_bool' HX.out.symm, rfl⟩
      · have t1 : ((j : Int) == 71) = false := by rw [beq_eq_false_iff_ne]; omega
        have HX := Lib.hid (show okC zs = false from okC_no_len (by rw [HN.out]; exact h71))
        clear h71
        go_wp2
        go_ret
        exact ⟨ret_bool' HX.out.symm, rfl⟩
theorem isWord_yes (x : Int) (w : World) (h : isW x = true) :
    Calls Try.prog 25 #[.int .i64 x] w fun e w' => e = .returned (.bool true) ∧ w = w' := by
  obtain ⟨h1, h2⟩ := isW_iff.1 h
  clear h
  go_enter Try.func25, Try.ntmps25
  have h3 : x < 281474976710656 := by omega
  go_wp2
  go_ret
  exact ⟨rfl, rfl⟩
theorem isWord_no (x : Int) (w : World) (h : isW x = false) :
    Calls Try.prog 25 #[.int .i64 x] w fun e w' => e = .returned (.bool false) ∧ w = w' := by
  rcases isW_no.1 h with h1 | h1
  · have h2 : decide (0 ≤ x) = false := by simp; omega
    clear h
    go_enter Try.func25, Try.ntmps25
    go_wp2
    go_ret
    exact ⟨rfl, rfl⟩
  · have h2 : decide (0 ≤ x) = true := by simp; omega
    have h3 : decide (x < 281474976710656) = false := by simp; omega
    have h4 : 0 ≤ x := by omega
    clear h
    go_enter Try.func25, Try.ntmps25
    go_wp2
    go_ret
    exact ⟨rfl, rfl⟩
set_option maxRecDepth 100000 in
theorem iOk_any (w : World) (v : Value) (zs : List Int) (h : Ints w v zs) :
    Calls Try.prog 22 #[v] w fun e w' => e = .returned (.bool (okC zs)) ∧ w = w' := by
  obtain ⟨b, off, cap, rfl, h1, h2, h3, h4⟩ := h
  generalize hn : zs.length = n at *
  have HN := Lib.hid hn
  have H4 := Lib.hid h4
  clear hn h4
  unfold maxLen at h2
  by_cases h71 : n = 71
  · have t1 : ((n : Int) != 71) = false := by rw [bne_eq_false_iff_eq]; omega
    have H71 := Lib.hid h71
    clear h71
    go_enter Try.func22, Try.ntmps22
    go_wp2
    go_loop [10] (fun i => ∃ j : Nat, j ≤ n ∧ i = .int .i64 j ∧ AllW zs j) (fun i => n - (intOf i).toNat)
    case atStart => exact ⟨0, Nat.zero_le _, rfl, AllW.zero _⟩
    case round =>
      obtain ⟨j, hj, rfl, ha⟩ := hrel
      have HA := Lib.hid ha
      clear ha
      by_cases hlt : j < n
      · have g1 := H4.out j hlt
        cases hw : isW (zs.getD j 0) with
        | true =>
          have HW := Lib.hid hw
          clear hw
          generalize hz : zs.getD j 0 = z at *
          have HZ := Lib.hid hz
          clear hz
          go_wp2_with (go_at_call 25; refine (isWord_yes _ _ HW.out).mono ?_; rintro e w' ⟨rfl, rfl⟩)
          go_round
          case rel => exact ⟨j + 1, by omega, by go_num, HA.out.next (by rw [HZ.out]; exact HW.out)⟩
          case measure => simp [intOf]; omega
        | false =>
          have HX := Lib.hid (okC_no_at (by rw [HN.out]; exact hlt) hw)
          have HW := Lib.hid hw
          clear hw
          generalize hz : zs.getD j 0 = z at *
          clear hz
          go_wp2_with (go_at_call 25; refine (isWord_no _ _ HW.out).mono ?_; rintro e w' ⟨rfl, rfl⟩)
          go_ret
          exact ⟨ret_bool' HX.out.symm, rfl⟩
      · obtain rfl : j = n := by omega
        have HX := Lib.hid (show okC zs = true from AllW.yes (by rw [HN.out]; exact HA.out) (by rw [HN.out]; exact H71.out))
        go_wp2
        go_ret
        exact ⟨ret_bool' HX.out.symm, rfl⟩
  · have t1 : ((n : Int) != 71) = true := by rw [bne_iff_ne]; omega
    have HX := Lib.hid (show okC zs = false from okC_no_len (by rw [HN.out]; exact h71))
    clear h71
    go_enter Try.func22, Try.ntmps22
    go_wp2
    go_ret
    exact ⟨ret_bool' HX.out.symm, rfl⟩
theorem sOk_b (w : World) (v : Value) (zs : List Int) (h : Ints w v zs) (b : Bool) (hb : okC zs = b) :
    Calls Try.prog 14 #[v] w fun e w' => e = .returned (.bool b) ∧ w = w' := by
  subst hb; exact sOk_any w v zs h
theorem iOk_b (w : World) (v : Value) (zs : List Int) (h : Ints w v zs) (b : Bool) (hb : okC zs = b) :
    Calls Try.prog 22 #[v] w fun e w' => e = .returned (.bool b) ∧ w = w' := by
  subst hb; exact iOk_any w v zs h
end Go.Proofs.Ythfbacaamhkjpaa
