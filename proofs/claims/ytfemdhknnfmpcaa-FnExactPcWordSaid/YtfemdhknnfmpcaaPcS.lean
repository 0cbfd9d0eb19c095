/-
  Chapter 10, the model's PcWord: the word of each point of the code. It turns nothing that was there.
-/
import Derived.Test.YtfemdhknnfmpcaaZa
namespace Go.Proofs.Ytfemdhknnfmpcaa
open Go.RowKit M
set_option linter.unusedVariables false
set_option linter.unusedSimpArgs false
theorem pcW_no {n : Int} (h : ¬ (0 ≤ n ∧ n ≤ 15)) : pcW n = ⟨#[]⟩ := by
  unfold pcW
  rw [if_neg (by omega), if_neg (by omega), if_neg (by omega), if_neg (by omega), if_neg (by omega), if_neg (by omega), if_neg (by omega), if_neg (by omega), if_neg (by omega), if_neg (by omega), if_neg (by omega), if_neg (by omega), if_neg (by omega), if_neg (by omega), if_neg (by omega), if_neg (by omega)]
set_option maxRecDepth 100000 in
theorem sPcWord_0 (w : World) : Calls Try.prog 37 #[.int .i64 0] w (Gives (.string (pcW 0)) w) := by
  have E := Lib.hid (show pcW 0 = ⟨#[112, 114, 111, 98, 101]⟩ from rfl)
  rw [E.out]
  go_enter Try.func37, Try.ntmps37
  go_wp2_with (go_at_call 43; refine (l1In_yes _ _ _ _ (by omega) (by omega)).mono ?_; rintro e w' ⟨rfl, rfl⟩)
  go_ret
  exact ⟨rfl, (Below.refl _ _).alloc (Nat.le_refl _) _⟩
set_option maxRecDepth 100000 in
theorem sPcWord_1 (w : World) : Calls Try.prog 37 #[.int .i64 1] w (Gives (.string (pcW 1)) w) := by
  have E := Lib.hid (show pcW 1 = ⟨#[99, 108, 97, 105, 109]⟩ from rfl)
  rw [E.out]
  go_enter Try.func37, Try.ntmps37
  go_wp2_with (go_at_call 43; refine (l1In_yes _ _ _ _ (by omega) (by omega)).mono ?_; rintro e w' ⟨rfl, rfl⟩)
  go_ret
  exact ⟨rfl, (Below.refl _ _).alloc (Nat.le_refl _) _⟩
set_option maxRecDepth 100000 in
theorem sPcWord_2 (w : World) : Calls Try.prog 37 #[.int .i64 2] w (Gives (.string (pcW 2)) w) := by
  have E := Lib.hid (show pcW 2 = ⟨#[101, 112, 111, 99, 104]⟩ from rfl)
  rw [E.out]
  go_enter Try.func37, Try.ntmps37
  go_wp2_with (go_at_call 43; refine (l1In_yes _ _ _ _ (by omega) (by omega)).mono ?_; rintro e w' ⟨rfl, rfl⟩)
  go_ret
  exact ⟨rfl, (Below.refl _ _).alloc (Nat.le_refl _) _⟩
set_option maxRecDepth 100000 in
theorem sPcWord_3 (w : World) : Calls Try.prog 37 #[.int .i64 3] w (Gives (.string (pcW 3)) w) := by
  have E := Lib.hid (show pcW 3 = ⟨#[101, 110, 116, 101, 114]⟩ from rfl)
  rw [E.out]
  go_enter Try.func37, Try.ntmps37
  go_wp2_with (go_at_call 43; refine (l1In_yes _ _ _ _ (by omega) (by omega)).mono ?_; rintro e w' ⟨rfl, rfl⟩)
  go_ret
  exact ⟨rfl, (Below.refl _ _).alloc (Nat.le_refl _) _⟩
set_option maxRecDepth 100000 in
theorem sPcWord_4 (w : World) : Calls Try.prog 37 #[.int .i64 4] w (Gives (.string (pcW 4)) w) := by
  have E := Lib.hid (show pcW 4 = ⟨#[114, 101, 99, 104, 101, 99, 107]⟩ from rfl)
  rw [E.out]
  go_enter Try.func37, Try.ntmps37
  go_wp2_with (go_at_call 43; refine (l1In_yes _ _ _ _ (by omega) (by omega)).mono ?_; rintro e w' ⟨rfl, rfl⟩)
  go_ret
  exact ⟨rfl, (Below.refl _ _).alloc (Nat.le_refl _) _⟩
set_option maxRecDepth 100000 in
theorem sPcWord_5 (w : World) : Calls Try.prog 37 #[.int .i64 5] w (Gives (.string (pcW 5)) w) := by
  have E := Lib.hid (show pcW 5 = ⟨#[100, 97, 116, 97]⟩ from rfl)
  rw [E.out]
  go_enter Try.func37, Try.ntmps37
  go_wp2_with (go_at_call 43; refine (l1In_yes _ _ _ _ (by omega) (by omega)).mono ?_; rintro e w' ⟨rfl, rfl⟩)
  go_ret
  exact ⟨rfl, (Below.refl _ _).alloc (Nat.le_refl _) _⟩
set_option maxRecDepth 100000 in
theorem sPcWord_6 (w : World) : Calls Try.prog 37 #[.int .i64 6] w (Gives (.string (pcW 6)) w) := by
  have E := Lib.hid (show pcW 6 = ⟨#[108, 111, 111, 107]⟩ from rfl)
  rw [E.out]
  go_enter Try.func37, Try.ntmps37
  go_wp2_with (go_at_call 43; refine (l1In_yes _ _ _ _ (by omega) (by omega)).mono ?_; rintro e w' ⟨rfl, rfl⟩)
  go_ret
  exact ⟨rfl, (Below.refl _ _).alloc (Nat.le_refl _) _⟩
set_option maxRecDepth 100000 in
theorem sPcWord_7 (w : World) : Calls Try.prog 37 #[.int .i64 7] w (Gives (.string (pcW 7)) w) := by
  have E := Lib.hid (show pcW 7 = ⟨#[99, 97, 115]⟩ from rfl)
  rw [E.out]
  go_enter Try.func37, Try.ntmps37
  go_wp2_with (go_at_call 43; refine (l1In_yes _ _ _ _ (by omega) (by omega)).mono ?_; rintro e w' ⟨rfl, rfl⟩)
  go_ret
  exact ⟨rfl, (Below.refl _ _).alloc (Nat.le_refl _) _⟩
set_option maxRecDepth 100000 in
theorem sPcWord_8 (w : World) : Calls Try.prog 37 #[.int .i64 8] w (Gives (.string (pcW 8)) w) := by
  have E := Lib.hid (show pcW 8 = ⟨#[115, 116, 111, 114, 101]⟩ from rfl)
  rw [E.out]
  go_enter Try.func37, Try.ntmps37
  go_wp2_with (go_at_call 43; refine (l1In_yes _ _ _ _ (by omega) (by omega)).mono ?_; rintro e w' ⟨rfl, rfl⟩)
  go_ret
  exact ⟨rfl, (Below.refl _ _).alloc (Nat.le_refl _) _⟩
set_option maxRecDepth 100000 in
theorem sPcWord_9 (w : World) : Calls Try.prog 37 #[.int .i64 9] w (Gives (.string (pcW 9)) w) := by
  have E := Lib.hid (show pcW 9 = ⟨#[101, 120, 105, 116]⟩ from rfl)
  rw [E.out]
  go_enter Try.func37, Try.ntmps37
  go_wp2_with (go_at_call 43; refine (l1In_yes _ _ _ _ (by omega) (by omega)).mono ?_; rintro e w' ⟨rfl, rfl⟩)
  go_ret
  exact ⟨rfl, (Below.refl _ _).alloc (Nat.le_refl _) _⟩
set_option maxRecDepth 100000 in
theorem sPcWord_10 (w : World) : Calls Try.prog 37 #[.int .i64 10] w (Gives (.string (pcW 10)) w) := by
  have E := Lib.hid (show pcW 10 = ⟨#[108, 101, 97, 118, 101]⟩ from rfl)
  rw [E.out]
  go_enter Try.func37, Try.ntmps37
  go_wp2_with (go_at_call 43; refine (l1In_yes _ _ _ _ (by omega) (by omega)).mono ?_; rintro e w' ⟨rfl, rfl⟩)
  go_ret
  exact ⟨rfl, (Below.refl _ _).alloc (Nat.le_refl _) _⟩
set_option maxRecDepth 100000 in
theorem sPcWord_11 (w : World) : Calls Try.prog 37 #[.int .i64 11] w (Gives (.string (pcW 11)) w) := by
  have E := Lib.hid (show pcW 11 = ⟨#[116, 101, 108, 108]⟩ from rfl)
  rw [E.out]
  go_enter Try.func37, Try.ntmps37
  go_wp2_with (go_at_call 43; refine (l1In_yes _ _ _ _ (by omega) (by omega)).mono ?_; rintro e w' ⟨rfl, rfl⟩)
  go_ret
  exact ⟨rfl, (Below.refl _ _).alloc (Nat.le_refl _) _⟩
set_option maxRecDepth 100000 in
theorem sPcWord_12 (w : World) : Calls Try.prog 37 #[.int .i64 12] w (Gives (.string (pcW 12)) w) := by
  have E := Lib.hid (show pcW 12 = ⟨#[115, 119, 97, 112]⟩ from rfl)
  rw [E.out]
  go_enter Try.func37, Try.ntmps37
  go_wp2_with (go_at_call 43; refine (l1In_yes _ _ _ _ (by omega) (by omega)).mono ?_; rintro e w' ⟨rfl, rfl⟩)
  go_ret
  exact ⟨rfl, (Below.refl _ _).alloc (Nat.le_refl _) _⟩
set_option maxRecDepth 100000 in
theorem sPcWord_13 (w : World) : Calls Try.prog 37 #[.int .i64 13] w (Gives (.string (pcW 13)) w) := by
  have E := Lib.hid (show pcW 13 = ⟨#[119, 97, 105, 116]⟩ from rfl)
  rw [E.out]
  go_enter Try.func37, Try.ntmps37
  go_wp2_with (go_at_call 43; refine (l1In_yes _ _ _ _ (by omega) (by omega)).mono ?_; rintro e w' ⟨rfl, rfl⟩)
  go_ret
  exact ⟨rfl, (Below.refl _ _).alloc (Nat.le_refl _) _⟩
set_option maxRecDepth 100000 in
theorem sPcWord_14 (w : World) : Calls Try.prog 37 #[.int .i64 14] w (Gives (.string (pcW 14)) w) := by
  have E := Lib.hid (show pcW 14 = ⟨#[107, 101, 121, 115]⟩ from rfl)
  rw [E.out]
  go_enter Try.func37, Try.ntmps37
  go_wp2_with (go_at_call 43; refine (l1In_yes _ _ _ _ (by omega) (by omega)).mono ?_; rintro e w' ⟨rfl, rfl⟩)
  go_ret
  exact ⟨rfl, (Below.refl _ _).alloc (Nat.le_refl _) _⟩
set_option maxRecDepth 100000 in
theorem sPcWord_15 (w : World) : Calls Try.prog 37 #[.int .i64 15] w (Gives (.string (pcW 15)) w) := by
  have E := Lib.hid (show pcW 15 = ⟨#[100, 114, 97, 105, 110]⟩ from rfl)
  rw [E.out]
  go_enter Try.func37, Try.ntmps37
  go_wp2_with (go_at_call 43; refine (l1In_yes _ _ _ _ (by omega) (by omega)).mono ?_; rintro e w' ⟨rfl, rfl⟩)
  go_ret
  exact ⟨rfl, (Below.refl _ _).alloc (Nat.le_refl _) _⟩
set_option maxRecDepth 100000 in
theorem sPcWord_any (w : World) (n : Int) : Calls Try.prog 37 #[.int .i64 n] w (Gives (.string (pcW n)) w) := by
  by_cases h : 0 ≤ n ∧ n ≤ 15
  · have hk : n = 0 ∨ n = 1 ∨ n = 2 ∨ n = 3 ∨ n = 4 ∨ n = 5 ∨ n = 6 ∨ n = 7 ∨ n = 8 ∨ n = 9 ∨ n = 10 ∨ n = 11 ∨ n = 12 ∨ n = 13 ∨ n = 14 ∨ n = 15 := by omega
    rcases hk with rfl | rfl | rfl | rfl | rfl | rfl | rfl | rfl | rfl | rfl | rfl | rfl | rfl | rfl | rfl | rfl
    · exact sPcWord_0 w
    · exact sPcWord_1 w
    · exact sPcWord_2 w
    · exact sPcWord_3 w
    · exact sPcWord_4 w
    · exact sPcWord_5 w
    · exact sPcWord_6 w
    · exact sPcWord_7 w
    · exact sPcWord_8 w
    · exact sPcWord_9 w
    · exact sPcWord_10 w
    · exact sPcWord_11 w
    · exact sPcWord_12 w
    · exact sPcWord_13 w
    · exact sPcWord_14 w
    · exact sPcWord_15 w
  · rw [pcW_no h]
    go_enter Try.func37, Try.ntmps37
    go_wp2_with (go_at_call 43; refine (l1In_no _ _ _ _ (by omega)).mono ?_; rintro e w' ⟨rfl, rfl⟩)
    go_ret
    exact ⟨rfl, Below.refl _ _⟩
end Go.Proofs.Ytfemdhknnfmpcaa
