/-
  Chapter 5, the model's functions: each answers what the plain words say. They turn nothing that was there.
-/
import Derived.Test.YtcgjbfalandffaaKdV
import Derived.Test.YtcgjbfalandffaaKeyT
import Derived.Test.YtcgjbfalandffaaTxt
namespace Go.Proofs.Ytcgjbfalandffaa
open Go.RowKit M
set_option linter.unusedVariables false
theorem sKindWord_any (w : World) (k : Int) : Calls Try.prog 9 #[.int .i64 k] w (Gives (.string (kindW k)) w) := by
  by_cases h : 1 ≤ k ∧ k ≤ 3
  · have hk : k = 1 ∨ k = 2 ∨ k = 3 := by omega
    rcases hk with rfl | rfl | rfl
    · go_enter Try.func9, Try.ntmps9
      go_wp2_with (go_at_call 21; refine (l1In_yes _ _ _ _ (by omega) (by omega)).mono ?_; rintro e w' ⟨rfl, rfl⟩)
      go_ret
      exact ⟨rfl, (Below.refl _ _).alloc (Nat.le_refl _) _⟩
    · go_enter Try.func9, Try.ntmps9
      go_wp2_with (go_at_call 21; refine (l1In_yes _ _ _ _ (by omega) (by omega)).mono ?_; rintro e w' ⟨rfl, rfl⟩)
      go_ret
      exact ⟨rfl, (Below.refl _ _).alloc (Nat.le_refl _) _⟩
    · go_enter Try.func9, Try.ntmps9
      go_wp2_with (go_at_call 21; refine (l1In_yes _ _ _ _ (by omega) (by omega)).mono ?_; rintro e w' ⟨rfl, rfl⟩)
      go_ret
      exact ⟨rfl, (Below.refl _ _).alloc (Nat.le_refl _) _⟩
  · have E := Lib.hid (kindW_no h)
    go_enter Try.func9, Try.ntmps9
    go_wp2_with (go_at_call 21; refine (l1In_no _ _ _ _ (by omega)).mono ?_; rintro e w' ⟨rfl, rfl⟩)
    go_ret
    exact ⟨ret_str E.out.symm, Below.refl _ _⟩
theorem sCodeWord_any (w : World) (k : Int) : Calls Try.prog 13 #[.int .i64 k] w (Gives (.string (codeW k)) w) := by
  by_cases h : 0 ≤ k ∧ k ≤ 5
  · have hk : k = 0 ∨ k = 1 ∨ k = 2 ∨ k = 3 ∨ k = 4 ∨ k = 5 := by omega
    rcases hk with rfl | rfl | rfl | rfl | rfl | rfl
    · go_enter Try.func13, Try.ntmps13
      go_wp2_with (go_at_call 21; refine (l1In_yes _ _ _ _ (by omega) (by omega)).mono ?_; rintro e w' ⟨rfl, rfl⟩)
      go_ret
      exact ⟨rfl, (Below.refl _ _).alloc (Nat.le_refl _) _⟩
    · go_enter Try.func13, Try.ntmps13
      go_wp2_with (go_at_call 21; refine (l1In_yes _ _ _ _ (by omega) (by omega)).mono ?_; rintro e w' ⟨rfl, rfl⟩)
      go_ret
      exact ⟨rfl, (Below.refl _ _).alloc (Nat.le_refl _) _⟩
    · go_enter Try.func13, Try.ntmps13
      go_wp2_with (go_at_call 21; refine (l1In_yes _ _ _ _ (by omega) (by omega)).mono ?_; rintro e w' ⟨rfl, rfl⟩)
      go_ret
      exact ⟨rfl, (Below.refl _ _).alloc (Nat.le_refl _) _⟩
    · go_enter Try.func13, Try.ntmps13
      go_wp2_with (go_at_call 21; refine (l1In_yes _ _ _ _ (by omega) (by omega)).mono ?_; rintro e w' ⟨rfl, rfl⟩)
      go_ret
      exact ⟨rfl, (Below.refl _ _).alloc (Nat.le_refl _) _⟩
    · go_enter Try.func13, Try.ntmps13
      go_wp2_with (go_at_call 21; refine (l1In_yes _ _ _ _ (by omega) (by omega)).mono ?_; rintro e w' ⟨rfl, rfl⟩)
      go_ret
      exact ⟨rfl, (Below.refl _ _).alloc (Nat.le_refl _) _⟩
    · go_enter Try.func13, Try.ntmps13
      go_wp2_with (go_at_call 21; refine (l1In_yes _ _ _ _ (by omega) (by omega)).mono ?_; rintro e w' ⟨rfl, rfl⟩)
      go_ret
      exact ⟨rfl, (Below.refl _ _).alloc (Nat.le_refl _) _⟩
  · have E := Lib.hid (codeW_no h)
    go_enter Try.func13, Try.ntmps13
    go_wp2_with (go_at_call 21; refine (l1In_no _ _ _ _ (by omega)).mono ?_; rintro e w' ⟨rfl, rfl⟩)
    go_ret
    exact ⟨ret_str E.out.symm, Below.refl _ _⟩
set_option maxRecDepth 100000 in
theorem sKindOf_any (w : World) (s : ByteArray) : Calls Try.prog 11 #[.string s] w (Gives (.int .i64 (kindOfV s)) w) := by
  go_enter Try.func11, Try.ntmps11
  go_wp2
  go_loopw [3] (fun x wr => ∃ k : Int, 1 ≤ k ∧ k ≤ 4 ∧ x = .int .i64 k ∧ (∀ m, 1 ≤ m → m < k → kindW m ≠ s) ∧ Below w.heap.size w wr) (fun x _ => (4 - intOf x).toNat)
  case atStart => exact ⟨1, by decide, by decide, rfl, fun m h1 h2 => by omega, Below.refl _ _⟩
  case round =>
    obtain ⟨k, k1, k4, rfl, hd, hb⟩ := hrel
    have HB := Lib.hid hb
    have HD := Lib.hid hd
    have HW := Lib.hid (sKindWord_any wr k)
    clear hb hd
    by_cases h3 : k ≤ 3
    · by_cases he : kindW k = s
      · have E := Lib.hid (show kindOfV s = k by rw [← he]; exact kindOf_word ⟨k1, h3⟩)
        rw [he] at HW
        clear he
        go_wp2_with (go_at_call 9; refine HW.out.mono ?_; rintro e w2 ⟨rfl, hb2⟩)
        go_ret
        exact ⟨ret_i E.out.symm, HB.out.trans (hb2.mono HB.out.size)⟩
      · have hne := txt_ne he
        have HN := Lib.hid (show ∀ m, 1 ≤ m → m < k + 1 → kindW m ≠ s from fun m h1 h2 => by
          by_cases e : m = k
          · subst e; exact he
          · exact HD.out m h1 (by omega))
        generalize kindW k = y at *
        clear he
        go_wp2_with (go_at_call 9; refine HW.out.mono ?_; rintro e w2 ⟨rfl, hb2⟩)
        go_roundw
        case rel => exact ⟨k + 1, by omega, by omega, rfl, HN.out, HB.out.trans (hb2.mono HB.out.size)⟩
        case measure => simp [intOf]; omega
    · have E := Lib.hid (kindOf_no (HD.out 1 (by omega) (by omega)) (HD.out 2 (by omega) (by omega)) (HD.out 3 (by omega) (by omega)))
      go_wp2
      go_ret
      exact ⟨ret_i E.out.symm, HB.out⟩
set_option maxRecDepth 100000 in
theorem sTagged_any (w : World) (s : ByteArray) (k : Int) (hs : s.size ≤ maxLen) : Calls Try.prog 15 #[.string s, .int .i64 k] w (Gives (.int .i64 (tagV s k)) w) := by
  have HO := Lib.hid (sKeyOk_any w s hs)
  have HK := Lib.hid (sKindWord_any w k)
  have HP := fun W => Lib.hid (sPack_any W s hs)
  cases hk : keyOkV s with
  | false =>
    have E := Lib.hid (show tagV s k = 0 from tagV_no (by rw [hk]; simp))
    rw [hk] at HO
    clear hk
    go_enter Try.func15, Try.ntmps15
    go_wp2_with (go_at_call 22; refine HO.out.mono ?_; rintro e w' ⟨rfl, rfl⟩)
    go_ret
    exact ⟨ret_i E.out.symm, Below.refl _ _⟩
  | true =>
    rw [hk] at HO
    have hp := packV_lt s
    by_cases h : 1 ≤ k ∧ k ≤ 3
    · have E := Lib.hid (tagV_yes hk h)
      have hne := txt_some (kindW_some h)
      have hne2 := txt_full (kindW_some h)
      obtain ⟨h1, h3⟩ := h
      generalize kindW k = y at *
      generalize packV s = p at *
      clear hk
      go_enter Try.func15, Try.ntmps15
      go_wp2_with (first | (go_at_call 22; refine HO.out.mono ?_; rintro e w' ⟨rfl, rfl⟩) | (go_at_call 9; refine HK.out.mono ?_; rintro e w2 ⟨rfl, hb⟩))
      refine (HP w2).out.mono ?_
      rintro e w' ⟨rfl, rfl⟩
      go_wp2_with fail
      go_ret
      exact ⟨ret_i E.out.symm, hb⟩
    · have E := Lib.hid (show tagV s k = 0 from tagV_no (fun x => h x.2))
      rw [kindW_no h] at HK
      clear hk
      go_enter Try.func15, Try.ntmps15
      go_wp2_with (first | (go_at_call 22; refine HO.out.mono ?_; rintro e w' ⟨rfl, rfl⟩) | (go_at_call 9; refine HK.out.mono ?_; rintro e w2 ⟨rfl, hb⟩))
      go_ret
      exact ⟨ret_i E.out.symm, hb⟩
theorem sPackGauge_any (w : World) (a v : Int) : Calls Try.prog 17 #[.int .i64 a, .int .i64 v] w (Same w (.int .i64 (gaugeV a v))) := by
  by_cases h : (1 ≤ a ∧ a ≤ 65535) ∧ (0 ≤ v ∧ v ≤ 65535)
  · have E := Lib.hid (gaugeV_yes h)
    obtain ⟨⟨a1, a2⟩, v1, v2⟩ := h
    go_enter Try.func17, Try.ntmps17
    go_wp2_with (go_at_call 21; refine (l1In_yes _ _ _ _ (by omega) (by omega)).mono ?_; rintro e w' ⟨rfl, rfl⟩)
    go_ret
    exact ⟨ret_i E.out.symm, rfl⟩
  · have E := Lib.hid (gaugeV_no h)
    by_cases ha : 1 ≤ a ∧ a ≤ 65535
    · go_enter Try.func17, Try.ntmps17
      go_wp2_with (go_at_call 21; first | (refine (l1In_yes _ _ _ _ (by omega) (by omega)).mono ?_; rintro e w' ⟨rfl, rfl⟩) | (refine (l1In_no _ _ _ _ (by omega)).mono ?_; rintro e w' ⟨rfl, rfl⟩))
      go_ret
      exact ⟨ret_i E.out.symm, rfl⟩
    · go_enter Try.func17, Try.ntmps17
      go_wp2_with (go_at_call 21; refine (l1In_no _ _ _ _ (by omega)).mono ?_; rintro e w' ⟨rfl, rfl⟩)
      go_ret
      exact ⟨ret_i E.out.symm, rfl⟩
theorem sUnpackGauge_any (w : World) (n : Int) : Calls Try.prog 19 #[.int .i64 n] w (Same w (.tuple #[.int .i64 (ungA n), .int .i64 (ungV n)])) := by
  by_cases h : 65536 ≤ n ∧ n ≤ 4294967295
  · have E := Lib.hid (show ungA n = n / 65536 from if_pos h)
    have E2 := Lib.hid (show ungV n = n % 65536 from if_pos h)
    obtain ⟨h1, h2⟩ := h
    go_enter Try.func19, Try.ntmps19
    go_wp2_with (go_at_call 21; refine (l1In_yes _ _ _ _ (by omega) (by omega)).mono ?_; rintro e w' ⟨rfl, rfl⟩)
    go_ret2
    exact ⟨ret_ii E.out.symm E2.out.symm, rfl⟩
  · have E := Lib.hid (show ungA n = 0 from if_neg h)
    have E2 := Lib.hid (show ungV n = 0 from if_neg h)
    go_enter Try.func19, Try.ntmps19
    go_wp2_with (go_at_call 21; refine (l1In_no _ _ _ _ (by omega)).mono ?_; rintro e w' ⟨rfl, rfl⟩)
    go_ret2
    exact ⟨ret_ii E.out.symm E2.out.symm, rfl⟩
end Go.Proofs.Ytcgjbfalandffaa
