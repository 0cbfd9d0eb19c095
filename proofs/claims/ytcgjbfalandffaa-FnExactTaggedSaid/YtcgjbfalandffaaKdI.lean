/-
  Chapter 5, the program's functions: each answers what the plain words say. They turn nothing that was there.
-/
import Derived.Test.YtcgjbfalandffaaKdS
import Derived.Test.YtcgjbfalandffaaKeyI
namespace Go.Proofs.Ytcgjbfalandffaa
open Go.RowKit M
set_option linter.unusedVariables false
theorem isKind_yes (k : Int) (w : World) (h0 : 1 ≤ k) (h1 : k ≤ 3) : Calls Try.prog 25 #[.int .i64 k] w (Same w (.bool true)) := by
  go_enter Try.func25, Try.ntmps25
  go_wp2
  go_ret
  exact ⟨rfl, rfl⟩
theorem isKind_no (k : Int) (w : World) (h : ¬ (1 ≤ k ∧ k ≤ 3)) : Calls Try.prog 25 #[.int .i64 k] w (Same w (.bool false)) := by
  by_cases h0 : 1 ≤ k
  · have h1 : decide (k ≤ 3) = false := by rw [decide_eq_false]; omega
    go_enter Try.func25, Try.ntmps25
    go_wp2
    go_ret
    exact ⟨rfl, rfl⟩
  · have h1 : decide (1 ≤ k) = false := by rw [decide_eq_false]; omega
    go_enter Try.func25, Try.ntmps25
    go_wp2
    go_ret
    exact ⟨rfl, rfl⟩
theorem isValue_yes (k : Int) (w : World) (h0 : 0 ≤ k) (h1 : k ≤ 65535) : Calls Try.prog 28 #[.int .i64 k] w (Same w (.bool true)) := by
  go_enter Try.func28, Try.ntmps28
  go_wp2
  go_ret
  exact ⟨rfl, rfl⟩
theorem isValue_no (k : Int) (w : World) (h : ¬ (0 ≤ k ∧ k ≤ 65535)) : Calls Try.prog 28 #[.int .i64 k] w (Same w (.bool false)) := by
  by_cases h0 : 0 ≤ k
  · have h1 : decide (k ≤ 65535) = false := by rw [decide_eq_false]; omega
    go_enter Try.func28, Try.ntmps28
    go_wp2
    go_ret
    exact ⟨rfl, rfl⟩
  · have h1 : decide (0 ≤ k) = false := by rw [decide_eq_false]; omega
    go_enter Try.func28, Try.ntmps28
    go_wp2
    go_ret
    exact ⟨rfl, rfl⟩
theorem isStamp_yes (k : Int) (w : World) (h0 : 1 ≤ k) (h1 : k ≤ 65535) : Calls Try.prog 27 #[.int .i64 k] w (Same w (.bool true)) := by
  go_enter Try.func27, Try.ntmps27
  go_wp2
  go_ret
  exact ⟨rfl, rfl⟩
theorem isStamp_no (k : Int) (w : World) (h : ¬ (1 ≤ k ∧ k ≤ 65535)) : Calls Try.prog 27 #[.int .i64 k] w (Same w (.bool false)) := by
  by_cases h0 : 1 ≤ k
  · have h1 : decide (k ≤ 65535) = false := by rw [decide_eq_false]; omega
    go_enter Try.func27, Try.ntmps27
    go_wp2
    go_ret
    exact ⟨rfl, rfl⟩
  · have h1 : decide (1 ≤ k) = false := by rw [decide_eq_false]; omega
    go_enter Try.func27, Try.ntmps27
    go_wp2
    go_ret
    exact ⟨rfl, rfl⟩
theorem iKindWord_same (w : World) (k : Int) : Calls Try.prog 10 #[.int .i64 k] w (Same w (.string (kindW k))) := by
  by_cases h : 1 ≤ k ∧ k ≤ 3
  · have hk : k = 1 ∨ k = 2 ∨ k = 3 := by omega
    rcases hk with rfl | rfl | rfl
    all_goals
      go_enter Try.func10, Try.ntmps10
      go_wp2
      go_ret
      exact ⟨rfl, rfl⟩
  · have E := Lib.hid (kindW_no h)
    have e1 : (k == 1) = false := by rw [beq_eq_false_iff_ne]; omega
    have e2 : (k == 2) = false := by rw [beq_eq_false_iff_ne]; omega
    have e3 : (k == 3) = false := by rw [beq_eq_false_iff_ne]; omega
    go_enter Try.func10, Try.ntmps10
    go_wp2
    go_ret
    exact ⟨ret_str E.out.symm, rfl⟩
theorem iCodeWord_same (w : World) (k : Int) : Calls Try.prog 14 #[.int .i64 k] w (Same w (.string (codeW k))) := by
  by_cases h : 0 ≤ k ∧ k ≤ 5
  · have hk : k = 0 ∨ k = 1 ∨ k = 2 ∨ k = 3 ∨ k = 4 ∨ k = 5 := by omega
    rcases hk with rfl | rfl | rfl | rfl | rfl | rfl
    all_goals
      go_enter Try.func14, Try.ntmps14
      go_wp2
      go_ret
      exact ⟨rfl, rfl⟩
  · have E := Lib.hid (codeW_no h)
    have e0 : (k == 0) = false := by rw [beq_eq_false_iff_ne]; omega
    have e1 : (k == 1) = false := by rw [beq_eq_false_iff_ne]; omega
    have e2 : (k == 2) = false := by rw [beq_eq_false_iff_ne]; omega
    have e3 : (k == 3) = false := by rw [beq_eq_false_iff_ne]; omega
    have e4 : (k == 4) = false := by rw [beq_eq_false_iff_ne]; omega
    have e5 : (k == 5) = false := by rw [beq_eq_false_iff_ne]; omega
    go_enter Try.func14, Try.ntmps14
    go_wp2
    go_ret
    exact ⟨ret_str E.out.symm, rfl⟩
set_option maxRecDepth 100000 in
theorem iKindOf_same (w : World) (s : ByteArray) : Calls Try.prog 12 #[.string s] w (Same w (.int .i64 (kindOfV s))) := by
  go_enter Try.func12, Try.ntmps12
  go_wp2
  go_loop [3] (fun x => ∃ k : Int, 1 ≤ k ∧ k ≤ 4 ∧ x = .int .i64 k ∧ (∀ m, 1 ≤ m → m < k → kindW m ≠ s)) (fun x => (4 - intOf x).toNat)
  case atStart => exact ⟨1, by decide, by decide, rfl, fun m h1 h2 => by omega⟩
  case round =>
    obtain ⟨k, k1, k4, rfl, hd⟩ := hrel
    have HD := Lib.hid hd
    have HW := Lib.hid (iKindWord_same w k)
    clear hd
    by_cases h3 : k ≤ 3
    · by_cases he : kindW k = s
      · have E := Lib.hid (show kindOfV s = k by rw [← he]; exact kindOf_word ⟨k1, h3⟩)
        rw [he] at HW
        clear he
        go_wp2_with (go_at_call 10; refine HW.out.mono ?_; rintro e w2 ⟨rfl, rfl⟩)
        go_ret
        exact ⟨ret_i E.out.symm, rfl⟩
      · have hne := txt_ne he
        have HN := Lib.hid (show ∀ m, 1 ≤ m → m < k + 1 → kindW m ≠ s from fun m h1 h2 => by
          by_cases e : m = k
          · subst e; exact he
          · exact HD.out m h1 (by omega))
        generalize kindW k = y at *
        clear he
        go_wp2_with (go_at_call 10; refine HW.out.mono ?_; rintro e w2 ⟨rfl, rfl⟩)
        go_round
        case rel => exact ⟨k + 1, by omega, by omega, rfl, HN.out⟩
        case measure => simp [intOf]; omega
    · have E := Lib.hid (kindOf_no (HD.out 1 (by omega) (by omega)) (HD.out 2 (by omega) (by omega)) (HD.out 3 (by omega) (by omega)))
      go_wp2
      go_ret
      exact ⟨ret_i E.out.symm, rfl⟩
set_option maxRecDepth 100000 in
theorem iTagged_same (w : World) (s : ByteArray) (k : Int) (hs : s.size ≤ maxLen) : Calls Try.prog 16 #[.string s, .int .i64 k] w (Same w (.int .i64 (tagV s k))) := by
  have HO := Lib.hid (iKeyOk_same w s hs)
  have HP := Lib.hid (iPack_same w s hs)
  cases hk : keyOkV s with
  | false =>
    have E := Lib.hid (show tagV s k = 0 from tagV_no (by rw [hk]; simp))
    rw [hk] at HO
    clear hk
    go_enter Try.func16, Try.ntmps16
    go_wp2_with (go_at_call 24; refine HO.out.mono ?_; rintro e w' ⟨rfl, rfl⟩)
    go_ret
    exact ⟨ret_i E.out.symm, rfl⟩
  | true =>
    rw [hk] at HO
    have hp := packV_lt s
    by_cases h : 1 ≤ k ∧ k ≤ 3
    · have E := Lib.hid (tagV_yes hk h)
      obtain ⟨h1, h3⟩ := h
      generalize packV s = p at *
      clear hk
      go_enter Try.func16, Try.ntmps16
      go_wp2_with (first | (go_at_call 24; refine HO.out.mono ?_; rintro e w' ⟨rfl, rfl⟩) | (go_at_call 25; refine (isKind_yes _ _ (by omega) (by omega)).mono ?_; rintro e w' ⟨rfl, rfl⟩) | (go_at_call 26; refine HP.out.mono ?_; rintro e w' ⟨rfl, rfl⟩))
      go_ret
      exact ⟨ret_i (by rw [E.out]; omega), rfl⟩
    · have E := Lib.hid (show tagV s k = 0 from tagV_no (fun x => h x.2))
      clear hk
      go_enter Try.func16, Try.ntmps16
      go_wp2_with (first | (go_at_call 24; refine HO.out.mono ?_; rintro e w' ⟨rfl, rfl⟩) | (go_at_call 25; refine (isKind_no _ _ h).mono ?_; rintro e w' ⟨rfl, rfl⟩))
      go_ret
      exact ⟨ret_i E.out.symm, rfl⟩
theorem iPackGauge_same (w : World) (a v : Int) : Calls Try.prog 18 #[.int .i64 a, .int .i64 v] w (Same w (.int .i64 (gaugeV a v))) := by
  by_cases ha : 1 ≤ a ∧ a ≤ 65535
  · by_cases hv : 0 ≤ v ∧ v ≤ 65535
    · have E := Lib.hid (gaugeV_yes ⟨ha, hv⟩)
      obtain ⟨a1, a2⟩ := ha
      obtain ⟨v1, v2⟩ := hv
      go_enter Try.func18, Try.ntmps18
      go_wp2_with (first | (go_at_call 27; refine (isStamp_yes _ _ (by omega) (by omega)).mono ?_; rintro e w' ⟨rfl, rfl⟩) | (go_at_call 28; refine (isValue_yes _ _ (by omega) (by omega)).mono ?_; rintro e w' ⟨rfl, rfl⟩))
      go_ret
      exact ⟨ret_i (by rw [E.out]; omega), rfl⟩
    · have E := Lib.hid (gaugeV_no (a := a) (fun h => hv h.2))
      go_enter Try.func18, Try.ntmps18
      go_wp2_with (first | (go_at_call 27; refine (isStamp_yes _ _ ha.1 ha.2).mono ?_; rintro e w' ⟨rfl, rfl⟩) | (go_at_call 28; refine (isValue_no _ _ hv).mono ?_; rintro e w' ⟨rfl, rfl⟩))
      go_ret
      exact ⟨ret_i E.out.symm, rfl⟩
  · have E := Lib.hid (gaugeV_no (v := v) (fun h => ha h.1))
    go_enter Try.func18, Try.ntmps18
    go_wp2_with (go_at_call 27; refine (isStamp_no _ _ ha).mono ?_; rintro e w' ⟨rfl, rfl⟩)
    go_ret
    exact ⟨ret_i E.out.symm, rfl⟩
theorem iUnpackGauge_same (w : World) (n : Int) (h0 : -9223372036854775808 ≤ n) (h1 : n ≤ 9223372036854775807) :
    Calls Try.prog 20 #[.int .i64 n] w (Same w (.tuple #[.int .i64 (ungA n), .int .i64 (ungV n)])) := by
  by_cases hn : 0 ≤ n
  · by_cases h : 65536 ≤ n ∧ n ≤ 4294967295
    · have E := Lib.hid (show ungA n = n / 65536 from if_pos h)
      have E2 := Lib.hid (show ungV n = n % 65536 from if_pos h)
      have d1 : 1 ≤ n / 65536 := by omega
      have d2 : n / 65536 ≤ 65535 := by omega
      go_enter Try.func20, Try.ntmps20
      go_wp2_with (go_at_call 27; refine (isStamp_yes _ _ d1 d2).mono ?_; rintro e w' ⟨rfl, rfl⟩)
      go_ret2
      exact ⟨ret_ii E.out.symm E2.out.symm, rfl⟩
    · have E := Lib.hid (show ungA n = 0 from if_neg h)
      have E2 := Lib.hid (show ungV n = 0 from if_neg h)
      have d : ¬ (1 ≤ n / 65536 ∧ n / 65536 ≤ 65535) := by omega
      go_enter Try.func20, Try.ntmps20
      go_wp2_with (go_at_call 27; refine (isStamp_no _ _ d).mono ?_; rintro e w' ⟨rfl, rfl⟩)
      go_ret2
      exact ⟨ret_ii E.out.symm E2.out.symm, rfl⟩
  · have E := Lib.hid (show ungA n = 0 from if_neg (by omega))
    have E2 := Lib.hid (show ungV n = 0 from if_neg (by omega))
    have hq : n.tdiv 65536 ≤ 0 := by
      have := Int.tdiv_nonneg (a := -n) (b := 65536) (by omega) (by omega)
      rw [Int.neg_tdiv] at this; omega
    have d : ¬ (1 ≤ n.tdiv 65536 ∧ n.tdiv 65536 ≤ 65535) := by omega
    clear hq
    go_enter Try.func20, Try.ntmps20
    go_wp2_with (go_at_call 27; refine (isStamp_no _ _ d).mono ?_; rintro e w' ⟨rfl, rfl⟩)
    go_ret2
    exact ⟨ret_ii E.out.symm E2.out.symm, rfl⟩
theorem iKindWord_any (w : World) (k : Int) (h0 : -9223372036854775808 ≤ k) (h1 : k ≤ 9223372036854775807) : Calls Try.prog 10 #[.int .i64 k] w (Gives (.string (kindW k)) w) := same_gives (iKindWord_same w k)
theorem iCodeWord_any (w : World) (k : Int) (h0 : -9223372036854775808 ≤ k) (h1 : k ≤ 9223372036854775807) : Calls Try.prog 14 #[.int .i64 k] w (Gives (.string (codeW k)) w) := same_gives (iCodeWord_same w k)
theorem iKindOf_any (w : World) (s : ByteArray) (hs : s.size ≤ maxLen) : Calls Try.prog 12 #[.string s] w (Gives (.int .i64 (kindOfV s)) w) := same_gives (iKindOf_same w s)
theorem iTagged_any (w : World) (s : ByteArray) (k : Int) (hs : s.size ≤ maxLen) (h0 : -9223372036854775808 ≤ k) (h1 : k ≤ 9223372036854775807) : Calls Try.prog 16 #[.string s, .int .i64 k] w (Gives (.int .i64 (tagV s k)) w) := same_gives (iTagged_same w s k hs)
theorem iPackGauge_any (w : World) (a v : Int) (h0 : -9223372036854775808 ≤ a) (h1 : a ≤ 9223372036854775807) (h2 : -9223372036854775808 ≤ v) (h3 : v ≤ 9223372036854775807) : Calls Try.prog 18 #[.int .i64 a, .int .i64 v] w (Gives (.int .i64 (gaugeV a v)) w) := same_gives (iPackGauge_same w a v)
theorem iUnpackGauge_any (w : World) (n : Int) (h0 : -9223372036854775808 ≤ n) (h1 : n ≤ 9223372036854775807) : Calls Try.prog 20 #[.int .i64 n] w (Gives (.tuple #[.int .i64 (ungA n), .int .i64 (ungV n)]) w) := same_gives (iUnpackGauge_same w n h0 h1)
end Go.Proofs.Ytcgjbfalandffaa
