/-
  Chapter 4, the model's functions: each answers what the plain words say.
-/
import Derived.Test.YtcgjbfalandffaaDoorKeyV
import Derived.Test.YtcgjbfalandffaaDoorIn
import Derived.Test.YtcgjbfalandffaaDoorGive
namespace Go.Proofs.YtcgjbfalandffaaDoor
open Go.RowKit M
set_option linter.unusedVariables false
theorem l4Byte_any (c : Nat) (w : World) (hc : c < 256) : Calls Tryd.prog 39 #[.int .i64 c] w (Same w (.bool (keyB c))) := by
  have e95 : ((c : Int) == 95) = decide (c = 95) := by
    by_cases h : c = 95
    · subst h; rfl
    · rw [decide_eq_false h, beq_eq_false_iff_ne]; omega
  by_cases h1 : 97 ≤ c ∧ c ≤ 122
  · have E := Lib.hid (show keyB c = true by simp [keyB]; omega)
    clear e95
    go_enter Tryd.func39, Tryd.ntmps39
    go_wp2_with (go_at_call 30; first | (refine (l1In_yes _ _ _ _ (by omega) (by omega)).mono ?_; rintro e w' ⟨rfl, rfl⟩) | (refine (l1In_no _ _ _ _ (by omega)).mono ?_; rintro e w' ⟨rfl, rfl⟩))
    go_ret
    exact ⟨ret_bool E.out.symm, rfl⟩
  · by_cases h2 : 65 ≤ c ∧ c ≤ 90
    · have E := Lib.hid (show keyB c = true by simp [keyB]; omega)
      clear e95
      go_enter Tryd.func39, Tryd.ntmps39
      go_wp2_with (go_at_call 30; first | (refine (l1In_yes _ _ _ _ (by omega) (by omega)).mono ?_; rintro e w' ⟨rfl, rfl⟩) | (refine (l1In_no _ _ _ _ (by omega)).mono ?_; rintro e w' ⟨rfl, rfl⟩))
      go_ret
      exact ⟨ret_bool E.out.symm, rfl⟩
    · by_cases h3 : 48 ≤ c ∧ c ≤ 57
      · have E := Lib.hid (show keyB c = true by simp [keyB]; omega)
        clear e95
        go_enter Tryd.func39, Tryd.ntmps39
        go_wp2_with (go_at_call 30; first | (refine (l1In_yes _ _ _ _ (by omega) (by omega)).mono ?_; rintro e w' ⟨rfl, rfl⟩) | (refine (l1In_no _ _ _ _ (by omega)).mono ?_; rintro e w' ⟨rfl, rfl⟩))
        go_ret
        exact ⟨ret_bool E.out.symm, rfl⟩
      · have E := Lib.hid (show keyB c = decide (c = 95) by
          unfold keyB
          rw [show (decide (97 ≤ c) && decide (c ≤ 122)) = false by simp; omega, show (decide (65 ≤ c) && decide (c ≤ 90)) = false by simp; omega, show (decide (48 ≤ c) && decide (c ≤ 57)) = false by simp; omega]
          simp)
        generalize decide (c = 95) = r at *
        go_enter Tryd.func39, Tryd.ntmps39
        go_wp2_with (go_at_call 30; refine (l1In_no _ _ _ _ (by omega)).mono ?_; rintro e w' ⟨rfl, rfl⟩)
        go_ret
        exact ⟨ret_bool E.out.symm, rfl⟩
set_option maxRecDepth 100000 in
theorem sKeyOk_any (w : World) (s : ByteArray) (hs : s.size ≤ maxLen) : Calls Tryd.prog 24 #[.string s] w (Same w (.bool (keyOkV s))) := by
  unfold maxLen at hs
  go_enter Tryd.func24, Tryd.ntmps24
  go_wp2
  go_loop [3] (fun i => ∃ j : Nat, j ≤ s.size ∧ i = .int .i64 j ∧ AllB s j) (fun i => s.size - (intOf i).toNat)
  case atStart => exact ⟨0, Nat.zero_le _, rfl, AllB.zero _⟩
  case round =>
    obtain ⟨j, hj, rfl, ha⟩ := hrel
    have HA := Lib.hid ha
    clear ha
    by_cases hlt : j < s.size
    · have hc := s[j].toNat_lt
      have HB := Lib.hid (l4Byte_any s[j].toNat w (by omega))
      cases hk : keyB s[j].toNat with
      | true =>
        have HN := Lib.hid (HA.out.next hlt hk)
        rw [hk] at HB
        clear hk
        go_wp2_with (go_at_call 39; refine HB.out.mono ?_; rintro e w' ⟨rfl, rfl⟩)
        go_round
        case rel => exact ⟨j + 1, by omega, by go_num, HN.out⟩
        case measure => simp [intOf]; omega
      | false =>
        have HN := Lib.hid (keyOkV_no hlt hk)
        rw [hk] at HB
        clear hk
        go_wp2_with (go_at_call 39; refine HB.out.mono ?_; rintro e w' ⟨rfl, rfl⟩)
        go_ret
        exact ⟨ret_bool HN.out.symm, rfl⟩
    · obtain rfl : j = s.size := by omega
      by_cases h4 : 1 ≤ s.size ∧ s.size ≤ 4
      · have HN := Lib.hid (keyOkV_iff.2 ⟨h4, HA.out⟩)
        obtain ⟨h40, h41⟩ := h4
        go_wp2_with (go_at_call 30; refine (l1In_yes _ _ _ _ (by omega) (by omega)).mono ?_; rintro e w' ⟨rfl, rfl⟩)
        go_ret
        exact ⟨ret_bool HN.out.symm, rfl⟩
      · have HN := Lib.hid (keyOkV_size h4)
        go_wp2_with (go_at_call 30; refine (l1In_no _ _ _ _ (by omega)).mono ?_; rintro e w' ⟨rfl, rfl⟩)
        go_ret
        exact ⟨ret_bool HN.out.symm, rfl⟩
set_option maxRecDepth 100000 in
theorem sPack_any (w : World) (s : ByteArray) (hs : s.size ≤ maxLen) : Calls Tryd.prog 26 #[.string s] w (Same w (.int .i64 (packV s : Nat))) := by
  have HOK := Lib.hid (sKeyOk_any w s hs)
  cases hk : keyOkV s with
  | false =>
    have E := Lib.hid (show packV s = 0 by unfold packV; rw [hk]; rfl)
    rw [hk] at HOK
    clear hk
    go_enter Tryd.func26, Tryd.ntmps26
    go_wp2_with (go_at_call 24; refine HOK.out.mono ?_; rintro e w' ⟨rfl, rfl⟩)
    go_ret
    exact ⟨ret_i (by rw [E.out]; rfl), rfl⟩
  | true =>
    have E := Lib.hid (show packV s = be s.data.toList by unfold packV; rw [if_pos hk])
    have h4 := (keyOkV_iff.1 hk).1.2
    rw [hk] at HOK
    clear hk hs
    go_enter Tryd.func26, Tryd.ntmps26
    go_wp2_with (go_at_call 24; refine HOK.out.mono ?_; rintro e w' ⟨rfl, rfl⟩)
    go_loop [3, 4] (fun n i => ∃ j : Nat, j ≤ s.size ∧ i = .int .i64 j ∧ n = .int .i64 (be (s.data.toList.take j))) (fun _ i => s.size - (intOf i).toNat)
    case atStart => exact ⟨0, Nat.zero_le _, rfl, rfl⟩
    case round =>
      obtain ⟨j, hj, rfl, rfl⟩ := hrel
      by_cases hlt : j < s.size
      · have hb := be_take_lt s j (by omega)
        have hc := s[j].toNat_lt
        have HS : Hid (be (s.data.toList.take (j + 1)) = be (s.data.toList.take j) * 256 + s[j].toNat) := be_take s j hlt
        go_wp2
        go_round
        case rel => exact ⟨j + 1, by omega, by go_num, by rw [HS.out]; go_num⟩
        case measure => simp [intOf]; omega
      · obtain rfl : j = s.size := by omega
        go_wp2
        go_ret
        exact ⟨ret_i (by rw [E.out, List.take_of_length_le (by simp)]), rfl⟩
end Go.Proofs.YtcgjbfalandffaaDoor
