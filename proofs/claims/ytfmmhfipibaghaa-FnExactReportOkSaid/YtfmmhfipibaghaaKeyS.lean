/-
  Chapter 4, the model's functions: each answers what the plain words say.
-/
import Derived.Test.YtfmmhfipibaghaaKeyV
import Derived.Test.YtfmmhfipibaghaaIn
import Derived.Test.YtfmmhfipibaghaaGive
namespace Go.Proofs.Ytfmmhfipibaghaa
open Go.RowKit M
set_option linter.unusedVariables false
theorem l4Byte_any (c : Nat) (w : World) (hc : c < 256) : Calls Try.prog 51 #[.int .i64 c] w (Same w (.bool (keyB c))) := by
  have e95 : ((c : Int) == 95) = decide (c = 95) := by
    by_cases h : c = 95
    · subst h; rfl
    · rw [decide_eq_false h, beq_eq_false_iff_ne]; omega
  by_cases h1 : 97 ≤ c ∧ c ≤ 122
  · have E := Lib.hid (show keyB c = true by simp [keyB]; omega)
    clear e95
    go_enter Try.func51, Try.ntmps51
    go_wp2_with (go_at_call 38; first | (refine (l1In_yes _ _ _ _ (by omega) (by omega)).mono ?_; rintro e w' ⟨rfl, rfl⟩) | (refine (l1In_no _ _ _ _ (by omega)).mono ?_; rintro e w' ⟨rfl, rfl⟩))
    go_ret
    exact ⟨ret_bool E.out.symm, rfl⟩
  · by_cases h2 : 65 ≤ c ∧ c ≤ 90
    · have E := Lib.hid (show keyB c = true by simp [keyB]; omega)
      clear e95
      go_enter Try.func51, Try.ntmps51
      go_wp2_with (go_at_call 38; first | (refine (l1In_yes _ _ _ _ (by omega) (by omega)).mono ?_; rintro e w' ⟨rfl, rfl⟩) | (refine (l1In_no _ _ _ _ (by omega)).mono ?_; rintro e w' ⟨rfl, rfl⟩))
      go_ret
      exact ⟨ret_bool E.out.symm, rfl⟩
    · by_cases h3 : 48 ≤ c ∧ c ≤ 57
      · have E := Lib.hid (show keyB c = true by simp [keyB]; omega)
        clear e95
        go_enter Try.func51, Try.ntmps51
        go_wp2_with (go_at_call 38; first | (refine (l1In_yes _ _ _ _ (by omega) (by omega)).mono ?_; rintro e w' ⟨rfl, rfl⟩) | (refine (l1In_no _ _ _ _ (by omega)).mono ?_; rintro e w' ⟨rfl, rfl⟩))
        go_ret
        exact ⟨ret_bool E.out.symm, rfl⟩
      · have E := Lib.hid (show keyB c = decide (c = 95) by
          unfold keyB
          rw [show (decide (97 ≤ c) && decide (c ≤ 122)) = false by simp; omega, show (decide (65 ≤ c) && decide (c ≤ 90)) = false by simp; omega, show (decide (48 ≤ c) && decide (c ≤ 57)) = false by simp; omega]
          simp)
        generalize decide (c = 95) = r at *
        go_enter Try.func51, Try.ntmps51
        go_wp2_with (go_at_call 38; refine (l1In_no _ _ _ _ (by omega)).mono ?_; rintro e w' ⟨rfl, rfl⟩)
        go_ret
        exact ⟨ret_bool E.out.symm, rfl⟩
set_option maxRecDepth 100000 in
theorem sKeyOk_any (w : World) (s : ByteArray) (hs : s.size ≤ maxLen) : Calls Try.prog 39 #[.string s] w (Same w (.bool (keyOkV s))) := by
  unfold maxLen at hs
  go_enter Try.func39, Try.ntmps39
  go_wp2
  go_loop [3] (fun i => ∃ j : Nat, j ≤ s.size ∧ i = .int .i64 j ∧ AllB s j) (fun i => s.size - (intOf i).toNat)
  case atStart => exact ⟨0, Nat.zero_le _, rfl, AllB.zero _⟩
  case round =>
    obtain ⟨j, hj, rfl, ha⟩ := hrel
    have HA := Lib.hid ha
    clear ha
    by_cases hlt : j < s.size
    · have hc := s[j].toNat_lt
      have HB := Lib.hid (l4Byte_any s[j].toNat w (by omega))
      cases hk : keyB s[j].toNat with
      | true =>
        have HN := Lib.hid (HA.out.next hlt hk)
        rw [hk] at HB
        clear hk
        go_wp2_with (go_at_call 51; refine HB.out.mono ?_; rintro e w' ⟨rfl, rfl⟩)
        go_round
        case rel => exact ⟨j + 1, by omega, by go_num, HN.out⟩
        case measure => simp [intOf]; omega
      | false =>
        have HN := Lib.hid (keyOkV_no hlt hk)
        rw [hk] at HB
        clear hk
        go_wp2_with (go_at_call 51; refine HB.out.mono ?_; rintro e w' ⟨rfl, rfl⟩)
        go_ret
        exact ⟨ret_bool HN.out.symm, rfl⟩
    · obtain rfl : j = s.size := by omega
      by_cases h4 : 1 ≤ s.size ∧ s.size ≤ 4
      · have HN := Lib.hid (keyOkV_iff.2 ⟨h4, HA.out⟩)
        obtain ⟨h40, h41⟩ := h4
        go_wp2_with (go_at_call 38; refine (l1In_yes _ _ _ _ (by omega) (by omega)).mono ?_; rintro e w' ⟨rfl, rfl⟩)
        go_ret
        exact ⟨ret_bool HN.out.symm, rfl⟩
      · have HN := Lib.hid (keyOkV_size h4)
        go_wp2_with (go_at_call 38; refine (l1In_no _ _ _ _ (by omega)).mono ?_; rintro e w' ⟨rfl, rfl⟩)
        go_ret
        exact ⟨ret_bool HN.out.symm, rfl⟩
end Go.Proofs.Ytfmmhfipibaghaa
