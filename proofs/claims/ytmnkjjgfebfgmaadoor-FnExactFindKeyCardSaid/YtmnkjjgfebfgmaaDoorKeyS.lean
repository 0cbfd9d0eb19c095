/-
  Chapter 4, the model's functions: each answers what the plain words say.
-/
import Derived.Test.YtmnkjjgfebfgmaaDoorKeyV
import Derived.Test.YtmnkjjgfebfgmaaDoorIn
import Derived.Test.YtmnkjjgfebfgmaaDoorGive
namespace Go.Proofs.YtmnkjjgfebfgmaaDoor
open Go.RowKit M
set_option linter.unusedVariables false
theorem l4Byte_any (c : Nat) (w : World) (hc : c < 256) : Calls Tryd.prog 39 #[.int .i64 c] w (Same w (.bool (keyB c))) := by
  have e95 : ((c : Int) == 95) = decide (c = 95) := by
    by_cases h : c = 95
    · subst h; rfl
    · rw [decide_eq_false h, beq_eq_false_iff_ne]; omega
  by_cases h1 : 97 ≤ c ∧ c ≤ 122
  · have E := Lib.hid (show keyB c = true by simp [keyB]; omega)
    clear e95
    go_enter Tryd.func39, Tryd.ntmps39
    go_wp2_with (go_at_call 38; first | (refine (l1In_yes _ _ _ _ (by omega) (by omega)).mono ?_; rintro e w' ⟨rfl, rfl⟩) | (refine (l1In_no _ _ _ _ (by omega)).mono ?_; rintro e w' ⟨rfl, rfl⟩))
    go_ret
    exact ⟨ret_bool E.out.symm, rfl⟩
  · by_cases h2 : 65 ≤ c ∧ c ≤ 90
    · have E := Lib.hid (show keyB c = true by simp [keyB]; omega)
      clear e95
      go_enter Tryd.func39, Tryd.ntmps39
      go_wp2_with (go_at_call 38; first | (refine (l1In_yes _ _ _ _ (by omega) (by omega)).mono ?_; rintro e w' ⟨rfl, rfl⟩) | (refine (l1In_no _ _ _ _ (by omega)).mono ?_; rintro e w' ⟨rfl, rfl⟩))
      go_ret
      exact ⟨ret_bool E.out.symm, rfl⟩
    · by_cases h3 : 48 ≤ c ∧ c ≤ 57
      · have E := Lib.hid (show keyB c = true by simp [keyB]; omega)
        clear e95
        go_enter Tryd.func39, Tryd.ntmps39
        go_wp2_with (go_at_call 38; first | (refine (l1In_yes _ _ _ _ (by omega) (by omega)).mono ?_; rintro e w' ⟨rfl, rfl⟩) | (refine (l1In_no _ _ _ _ (by omega)).mono ?_; rintro e w' ⟨rfl, rfl⟩))
        go_ret
        exact ⟨ret_bool E.out.symm, rfl⟩
      · have E := Lib.hid (show keyB c = decide (c = 95) by
          unfold keyB
          rw [show (decide (97 ≤ c) && decide (c ≤ 122)) = false by simp; omega, show (decide (65 ≤ c) && decide (c ≤ 90)) = false by simp; omega, show (decide (48 ≤ c) && decide (c ≤ 57)) = false by simp; omega]
          simp)
        generalize decide (c = 95) = r at *
        go_enter Tryd.func39, Tryd.ntmps39
        go_wp2_with (go_at_call 38; refine (l1In_no _ _ _ _ (by omega)).mono ?_; rintro e w' ⟨rfl, rfl⟩)
        go_ret
        exact ⟨ret_bool E.out.symm, rfl⟩
set_option maxRecDepth 100000 in
theorem sKeyOk_any (w : World) (s : ByteArray) (hs : s.size ≤ maxLen) : Calls Tryd.prog 23 #[.string s] w (Same w (.bool (keyOkV s))) := by
  unfold maxLen at hs
  go_enter Tryd.func23, Tryd.ntmps23
  go_wp2
  go_loop [3] (fun i => ∃ j : Nat, j ≤ s.size ∧ i = .int .i64 j ∧ AllB s j) (fun i => s.size - (intOf i).toNat)
  case atStart => exact ⟨0, Nat.zero_le _, rfl, AllB.zero _⟩
  case round =>
    obtain ⟨j, hj, rfl, ha⟩ := hrel
    have HA := Lib.hid ha
    clear ha
    by_cases hlt : j < s.size
    · have hc := s[j].toNat_lt
      have HB := Lib.hid (l4Byte_any s[j].toNat w (by omega))
      cases hk : keyB s[j].toNat with
      | true =>
        have HN := Lib.hid (HA.out.next hlt hk)
        rw [hk] at HB
        clear hk
        go_wp2_with (go_at_call 39; refine HB.out.mono ?_; rintro e w' ⟨rfl, rfl⟩)
        go_round
        case rel => exact ⟨j + 1, by omega, by go_num, HN.out⟩
        case measure => simp [intOf]; omega
      | false =>
        have HN := Lib.hid (keyOkV_no hlt hk)
        rw [hk] at HB
        clear hk
        go_wp2_with (go_at_call 39; refine HB.out.mono ?_; rintro e w' ⟨rfl, rfl⟩)
        go_ret
        exact ⟨ret_bool HN.out.symm, rfl⟩
    · obtain rfl : j = s.size := by omega
      by_cases h4 : 1 ≤ s.size ∧ s.size ≤ 4
      · have HN := Lib.hid (keyOkV_iff.2 ⟨h4, HA.out⟩)
        obtain ⟨h40, h41⟩ := h4
        go_wp2_with (go_at_call 38; refine (l1In_yes _ _ _ _ (by omega) (by omega)).mono ?_; rintro e w' ⟨rfl, rfl⟩)
        go_ret
        exact ⟨ret_bool HN.out.symm, rfl⟩
      · have HN := Lib.hid (keyOkV_size h4)
        go_wp2_with (go_at_call 38; refine (l1In_no _ _ _ _ (by omega)).mono ?_; rintro e w' ⟨rfl, rfl⟩)
        go_ret
        exact ⟨ret_bool HN.out.symm, rfl⟩
set_option maxRecDepth 100000 in
theorem sPack_any (w : World) (s : ByteArray) (hs : s.size ≤ maxLen) : Calls Tryd.prog 48 #[.string s] w (Same w (.int .i64 (packV s : Nat))) := by
  have HOK := Lib.hid (sKeyOk_any w s hs)
  cases hk : keyOkV s with
  | false =>
    have E := Lib.hid (show packV s = 0 by unfold packV; rw [hk]; rfl)
    rw [hk] at HOK
    clear hk
    go_enter Tryd.func48, Tryd.ntmps48
    go_wp2_with (go_at_call 23; refine HOK.out.mono ?_; rintro e w' ⟨rfl, rfl⟩)
    go_ret
    exact ⟨ret_i (by rw [E.out]; rfl), rfl⟩
  | true =>
    have E := Lib.hid (show packV s = be s.data.toList by unfold packV; rw [if_pos hk])
    have h4 := (keyOkV_iff.1 hk).1.2
    rw [hk] at HOK
    clear hk hs
    go_enter Tryd.func48, Tryd.ntmps48
    go_wp2_with (go_at_call 23; refine HOK.out.mono ?_; rintro e w' ⟨rfl, rfl⟩)
    go_loop [3, 4] (fun n i => ∃ j : Nat, j ≤ s.size ∧ i = .int .i64 j ∧ n = .int .i64 (be (s.data.toList.take j))) (fun _ i => s.size - (intOf i).toNat)
    case atStart => exact ⟨0, Nat.zero_le _, rfl, rfl⟩
    case round =>
      obtain ⟨j, hj, rfl, rfl⟩ := hrel
      by_cases hlt : j < s.size
      · have hb := be_take_lt s j (by omega)
        have hc := s[j].toNat_lt
        have HS : Hid (be (s.data.toList.take (j + 1)) = be (s.data.toList.take j) * 256 + s[j].toNat) := be_take s j hlt
        go_wp2
        go_round
        case rel => exact ⟨j + 1, by omega, by go_num, by rw [HS.out]; go_num⟩
        case measure => simp [intOf]; omega
      · obtain rfl : j = s.size := by omega
        go_wp2
        go_ret
        exact ⟨ret_i (by rw [E.out, List.take_of_length_le (by simp)]), rfl⟩
set_option maxRecDepth 100000 in
theorem sHash_any (w : World) (s : ByteArray) (hs : s.size ≤ maxLen) : Calls Tryd.prog 53 #[.string s] w (Same w (.int .i64 (hashV s : Nat))) := by
  unfold maxLen at hs
  go_enter Tryd.func53, Tryd.ntmps53
  go_wp2
  go_loop [3, 4] (fun h i => ∃ j : Nat, j ≤ s.size ∧ i = .int .i64 j ∧ h = .int .i64 (hashT (s.data.toList.take j) : Nat)) (fun _ i => s.size - (intOf i).toNat)
  case atStart => exact ⟨0, Nat.zero_le _, rfl, rfl⟩
  case round =>
    obtain ⟨j, hj, rfl, rfl⟩ := hrel
    by_cases hlt : j < s.size
    · have hb := hashT_lt (s.data.toList.take j)
      have hc := s[j].toNat_lt
      have HS := Lib.hid (hashT_take s j hlt)
      have HN := Lib.hid (hash_next (hashT (s.data.toList.take j)) s[j].toNat)
      generalize hashT (s.data.toList.take j) = h at *
      have hx := xor_i64 (a := h) (b := s[j].toNat) hb (by omega)
      have hx2 := xor_lt32 (a := h) (b := s[j].toNat) hb (by omega)
      generalize h ^^^ s[j].toNat = x at *
      go_wp2
      go_round
      case rel => exact ⟨j + 1, by omega, by go_num, by rw [HS.out, ← HN.out]⟩
      case measure => simp [intOf]; omega
    · obtain rfl : j = s.size := by omega
      have E := Lib.hid (show hashV s = hashT (s.data.toList.take s.size) by unfold hashV; rw [List.take_of_length_le (by simp)])
      go_wp2
      go_ret
      exact ⟨ret_i (by rw [E.out]), rfl⟩
set_option maxRecDepth 100000 in
theorem sProbe_any (w : World) (s : ByteArray) (n : Int) (hs : s.size ≤ maxLen) : Calls Tryd.prog 40 #[.string s, .int .i64 n] w (Same w (.int .i64 (probeV s n))) := by
  have HOK := Lib.hid (sKeyOk_any w s hs)
  have HH := Lib.hid (sHash_any w s hs)
  have hh := hashT_lt s.data.toList
  rw [show hashT s.data.toList = hashV s from rfl] at hh
  cases hk : keyOkV s with
  | false =>
    have E := Lib.hid (show probeV s n = -1 by unfold probeV; rw [if_neg (by rw [hk]; simp)])
    rw [hk] at HOK
    clear hk hh
    go_enter Tryd.func40, Tryd.ntmps40
    go_wp2_with (go_at_call 23; refine HOK.out.mono ?_; rintro e w' ⟨rfl, rfl⟩)
    go_ret
    exact ⟨ret_i E.out.symm, rfl⟩
  | true =>
    rw [hk] at HOK
    by_cases hn : 0 ≤ n ∧ n ≤ 3
    · have E := Lib.hid (show probeV s n = ((hashV s : Int) + n) % 4 by unfold probeV; rw [if_pos ⟨hk, hn⟩])
      obtain ⟨n0, n1⟩ := hn
      generalize hashV s = h at *
      clear hk
      go_enter Tryd.func40, Tryd.ntmps40
      go_wp2_with (first | (go_at_call 23; refine HOK.out.mono ?_; rintro e w' ⟨rfl, rfl⟩) | (go_at_call 38; refine (l1In_yes _ _ _ _ (by omega) (by omega)).mono ?_; rintro e w' ⟨rfl, rfl⟩) | (go_at_call 53; refine HH.out.mono ?_; rintro e w' ⟨rfl, rfl⟩))
      go_ret
      exact ⟨ret_i E.out.symm, rfl⟩
    · have E := Lib.hid (show probeV s n = -1 by unfold probeV; rw [if_neg (fun h => hn h.2)])
      clear hk hh
      go_enter Tryd.func40, Tryd.ntmps40
      go_wp2_with (first | (go_at_call 23; refine HOK.out.mono ?_; rintro e w' ⟨rfl, rfl⟩) | (go_at_call 38; refine (l1In_no _ _ _ _ (by omega)).mono ?_; rintro e w' ⟨rfl, rfl⟩))
      go_ret
      exact ⟨ret_i E.out.symm, rfl⟩
end Go.Proofs.YtmnkjjgfebfgmaaDoor
