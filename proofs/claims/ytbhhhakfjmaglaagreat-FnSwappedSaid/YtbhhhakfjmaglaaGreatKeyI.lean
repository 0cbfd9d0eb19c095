/-
  Chapter 4, the program's functions on a key: each answers what the plain words say, and leaves the world alone.
-/
import Derived.Test.YtbhhhakfjmaglaaGreatZa
namespace Go.Proofs.YtbhhhakfjmaglaaGreat
open Go.RowKit M
set_option linter.unusedVariables false
theorem keyByte_any (c : Nat) (w : World) (hc : c < 256) : Calls Tryz.prog 96 #[.int .u8 c] w (Same w (.bool (keyB c))) := by
  by_cases h1 : 97 ≤ c
  · by_cases h1' : c ≤ 122
    · have E := Lib.hid (show keyB c = true by simp [keyB]; omega)
      go_enter Tryz.func96, Tryz.ntmps96
      go_wp2
      all_goals first | (exfalso; omega) | (go_ret; exact ⟨ret_bool E.out.symm, rfl⟩)
    · have E := Lib.hid (show keyB c = false by simp [keyB]; omega)
      have e95 : ((c : Int) == 95) = false := by rw [beq_eq_false_iff_ne]; omega
      go_enter Tryz.func96, Tryz.ntmps96
      go_wp2
      all_goals first | (exfalso; omega) | (go_ret; exact ⟨ret_bool E.out.symm, rfl⟩)
  · by_cases h2 : 65 ≤ c
    · by_cases h2' : c ≤ 90
      · have E := Lib.hid (show keyB c = true by simp [keyB]; omega)
        go_enter Tryz.func96, Tryz.ntmps96
        go_wp2
        all_goals first | (exfalso; omega) | (go_ret; exact ⟨ret_bool E.out.symm, rfl⟩)
      · by_cases h4 : c = 95
        · subst h4
          go_enter Tryz.func96, Tryz.ntmps96
          go_wp2
          go_ret
          exact ⟨rfl, rfl⟩
        · have E := Lib.hid (show keyB c = false by simp [keyB]; omega)
          have e95 : ((c : Int) == 95) = false := by rw [beq_eq_false_iff_ne]; omega
          go_enter Tryz.func96, Tryz.ntmps96
          go_wp2
          all_goals first | (exfalso; omega) | (go_ret; exact ⟨ret_bool E.out.symm, rfl⟩)
    · have e95 : ((c : Int) == 95) = false := by rw [beq_eq_false_iff_ne]; omega
      by_cases h3 : 48 ≤ c ∧ c ≤ 57
      · have E := Lib.hid (show keyB c = true by simp [keyB]; omega)
        obtain ⟨h3, h3'⟩ := h3
        go_enter Tryz.func96, Tryz.ntmps96
        go_wp2
        all_goals first | (exfalso; omega) | (go_ret; exact ⟨ret_bool E.out.symm, rfl⟩)
      · have E := Lib.hid (show keyB c = false by simp [keyB]; omega)
        by_cases h5 : 48 ≤ c
        · have h6 : 57 < c := by omega
          go_enter Tryz.func96, Tryz.ntmps96
          go_wp2
          all_goals first | (exfalso; omega) | (go_ret; exact ⟨ret_bool E.out.symm, rfl⟩)
        · go_enter Tryz.func96, Tryz.ntmps96
          go_wp2
          all_goals first | (exfalso; omega) | (go_ret; exact ⟨ret_bool E.out.symm, rfl⟩)
set_option maxRecDepth 100000 in
theorem iKeyOk_same (w : World) (s : ByteArray) (hs : s.size ≤ maxLen) : Calls Tryz.prog 68 #[.string s] w (Same w (.bool (keyOkV s))) := by
  unfold maxLen at hs
  by_cases h4 : 1 ≤ s.size ∧ s.size ≤ 4
  · obtain ⟨h40, h41⟩ := h4
    have d1 : decide ((s.size : Int) < 1) = false := by simp; omega
    have d2 : decide ((4 : Int) < (s.size : Int)) = false := by simp; omega
    go_enter Tryz.func68, Tryz.ntmps68
    go_wp2
    go_loop [3, 14] (fun _ i => ∃ j : Nat, j ≤ s.size ∧ i = .int .i64 j ∧ AllB s j) (fun _ i => s.size - (intOf i).toNat)
    case atStart => exact ⟨0, Nat.zero_le _, rfl, AllB.zero _⟩
    case round =>
      obtain ⟨j, hj, rfl, ha⟩ := hrel
      have HA := Lib.hid ha
      clear ha
      by_cases hlt : j < s.size
      · have hc := s[j].toNat_lt
        have HB := Lib.hid (keyByte_any s[j].toNat w (by omega))
        cases hk : keyB s[j].toNat with
        | true =>
          have HN := Lib.hid (HA.out.next hlt hk)
          rw [hk] at HB
          clear hk
          go_wp2_with (go_at_call 96; refine HB.out.mono ?_; rintro e w' ⟨rfl, rfl⟩)
          go_round
          case rel => exact ⟨j + 1, by omega, by go_num, HN.out⟩
          case measure => simp [intOf]; omega
        | false =>
          have HN := Lib.hid (keyOkV_no hlt hk)
          rw [hk] at HB
          clear hk
          go_wp2_with (go_at_call 96; refine HB.out.mono ?_; rintro e w' ⟨rfl, rfl⟩)
          go_ret
          exact ⟨ret_bool HN.out.symm, rfl⟩
      · obtain rfl : j = s.size := by omega
        have HN := Lib.hid (keyOkV_iff.2 ⟨⟨h40, h41⟩, HA.out⟩)
        go_wp2
        go_ret
        exact ⟨ret_bool HN.out.symm, rfl⟩
  · have HN := Lib.hid (keyOkV_size h4)
    by_cases h0 : s.size < 1
    · have d1 : decide ((s.size : Int) < 1) = true := by simp; omega
      go_enter Tryz.func68, Tryz.ntmps68
      go_wp2
      go_ret
      exact ⟨ret_bool HN.out.symm, rfl⟩
    · have d1 : decide ((s.size : Int) < 1) = false := by simp; omega
      have d2 : decide ((4 : Int) < (s.size : Int)) = true := by simp; omega
      go_enter Tryz.func68, Tryz.ntmps68
      go_wp2
      go_ret
      exact ⟨ret_bool HN.out.symm, rfl⟩
theorem iPack_same (w : World) (s : ByteArray) (hs : s.size ≤ maxLen) : Calls Tryz.prog 110 #[.string s] w (Same w (.int .i64 (packV s : Nat))) := by
  have HOK := Lib.hid (iKeyOk_same w s hs)
  cases hk : keyOkV s with
  | false =>
    have E := Lib.hid (show packV s = 0 by unfold packV; rw [hk]; rfl)
    rw [hk] at HOK
    clear hk
    go_enter Tryz.func110, Tryz.ntmps110
    go_wp2_with (go_at_call 68; refine HOK.out.mono ?_; rintro e w' ⟨rfl, rfl⟩)
    go_ret
    exact ⟨ret_i (by rw [E.out]; rfl), rfl⟩
  | true =>
    have h4 := (keyOkV_iff.1 hk).1
    have E := Lib.hid (show packV s = be (s.data.toList.take s.size) by unfold packV; rw [if_pos hk, List.take_of_length_le (by simp)])
    have HR := Lib.hid (iRf_good s s.size w hs h4.1 (by omega) (Nat.le_refl _))
    rw [hk] at HOK
    clear hk
    generalize be (s.data.toList.take s.size) = r at *
    go_enter Tryz.func110, Tryz.ntmps110
    go_wp2_with (first | (go_at_call 68; refine HOK.out.mono ?_; rintro e w' ⟨rfl, rfl⟩) | (go_at_call 126; refine HR.out.mono ?_; rintro e w' ⟨rfl, rfl⟩))
    go_ret
    exact ⟨ret_i (by rw [E.out]), rfl⟩
theorem xor_u32 {a b : Nat} (ha : a < 4294967296) (hb : b < 4294967296) : bits .xor .u32 (a : Int) (b : Int) = ((a ^^^ b : Nat) : Int) := by
  have hlt : a ^^^ b < 2 ^ 32 := Nat.xor_lt_two_pow (by omega) (by omega)
  have ka : (BitVec.ofInt 32 (a : Int)).toNat = a := by rw [BitVec.toNat_ofInt]; omega
  have kb : (BitVec.ofInt 32 (b : Int)).toNat = b := by rw [BitVec.toNat_ofInt]; omega
  show IntKind.u32.wrap ((BitVec.ofInt 32 (a : Int) ^^^ BitVec.ofInt 32 (b : Int)).toNat : Nat) = _
  rw [BitVec.toNat_xor, ka, kb, IntKind.wrap_u32]
  omega
theorem same_gives {f : FuncId} {args : Array Value} {w : World} {v : Value} (h : Calls Tryz.prog f args w (Same w v)) : Calls Tryz.prog f args w (Gives v w) := h.mono fun _ _ k => gives_same k
theorem iKeyOk_any (w : World) (s : ByteArray) (hs : s.size ≤ maxLen) : Calls Tryz.prog 68 #[.string s] w (Gives (.bool (keyOkV s)) w) := same_gives (iKeyOk_same w s hs)
theorem iPack_any (w : World) (s : ByteArray) (hs : s.size ≤ maxLen) : Calls Tryz.prog 110 #[.string s] w (Gives (.int .i64 (packV s : Nat)) w) := same_gives (iPack_same w s hs)
end Go.Proofs.YtbhhhakfjmaglaaGreat
