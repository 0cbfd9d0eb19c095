/-
  Chapter 4, the program's functions on a key: each answers what the plain words say, and leaves the world alone.
-/
import Derived.Test.YtlnkjpacjbhncaaGreatDoorZa
namespace Go.Proofs.YtlnkjpacjbhncaaGreatDoor
open Go.RowKit M
set_option linter.unusedVariables false
theorem keyByte_any (c : Nat) (w : World) (hc : c < 256) : Calls Tryz.prog 74 #[.int .u8 c] w (Same w (.bool (keyB c))) := by
  by_cases h1 : 97 ≤ c
  · by_cases h1' : c ≤ 122
    · have E := Lib.hid (show keyB c = true by simp [keyB]; omega)
      go_enter Tryz.func74, Tryz.ntmps74
      go_wp2
      all_goals first | (exfalso; omega) | (go_ret; exact ⟨ret_bool E.out.symm, rfl⟩)
    · have E := Lib.hid (show keyB c = false by simp [keyB]; omega)
      have e95 : ((c : Int) == 95) = false := by rw [beq_eq_false_iff_ne]; omega
      go_enter Tryz.func74, Tryz.ntmps74
      go_wp2
      all_goals first | (exfalso; omega) | (go_ret; exact ⟨ret_bool E.out.symm, rfl⟩)
  · by_cases h2 : 65 ≤ c
    · by_cases h2' : c ≤ 90
      · have E := Lib.hid (show keyB c = true by simp [keyB]; omega)
        go_enter Tryz.func74, Tryz.ntmps74
        go_wp2
        all_goals first | (exfalso; omega) | (go_ret; exact ⟨ret_bool E.out.symm, rfl⟩)
      · by_cases h4 : c = 95
        · subst h4
          go_enter Tryz.func74, Tryz.ntmps74
          go_wp2
          go_ret
          exact ⟨rfl, rfl⟩
        · have E := Lib.hid (show keyB c = false by simp [keyB]; omega)
          have e95 : ((c : Int) == 95) = false := by rw [beq_eq_false_iff_ne]; omega
          go_enter Tryz.func74, Tryz.ntmps74
          go_wp2
          all_goals first | (exfalso; omega) | (go_ret; exact ⟨ret_bool E.out.symm, rfl⟩)
    · have e95 : ((c : Int) == 95) = false := by rw [beq_eq_false_iff_ne]; omega
      by_cases h3 : 48 ≤ c ∧ c ≤ 57
      · have E := Lib.hid (show keyB c = true by simp [keyB]; omega)
        obtain ⟨h3, h3'⟩ := h3
        go_enter Tryz.func74, Tryz.ntmps74
        go_wp2
        all_goals first | (exfalso; omega) | (go_ret; exact ⟨ret_bool E.out.symm, rfl⟩)
      · have E := Lib.hid (show keyB c = false by simp [keyB]; omega)
        by_cases h5 : 48 ≤ c
        · have h6 : 57 < c := by omega
          go_enter Tryz.func74, Tryz.ntmps74
          go_wp2
          all_goals first | (exfalso; omega) | (go_ret; exact ⟨ret_bool E.out.symm, rfl⟩)
        · go_enter Tryz.func74, Tryz.ntmps74
          go_wp2
          all_goals first | (exfalso; omega) | (go_ret; exact ⟨ret_bool E.out.symm, rfl⟩)
set_option maxRecDepth 100000 in
theorem iKeyOk_same (w : World) (s : ByteArray) (hs : s.size ≤ maxLen) : Calls Tryz.prog 47 #[.string s] w (Same w (.bool (keyOkV s))) := by
  unfold maxLen at hs
  by_cases h4 : 1 ≤ s.size ∧ s.size ≤ 4
  · obtain ⟨h40, h41⟩ := h4
    have d1 : decide ((s.size : Int) < 1) = false := by simp; omega
    have d2 : decide ((4 : Int) < (s.size : Int)) = false := by simp; omega
    go_enter Tryz.func47, Tryz.ntmps47
    go_wp2
    go_loop [3, 14] (fun _ i => ∃ j : Nat, j ≤ s.size ∧ i = .int .i64 j ∧ AllB s j) (fun _ i => s.size - (intOf i).toNat)
    case atStart => exact ⟨0, Nat.zero_le _, rfl, AllB.zero _⟩
    case round =>
      obtain ⟨j, hj, rfl, ha⟩ := hrel
      have HA := Lib.hid ha
      clear ha
      by_cases hlt : j < s.size
      · have hc := s[j].toNat_lt
        have HB := Lib.hid (keyByte_any s[j].toNat w (by omega))
        cases hk : keyB s[j].toNat with
        | true =>
          have HN := Lib.hid (HA.out.next hlt hk)
          rw [hk] at HB
          clear hk
          go_wp2_with (go_at_call 74; refine HB.out.mono ?_; rintro e w' ⟨rfl, rfl⟩)
          go_round
          case rel => exact ⟨j + 1, by omega, by go_num, HN.out⟩
          case measure => simp [intOf]; omega
        | false =>
          have HN := Lib.hid (keyOkV_no hlt hk)
          rw [hk] at HB
          clear hk
          go_wp2_with (go_at_call 74; refine HB.out.mono ?_; rintro e w' ⟨rfl, rfl⟩)
          go_ret
          exact ⟨ret_bool HN.out.symm, rfl⟩
      · obtain rfl : j = s.size := by omega
        have HN := Lib.hid (keyOkV_iff.2 ⟨⟨h40, h41⟩, HA.out⟩)
        go_wp2
        go_ret
        exact ⟨ret_bool HN.out.symm, rfl⟩
  · have HN := Lib.hid (keyOkV_size h4)
    by_cases h0 : s.size < 1
    · have d1 : decide ((s.size : Int) < 1) = true := by simp; omega
      go_enter Tryz.func47, Tryz.ntmps47
      go_wp2
      go_ret
      exact ⟨ret_bool HN.out.symm, rfl⟩
    · have d1 : decide ((s.size : Int) < 1) = false := by simp; omega
      have d2 : decide ((4 : Int) < (s.size : Int)) = true := by simp; omega
      go_enter Tryz.func47, Tryz.ntmps47
      go_wp2
      go_ret
      exact ⟨ret_bool HN.out.symm, rfl⟩
theorem xor_u32 {a b : Nat} (ha : a < 4294967296) (hb : b < 4294967296) : bits .xor .u32 (a : Int) (b : Int) = ((a ^^^ b : Nat) : Int) := by
  have hlt : a ^^^ b < 2 ^ 32 := Nat.xor_lt_two_pow (by omega) (by omega)
  have ka : (BitVec.ofInt 32 (a : Int)).toNat = a := by rw [BitVec.toNat_ofInt]; omega
  have kb : (BitVec.ofInt 32 (b : Int)).toNat = b := by rw [BitVec.toNat_ofInt]; omega
  show IntKind.u32.wrap ((BitVec.ofInt 32 (a : Int) ^^^ BitVec.ofInt 32 (b : Int)).toNat : Nat) = _
  rw [BitVec.toNat_xor, ka, kb, IntKind.wrap_u32]
  omega
set_option maxRecDepth 100000 in
theorem iHash_same (w : World) (s : ByteArray) (hs : s.size ≤ maxLen) : Calls Tryz.prog 100 #[.string s] w (Same w (.int .i64 (hashV s : Nat))) := by
  unfold maxLen at hs
  go_enter Tryz.func100, Tryz.ntmps100
  go_wp2
  go_loop [3, 4, 7] (fun h _ i => ∃ j : Nat, j ≤ s.size ∧ i = .int .i64 j ∧ h = .int .u32 (hashT (s.data.toList.take j) : Nat)) (fun _ _ i => s.size - (intOf i).toNat)
  case atStart => exact ⟨0, Nat.zero_le _, rfl, rfl⟩
  case round =>
    obtain ⟨j, hj, rfl, rfl⟩ := hrel
    by_cases hlt : j < s.size
    · have hb := hashT_lt (s.data.toList.take j)
      have hc := s[j].toNat_lt
      have HS := Lib.hid (hashT_take s j hlt)
      have HN := Lib.hid (hash_next (hashT (s.data.toList.take j)) s[j].toNat)
      generalize hashT (s.data.toList.take j) = h at *
      have hx := xor_u32 (a := h) (b := s[j].toNat) hb (by omega)
      have hx2 := xor_lt32 (a := h) (b := s[j].toNat) hb (by omega)
      generalize h ^^^ s[j].toNat = x at *
      go_wp2
      go_round
      case rel => exact ⟨j + 1, by omega, by go_num, by rw [HS.out, ← HN.out]⟩
      case measure => simp [intOf]; omega
    · obtain rfl : j = s.size := by omega
      have E := Lib.hid (show hashV s = hashT (s.data.toList.take s.size) by unfold hashV; rw [List.take_of_length_le (by simp)])
      have hb := hashT_lt (s.data.toList.take s.size)
      generalize hashT (s.data.toList.take s.size) = h at *
      go_wp2
      go_ret
      exact ⟨ret_i (by rw [E.out]), rfl⟩
set_option maxRecDepth 100000 in
theorem iProbe_same (w : World) (s : ByteArray) (n : Int) (hs : s.size ≤ maxLen) : Calls Tryz.prog 75 #[.string s, .int .i64 n] w (Same w (.int .i64 (probeV s n))) := by
  have HOK := Lib.hid (iKeyOk_same w s hs)
  have HH := Lib.hid (iHash_same w s hs)
  have hh := hashT_lt s.data.toList
  rw [show hashT s.data.toList = hashV s from rfl] at hh
  cases hk : keyOkV s with
  | false =>
    have E := Lib.hid (show probeV s n = -1 by unfold probeV; rw [if_neg (by rw [hk]; simp)])
    rw [hk] at HOK
    clear hk hh
    go_enter Tryz.func75, Tryz.ntmps75
    go_wp2_with (go_at_call 47; refine HOK.out.mono ?_; rintro e w' ⟨rfl, rfl⟩)
    go_ret
    exact ⟨ret_i E.out.symm, rfl⟩
  | true =>
    rw [hk] at HOK
    by_cases hn : 0 ≤ n ∧ n ≤ 3
    · have E := Lib.hid (show probeV s n = ((hashV s : Int) + n) % 4 by unfold probeV; rw [if_pos ⟨hk, hn⟩])
      obtain ⟨n0, n1⟩ := hn
      generalize hashV s = h at *
      clear hk
      go_enter Tryz.func75, Tryz.ntmps75
      go_wp2_with (first | (go_at_call 47; refine HOK.out.mono ?_; rintro e w' ⟨rfl, rfl⟩) | (go_at_call 58; refine (isIdx_yes _ _ _ (by omega) (by omega)).mono ?_; rintro e w' ⟨rfl, rfl⟩) | (go_at_call 100; refine HH.out.mono ?_; rintro e w' ⟨rfl, rfl⟩))
      go_ret
      exact ⟨ret_i E.out.symm, rfl⟩
    · have E := Lib.hid (show probeV s n = -1 by unfold probeV; rw [if_neg (fun h => hn h.2)])
      clear hk hh
      go_enter Tryz.func75, Tryz.ntmps75
      go_wp2_with (first | (go_at_call 47; refine HOK.out.mono ?_; rintro e w' ⟨rfl, rfl⟩) | (go_at_call 58; refine (isIdx_no _ _ _ (by omega)).mono ?_; rintro e w' ⟨rfl, rfl⟩))
      go_ret
      exact ⟨ret_i E.out.symm, rfl⟩
theorem same_gives {f : FuncId} {args : Array Value} {w : World} {v : Value} (h : Calls Tryz.prog f args w (Same w v)) : Calls Tryz.prog f args w (Gives v w) := h.mono fun _ _ k => gives_same k
theorem iKeyOk_any (w : World) (s : ByteArray) (hs : s.size ≤ maxLen) : Calls Tryz.prog 47 #[.string s] w (Gives (.bool (keyOkV s)) w) := same_gives (iKeyOk_same w s hs)
theorem iHash_any (w : World) (s : ByteArray) (hs : s.size ≤ maxLen) : Calls Tryz.prog 100 #[.string s] w (Gives (.int .i64 (hashV s : Nat)) w) := same_gives (iHash_same w s hs)
theorem iProbe_any (w : World) (s : ByteArray) (n : Int) (hs : s.size ≤ maxLen) : Calls Tryz.prog 75 #[.string s, .int .i64 n] w (Gives (.int .i64 (probeV s n)) w) := same_gives (iProbe_same w s n hs)
end Go.Proofs.YtlnkjpacjbhncaaGreatDoor
