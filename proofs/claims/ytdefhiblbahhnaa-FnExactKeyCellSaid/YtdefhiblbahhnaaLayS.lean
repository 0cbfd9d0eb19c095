/-
  Chapter 3, the model's: each function of a cell's number answers what the plain words say, and leaves the world alone.
-/
import Derived.Test.YtdefhiblbahhnaaGive
import Derived.Test.YtdefhiblbahhnaaLay
import Derived.Test.YtdefhiblbahhnaaMath
import Derived.Test.YtdefhiblbahhnaaIn
namespace Go.Proofs.Ytdefhiblbahhnaa
open Go.RowKit M
set_option linter.unusedVariables false
theorem sIn_any (x : Int) (w : World) : Calls Try.prog 11 #[.int .i64 x] w (Same w (.int .i64 (inV x))) := by
  by_cases h : 0 ≤ x ∧ x ≤ 1
  · have E := Lib.hid (inV_yes h)
    obtain ⟨h0, h1⟩ := h
    go_enter Try.func11, Try.ntmps11
    go_wp2_with (go_at_call 27; first | (refine (l1In_yes _ _ _ _ (by omega) (by omega)).mono ?_; rintro e w' ⟨rfl, rfl⟩) | (refine (l1In_no _ _ _ _ (by omega)).mono ?_; rintro e w' ⟨rfl, rfl⟩))
    go_ret
    exact ⟨ret_i (by rw [E.out]), rfl⟩
  · have E := Lib.hid (inV_no h)
    go_enter Try.func11, Try.ntmps11
    go_wp2_with (go_at_call 27; first | (refine (l1In_yes _ _ _ _ (by omega) (by omega)).mono ?_; rintro e w' ⟨rfl, rfl⟩) | (refine (l1In_no _ _ _ _ (by omega)).mono ?_; rintro e w' ⟨rfl, rfl⟩))
    go_ret
    exact ⟨ret_i (by rw [E.out]), rfl⟩
theorem sKey_any (x : Int) (w : World) : Calls Try.prog 13 #[.int .i64 x] w (Same w (.int .i64 (keyV x))) := by
  by_cases h : 0 ≤ x ∧ x ≤ 3
  · have E := Lib.hid (keyV_yes h)
    obtain ⟨h0, h1⟩ := h
    go_enter Try.func13, Try.ntmps13
    go_wp2_with (go_at_call 27; first | (refine (l1In_yes _ _ _ _ (by omega) (by omega)).mono ?_; rintro e w' ⟨rfl, rfl⟩) | (refine (l1In_no _ _ _ _ (by omega)).mono ?_; rintro e w' ⟨rfl, rfl⟩))
    go_ret
    exact ⟨ret_i (by rw [E.out]), rfl⟩
  · have E := Lib.hid (keyV_no h)
    go_enter Try.func13, Try.ntmps13
    go_wp2_with (go_at_call 27; first | (refine (l1In_yes _ _ _ _ (by omega) (by omega)).mono ?_; rintro e w' ⟨rfl, rfl⟩) | (refine (l1In_no _ _ _ _ (by omega)).mono ?_; rintro e w' ⟨rfl, rfl⟩))
    go_ret
    exact ⟨ret_i (by rw [E.out]), rfl⟩
theorem sBase_any (b s : Int) (w : World) : Calls Try.prog 15 #[.int .i64 b, .int .i64 s] w (Same w (.int .i64 (cellV b s 0))) := by
  by_cases h : 0 ≤ b ∧ b ≤ 1
  · by_cases h' : 0 ≤ s ∧ s ≤ 3
    · have E := Lib.hid (cellV_yes (k := 0) h h')
      obtain ⟨h0, h1⟩ := h
      obtain ⟨h2, h3⟩ := h'
      go_enter Try.func15, Try.ntmps15
      go_wp2_with (go_at_call 27; first | (refine (l1In_yes _ _ _ _ (by omega) (by omega)).mono ?_; rintro e w' ⟨rfl, rfl⟩) | (refine (l1In_no _ _ _ _ (by omega)).mono ?_; rintro e w' ⟨rfl, rfl⟩))
      go_ret
      exact ⟨ret_i (by rw [E.out, Int.add_zero]), rfl⟩
    · have E := Lib.hid (cellV_noS (b := b) (k := 0) h')
      obtain ⟨h0, h1⟩ := h
      go_enter Try.func15, Try.ntmps15
      go_wp2_with (go_at_call 27; first | (refine (l1In_yes _ _ _ _ (by omega) (by omega)).mono ?_; rintro e w' ⟨rfl, rfl⟩) | (refine (l1In_no _ _ _ _ (by omega)).mono ?_; rintro e w' ⟨rfl, rfl⟩))
      go_ret
      exact ⟨ret_i (by rw [E.out]), rfl⟩
  · have E := Lib.hid (cellV_noB (s := s) (k := 0) h)
    go_enter Try.func15, Try.ntmps15
    go_wp2_with (go_at_call 27; first | (refine (l1In_yes _ _ _ _ (by omega) (by omega)).mono ?_; rintro e w' ⟨rfl, rfl⟩) | (refine (l1In_no _ _ _ _ (by omega)).mono ?_; rintro e w' ⟨rfl, rfl⟩))
    go_ret
    exact ⟨ret_i (by rw [E.out]), rfl⟩
theorem sCell_any (b s k : Int) (w : World) (k0 : 0 ≤ k) (k1 : k ≤ 7) : Calls Try.prog 29 #[.int .i64 b, .int .i64 s, .int .i64 k] w (Same w (.int .i64 (cellV b s k))) := by
  have H := Lib.hid (sBase_any b s w)
  by_cases h : (0 ≤ b ∧ b ≤ 1) ∧ (0 ≤ s ∧ s ≤ 3)
  · have E := Lib.hid (cellV_yes (k := k) h.1 h.2)
    rw [cellV_yes h.1 h.2] at H
    obtain ⟨⟨h0, h1⟩, h2, h3⟩ := h
    have t : decide (7 + b * 32 + s * 8 + 0 < 0) = false := by simp; omega
    go_enter Try.func29, Try.ntmps29
    go_wp2_with (go_at_call 15; refine H.out.mono ?_; rintro e w' ⟨rfl, rfl⟩)
    go_ret
    exact ⟨ret_i (by rw [E.out]), rfl⟩
  · have e0 : ∀ k, cellV b s k = -1 := fun k => if_neg h
    have E := Lib.hid (e0 k)
    rw [e0] at H
    clear e0
    go_enter Try.func29, Try.ntmps29
    go_wp2_with (go_at_call 15; refine H.out.mono ?_; rintro e w' ⟨rfl, rfl⟩)
    go_ret
    exact ⟨ret_i (by rw [E.out]), rfl⟩
theorem sStamp_any (b s : Int) (w : World) : Calls Try.prog 19 #[.int .i64 b, .int .i64 s] w (Same w (.int .i64 (cellV b s 2))) := by
  have H := Lib.hid (sCell_any b s 2 w (by decide) (by decide))
  go_enter Try.func19, Try.ntmps19
  go_wp2_with (go_at_call 29; refine H.out.mono ?_; rintro e w' ⟨rfl, rfl⟩)
  go_ret
  exact ⟨rfl, rfl⟩
theorem sGauge_any (b s : Int) (w : World) : Calls Try.prog 21 #[.int .i64 b, .int .i64 s] w (Same w (.int .i64 (cellV b s 3))) := by
  have H := Lib.hid (sCell_any b s 3 w (by decide) (by decide))
  go_enter Try.func21, Try.ntmps21
  go_wp2_with (go_at_call 29; refine H.out.mono ?_; rintro e w' ⟨rfl, rfl⟩)
  go_ret
  exact ⟨rfl, rfl⟩
theorem sTicket_any (b s : Int) (w : World) : Calls Try.prog 23 #[.int .i64 b, .int .i64 s] w (Same w (.int .i64 (cellV b s 4))) := by
  have H := Lib.hid (sCell_any b s 4 w (by decide) (by decide))
  go_enter Try.func23, Try.ntmps23
  go_wp2_with (go_at_call 29; refine H.out.mono ?_; rintro e w' ⟨rfl, rfl⟩)
  go_ret
  exact ⟨rfl, rfl⟩
theorem sStripe_any (b s k : Int) (w : World) : Calls Try.prog 17 #[.int .i64 b, .int .i64 s, .int .i64 k] w (Same w (.int .i64 (partV b s 2 0 k))) := by
  by_cases h : 0 ≤ k ∧ k < 2
  · have E := Lib.hid (partV_yes (b := b) (s := s) (at_ := 0) h)
    obtain ⟨h0, h1⟩ := h
    have H := Lib.hid (sCell_any b s (k) w (by omega) (by omega))
    go_enter Try.func17, Try.ntmps17
    go_wp2_with (first | (go_at_call 27; first | (refine (l1In_yes _ _ _ _ (by omega) (by omega)).mono ?_; rintro e w' ⟨rfl, rfl⟩) | (refine (l1In_no _ _ _ _ (by omega)).mono ?_; rintro e w' ⟨rfl, rfl⟩)) | (go_at_call 29; refine H.out.mono ?_; rintro e w' ⟨rfl, rfl⟩))
    go_ret
    exact ⟨ret_i (by rw [E.out]; rw [Int.zero_add]), rfl⟩
  · have E := Lib.hid (partV_no (b := b) (s := s) (at_ := 0) h)
    go_enter Try.func17, Try.ntmps17
    go_wp2_with (go_at_call 27; first | (refine (l1In_yes _ _ _ _ (by omega) (by omega)).mono ?_; rintro e w' ⟨rfl, rfl⟩) | (refine (l1In_no _ _ _ _ (by omega)).mono ?_; rintro e w' ⟨rfl, rfl⟩))
    go_ret
    exact ⟨ret_i (by rw [E.out]), rfl⟩
theorem sRing_any (b s k : Int) (w : World) : Calls Try.prog 25 #[.int .i64 b, .int .i64 s, .int .i64 k] w (Same w (.int .i64 (partV b s 3 5 k))) := by
  by_cases h : 0 ≤ k ∧ k < 3
  · have E := Lib.hid (partV_yes (b := b) (s := s) (at_ := 5) h)
    obtain ⟨h0, h1⟩ := h
    have H := Lib.hid (sCell_any b s (5 + k) w (by omega) (by omega))
    go_enter Try.func25, Try.ntmps25
    go_wp2_with (first | (go_at_call 27; first | (refine (l1In_yes _ _ _ _ (by omega) (by omega)).mono ?_; rintro e w' ⟨rfl, rfl⟩) | (refine (l1In_no _ _ _ _ (by omega)).mono ?_; rintro e w' ⟨rfl, rfl⟩)) | (go_at_call 29; refine H.out.mono ?_; rintro e w' ⟨rfl, rfl⟩))
    go_ret
    exact ⟨ret_i (by rw [E.out]), rfl⟩
  · have E := Lib.hid (partV_no (b := b) (s := s) (at_ := 5) h)
    go_enter Try.func25, Try.ntmps25
    go_wp2_with (go_at_call 27; first | (refine (l1In_yes _ _ _ _ (by omega) (by omega)).mono ?_; rintro e w' ⟨rfl, rfl⟩) | (refine (l1In_no _ _ _ _ (by omega)).mono ?_; rintro e w' ⟨rfl, rfl⟩))
    go_ret
    exact ⟨ret_i (by rw [E.out]), rfl⟩
end Go.Proofs.Ytdefhiblbahhnaa
