/-
  Chapter 3, the program's: each function of a cell's number answers what the plain words say, and leaves the world alone.
-/
import Derived.Test.YtdefhiblbahhnaaDoorGive
import Derived.Test.YtdefhiblbahhnaaDoorLay
import Derived.Test.YtdefhiblbahhnaaDoorMath
namespace Go.Proofs.YtdefhiblbahhnaaDoor
open Go.RowKit M
set_option linter.unusedVariables false
theorem isIdx_yes (x n : Int) (w : World) (h1 : 0 ≤ x) (h2 : x < n) :
    Calls Tryd.prog 19 #[.int .i64 x, .int .i64 n] w fun e w' => e = .returned (.bool true) ∧ w = w' := by
  go_enter Tryd.func19, Tryd.ntmps19
  go_wp2
  go_ret
  exact ⟨rfl, rfl⟩
theorem isIdx_no (x n : Int) (w : World) (h : x < 0 ∨ n ≤ x) :
    Calls Tryd.prog 19 #[.int .i64 x, .int .i64 n] w fun e w' => e = .returned (.bool false) ∧ w = w' := by
  by_cases h1 : 0 ≤ x
  · have h2 : decide (x < n) = false := by simp; omega
    go_enter Tryd.func19, Tryd.ntmps19
    go_wp2
    go_ret
    exact ⟨rfl, rfl⟩
  · go_enter Tryd.func19, Tryd.ntmps19
    go_wp2
    go_ret
    exact ⟨rfl, rfl⟩
theorem iIn_any (x : Int) (w : World) : Calls Tryd.prog 7 #[.int .i64 x] w (Same w (.int .i64 (inV x))) := by
  by_cases h : 0 ≤ x ∧ x ≤ 1
  · have E := Lib.hid (inV_yes h)
    obtain ⟨h0, h1⟩ := h
    go_enter Tryd.func7, Tryd.ntmps7
    go_wp2_with (go_at_call 19; first | (refine (isIdx_yes _ _ _ (by omega) (by omega)).mono ?_; rintro e w' ⟨rfl, rfl⟩) | (refine (isIdx_no _ _ _ (by omega)).mono ?_; rintro e w' ⟨rfl, rfl⟩))
    go_ret
    exact ⟨ret_i (by rw [E.out]), rfl⟩
  · have E := Lib.hid (inV_no h)
    go_enter Tryd.func7, Tryd.ntmps7
    go_wp2_with (go_at_call 19; first | (refine (isIdx_yes _ _ _ (by omega) (by omega)).mono ?_; rintro e w' ⟨rfl, rfl⟩) | (refine (isIdx_no _ _ _ (by omega)).mono ?_; rintro e w' ⟨rfl, rfl⟩))
    go_ret
    exact ⟨ret_i (by rw [E.out]), rfl⟩
theorem iKey_any (x : Int) (w : World) : Calls Tryd.prog 8 #[.int .i64 x] w (Same w (.int .i64 (keyV x))) := by
  by_cases h : 0 ≤ x ∧ x ≤ 3
  · have E := Lib.hid (keyV_yes h)
    obtain ⟨h0, h1⟩ := h
    go_enter Tryd.func8, Tryd.ntmps8
    go_wp2_with (go_at_call 19; first | (refine (isIdx_yes _ _ _ (by omega) (by omega)).mono ?_; rintro e w' ⟨rfl, rfl⟩) | (refine (isIdx_no _ _ _ (by omega)).mono ?_; rintro e w' ⟨rfl, rfl⟩))
    go_ret
    exact ⟨ret_i (by rw [E.out]), rfl⟩
  · have E := Lib.hid (keyV_no h)
    go_enter Tryd.func8, Tryd.ntmps8
    go_wp2_with (go_at_call 19; first | (refine (isIdx_yes _ _ _ (by omega) (by omega)).mono ?_; rintro e w' ⟨rfl, rfl⟩) | (refine (isIdx_no _ _ _ (by omega)).mono ?_; rintro e w' ⟨rfl, rfl⟩))
    go_ret
    exact ⟨ret_i (by rw [E.out]), rfl⟩
theorem iBase_any (b s : Int) (w : World) : Calls Tryd.prog 17 #[.int .i64 b, .int .i64 s] w (Same w (.int .i64 (cellV b s 0))) := by
  by_cases h : 0 ≤ b ∧ b ≤ 1
  · by_cases h' : 0 ≤ s ∧ s ≤ 3
    · have E := Lib.hid (cellV_yes (k := 0) h h')
      obtain ⟨h0, h1⟩ := h
      obtain ⟨h2, h3⟩ := h'
      go_enter Tryd.func17, Tryd.ntmps17
      go_wp2_with (go_at_call 19; first | (refine (isIdx_yes _ _ _ (by omega) (by omega)).mono ?_; rintro e w' ⟨rfl, rfl⟩) | (refine (isIdx_no _ _ _ (by omega)).mono ?_; rintro e w' ⟨rfl, rfl⟩))
      go_ret
      exact ⟨ret_i (by rw [E.out, Int.add_zero]), rfl⟩
    · have E := Lib.hid (cellV_noS (b := b) (k := 0) h')
      obtain ⟨h0, h1⟩ := h
      go_enter Tryd.func17, Tryd.ntmps17
      go_wp2_with (go_at_call 19; first | (refine (isIdx_yes _ _ _ (by omega) (by omega)).mono ?_; rintro e w' ⟨rfl, rfl⟩) | (refine (isIdx_no _ _ _ (by omega)).mono ?_; rintro e w' ⟨rfl, rfl⟩))
      go_ret
      exact ⟨ret_i (by rw [E.out]), rfl⟩
  · have E := Lib.hid (cellV_noB (s := s) (k := 0) h)
    go_enter Tryd.func17, Tryd.ntmps17
    go_wp2_with (go_at_call 19; first | (refine (isIdx_yes _ _ _ (by omega) (by omega)).mono ?_; rintro e w' ⟨rfl, rfl⟩) | (refine (isIdx_no _ _ _ (by omega)).mono ?_; rintro e w' ⟨rfl, rfl⟩))
    go_ret
    exact ⟨ret_i (by rw [E.out]), rfl⟩
theorem iCell_any (b s k : Int) (w : World) (k0 : 0 ≤ k) (k1 : k ≤ 7) : Calls Tryd.prog 20 #[.int .i64 b, .int .i64 s, .int .i64 k] w (Same w (.int .i64 (cellV b s k))) := by
  have H := Lib.hid (iBase_any b s w)
  by_cases h : (0 ≤ b ∧ b ≤ 1) ∧ (0 ≤ s ∧ s ≤ 3)
  · have E := Lib.hid (cellV_yes (k := k) h.1 h.2)
    rw [cellV_yes h.1 h.2] at H
    obtain ⟨⟨h0, h1⟩, h2, h3⟩ := h
    have t : decide (7 + b * 32 + s * 8 + 0 < 0) = false := by simp; omega
    go_enter Tryd.func20, Tryd.ntmps20
    go_wp2_with (go_at_call 17; refine H.out.mono ?_; rintro e w' ⟨rfl, rfl⟩)
    go_ret
    exact ⟨ret_i (by rw [E.out]), rfl⟩
  · have e0 : ∀ k, cellV b s k = -1 := fun k => if_neg h
    have E := Lib.hid (e0 k)
    rw [e0] at H
    clear e0
    go_enter Tryd.func20, Tryd.ntmps20
    go_wp2_with (go_at_call 17; refine H.out.mono ?_; rintro e w' ⟨rfl, rfl⟩)
    go_ret
    exact ⟨ret_i (by rw [E.out]), rfl⟩
theorem iStamp_any (b s : Int) (w : World) : Calls Tryd.prog 10 #[.int .i64 b, .int .i64 s] w (Same w (.int .i64 (cellV b s 2))) := by
  have H := Lib.hid (iCell_any b s 2 w (by decide) (by decide))
  go_enter Tryd.func10, Tryd.ntmps10
  go_wp2_with (go_at_call 20; refine H.out.mono ?_; rintro e w' ⟨rfl, rfl⟩)
  go_ret
  exact ⟨rfl, rfl⟩
theorem iGauge_any (b s : Int) (w : World) : Calls Tryd.prog 11 #[.int .i64 b, .int .i64 s] w (Same w (.int .i64 (cellV b s 3))) := by
  have H := Lib.hid (iCell_any b s 3 w (by decide) (by decide))
  go_enter Tryd.func11, Tryd.ntmps11
  go_wp2_with (go_at_call 20; refine H.out.mono ?_; rintro e w' ⟨rfl, rfl⟩)
  go_ret
  exact ⟨rfl, rfl⟩
theorem iTicket_any (b s : Int) (w : World) : Calls Tryd.prog 12 #[.int .i64 b, .int .i64 s] w (Same w (.int .i64 (cellV b s 4))) := by
  have H := Lib.hid (iCell_any b s 4 w (by decide) (by decide))
  go_enter Tryd.func12, Tryd.ntmps12
  go_wp2_with (go_at_call 20; refine H.out.mono ?_; rintro e w' ⟨rfl, rfl⟩)
  go_ret
  exact ⟨rfl, rfl⟩
theorem iStripe_any (b s k : Int) (w : World) : Calls Tryd.prog 9 #[.int .i64 b, .int .i64 s, .int .i64 k] w (Same w (.int .i64 (partV b s 2 0 k))) := by
  by_cases h : 0 ≤ k ∧ k < 2
  · have E := Lib.hid (partV_yes (b := b) (s := s) (at_ := 0) h)
    obtain ⟨h0, h1⟩ := h
    have H := Lib.hid (iCell_any b s (k) w (by omega) (by omega))
    go_enter Tryd.func9, Tryd.ntmps9
    go_wp2_with (first | (go_at_call 19; first | (refine (isIdx_yes _ _ _ (by omega) (by omega)).mono ?_; rintro e w' ⟨rfl, rfl⟩) | (refine (isIdx_no _ _ _ (by omega)).mono ?_; rintro e w' ⟨rfl, rfl⟩)) | (go_at_call 20; refine H.out.mono ?_; rintro e w' ⟨rfl, rfl⟩))
    go_ret
    exact ⟨ret_i (by rw [E.out]; rw [Int.zero_add]), rfl⟩
  · have E := Lib.hid (partV_no (b := b) (s := s) (at_ := 0) h)
    go_enter Tryd.func9, Tryd.ntmps9
    go_wp2_with (go_at_call 19; first | (refine (isIdx_yes _ _ _ (by omega) (by omega)).mono ?_; rintro e w' ⟨rfl, rfl⟩) | (refine (isIdx_no _ _ _ (by omega)).mono ?_; rintro e w' ⟨rfl, rfl⟩))
    go_ret
    exact ⟨ret_i (by rw [E.out]), rfl⟩
theorem iRing_any (b s k : Int) (w : World) : Calls Tryd.prog 13 #[.int .i64 b, .int .i64 s, .int .i64 k] w (Same w (.int .i64 (partV b s 3 5 k))) := by
  by_cases h : 0 ≤ k ∧ k < 3
  · have E := Lib.hid (partV_yes (b := b) (s := s) (at_ := 5) h)
    obtain ⟨h0, h1⟩ := h
    have H := Lib.hid (iCell_any b s (5 + k) w (by omega) (by omega))
    go_enter Tryd.func13, Tryd.ntmps13
    go_wp2_with (first | (go_at_call 19; first | (refine (isIdx_yes _ _ _ (by omega) (by omega)).mono ?_; rintro e w' ⟨rfl, rfl⟩) | (refine (isIdx_no _ _ _ (by omega)).mono ?_; rintro e w' ⟨rfl, rfl⟩)) | (go_at_call 20; refine H.out.mono ?_; rintro e w' ⟨rfl, rfl⟩))
    go_ret
    exact ⟨ret_i (by rw [E.out]), rfl⟩
  · have E := Lib.hid (partV_no (b := b) (s := s) (at_ := 5) h)
    go_enter Tryd.func13, Tryd.ntmps13
    go_wp2_with (go_at_call 19; first | (refine (isIdx_yes _ _ _ (by omega) (by omega)).mono ?_; rintro e w' ⟨rfl, rfl⟩) | (refine (isIdx_no _ _ _ (by omega)).mono ?_; rintro e w' ⟨rfl, rfl⟩))
    go_ret
    exact ⟨ret_i (by rw [E.out]), rfl⟩
end Go.Proofs.YtdefhiblbahhnaaDoor
