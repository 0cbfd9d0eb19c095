/-
  Chapter 5, the program's functions: each answers what the plain words say. They turn nothing that was there.
-/
import Derived.Test.YtmnkjjgfebfgmaaDoorKdS
import Derived.Test.YtmnkjjgfebfgmaaDoorKeyI
namespace Go.Proofs.YtmnkjjgfebfgmaaDoor
open Go.RowKit M
set_option linter.unusedVariables false
theorem isKind_yes (k : Int) (w : World) (h0 : 1 ≤ k) (h1 : k ≤ 3) : Calls Tryd.prog 46 #[.int .i64 k] w (Same w (.bool true)) := by
  go_enter Tryd.func46, Tryd.ntmps46
  go_wp2
  go_ret
  exact ⟨rfl, rfl⟩
theorem isKind_no (k : Int) (w : World) (h : ¬ (1 ≤ k ∧ k ≤ 3)) : Calls Tryd.prog 46 #[.int .i64 k] w (Same w (.bool false)) := by
  by_cases h0 : 1 ≤ k
  · have h1 : decide (k ≤ 3) = false := by rw [decide_eq_false]; omega
    go_enter Tryd.func46, Tryd.ntmps46
    go_wp2
    go_ret
    exact ⟨rfl, rfl⟩
  · have h1 : decide (1 ≤ k) = false := by rw [decide_eq_false]; omega
    go_enter Tryd.func46, Tryd.ntmps46
    go_wp2
    go_ret
    exact ⟨rfl, rfl⟩
set_option maxRecDepth 100000 in
theorem iTagged_same (w : World) (s : ByteArray) (k : Int) (hs : s.size ≤ maxLen) : Calls Tryd.prog 33 #[.string s, .int .i64 k] w (Same w (.int .i64 (tagV s k))) := by
  have HO := Lib.hid (iKeyOk_same w s hs)
  have HP := Lib.hid (iPack_same w s hs)
  cases hk : keyOkV s with
  | false =>
    have E := Lib.hid (show tagV s k = 0 from tagV_no (by rw [hk]; simp))
    rw [hk] at HO
    clear hk
    go_enter Tryd.func33, Tryd.ntmps33
    go_wp2_with (go_at_call 26; refine HO.out.mono ?_; rintro e w' ⟨rfl, rfl⟩)
    go_ret
    exact ⟨ret_i E.out.symm, rfl⟩
  | true =>
    rw [hk] at HO
    have hp := packV_lt s
    by_cases h : 1 ≤ k ∧ k ≤ 3
    · have E := Lib.hid (tagV_yes hk h)
      obtain ⟨h1, h3⟩ := h
      generalize packV s = p at *
      clear hk
      go_enter Tryd.func33, Tryd.ntmps33
      go_wp2_with (first | (go_at_call 26; refine HO.out.mono ?_; rintro e w' ⟨rfl, rfl⟩) | (go_at_call 46; refine (isKind_yes _ _ (by omega) (by omega)).mono ?_; rintro e w' ⟨rfl, rfl⟩) | (go_at_call 49; refine HP.out.mono ?_; rintro e w' ⟨rfl, rfl⟩))
      go_ret
      exact ⟨ret_i (by rw [E.out]; omega), rfl⟩
    · have E := Lib.hid (show tagV s k = 0 from tagV_no (fun x => h x.2))
      clear hk
      go_enter Tryd.func33, Tryd.ntmps33
      go_wp2_with (first | (go_at_call 26; refine HO.out.mono ?_; rintro e w' ⟨rfl, rfl⟩) | (go_at_call 46; refine (isKind_no _ _ h).mono ?_; rintro e w' ⟨rfl, rfl⟩))
      go_ret
      exact ⟨ret_i E.out.symm, rfl⟩
theorem iTagged_any (w : World) (s : ByteArray) (k : Int) (hs : s.size ≤ maxLen) (h0 : -9223372036854775808 ≤ k) (h1 : k ≤ 9223372036854775807) : Calls Tryd.prog 33 #[.string s, .int .i64 k] w (Gives (.int .i64 (tagV s k)) w) := same_gives (iTagged_same w s k hs)
end Go.Proofs.YtmnkjjgfebfgmaaDoor
