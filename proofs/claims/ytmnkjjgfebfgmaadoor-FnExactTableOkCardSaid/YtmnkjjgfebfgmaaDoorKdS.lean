/-
  Chapter 5, the model's functions: each answers what the plain words say. They turn nothing that was there.
-/
import Derived.Test.YtmnkjjgfebfgmaaDoorKdV
import Derived.Test.YtmnkjjgfebfgmaaDoorKeyT
import Derived.Test.YtmnkjjgfebfgmaaDoorTxt
namespace Go.Proofs.YtmnkjjgfebfgmaaDoor
open Go.RowKit M
set_option linter.unusedVariables false
theorem sKindWord_any (w : World) (k : Int) : Calls Tryd.prog 47 #[.int .i64 k] w (Gives (.string (kindW k)) w) := by
  by_cases h : 1 ≤ k ∧ k ≤ 3
  · have hk : k = 1 ∨ k = 2 ∨ k = 3 := by omega
    rcases hk with rfl | rfl | rfl
    · go_enter Tryd.func47, Tryd.ntmps47
      go_wp2_with (go_at_call 38; refine (l1In_yes _ _ _ _ (by omega) (by omega)).mono ?_; rintro e w' ⟨rfl, rfl⟩)
      go_ret
      exact ⟨rfl, (Below.refl _ _).alloc (Nat.le_refl _) _⟩
    · go_enter Tryd.func47, Tryd.ntmps47
      go_wp2_with (go_at_call 38; refine (l1In_yes _ _ _ _ (by omega) (by omega)).mono ?_; rintro e w' ⟨rfl, rfl⟩)
      go_ret
      exact ⟨rfl, (Below.refl _ _).alloc (Nat.le_refl _) _⟩
    · go_enter Tryd.func47, Tryd.ntmps47
      go_wp2_with (go_at_call 38; refine (l1In_yes _ _ _ _ (by omega) (by omega)).mono ?_; rintro e w' ⟨rfl, rfl⟩)
      go_ret
      exact ⟨rfl, (Below.refl _ _).alloc (Nat.le_refl _) _⟩
  · have E := Lib.hid (kindW_no h)
    go_enter Tryd.func47, Tryd.ntmps47
    go_wp2_with (go_at_call 38; refine (l1In_no _ _ _ _ (by omega)).mono ?_; rintro e w' ⟨rfl, rfl⟩)
    go_ret
    exact ⟨ret_str E.out.symm, Below.refl _ _⟩
set_option maxRecDepth 100000 in
theorem sTagged_any (w : World) (s : ByteArray) (k : Int) (hs : s.size ≤ maxLen) : Calls Tryd.prog 31 #[.string s, .int .i64 k] w (Gives (.int .i64 (tagV s k)) w) := by
  have HO := Lib.hid (sKeyOk_any w s hs)
  have HK := Lib.hid (sKindWord_any w k)
  have HP := fun W => Lib.hid (sPack_any W s hs)
  cases hk : keyOkV s with
  | false =>
    have E := Lib.hid (show tagV s k = 0 from tagV_no (by rw [hk]; simp))
    rw [hk] at HO
    clear hk
    go_enter Tryd.func31, Tryd.ntmps31
    go_wp2_with (go_at_call 23; refine HO.out.mono ?_; rintro e w' ⟨rfl, rfl⟩)
    go_ret
    exact ⟨ret_i E.out.symm, Below.refl _ _⟩
  | true =>
    rw [hk] at HO
    have hp := packV_lt s
    by_cases h : 1 ≤ k ∧ k ≤ 3
    · have E := Lib.hid (tagV_yes hk h)
      have hne := txt_some (kindW_some h)
      have hne2 := txt_full (kindW_some h)
      obtain ⟨h1, h3⟩ := h
      generalize kindW k = y at *
      generalize packV s = p at *
      clear hk
      go_enter Tryd.func31, Tryd.ntmps31
      go_wp2_with (first | (go_at_call 23; refine HO.out.mono ?_; rintro e w' ⟨rfl, rfl⟩) | (go_at_call 47; refine HK.out.mono ?_; rintro e w2 ⟨rfl, hb⟩))
      refine (HP w2).out.mono ?_
      rintro e w' ⟨rfl, rfl⟩
      go_wp2_with fail
      go_ret
      exact ⟨ret_i E.out.symm, hb⟩
    · have E := Lib.hid (show tagV s k = 0 from tagV_no (fun x => h x.2))
      rw [kindW_no h] at HK
      clear hk
      go_enter Tryd.func31, Tryd.ntmps31
      go_wp2_with (first | (go_at_call 23; refine HO.out.mono ?_; rintro e w' ⟨rfl, rfl⟩) | (go_at_call 47; refine HK.out.mono ?_; rintro e w2 ⟨rfl, hb⟩))
      go_ret
      exact ⟨ret_i E.out.symm, hb⟩
set_option maxRecDepth 100000 in
set_option maxHeartbeats 800000 in
theorem sUntag_any (w : World) (n : Int) : Calls Tryd.prog 36 #[.int .i64 n] w (Gives (untT (untagV n)) w) := by
  by_cases hn : 1 ≤ n ∧ n ≤ 17179869183
  · have E : untagV n = (match unV (n / 4) with | some s => if 1 ≤ n % 4 then some (s, n % 4) else none | none => none) := if_pos hn
    have HU := Lib.hid (sUnpack_any w (n / 4))
    have HK := fun W => Lib.hid (sKindWord_any W (n % 4))
    obtain ⟨n1, n2⟩ := hn
    have m0 : 0 ≤ n % 4 := by omega
    have m3 : n % 4 ≤ 3 := by omega
    cases hu : unV (n / 4) with
    | none =>
      rw [hu] at E
      rw [hu, unT_none] at HU
      have HE := Lib.hid E
      clear hu E
      go_enter Tryd.func36, Tryd.ntmps36
      go_wp2_with (first | (go_at_call 38; refine (l1In_yes _ _ _ _ (by omega) (by omega)).mono ?_; rintro e w' ⟨rfl, rfl⟩) | (go_at_call 52; refine HU.out.mono ?_; rintro e w2 ⟨rfl, hb⟩))
      go_ret2
      exact ⟨by rw [HE.out]; rfl, hb⟩
    | some s =>
      rw [hu] at E
      rw [hu, unT_some] at HU
      simp only at E
      by_cases hr : 1 ≤ n % 4
      · rw [if_pos hr] at E
        have hne := txt_some (kindW_some (k := n % 4) ⟨hr, m3⟩)
        have hne2 := txt_full (kindW_some (k := n % 4) ⟨hr, m3⟩)
        have HE := Lib.hid E
        clear hu E
        generalize kindW (n % 4) = y at *
        go_enter Tryd.func36, Tryd.ntmps36
        go_wp2_with (first | (go_at_call 38; refine (l1In_yes _ _ _ _ (by omega) (by omega)).mono ?_; rintro e w' ⟨rfl, rfl⟩) | (go_at_call 52; refine HU.out.mono ?_; rintro e w2 ⟨rfl, hb⟩))
        refine (HK w2).out.mono ?_
        rintro e w3 ⟨rfl, hb3⟩
        go_wp2_with fail
        go_ret2
        exact ⟨by rw [HE.out]; rfl, hb.trans (hb3.mono hb.size)⟩
      · rw [if_neg hr] at E
        have hk0 : kindW (n % 4) = ⟨#[]⟩ := kindW_no (by omega)
        rw [hk0] at HK
        have HE := Lib.hid E
        clear hu E hk0
        go_enter Tryd.func36, Tryd.ntmps36
        go_wp2_with (first | (go_at_call 38; refine (l1In_yes _ _ _ _ (by omega) (by omega)).mono ?_; rintro e w' ⟨rfl, rfl⟩) | (go_at_call 52; refine HU.out.mono ?_; rintro e w2 ⟨rfl, hb⟩))
        refine (HK w2).out.mono ?_
        rintro e w3 ⟨rfl, hb3⟩
        go_wp2_with fail
        go_ret2
        exact ⟨by rw [HE.out]; rfl, hb.trans (hb3.mono hb.size)⟩
  · have E := Lib.hid (show untagV n = none from if_neg hn)
    go_enter Tryd.func36, Tryd.ntmps36
    go_wp2_with (go_at_call 38; refine (l1In_no _ _ _ _ (by omega)).mono ?_; rintro e w' ⟨rfl, rfl⟩)
    go_ret2
    exact ⟨by rw [E.out]; rfl, Below.refl _ _⟩
end Go.Proofs.YtmnkjjgfebfgmaaDoor
