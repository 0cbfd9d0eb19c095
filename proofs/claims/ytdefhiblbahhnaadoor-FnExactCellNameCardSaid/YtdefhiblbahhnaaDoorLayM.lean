/-
  The names of the cells, the model's: each answers the name that the plain words say. It makes new memory and turns none that was there.
-/
import Derived.Test.YtdefhiblbahhnaaDoorLayN
import Derived.Test.YtdefhiblbahhnaaDoorIn
import Derived.Test.YtdefhiblbahhnaaDoorGive
import Derived.Test.YtdefhiblbahhnaaDoorDecS
namespace Go.Proofs.YtdefhiblbahhnaaDoor
open Go.RowKit M
set_option linter.unusedVariables false
set_option maxRecDepth 100000 in
theorem sName_low (w : World) (i : Int) (h : i < 7) : Calls Tryd.prog 18 #[.int .i64 i] w (Gives (.string (nameV i)) w) := by
  generalize hR : nameV i = r
  unfold nameV at hR
  by_cases c : i < 0 ∨ 70 < i
  · rw [if_pos c] at hR
    have HR := Lib.hid hR
    clear hR
    go_enter Tryd.func18, Tryd.ntmps18
    go_wp2_with (go_at_call 23; refine (l1In_no _ _ _ _ (by omega)).mono ?_; rintro e w' ⟨rfl, rfl⟩)
    go_ret
    exact ⟨ret_str HR.out, Below.refl _ _⟩
  · rw [if_neg c] at hR
    obtain ⟨h0, h1⟩ : 0 ≤ i ∧ i ≤ 70 := by omega
    clear c
    by_cases c0 : i = 0
    · subst c0
      rw [if_pos rfl] at hR
      have HR := Lib.hid hR
      clear hR
      go_enter Tryd.func18, Tryd.ntmps18
      go_wp2_with (go_at_call 23; refine (l1In_yes _ _ _ _ (by omega) (by omega)).mono ?_; rintro e w' ⟨rfl, rfl⟩)
      go_ret
      exact ⟨ret_str HR.out, Below.refl _ _⟩
    · rw [if_neg c0] at hR
      have t0 : (i == 0) = false := by rw [beq_eq_false_iff_ne]; exact c0
      by_cases c1 : i < 3
      · rw [if_pos c1] at hR
        have HD := Lib.hid (sDec (i - 1) w (by omega) (by omega))
        have hds := decs_size (k := i - 1) (by omega) (by omega)
        simp only [num, List.foldl, sp, wIn] at hR
        generalize decs (i - 1) = d at *
        have HR := Lib.hid hR
        clear hR
        go_enter Tryd.func18, Tryd.ntmps18
        go_wp2_with (go_at_call 23; refine (l1In_yes _ _ _ _ (by omega) (by omega)).mono ?_; rintro e w' ⟨rfl, rfl⟩)
        refine HD.out.mono ?_
        rintro e w2 ⟨rfl, hb⟩
        go_wp2_with fail
        go_ret
        exact ⟨ret_str (by rw [← HR.out, ← ByteArray.append_assoc]; rfl), hb⟩
      · rw [if_neg c1, if_pos h] at hR
        have HD := Lib.hid (sDec (i - 3) w (by omega) (by omega))
        have hds := decs_size (k := i - 3) (by omega) (by omega)
        simp only [num, List.foldl, sp, wKey] at hR
        generalize decs (i - 3) = d at *
        have HR := Lib.hid hR
        clear hR
        go_enter Tryd.func18, Tryd.ntmps18
        go_wp2_with (go_at_call 23; refine (l1In_yes _ _ _ _ (by omega) (by omega)).mono ?_; rintro e w' ⟨rfl, rfl⟩)
        refine HD.out.mono ?_
        rintro e w2 ⟨rfl, hb⟩
        go_wp2_with fail
        go_ret
        exact ⟨ret_str (by rw [← HR.out, ← ByteArray.append_assoc]; rfl), hb⟩
set_option maxRecDepth 100000 in
set_option maxHeartbeats 800000 in
theorem sName_high (w : World) (i : Int) (h0 : 7 ≤ i) (h1 : i ≤ 70) : Calls Tryd.prog 18 #[.int .i64 i] w (Gives (.string (nameV i)) w) := by
  generalize hR : nameV i = r
  unfold nameV at hR
  rw [if_neg (by omega), if_neg (by omega), if_neg (by omega), if_neg (by omega)] at hR
  have b0 : 0 ≤ (i - 7) / 32 := by omega
  have b1 : (i - 7) / 32 < 10 := by omega
  have s0 : 0 ≤ (i - 7) % 32 / 8 := by omega
  have s1 : (i - 7) % 32 / 8 < 10 := by omega
  have k0 : 0 ≤ (i - 7) % 8 := by omega
  have k1 : (i - 7) % 8 < 8 := by omega
  have e1 : (i - 7).tdiv 32 = (i - 7) / 32 := Int.tdiv_eq_ediv_of_nonneg (by omega)
  have e2 : (i - 7).tmod 32 = (i - 7) % 32 := Int.tmod_eq_emod_of_nonneg (by omega)
  have e3 : ((i - 7) % 32).tdiv 8 = (i - 7) % 32 / 8 := Int.tdiv_eq_ediv_of_nonneg (by omega)
  have e4 : (i - 7).tmod 8 = (i - 7) % 8 := Int.tmod_eq_emod_of_nonneg (by omega)
  have t0 : (i == 0) = false := by rw [beq_eq_false_iff_ne]; omega
  have t1 : decide (i < 3) = false := by simp; omega
  have t2 : decide (i < 7) = false := by simp; omega
  unfold partN at hR
  generalize (i - 7) / 32 = b at *
  generalize (i - 7) % 32 / 8 = s at *
  generalize (i - 7) % 8 = k at *
  have HB := fun W => Lib.hid (sDec b W (by omega) (by omega))
  have HS := fun W => Lib.hid (sDec s W (by omega) (by omega))
  have hb1 := decs_size (k := b) (by omega) (by omega)
  have hs1 := decs_size (k := s) (by omega) (by omega)
  by_cases c0 : k < 2
  · rw [if_pos c0] at hR
    simp only [num, List.foldl, sp, wStripe] at hR
    have HK := fun W => Lib.hid (sDec (k) W (by omega) (by omega))
    have hk1 := decs_size (k := k) (by omega) (by omega)
    generalize decs b = db at *
    generalize decs s = dsx at *
    generalize decs (k) = dk at *
    have HR := Lib.hid hR
    clear hR
    go_enter Tryd.func18, Tryd.ntmps18
    go_wp2_with (go_at_call 23; refine (l1In_yes _ _ _ _ (by omega) (by omega)).mono ?_; rintro e w' ⟨rfl, rfl⟩)
    refine (HB w).out.mono ?_
    rintro e w2 ⟨rfl, hb2⟩
    go_wp2_with fail
    refine (HS w2).out.mono ?_
    rintro e w3 ⟨rfl, hb3⟩
    go_wp2_with fail
    refine (HK w3).out.mono ?_
    rintro e w4 ⟨rfl, hb4⟩
    go_wp2_with fail
    go_ret
    exact ⟨ret_str (by rw [← HR.out]; simp only [ByteArray.append_assoc]), (hb2.trans (hb3.mono hb2.size)).trans (hb4.mono (Nat.le_trans hb2.size hb3.size))⟩
  · rw [if_neg c0] at hR
    by_cases c1 : k = 2
    · subst c1
      rw [if_pos rfl] at hR
      simp only [num, List.foldl, sp, wStamp] at hR
      generalize decs b = db at *
      generalize decs s = dsx at *
      have HR := Lib.hid hR
      clear hR
      go_enter Tryd.func18, Tryd.ntmps18
      go_wp2_with (go_at_call 23; refine (l1In_yes _ _ _ _ (by omega) (by omega)).mono ?_; rintro e w' ⟨rfl, rfl⟩)
      refine (HB w).out.mono ?_
      rintro e w2 ⟨rfl, hb2⟩
      go_wp2_with fail
      refine (HS w2).out.mono ?_
      rintro e w3 ⟨rfl, hb3⟩
      go_wp2_with fail
      go_ret
      exact ⟨ret_str (by rw [← HR.out]; simp only [ByteArray.append_assoc]), hb2.trans (hb3.mono hb2.size)⟩
    · rw [if_neg c1] at hR
      by_cases c2 : k = 3
      · subst c2
        rw [if_pos rfl] at hR
        simp only [num, List.foldl, sp, wGauge] at hR
        generalize decs b = db at *
        generalize decs s = dsx at *
        have HR := Lib.hid hR
        clear hR
        go_enter Tryd.func18, Tryd.ntmps18
        go_wp2_with (go_at_call 23; refine (l1In_yes _ _ _ _ (by omega) (by omega)).mono ?_; rintro e w' ⟨rfl, rfl⟩)
        refine (HB w).out.mono ?_
        rintro e w2 ⟨rfl, hb2⟩
        go_wp2_with fail
        refine (HS w2).out.mono ?_
        rintro e w3 ⟨rfl, hb3⟩
        go_wp2_with fail
        go_ret
        exact ⟨ret_str (by rw [← HR.out]; simp only [ByteArray.append_assoc]), hb2.trans (hb3.mono hb2.size)⟩
      · rw [if_neg c2] at hR
        by_cases c3 : k = 4
        · subst c3
          rw [if_pos rfl] at hR
          simp only [num, List.foldl, sp, wTicket] at hR
          generalize decs b = db at *
          generalize decs s = dsx at *
          have HR := Lib.hid hR
          clear hR
          go_enter Tryd.func18, Tryd.ntmps18
          go_wp2_with (go_at_call 23; refine (l1In_yes _ _ _ _ (by omega) (by omega)).mono ?_; rintro e w' ⟨rfl, rfl⟩)
          refine (HB w).out.mono ?_
          rintro e w2 ⟨rfl, hb2⟩
          go_wp2_with fail
          refine (HS w2).out.mono ?_
          rintro e w3 ⟨rfl, hb3⟩
          go_wp2_with fail
          go_ret
          exact ⟨ret_str (by rw [← HR.out]; simp only [ByteArray.append_assoc]), hb2.trans (hb3.mono hb2.size)⟩
        · rw [if_neg c3] at hR
          simp only [num, List.foldl, sp, wRing] at hR
          have HK := fun W => Lib.hid (sDec (k - 5) W (by omega) (by omega))
          have hk1 := decs_size (k := k - 5) (by omega) (by omega)
          generalize decs b = db at *
          generalize decs s = dsx at *
          generalize decs (k - 5) = dk at *
          have HR := Lib.hid hR
          clear hR
          have t2 : (k == 2) = false := by rw [beq_eq_false_iff_ne]; exact c1
          have t3 : (k == 3) = false := by rw [beq_eq_false_iff_ne]; exact c2
          have t4 : (k == 4) = false := by rw [beq_eq_false_iff_ne]; exact c3
          go_enter Tryd.func18, Tryd.ntmps18
          go_wp2_with (go_at_call 23; refine (l1In_yes _ _ _ _ (by omega) (by omega)).mono ?_; rintro e w' ⟨rfl, rfl⟩)
          refine (HB w).out.mono ?_
          rintro e w2 ⟨rfl, hb2⟩
          go_wp2_with fail
          refine (HS w2).out.mono ?_
          rintro e w3 ⟨rfl, hb3⟩
          go_wp2_with fail
          refine (HK w3).out.mono ?_
          rintro e w4 ⟨rfl, hb4⟩
          go_wp2_with fail
          go_ret
          exact ⟨ret_str (by rw [← HR.out]; simp only [ByteArray.append_assoc]), (hb2.trans (hb3.mono hb2.size)).trans (hb4.mono (Nat.le_trans hb2.size hb3.size))⟩
theorem sName_any (w : World) (i : Int) : Calls Tryd.prog 18 #[.int .i64 i] w (Gives (.string (nameV i)) w) := by
  by_cases h : i < 7
  · exact sName_low w i h
  · by_cases h1 : i ≤ 70
    · exact sName_high w i (by omega) h1
    · have HR := Lib.hid (show nameV i = ⟨#[]⟩ from if_pos (by omega))
      go_enter Tryd.func18, Tryd.ntmps18
      go_wp2_with (go_at_call 23; refine (l1In_no _ _ _ _ (by omega)).mono ?_; rintro e w' ⟨rfl, rfl⟩)
      go_ret
      exact ⟨ret_str HR.out.symm, Below.refl _ _⟩
end Go.Proofs.YtdefhiblbahhnaaDoor
