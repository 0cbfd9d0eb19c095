/-
  Chapter 7, the model's RowOk answers what the plain words say. It turns nothing that was there.
-/
import Derived.Test.YtlnkjpacjbhncaaGreatDoorRowS
namespace Go.Proofs.YtlnkjpacjbhncaaGreatDoor
open Go.RowKit M
set_option linter.unusedVariables false
set_option linter.unusedSimpArgs false
theorem rowOk_key {r : R} (h : keyOkV r.key = false) : rowOkV r = false := by unfold rowOkV; rw [h]; rfl
theorem rowOk_1 {r : R} (h : keyOkV r.key = true) (hk : r.kind = 1) : rowOkV r = countV r := by unfold rowOkV; rw [h, if_pos hk]; rfl
theorem rowOk_2 {r : R} (h : keyOkV r.key = true) (hk : r.kind = 2) : rowOkV r = gaugeRV r := by unfold rowOkV; rw [h, if_neg (by omega), if_pos hk]; rfl
theorem rowOk_3 {r : R} (h : keyOkV r.key = true) (hk : r.kind = 3) : rowOkV r = (decide (r.sum = 0 ∧ r.set = false ∧ r.last = 0) && timerV r) := by unfold rowOkV; rw [h, if_neg (by omega), if_neg (by omega), if_pos hk]; rfl
theorem rowOk_no {r : R} (hk : ¬ (r.kind = 1 ∨ r.kind = 2 ∨ r.kind = 3)) : rowOkV r = false := by unfold rowOkV; rw [if_neg (by omega), if_neg (by omega), if_neg (by omega), Bool.and_false]
set_option maxRecDepth 100000 in
set_option maxHeartbeats 4000000 in
theorem sRowOk_any (w : World) (r : R) (hs : r.key.size ≤ maxLen) : Calls Tryz.prog 101 #[r.v] w (Gives (.bool (rowOkV r)) w) := by
  have HO := fun W => Lib.hid (sKeyOk_any W r.key hs)
  have HT := fun W => Lib.hid (sTimer_any W r)
  cases hk : keyOkV r.key with
  | false =>
    have HE := Lib.hid (rowOk_key hk)
    rw [hk] at HO
    clear hk
    obtain ⟨key, kind, sum, st, last, n, mn, mx, total, dropped⟩ := r
    unfold R.v
    simp only at *
    go_enter Tryz.func101, Tryz.ntmps101
    go_wp2_with fail
    refine (HO _).out.mono ?_
    rintro e w1 ⟨rfl, rfl⟩
    go_wp2_with fail
    go_ret
    exact ⟨ret_bool HE.out.symm, (Below.refl _ _).alloc (Nat.le_refl _) _⟩
  | true =>
    rw [hk] at HO
    by_cases k1 : r.kind = 1
    · have HE := Lib.hid (rowOk_1 hk k1)
      clear hk HT
      obtain ⟨key, kind, sum, st, last, n, mn, mx, total, dropped⟩ := r
      unfold R.v countV at *
      simp only at *
      subst k1
      go_enter Tryz.func101, Tryz.ntmps101
      go_wp2_with fail
      refine (HO _).out.mono ?_
      rintro e w1 ⟨rfl, rfl⟩
      go_wp2_with fail
      all_goals first
        | (go_ret; exact ⟨ret_bool (by rw [HE.out]; simp_all), ((Below.refl _ _).alloc (Nat.le_refl _) _).alloc (by simp [go_sem]) _⟩)
        | (refine (l1In_any _ _ _ _).mono ?_
           rintro e w' ⟨rfl, rfl⟩
           go_wp2_with fail
           go_ret
           exact ⟨ret_bool (by rw [HE.out]; simp_all), ((Below.refl _ _).alloc (Nat.le_refl _) _).alloc (by simp [go_sem]) _⟩)
    · by_cases k2 : r.kind = 2
      · have HE := Lib.hid (rowOk_2 hk k2)
        clear hk HT k1
        obtain ⟨key, kind, sum, st, last, n, mn, mx, total, dropped⟩ := r
        unfold R.v gaugeRV at *
        simp only at *
        subst k2
        by_cases hl : 0 ≤ last ∧ last ≤ 65535
        · have HL := fun W => Lib.hid (l1In_yes last 0 65535 W hl.1 hl.2)
          cases st with
          | true =>
            go_enter Tryz.func101, Tryz.ntmps101
            go_wp2_with fail
            refine (HO _).out.mono ?_
            rintro e w1 ⟨rfl, rfl⟩
            go_wp2_with fail
            all_goals first
              | (go_ret; exact ⟨ret_bool (by rw [HE.out]; simp_all), ((Below.refl _ _).alloc (Nat.le_refl _) _).alloc (by simp [go_sem]) _⟩)
              | (refine (HL _).out.mono ?_
                 rintro e w' ⟨rfl, rfl⟩
                 go_wp2_with fail
                 go_ret
                 exact ⟨ret_bool (by rw [HE.out]; simp_all), ((Below.refl _ _).alloc (Nat.le_refl _) _).alloc (by simp [go_sem]) _⟩)
          | false =>
            by_cases h0 : last = 0
            · subst h0
              go_enter Tryz.func101, Tryz.ntmps101
              go_wp2_with fail
              refine (HO _).out.mono ?_
              rintro e w1 ⟨rfl, rfl⟩
              go_wp2_with fail
              all_goals first
                | (go_ret; exact ⟨ret_bool (by rw [HE.out]; simp_all), ((Below.refl _ _).alloc (Nat.le_refl _) _).alloc (by simp [go_sem]) _⟩)
                | (refine (HL _).out.mono ?_
                   rintro e w' ⟨rfl, rfl⟩
                   go_wp2_with fail
                   go_ret
                   exact ⟨ret_bool (by rw [HE.out]; simp_all), ((Below.refl _ _).alloc (Nat.le_refl _) _).alloc (by simp [go_sem]) _⟩)
            · have t0 : (last == 0) = false := by rw [beq_eq_false_iff_ne]; exact h0
              go_enter Tryz.func101, Tryz.ntmps101
              go_wp2_with fail
              refine (HO _).out.mono ?_
              rintro e w1 ⟨rfl, rfl⟩
              go_wp2_with fail
              all_goals first
                | (go_ret; exact ⟨ret_bool (by rw [HE.out]; simp_all), ((Below.refl _ _).alloc (Nat.le_refl _) _).alloc (by simp [go_sem]) _⟩)
                | (refine (HL _).out.mono ?_
                   rintro e w' ⟨rfl, rfl⟩
                   go_wp2_with fail
                   go_ret
                   exact ⟨ret_bool (by rw [HE.out]; simp_all), ((Below.refl _ _).alloc (Nat.le_refl _) _).alloc (by simp [go_sem]) _⟩)
        · have HL := fun W => Lib.hid (l1In_no last 0 65535 W (by omega))
          have hf := Lib.hid (show ¬ (0 ≤ last ∧ last ≤ 65535) from hl)
          clear hl
          go_enter Tryz.func101, Tryz.ntmps101
          go_wp2_with fail
          refine (HO _).out.mono ?_
          rintro e w1 ⟨rfl, rfl⟩
          go_wp2_with fail
          all_goals first
            | (go_ret; exact ⟨ret_bool (by rw [HE.out]; simp_all), ((Below.refl _ _).alloc (Nat.le_refl _) _).alloc (by simp [go_sem]) _⟩)
            | (refine (HL _).out.mono ?_
               rintro e w' ⟨rfl, rfl⟩
               go_wp2_with fail
               go_ret
               exact ⟨ret_bool (by rw [HE.out]; exact (decide_eq_false (fun x => hf.out x.1)).symm), ((Below.refl _ _).alloc (Nat.le_refl _) _).alloc (by simp [go_sem]) _⟩)
      · by_cases k3 : r.kind = 3
        · have HE := Lib.hid (rowOk_3 hk k3)
          clear hk k1 k2
          generalize timerV r = tv at *
          obtain ⟨key, kind, sum, st, last, n, mn, mx, total, dropped⟩ := r
          unfold R.v at *
          simp only at *
          subst k3
          by_cases s0 : sum = 0
          · subst s0
            cases st with
            | true =>
              go_enter Tryz.func101, Tryz.ntmps101
              go_wp2_with fail
              refine (HO _).out.mono ?_
              rintro e w1 ⟨rfl, rfl⟩
              go_wp2_with fail
              go_ret
              exact ⟨ret_bool (by rw [HE.out]; simp), ((Below.refl _ _).alloc (Nat.le_refl _) _).alloc (by simp [go_sem]) _⟩
            | false =>
              by_cases l0 : last = 0
              · subst l0
                go_enter Tryz.func101, Tryz.ntmps101
                go_wp2_with fail
                refine (HO _).out.mono ?_
                rintro e w1 ⟨rfl, rfl⟩
                go_wp2_with fail
                refine (HT _).out.mono ?_
                rintro e w2 ⟨rfl, hb2⟩
                go_wp2_with fail
                go_ret
                exact ⟨ret_bool (by rw [HE.out]; simp), (((Below.refl _ _).alloc (Nat.le_refl _) _).alloc (by simp [go_sem]) _).trans (hb2.mono (by simp [go_sem]; omega))⟩
              · have t0 : (last == 0) = false := by rw [beq_eq_false_iff_ne]; exact l0
                go_enter Tryz.func101, Tryz.ntmps101
                go_wp2_with fail
                refine (HO _).out.mono ?_
                rintro e w1 ⟨rfl, rfl⟩
                go_wp2_with fail
                go_ret
                exact ⟨ret_bool (by rw [HE.out]; simp [l0]), ((Below.refl _ _).alloc (Nat.le_refl _) _).alloc (by simp [go_sem]) _⟩
          · have t0 : (sum == 0) = false := by rw [beq_eq_false_iff_ne]; exact s0
            go_enter Tryz.func101, Tryz.ntmps101
            go_wp2_with fail
            refine (HO _).out.mono ?_
            rintro e w1 ⟨rfl, rfl⟩
            go_wp2_with fail
            go_ret
            exact ⟨ret_bool (by rw [HE.out]; simp [s0]), ((Below.refl _ _).alloc (Nat.le_refl _) _).alloc (by simp [go_sem]) _⟩
        · have HE := Lib.hid (rowOk_no (r := r) (by omega))
          have t1 : (r.kind == 1) = false := by rw [beq_eq_false_iff_ne]; exact k1
          have t2 : (r.kind == 2) = false := by rw [beq_eq_false_iff_ne]; exact k2
          have t3 : (r.kind == 3) = false := by rw [beq_eq_false_iff_ne]; exact k3
          clear hk
          obtain ⟨key, kind, sum, st, last, n, mn, mx, total, dropped⟩ := r
          unfold R.v
          simp only at *
          go_enter Tryz.func101, Tryz.ntmps101
          go_wp2_with fail
          refine (HO _).out.mono ?_
          rintro e w1 ⟨rfl, rfl⟩
          go_wp2_with fail
          go_ret
          exact ⟨ret_bool HE.out.symm, ((Below.refl _ _).alloc (Nat.le_refl _) _).alloc (by simp [go_sem]) _⟩
end Go.Proofs.YtlnkjpacjbhncaaGreatDoor
