/-
  Chapter 10, the model's OpOk: it answers what the plain words say, and turns nothing that was there.
-/
import Derived.Test.YtbhhhakfjmaglaaGreatZa
import Derived.Test.YtbhhhakfjmaglaaGreatRowS
namespace Go.Proofs.YtbhhhakfjmaglaaGreat
open Go.RowKit M
set_option linter.unusedVariables false
set_option linter.unusedSimpArgs false
instance decO : DecidableEq O := fun a b =>
  if h : a.kind = b.kind ∧ a.key = b.key ∧ a.what = b.what ∧ a.val = b.val then
    .isTrue (by
      obtain ⟨h0, h1, h2, h3⟩ := h
      cases a; cases b
      simp only at *
      subst h0; subst h1; subst h2; subst h3
      rfl)
  else .isFalse (fun e => h (by subst e; exact ⟨rfl, rfl, rfl, rfl⟩))
theorem stood_op : Tryz.prog.stoodInHeld 29 = false := by kernel_rfl
set_option maxRecDepth 100000 in
set_option maxHeartbeats 4000000 in
theorem eql_op (w : World) (r s : O) : (binOp .eql 29 r.v s.v).run Tryz.prog w = .ok (.bool (decide (r = s))) w := by
  obtain ⟨kind, key, what, val⟩ := r
  obtain ⟨kind', key', what', val'⟩ := s
  unfold O.v
  rw [run_eql_struct, run_equalIn_struct _ _ _ _ _ (by kernel_rfl) stood_op]
  by_cases e0 : kind = kind'
  · subst e0
    by_cases e1 : key = key'
    · subst e1
      by_cases e2 : what = what'
      · subst e2
        by_cases e3 : val = val'
        · subst e3; simp [go_sem]
        · simp [go_sem, e3]
      · simp [go_sem, e2]
    · have e := txt_ne e1
      simp [go_sem, e, e1]
  · simp [go_sem, e0]
theorem opOk_1 {o : O} (h : o.kind = 1) : opOkV o = (keyOkV o.key && (decide (1 ≤ o.what ∧ o.what ≤ 3) && decide (o.val = 0))) := if_pos h
theorem opOk_2 {o : O} (h : o.kind = 2) : opOkV o = (keyOkV o.key && (decide (o.what = 0) && decide (0 ≤ o.val ∧ o.val ≤ 65535))) := by unfold opOkV; rw [if_neg (by omega), if_pos h]
theorem opOk_3 {o : O} (h : o.kind = 3) : opOkV o = isFlushO o := by unfold opOkV; rw [if_neg (by omega), if_neg (by omega), if_pos h]
theorem opOk_no {o : O} (h1 : o.kind ≠ 1) (h2 : o.kind ≠ 2) (h3 : o.kind ≠ 3) : opOkV o = false := by unfold opOkV; rw [if_neg h1, if_neg h2, if_neg h3]
theorem flush_eq (o : O) : isFlushO o = decide (o = ⟨3, ⟨#[]⟩, 0, 0⟩) := by
  obtain ⟨kind, key, what, val⟩ := o
  unfold isFlushO
  congr 1
  simp
set_option maxRecDepth 100000 in
set_option maxHeartbeats 4000000 in
theorem sOpOk_any (w : World) (o : O) (hs : o.key.size ≤ maxLen) : Calls Tryz.prog 13 #[o.v] w (Gives (.bool (opOkV o)) w) := by
  have HKO := fun W => Lib.hid (sKeyOk_any W o.key hs)
  have HKW := fun W => Lib.hid (sKindWord_any W o.what)
  by_cases k1 : o.kind = 1
  · have E := opOk_1 k1
    cases hk : keyOkV o.key with
    | false =>
      have HE := Lib.hid (E.trans (by rw [hk, Bool.false_and]))
      rw [hk] at HKO
      clear hk E
      generalize opOkV o = r at *
      obtain ⟨kind, key, what, val⟩ := o
      unfold O.v
      simp only at *
      subst k1
      go_enter Tryz.func13, Tryz.ntmps13
      go_wp2_with (go_at_call 45; refine (HKO _).out.mono ?_; rintro e w' ⟨rfl, rfl⟩)
      go_ret
      exact ⟨ret_bool HE.out.symm, (Below.refl _ _).alloc (Nat.le_refl _) _⟩
    | true =>
      rw [hk] at HKO
      by_cases hw : 1 ≤ o.what ∧ o.what ≤ 3
      · have HE := Lib.hid (E.trans (show _ = (o.val == 0) by rw [hk, decide_eq_true hw, beq0]; rfl))
        have hne := txt_some (kindW_some hw)
        have hne2 := txt_full (kindW_some hw)
        clear hk E hw
        generalize opOkV o = r at *
        generalize kindW o.what = y at *
        obtain ⟨kind, key, what, val⟩ := o
        unfold O.v
        simp only at *
        subst k1
        go_enter Tryz.func13, Tryz.ntmps13
        go_upto_region 3 with fail
        refine wp_gen (fun W => W.cell? ⟨w.heap.size, 1, none⟩ = some (.string key) ∧ W.cell? ⟨w.heap.size, 2, none⟩ = some (.int .i64 what) ∧ W.cell? ⟨w.heap.size, 3, none⟩ = some (.int .i64 val) ∧ w.heap.size < W.heap.size ∧ Below w.heap.size w W) ⟨by simp [go_sem], by simp [go_sem], by simp [go_sem], by simp [go_sem], (Below.refl _ _).alloc (Nat.le_refl _) _⟩ ?_
        rintro W ⟨c1, c2, c3, hlt, hb⟩
        have HB := Lib.hid hb
        clear hb
        go_wp2_with (first | (go_at_call 45; refine (HKO _).out.mono ?_; rintro e w' ⟨rfl, rfl⟩) | (go_at_call 46; refine (HKW _).out.mono ?_; rintro e w3 ⟨rfl, hb3⟩; have c3' := (hb3.cell (p := ⟨w.heap.size, 3, none⟩) hlt).trans c3; have HB3 := Lib.hid (HB.out.trans (hb3.mono HB.out.size)); clear hb3))
        go_ret
        exact ⟨ret_bool HE.out.symm, HB3.out⟩
      · have HE := Lib.hid (E.trans (by rw [hk, decide_eq_false hw, Bool.false_and, Bool.and_false]))
        rw [kindW_no hw] at HKW
        clear hk E hw
        generalize opOkV o = r at *
        obtain ⟨kind, key, what, val⟩ := o
        unfold O.v
        simp only at *
        subst k1
        go_enter Tryz.func13, Tryz.ntmps13
        go_wp2_with (first | (go_at_call 45; refine (HKO _).out.mono ?_; rintro e w' ⟨rfl, rfl⟩) | (go_at_call 46; refine (HKW _).out.mono ?_; rintro e w3 ⟨rfl, hb3⟩; have HB3 := Lib.hid (((Below.refl w.heap.size w).alloc (Nat.le_refl _) _).trans (hb3.mono (by simp [go_sem]))); clear hb3))
        go_ret
        exact ⟨ret_bool HE.out.symm, HB3.out⟩
  · have t1 : (o.kind == 1) = false := by rw [beq_eq_false_iff_ne]; exact k1
    by_cases k2 : o.kind = 2
    · have E := opOk_2 k2
      cases hk : keyOkV o.key with
      | false =>
        have HE := Lib.hid (E.trans (by rw [hk, Bool.false_and]))
        rw [hk] at HKO
        clear hk E t1 k1
        generalize opOkV o = r at *
        obtain ⟨kind, key, what, val⟩ := o
        unfold O.v
        simp only at *
        subst k2
        go_enter Tryz.func13, Tryz.ntmps13
        go_wp2_with (go_at_call 45; refine (HKO _).out.mono ?_; rintro e w' ⟨rfl, rfl⟩)
        go_ret
        exact ⟨ret_bool HE.out.symm, (Below.refl _ _).alloc (Nat.le_refl _) _⟩
      | true =>
        rw [hk] at HKO
        by_cases hw : o.what = 0
        · by_cases hv : 0 ≤ o.val ∧ o.val ≤ 65535
          · have HE := Lib.hid (E.trans (by rw [hk, decide_eq_true hw, decide_eq_true hv, Bool.and_self, Bool.and_self]))
            have HI := fun W => Lib.hid (l1In_yes o.val 0 65535 W hv.1 hv.2)
            clear hk E hv t1 k1
            generalize opOkV o = r at *
            obtain ⟨kind, key, what, val⟩ := o
            unfold O.v
            simp only at *
            subst k2
            subst hw
            go_enter Tryz.func13, Tryz.ntmps13
            go_wp2_with (first | (go_at_call 45; refine (HKO _).out.mono ?_; rintro e w' ⟨rfl, rfl⟩) | (go_at_call 47; refine (HI _).out.mono ?_; rintro e w' ⟨rfl, rfl⟩))
            go_ret
            exact ⟨ret_bool HE.out.symm, (Below.refl _ _).alloc (Nat.le_refl _) _⟩
          · have HE := Lib.hid (E.trans (by rw [decide_eq_false hv, Bool.and_false, Bool.and_false]))
            have HI := fun W => Lib.hid (l1In_no o.val 0 65535 W (by omega))
            clear hk E hv t1 k1
            generalize opOkV o = r at *
            obtain ⟨kind, key, what, val⟩ := o
            unfold O.v
            simp only at *
            subst k2
            subst hw
            go_enter Tryz.func13, Tryz.ntmps13
            go_wp2_with (first | (go_at_call 45; refine (HKO _).out.mono ?_; rintro e w' ⟨rfl, rfl⟩) | (go_at_call 47; refine (HI _).out.mono ?_; rintro e w' ⟨rfl, rfl⟩))
            go_ret
            exact ⟨ret_bool HE.out.symm, (Below.refl _ _).alloc (Nat.le_refl _) _⟩
        · have HE := Lib.hid (E.trans (by rw [decide_eq_false hw, Bool.false_and, Bool.and_false]))
          have t2 : (o.what == 0) = false := by rw [beq_eq_false_iff_ne]; exact hw
          clear hk E t1 k1
          generalize opOkV o = r at *
          obtain ⟨kind, key, what, val⟩ := o
          unfold O.v
          simp only at *
          subst k2
          go_enter Tryz.func13, Tryz.ntmps13
          go_wp2_with (go_at_call 45; refine (HKO _).out.mono ?_; rintro e w' ⟨rfl, rfl⟩)
          go_ret
          exact ⟨ret_bool HE.out.symm, (Below.refl _ _).alloc (Nat.le_refl _) _⟩
    · have t2 : (o.kind == 2) = false := by rw [beq_eq_false_iff_ne]; exact k2
      by_cases k3 : o.kind = 3
      · have HE := Lib.hid ((opOk_3 k3).trans (flush_eq o))
        have HQ := fun W => eql_op W o ⟨3, ⟨#[]⟩, 0, 0⟩
        clear t1 t2 k1 k2
        generalize decide (o = ⟨3, ⟨#[]⟩, 0, 0⟩) = b at *
        generalize opOkV o = r at *
        obtain ⟨kind, key, what, val⟩ := o
        unfold O.v at *
        simp only at *
        subst k3
        go_enter Tryz.func13, Tryz.ntmps13
        go_wp2_with fail
        go_ret
        exact ⟨ret_bool HE.out.symm, (Below.refl _ _).alloc (Nat.le_refl _) _⟩
      · have t3 : (o.kind == 3) = false := by rw [beq_eq_false_iff_ne]; exact k3
        have HE := Lib.hid (opOk_no k1 k2 k3)
        clear k1 k2 k3
        generalize opOkV o = r at *
        obtain ⟨kind, key, what, val⟩ := o
        unfold O.v
        simp only at *
        go_enter Tryz.func13, Tryz.ntmps13
        go_wp2_with fail
        go_ret
        exact ⟨ret_bool HE.out.symm, (Below.refl _ _).alloc (Nat.le_refl _) _⟩
end Go.Proofs.YtbhhhakfjmaglaaGreat
