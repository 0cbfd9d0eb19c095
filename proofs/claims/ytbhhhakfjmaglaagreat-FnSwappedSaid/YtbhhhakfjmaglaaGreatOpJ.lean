/-
  Chapter 10, the program's OpOk: may this operation be worked off? It turns nothing that was there.
-/
import Derived.Test.YtbhhhakfjmaglaaGreatOpS
import Derived.Test.YtbhhhakfjmaglaaGreatZb
import Derived.Test.YtbhhhakfjmaglaaGreatZa
namespace Go.Proofs.YtbhhhakfjmaglaaGreat
open Go.RowKit M
set_option linter.unusedVariables false
set_option linter.unusedSimpArgs false
theorem ret_bl3 {a b : Bool} (h : a = b) : Ending.returned (.bool a) = .returned (.bool b) := by rw [h]
theorem int_beq3 (x y : Int) : (x == y) = decide (x = y) := by
  by_cases h : x = y
  · subst h; simp
  · rw [decide_eq_false h, beq_eq_false_iff_ne]; exact h
theorem below_one3 (w : World) (o : Obj) : Below w.heap.size w (w.alloc o) := (Below.refl _ _).alloc (Nat.le_refl _) o
theorem isKind_any (k : Int) (w : World) : Calls Tryz.prog 69 #[.int .i64 k] w (Same w (.bool (decide (1 ≤ k ∧ k ≤ 3)))) := by
  by_cases h : 1 ≤ k ∧ k ≤ 3
  · rw [decide_eq_true h]; exact isKind_yes k w h.1 h.2
  · rw [decide_eq_false h]; exact isKind_no k w h
theorem isValue_any (k : Int) (w : World) : Calls Tryz.prog 70 #[.int .i64 k] w (Same w (.bool (decide (0 ≤ k ∧ k ≤ 65535)))) := by
  by_cases h : 0 ≤ k ∧ k ≤ 65535
  · rw [decide_eq_true h]; exact isValue_yes k w h.1 h.2
  · rw [decide_eq_false h]; exact isValue_no k w h
theorem isWord_any (x : Int) (w : World) : Calls Tryz.prog 112 #[.int .i64 x] w (Same w (.bool (decide (0 ≤ x ∧ x ≤ 281474976710655)))) := by
  cases h : isW x with
  | true =>
    have h' := h
    unfold isW at h'
    rw [show decide (0 ≤ x ∧ x ≤ 281474976710655) = true by simp at h' ⊢; omega]; exact isWord_yes x w h
  | false =>
    have h' := h
    unfold isW at h'
    rw [show decide (0 ≤ x ∧ x ≤ 281474976710655) = false by simp at h' ⊢; omega]; exact isWord_no x w h
set_option maxRecDepth 100000 in
set_option maxHeartbeats 4000000 in
theorem iOpOk_any (w : World) (o : O) (h : o.Fit) : Calls Tryz.prog 36 #[o.v] w (Gives (.bool (opOkV o)) w) := by
  have HKO := fun W => Lib.hid (iKeyOk_same W o.key h.key)
  have HKW := fun W => Lib.hid (isKind_any o.what W)
  have HKV := fun W => Lib.hid (isValue_any o.val W)
  clear h
  by_cases k1 : o.kind = 1
  · have HE := Lib.hid (opOk_1 k1)
    generalize opOkV o = r at *
    obtain ⟨kind, key, what, val⟩ := o
    unfold O.v
    simp only at *
    subst k1
    have b1 := int_beq3 val 0
    generalize keyOkV key = q0 at *
    generalize decide (1 ≤ what ∧ what ≤ 3) = q1 at *
    generalize decide (val = 0) = q2 at *
    go_enter Tryz.func36, Tryz.ntmps36
    cases q0 with
    | false =>
      go_wp2_with (go_at_call 68; refine (HKO _).out.mono ?_; rintro e w' ⟨rfl, rfl⟩)
      go_ret
      exact ⟨ret_bl3 (by rw [HE.out]; rfl), below_one3 _ _⟩
    | true =>
      cases q1 with
      | false =>
        go_wp2_with (first | (go_at_call 68; refine (HKO _).out.mono ?_; rintro e w' ⟨rfl, rfl⟩) | (go_at_call 69; refine (HKW _).out.mono ?_; rintro e w' ⟨rfl, rfl⟩))
        go_ret
        exact ⟨ret_bl3 (by rw [HE.out]; rfl), below_one3 _ _⟩
      | true =>
        go_wp2_with (first | (go_at_call 68; refine (HKO _).out.mono ?_; rintro e w' ⟨rfl, rfl⟩) | (go_at_call 69; refine (HKW _).out.mono ?_; rintro e w' ⟨rfl, rfl⟩))
        go_ret
        exact ⟨ret_bl3 (by rw [HE.out]; simp), below_one3 _ _⟩
  · have t1 : (o.kind == 1) = false := by rw [beq_eq_false_iff_ne]; exact k1
    by_cases k2 : o.kind = 2
    · have HE := Lib.hid (opOk_2 k2)
      clear t1 k1
      generalize opOkV o = r at *
      obtain ⟨kind, key, what, val⟩ := o
      unfold O.v
      simp only at *
      subst k2
      have b1 := int_beq3 what 0
      generalize keyOkV key = q0 at *
      generalize decide (what = 0) = q1 at *
      generalize decide (0 ≤ val ∧ val ≤ 65535) = q2 at *
      go_enter Tryz.func36, Tryz.ntmps36
      cases q0 with
      | false =>
        go_wp2_with (go_at_call 68; refine (HKO _).out.mono ?_; rintro e w' ⟨rfl, rfl⟩)
        go_ret
        exact ⟨ret_bl3 (by rw [HE.out]; rfl), below_one3 _ _⟩
      | true =>
        cases q1 with
        | false =>
          go_wp2_with (go_at_call 68; refine (HKO _).out.mono ?_; rintro e w' ⟨rfl, rfl⟩)
          go_ret
          exact ⟨ret_bl3 (by rw [HE.out]; rfl), below_one3 _ _⟩
        | true =>
          go_wp2_with (first | (go_at_call 68; refine (HKO _).out.mono ?_; rintro e w' ⟨rfl, rfl⟩) | (go_at_call 70; refine (HKV _).out.mono ?_; rintro e w' ⟨rfl, rfl⟩))
          go_ret
          exact ⟨ret_bl3 (by rw [HE.out]; simp), below_one3 _ _⟩
    · have t2 : (o.kind == 2) = false := by rw [beq_eq_false_iff_ne]; exact k2
      by_cases k3 : o.kind = 3
      · have HE := Lib.hid ((opOk_3 k3).trans (flush_eq o))
        have HQ := fun W => eql_op W o ⟨3, ⟨#[]⟩, 0, 0⟩
        clear t1 t2 k1 k2
        generalize decide (o = ⟨3, ⟨#[]⟩, 0, 0⟩) = b at *
        generalize opOkV o = r at *
        obtain ⟨kind, key, what, val⟩ := o
        unfold O.v at *
        simp only at *
        subst k3
        go_enter Tryz.func36, Tryz.ntmps36
        go_wp2_with fail
        go_ret
        exact ⟨ret_bl3 HE.out.symm, below_one3 _ _⟩
      · have HE := Lib.hid (opOk_no k1 k2 k3)
        have t3 : (o.kind == 3) = false := by rw [beq_eq_false_iff_ne]; exact k3
        generalize opOkV o = r at *
        obtain ⟨kind, key, what, val⟩ := o
        unfold O.v
        simp only at *
        go_enter Tryz.func36, Tryz.ntmps36
        go_wp2_with fail
        go_ret
        exact ⟨ret_bl3 HE.out.symm, below_one3 _ _⟩
end Go.Proofs.YtbhhhakfjmaglaaGreat
