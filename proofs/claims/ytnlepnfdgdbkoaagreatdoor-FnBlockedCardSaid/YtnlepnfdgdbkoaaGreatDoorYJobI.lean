/-
  Texts of this seat, laid together.
-/
import Derived.Test.YtnlepnfdgdbkoaaGreatDoorYZd
namespace Go.Proofs.YtnlepnfdgdbkoaaGreatDoor
open Go.RowKit M
set_option linter.unusedVariables false
set_option linter.unusedSimpArgs false
def stV (kind pc : Int) : Bool :=
  if pc = 11 then true
  else if kind = 3 then decide (12 ≤ pc ∧ pc ≤ 15)
  else if kind = 1 then decide (pc = 0 ∨ pc = 1)
  else decide (pc = 0 ∨ (2 ≤ pc ∧ pc ≤ 10))
theorem opOk_kind {o : O} (h : opOkV o = true) : o.kind = 1 ∨ o.kind = 2 ∨ o.kind = 3 := by
  by_cases h1 : o.kind = 1
  · exact .inl h1
  · by_cases h2 : o.kind = 2
    · exact .inr (.inl h2)
    · by_cases h3 : o.kind = 3
      · exact .inr (.inr h3)
      · rw [opOk_no h1 h2 h3] at h; cases h
set_option maxRecDepth 100000 in
set_option maxHeartbeats 2000000 in
theorem iHas_any (kind pc : Int) (w : World) (hk : kind = 1 ∨ kind = 2 ∨ kind = 3) : Calls Tryz.prog 72 #[.int .i64 kind, .int .i64 pc] w (Same w (.bool (stV kind pc))) := by
  by_cases h11 : pc = 11
  · have HE := Lib.hid (show stV kind pc = true from if_pos h11)
    generalize stV kind pc = q at *
    subst h11
    clear hk
    go_enter Tryz.func72, Tryz.ntmps72
    go_wp2
    go_ret
    exact ⟨ret_bl HE.out.symm, rfl⟩
  · have t11 : (pc == 11) = false := by rw [beq_eq_false_iff_ne]; exact h11
    rcases hk with rfl | rfl | rfl
    · have HE := Lib.hid (show stV 1 pc = (decide (pc = 0) || decide (pc = 1)) by unfold stV; rw [if_neg h11, if_neg (by decide), if_pos rfl, Bool.decide_or])
      generalize stV 1 pc = q at *
      have b1 := int_beq2 pc 0
      have b2 := int_beq2 pc 1
      generalize decide (pc = 0) = q1 at *
      generalize decide (pc = 1) = q2 at *
      clear h11
      cases q1 with
      | true =>
        go_enter Tryz.func72, Tryz.ntmps72
        go_wp2
        go_ret
        exact ⟨ret_bl (by rw [HE.out]; simp), rfl⟩
      | false =>
        go_enter Tryz.func72, Tryz.ntmps72
        go_wp2
        go_ret
        exact ⟨ret_bl (by rw [HE.out]; simp), rfl⟩
    · have HE := Lib.hid (show stV 2 pc = (decide (pc = 0) || (decide (2 ≤ pc) && decide (pc ≤ 10))) by unfold stV; rw [if_neg h11, if_neg (by decide), if_neg (by decide), Bool.decide_or, Bool.decide_and])
      generalize stV 2 pc = q at *
      have b1 := int_beq2 pc 0
      generalize decide (pc = 0) = q1 at *
      clear h11
      cases q1 with
      | true =>
        go_enter Tryz.func72, Tryz.ntmps72
        go_wp2
        go_ret
        exact ⟨ret_bl (by rw [HE.out]; simp), rfl⟩
      | false =>
        by_cases h2 : 2 ≤ pc
        · go_enter Tryz.func72, Tryz.ntmps72
          go_wp2
          go_ret
          exact ⟨ret_bl (by rw [HE.out, decide_eq_true h2]; simp), rfl⟩
        · go_enter Tryz.func72, Tryz.ntmps72
          go_wp2
          go_ret
          exact ⟨ret_bl (by rw [HE.out, decide_eq_false (by omega)]; simp), rfl⟩
    · have HE := Lib.hid (show stV 3 pc = (decide (12 ≤ pc) && decide (pc ≤ 15)) by unfold stV; rw [if_neg h11, if_pos rfl, Bool.decide_and])
      generalize stV 3 pc = q at *
      clear h11
      by_cases h2 : 12 ≤ pc
      · go_enter Tryz.func72, Tryz.ntmps72
        go_wp2
        go_ret
        exact ⟨ret_bl (by rw [HE.out, decide_eq_true h2]; simp), rfl⟩
      · go_enter Tryz.func72, Tryz.ntmps72
        go_wp2
        go_ret
        exact ⟨ret_bl (by rw [HE.out, decide_eq_false (by omega)]; simp), rfl⟩
def fieldsV (r : J) : Bool :=
  decide (0 ≤ r.slot ∧ r.slot ≤ 3) && (decide (0 ≤ r.what ∧ r.what ≤ 3) && (decide (0 ≤ r.e ∧ r.e ≤ 281474976710655) && (decide (0 ≤ r.k ∧ r.k ≤ 32) && (decide (r.keys.length ≤ 4) && decide (r.raw.length ≤ 32)))))
theorem jobOk_parts (r : J) : jobOkV r = (opOkV r.op && (stV r.op.kind r.pc && (fieldsV r && countOkV r))) := by
  have : placeOkV r = stV r.op.kind r.pc := rfl
  unfold jobOkV fieldsV
  rw [this]
  cases opOkV r.op <;> cases stV r.op.kind r.pc <;> cases countOkV r <;> simp
set_option maxRecDepth 100000 in
set_option maxHeartbeats 4000000 in
theorem iFields_any (w : World) (r : J) (vk vr : Value) (h : jobIn w r vk vr) : Calls Tryz.prog 73 #[.agg (jobVals r vk vr)] w (Gives (.bool (fieldsV r)) w) := by
  have HE := Lib.hid (show fieldsV r = (decide (0 ≤ r.slot ∧ r.slot ≤ 3) && (decide (0 ≤ r.what ∧ r.what ≤ 3) && (decide (0 ≤ r.e ∧ r.e ≤ 281474976710655) && (decide (0 ≤ r.k ∧ r.k ≤ 32) && (decide (r.keys.length ≤ 4) && decide (r.raw.length ≤ 32)))))) from rfl)
  generalize fieldsV r = all at *
  obtain ⟨⟨A1, cap1, rfl, _⟩, A2, cap2, rfl, _⟩ := h
  obtain ⟨busy, ⟨okind, okey, owhat, oval⟩, serial, pc, k, slot, what, e, stamp, old, flips, steps, code, keys, raw⟩ := r
  unfold jobVals
  simp only at *
  have H3 := fun W => Lib.hid (isIdx_any slot 4 3 W rfl)
  have H4 := fun W => Lib.hid (isIdx_any what 4 3 W rfl)
  have H5 := fun W => Lib.hid (isWord_any e W)
  have H6 := fun W => Lib.hid (isIdx_any k 33 32 W rfl)
  generalize decide (0 ≤ slot ∧ slot ≤ 3) = q3 at *
  generalize decide (0 ≤ what ∧ what ≤ 3) = q4 at *
  generalize decide (0 ≤ e ∧ e ≤ 281474976710655) = q5 at *
  generalize decide (0 ≤ k ∧ k ≤ 32) = q6 at *
  have b7 : decide ((keys.length : Int) ≤ 4) = decide (keys.length ≤ 4) := by congr 1; simp only [eq_iff_iff]; omega
  have b8 : decide ((raw.length : Int) ≤ 32) = decide (raw.length ≤ 32) := by congr 1; simp only [eq_iff_iff]; omega
  generalize decide (keys.length ≤ 4) = q7 at *
  generalize decide (raw.length ≤ 32) = q8 at *
  generalize keys.length = n1 at *
  generalize raw.length = n2 at *
  go_enter Tryz.func73, Tryz.ntmps73
  go_wp2_with fail
  refine (H3 _).out.mono ?_
  rintro er w4 ⟨rfl, rfl⟩
  cases q3 with
  | false =>
    go_wp2_with fail
    go_ret
    exact ⟨ret_bl (by rw [HE.out]; simp), below_one _ _⟩
  | true =>
    go_wp2_with fail
    refine (H4 _).out.mono ?_
    rintro er w4 ⟨rfl, rfl⟩
    cases q4 with
    | false =>
      go_wp2_with fail
      go_ret
      exact ⟨ret_bl (by rw [HE.out]; simp), below_one _ _⟩
    | true =>
      go_wp2_with fail
      refine (H5 _).out.mono ?_
      rintro er w4 ⟨rfl, rfl⟩
      cases q5 with
      | false =>
        go_wp2_with fail
        go_ret
        exact ⟨ret_bl (by rw [HE.out]; simp), below_one _ _⟩
      | true =>
        go_wp2_with fail
        refine (H6 _).out.mono ?_
        rintro er w4 ⟨rfl, rfl⟩
        cases q6 with
        | false =>
          go_wp2_with fail
          go_ret
          exact ⟨ret_bl (by rw [HE.out]; simp), below_one _ _⟩
        | true =>
          cases q7 with
          | false =>
            go_wp2_with fail
            go_ret
            exact ⟨ret_bl (by rw [HE.out]; simp), below_one _ _⟩
          | true =>
            go_wp2_with fail
            go_ret
            exact ⟨ret_bl (by rw [HE.out]; simp), below_one _ _⟩
set_option maxRecDepth 100000 in
set_option maxHeartbeats 2000000 in
theorem iAtPc_0 (w : World) (r : J) (vk vr : Value) (h : jobIn w r vk vr) (hp : r.pc = 0) (hk : 0 ≤ r.k) : Calls Tryz.prog 74 #[.agg (jobVals r vk vr)] w (Gives (.bool (countOkV r)) w) := by
  rw [count_01 (.inl hp)]
  obtain ⟨⟨A1, cap1, rfl, _⟩, A2, cap2, rfl, _⟩ := h
  obtain ⟨busy, ⟨okind, okey, owhat, oval⟩, serial, pc, k, slot, what, e, stamp, old, flips, steps, code, keys, raw⟩ := r
  simp only at hp hk
  subst hp
  unfold jobVals
  simp only
  have bk : decide (k < 4) = decide (0 ≤ k ∧ k ≤ 3) := by congr 1; simp only [eq_iff_iff]; omega
  generalize decide (0 ≤ k ∧ k ≤ 3) = q at *
  generalize keys.length = n1 at *
  generalize raw.length = n2 at *
  go_enter Tryz.func74, Tryz.ntmps74
  go_wp2_with fail
  go_ret
  exact ⟨ret_bl (by simp), below_one _ _⟩
set_option maxRecDepth 100000 in
set_option maxHeartbeats 2000000 in
theorem iAtPc_1 (w : World) (r : J) (vk vr : Value) (h : jobIn w r vk vr) (hp : r.pc = 1) (hk : 0 ≤ r.k) : Calls Tryz.prog 74 #[.agg (jobVals r vk vr)] w (Gives (.bool (countOkV r)) w) := by
  rw [count_01 (.inr hp)]
  obtain ⟨⟨A1, cap1, rfl, _⟩, A2, cap2, rfl, _⟩ := h
  obtain ⟨busy, ⟨okind, okey, owhat, oval⟩, serial, pc, k, slot, what, e, stamp, old, flips, steps, code, keys, raw⟩ := r
  simp only at hp hk
  subst hp
  unfold jobVals
  simp only
  have bk : decide (k < 4) = decide (0 ≤ k ∧ k ≤ 3) := by congr 1; simp only [eq_iff_iff]; omega
  generalize decide (0 ≤ k ∧ k ≤ 3) = q at *
  generalize keys.length = n1 at *
  generalize raw.length = n2 at *
  go_enter Tryz.func74, Tryz.ntmps74
  go_wp2_with fail
  go_ret
  exact ⟨ret_bl (by simp), below_one _ _⟩
set_option maxRecDepth 100000 in
set_option maxHeartbeats 2000000 in
theorem iAtPc_8 (w : World) (r : J) (vk vr : Value) (h : jobIn w r vk vr) (hp : r.pc = 8) (hk : 0 ≤ r.k) : Calls Tryz.prog 74 #[.agg (jobVals r vk vr)] w (Gives (.bool (countOkV r)) w) := by
  rw [count_8 hp]
  obtain ⟨⟨A1, cap1, rfl, _⟩, A2, cap2, rfl, _⟩ := h
  obtain ⟨busy, ⟨okind, okey, owhat, oval⟩, serial, pc, k, slot, what, e, stamp, old, flips, steps, code, keys, raw⟩ := r
  simp only at hp hk
  subst hp
  unfold jobVals
  simp only
  have bk : decide (k < 3) = decide (0 ≤ k ∧ k ≤ 2) := by congr 1; simp only [eq_iff_iff]; omega
  generalize decide (0 ≤ k ∧ k ≤ 2) = q at *
  generalize keys.length = n1 at *
  generalize raw.length = n2 at *
  go_enter Tryz.func74, Tryz.ntmps74
  go_wp2_with fail
  go_ret
  exact ⟨ret_bl (by simp), below_one _ _⟩
set_option maxRecDepth 100000 in
set_option maxHeartbeats 2000000 in
theorem iAtPc_13 (w : World) (r : J) (vk vr : Value) (h : jobIn w r vk vr) (hp : r.pc = 13) (hk : 0 ≤ r.k) : Calls Tryz.prog 74 #[.agg (jobVals r vk vr)] w (Gives (.bool (countOkV r)) w) := by
  rw [count_12 (.inl hp)]
  obtain ⟨⟨A1, cap1, rfl, _⟩, A2, cap2, rfl, _⟩ := h
  obtain ⟨busy, ⟨okind, okey, owhat, oval⟩, serial, pc, k, slot, what, e, stamp, old, flips, steps, code, keys, raw⟩ := r
  simp only at hp hk
  subst hp
  unfold jobVals
  simp only
  have b1 := nat_beq keys.length 0
  have b2 := nat_beq raw.length 0
  generalize decide (keys.length = 0) = q1 at *
  generalize decide (raw.length = 0) = q2 at *
  simp only [Int.natCast_zero] at b1 b2
  generalize keys.length = n1 at *
  generalize raw.length = n2 at *
  go_enter Tryz.func74, Tryz.ntmps74
  cases q1 with
  | false =>
    go_wp2_with fail
    go_ret
    exact ⟨rfl, below_one _ _⟩
  | true =>
    go_wp2_with fail
    go_ret
    exact ⟨ret_bl (by simp), below_one _ _⟩
set_option maxRecDepth 100000 in
set_option maxHeartbeats 2000000 in
theorem iAtPc_12 (w : World) (r : J) (vk vr : Value) (h : jobIn w r vk vr) (hp : r.pc = 12) (hk : 0 ≤ r.k) : Calls Tryz.prog 74 #[.agg (jobVals r vk vr)] w (Gives (.bool (countOkV r)) w) := by
  rw [count_12 (.inr hp)]
  obtain ⟨⟨A1, cap1, rfl, _⟩, A2, cap2, rfl, _⟩ := h
  obtain ⟨busy, ⟨okind, okey, owhat, oval⟩, serial, pc, k, slot, what, e, stamp, old, flips, steps, code, keys, raw⟩ := r
  simp only at hp hk
  subst hp
  unfold jobVals
  simp only
  have b1 := nat_beq keys.length 0
  have b2 := nat_beq raw.length 0
  generalize decide (keys.length = 0) = q1 at *
  generalize decide (raw.length = 0) = q2 at *
  simp only [Int.natCast_zero] at b1 b2
  generalize keys.length = n1 at *
  generalize raw.length = n2 at *
  go_enter Tryz.func74, Tryz.ntmps74
  cases q1 with
  | false =>
    go_wp2_with fail
    go_ret
    exact ⟨rfl, below_one _ _⟩
  | true =>
    go_wp2_with fail
    go_ret
    exact ⟨ret_bl (by simp), below_one _ _⟩
set_option maxRecDepth 100000 in
set_option maxHeartbeats 2000000 in
theorem iAtPc_14 (w : World) (r : J) (vk vr : Value) (h : jobIn w r vk vr) (hp : r.pc = 14) (hk : 0 ≤ r.k) : Calls Tryz.prog 74 #[.agg (jobVals r vk vr)] w (Gives (.bool (countOkV r)) w) := by
  rw [count_14 hp]
  obtain ⟨⟨A1, cap1, rfl, _⟩, A2, cap2, rfl, _⟩ := h
  obtain ⟨busy, ⟨okind, okey, owhat, oval⟩, serial, pc, k, slot, what, e, stamp, old, flips, steps, code, keys, raw⟩ := r
  simp only at hp hk
  subst hp
  unfold jobVals
  simp only
  have bk : decide (k < 4) = decide (0 ≤ k ∧ k ≤ 3) := by congr 1; simp only [eq_iff_iff]; omega
  generalize decide (0 ≤ k ∧ k ≤ 3) = q at *
  have b1 := int_beq2 k (keys.length : Int)
  rw [show decide (k = (keys.length : Int)) = decide ((keys.length : Int) = k) by congr 1; simp only [eq_iff_iff]; omega] at b1
  generalize decide ((keys.length : Int) = k) = q1 at *
  have b2 := nat_beq raw.length 0
  generalize decide (raw.length = 0) = q2 at *
  simp only [Int.natCast_zero] at b2
  generalize keys.length = n1 at *
  generalize raw.length = n2 at *
  go_enter Tryz.func74, Tryz.ntmps74
  cases q with
  | false =>
    go_wp2_with fail
    go_ret
    exact ⟨rfl, below_one _ _⟩
  | true =>
    cases q1 with
    | false =>
      go_wp2_with fail
      go_ret
      exact ⟨rfl, below_one _ _⟩
    | true =>
      go_wp2_with fail
      go_ret
      exact ⟨ret_bl (by simp), below_one _ _⟩
set_option maxRecDepth 100000 in
set_option maxHeartbeats 2000000 in
theorem iAtPc_15 (w : World) (r : J) (vk vr : Value) (h : jobIn w r vk vr) (hp : r.pc = 15) (hk : 0 ≤ r.k) : Calls Tryz.prog 74 #[.agg (jobVals r vk vr)] w (Gives (.bool (countOkV r)) w) := by
  rw [count_15 hp]
  obtain ⟨⟨A1, cap1, rfl, _⟩, A2, cap2, rfl, _⟩ := h
  obtain ⟨busy, ⟨okind, okey, owhat, oval⟩, serial, pc, k, slot, what, e, stamp, old, flips, steps, code, keys, raw⟩ := r
  simp only at hp hk
  subst hp
  unfold jobVals
  simp only
  have bk : decide (k < 32) = decide (0 ≤ k ∧ k ≤ 31) := by congr 1; simp only [eq_iff_iff]; omega
  generalize decide (0 ≤ k ∧ k ≤ 31) = q at *
  have b2 := int_beq2 k (raw.length : Int)
  rw [show decide (k = (raw.length : Int)) = decide ((raw.length : Int) = k) by congr 1; simp only [eq_iff_iff]; omega] at b2
  generalize decide ((raw.length : Int) = k) = q2 at *
  have b1 := nat_beq keys.length 4
  replace b1 : ((keys.length : Int) == 4) = decide (keys.length = 4) := b1
  generalize decide (keys.length = 4) = q1 at *
  generalize keys.length = n1 at *
  generalize raw.length = n2 at *
  go_enter Tryz.func74, Tryz.ntmps74
  cases q with
  | false =>
    go_wp2_with fail
    go_ret
    exact ⟨rfl, below_one _ _⟩
  | true =>
    cases q2 with
    | false =>
      go_wp2_with fail
      go_ret
      exact ⟨ret_bl (by simp), below_one _ _⟩
    | true =>
      go_wp2_with fail
      go_ret
      exact ⟨ret_bl (by simp), below_one _ _⟩
set_option maxRecDepth 100000 in
set_option maxHeartbeats 2000000 in
theorem iAtPc_no (w : World) (r : J) (vk vr : Value) (h : jobIn w r vk vr) (hp : r.pc ≠ 0 ∧ r.pc ≠ 1 ∧ r.pc ≠ 8 ∧ r.pc ≠ 14 ∧ r.pc ≠ 15 ∧ r.pc ≠ 13 ∧ r.pc ≠ 12) (hk : 0 ≤ r.k) : Calls Tryz.prog 74 #[.agg (jobVals r vk vr)] w (Gives (.bool (countOkV r)) w) := by
  rw [count_no hp]
  obtain ⟨⟨A1, cap1, rfl, _⟩, A2, cap2, rfl, _⟩ := h
  obtain ⟨busy, ⟨okind, okey, owhat, oval⟩, serial, pc, k, slot, what, e, stamp, old, flips, steps, code, keys, raw⟩ := r
  simp only at hp hk
  obtain ⟨p0, p1, p8, p14, p15, p13, p12⟩ := hp
  replace p0 : (pc == 0) = false := by rw [beq_eq_false_iff_ne]; exact p0
  replace p1 : (pc == 1) = false := by rw [beq_eq_false_iff_ne]; exact p1
  replace p8 : (pc == 8) = false := by rw [beq_eq_false_iff_ne]; exact p8
  replace p14 : (pc == 14) = false := by rw [beq_eq_false_iff_ne]; exact p14
  replace p15 : (pc == 15) = false := by rw [beq_eq_false_iff_ne]; exact p15
  replace p13 : (pc == 13) = false := by rw [beq_eq_false_iff_ne]; exact p13
  replace p12 : (pc == 12) = false := by rw [beq_eq_false_iff_ne]; exact p12
  unfold jobVals
  simp only
  skip
  generalize keys.length = n1 at *
  generalize raw.length = n2 at *
  go_enter Tryz.func74, Tryz.ntmps74
  go_wp2_with fail
  go_ret
  exact ⟨rfl, below_one _ _⟩
theorem iAtPc_any (w : World) (r : J) (vk vr : Value) (h : jobIn w r vk vr) (hk : 0 ≤ r.k) : Calls Tryz.prog 74 #[.agg (jobVals r vk vr)] w (Gives (.bool (countOkV r)) w) := by
  by_cases h0 : r.pc = 0
  · exact iAtPc_0 w r vk vr h h0 hk
  by_cases h1 : r.pc = 1
  · exact iAtPc_1 w r vk vr h h1 hk
  by_cases h8 : r.pc = 8
  · exact iAtPc_8 w r vk vr h h8 hk
  by_cases h14 : r.pc = 14
  · exact iAtPc_14 w r vk vr h h14 hk
  by_cases h15 : r.pc = 15
  · exact iAtPc_15 w r vk vr h h15 hk
  by_cases h13 : r.pc = 13
  · exact iAtPc_13 w r vk vr h h13 hk
  by_cases h12 : r.pc = 12
  · exact iAtPc_12 w r vk vr h h12 hk
  exact iAtPc_no w r vk vr h ⟨h0, h1, h8, h14, h15, h13, h12⟩ hk
theorem fields_k {r : J} (h : fieldsV r = true) : 0 ≤ r.k := by
  unfold fieldsV at h
  simp only [Bool.and_eq_true, decide_eq_true_eq] at h
  exact h.2.2.2.1.1
set_option maxRecDepth 100000 in
set_option maxHeartbeats 8000000 in
theorem iJobOk_any (w : World) (r : J) (vk vr : Value) (h : jobIn w r vk vr) (hs : r.op.Fit) : Calls Tryz.prog 60 #[.agg (jobVals r vk vr)] w (Gives (.bool (jobOkV r)) w) := by
  have HOP := fun W => Lib.hid (iOpOk_any W r.op hs)
  have HST := fun W (hk : r.op.kind = 1 ∨ r.op.kind = 2 ∨ r.op.kind = 3) => Lib.hid (iHas_any r.op.kind r.pc W hk)
  have HFL := Lib.hid (fun W (hb : Below w.heap.size w W) => iFields_any W r vk vr (jobIn_below h hb))
  have HAT := Lib.hid (fun W (hb : Below w.heap.size w W) (hk : fieldsV r = true) => iAtPc_any W r vk vr (jobIn_below h hb) (fields_k hk))
  have HE := Lib.hid (jobOk_parts r)
  have HKI := Lib.hid (fun (h : opOkV r.op = true) => opOk_kind h)
  generalize jobOkV r = all at *
  generalize stV r.op.kind r.pc = q1 at *
  generalize fieldsV r = q2 at *
  generalize countOkV r = q3 at *
  obtain ⟨⟨A1, cap1, rfl, _⟩, A2, cap2, rfl, _⟩ := h
  obtain ⟨busy, ⟨okind, okey, owhat, oval⟩, serial, pc, k, slot, what, e, stamp, old, flips, steps, code, keys, raw⟩ := r
  unfold jobVals at HFL HAT
  unfold O.v at HOP
  unfold jobVals
  simp only at HFL HAT HOP HE HST HKI ⊢
  generalize opOkV ⟨okind, okey, owhat, oval⟩ = q0 at *
  generalize keys.length = n1 at *
  generalize raw.length = n2 at *
  clear hs
  go_enter Tryz.func60, Tryz.ntmps60
  go_wp2_with fail
  refine (HOP _).out.mono ?_
  rintro er w1 ⟨rfl, hb1⟩
  have HK := Lib.hid ((Blk.new w w.heap.size 50 #[.bool busy, .int .i64 okind, .string okey, .int .i64 owhat, .int .i64 oval, .int .i64 serial, .int .i64 pc, .int .i64 k, .int .i64 slot, .int .i64 what, .int .i64 e, .int .i64 stamp, .int .i64 old, .int .i64 flips, .int .i64 steps, .int .i64 code, .slice A1 n1 cap1, .slice A2 n2 cap2] rfl).below hb1)
  have HB := Lib.hid ((below_one w (.cells #[.bool busy, .int .i64 okind, .string okey, .int .i64 owhat, .int .i64 oval, .int .i64 serial, .int .i64 pc, .int .i64 k, .int .i64 slot, .int .i64 what, .int .i64 e, .int .i64 stamp, .int .i64 old, .int .i64 flips, .int .i64 steps, .int .i64 code, .slice A1 n1 cap1, .slice A2 n2 cap2] 50)).trans (hb1.mono (by simp [go_sem])))
  clear hb1 HOP
  have c0 : w1.cell? ⟨w.heap.size, 0, none⟩ = some (.bool busy) := HK.out.get 0
  have c1 : w1.cell? ⟨w.heap.size, 1, none⟩ = some (.int .i64 okind) := HK.out.get 1
  have c2 : w1.cell? ⟨w.heap.size, 2, none⟩ = some (.string okey) := HK.out.get 2
  have c3 : w1.cell? ⟨w.heap.size, 3, none⟩ = some (.int .i64 owhat) := HK.out.get 3
  have c4 : w1.cell? ⟨w.heap.size, 4, none⟩ = some (.int .i64 oval) := HK.out.get 4
  have c5 : w1.cell? ⟨w.heap.size, 5, none⟩ = some (.int .i64 serial) := HK.out.get 5
  have c6 : w1.cell? ⟨w.heap.size, 6, none⟩ = some (.int .i64 pc) := HK.out.get 6
  have c7 : w1.cell? ⟨w.heap.size, 7, none⟩ = some (.int .i64 k) := HK.out.get 7
  have c8 : w1.cell? ⟨w.heap.size, 8, none⟩ = some (.int .i64 slot) := HK.out.get 8
  have c9 : w1.cell? ⟨w.heap.size, 9, none⟩ = some (.int .i64 what) := HK.out.get 9
  have c10 : w1.cell? ⟨w.heap.size, 10, none⟩ = some (.int .i64 e) := HK.out.get 10
  have c11 : w1.cell? ⟨w.heap.size, 11, none⟩ = some (.int .i64 stamp) := HK.out.get 11
  have c12 : w1.cell? ⟨w.heap.size, 12, none⟩ = some (.int .i64 old) := HK.out.get 12
  have c13 : w1.cell? ⟨w.heap.size, 13, none⟩ = some (.int .i64 flips) := HK.out.get 13
  have c14 : w1.cell? ⟨w.heap.size, 14, none⟩ = some (.int .i64 steps) := HK.out.get 14
  have c15 : w1.cell? ⟨w.heap.size, 15, none⟩ = some (.int .i64 code) := HK.out.get 15
  have c16 : w1.cell? ⟨w.heap.size, 16, none⟩ = some (.slice A1 n1 cap1) := HK.out.get 16
  have c17 : w1.cell? ⟨w.heap.size, 17, none⟩ = some (.slice A2 n2 cap2) := HK.out.get 17
  cases q0 with
  | false =>
    go_wp2_with fail
    go_ret
    exact ⟨ret_bl (by rw [HE.out]; simp), HB.out⟩
  | true =>
    have HS2 := fun W => HST W (HKI.out rfl)
    clear HST
    go_wp2_with fail
    refine (HS2 _).out.mono ?_
    rintro er w2 ⟨rfl, rfl⟩
    cases q1 with
    | false =>
      go_wp2_with fail
      go_ret
      exact ⟨ret_bl (by rw [HE.out]; simp), HB.out⟩
    | true =>
      go_wp2_with ((with_reducible show wpList _ _ _ _ _ _); refine wpList_load_rowG 50 _ rfl w.heap.size rfl 50 #[.bool busy, .int .i64 okind, .string okey, .int .i64 owhat, .int .i64 oval, .int .i64 serial, .int .i64 pc, .int .i64 k, .int .i64 slot, .int .i64 what, .int .i64 e, .int .i64 stamp, .int .i64 old, .int .i64 flips, .int .i64 steps, .int .i64 code, .slice A1 n1 cap1, .slice A2 n2 cap2] (0, 0) _ HK.out Tryz.underlying50 rfl (by kernel_rfl) rfl ?_)
      refine (HFL.out _ HB.out).mono ?_
      rintro er w3 ⟨rfl, hb3⟩
      clear c0 c1 c2 c3 c4 c5 c6 c7 c8 c9 c10 c11 c12 c13 c14 c15 c16 c17
      replace HK := Lib.hid (HK.out.below hb3)
      replace HB := Lib.hid (HB.out.trans (hb3.mono HB.out.size))
      clear hb3 HFL
      have c0 : w3.cell? ⟨w.heap.size, 0, none⟩ = some (.bool busy) := HK.out.get 0
      have c1 : w3.cell? ⟨w.heap.size, 1, none⟩ = some (.int .i64 okind) := HK.out.get 1
      have c2 : w3.cell? ⟨w.heap.size, 2, none⟩ = some (.string okey) := HK.out.get 2
      have c3 : w3.cell? ⟨w.heap.size, 3, none⟩ = some (.int .i64 owhat) := HK.out.get 3
      have c4 : w3.cell? ⟨w.heap.size, 4, none⟩ = some (.int .i64 oval) := HK.out.get 4
      have c5 : w3.cell? ⟨w.heap.size, 5, none⟩ = some (.int .i64 serial) := HK.out.get 5
      have c6 : w3.cell? ⟨w.heap.size, 6, none⟩ = some (.int .i64 pc) := HK.out.get 6
      have c7 : w3.cell? ⟨w.heap.size, 7, none⟩ = some (.int .i64 k) := HK.out.get 7
      have c8 : w3.cell? ⟨w.heap.size, 8, none⟩ = some (.int .i64 slot) := HK.out.get 8
      have c9 : w3.cell? ⟨w.heap.size, 9, none⟩ = some (.int .i64 what) := HK.out.get 9
      have c10 : w3.cell? ⟨w.heap.size, 10, none⟩ = some (.int .i64 e) := HK.out.get 10
      have c11 : w3.cell? ⟨w.heap.size, 11, none⟩ = some (.int .i64 stamp) := HK.out.get 11
      have c12 : w3.cell? ⟨w.heap.size, 12, none⟩ = some (.int .i64 old) := HK.out.get 12
      have c13 : w3.cell? ⟨w.heap.size, 13, none⟩ = some (.int .i64 flips) := HK.out.get 13
      have c14 : w3.cell? ⟨w.heap.size, 14, none⟩ = some (.int .i64 steps) := HK.out.get 14
      have c15 : w3.cell? ⟨w.heap.size, 15, none⟩ = some (.int .i64 code) := HK.out.get 15
      have c16 : w3.cell? ⟨w.heap.size, 16, none⟩ = some (.slice A1 n1 cap1) := HK.out.get 16
      have c17 : w3.cell? ⟨w.heap.size, 17, none⟩ = some (.slice A2 n2 cap2) := HK.out.get 17
      cases q2 with
      | false =>
        go_wp2_with fail
        go_ret
        exact ⟨ret_bl (by rw [HE.out]; simp), HB.out⟩
      | true =>
        go_wp2_with ((with_reducible show wpList _ _ _ _ _ _); refine wpList_load_rowG 50 _ rfl w.heap.size rfl 50 #[.bool busy, .int .i64 okind, .string okey, .int .i64 owhat, .int .i64 oval, .int .i64 serial, .int .i64 pc, .int .i64 k, .int .i64 slot, .int .i64 what, .int .i64 e, .int .i64 stamp, .int .i64 old, .int .i64 flips, .int .i64 steps, .int .i64 code, .slice A1 n1 cap1, .slice A2 n2 cap2] (0, 0) _ HK.out Tryz.underlying50 rfl (by kernel_rfl) rfl ?_)
        refine (HAT.out _ HB.out trivial).mono ?_
        rintro er w4 ⟨rfl, hb3⟩
        clear c0 c1 c2 c3 c4 c5 c6 c7 c8 c9 c10 c11 c12 c13 c14 c15 c16 c17
        replace HB := Lib.hid (HB.out.trans (hb3.mono HB.out.size))
        clear hb3 HAT
        go_wp2_with fail
        go_ret
        exact ⟨ret_bl (by rw [HE.out]; simp), HB.out⟩
end Go.Proofs.YtnlepnfdgdbkoaaGreatDoor
