/-
  Chapter 10, the model's JobOk and what it asks: is a job as one may be? They turn nothing that was there.
-/
import Derived.Test.YtfemdhknnfmpcaaZa
import Derived.Test.YtfemdhknnfmpcaaOpS
import Derived.BigFrame
namespace Go.Proofs.Ytfemdhknnfmpcaa
open Go.RowKit M
set_option linter.unusedVariables false
set_option linter.unusedSimpArgs false
/-- A whole record loaded from a block of its own, the operation being wanted. -/
theorem wpList_load_rowG {P : Program} {ops : Array Oper} {rest : List Oper} {o : Oper} {a : Act} {w : World} {Q : Exit → Act → World → Prop} (ty : TypeId) (x : Operand) (ho : o.op = .load ty x)
    (g : Nat) (hx : a.eval x = .pointer (some ⟨g, 0, none⟩)) (t : TypeId) (cs : Array Value) (fr : Nat × Nat) (d : TypeDesc) (hg : w.heap[g]? = some (.cells cs t fr))
    (hu : P.underlying ty = some d) (hd : (match d with | .struct _ | .array _ _ => true | _ => false) = true) (hi : (P.info? ty).map (·.size) = some cs.size)
    (hw : Region.wanted o (yielded ops a.tmps) = true) (h : wpList P ops Q rest (a.put o.dst (.agg cs)) w) : wpList P ops Q (o :: rest) a w :=
  Go.BigFrame.wpList_want hw fun _ hK => wp_load_row ty x ho g hx t cs fr d hg hu hd hi (hK _ _ h)
theorem ret_bl {a b : Bool} (h : a = b) : Ending.returned (.bool a) = .returned (.bool b) := by rw [h]
theorem int_beq2 (x y : Int) : (x == y) = decide (x = y) := by
  by_cases h : x = y
  · rw [decide_eq_true h, beq_iff_eq]; exact h
  · rw [decide_eq_false h, beq_eq_false_iff_ne]; exact h
theorem nat_beq (n : Nat) (m : Nat) : (((n : Int) == (m : Int)) = decide (n = m)) := by
  by_cases h : n = m
  · subst h; simp
  · rw [decide_eq_false h, beq_eq_false_iff_ne]; omega
theorem count_01 {r : J} (h : r.pc = 0 ∨ r.pc = 1) : countOkV r = decide (0 ≤ r.k ∧ r.k ≤ 3) := if_pos h
theorem count_8 {r : J} (h : r.pc = 8) : countOkV r = decide (0 ≤ r.k ∧ r.k ≤ 2) := by unfold countOkV; rw [if_neg (by omega), if_pos h]
theorem count_14 {r : J} (h : r.pc = 14) : countOkV r = (decide (0 ≤ r.k ∧ r.k ≤ 3) && (decide ((r.keys.length : Int) = r.k) && decide (r.raw.length = 0))) := by unfold countOkV; rw [if_neg (by omega), if_neg (by omega), if_pos h]
theorem count_15 {r : J} (h : r.pc = 15) : countOkV r = (decide (0 ≤ r.k ∧ r.k ≤ 31) && (decide (r.keys.length = 4) && decide ((r.raw.length : Int) = r.k))) := by unfold countOkV; rw [if_neg (by omega), if_neg (by omega), if_neg (by omega), if_pos h]
theorem count_12 {r : J} (h : r.pc = 13 ∨ r.pc = 12) : countOkV r = (decide (r.keys.length = 0) && decide (r.raw.length = 0)) := by unfold countOkV; rw [if_neg (by omega), if_neg (by omega), if_neg (by omega), if_neg (by omega), if_pos h]
theorem count_no {r : J} (h : r.pc ≠ 0 ∧ r.pc ≠ 1 ∧ r.pc ≠ 8 ∧ r.pc ≠ 14 ∧ r.pc ≠ 15 ∧ r.pc ≠ 13 ∧ r.pc ≠ 12) : countOkV r = true := by unfold countOkV; rw [if_neg (by omega), if_neg (by omega), if_neg (by omega), if_neg (by omega), if_neg (by omega)]
/-- Nothing but a new block: the world of a call that boxes a record. -/
theorem below_one (w : World) (o : Obj) : Below w.heap.size w (w.alloc o) := (Below.refl _ _).alloc (Nat.le_refl _) o
set_option maxRecDepth 100000 in
set_option maxHeartbeats 2000000 in
theorem sCount_0 (w : World) (r : J) (vk vr : Value) (h : jobIn w r vk vr) (hp : r.pc = 0) : Calls Try.prog 53 #[.agg (jobVals r vk vr)] w (Gives (.bool (countOkV r)) w) := by
  rw [count_01 (.inl hp)]
  obtain ⟨⟨A1, cap1, rfl, _⟩, A2, cap2, rfl, _⟩ := h
  obtain ⟨busy, ⟨okind, okey, owhat, oval⟩, serial, pc, k, slot, what, e, stamp, old, flips, steps, code, keys, raw⟩ := r
  simp only at hp
  subst hp
  unfold jobVals
  simp only
  have HL := fun W => Lib.hid (l1In_any k 0 3 W)
  generalize decide (0 ≤ k ∧ k ≤ 3) = q at *
  generalize keys.length = n1 at *
  generalize raw.length = n2 at *
  go_enter Try.func53, Try.ntmps53
  go_wp2_with (go_at_call 43; refine (HL _).out.mono ?_; rintro e w' ⟨rfl, rfl⟩)
  go_ret
  exact ⟨rfl, below_one _ _⟩
set_option maxRecDepth 100000 in
set_option maxHeartbeats 2000000 in
theorem sCount_1 (w : World) (r : J) (vk vr : Value) (h : jobIn w r vk vr) (hp : r.pc = 1) : Calls Try.prog 53 #[.agg (jobVals r vk vr)] w (Gives (.bool (countOkV r)) w) := by
  rw [count_01 (.inr hp)]
  obtain ⟨⟨A1, cap1, rfl, _⟩, A2, cap2, rfl, _⟩ := h
  obtain ⟨busy, ⟨okind, okey, owhat, oval⟩, serial, pc, k, slot, what, e, stamp, old, flips, steps, code, keys, raw⟩ := r
  simp only at hp
  subst hp
  unfold jobVals
  simp only
  have HL := fun W => Lib.hid (l1In_any k 0 3 W)
  generalize decide (0 ≤ k ∧ k ≤ 3) = q at *
  generalize keys.length = n1 at *
  generalize raw.length = n2 at *
  go_enter Try.func53, Try.ntmps53
  go_wp2_with (go_at_call 43; refine (HL _).out.mono ?_; rintro e w' ⟨rfl, rfl⟩)
  go_ret
  exact ⟨rfl, below_one _ _⟩
set_option maxRecDepth 100000 in
set_option maxHeartbeats 2000000 in
theorem sCount_8 (w : World) (r : J) (vk vr : Value) (h : jobIn w r vk vr) (hp : r.pc = 8) : Calls Try.prog 53 #[.agg (jobVals r vk vr)] w (Gives (.bool (countOkV r)) w) := by
  rw [count_8 (id hp)]
  obtain ⟨⟨A1, cap1, rfl, _⟩, A2, cap2, rfl, _⟩ := h
  obtain ⟨busy, ⟨okind, okey, owhat, oval⟩, serial, pc, k, slot, what, e, stamp, old, flips, steps, code, keys, raw⟩ := r
  simp only at hp
  subst hp
  unfold jobVals
  simp only
  have HL := fun W => Lib.hid (l1In_any k 0 2 W)
  generalize decide (0 ≤ k ∧ k ≤ 2) = q at *
  generalize keys.length = n1 at *
  generalize raw.length = n2 at *
  go_enter Try.func53, Try.ntmps53
  go_wp2_with (go_at_call 43; refine (HL _).out.mono ?_; rintro e w' ⟨rfl, rfl⟩)
  go_ret
  exact ⟨rfl, below_one _ _⟩
set_option maxRecDepth 100000 in
set_option maxHeartbeats 2000000 in
theorem sCount_14 (w : World) (r : J) (vk vr : Value) (h : jobIn w r vk vr) (hp : r.pc = 14) : Calls Try.prog 53 #[.agg (jobVals r vk vr)] w (Gives (.bool (countOkV r)) w) := by
  rw [count_14 hp]
  obtain ⟨⟨A1, cap1, rfl, _⟩, A2, cap2, rfl, _⟩ := h
  obtain ⟨busy, ⟨okind, okey, owhat, oval⟩, serial, pc, k, slot, what, e, stamp, old, flips, steps, code, keys, raw⟩ := r
  simp only at hp
  subst hp
  unfold jobVals
  simp only
  have HL := fun W => Lib.hid (l1In_any k 0 3 W)
  generalize decide (0 ≤ k ∧ k ≤ 3) = q at *
  have b1 := int_beq2 (keys.length : Int) k
  generalize decide ((keys.length : Int) = k) = q1 at *
  have b2 := nat_beq raw.length 0
  generalize decide (raw.length = 0) = q2 at *
  simp only [Int.natCast_zero] at b2
  generalize keys.length = n1 at *
  generalize raw.length = n2 at *
  go_enter Try.func53, Try.ntmps53
  cases q with
  | false =>
    go_wp2_with (go_at_call 43; refine (HL _).out.mono ?_; rintro e w' ⟨rfl, rfl⟩)
    go_ret
    exact ⟨rfl, below_one _ _⟩
  | true =>
    cases q1 with
    | false =>
      go_wp2_with (go_at_call 43; refine (HL _).out.mono ?_; rintro e w' ⟨rfl, rfl⟩)
      go_ret
      exact ⟨rfl, below_one _ _⟩
    | true =>
      go_wp2_with (go_at_call 43; refine (HL _).out.mono ?_; rintro e w' ⟨rfl, rfl⟩)
      go_ret
      exact ⟨ret_bl (by simp), below_one _ _⟩
set_option maxRecDepth 100000 in
set_option maxHeartbeats 2000000 in
theorem sCount_15 (w : World) (r : J) (vk vr : Value) (h : jobIn w r vk vr) (hp : r.pc = 15) : Calls Try.prog 53 #[.agg (jobVals r vk vr)] w (Gives (.bool (countOkV r)) w) := by
  rw [count_15 hp]
  obtain ⟨⟨A1, cap1, rfl, _⟩, A2, cap2, rfl, _⟩ := h
  obtain ⟨busy, ⟨okind, okey, owhat, oval⟩, serial, pc, k, slot, what, e, stamp, old, flips, steps, code, keys, raw⟩ := r
  simp only at hp
  subst hp
  unfold jobVals
  simp only
  have HL := fun W => Lib.hid (l1In_any k 0 31 W)
  generalize decide (0 ≤ k ∧ k ≤ 31) = q at *
  have b1 := nat_beq keys.length 4
  generalize decide (keys.length = 4) = q1 at *
  have b2 := int_beq2 (raw.length : Int) k
  generalize decide ((raw.length : Int) = k) = q2 at *
  replace b1 : ((keys.length : Int) == 4) = q1 := b1
  generalize keys.length = n1 at *
  generalize raw.length = n2 at *
  go_enter Try.func53, Try.ntmps53
  cases q with
  | false =>
    go_wp2_with (go_at_call 43; refine (HL _).out.mono ?_; rintro e w' ⟨rfl, rfl⟩)
    go_ret
    exact ⟨rfl, below_one _ _⟩
  | true =>
    cases q1 with
    | false =>
      go_wp2_with (go_at_call 43; refine (HL _).out.mono ?_; rintro e w' ⟨rfl, rfl⟩)
      go_ret
      exact ⟨rfl, below_one _ _⟩
    | true =>
      go_wp2_with (go_at_call 43; refine (HL _).out.mono ?_; rintro e w' ⟨rfl, rfl⟩)
      go_ret
      exact ⟨ret_bl (by simp), below_one _ _⟩
set_option maxRecDepth 100000 in
set_option maxHeartbeats 2000000 in
theorem sCount_13 (w : World) (r : J) (vk vr : Value) (h : jobIn w r vk vr) (hp : r.pc = 13) : Calls Try.prog 53 #[.agg (jobVals r vk vr)] w (Gives (.bool (countOkV r)) w) := by
  rw [count_12 (.inl hp)]
  obtain ⟨⟨A1, cap1, rfl, _⟩, A2, cap2, rfl, _⟩ := h
  obtain ⟨busy, ⟨okind, okey, owhat, oval⟩, serial, pc, k, slot, what, e, stamp, old, flips, steps, code, keys, raw⟩ := r
  simp only at hp
  subst hp
  unfold jobVals
  simp only
  have b1 := nat_beq keys.length 0
  have b2 := nat_beq raw.length 0
  generalize decide (keys.length = 0) = q1 at *
  generalize decide (raw.length = 0) = q2 at *
  simp only [Int.natCast_zero] at b1 b2
  generalize keys.length = n1 at *
  generalize raw.length = n2 at *
  go_enter Try.func53, Try.ntmps53
  cases q1 with
  | false =>
    go_wp2_with fail
    go_ret
    exact ⟨rfl, below_one _ _⟩
  | true =>
    go_wp2_with fail
    go_ret
    exact ⟨ret_bl (by simp), below_one _ _⟩
set_option maxRecDepth 100000 in
set_option maxHeartbeats 2000000 in
theorem sCount_12 (w : World) (r : J) (vk vr : Value) (h : jobIn w r vk vr) (hp : r.pc = 12) : Calls Try.prog 53 #[.agg (jobVals r vk vr)] w (Gives (.bool (countOkV r)) w) := by
  rw [count_12 (.inr hp)]
  obtain ⟨⟨A1, cap1, rfl, _⟩, A2, cap2, rfl, _⟩ := h
  obtain ⟨busy, ⟨okind, okey, owhat, oval⟩, serial, pc, k, slot, what, e, stamp, old, flips, steps, code, keys, raw⟩ := r
  simp only at hp
  subst hp
  unfold jobVals
  simp only
  have b1 := nat_beq keys.length 0
  have b2 := nat_beq raw.length 0
  generalize decide (keys.length = 0) = q1 at *
  generalize decide (raw.length = 0) = q2 at *
  simp only [Int.natCast_zero] at b1 b2
  generalize keys.length = n1 at *
  generalize raw.length = n2 at *
  go_enter Try.func53, Try.ntmps53
  cases q1 with
  | false =>
    go_wp2_with fail
    go_ret
    exact ⟨rfl, below_one _ _⟩
  | true =>
    go_wp2_with fail
    go_ret
    exact ⟨ret_bl (by simp), below_one _ _⟩
set_option maxRecDepth 100000 in
set_option maxHeartbeats 2000000 in
theorem sCount_no (w : World) (r : J) (vk vr : Value) (h : jobIn w r vk vr) (hp : r.pc ≠ 0 ∧ r.pc ≠ 1 ∧ r.pc ≠ 8 ∧ r.pc ≠ 14 ∧ r.pc ≠ 15 ∧ r.pc ≠ 13 ∧ r.pc ≠ 12) : Calls Try.prog 53 #[.agg (jobVals r vk vr)] w (Gives (.bool (countOkV r)) w) := by
  rw [count_no hp]
  obtain ⟨⟨A1, cap1, rfl, _⟩, A2, cap2, rfl, _⟩ := h
  obtain ⟨busy, ⟨okind, okey, owhat, oval⟩, serial, pc, k, slot, what, e, stamp, old, flips, steps, code, keys, raw⟩ := r
  obtain ⟨p0, p1, p8, p14, p15, p13, p12⟩ := hp
  simp only at p0 p1 p8 p14 p15 p13 p12
  replace p0 : (pc == 0) = false := by rw [beq_eq_false_iff_ne]; exact p0
  replace p1 : (pc == 1) = false := by rw [beq_eq_false_iff_ne]; exact p1
  replace p8 : (pc == 8) = false := by rw [beq_eq_false_iff_ne]; exact p8
  replace p14 : (pc == 14) = false := by rw [beq_eq_false_iff_ne]; exact p14
  replace p15 : (pc == 15) = false := by rw [beq_eq_false_iff_ne]; exact p15
  replace p13 : (pc == 13) = false := by rw [beq_eq_false_iff_ne]; exact p13
  replace p12 : (pc == 12) = false := by rw [beq_eq_false_iff_ne]; exact p12
  unfold jobVals
  simp only
  generalize keys.length = n1 at *
  generalize raw.length = n2 at *
  go_enter Try.func53, Try.ntmps53
  go_wp2_with fail
  go_ret
  exact ⟨rfl, below_one _ _⟩
theorem sCount_any (w : World) (r : J) (vk vr : Value) (h : jobIn w r vk vr) : Calls Try.prog 53 #[.agg (jobVals r vk vr)] w (Gives (.bool (countOkV r)) w) := by
  by_cases h0 : r.pc = 0
  · exact sCount_0 w r vk vr h h0
  by_cases h1 : r.pc = 1
  · exact sCount_1 w r vk vr h h1
  by_cases h8 : r.pc = 8
  · exact sCount_8 w r vk vr h h8
  by_cases h14 : r.pc = 14
  · exact sCount_14 w r vk vr h h14
  by_cases h15 : r.pc = 15
  · exact sCount_15 w r vk vr h h15
  by_cases h13 : r.pc = 13
  · exact sCount_13 w r vk vr h h13
  by_cases h12 : r.pc = 12
  · exact sCount_12 w r vk vr h h12
  exact sCount_no w r vk vr h ⟨h0, h1, h8, h14, h15, h13, h12⟩
set_option maxRecDepth 100000 in
set_option maxHeartbeats 2000000 in
theorem sPlace_11 (w : World) (r : J) (vk vr : Value) (h : jobIn w r vk vr) (hp : r.pc = 11) : Calls Try.prog 52 #[.agg (jobVals r vk vr)] w (Gives (.bool (placeOkV r)) w) := by
  rw [show placeOkV r = true from if_pos hp]
  obtain ⟨⟨A1, cap1, rfl, _⟩, A2, cap2, rfl, _⟩ := h
  obtain ⟨busy, ⟨okind, okey, owhat, oval⟩, serial, pc, k, slot, what, e, stamp, old, flips, steps, code, keys, raw⟩ := r
  simp only at hp
  unfold jobVals
  simp only
  subst hp
  generalize keys.length = n1 at *
  generalize raw.length = n2 at *
  go_enter Try.func52, Try.ntmps52
  go_wp2_with fail
  go_ret
  exact ⟨rfl, below_one _ _⟩
set_option maxRecDepth 100000 in
set_option maxHeartbeats 2000000 in
theorem sPlace_3 (w : World) (r : J) (vk vr : Value) (h : jobIn w r vk vr) (hp : r.pc ≠ 11) (hk : r.op.kind = 3) : Calls Try.prog 52 #[.agg (jobVals r vk vr)] w (Gives (.bool (placeOkV r)) w) := by
  rw [show placeOkV r = decide (12 ≤ r.pc ∧ r.pc ≤ 15) by unfold placeOkV; rw [if_neg hp, if_pos hk]]
  obtain ⟨⟨A1, cap1, rfl, _⟩, A2, cap2, rfl, _⟩ := h
  obtain ⟨busy, ⟨okind, okey, owhat, oval⟩, serial, pc, k, slot, what, e, stamp, old, flips, steps, code, keys, raw⟩ := r
  simp only at hp hk
  unfold jobVals
  simp only
  replace hp : (pc == 11) = false := by rw [beq_eq_false_iff_ne]; exact hp
  subst hk
  have HL := fun W => Lib.hid (l1In_any pc 12 15 W)
  generalize decide (12 ≤ pc ∧ pc ≤ 15) = q at *
  generalize keys.length = n1 at *
  generalize raw.length = n2 at *
  go_enter Try.func52, Try.ntmps52
  go_wp2_with (go_at_call 43; refine (HL _).out.mono ?_; rintro e w' ⟨rfl, rfl⟩)
  go_ret
  exact ⟨rfl, below_one _ _⟩
set_option maxRecDepth 100000 in
set_option maxHeartbeats 2000000 in
theorem sPlace_1 (w : World) (r : J) (vk vr : Value) (h : jobIn w r vk vr) (hp : r.pc ≠ 11) (hk : r.op.kind = 1) : Calls Try.prog 52 #[.agg (jobVals r vk vr)] w (Gives (.bool (placeOkV r)) w) := by
  rw [show placeOkV r = decide (r.pc = 0 ∨ r.pc = 1) by unfold placeOkV; rw [if_neg hp, if_neg (by omega), if_pos hk]]
  obtain ⟨⟨A1, cap1, rfl, _⟩, A2, cap2, rfl, _⟩ := h
  obtain ⟨busy, ⟨okind, okey, owhat, oval⟩, serial, pc, k, slot, what, e, stamp, old, flips, steps, code, keys, raw⟩ := r
  simp only at hp hk
  unfold jobVals
  simp only
  replace hp : (pc == 11) = false := by rw [beq_eq_false_iff_ne]; exact hp
  subst hk
  have HE := Lib.hid (show decide (pc = 0 ∨ pc = 1) = (decide (pc = 0) || decide (pc = 1)) from Bool.decide_or _ _)
  have b1 := int_beq2 pc 0
  have b2 := int_beq2 pc 1
  generalize decide (pc = 0 ∨ pc = 1) = q at *
  generalize decide (pc = 0) = q1 at *
  generalize decide (pc = 1) = q2 at *
  generalize keys.length = n1 at *
  generalize raw.length = n2 at *
  go_enter Try.func52, Try.ntmps52
  cases q1 with
  | true =>
    go_wp2_with fail
    go_ret
    exact ⟨ret_bl (by rw [HE.out]; simp), below_one _ _⟩
  | false =>
    go_wp2_with fail
    go_ret
    exact ⟨ret_bl (by rw [HE.out]; simp), below_one _ _⟩
set_option maxRecDepth 100000 in
set_option maxHeartbeats 2000000 in
theorem sPlace_2 (w : World) (r : J) (vk vr : Value) (h : jobIn w r vk vr) (hp : r.pc ≠ 11) (hk3 : r.op.kind ≠ 3) (hk1 : r.op.kind ≠ 1) : Calls Try.prog 52 #[.agg (jobVals r vk vr)] w (Gives (.bool (placeOkV r)) w) := by
  rw [show placeOkV r = decide (r.pc = 0 ∨ (2 ≤ r.pc ∧ r.pc ≤ 10)) by unfold placeOkV; rw [if_neg hp, if_neg hk3, if_neg hk1]]
  obtain ⟨⟨A1, cap1, rfl, _⟩, A2, cap2, rfl, _⟩ := h
  obtain ⟨busy, ⟨okind, okey, owhat, oval⟩, serial, pc, k, slot, what, e, stamp, old, flips, steps, code, keys, raw⟩ := r
  simp only at hp hk3 hk1
  unfold jobVals
  simp only
  replace hp : (pc == 11) = false := by rw [beq_eq_false_iff_ne]; exact hp
  replace hk3 : (okind == 3) = false := by rw [beq_eq_false_iff_ne]; exact hk3
  replace hk1 : (okind == 1) = false := by rw [beq_eq_false_iff_ne]; exact hk1
  have HE := Lib.hid (show decide (pc = 0 ∨ (2 ≤ pc ∧ pc ≤ 10)) = (decide (pc = 0) || decide (2 ≤ pc ∧ pc ≤ 10)) from Bool.decide_or _ _)
  have HL := fun W => Lib.hid (l1In_any pc 2 10 W)
  have b1 := int_beq2 pc 0
  generalize decide (pc = 0 ∨ (2 ≤ pc ∧ pc ≤ 10)) = q at *
  generalize decide (pc = 0) = q1 at *
  generalize decide (2 ≤ pc ∧ pc ≤ 10) = q2 at *
  generalize keys.length = n1 at *
  generalize raw.length = n2 at *
  go_enter Try.func52, Try.ntmps52
  cases q1 with
  | true =>
    go_wp2_with fail
    go_ret
    exact ⟨ret_bl (by rw [HE.out]; simp), below_one _ _⟩
  | false =>
    go_wp2_with (go_at_call 43; refine (HL _).out.mono ?_; rintro e w' ⟨rfl, rfl⟩)
    go_ret
    exact ⟨ret_bl (by rw [HE.out]; simp), below_one _ _⟩
theorem sPlace_any (w : World) (r : J) (vk vr : Value) (h : jobIn w r vk vr) : Calls Try.prog 52 #[.agg (jobVals r vk vr)] w (Gives (.bool (placeOkV r)) w) := by
  by_cases hp : r.pc = 11
  · exact sPlace_11 w r vk vr h hp
  by_cases h3 : r.op.kind = 3
  · exact sPlace_3 w r vk vr h hp h3
  by_cases h1 : r.op.kind = 1
  · exact sPlace_1 w r vk vr h hp h1
  exact sPlace_2 w r vk vr h hp h3 h1
set_option maxRecDepth 100000 in
set_option maxHeartbeats 8000000 in
theorem sJobOk_any (w : World) (r : J) (vk vr : Value) (h : jobIn w r vk vr) (hs : r.op.key.size ≤ maxLen) : Calls Try.prog 21 #[.agg (jobVals r vk vr)] w (Gives (.bool (jobOkV r)) w) := by
  have HOP := fun W => Lib.hid (sOpOk_any W r.op hs)
  have HPL := Lib.hid (fun W (hb : Below w.heap.size w W) => sPlace_any W r vk vr (jobIn_below h hb))
  have HCN := Lib.hid (fun W (hb : Below w.heap.size w W) => sCount_any W r vk vr (jobIn_below h hb))
  have HE := Lib.hid (show jobOkV r = (opOkV r.op && (placeOkV r && (countOkV r && (decide (0 ≤ r.slot ∧ r.slot ≤ 3) && (decide (0 ≤ r.what ∧ r.what ≤ 3) && (decide (0 ≤ r.e ∧ r.e ≤ 281474976710655) && (decide (0 ≤ r.k ∧ r.k ≤ 32) && (decide (r.keys.length ≤ 4) && decide (r.raw.length ≤ 32))))))))) from rfl)
  generalize jobOkV r = all at *
  generalize placeOkV r = q1 at *
  generalize countOkV r = q2 at *
  obtain ⟨⟨A1, cap1, rfl, _⟩, A2, cap2, rfl, _⟩ := h
  obtain ⟨busy, ⟨okind, okey, owhat, oval⟩, serial, pc, k, slot, what, e, stamp, old, flips, steps, code, keys, raw⟩ := r
  unfold jobVals at HPL HCN
  unfold O.v at HOP
  unfold jobVals
  simp only at HPL HCN HOP HE hs ⊢
  generalize opOkV ⟨okind, okey, owhat, oval⟩ = q0 at *
  have H3 := fun W => Lib.hid (l1In_any slot 0 3 W)
  have H4 := fun W => Lib.hid (l1In_any what 0 3 W)
  have H5 := fun W => Lib.hid (l1In_any e 0 281474976710655 W)
  have H6 := fun W => Lib.hid (l1In_any k 0 32 W)
  generalize decide (0 ≤ slot ∧ slot ≤ 3) = q3 at *
  generalize decide (0 ≤ what ∧ what ≤ 3) = q4 at *
  generalize decide (0 ≤ e ∧ e ≤ 281474976710655) = q5 at *
  generalize decide (0 ≤ k ∧ k ≤ 32) = q6 at *
  have b7 : decide ((keys.length : Int) ≤ 4) = decide (keys.length ≤ 4) := by congr 1; simp only [eq_iff_iff]; omega
  have b8 : decide ((raw.length : Int) ≤ 32) = decide (raw.length ≤ 32) := by congr 1; simp only [eq_iff_iff]; omega
  generalize decide (keys.length ≤ 4) = q7 at *
  generalize decide (raw.length ≤ 32) = q8 at *
  generalize keys.length = n1 at *
  generalize raw.length = n2 at *
  go_enter Try.func21, Try.ntmps21
  go_wp2_with fail
  refine (HOP _).out.mono ?_
  rintro er w1 ⟨rfl, hb1⟩
  have HK := Lib.hid ((Blk.new w w.heap.size 42 #[.bool busy, .int .i64 okind, .string okey, .int .i64 owhat, .int .i64 oval, .int .i64 serial, .int .i64 pc, .int .i64 k, .int .i64 slot, .int .i64 what, .int .i64 e, .int .i64 stamp, .int .i64 old, .int .i64 flips, .int .i64 steps, .int .i64 code, .slice A1 n1 cap1, .slice A2 n2 cap2] rfl).below hb1)
  have HB := Lib.hid ((below_one w (.cells #[.bool busy, .int .i64 okind, .string okey, .int .i64 owhat, .int .i64 oval, .int .i64 serial, .int .i64 pc, .int .i64 k, .int .i64 slot, .int .i64 what, .int .i64 e, .int .i64 stamp, .int .i64 old, .int .i64 flips, .int .i64 steps, .int .i64 code, .slice A1 n1 cap1, .slice A2 n2 cap2] 42)).trans (hb1.mono (by simp [go_sem])))
  clear hb1 HOP
  have c0 : w1.cell? ⟨w.heap.size, 0, none⟩ = some (.bool busy) := HK.out.get 0
  have c1 : w1.cell? ⟨w.heap.size, 1, none⟩ = some (.int .i64 okind) := HK.out.get 1
  have c2 : w1.cell? ⟨w.heap.size, 2, none⟩ = some (.string okey) := HK.out.get 2
  have c3 : w1.cell? ⟨w.heap.size, 3, none⟩ = some (.int .i64 owhat) := HK.out.get 3
  have c4 : w1.cell? ⟨w.heap.size, 4, none⟩ = some (.int .i64 oval) := HK.out.get 4
  have c5 : w1.cell? ⟨w.heap.size, 5, none⟩ = some (.int .i64 serial) := HK.out.get 5
  have c6 : w1.cell? ⟨w.heap.size, 6, none⟩ = some (.int .i64 pc) := HK.out.get 6
  have c7 : w1.cell? ⟨w.heap.size, 7, none⟩ = some (.int .i64 k) := HK.out.get 7
  have c8 : w1.cell? ⟨w.heap.size, 8, none⟩ = some (.int .i64 slot) := HK.out.get 8
  have c9 : w1.cell? ⟨w.heap.size, 9, none⟩ = some (.int .i64 what) := HK.out.get 9
  have c10 : w1.cell? ⟨w.heap.size, 10, none⟩ = some (.int .i64 e) := HK.out.get 10
  have c11 : w1.cell? ⟨w.heap.size, 11, none⟩ = some (.int .i64 stamp) := HK.out.get 11
  have c12 : w1.cell? ⟨w.heap.size, 12, none⟩ = some (.int .i64 old) := HK.out.get 12
  have c13 : w1.cell? ⟨w.heap.size, 13, none⟩ = some (.int .i64 flips) := HK.out.get 13
  have c14 : w1.cell? ⟨w.heap.size, 14, none⟩ = some (.int .i64 steps) := HK.out.get 14
  have c15 : w1.cell? ⟨w.heap.size, 15, none⟩ = some (.int .i64 code) := HK.out.get 15
  have c16 : w1.cell? ⟨w.heap.size, 16, none⟩ = some (.slice A1 n1 cap1) := HK.out.get 16
  have c17 : w1.cell? ⟨w.heap.size, 17, none⟩ = some (.slice A2 n2 cap2) := HK.out.get 17
  cases q0 with
  | false =>
    go_wp2_with fail
    go_ret
    exact ⟨ret_bl (by rw [HE.out]; simp), HB.out⟩
  | true =>
    go_wp2_with ((with_reducible show wpList _ _ _ _ _ _); refine wpList_load_rowG 42 _ rfl w.heap.size rfl 42 #[.bool busy, .int .i64 okind, .string okey, .int .i64 owhat, .int .i64 oval, .int .i64 serial, .int .i64 pc, .int .i64 k, .int .i64 slot, .int .i64 what, .int .i64 e, .int .i64 stamp, .int .i64 old, .int .i64 flips, .int .i64 steps, .int .i64 code, .slice A1 n1 cap1, .slice A2 n2 cap2] (0, 0) _ HK.out Try.underlying42 rfl (by kernel_rfl) rfl ?_)
    refine (HPL.out _ HB.out).mono ?_
    rintro er w2 ⟨rfl, hb2⟩
    clear c0 c1 c2 c3 c4 c5 c6 c7 c8 c9 c10 c11 c12 c13 c14 c15 c16 c17
    replace HK := Lib.hid (HK.out.below hb2)
    replace HB := Lib.hid (HB.out.trans (hb2.mono HB.out.size))
    clear hb2 HPL
    have c0 : w2.cell? ⟨w.heap.size, 0, none⟩ = some (.bool busy) := HK.out.get 0
    have c1 : w2.cell? ⟨w.heap.size, 1, none⟩ = some (.int .i64 okind) := HK.out.get 1
    have c2 : w2.cell? ⟨w.heap.size, 2, none⟩ = some (.string okey) := HK.out.get 2
    have c3 : w2.cell? ⟨w.heap.size, 3, none⟩ = some (.int .i64 owhat) := HK.out.get 3
    have c4 : w2.cell? ⟨w.heap.size, 4, none⟩ = some (.int .i64 oval) := HK.out.get 4
    have c5 : w2.cell? ⟨w.heap.size, 5, none⟩ = some (.int .i64 serial) := HK.out.get 5
    have c6 : w2.cell? ⟨w.heap.size, 6, none⟩ = some (.int .i64 pc) := HK.out.get 6
    have c7 : w2.cell? ⟨w.heap.size, 7, none⟩ = some (.int .i64 k) := HK.out.get 7
    have c8 : w2.cell? ⟨w.heap.size, 8, none⟩ = some (.int .i64 slot) := HK.out.get 8
    have c9 : w2.cell? ⟨w.heap.size, 9, none⟩ = some (.int .i64 what) := HK.out.get 9
    have c10 : w2.cell? ⟨w.heap.size, 10, none⟩ = some (.int .i64 e) := HK.out.get 10
    have c11 : w2.cell? ⟨w.heap.size, 11, none⟩ = some (.int .i64 stamp) := HK.out.get 11
    have c12 : w2.cell? ⟨w.heap.size, 12, none⟩ = some (.int .i64 old) := HK.out.get 12
    have c13 : w2.cell? ⟨w.heap.size, 13, none⟩ = some (.int .i64 flips) := HK.out.get 13
    have c14 : w2.cell? ⟨w.heap.size, 14, none⟩ = some (.int .i64 steps) := HK.out.get 14
    have c15 : w2.cell? ⟨w.heap.size, 15, none⟩ = some (.int .i64 code) := HK.out.get 15
    have c16 : w2.cell? ⟨w.heap.size, 16, none⟩ = some (.slice A1 n1 cap1) := HK.out.get 16
    have c17 : w2.cell? ⟨w.heap.size, 17, none⟩ = some (.slice A2 n2 cap2) := HK.out.get 17
    cases q1 with
    | false =>
      go_wp2_with fail
      go_ret
      exact ⟨ret_bl (by rw [HE.out]; simp), HB.out⟩
    | true =>
      go_wp2_with ((with_reducible show wpList _ _ _ _ _ _); refine wpList_load_rowG 42 _ rfl w.heap.size rfl 42 #[.bool busy, .int .i64 okind, .string okey, .int .i64 owhat, .int .i64 oval, .int .i64 serial, .int .i64 pc, .int .i64 k, .int .i64 slot, .int .i64 what, .int .i64 e, .int .i64 stamp, .int .i64 old, .int .i64 flips, .int .i64 steps, .int .i64 code, .slice A1 n1 cap1, .slice A2 n2 cap2] (0, 0) _ HK.out Try.underlying42 rfl (by kernel_rfl) rfl ?_)
      refine (HCN.out _ HB.out).mono ?_
      rintro er w3 ⟨rfl, hb3⟩
      clear c0 c1 c2 c3 c4 c5 c6 c7 c8 c9 c10 c11 c12 c13 c14 c15 c16 c17
      replace HK := Lib.hid (HK.out.below hb3)
      replace HB := Lib.hid (HB.out.trans (hb3.mono HB.out.size))
      clear hb3 HCN
      have c0 : w3.cell? ⟨w.heap.size, 0, none⟩ = some (.bool busy) := HK.out.get 0
      have c1 : w3.cell? ⟨w.heap.size, 1, none⟩ = some (.int .i64 okind) := HK.out.get 1
      have c2 : w3.cell? ⟨w.heap.size, 2, none⟩ = some (.string okey) := HK.out.get 2
      have c3 : w3.cell? ⟨w.heap.size, 3, none⟩ = some (.int .i64 owhat) := HK.out.get 3
      have c4 : w3.cell? ⟨w.heap.size, 4, none⟩ = some (.int .i64 oval) := HK.out.get 4
      have c5 : w3.cell? ⟨w.heap.size, 5, none⟩ = some (.int .i64 serial) := HK.out.get 5
      have c6 : w3.cell? ⟨w.heap.size, 6, none⟩ = some (.int .i64 pc) := HK.out.get 6
      have c7 : w3.cell? ⟨w.heap.size, 7, none⟩ = some (.int .i64 k) := HK.out.get 7
      have c8 : w3.cell? ⟨w.heap.size, 8, none⟩ = some (.int .i64 slot) := HK.out.get 8
      have c9 : w3.cell? ⟨w.heap.size, 9, none⟩ = some (.int .i64 what) := HK.out.get 9
      have c10 : w3.cell? ⟨w.heap.size, 10, none⟩ = some (.int .i64 e) := HK.out.get 10
      have c11 : w3.cell? ⟨w.heap.size, 11, none⟩ = some (.int .i64 stamp) := HK.out.get 11
      have c12 : w3.cell? ⟨w.heap.size, 12, none⟩ = some (.int .i64 old) := HK.out.get 12
      have c13 : w3.cell? ⟨w.heap.size, 13, none⟩ = some (.int .i64 flips) := HK.out.get 13
      have c14 : w3.cell? ⟨w.heap.size, 14, none⟩ = some (.int .i64 steps) := HK.out.get 14
      have c15 : w3.cell? ⟨w.heap.size, 15, none⟩ = some (.int .i64 code) := HK.out.get 15
      have c16 : w3.cell? ⟨w.heap.size, 16, none⟩ = some (.slice A1 n1 cap1) := HK.out.get 16
      have c17 : w3.cell? ⟨w.heap.size, 17, none⟩ = some (.slice A2 n2 cap2) := HK.out.get 17
      cases q2 with
      | false =>
        go_wp2_with fail
        go_ret
        exact ⟨ret_bl (by rw [HE.out]; simp), HB.out⟩
      | true =>
        go_wp2_with fail
        refine (H3 _).out.mono ?_
        rintro er w4 ⟨rfl, rfl⟩
        cases q3 with
        | false =>
          go_wp2_with fail
          go_ret
          exact ⟨ret_bl (by rw [HE.out]; simp), HB.out⟩
        | true =>
          go_wp2_with fail
          refine (H4 _).out.mono ?_
          rintro er w4 ⟨rfl, rfl⟩
          cases q4 with
          | false =>
            go_wp2_with fail
            go_ret
            exact ⟨ret_bl (by rw [HE.out]; simp), HB.out⟩
          | true =>
            go_wp2_with fail
            refine (H5 _).out.mono ?_
            rintro er w4 ⟨rfl, rfl⟩
            cases q5 with
            | false =>
              go_wp2_with fail
              go_ret
              exact ⟨ret_bl (by rw [HE.out]; simp), HB.out⟩
            | true =>
              go_wp2_with fail
              refine (H6 _).out.mono ?_
              rintro er w4 ⟨rfl, rfl⟩
              cases q6 with
              | false =>
                go_wp2_with fail
                go_ret
                exact ⟨ret_bl (by rw [HE.out]; simp), HB.out⟩
              | true =>
                cases q7 with
                | false =>
                  go_wp2_with fail
                  go_ret
                  exact ⟨ret_bl (by rw [HE.out]; simp), HB.out⟩
                | true =>
                  go_wp2_with fail
                  go_ret
                  exact ⟨ret_bl (by rw [HE.out]; simp), HB.out⟩
theorem zeroO_eq (r : O) : decide (r = ⟨0, ⟨#[]⟩, 0, 0⟩) = isZeroO r := by
  obtain ⟨kind, key, what, val⟩ := r
  unfold isZeroO
  congr 1
  simp
set_option maxRecDepth 100000 in
set_option maxHeartbeats 8000000 in
theorem sZero_any (w : World) (r : J) (vk vr : Value) (h : jobIn w r vk vr) : Calls Try.prog 75 #[.agg (jobVals r vk vr)] w (Gives (.bool (zeroJobV r)) w) := by
  have HE := Lib.hid (show zeroJobV r = (isZeroO r.op && ((decide (r.serial = 0) && (decide (r.pc = 0) && (decide (r.k = 0) && (decide (r.slot = 0) && (decide (r.what = 0) && (decide (r.e = 0) && (decide (r.stamp = 0) && (decide (r.old = 0) && (decide (r.flips = 0) && (decide (r.steps = 0) && decide (r.code = 0))))))))))) && (decide (r.keys.length = 0) && decide (r.raw.length = 0)))) by unfold zeroJobV; simp only [Bool.decide_and, Bool.and_assoc])
  have heq := fun W => eql_op W r.op ⟨0, ⟨#[]⟩, 0, 0⟩
  rw [zeroO_eq] at heq
  generalize zeroJobV r = all at *
  generalize isZeroO r.op = q0 at *
  obtain ⟨⟨A1, cap1, rfl, _⟩, A2, cap2, rfl, _⟩ := h
  obtain ⟨busy, ⟨okind, okey, owhat, oval⟩, serial, pc, k, slot, what, e, stamp, old, flips, steps, code, keys, raw⟩ := r
  unfold O.v at heq
  unfold jobVals
  simp only at heq HE ⊢
  have b1 := int_beq2 serial 0
  have b2 := int_beq2 pc 0
  have b3 := int_beq2 k 0
  have b4 := int_beq2 slot 0
  have b5 := int_beq2 what 0
  have b6 := int_beq2 e 0
  have b7 := int_beq2 stamp 0
  have b8 := int_beq2 old 0
  have b9 := int_beq2 flips 0
  have b10 := int_beq2 steps 0
  have b11 := int_beq2 code 0
  have b12 := nat_beq keys.length 0
  have b13 := nat_beq raw.length 0
  simp only [Int.natCast_zero] at b12 b13
  generalize decide (serial = 0) = q1 at *
  generalize decide (pc = 0) = q2 at *
  generalize decide (k = 0) = q3 at *
  generalize decide (slot = 0) = q4 at *
  generalize decide (what = 0) = q5 at *
  generalize decide (e = 0) = q6 at *
  generalize decide (stamp = 0) = q7 at *
  generalize decide (old = 0) = q8 at *
  generalize decide (flips = 0) = q9 at *
  generalize decide (steps = 0) = q10 at *
  generalize decide (code = 0) = q11 at *
  generalize decide (keys.length = 0) = q12 at *
  generalize decide (raw.length = 0) = q13 at *
  generalize keys.length = n1 at *
  generalize raw.length = n2 at *
  go_enter Try.func75, Try.ntmps75
  cases q0 with
  | false =>
    go_wp2_with fail
    go_ret
    exact ⟨ret_bl (by rw [HE.out]; simp), below_one _ _⟩
  | true =>
    cases q1 with
    | false =>
      go_wp2_with fail
      go_ret
      exact ⟨ret_bl (by rw [HE.out]; simp), below_one _ _⟩
    | true =>
      cases q2 with
      | false =>
        go_wp2_with fail
        go_ret
        exact ⟨ret_bl (by rw [HE.out]; simp), below_one _ _⟩
      | true =>
        cases q3 with
        | false =>
          go_wp2_with fail
          go_ret
          exact ⟨ret_bl (by rw [HE.out]; simp), below_one _ _⟩
        | true =>
          cases q4 with
          | false =>
            go_wp2_with fail
            go_ret
            exact ⟨ret_bl (by rw [HE.out]; simp), below_one _ _⟩
          | true =>
            cases q5 with
            | false =>
              go_wp2_with fail
              go_ret
              exact ⟨ret_bl (by rw [HE.out]; simp), below_one _ _⟩
            | true =>
              cases q6 with
              | false =>
                go_wp2_with fail
                go_ret
                exact ⟨ret_bl (by rw [HE.out]; simp), below_one _ _⟩
              | true =>
                cases q7 with
                | false =>
                  go_wp2_with fail
                  go_ret
                  exact ⟨ret_bl (by rw [HE.out]; simp), below_one _ _⟩
                | true =>
                  cases q8 with
                  | false =>
                    go_wp2_with fail
                    go_ret
                    exact ⟨ret_bl (by rw [HE.out]; simp), below_one _ _⟩
                  | true =>
                    cases q9 with
                    | false =>
                      go_wp2_with fail
                      go_ret
                      exact ⟨ret_bl (by rw [HE.out]; simp), below_one _ _⟩
                    | true =>
                      cases q10 with
                      | false =>
                        go_wp2_with fail
                        go_ret
                        exact ⟨ret_bl (by rw [HE.out]; simp), below_one _ _⟩
                      | true =>
                        cases q11 with
                        | false =>
                          go_wp2_with fail
                          go_ret
                          exact ⟨ret_bl (by rw [HE.out]; simp), below_one _ _⟩
                        | true =>
                          cases q12 with
                          | false =>
                            go_wp2_with fail
                            go_ret
                            exact ⟨ret_bl (by rw [HE.out]; simp), below_one _ _⟩
                          | true =>
                            go_wp2_with fail
                            go_ret
                            exact ⟨ret_bl (by rw [HE.out]; simp), below_one _ _⟩
end Go.Proofs.Ytfemdhknnfmpcaa
