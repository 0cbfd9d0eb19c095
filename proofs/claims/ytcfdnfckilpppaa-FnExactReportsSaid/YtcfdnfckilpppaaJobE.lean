/-
  The exact laws' comparison of the record Job, alike ones; of rows of it.
-/
import Derived.Test.YtcfdnfckilpppaaJobC
import Derived.Test.YtcfdnfckilpppaaZa
namespace Go.Proofs.Ytcfdnfckilpppaa
open Go.RowKit M
set_option linter.unusedVariables false
set_option linter.unusedSimpArgs false
theorem eqIntS_arg (w : World) (v u : Value) (zs : List Int) (h : IntsArg w v zs) (k : IntsArg w u zs) : Calls Try.prog 33 #[v, u] w (Gives (.bool true) w) := by
  obtain ⟨A, cap, rfl, h1, h2, h3⟩ := h
  obtain ⟨A', cap', rfl, k1, k2, k3⟩ := k
  generalize hn : zs.length = n at *
  clear hn
  unfold maxLen at h2 k2
  have H4 := Lib.hid h3
  have K4 := Lib.hid k3
  clear h3 k3
  go_enter Try.func33, Try.ntmps33
  go_wp2
  go_loopw [5] (fun i wr => ∃ j q : Nat, j ≤ n ∧ i = .int .i64 j ∧ wr = w.drewN q) (fun i _ => n - (intOf i).toNat)
  case atStart => exact ⟨0, 0, Nat.zero_le _, rfl, rfl⟩
  case round =>
    obtain ⟨j, q, hj, rfl, rfl⟩ := hrel
    by_cases hlt : j < n
    · obtain ⟨b, off, rfl, hb, hc⟩ := H4.out (by omega)
      obtain ⟨b', off', rfl, hb', hc'⟩ := K4.out (by omega)
      have g1 := hc j hlt
      have g2 := hc' j hlt
      clear hc hc'
      generalize zs.getD j 0 = z at *
      go_wp2_with fail
      go_quiet (fail)
      go_wp2
      go_roundw
      case rel => exact ⟨j + 1, q + _, by omega, by go_num, rfl⟩
      case measure => simp [intOf]; omega
    · go_wp2
      go_ret
      exact ⟨rfl, ⟨rfl, rfl, rfl, Nat.le_refl _, fun _ _ => rfl⟩⟩
/-- A whole record is loaded, in a statement that draws its order. -/
theorem WQ.loadMid {P : Program} {ops : Array Oper} {C : World → Prop} {Q : Act → Prop} {a : Act} {o : Oper} {rest : List Oper} (hgd : o.guard = none) (ty : TypeId) (x : Operand) (ho : o.op = .load ty x)
    (b off : Nat) (hx : a.eval x = .pointer (some ⟨b, off, none⟩)) (cs : List Value) (d : TypeDesc) (hc : ∀ W, C W → W.rangeAt b off cs)
    (hu : P.underlying ty = some d) (hd : d.isRow = true) (hi : (P.info? ty).map (·.size) = some cs.length) (h : WQ P ops C Q rest (a.put o.dst (.agg cs.toArray))) : WQ P ops C Q (o :: rest) a :=
  WQ.step (fun K hK => by
    rw [if_pos (by simp [Region.wanted, hgd])]
    refine ⟨_, fun W hW => ?_, hK _ h⟩
    unfold Oper.quietAt execOp
    simp only [ho, hx, Instr.loadAt, Instr.sureAddr, Sem.run_bind, Sem.run_pure, Result.andThen_ok, run_loadVar_mid W b off ty cs d (hc W hW) hu hd hi]
    exact ⟨rfl, rfl⟩)
theorem range_below {w W : World} {b o : Nat} {cs : List Value} (h : w.rangeAt b o cs) (hlt : b < w.heap.size) (hb : Below w.heap.size w W) : W.rangeAt b o cs := fun j v hv => (hb.cell (p := ⟨b, o + j, none⟩) hlt).trans (h j v hv)
set_option maxRecDepth 100000 in
set_option maxHeartbeats 8000000 in
theorem eqJob_same (w : World) (r : J) (vkeys vraw ukeys uraw : Value) (h : jobIn w r vkeys vraw) (k : jobIn w r ukeys uraw) : Calls Try.prog 50 #[.agg (jobVals r vkeys vraw), .agg (jobVals r ukeys uraw)] w (Gives (.bool true) w) := by
  obtain ⟨hkeys, hraw⟩ := h
  obtain ⟨kkeys, kraw⟩ := k
  have Ekeys := fun W h k => Lib.hid (eqIntS_arg W vkeys ukeys r.keys h k)
  have Hkeys := Lib.hid hkeys
  have Kkeys := Lib.hid kkeys
  obtain ⟨akeys, ckeys, rfl, _, _, _⟩ := hkeys
  obtain ⟨bkeys, dkeys, rfl, _, _, _⟩ := kkeys
  have Eraw := fun W h k => Lib.hid (eqIntS_arg W vraw uraw r.raw h k)
  have Hraw := Lib.hid hraw
  have Kraw := Lib.hid kraw
  obtain ⟨araw, craw, rfl, _, _, _⟩ := hraw
  obtain ⟨braw, draw, rfl, _, _, _⟩ := kraw
  have HT := fun W => Lib.hid (eqOp_same W r.op)
  obtain ⟨busy, ⟨op_kind, op_key, op_what, op_val⟩, serial, pc, k, slot, what, e, stamp, old, flips, steps, code, keys, raw⟩ := r
  unfold O.v at HT
  simp only at *
  generalize hnkeys : keys.length = nkeys at *
  clear hnkeys
  generalize hnraw : raw.length = nraw at *
  clear hnraw
  unfold jobVals
  simp only
  go_enter Try.func50, Try.ntmps50
  go_upto_region 1 with fail
  refine wp_gen (fun W => Blk W w.heap.size 86 #[.bool busy, .int .i64 op_kind, .string op_key, .int .i64 op_what, .int .i64 op_val, .int .i64 serial, .int .i64 pc, .int .i64 k, .int .i64 slot, .int .i64 what, .int .i64 e, .int .i64 stamp, .int .i64 old, .int .i64 flips, .int .i64 steps, .int .i64 code, .slice akeys nkeys ckeys, .slice araw nraw craw] ∧ Blk W (w.heap.size + 1) 86 #[.bool busy, .int .i64 op_kind, .string op_key, .int .i64 op_what, .int .i64 op_val, .int .i64 serial, .int .i64 pc, .int .i64 k, .int .i64 slot, .int .i64 what, .int .i64 e, .int .i64 stamp, .int .i64 old, .int .i64 flips, .int .i64 steps, .int .i64 code, .slice bkeys nkeys dkeys, .slice braw nraw draw] ∧ Below w.heap.size w W) ⟨(Blk.new w _ _ _ rfl).alloc _, Blk.new _ _ _ _ (by simp [go_sem]), ((Below.refl _ _).alloc (Nat.le_refl _) _).alloc (by simp [go_sem]) _⟩ ?_
  rintro W ⟨h0, h1, hb⟩
  have G0 := Lib.hid h0
  have G1 := Lib.hid h1
  have HB := Lib.hid hb
  clear hb
  have p0 := h0.get 0; have q0 := h1.get 0
  have p1 := h0.get 1; have q1 := h1.get 1
  have p2 := h0.get 2; have q2 := h1.get 2
  have p3 := h0.get 3; have q3 := h1.get 3
  have p4 := h0.get 4; have q4 := h1.get 4
  have p5 := h0.get 5; have q5 := h1.get 5
  have p6 := h0.get 6; have q6 := h1.get 6
  have p7 := h0.get 7; have q7 := h1.get 7
  have p8 := h0.get 8; have q8 := h1.get 8
  have p9 := h0.get 9; have q9 := h1.get 9
  have p10 := h0.get 10; have q10 := h1.get 10
  have p11 := h0.get 11; have q11 := h1.get 11
  have p12 := h0.get 12; have q12 := h1.get 12
  have p13 := h0.get 13; have q13 := h1.get 13
  have p14 := h0.get 14; have q14 := h1.get 14
  have p15 := h0.get 15; have q15 := h1.get 15
  have p16 := h0.get 16; have q16 := h1.get 16
  have p17 := h0.get 17; have q17 := h1.get 17
  simp at p0 q0 p1 q1 p2 q2 p3 q3 p4 q4 p5 q5 p6 q6 p7 q7 p8 q8 p9 q9 p10 q10 p11 q11 p12 q12 p13 q13 p14 q14 p15 q15 p16 q16 p17 q17
  clear h0 h1
  go_wp2_with fail
  refine (HT _).out.mono ?_
  rintro e w2 ⟨rfl, hb2⟩
  have h0 := G0.out.below hb2
  have h1 := G1.out.below hb2
  have hb := HB.out.trans (hb2.mono HB.out.size)
  clear G0 G1 HB hb2 p0 q0 p1 q1 p2 q2 p3 q3 p4 q4 p5 q5 p6 q6 p7 q7 p8 q8 p9 q9 p10 q10 p11 q11 p12 q12 p13 q13 p14 q14 p15 q15 p16 q16 p17 q17
  have G0 := Lib.hid h0
  have G1 := Lib.hid h1
  have HB := Lib.hid hb
  clear hb W
  have p0 := h0.get 0; have q0 := h1.get 0
  have p1 := h0.get 1; have q1 := h1.get 1
  have p2 := h0.get 2; have q2 := h1.get 2
  have p3 := h0.get 3; have q3 := h1.get 3
  have p4 := h0.get 4; have q4 := h1.get 4
  have p5 := h0.get 5; have q5 := h1.get 5
  have p6 := h0.get 6; have q6 := h1.get 6
  have p7 := h0.get 7; have q7 := h1.get 7
  have p8 := h0.get 8; have q8 := h1.get 8
  have p9 := h0.get 9; have q9 := h1.get 9
  have p10 := h0.get 10; have q10 := h1.get 10
  have p11 := h0.get 11; have q11 := h1.get 11
  have p12 := h0.get 12; have q12 := h1.get 12
  have p13 := h0.get 13; have q13 := h1.get 13
  have p14 := h0.get 14; have q14 := h1.get 14
  have p15 := h0.get 15; have q15 := h1.get 15
  have p16 := h0.get 16; have q16 := h1.get 16
  have p17 := h0.get 17; have q17 := h1.get 17
  simp at p0 q0 p1 q1 p2 q2 p3 q3 p4 q4 p5 q5 p6 q6 p7 q7 p8 q8 p9 q9 p10 q10 p11 q11 p12 q12 p13 q13 p14 q14 p15 q15 p16 q16 p17 q17
  clear h0 h1
  generalize w2 = W at *
  go_wp2_with fail
  refine (Ekeys _ (Hkeys.out.below HB.out) (Kkeys.out.below HB.out)).out.mono ?_
  rintro e w2 ⟨rfl, hb2⟩
  have h0 := G0.out.below hb2
  have h1 := G1.out.below hb2
  have hb := HB.out.trans (hb2.mono HB.out.size)
  clear G0 G1 HB hb2 p0 q0 p1 q1 p2 q2 p3 q3 p4 q4 p5 q5 p6 q6 p7 q7 p8 q8 p9 q9 p10 q10 p11 q11 p12 q12 p13 q13 p14 q14 p15 q15 p16 q16 p17 q17
  have G0 := Lib.hid h0
  have G1 := Lib.hid h1
  have HB := Lib.hid hb
  clear hb W
  have p0 := h0.get 0; have q0 := h1.get 0
  have p1 := h0.get 1; have q1 := h1.get 1
  have p2 := h0.get 2; have q2 := h1.get 2
  have p3 := h0.get 3; have q3 := h1.get 3
  have p4 := h0.get 4; have q4 := h1.get 4
  have p5 := h0.get 5; have q5 := h1.get 5
  have p6 := h0.get 6; have q6 := h1.get 6
  have p7 := h0.get 7; have q7 := h1.get 7
  have p8 := h0.get 8; have q8 := h1.get 8
  have p9 := h0.get 9; have q9 := h1.get 9
  have p10 := h0.get 10; have q10 := h1.get 10
  have p11 := h0.get 11; have q11 := h1.get 11
  have p12 := h0.get 12; have q12 := h1.get 12
  have p13 := h0.get 13; have q13 := h1.get 13
  have p14 := h0.get 14; have q14 := h1.get 14
  have p15 := h0.get 15; have q15 := h1.get 15
  have p16 := h0.get 16; have q16 := h1.get 16
  have p17 := h0.get 17; have q17 := h1.get 17
  simp at p0 q0 p1 q1 p2 q2 p3 q3 p4 q4 p5 q5 p6 q6 p7 q7 p8 q8 p9 q9 p10 q10 p11 q11 p12 q12 p13 q13 p14 q14 p15 q15 p16 q16 p17 q17
  clear h0 h1
  generalize w2 = W at *
  go_wp2_with fail
  refine (Eraw _ (Hraw.out.below HB.out) (Kraw.out.below HB.out)).out.mono ?_
  rintro e w2 ⟨rfl, hb2⟩
  have h0 := G0.out.below hb2
  have h1 := G1.out.below hb2
  have hb := HB.out.trans (hb2.mono HB.out.size)
  clear G0 G1 HB hb2 p0 q0 p1 q1 p2 q2 p3 q3 p4 q4 p5 q5 p6 q6 p7 q7 p8 q8 p9 q9 p10 q10 p11 q11 p12 q12 p13 q13 p14 q14 p15 q15 p16 q16 p17 q17
  have G0 := Lib.hid h0
  have G1 := Lib.hid h1
  have HB := Lib.hid hb
  clear hb W
  have p0 := h0.get 0; have q0 := h1.get 0
  have p1 := h0.get 1; have q1 := h1.get 1
  have p2 := h0.get 2; have q2 := h1.get 2
  have p3 := h0.get 3; have q3 := h1.get 3
  have p4 := h0.get 4; have q4 := h1.get 4
  have p5 := h0.get 5; have q5 := h1.get 5
  have p6 := h0.get 6; have q6 := h1.get 6
  have p7 := h0.get 7; have q7 := h1.get 7
  have p8 := h0.get 8; have q8 := h1.get 8
  have p9 := h0.get 9; have q9 := h1.get 9
  have p10 := h0.get 10; have q10 := h1.get 10
  have p11 := h0.get 11; have q11 := h1.get 11
  have p12 := h0.get 12; have q12 := h1.get 12
  have p13 := h0.get 13; have q13 := h1.get 13
  have p14 := h0.get 14; have q14 := h1.get 14
  have p15 := h0.get 15; have q15 := h1.get 15
  have p16 := h0.get 16; have q16 := h1.get 16
  have p17 := h0.get 17; have q17 := h1.get 17
  simp at p0 q0 p1 q1 p2 q2 p3 q3 p4 q4 p5 q5 p6 q6 p7 q7 p8 q8 p9 q9 p10 q10 p11 q11 p12 q12 p13 q13 p14 q14 p15 q15 p16 q16 p17 q17
  clear h0 h1
  generalize w2 = W at *
  go_wp2_with fail
  go_ret
  exact ⟨rfl, HB.out⟩
set_option maxRecDepth 100000 in
set_option maxHeartbeats 2000000 in
theorem eqJobS_same (w : World) (v u : Value) (l : List J) (h : ArgT 18 jobDat zeroJ w v l) (k : ArgT 18 jobDat zeroJ w u l) : Calls Try.prog 34 #[v, u] w (Gives (.bool true) w) := by
  obtain ⟨A, cap, rfl, h1, h2, h3⟩ := h
  obtain ⟨A', cap', rfl, k1, k2, k3⟩ := k
  generalize hn : l.length = n at *
  clear hn
  unfold maxLen at h2 k2
  have H4 := Lib.hid h3
  have K4 := Lib.hid k3
  clear h3 k3
  go_enter Try.func34, Try.ntmps34
  go_wp2_with fail
  go_loopw [5] (fun i wr => ∃ j : Nat, j ≤ n ∧ i = .int .i64 j ∧ Below w.heap.size w wr) (fun i _ => n - (intOf i).toNat)
  case atStart => exact ⟨0, Nat.zero_le _, rfl, Below.refl _ _⟩
  case round =>
    obtain ⟨j, hj, rfl, hbl⟩ := hrel
    by_cases hlt : j < n
    · obtain ⟨b, off, rfl, hb, hc⟩ := H4.out (by omega)
      obtain ⟨b', off', rfl, hb', hc'⟩ := K4.out (by omega)
      obtain ⟨vkeys, vraw, hr1, hi1⟩ := job_at (hc j hlt)
      obtain ⟨ukeys, uraw, hr2, hi2⟩ := job_at (hc' j hlt)
      have HR := fun W (hW : Below w.heap.size w W) => Lib.hid (eqJob_same W (l.getD j zeroJ) vkeys vraw ukeys uraw (jobIn_below hi1 hW) (jobIn_below hi2 hW))
      have HP := Lib.hid hr1
      have HP' := Lib.hid hr2
      have HS := Lib.hid (show Below w.heap.size w wr.drew from hbl.trans (below_drew _ _))
      clear hc hc' hbl hr1 hr2 hi1 hi2
      generalize l.getD j zeroJ = r at *
      have hjn : (j : Int) < (n : Int) := by omega
      have hu := Try.underlying86
      go_wp2_with fail
      have HCL := (⟨HS.out⟩ : HoldsC (fun W => Below w.heap.size w W) _)
      have hall : ∀ p : Prop, (∀ W, HoldsC (fun W => Below w.heap.size w W) W → p) ↔ p := fun p => ⟨fun h => h _ HCL, fun h _ _ => h⟩
      refine wp_region_wq (C := HoldsC (fun W => Below w.heap.size w W)) (by kernel_rfl) (by kernel_rfl) HCL ?_
      repeat (first | (refine WQ.loadMid rfl 86 _ rfl b (off + j * 18) rfl (jobVals r vkeys vraw).toList _ (fun W hW => range_below HP.out hb hW.out) hu rfl (by kernel_rfl) ?_) | (refine WQ.loadMid rfl 86 _ rfl b' (off' + j * 18) rfl (jobVals r ukeys uraw).toList _ (fun W hW => range_below HP'.out hb' hW.out) hu rfl (by kernel_rfl) ?_) | (refine WQ.step (fun K hK => ?_); go_simp; first | (refine hK _ ?_; clear hK K) | (apply Exists.intro; refine ⟨fun W hW => ?_, hK _ ?_⟩; (focus (first | (go_at_call 50; (with_reducible refine Calls.mono (Hid.out (HR _ hW.out)) ?_); rintro e w' ⟨rfl, hb'⟩; exact ⟨rfl, ⟨hW.out.trans (hb'.mono hW.out.size)⟩⟩) | exact rfl | (obtain hB := hW.out; go_simp; rfl))); clear hK K)))
      refine WQ.nil ?_
      intro W hW
      clear hall HCL
      have HB := Lib.hid hW.out
      clear hW
      go_wp2_with fail
      go_roundw
      case rel => exact ⟨j + 1, by omega, by go_num, HB.out⟩
      case measure => simp [intOf]; omega
    · have HB := Lib.hid hbl
      clear hbl
      go_wp2_with fail
      go_ret
      exact ⟨rfl, HB.out⟩
end Go.Proofs.Ytcfdnfckilpppaa
