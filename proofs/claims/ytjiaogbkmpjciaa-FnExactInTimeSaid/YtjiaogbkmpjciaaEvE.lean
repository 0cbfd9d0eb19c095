/-
  The exact laws' comparison of the record Ev, alike ones; of rows of it.
-/
import Derived.Test.YtjiaogbkmpjciaaZc
import Derived.Test.YtjiaogbkmpjciaaZa
import Derived.Test.YtjiaogbkmpjciaaJobE
namespace Go.Proofs.Ytjiaogbkmpjciaa
open Go.RowKit M
set_option linter.unusedVariables false
set_option linter.unusedSimpArgs false
set_option maxRecDepth 100000 in
set_option maxHeartbeats 8000000 in
theorem eqEv_same (w : World) (r : E) (vrows urows : Value) (h : evIn w r vrows) (k : evIn w r urows) : Calls Try.prog 35 #[.agg (evVals r vrows), .agg (evVals r urows)] w (Gives (.bool true) w) := by
  have hrows := h
  have krows := k
  clear h k
  have Erows := fun W h k => Lib.hid (eqRowS_same W vrows urows r.rows h k)
  have Hrows := Lib.hid hrows
  have Krows := Lib.hid krows
  obtain ⟨arows, crows, rfl, _, _, _⟩ := hrows
  obtain ⟨brows, drows, rfl, _, _, _⟩ := krows
  have HT := fun W => Lib.hid (eqOp_same W r.op)
  obtain ⟨kind, who, serial, at_, ⟨op_kind, op_key, op_what, op_val⟩, code, win, steps, flips, rows⟩ := r
  unfold O.v at HT
  simp only at *
  generalize hnrows : rows.length = nrows at *
  clear hnrows
  unfold evVals
  simp only
  go_enter Try.func35, Try.ntmps35
  go_upto_region 1 with fail
  refine wp_gen (fun W => Blk W w.heap.size 47 #[.int .i64 kind, .int .i64 who, .int .i64 serial, .int .i64 at_, .int .i64 op_kind, .string op_key, .int .i64 op_what, .int .i64 op_val, .int .i64 code, .int .i64 win, .int .i64 steps, .int .i64 flips, .slice arows nrows crows] ∧ Blk W (w.heap.size + 1) 47 #[.int .i64 kind, .int .i64 who, .int .i64 serial, .int .i64 at_, .int .i64 op_kind, .string op_key, .int .i64 op_what, .int .i64 op_val, .int .i64 code, .int .i64 win, .int .i64 steps, .int .i64 flips, .slice brows nrows drows] ∧ Below w.heap.size w W) ⟨(Blk.new w _ _ _ rfl).alloc _, Blk.new _ _ _ _ (by simp [go_sem]), ((Below.refl _ _).alloc (Nat.le_refl _) _).alloc (by simp [go_sem]) _⟩ ?_
  rintro W ⟨h0, h1, hb⟩
  have G0 := Lib.hid h0
  have G1 := Lib.hid h1
  have HB := Lib.hid hb
  clear hb
  have p0 := h0.get 0; have q0 := h1.get 0
  have p1 := h0.get 1; have q1 := h1.get 1
  have p2 := h0.get 2; have q2 := h1.get 2
  have p3 := h0.get 3; have q3 := h1.get 3
  have p4 := h0.get 4; have q4 := h1.get 4
  have p5 := h0.get 5; have q5 := h1.get 5
  have p6 := h0.get 6; have q6 := h1.get 6
  have p7 := h0.get 7; have q7 := h1.get 7
  have p8 := h0.get 8; have q8 := h1.get 8
  have p9 := h0.get 9; have q9 := h1.get 9
  have p10 := h0.get 10; have q10 := h1.get 10
  have p11 := h0.get 11; have q11 := h1.get 11
  have p12 := h0.get 12; have q12 := h1.get 12
  simp at p0 q0 p1 q1 p2 q2 p3 q3 p4 q4 p5 q5 p6 q6 p7 q7 p8 q8 p9 q9 p10 q10 p11 q11 p12 q12
  clear h0 h1
  go_wp2_with fail
  refine (HT _).out.mono ?_
  rintro e w2 ⟨rfl, hb2⟩
  have h0 := G0.out.below hb2
  have h1 := G1.out.below hb2
  have hb := HB.out.trans (hb2.mono HB.out.size)
  clear G0 G1 HB hb2 p0 q0 p1 q1 p2 q2 p3 q3 p4 q4 p5 q5 p6 q6 p7 q7 p8 q8 p9 q9 p10 q10 p11 q11 p12 q12
  have G0 := Lib.hid h0
  have G1 := Lib.hid h1
  have HB := Lib.hid hb
  clear hb W
  have p0 := h0.get 0; have q0 := h1.get 0
  have p1 := h0.get 1; have q1 := h1.get 1
  have p2 := h0.get 2; have q2 := h1.get 2
  have p3 := h0.get 3; have q3 := h1.get 3
  have p4 := h0.get 4; have q4 := h1.get 4
  have p5 := h0.get 5; have q5 := h1.get 5
  have p6 := h0.get 6; have q6 := h1.get 6
  have p7 := h0.get 7; have q7 := h1.get 7
  have p8 := h0.get 8; have q8 := h1.get 8
  have p9 := h0.get 9; have q9 := h1.get 9
  have p10 := h0.get 10; have q10 := h1.get 10
  have p11 := h0.get 11; have q11 := h1.get 11
  have p12 := h0.get 12; have q12 := h1.get 12
  simp at p0 q0 p1 q1 p2 q2 p3 q3 p4 q4 p5 q5 p6 q6 p7 q7 p8 q8 p9 q9 p10 q10 p11 q11 p12 q12
  clear h0 h1
  generalize w2 = W at *
  go_wp2_with fail
  refine (Erows _ (Hrows.out.below HB.out) (Krows.out.below HB.out)).out.mono ?_
  rintro e w2 ⟨rfl, hb2⟩
  have h0 := G0.out.below hb2
  have h1 := G1.out.below hb2
  have hb := HB.out.trans (hb2.mono HB.out.size)
  clear G0 G1 HB hb2 p0 q0 p1 q1 p2 q2 p3 q3 p4 q4 p5 q5 p6 q6 p7 q7 p8 q8 p9 q9 p10 q10 p11 q11 p12 q12
  have G0 := Lib.hid h0
  have G1 := Lib.hid h1
  have HB := Lib.hid hb
  clear hb W
  have p0 := h0.get 0; have q0 := h1.get 0
  have p1 := h0.get 1; have q1 := h1.get 1
  have p2 := h0.get 2; have q2 := h1.get 2
  have p3 := h0.get 3; have q3 := h1.get 3
  have p4 := h0.get 4; have q4 := h1.get 4
  have p5 := h0.get 5; have q5 := h1.get 5
  have p6 := h0.get 6; have q6 := h1.get 6
  have p7 := h0.get 7; have q7 := h1.get 7
  have p8 := h0.get 8; have q8 := h1.get 8
  have p9 := h0.get 9; have q9 := h1.get 9
  have p10 := h0.get 10; have q10 := h1.get 10
  have p11 := h0.get 11; have q11 := h1.get 11
  have p12 := h0.get 12; have q12 := h1.get 12
  simp at p0 q0 p1 q1 p2 q2 p3 q3 p4 q4 p5 q5 p6 q6 p7 q7 p8 q8 p9 q9 p10 q10 p11 q11 p12 q12
  clear h0 h1
  generalize w2 = W at *
  go_wp2_with fail
  go_ret
  exact ⟨rfl, HB.out⟩
set_option maxRecDepth 100000 in
set_option maxHeartbeats 2000000 in
theorem eqEvS_same (w : World) (v u : Value) (l : List E) (h : ArgT 13 evDat zeroE w v l) (k : ArgT 13 evDat zeroE w u l) : Calls Try.prog 14 #[v, u] w (Gives (.bool true) w) := by
  obtain ⟨A, cap, rfl, h1, h2, h3⟩ := h
  obtain ⟨A', cap', rfl, k1, k2, k3⟩ := k
  generalize hn : l.length = n at *
  clear hn
  unfold maxLen at h2 k2
  have H4 := Lib.hid h3
  have K4 := Lib.hid k3
  clear h3 k3
  go_enter Try.func14, Try.ntmps14
  go_wp2_with fail
  go_loopw [5] (fun i wr => ∃ j : Nat, j ≤ n ∧ i = .int .i64 j ∧ Below w.heap.size w wr) (fun i _ => n - (intOf i).toNat)
  case atStart => exact ⟨0, Nat.zero_le _, rfl, Below.refl _ _⟩
  case round =>
    obtain ⟨j, hj, rfl, hbl⟩ := hrel
    by_cases hlt : j < n
    · obtain ⟨b, off, rfl, hb, hc⟩ := H4.out (by omega)
      obtain ⟨b', off', rfl, hb', hc'⟩ := K4.out (by omega)
      obtain ⟨vrows, hr1, hi1⟩ := ev_at (hc j hlt)
      obtain ⟨urows, hr2, hi2⟩ := ev_at (hc' j hlt)
      have HR := fun W (hW : Below w.heap.size w W) => Lib.hid (eqEv_same W (l.getD j zeroE) vrows urows (evIn_below hi1 hW) (evIn_below hi2 hW))
      have HP := Lib.hid hr1
      have HP' := Lib.hid hr2
      have HS := Lib.hid (show Below w.heap.size w wr.drew from hbl.trans (below_drew _ _))
      clear hc hc' hbl hr1 hr2 hi1 hi2
      generalize l.getD j zeroE = r at *
      have hjn : (j : Int) < (n : Int) := by omega
      have hu := Try.underlying47
      go_wp2_with fail
      have HCL := (⟨HS.out⟩ : HoldsC (fun W => Below w.heap.size w W) _)
      have hall : ∀ p : Prop, (∀ W, HoldsC (fun W => Below w.heap.size w W) W → p) ↔ p := fun p => ⟨fun h => h _ HCL, fun h _ _ => h⟩
      refine wp_region_wq (C := HoldsC (fun W => Below w.heap.size w W)) (by kernel_rfl) (by kernel_rfl) HCL ?_
      repeat (first | (refine WQ.loadMid rfl 47 _ rfl b (off + j * 13) rfl (evVals r vrows).toList _ (fun W hW => range_below HP.out hb hW.out) hu rfl (by kernel_rfl) ?_) | (refine WQ.loadMid rfl 47 _ rfl b' (off' + j * 13) rfl (evVals r urows).toList _ (fun W hW => range_below HP'.out hb' hW.out) hu rfl (by kernel_rfl) ?_) | (refine WQ.step (fun K hK => ?_); go_simp; first | (refine hK _ ?_; clear hK K) | (apply Exists.intro; refine ⟨fun W hW => ?_, hK _ ?_⟩; (focus (first | (go_at_call 35; (with_reducible refine Calls.mono (Hid.out (HR _ hW.out)) ?_); rintro e w' ⟨rfl, hb'⟩; exact ⟨rfl, ⟨hW.out.trans (hb'.mono hW.out.size)⟩⟩) | exact rfl | (obtain hB := hW.out; go_simp; rfl))); clear hK K)))
      refine WQ.nil ?_
      intro W hW
      clear hall HCL
      have HB := Lib.hid hW.out
      clear hW
      go_wp2_with fail
      go_roundw
      case rel => exact ⟨j + 1, by omega, by go_num, HB.out⟩
      case measure => simp [intOf]; omega
    · have HB := Lib.hid hbl
      clear hbl
      go_wp2_with fail
      go_ret
      exact ⟨rfl, HB.out⟩
end Go.Proofs.Ytjiaogbkmpjciaa
