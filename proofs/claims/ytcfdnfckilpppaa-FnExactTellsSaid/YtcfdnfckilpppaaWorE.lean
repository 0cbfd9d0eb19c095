/-
  The exact laws' comparison of two worlds that are alike.
-/
import Derived.Test.YtcfdnfckilpppaaZc
import Derived.Test.YtcfdnfckilpppaaJobE
import Derived.Test.YtcfdnfckilpppaaEvE
namespace Go.Proofs.Ytcfdnfckilpppaa
open Go.RowKit M
set_option linter.unusedVariables false
set_option linter.unusedSimpArgs false
set_option maxRecDepth 100000 in
set_option maxHeartbeats 4000000 in
theorem eqWorld_same (w : World) (s : S) (vc vj vt vl uc uj ut ul : Value) (h : WorIn w s vc vj vt vl) (k : WorIn w s uc uj ut ul) : Calls Try.prog 11 #[.agg (worVals s vc vj vt vl), .agg (worVals s uc uj ut ul)] w (Gives (.bool true) w) := by
  have HW := Lib.hid h
  have KW := Lib.hid k
  have Cc := fun W h k => Lib.hid (eqIntS_arg W vc uc s.cells h k)
  have Cj := fun W h k => Lib.hid (eqJobS_same W vj uj s.jobs h k)
  have Ct := fun W h k => Lib.hid (eqQueueS_same W vt ut s.todo h k)
  have Cl := fun W h k => Lib.hid (eqEvS_same W vl ul s.log h k)
  obtain ⟨⟨Ac, cc, rfl, _, _, _⟩, ⟨Aj, cj, rfl, _, _, _⟩, ⟨At, ct, rfl, _, _, _⟩, ⟨Al, cl, rfl, _, _, _⟩⟩ := h
  obtain ⟨⟨Bc, dc, rfl, _, _, _⟩, ⟨Bj, dj, rfl, _, _, _⟩, ⟨Bt, dt, rfl, _, _, _⟩, ⟨Bl, dl, rfl, _, _, _⟩⟩ := k
  obtain ⟨cells, jobs, todo, log, serial, now⟩ := s
  unfold worVals
  simp only at *
  generalize hnc : cells.length = nc at *
  generalize hnj : jobs.length = nj at *
  generalize hnt : todo.length = nt at *
  generalize hnl : log.length = nl at *
  clear hnc hnj hnt hnl
  go_enter Try.func11, Try.ntmps11
  go_upto_region 1 with fail
  refine wp_gen (fun W => Blk W w.heap.size 34 #[.slice Ac nc cc, .slice Aj nj cj, .slice At nt ct, .slice Al nl cl, .int .i64 serial, .int .i64 now] ∧ Blk W (w.heap.size + 1) 34 #[.slice Bc nc dc, .slice Bj nj dj, .slice Bt nt dt, .slice Bl nl dl, .int .i64 serial, .int .i64 now] ∧ Below w.heap.size w W) ⟨(Blk.new w _ _ _ rfl).alloc _, Blk.new _ _ _ _ (by simp [go_sem]), ((Below.refl _ _).alloc (Nat.le_refl _) _).alloc (by simp [go_sem]) _⟩ ?_
  rintro W ⟨h0, h1, hb⟩
  have G0 := Lib.hid h0; have G1 := Lib.hid h1; have HB := Lib.hid hb
  clear hb
  have p0 := h0.get 0; have q0 := h1.get 0
  have p1 := h0.get 1; have q1 := h1.get 1
  have p2 := h0.get 2; have q2 := h1.get 2
  have p3 := h0.get 3; have q3 := h1.get 3
  have p4 := h0.get 4; have q4 := h1.get 4
  have p5 := h0.get 5; have q5 := h1.get 5
  simp at p0 q0 p1 q1 p2 q2 p3 q3 p4 q4 p5 q5
  clear h0 h1
  go_wp2_with fail
  refine (Cc _ (HW.out.below HB.out).c (KW.out.below HB.out).c).out.mono ?_
  rintro e w2 ⟨rfl, hb2⟩
  have h0 := G0.out.below hb2; have h1 := G1.out.below hb2; have hb := HB.out.trans (hb2.mono HB.out.size)
  clear G0 G1 HB hb2 p0 q0 p1 q1 p2 q2 p3 q3 p4 q4 p5 q5
  have G0 := Lib.hid h0; have G1 := Lib.hid h1; have HB := Lib.hid hb
  clear hb W
  have p0 := h0.get 0; have q0 := h1.get 0
  have p1 := h0.get 1; have q1 := h1.get 1
  have p2 := h0.get 2; have q2 := h1.get 2
  have p3 := h0.get 3; have q3 := h1.get 3
  have p4 := h0.get 4; have q4 := h1.get 4
  have p5 := h0.get 5; have q5 := h1.get 5
  simp at p0 q0 p1 q1 p2 q2 p3 q3 p4 q4 p5 q5
  clear h0 h1
  generalize w2 = W at *
  go_wp2_with fail
  refine (Cj _ (HW.out.below HB.out).j (KW.out.below HB.out).j).out.mono ?_
  rintro e w2 ⟨rfl, hb2⟩
  have h0 := G0.out.below hb2; have h1 := G1.out.below hb2; have hb := HB.out.trans (hb2.mono HB.out.size)
  clear G0 G1 HB hb2 p0 q0 p1 q1 p2 q2 p3 q3 p4 q4 p5 q5
  have G0 := Lib.hid h0; have G1 := Lib.hid h1; have HB := Lib.hid hb
  clear hb W
  have p0 := h0.get 0; have q0 := h1.get 0
  have p1 := h0.get 1; have q1 := h1.get 1
  have p2 := h0.get 2; have q2 := h1.get 2
  have p3 := h0.get 3; have q3 := h1.get 3
  have p4 := h0.get 4; have q4 := h1.get 4
  have p5 := h0.get 5; have q5 := h1.get 5
  simp at p0 q0 p1 q1 p2 q2 p3 q3 p4 q4 p5 q5
  clear h0 h1
  generalize w2 = W at *
  go_wp2_with fail
  refine (Ct _ (HW.out.below HB.out).t (KW.out.below HB.out).t).out.mono ?_
  rintro e w2 ⟨rfl, hb2⟩
  have h0 := G0.out.below hb2; have h1 := G1.out.below hb2; have hb := HB.out.trans (hb2.mono HB.out.size)
  clear G0 G1 HB hb2 p0 q0 p1 q1 p2 q2 p3 q3 p4 q4 p5 q5
  have G0 := Lib.hid h0; have G1 := Lib.hid h1; have HB := Lib.hid hb
  clear hb W
  have p0 := h0.get 0; have q0 := h1.get 0
  have p1 := h0.get 1; have q1 := h1.get 1
  have p2 := h0.get 2; have q2 := h1.get 2
  have p3 := h0.get 3; have q3 := h1.get 3
  have p4 := h0.get 4; have q4 := h1.get 4
  have p5 := h0.get 5; have q5 := h1.get 5
  simp at p0 q0 p1 q1 p2 q2 p3 q3 p4 q4 p5 q5
  clear h0 h1
  generalize w2 = W at *
  go_wp2_with fail
  refine (Cl _ (HW.out.below HB.out).l (KW.out.below HB.out).l).out.mono ?_
  rintro e w2 ⟨rfl, hb2⟩
  have h0 := G0.out.below hb2; have h1 := G1.out.below hb2; have hb := HB.out.trans (hb2.mono HB.out.size)
  clear G0 G1 HB hb2 p0 q0 p1 q1 p2 q2 p3 q3 p4 q4 p5 q5
  have G0 := Lib.hid h0; have G1 := Lib.hid h1; have HB := Lib.hid hb
  clear hb W
  have p0 := h0.get 0; have q0 := h1.get 0
  have p1 := h0.get 1; have q1 := h1.get 1
  have p2 := h0.get 2; have q2 := h1.get 2
  have p3 := h0.get 3; have q3 := h1.get 3
  have p4 := h0.get 4; have q4 := h1.get 4
  have p5 := h0.get 5; have q5 := h1.get 5
  simp at p0 q0 p1 q1 p2 q2 p3 q3 p4 q4 p5 q5
  clear h0 h1
  generalize w2 = W at *
  go_wp2_with fail
  go_ret
  exact ⟨rfl, HB.out⟩
end Go.Proofs.Ytcfdnfckilpppaa
