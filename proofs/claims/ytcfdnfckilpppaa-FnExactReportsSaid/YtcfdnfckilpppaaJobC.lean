/-
  The exact laws' copy of the record Job.
-/
import Derived.Test.YtcfdnfckilpppaaZb
import Derived.Test.YtcfdnfckilpppaaOpC
import Derived.Test.YtcfdnfckilpppaaZa
import Derived.Test.YtcfdnfckilpppaaRwsC
namespace Go.Proofs.Ytcfdnfckilpppaa
open Go.RowKit M
set_option linter.unusedVariables false
set_option linter.unusedSimpArgs false
set_option maxRecDepth 100000 in
set_option maxHeartbeats 8000000 in
theorem toJob_any (w : World) (r : J) (vkeys vraw : Value) (h : jobIn w r vkeys vraw) (hlkeys : r.keys.length ≤ 1048576) (hlraw : r.raw.length ≤ 1048576) : Calls Try.prog 47 #[.agg (jobVals r vkeys vraw)] w (MadeJob w r) := by
  obtain ⟨hkeys, hraw⟩ := h
  have Hkeys := fun W h => Lib.hid (toIntS_any W vkeys r.keys h hlkeys)
  have Akeys := Lib.hid hkeys
  obtain ⟨akeys, ckeys, rfl, _, _, _⟩ := hkeys
  have Hraw := fun W h => Lib.hid (toIntS_any W vraw r.raw h hlraw)
  have Araw := Lib.hid hraw
  obtain ⟨araw, craw, rfl, _, _, _⟩ := hraw
  have HT := fun W => Lib.hid (toOp_any W r.op)
  clear hlkeys hlraw
  obtain ⟨busy, ⟨op_kind, op_key, op_what, op_val⟩, serial, pc, k, slot, what, e, stamp, old, flips, steps, code, keys, raw⟩ := r
  unfold O.v at HT
  simp only at *
  generalize hnkeys : keys.length = nkeys at *
  have HNkeys := Lib.hid hnkeys
  clear hnkeys
  generalize hnraw : raw.length = nraw at *
  have HNraw := Lib.hid hnraw
  clear hnraw
  unfold jobVals
  simp only
  go_enter Try.func47, Try.ntmps47
  go_upto_region 2 with fail
  refine wp_gen (fun W => Blk W w.heap.size 80 #[.bool busy, .int .i64 op_kind, .string op_key, .int .i64 op_what, .int .i64 op_val, .int .i64 serial, .int .i64 pc, .int .i64 k, .int .i64 slot, .int .i64 what, .int .i64 e, .int .i64 stamp, .int .i64 old, .int .i64 flips, .int .i64 steps, .int .i64 code, .slice akeys nkeys ckeys, .slice araw nraw craw] ∧ Blk W (w.heap.size + 1) 86 #[.bool false, .int .i64 0, .string ⟨#[]⟩, .int .i64 0, .int .i64 0, .int .i64 0, .int .i64 0, .int .i64 0, .int .i64 0, .int .i64 0, .int .i64 0, .int .i64 0, .int .i64 0, .int .i64 0, .int .i64 0, .int .i64 0, .slice none 0 0, .slice none 0 0] ∧ Blk W (w.heap.size + 2) 86 #[.bool false, .int .i64 0, .string ⟨#[]⟩, .int .i64 0, .int .i64 0, .int .i64 0, .int .i64 0, .int .i64 0, .int .i64 0, .int .i64 0, .int .i64 0, .int .i64 0, .int .i64 0, .int .i64 0, .int .i64 0, .int .i64 0, .slice none 0 0, .slice none 0 0] ∧ Heap W (w.heap.size + 3) [] ∧ Below w.heap.size w W)
    ⟨((Blk.new w _ _ _ rfl).alloc _).alloc _, (Blk.new _ _ _ _ (by simp [go_sem])).alloc _, Blk.new _ _ _ _ (by simp [go_sem]), Heap.nil _ _, (((Below.refl _ _).alloc (Nat.le_refl _) _).alloc (by simp [go_sem]) _).alloc (by simp [go_sem]; omega) _⟩ ?_
  rintro W ⟨h0, h1, h2, h3, hb⟩
  have G0 := Lib.hid h0
  have G1 := Lib.hid h1
  have G2 := Lib.hid h2
  have G3 := Lib.hid h3
  have HB := Lib.hid hb
  have q0 := h0.get 0
  simp at q0
  clear h0 h1 h2 h3 hb
  have z0 := G2.out.get 0
  have f0 := G2.out.frz 0
  simp at z0
  go_upto_region 3 with fail
  refine wp_gen (fun W => Blk W w.heap.size 80 #[.bool busy, .int .i64 op_kind, .string op_key, .int .i64 op_what, .int .i64 op_val, .int .i64 serial, .int .i64 pc, .int .i64 k, .int .i64 slot, .int .i64 what, .int .i64 e, .int .i64 stamp, .int .i64 old, .int .i64 flips, .int .i64 steps, .int .i64 code, .slice akeys nkeys ckeys, .slice araw nraw craw] ∧ Blk W (w.heap.size + 1) 86 #[.bool false, .int .i64 0, .string ⟨#[]⟩, .int .i64 0, .int .i64 0, .int .i64 0, .int .i64 0, .int .i64 0, .int .i64 0, .int .i64 0, .int .i64 0, .int .i64 0, .int .i64 0, .int .i64 0, .int .i64 0, .int .i64 0, .slice none 0 0, .slice none 0 0] ∧ Blk W (w.heap.size + 2) 86 #[.bool busy, .int .i64 0, .string ⟨#[]⟩, .int .i64 0, .int .i64 0, .int .i64 0, .int .i64 0, .int .i64 0, .int .i64 0, .int .i64 0, .int .i64 0, .int .i64 0, .int .i64 0, .int .i64 0, .int .i64 0, .int .i64 0, .slice none 0 0, .slice none 0 0] ∧ Heap W (w.heap.size + 3) [] ∧ Below w.heap.size w W)
    ⟨(G0.out.far _ _ _ (by omega)), (G1.out.far _ _ _ (by omega)), (G2.out.store 0 _), heap_set1 G3.out (by omega) G2.out 0 _, (HB.out.setCell (show w.heap.size ≤ w.heap.size + 2 by omega) _)⟩ ?_
  clear z0 f0 q0 G0 G1 G2 G3 HB
  clear W
  rintro W ⟨h0, h1, h2, h3, hb⟩
  have G0 := Lib.hid h0
  have G1 := Lib.hid h1
  have G2 := Lib.hid h2
  have G3 := Lib.hid h3
  have HB := Lib.hid hb
  have q0 := h0.get 1
  have q1 := h0.get 2
  have q2 := h0.get 3
  have q3 := h0.get 4
  simp at q0 q1 q2 q3
  clear h0 h1 h2 h3 hb
  go_wp2_with fail
  refine (HT _).out.mono ?_
  rintro e w2 ⟨rfl, hb2⟩
  replace G0 := Lib.hid (G0.out.below hb2)
  replace G1 := Lib.hid (G1.out.below hb2)
  replace G2 := Lib.hid (G2.out.below hb2)
  replace HB := Lib.hid (HB.out.trans (hb2.mono HB.out.size))
  replace G3 := Lib.hid (G3.out.below hb2)
  clear hb2 q0 q1 q2 q3
  have z0 := G2.out.get 1
  have f0 := G2.out.frz 1
  have z1 := G2.out.get 2
  have f1 := G2.out.frz 2
  have z2 := G2.out.get 3
  have f2 := G2.out.frz 3
  have z3 := G2.out.get 4
  have f3 := G2.out.frz 4
  simp at z0 z1 z2 z3
  go_upto_region 4 with fail
  refine wp_gen (fun W => Blk W w.heap.size 80 #[.bool busy, .int .i64 op_kind, .string op_key, .int .i64 op_what, .int .i64 op_val, .int .i64 serial, .int .i64 pc, .int .i64 k, .int .i64 slot, .int .i64 what, .int .i64 e, .int .i64 stamp, .int .i64 old, .int .i64 flips, .int .i64 steps, .int .i64 code, .slice akeys nkeys ckeys, .slice araw nraw craw] ∧ Blk W (w.heap.size + 1) 86 #[.bool false, .int .i64 0, .string ⟨#[]⟩, .int .i64 0, .int .i64 0, .int .i64 0, .int .i64 0, .int .i64 0, .int .i64 0, .int .i64 0, .int .i64 0, .int .i64 0, .int .i64 0, .int .i64 0, .int .i64 0, .int .i64 0, .slice none 0 0, .slice none 0 0] ∧ Blk W (w.heap.size + 2) 86 #[.bool busy, .int .i64 op_kind, .string op_key, .int .i64 op_what, .int .i64 op_val, .int .i64 0, .int .i64 0, .int .i64 0, .int .i64 0, .int .i64 0, .int .i64 0, .int .i64 0, .int .i64 0, .int .i64 0, .int .i64 0, .int .i64 0, .slice none 0 0, .slice none 0 0] ∧ Heap W (w.heap.size + 3) [] ∧ Below w.heap.size w W)
    ⟨((((G0.out.far _ _ _ (by omega)).far _ _ _ (by omega)).far _ _ _ (by omega)).far _ _ _ (by omega)), ((((G1.out.far _ _ _ (by omega)).far _ _ _ (by omega)).far _ _ _ (by omega)).far _ _ _ (by omega)), ((((G2.out.store 1 _).store 2 _).store 3 _).store 4 _), heap_set1 (heap_set1 (heap_set1 (heap_set1 G3.out (by omega) G2.out 1 _) (by omega) (G2.out.store 1 _) 2 _) (by omega) ((G2.out.store 1 _).store 2 _) 3 _) (by omega) (((G2.out.store 1 _).store 2 _).store 3 _) 4 _, ((((HB.out.setCell (show w.heap.size ≤ w.heap.size + 2 by omega) _).setCell (show w.heap.size ≤ w.heap.size + 2 by omega) _).setCell (show w.heap.size ≤ w.heap.size + 2 by omega) _).setCell (show w.heap.size ≤ w.heap.size + 2 by omega) _)⟩ ?_
  clear z0 z1 z2 z3 f0 f1 f2 f3 G0 G1 G2 G3 HB
  clear w2
  clear W
  rintro W ⟨h0, h1, h2, h3, hb⟩
  have G0 := Lib.hid h0
  have G1 := Lib.hid h1
  have G2 := Lib.hid h2
  have G3 := Lib.hid h3
  have HB := Lib.hid hb
  have q0 := h0.get 5
  simp at q0
  clear h0 h1 h2 h3 hb
  have z0 := G2.out.get 5
  have f0 := G2.out.frz 5
  simp at z0
  go_upto_region 5 with fail
  refine wp_gen (fun W => Blk W w.heap.size 80 #[.bool busy, .int .i64 op_kind, .string op_key, .int .i64 op_what, .int .i64 op_val, .int .i64 serial, .int .i64 pc, .int .i64 k, .int .i64 slot, .int .i64 what, .int .i64 e, .int .i64 stamp, .int .i64 old, .int .i64 flips, .int .i64 steps, .int .i64 code, .slice akeys nkeys ckeys, .slice araw nraw craw] ∧ Blk W (w.heap.size + 1) 86 #[.bool false, .int .i64 0, .string ⟨#[]⟩, .int .i64 0, .int .i64 0, .int .i64 0, .int .i64 0, .int .i64 0, .int .i64 0, .int .i64 0, .int .i64 0, .int .i64 0, .int .i64 0, .int .i64 0, .int .i64 0, .int .i64 0, .slice none 0 0, .slice none 0 0] ∧ Blk W (w.heap.size + 2) 86 #[.bool busy, .int .i64 op_kind, .string op_key, .int .i64 op_what, .int .i64 op_val, .int .i64 serial, .int .i64 0, .int .i64 0, .int .i64 0, .int .i64 0, .int .i64 0, .int .i64 0, .int .i64 0, .int .i64 0, .int .i64 0, .int .i64 0, .slice none 0 0, .slice none 0 0] ∧ Heap W (w.heap.size + 3) [] ∧ Below w.heap.size w W)
    ⟨(G0.out.far _ _ _ (by omega)), (G1.out.far _ _ _ (by omega)), (G2.out.store 5 _), heap_set1 G3.out (by omega) G2.out 5 _, (HB.out.setCell (show w.heap.size ≤ w.heap.size + 2 by omega) _)⟩ ?_
  clear z0 f0 q0 G0 G1 G2 G3 HB
  clear W
  rintro W ⟨h0, h1, h2, h3, hb⟩
  have G0 := Lib.hid h0
  have G1 := Lib.hid h1
  have G2 := Lib.hid h2
  have G3 := Lib.hid h3
  have HB := Lib.hid hb
  have q0 := h0.get 6
  simp at q0
  clear h0 h1 h2 h3 hb
  have z0 := G2.out.get 6
  have f0 := G2.out.frz 6
  simp at z0
  go_upto_region 6 with fail
  refine wp_gen (fun W => Blk W w.heap.size 80 #[.bool busy, .int .i64 op_kind, .string op_key, .int .i64 op_what, .int .i64 op_val, .int .i64 serial, .int .i64 pc, .int .i64 k, .int .i64 slot, .int .i64 what, .int .i64 e, .int .i64 stamp, .int .i64 old, .int .i64 flips, .int .i64 steps, .int .i64 code, .slice akeys nkeys ckeys, .slice araw nraw craw] ∧ Blk W (w.heap.size + 1) 86 #[.bool false, .int .i64 0, .string ⟨#[]⟩, .int .i64 0, .int .i64 0, .int .i64 0, .int .i64 0, .int .i64 0, .int .i64 0, .int .i64 0, .int .i64 0, .int .i64 0, .int .i64 0, .int .i64 0, .int .i64 0, .int .i64 0, .slice none 0 0, .slice none 0 0] ∧ Blk W (w.heap.size + 2) 86 #[.bool busy, .int .i64 op_kind, .string op_key, .int .i64 op_what, .int .i64 op_val, .int .i64 serial, .int .i64 pc, .int .i64 0, .int .i64 0, .int .i64 0, .int .i64 0, .int .i64 0, .int .i64 0, .int .i64 0, .int .i64 0, .int .i64 0, .slice none 0 0, .slice none 0 0] ∧ Heap W (w.heap.size + 3) [] ∧ Below w.heap.size w W)
    ⟨(G0.out.far _ _ _ (by omega)), (G1.out.far _ _ _ (by omega)), (G2.out.store 6 _), heap_set1 G3.out (by omega) G2.out 6 _, (HB.out.setCell (show w.heap.size ≤ w.heap.size + 2 by omega) _)⟩ ?_
  clear z0 f0 q0 G0 G1 G2 G3 HB
  clear W
  rintro W ⟨h0, h1, h2, h3, hb⟩
  have G0 := Lib.hid h0
  have G1 := Lib.hid h1
  have G2 := Lib.hid h2
  have G3 := Lib.hid h3
  have HB := Lib.hid hb
  have q0 := h0.get 7
  simp at q0
  clear h0 h1 h2 h3 hb
  have z0 := G2.out.get 7
  have f0 := G2.out.frz 7
  simp at z0
  go_upto_region 7 with fail
  refine wp_gen (fun W => Blk W w.heap.size 80 #[.bool busy, .int .i64 op_kind, .string op_key, .int .i64 op_what, .int .i64 op_val, .int .i64 serial, .int .i64 pc, .int .i64 k, .int .i64 slot, .int .i64 what, .int .i64 e, .int .i64 stamp, .int .i64 old, .int .i64 flips, .int .i64 steps, .int .i64 code, .slice akeys nkeys ckeys, .slice araw nraw craw] ∧ Blk W (w.heap.size + 1) 86 #[.bool false, .int .i64 0, .string ⟨#[]⟩, .int .i64 0, .int .i64 0, .int .i64 0, .int .i64 0, .int .i64 0, .int .i64 0, .int .i64 0, .int .i64 0, .int .i64 0, .int .i64 0, .int .i64 0, .int .i64 0, .int .i64 0, .slice none 0 0, .slice none 0 0] ∧ Blk W (w.heap.size + 2) 86 #[.bool busy, .int .i64 op_kind, .string op_key, .int .i64 op_what, .int .i64 op_val, .int .i64 serial, .int .i64 pc, .int .i64 k, .int .i64 0, .int .i64 0, .int .i64 0, .int .i64 0, .int .i64 0, .int .i64 0, .int .i64 0, .int .i64 0, .slice none 0 0, .slice none 0 0] ∧ Heap W (w.heap.size + 3) [] ∧ Below w.heap.size w W)
    ⟨(G0.out.far _ _ _ (by omega)), (G1.out.far _ _ _ (by omega)), (G2.out.store 7 _), heap_set1 G3.out (by omega) G2.out 7 _, (HB.out.setCell (show w.heap.size ≤ w.heap.size + 2 by omega) _)⟩ ?_
  clear z0 f0 q0 G0 G1 G2 G3 HB
  clear W
  rintro W ⟨h0, h1, h2, h3, hb⟩
  have G0 := Lib.hid h0
  have G1 := Lib.hid h1
  have G2 := Lib.hid h2
  have G3 := Lib.hid h3
  have HB := Lib.hid hb
  have q0 := h0.get 8
  simp at q0
  clear h0 h1 h2 h3 hb
  have z0 := G2.out.get 8
  have f0 := G2.out.frz 8
  simp at z0
  go_upto_region 8 with fail
  refine wp_gen (fun W => Blk W w.heap.size 80 #[.bool busy, .int .i64 op_kind, .string op_key, .int .i64 op_what, .int .i64 op_val, .int .i64 serial, .int .i64 pc, .int .i64 k, .int .i64 slot, .int .i64 what, .int .i64 e, .int .i64 stamp, .int .i64 old, .int .i64 flips, .int .i64 steps, .int .i64 code, .slice akeys nkeys ckeys, .slice araw nraw craw] ∧ Blk W (w.heap.size + 1) 86 #[.bool false, .int .i64 0, .string ⟨#[]⟩, .int .i64 0, .int .i64 0, .int .i64 0, .int .i64 0, .int .i64 0, .int .i64 0, .int .i64 0, .int .i64 0, .int .i64 0, .int .i64 0, .int .i64 0, .int .i64 0, .int .i64 0, .slice none 0 0, .slice none 0 0] ∧ Blk W (w.heap.size + 2) 86 #[.bool busy, .int .i64 op_kind, .string op_key, .int .i64 op_what, .int .i64 op_val, .int .i64 serial, .int .i64 pc, .int .i64 k, .int .i64 slot, .int .i64 0, .int .i64 0, .int .i64 0, .int .i64 0, .int .i64 0, .int .i64 0, .int .i64 0, .slice none 0 0, .slice none 0 0] ∧ Heap W (w.heap.size + 3) [] ∧ Below w.heap.size w W)
    ⟨(G0.out.far _ _ _ (by omega)), (G1.out.far _ _ _ (by omega)), (G2.out.store 8 _), heap_set1 G3.out (by omega) G2.out 8 _, (HB.out.setCell (show w.heap.size ≤ w.heap.size + 2 by omega) _)⟩ ?_
  clear z0 f0 q0 G0 G1 G2 G3 HB
  clear W
  rintro W ⟨h0, h1, h2, h3, hb⟩
  have G0 := Lib.hid h0
  have G1 := Lib.hid h1
  have G2 := Lib.hid h2
  have G3 := Lib.hid h3
  have HB := Lib.hid hb
  have q0 := h0.get 9
  simp at q0
  clear h0 h1 h2 h3 hb
  have z0 := G2.out.get 9
  have f0 := G2.out.frz 9
  simp at z0
  go_upto_region 9 with fail
  refine wp_gen (fun W => Blk W w.heap.size 80 #[.bool busy, .int .i64 op_kind, .string op_key, .int .i64 op_what, .int .i64 op_val, .int .i64 serial, .int .i64 pc, .int .i64 k, .int .i64 slot, .int .i64 what, .int .i64 e, .int .i64 stamp, .int .i64 old, .int .i64 flips, .int .i64 steps, .int .i64 code, .slice akeys nkeys ckeys, .slice araw nraw craw] ∧ Blk W (w.heap.size + 1) 86 #[.bool false, .int .i64 0, .string ⟨#[]⟩, .int .i64 0, .int .i64 0, .int .i64 0, .int .i64 0, .int .i64 0, .int .i64 0, .int .i64 0, .int .i64 0, .int .i64 0, .int .i64 0, .int .i64 0, .int .i64 0, .int .i64 0, .slice none 0 0, .slice none 0 0] ∧ Blk W (w.heap.size + 2) 86 #[.bool busy, .int .i64 op_kind, .string op_key, .int .i64 op_what, .int .i64 op_val, .int .i64 serial, .int .i64 pc, .int .i64 k, .int .i64 slot, .int .i64 what, .int .i64 0, .int .i64 0, .int .i64 0, .int .i64 0, .int .i64 0, .int .i64 0, .slice none 0 0, .slice none 0 0] ∧ Heap W (w.heap.size + 3) [] ∧ Below w.heap.size w W)
    ⟨(G0.out.far _ _ _ (by omega)), (G1.out.far _ _ _ (by omega)), (G2.out.store 9 _), heap_set1 G3.out (by omega) G2.out 9 _, (HB.out.setCell (show w.heap.size ≤ w.heap.size + 2 by omega) _)⟩ ?_
  clear z0 f0 q0 G0 G1 G2 G3 HB
  clear W
  rintro W ⟨h0, h1, h2, h3, hb⟩
  have G0 := Lib.hid h0
  have G1 := Lib.hid h1
  have G2 := Lib.hid h2
  have G3 := Lib.hid h3
  have HB := Lib.hid hb
  have q0 := h0.get 10
  simp at q0
  clear h0 h1 h2 h3 hb
  have z0 := G2.out.get 10
  have f0 := G2.out.frz 10
  simp at z0
  go_upto_region 10 with fail
  refine wp_gen (fun W => Blk W w.heap.size 80 #[.bool busy, .int .i64 op_kind, .string op_key, .int .i64 op_what, .int .i64 op_val, .int .i64 serial, .int .i64 pc, .int .i64 k, .int .i64 slot, .int .i64 what, .int .i64 e, .int .i64 stamp, .int .i64 old, .int .i64 flips, .int .i64 steps, .int .i64 code, .slice akeys nkeys ckeys, .slice araw nraw craw] ∧ Blk W (w.heap.size + 1) 86 #[.bool false, .int .i64 0, .string ⟨#[]⟩, .int .i64 0, .int .i64 0, .int .i64 0, .int .i64 0, .int .i64 0, .int .i64 0, .int .i64 0, .int .i64 0, .int .i64 0, .int .i64 0, .int .i64 0, .int .i64 0, .int .i64 0, .slice none 0 0, .slice none 0 0] ∧ Blk W (w.heap.size + 2) 86 #[.bool busy, .int .i64 op_kind, .string op_key, .int .i64 op_what, .int .i64 op_val, .int .i64 serial, .int .i64 pc, .int .i64 k, .int .i64 slot, .int .i64 what, .int .i64 e, .int .i64 0, .int .i64 0, .int .i64 0, .int .i64 0, .int .i64 0, .slice none 0 0, .slice none 0 0] ∧ Heap W (w.heap.size + 3) [] ∧ Below w.heap.size w W)
    ⟨(G0.out.far _ _ _ (by omega)), (G1.out.far _ _ _ (by omega)), (G2.out.store 10 _), heap_set1 G3.out (by omega) G2.out 10 _, (HB.out.setCell (show w.heap.size ≤ w.heap.size + 2 by omega) _)⟩ ?_
  clear z0 f0 q0 G0 G1 G2 G3 HB
  clear W
  rintro W ⟨h0, h1, h2, h3, hb⟩
  have G0 := Lib.hid h0
  have G1 := Lib.hid h1
  have G2 := Lib.hid h2
  have G3 := Lib.hid h3
  have HB := Lib.hid hb
  have q0 := h0.get 11
  simp at q0
  clear h0 h1 h2 h3 hb
  have z0 := G2.out.get 11
  have f0 := G2.out.frz 11
  simp at z0
  go_upto_region 11 with fail
  refine wp_gen (fun W => Blk W w.heap.size 80 #[.bool busy, .int .i64 op_kind, .string op_key, .int .i64 op_what, .int .i64 op_val, .int .i64 serial, .int .i64 pc, .int .i64 k, .int .i64 slot, .int .i64 what, .int .i64 e, .int .i64 stamp, .int .i64 old, .int .i64 flips, .int .i64 steps, .int .i64 code, .slice akeys nkeys ckeys, .slice araw nraw craw] ∧ Blk W (w.heap.size + 1) 86 #[.bool false, .int .i64 0, .string ⟨#[]⟩, .int .i64 0, .int .i64 0, .int .i64 0, .int .i64 0, .int .i64 0, .int .i64 0, .int .i64 0, .int .i64 0, .int .i64 0, .int .i64 0, .int .i64 0, .int .i64 0, .int .i64 0, .slice none 0 0, .slice none 0 0] ∧ Blk W (w.heap.size + 2) 86 #[.bool busy, .int .i64 op_kind, .string op_key, .int .i64 op_what, .int .i64 op_val, .int .i64 serial, .int .i64 pc, .int .i64 k, .int .i64 slot, .int .i64 what, .int .i64 e, .int .i64 stamp, .int .i64 0, .int .i64 0, .int .i64 0, .int .i64 0, .slice none 0 0, .slice none 0 0] ∧ Heap W (w.heap.size + 3) [] ∧ Below w.heap.size w W)
    ⟨(G0.out.far _ _ _ (by omega)), (G1.out.far _ _ _ (by omega)), (G2.out.store 11 _), heap_set1 G3.out (by omega) G2.out 11 _, (HB.out.setCell (show w.heap.size ≤ w.heap.size + 2 by omega) _)⟩ ?_
  clear z0 f0 q0 G0 G1 G2 G3 HB
  clear W
  rintro W ⟨h0, h1, h2, h3, hb⟩
  have G0 := Lib.hid h0
  have G1 := Lib.hid h1
  have G2 := Lib.hid h2
  have G3 := Lib.hid h3
  have HB := Lib.hid hb
  have q0 := h0.get 12
  simp at q0
  clear h0 h1 h2 h3 hb
  have z0 := G2.out.get 12
  have f0 := G2.out.frz 12
  simp at z0
  go_upto_region 12 with fail
  refine wp_gen (fun W => Blk W w.heap.size 80 #[.bool busy, .int .i64 op_kind, .string op_key, .int .i64 op_what, .int .i64 op_val, .int .i64 serial, .int .i64 pc, .int .i64 k, .int .i64 slot, .int .i64 what, .int .i64 e, .int .i64 stamp, .int .i64 old, .int .i64 flips, .int .i64 steps, .int .i64 code, .slice akeys nkeys ckeys, .slice araw nraw craw] ∧ Blk W (w.heap.size + 1) 86 #[.bool false, .int .i64 0, .string ⟨#[]⟩, .int .i64 0, .int .i64 0, .int .i64 0, .int .i64 0, .int .i64 0, .int .i64 0, .int .i64 0, .int .i64 0, .int .i64 0, .int .i64 0, .int .i64 0, .int .i64 0, .int .i64 0, .slice none 0 0, .slice none 0 0] ∧ Blk W (w.heap.size + 2) 86 #[.bool busy, .int .i64 op_kind, .string op_key, .int .i64 op_what, .int .i64 op_val, .int .i64 serial, .int .i64 pc, .int .i64 k, .int .i64 slot, .int .i64 what, .int .i64 e, .int .i64 stamp, .int .i64 old, .int .i64 0, .int .i64 0, .int .i64 0, .slice none 0 0, .slice none 0 0] ∧ Heap W (w.heap.size + 3) [] ∧ Below w.heap.size w W)
    ⟨(G0.out.far _ _ _ (by omega)), (G1.out.far _ _ _ (by omega)), (G2.out.store 12 _), heap_set1 G3.out (by omega) G2.out 12 _, (HB.out.setCell (show w.heap.size ≤ w.heap.size + 2 by omega) _)⟩ ?_
  clear z0 f0 q0 G0 G1 G2 G3 HB
  clear W
  rintro W ⟨h0, h1, h2, h3, hb⟩
  have G0 := Lib.hid h0
  have G1 := Lib.hid h1
  have G2 := Lib.hid h2
  have G3 := Lib.hid h3
  have HB := Lib.hid hb
  have q0 := h0.get 13
  simp at q0
  clear h0 h1 h2 h3 hb
  have z0 := G2.out.get 13
  have f0 := G2.out.frz 13
  simp at z0
  go_upto_region 13 with fail
  refine wp_gen (fun W => Blk W w.heap.size 80 #[.bool busy, .int .i64 op_kind, .string op_key, .int .i64 op_what, .int .i64 op_val, .int .i64 serial, .int .i64 pc, .int .i64 k, .int .i64 slot, .int .i64 what, .int .i64 e, .int .i64 stamp, .int .i64 old, .int .i64 flips, .int .i64 steps, .int .i64 code, .slice akeys nkeys ckeys, .slice araw nraw craw] ∧ Blk W (w.heap.size + 1) 86 #[.bool false, .int .i64 0, .string ⟨#[]⟩, .int .i64 0, .int .i64 0, .int .i64 0, .int .i64 0, .int .i64 0, .int .i64 0, .int .i64 0, .int .i64 0, .int .i64 0, .int .i64 0, .int .i64 0, .int .i64 0, .int .i64 0, .slice none 0 0, .slice none 0 0] ∧ Blk W (w.heap.size + 2) 86 #[.bool busy, .int .i64 op_kind, .string op_key, .int .i64 op_what, .int .i64 op_val, .int .i64 serial, .int .i64 pc, .int .i64 k, .int .i64 slot, .int .i64 what, .int .i64 e, .int .i64 stamp, .int .i64 old, .int .i64 flips, .int .i64 0, .int .i64 0, .slice none 0 0, .slice none 0 0] ∧ Heap W (w.heap.size + 3) [] ∧ Below w.heap.size w W)
    ⟨(G0.out.far _ _ _ (by omega)), (G1.out.far _ _ _ (by omega)), (G2.out.store 13 _), heap_set1 G3.out (by omega) G2.out 13 _, (HB.out.setCell (show w.heap.size ≤ w.heap.size + 2 by omega) _)⟩ ?_
  clear z0 f0 q0 G0 G1 G2 G3 HB
  clear W
  rintro W ⟨h0, h1, h2, h3, hb⟩
  have G0 := Lib.hid h0
  have G1 := Lib.hid h1
  have G2 := Lib.hid h2
  have G3 := Lib.hid h3
  have HB := Lib.hid hb
  have q0 := h0.get 14
  simp at q0
  clear h0 h1 h2 h3 hb
  have z0 := G2.out.get 14
  have f0 := G2.out.frz 14
  simp at z0
  go_upto_region 14 with fail
  refine wp_gen (fun W => Blk W w.heap.size 80 #[.bool busy, .int .i64 op_kind, .string op_key, .int .i64 op_what, .int .i64 op_val, .int .i64 serial, .int .i64 pc, .int .i64 k, .int .i64 slot, .int .i64 what, .int .i64 e, .int .i64 stamp, .int .i64 old, .int .i64 flips, .int .i64 steps, .int .i64 code, .slice akeys nkeys ckeys, .slice araw nraw craw] ∧ Blk W (w.heap.size + 1) 86 #[.bool false, .int .i64 0, .string ⟨#[]⟩, .int .i64 0, .int .i64 0, .int .i64 0, .int .i64 0, .int .i64 0, .int .i64 0, .int .i64 0, .int .i64 0, .int .i64 0, .int .i64 0, .int .i64 0, .int .i64 0, .int .i64 0, .slice none 0 0, .slice none 0 0] ∧ Blk W (w.heap.size + 2) 86 #[.bool busy, .int .i64 op_kind, .string op_key, .int .i64 op_what, .int .i64 op_val, .int .i64 serial, .int .i64 pc, .int .i64 k, .int .i64 slot, .int .i64 what, .int .i64 e, .int .i64 stamp, .int .i64 old, .int .i64 flips, .int .i64 steps, .int .i64 0, .slice none 0 0, .slice none 0 0] ∧ Heap W (w.heap.size + 3) [] ∧ Below w.heap.size w W)
    ⟨(G0.out.far _ _ _ (by omega)), (G1.out.far _ _ _ (by omega)), (G2.out.store 14 _), heap_set1 G3.out (by omega) G2.out 14 _, (HB.out.setCell (show w.heap.size ≤ w.heap.size + 2 by omega) _)⟩ ?_
  clear z0 f0 q0 G0 G1 G2 G3 HB
  clear W
  rintro W ⟨h0, h1, h2, h3, hb⟩
  have G0 := Lib.hid h0
  have G1 := Lib.hid h1
  have G2 := Lib.hid h2
  have G3 := Lib.hid h3
  have HB := Lib.hid hb
  have q0 := h0.get 15
  simp at q0
  clear h0 h1 h2 h3 hb
  have z0 := G2.out.get 15
  have f0 := G2.out.frz 15
  simp at z0
  go_upto_region 15 with fail
  refine wp_gen (fun W => Blk W w.heap.size 80 #[.bool busy, .int .i64 op_kind, .string op_key, .int .i64 op_what, .int .i64 op_val, .int .i64 serial, .int .i64 pc, .int .i64 k, .int .i64 slot, .int .i64 what, .int .i64 e, .int .i64 stamp, .int .i64 old, .int .i64 flips, .int .i64 steps, .int .i64 code, .slice akeys nkeys ckeys, .slice araw nraw craw] ∧ Blk W (w.heap.size + 1) 86 #[.bool false, .int .i64 0, .string ⟨#[]⟩, .int .i64 0, .int .i64 0, .int .i64 0, .int .i64 0, .int .i64 0, .int .i64 0, .int .i64 0, .int .i64 0, .int .i64 0, .int .i64 0, .int .i64 0, .int .i64 0, .int .i64 0, .slice none 0 0, .slice none 0 0] ∧ Blk W (w.heap.size + 2) 86 #[.bool busy, .int .i64 op_kind, .string op_key, .int .i64 op_what, .int .i64 op_val, .int .i64 serial, .int .i64 pc, .int .i64 k, .int .i64 slot, .int .i64 what, .int .i64 e, .int .i64 stamp, .int .i64 old, .int .i64 flips, .int .i64 steps, .int .i64 code, .slice none 0 0, .slice none 0 0] ∧ Heap W (w.heap.size + 3) [] ∧ Below w.heap.size w W)
    ⟨(G0.out.far _ _ _ (by omega)), (G1.out.far _ _ _ (by omega)), (G2.out.store 15 _), heap_set1 G3.out (by omega) G2.out 15 _, (HB.out.setCell (show w.heap.size ≤ w.heap.size + 2 by omega) _)⟩ ?_
  clear z0 f0 q0 G0 G1 G2 G3 HB
  clear W
  rintro W ⟨h0, h1, h2, h3, hb⟩
  have G0 := Lib.hid h0
  have G1 := Lib.hid h1
  have G2 := Lib.hid h2
  have G3 := Lib.hid h3
  have HB := Lib.hid hb
  have q0 := h0.get 16
  simp at q0
  have HC := Lib.hid (Hkeys W (Akeys.out.below hb)).out
  clear h0 h1 h2 h3 hb
  go_wp2_with fail
  refine HC.out.mono ?_
  rintro e w2 ⟨u, rfl, ho, hb2⟩
  clear HC
  have hlt3 := G2.out.lt
  have hown : (⟨u, 3, 1, keys.length, (keys.map (Value.int .i64))⟩ : Rw).own w2 (w.heap.size + 3) := Rw.own_base (show (⟨u, 3, 1, keys.length, (keys.map (Value.int .i64))⟩ : Rw).own w2 W.heap.size from ho.1) hlt3
  obtain ⟨Bkeys, dkeys, rfl⟩ : ∃ A c, u = .slice A keys.length c := by
    rcases hown.2 with ⟨e, h0⟩ | ⟨g, cap, cur, e, _⟩
    · have h0 : keys.length = 0 := h0
      exact ⟨none, 0, by rw [h0]; exact e⟩
    · exact ⟨_, cap, e⟩
  rw [HNkeys.out] at hown ⊢
  have HX := Lib.hid (Heap.join (G3.out.below hb2) (Heap.one (r := ⟨.slice Bkeys nkeys dkeys, 3, 1, nkeys, (keys.map (Value.int .i64))⟩) (show (⟨.slice Bkeys nkeys dkeys, 3, 1, nkeys, (keys.map (Value.int .i64))⟩ : Rw).own w2 W.heap.size from by have := (ho.1); rw [HNkeys.out] at this; exact this)) hlt3 (fun r hr b hbk => G3.out.lt hr b hbk))
  clear ho hown hlt3 G3
  replace G0 := Lib.hid (G0.out.below hb2)
  replace G1 := Lib.hid (G1.out.below hb2)
  replace G2 := Lib.hid (G2.out.below hb2)
  replace HB := Lib.hid (HB.out.trans (hb2.mono HB.out.size))
  have G3 := Lib.hid HX.out
  clear hb2 HX q0
  have z0 := G2.out.get 16
  have f0 := G2.out.frz 16
  simp at z0
  go_upto_region 16 with fail
  refine wp_gen (fun W => Blk W w.heap.size 80 #[.bool busy, .int .i64 op_kind, .string op_key, .int .i64 op_what, .int .i64 op_val, .int .i64 serial, .int .i64 pc, .int .i64 k, .int .i64 slot, .int .i64 what, .int .i64 e, .int .i64 stamp, .int .i64 old, .int .i64 flips, .int .i64 steps, .int .i64 code, .slice akeys nkeys ckeys, .slice araw nraw craw] ∧ Blk W (w.heap.size + 1) 86 #[.bool false, .int .i64 0, .string ⟨#[]⟩, .int .i64 0, .int .i64 0, .int .i64 0, .int .i64 0, .int .i64 0, .int .i64 0, .int .i64 0, .int .i64 0, .int .i64 0, .int .i64 0, .int .i64 0, .int .i64 0, .int .i64 0, .slice none 0 0, .slice none 0 0] ∧ Blk W (w.heap.size + 2) 86 #[.bool busy, .int .i64 op_kind, .string op_key, .int .i64 op_what, .int .i64 op_val, .int .i64 serial, .int .i64 pc, .int .i64 k, .int .i64 slot, .int .i64 what, .int .i64 e, .int .i64 stamp, .int .i64 old, .int .i64 flips, .int .i64 steps, .int .i64 code, .slice Bkeys nkeys dkeys, .slice none 0 0] ∧ Heap W (w.heap.size + 3) [⟨.slice Bkeys nkeys dkeys, 3, 1, nkeys, (keys.map (Value.int .i64))⟩] ∧ Below w.heap.size w W)
    ⟨(G0.out.far _ _ _ (by omega)), (G1.out.far _ _ _ (by omega)), (G2.out.store 16 _), heap_set1 G3.out (by omega) G2.out 16 _, (HB.out.setCell (show w.heap.size ≤ w.heap.size + 2 by omega) _)⟩ ?_
  clear z0 f0 G0 G1 G2 G3 HB
  clear w2
  clear W
  rintro W ⟨h0, h1, h2, h3, hb⟩
  have G0 := Lib.hid h0
  have G1 := Lib.hid h1
  have G2 := Lib.hid h2
  have G3 := Lib.hid h3
  have HB := Lib.hid hb
  have q0 := h0.get 17
  simp at q0
  have HC := Lib.hid (Hraw W (Araw.out.below hb)).out
  clear h0 h1 h2 h3 hb
  go_wp2_with fail
  refine HC.out.mono ?_
  rintro e w2 ⟨u, rfl, ho, hb2⟩
  clear HC
  have hlt3 := G2.out.lt
  have hown : (⟨u, 3, 1, raw.length, (raw.map (Value.int .i64))⟩ : Rw).own w2 (w.heap.size + 3) := Rw.own_base (show (⟨u, 3, 1, raw.length, (raw.map (Value.int .i64))⟩ : Rw).own w2 W.heap.size from ho.1) hlt3
  obtain ⟨Braw, draw, rfl⟩ : ∃ A c, u = .slice A raw.length c := by
    rcases hown.2 with ⟨e, h0⟩ | ⟨g, cap, cur, e, _⟩
    · have h0 : raw.length = 0 := h0
      exact ⟨none, 0, by rw [h0]; exact e⟩
    · exact ⟨_, cap, e⟩
  rw [HNraw.out] at hown ⊢
  have HX := Lib.hid (Heap.join (G3.out.below hb2) (Heap.one (r := ⟨.slice Braw nraw draw, 3, 1, nraw, (raw.map (Value.int .i64))⟩) (show (⟨.slice Braw nraw draw, 3, 1, nraw, (raw.map (Value.int .i64))⟩ : Rw).own w2 W.heap.size from by have := (ho.1); rw [HNraw.out] at this; exact this)) hlt3 (fun r hr b hbk => G3.out.lt hr b hbk))
  clear ho hown hlt3 G3
  replace G0 := Lib.hid (G0.out.below hb2)
  replace G1 := Lib.hid (G1.out.below hb2)
  replace G2 := Lib.hid (G2.out.below hb2)
  replace HB := Lib.hid (HB.out.trans (hb2.mono HB.out.size))
  have G3 := Lib.hid HX.out
  clear hb2 HX q0
  have z0 := G2.out.get 17
  have f0 := G2.out.frz 17
  simp at z0
  go_upto_region 17 with fail
  refine wp_gen (fun W => Blk W w.heap.size 80 #[.bool busy, .int .i64 op_kind, .string op_key, .int .i64 op_what, .int .i64 op_val, .int .i64 serial, .int .i64 pc, .int .i64 k, .int .i64 slot, .int .i64 what, .int .i64 e, .int .i64 stamp, .int .i64 old, .int .i64 flips, .int .i64 steps, .int .i64 code, .slice akeys nkeys ckeys, .slice araw nraw craw] ∧ Blk W (w.heap.size + 1) 86 #[.bool false, .int .i64 0, .string ⟨#[]⟩, .int .i64 0, .int .i64 0, .int .i64 0, .int .i64 0, .int .i64 0, .int .i64 0, .int .i64 0, .int .i64 0, .int .i64 0, .int .i64 0, .int .i64 0, .int .i64 0, .int .i64 0, .slice none 0 0, .slice none 0 0] ∧ Blk W (w.heap.size + 2) 86 #[.bool busy, .int .i64 op_kind, .string op_key, .int .i64 op_what, .int .i64 op_val, .int .i64 serial, .int .i64 pc, .int .i64 k, .int .i64 slot, .int .i64 what, .int .i64 e, .int .i64 stamp, .int .i64 old, .int .i64 flips, .int .i64 steps, .int .i64 code, .slice Bkeys nkeys dkeys, .slice Braw nraw draw] ∧ Heap W (w.heap.size + 3) [⟨.slice Bkeys nkeys dkeys, 3, 1, nkeys, (keys.map (Value.int .i64))⟩, ⟨.slice Braw nraw draw, 3, 1, nraw, (raw.map (Value.int .i64))⟩] ∧ Below w.heap.size w W)
    ⟨(G0.out.far _ _ _ (by omega)), (G1.out.far _ _ _ (by omega)), (G2.out.store 17 _), heap_set1 G3.out (by omega) G2.out 17 _, (HB.out.setCell (show w.heap.size ≤ w.heap.size + 2 by omega) _)⟩ ?_
  clear z0 f0 G0 G1 G2 G3 HB
  clear w2
  clear W
  rintro W ⟨h0, h1, h2, h3, hb⟩
  have G1 := Lib.hid h1
  have G2 := Lib.hid h2
  have G3 := Lib.hid h3
  have HB := Lib.hid hb
  have hu := Try.underlying86
  clear h0 h1 h2 h3 hb
  go_wp2_with (first | refine wpList_load_row rfl 86 _ rfl (w.heap.size + 2) rfl 86 #[.bool busy, .int .i64 op_kind, .string op_key, .int .i64 op_what, .int .i64 op_val, .int .i64 serial, .int .i64 pc, .int .i64 k, .int .i64 slot, .int .i64 what, .int .i64 e, .int .i64 stamp, .int .i64 old, .int .i64 flips, .int .i64 steps, .int .i64 code, .slice Bkeys nkeys dkeys, .slice Braw nraw draw] (0, 0) _ G2.out hu rfl (by kernel_rfl) ?_ | refine wpList_store_row rfl 86 _ _ rfl (w.heap.size + 1) #[.bool busy, .int .i64 op_kind, .string op_key, .int .i64 op_what, .int .i64 op_val, .int .i64 serial, .int .i64 pc, .int .i64 k, .int .i64 slot, .int .i64 what, .int .i64 e, .int .i64 stamp, .int .i64 old, .int .i64 flips, .int .i64 steps, .int .i64 code, .slice Bkeys nkeys dkeys, .slice Braw nraw draw] rfl rfl 86 _ G1.out (by kernel_rfl) rfl (by simp [Value.oneCell']) ?_)
  refine post_gen (fun X => Blk X (w.heap.size + 1) 86 #[.bool busy, .int .i64 op_kind, .string op_key, .int .i64 op_what, .int .i64 op_val, .int .i64 serial, .int .i64 pc, .int .i64 k, .int .i64 slot, .int .i64 what, .int .i64 e, .int .i64 stamp, .int .i64 old, .int .i64 flips, .int .i64 steps, .int .i64 code, .slice Bkeys nkeys dkeys, .slice Braw nraw draw] ∧ Heap X (w.heap.size + 3) [⟨.slice Bkeys nkeys dkeys, 3, 1, nkeys, (keys.map (Value.int .i64))⟩, ⟨.slice Braw nraw draw, 3, 1, nraw, (raw.map (Value.int .i64))⟩] ∧ Below w.heap.size w X) ⟨setRow_heap _ _ _ _ _ _ G1.out, heap_setRow G3.out (by omega) _, below_setRow' HB.out (by omega) _⟩ ?_
  clear G1 G2 G3 HB
  rintro X ⟨h1, h3, hb⟩
  refine bodyPost_ret (v := .agg #[.bool busy, .int .i64 op_kind, .string op_key, .int .i64 op_what, .int .i64 op_val, .int .i64 serial, .int .i64 pc, .int .i64 k, .int .i64 slot, .int .i64 what, .int .i64 e, .int .i64 stamp, .int .i64 old, .int .i64 flips, .int .i64 steps, .int .i64 code, .slice Bkeys nkeys dkeys, .slice Braw nraw draw]) (results_cell_row rfl _ _ _ _ _ (0, 0) _ rfl h1 hu rfl (by kernel_rfl)) rfl ⟨.slice Bkeys nkeys dkeys, .slice Braw nraw draw, rfl, ?_, hb⟩
  rw [HNkeys.out]
  rw [HNraw.out]
  exact h3.base (show w.heap.size ≤ w.heap.size + 3 by omega)
/-- Rows of such records, all of the call's own. -/
def MadeJobS (w : World) (l : List J) (e : Ending) (w' : World) : Prop := ∃ v, e = .returned v ∧ OwnY 86 18 jobDat w' w.heap.size w'.heap.size v l ∧ Below w.heap.size w w'
set_option maxRecDepth 100000 in
set_option maxHeartbeats 4000000 in
theorem toJobS_any (w : World) (v : Value) (l : List J) (h : ArgT 18 jobDat zeroJ w v l) (hl : l.length ≤ 1048576) (hi : ∀ j, j < l.length → (l.getD j zeroJ).keys.length ≤ 1048576 ∧ (l.getD j zeroJ).raw.length ≤ 1048576) :
    Calls Try.prog 29 #[v] w (MadeJobS w l) := by
  obtain ⟨i0, hi0, hz0, hz1, hz2⟩ := info_parts info_Job
  obtain ⟨A, cap, rfl, h1, h2, h3⟩ := h
  have HIL := Lib.hid hi
  have HP := Lib.hid (fun j (hj : j < l.length) => datL_part (z := zeroJ) jobDat_len l j hj)
  have HPZ := Lib.hid (partF_zero (z := zeroJ) l)
  have HPA := Lib.hid (partF_all (z := zeroJ) l)
  generalize hn : l.length = n at *
  have HN := Lib.hid hn
  have HC := Lib.hid h3
  clear hn h3 hi
  unfold maxLen at h2
  go_enter Try.func29, Try.ntmps29
  go_wp2_with (refine wpList_make_full _ rfl _ _ 31 rfl w.heap.size 86 i0 (.agg #[.bool false, .int .i64 0, .string ⟨#[]⟩, .int .i64 0, .int .i64 0, .int .i64 0, .int .i64 0, .int .i64 0, .int .i64 0, .int .i64 0, .int .i64 0, .int .i64 0, .int .i64 0, .int .i64 0, .int .i64 0, .int .i64 0, .slice none 0 0, .slice none 0 0]) 18 Try.underlying31 hi0 hz0 hz1 .i64 .i64 _ _ n rfl rfl rfl rfl ?c1 ?c2 ?c3 ?_; rotate_left 3; intro w1 hown hg; have HO := Lib.hid hown; have HG := Lib.hid hg; clear hown hg)
  case c1 => rw [hz2]; omega
  case c2 => unfold maxLen; omega
  case c3 => exact Nat.le_refl _
  clear hi0 hz0 hz1 hz2
  go_loopw [4] (fun i wr => ∃ j : Nat, j ≤ n ∧ i = .int .i64 j ∧ OwnX 86 18 n wr w.heap.size wr.heap.size (.slice (some ⟨w.heap.size, 0, none⟩) n n) (datL jobDat (partF zeroJ l j)) ∧ Below w.heap.size w wr) (fun i _ => n - (intOf i).toNat)
  case atStart =>
    refine ⟨0, Nat.zero_le _, rfl, ?_, below_madeF HG.out⟩
    rw [HPZ.out]
    exact OwnX.made HO.out rfl (by decide) jobZero_ok.1 jobZero_ok.2
  case round =>
    obtain ⟨j, hj, rfl, hh, hbl⟩ := hrel
    by_cases hlt : j < n
    · obtain ⟨b, off, hA, hb, hC⟩ := HC.out (by omega)
      obtain ⟨vkeys, vraw, hrng, hin⟩ := job_at ((hC j hlt).below hb hbl)
      obtain ⟨hp0, hp1, hp2⟩ := HP.out j hlt
      have HQ := Lib.hid (toJob_any wr (l.getD j zeroJ) vkeys vraw hin (HIL.out j hlt).1 (HIL.out j hlt).2)
      rw [hp0] at hh
      have HH := Lib.hid hh
      have HP1 := Lib.hid hp1
      have HP2 := Lib.hid hp2
      have HB := Lib.hid hbl
      have HR := Lib.hid hrng
      subst hA
      clear hh hbl hC hin hp0 hp1 hp2 hrng
      generalize l.getD j zeroJ = r at *
      have hjn : (j : Int) < (n : Int) := by omega
      have hul := Try.underlying80
      go_wp2_with ((with_reducible show wpList _ _ _ _ _ _); refine wpList_load_mid rfl 80 _ rfl b (off + j * 18) rfl (jobVals r vkeys vraw).toList _ HR.out hul rfl (by kernel_rfl) ?_)
      refine HQ.out.mono ?_
      rintro e w2 ⟨ukeys, uraw, rfl, hn2, hb2⟩
      obtain ⟨Akeys, ckeys, rfl⟩ := Rw.slice (hn2.own _ List.mem_cons_self)
      obtain ⟨Araw, craw, rfl⟩ := Rw.slice (hn2.own _ (List.mem_cons_of_mem _ List.mem_cons_self))
      have hsz := HB.out.size
      have hB2 := HB.out.trans (hb2.mono hsz)
      have hH2 := HH.out.below hb2
      have hthere := hH2.there (o := j * 18) (m := (jobVals r (.slice Akeys r.keys.length ckeys) (.slice Araw r.raw.length craw)).size) (by show j * 18 + 18 ≤ n * 18; omega)
      have HT := Lib.hid hthere
      have HN2 := Lib.hid hn2
      have HB2 := Lib.hid hB2
      have HH2 := Lib.hid hH2
      have HS2 := Lib.hid hb2.size
      have HSZ := Lib.hid hsz
      clear hn2 hb2 hB2 hH2 hsz hthere HB HH
      have HPT := Lib.hid (OwnX.put (us := (jobVals r (.slice Akeys r.keys.length ckeys) (.slice Araw r.raw.length craw)).toList) (D' := jobDat r) HH2.out HP2.out rfl (jobVals_ok _ _ _) (E' := w2.heap.size) ⟨HN2.out, fun x hx => HN2.out.lt hx⟩ (Nat.le_refl _) HSZ.out HS2.out)
      have HBT := Lib.hid (below_putN HB2.out (Nat.le_refl w.heap.size) (jobVals r (.slice Akeys r.keys.length ckeys) (.slice Araw r.raw.length craw)).toList (j * 18))
      clear HN2 HH2 HB2
      go_wp2_with ((with_reducible show wpList _ _ _ [_] _ _); refine wpList_store_mid rfl 86 _ _ rfl w.heap.size (j * 18) (jobVals r (.slice Akeys r.keys.length ckeys) (.slice Araw r.raw.length craw)) rfl rfl HT.out (by kernel_rfl) (by simp [jobVals, Value.oneCell']) ?_; rw [setCells_putN]; generalize putN w2 w.heap.size (j * 18) (jobVals r (.slice Akeys r.keys.length ckeys) (.slice Araw r.raw.length craw)).toList = W at HPT HBT ⊢)
      go_roundw
      case rel =>
        refine ⟨j + 1, by omega, by go_num, ?_, HBT.out⟩
        rw [HP1.out]
        exact HPT.out.1.mono HPT.out.2.size
      case measure => simp [intOf]; omega
    · have hjn : j = n := by omega
      subst hjn
      have HH2 := Lib.hid hh
      have HB2 := Lib.hid hbl
      clear hh hbl
      go_wp2_with fail
      go_ret
      refine ⟨_, rfl, ?_, HB2.out⟩
      have := HH2.out
      rw [HPA.out] at this
      unfold OwnY
      rw [HN.out]
      exact this
end Go.Proofs.Ytcfdnfckilpppaa
