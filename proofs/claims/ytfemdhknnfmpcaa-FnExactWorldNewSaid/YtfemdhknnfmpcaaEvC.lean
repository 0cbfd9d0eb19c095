/-
  The exact laws' copy of the record Ev.
-/
import Derived.Test.YtfemdhknnfmpcaaZa
import Derived.Test.YtfemdhknnfmpcaaOpC
import Derived.Test.YtfemdhknnfmpcaaRwsC
namespace Go.Proofs.Ytfemdhknnfmpcaa
open Go.RowKit M
set_option linter.unusedVariables false
set_option linter.unusedSimpArgs false
set_option maxRecDepth 100000 in
set_option maxHeartbeats 8000000 in
theorem toEv_any (w : World) (r : E) (vrows : Value) (h : evIn w r vrows) (hlrows : r.rows.length ≤ 1048576) : Calls Try.prog 105 #[.agg (evVals r vrows)] w (MadeEv w r) := by
  have hrows := h
  have Hrows := fun W h => Lib.hid (toRowS_any W vrows r.rows h hlrows)
  have Arows := Lib.hid hrows
  clear h
  obtain ⟨arows, crows, rfl, _, _, _⟩ := hrows
  have HT := fun W => Lib.hid (toOp_any W r.op)
  clear hlrows
  obtain ⟨kind, who, serial, at_, ⟨op_kind, op_key, op_what, op_val⟩, code, win, steps, flips, rows⟩ := r
  unfold O.v at HT
  simp only at *
  generalize hnrows : rows.length = nrows at *
  have HNrows := Lib.hid hnrows
  clear hnrows
  unfold evVals
  simp only
  go_enter Try.func105, Try.ntmps105
  go_upto_region 2 with fail
  refine wp_gen (fun W => Blk W w.heap.size 112 #[.int .i64 kind, .int .i64 who, .int .i64 serial, .int .i64 at_, .int .i64 op_kind, .string op_key, .int .i64 op_what, .int .i64 op_val, .int .i64 code, .int .i64 win, .int .i64 steps, .int .i64 flips, .slice arows nrows crows] ∧ Blk W (w.heap.size + 1) 99 #[.int .i64 0, .int .i64 0, .int .i64 0, .int .i64 0, .int .i64 0, .string ⟨#[]⟩, .int .i64 0, .int .i64 0, .int .i64 0, .int .i64 0, .int .i64 0, .int .i64 0, .slice none 0 0] ∧ Blk W (w.heap.size + 2) 99 #[.int .i64 0, .int .i64 0, .int .i64 0, .int .i64 0, .int .i64 0, .string ⟨#[]⟩, .int .i64 0, .int .i64 0, .int .i64 0, .int .i64 0, .int .i64 0, .int .i64 0, .slice none 0 0] ∧ Heap W (w.heap.size + 3) [] ∧ Below w.heap.size w W)
    ⟨((Blk.new w _ _ _ rfl).alloc _).alloc _, (Blk.new _ _ _ _ (by simp [go_sem])).alloc _, Blk.new _ _ _ _ (by simp [go_sem]), Heap.nil _ _, (((Below.refl _ _).alloc (Nat.le_refl _) _).alloc (by simp [go_sem]) _).alloc (by simp [go_sem]; omega) _⟩ ?_
  rintro W ⟨h0, h1, h2, h3, hb⟩
  have G0 := Lib.hid h0
  have G1 := Lib.hid h1
  have G2 := Lib.hid h2
  have G3 := Lib.hid h3
  have HB := Lib.hid hb
  have q0 := h0.get 0
  simp at q0
  clear h0 h1 h2 h3 hb
  have z0 := G2.out.get 0
  have f0 := G2.out.frz 0
  simp at z0
  go_upto_region 3 with fail
  refine wp_gen (fun W => Blk W w.heap.size 112 #[.int .i64 kind, .int .i64 who, .int .i64 serial, .int .i64 at_, .int .i64 op_kind, .string op_key, .int .i64 op_what, .int .i64 op_val, .int .i64 code, .int .i64 win, .int .i64 steps, .int .i64 flips, .slice arows nrows crows] ∧ Blk W (w.heap.size + 1) 99 #[.int .i64 0, .int .i64 0, .int .i64 0, .int .i64 0, .int .i64 0, .string ⟨#[]⟩, .int .i64 0, .int .i64 0, .int .i64 0, .int .i64 0, .int .i64 0, .int .i64 0, .slice none 0 0] ∧ Blk W (w.heap.size + 2) 99 #[.int .i64 kind, .int .i64 0, .int .i64 0, .int .i64 0, .int .i64 0, .string ⟨#[]⟩, .int .i64 0, .int .i64 0, .int .i64 0, .int .i64 0, .int .i64 0, .int .i64 0, .slice none 0 0] ∧ Heap W (w.heap.size + 3) [] ∧ Below w.heap.size w W)
    ⟨(G0.out.far _ _ _ (by omega)), (G1.out.far _ _ _ (by omega)), (G2.out.store 0 _), heap_set1 G3.out (by omega) G2.out 0 _, (HB.out.setCell (show w.heap.size ≤ w.heap.size + 2 by omega) _)⟩ ?_
  clear z0 f0 q0 G0 G1 G2 G3 HB
  clear W
  rintro W ⟨h0, h1, h2, h3, hb⟩
  have G0 := Lib.hid h0
  have G1 := Lib.hid h1
  have G2 := Lib.hid h2
  have G3 := Lib.hid h3
  have HB := Lib.hid hb
  have q0 := h0.get 1
  simp at q0
  clear h0 h1 h2 h3 hb
  have z0 := G2.out.get 1
  have f0 := G2.out.frz 1
  simp at z0
  go_upto_region 4 with fail
  refine wp_gen (fun W => Blk W w.heap.size 112 #[.int .i64 kind, .int .i64 who, .int .i64 serial, .int .i64 at_, .int .i64 op_kind, .string op_key, .int .i64 op_what, .int .i64 op_val, .int .i64 code, .int .i64 win, .int .i64 steps, .int .i64 flips, .slice arows nrows crows] ∧ Blk W (w.heap.size + 1) 99 #[.int .i64 0, .int .i64 0, .int .i64 0, .int .i64 0, .int .i64 0, .string ⟨#[]⟩, .int .i64 0, .int .i64 0, .int .i64 0, .int .i64 0, .int .i64 0, .int .i64 0, .slice none 0 0] ∧ Blk W (w.heap.size + 2) 99 #[.int .i64 kind, .int .i64 who, .int .i64 0, .int .i64 0, .int .i64 0, .string ⟨#[]⟩, .int .i64 0, .int .i64 0, .int .i64 0, .int .i64 0, .int .i64 0, .int .i64 0, .slice none 0 0] ∧ Heap W (w.heap.size + 3) [] ∧ Below w.heap.size w W)
    ⟨(G0.out.far _ _ _ (by omega)), (G1.out.far _ _ _ (by omega)), (G2.out.store 1 _), heap_set1 G3.out (by omega) G2.out 1 _, (HB.out.setCell (show w.heap.size ≤ w.heap.size + 2 by omega) _)⟩ ?_
  clear z0 f0 q0 G0 G1 G2 G3 HB
  clear W
  rintro W ⟨h0, h1, h2, h3, hb⟩
  have G0 := Lib.hid h0
  have G1 := Lib.hid h1
  have G2 := Lib.hid h2
  have G3 := Lib.hid h3
  have HB := Lib.hid hb
  have q0 := h0.get 2
  simp at q0
  clear h0 h1 h2 h3 hb
  have z0 := G2.out.get 2
  have f0 := G2.out.frz 2
  simp at z0
  go_upto_region 5 with fail
  refine wp_gen (fun W => Blk W w.heap.size 112 #[.int .i64 kind, .int .i64 who, .int .i64 serial, .int .i64 at_, .int .i64 op_kind, .string op_key, .int .i64 op_what, .int .i64 op_val, .int .i64 code, .int .i64 win, .int .i64 steps, .int .i64 flips, .slice arows nrows crows] ∧ Blk W (w.heap.size + 1) 99 #[.int .i64 0, .int .i64 0, .int .i64 0, .int .i64 0, .int .i64 0, .string ⟨#[]⟩, .int .i64 0, .int .i64 0, .int .i64 0, .int .i64 0, .int .i64 0, .int .i64 0, .slice none 0 0] ∧ Blk W (w.heap.size + 2) 99 #[.int .i64 kind, .int .i64 who, .int .i64 serial, .int .i64 0, .int .i64 0, .string ⟨#[]⟩, .int .i64 0, .int .i64 0, .int .i64 0, .int .i64 0, .int .i64 0, .int .i64 0, .slice none 0 0] ∧ Heap W (w.heap.size + 3) [] ∧ Below w.heap.size w W)
    ⟨(G0.out.far _ _ _ (by omega)), (G1.out.far _ _ _ (by omega)), (G2.out.store 2 _), heap_set1 G3.out (by omega) G2.out 2 _, (HB.out.setCell (show w.heap.size ≤ w.heap.size + 2 by omega) _)⟩ ?_
  clear z0 f0 q0 G0 G1 G2 G3 HB
  clear W
  rintro W ⟨h0, h1, h2, h3, hb⟩
  have G0 := Lib.hid h0
  have G1 := Lib.hid h1
  have G2 := Lib.hid h2
  have G3 := Lib.hid h3
  have HB := Lib.hid hb
  have q0 := h0.get 3
  simp at q0
  clear h0 h1 h2 h3 hb
  have z0 := G2.out.get 3
  have f0 := G2.out.frz 3
  simp at z0
  go_upto_region 6 with fail
  refine wp_gen (fun W => Blk W w.heap.size 112 #[.int .i64 kind, .int .i64 who, .int .i64 serial, .int .i64 at_, .int .i64 op_kind, .string op_key, .int .i64 op_what, .int .i64 op_val, .int .i64 code, .int .i64 win, .int .i64 steps, .int .i64 flips, .slice arows nrows crows] ∧ Blk W (w.heap.size + 1) 99 #[.int .i64 0, .int .i64 0, .int .i64 0, .int .i64 0, .int .i64 0, .string ⟨#[]⟩, .int .i64 0, .int .i64 0, .int .i64 0, .int .i64 0, .int .i64 0, .int .i64 0, .slice none 0 0] ∧ Blk W (w.heap.size + 2) 99 #[.int .i64 kind, .int .i64 who, .int .i64 serial, .int .i64 at_, .int .i64 0, .string ⟨#[]⟩, .int .i64 0, .int .i64 0, .int .i64 0, .int .i64 0, .int .i64 0, .int .i64 0, .slice none 0 0] ∧ Heap W (w.heap.size + 3) [] ∧ Below w.heap.size w W)
    ⟨(G0.out.far _ _ _ (by omega)), (G1.out.far _ _ _ (by omega)), (G2.out.store 3 _), heap_set1 G3.out (by omega) G2.out 3 _, (HB.out.setCell (show w.heap.size ≤ w.heap.size + 2 by omega) _)⟩ ?_
  clear z0 f0 q0 G0 G1 G2 G3 HB
  clear W
  rintro W ⟨h0, h1, h2, h3, hb⟩
  have G0 := Lib.hid h0
  have G1 := Lib.hid h1
  have G2 := Lib.hid h2
  have G3 := Lib.hid h3
  have HB := Lib.hid hb
  have q0 := h0.get 4
  have q1 := h0.get 5
  have q2 := h0.get 6
  have q3 := h0.get 7
  simp at q0 q1 q2 q3
  clear h0 h1 h2 h3 hb
  go_wp2_with fail
  refine (HT _).out.mono ?_
  rintro e w2 ⟨rfl, hb2⟩
  replace G0 := Lib.hid (G0.out.below hb2)
  replace G1 := Lib.hid (G1.out.below hb2)
  replace G2 := Lib.hid (G2.out.below hb2)
  replace HB := Lib.hid (HB.out.trans (hb2.mono HB.out.size))
  replace G3 := Lib.hid (G3.out.below hb2)
  clear hb2 q0 q1 q2 q3
  have z0 := G2.out.get 4
  have f0 := G2.out.frz 4
  have z1 := G2.out.get 5
  have f1 := G2.out.frz 5
  have z2 := G2.out.get 6
  have f2 := G2.out.frz 6
  have z3 := G2.out.get 7
  have f3 := G2.out.frz 7
  simp at z0 z1 z2 z3
  go_upto_region 7 with fail
  refine wp_gen (fun W => Blk W w.heap.size 112 #[.int .i64 kind, .int .i64 who, .int .i64 serial, .int .i64 at_, .int .i64 op_kind, .string op_key, .int .i64 op_what, .int .i64 op_val, .int .i64 code, .int .i64 win, .int .i64 steps, .int .i64 flips, .slice arows nrows crows] ∧ Blk W (w.heap.size + 1) 99 #[.int .i64 0, .int .i64 0, .int .i64 0, .int .i64 0, .int .i64 0, .string ⟨#[]⟩, .int .i64 0, .int .i64 0, .int .i64 0, .int .i64 0, .int .i64 0, .int .i64 0, .slice none 0 0] ∧ Blk W (w.heap.size + 2) 99 #[.int .i64 kind, .int .i64 who, .int .i64 serial, .int .i64 at_, .int .i64 op_kind, .string op_key, .int .i64 op_what, .int .i64 op_val, .int .i64 0, .int .i64 0, .int .i64 0, .int .i64 0, .slice none 0 0] ∧ Heap W (w.heap.size + 3) [] ∧ Below w.heap.size w W)
    ⟨((((G0.out.far _ _ _ (by omega)).far _ _ _ (by omega)).far _ _ _ (by omega)).far _ _ _ (by omega)), ((((G1.out.far _ _ _ (by omega)).far _ _ _ (by omega)).far _ _ _ (by omega)).far _ _ _ (by omega)), ((((G2.out.store 4 _).store 5 _).store 6 _).store 7 _), heap_set1 (heap_set1 (heap_set1 (heap_set1 G3.out (by omega) G2.out 4 _) (by omega) (G2.out.store 4 _) 5 _) (by omega) ((G2.out.store 4 _).store 5 _) 6 _) (by omega) (((G2.out.store 4 _).store 5 _).store 6 _) 7 _, ((((HB.out.setCell (show w.heap.size ≤ w.heap.size + 2 by omega) _).setCell (show w.heap.size ≤ w.heap.size + 2 by omega) _).setCell (show w.heap.size ≤ w.heap.size + 2 by omega) _).setCell (show w.heap.size ≤ w.heap.size + 2 by omega) _)⟩ ?_
  clear z0 z1 z2 z3 f0 f1 f2 f3 G0 G1 G2 G3 HB
  clear w2
  clear W
  rintro W ⟨h0, h1, h2, h3, hb⟩
  have G0 := Lib.hid h0
  have G1 := Lib.hid h1
  have G2 := Lib.hid h2
  have G3 := Lib.hid h3
  have HB := Lib.hid hb
  have q0 := h0.get 8
  simp at q0
  clear h0 h1 h2 h3 hb
  have z0 := G2.out.get 8
  have f0 := G2.out.frz 8
  simp at z0
  go_upto_region 8 with fail
  refine wp_gen (fun W => Blk W w.heap.size 112 #[.int .i64 kind, .int .i64 who, .int .i64 serial, .int .i64 at_, .int .i64 op_kind, .string op_key, .int .i64 op_what, .int .i64 op_val, .int .i64 code, .int .i64 win, .int .i64 steps, .int .i64 flips, .slice arows nrows crows] ∧ Blk W (w.heap.size + 1) 99 #[.int .i64 0, .int .i64 0, .int .i64 0, .int .i64 0, .int .i64 0, .string ⟨#[]⟩, .int .i64 0, .int .i64 0, .int .i64 0, .int .i64 0, .int .i64 0, .int .i64 0, .slice none 0 0] ∧ Blk W (w.heap.size + 2) 99 #[.int .i64 kind, .int .i64 who, .int .i64 serial, .int .i64 at_, .int .i64 op_kind, .string op_key, .int .i64 op_what, .int .i64 op_val, .int .i64 code, .int .i64 0, .int .i64 0, .int .i64 0, .slice none 0 0] ∧ Heap W (w.heap.size + 3) [] ∧ Below w.heap.size w W)
    ⟨(G0.out.far _ _ _ (by omega)), (G1.out.far _ _ _ (by omega)), (G2.out.store 8 _), heap_set1 G3.out (by omega) G2.out 8 _, (HB.out.setCell (show w.heap.size ≤ w.heap.size + 2 by omega) _)⟩ ?_
  clear z0 f0 q0 G0 G1 G2 G3 HB
  clear W
  rintro W ⟨h0, h1, h2, h3, hb⟩
  have G0 := Lib.hid h0
  have G1 := Lib.hid h1
  have G2 := Lib.hid h2
  have G3 := Lib.hid h3
  have HB := Lib.hid hb
  have q0 := h0.get 9
  simp at q0
  clear h0 h1 h2 h3 hb
  have z0 := G2.out.get 9
  have f0 := G2.out.frz 9
  simp at z0
  go_upto_region 9 with fail
  refine wp_gen (fun W => Blk W w.heap.size 112 #[.int .i64 kind, .int .i64 who, .int .i64 serial, .int .i64 at_, .int .i64 op_kind, .string op_key, .int .i64 op_what, .int .i64 op_val, .int .i64 code, .int .i64 win, .int .i64 steps, .int .i64 flips, .slice arows nrows crows] ∧ Blk W (w.heap.size + 1) 99 #[.int .i64 0, .int .i64 0, .int .i64 0, .int .i64 0, .int .i64 0, .string ⟨#[]⟩, .int .i64 0, .int .i64 0, .int .i64 0, .int .i64 0, .int .i64 0, .int .i64 0, .slice none 0 0] ∧ Blk W (w.heap.size + 2) 99 #[.int .i64 kind, .int .i64 who, .int .i64 serial, .int .i64 at_, .int .i64 op_kind, .string op_key, .int .i64 op_what, .int .i64 op_val, .int .i64 code, .int .i64 win, .int .i64 0, .int .i64 0, .slice none 0 0] ∧ Heap W (w.heap.size + 3) [] ∧ Below w.heap.size w W)
    ⟨(G0.out.far _ _ _ (by omega)), (G1.out.far _ _ _ (by omega)), (G2.out.store 9 _), heap_set1 G3.out (by omega) G2.out 9 _, (HB.out.setCell (show w.heap.size ≤ w.heap.size + 2 by omega) _)⟩ ?_
  clear z0 f0 q0 G0 G1 G2 G3 HB
  clear W
  rintro W ⟨h0, h1, h2, h3, hb⟩
  have G0 := Lib.hid h0
  have G1 := Lib.hid h1
  have G2 := Lib.hid h2
  have G3 := Lib.hid h3
  have HB := Lib.hid hb
  have q0 := h0.get 10
  simp at q0
  clear h0 h1 h2 h3 hb
  have z0 := G2.out.get 10
  have f0 := G2.out.frz 10
  simp at z0
  go_upto_region 10 with fail
  refine wp_gen (fun W => Blk W w.heap.size 112 #[.int .i64 kind, .int .i64 who, .int .i64 serial, .int .i64 at_, .int .i64 op_kind, .string op_key, .int .i64 op_what, .int .i64 op_val, .int .i64 code, .int .i64 win, .int .i64 steps, .int .i64 flips, .slice arows nrows crows] ∧ Blk W (w.heap.size + 1) 99 #[.int .i64 0, .int .i64 0, .int .i64 0, .int .i64 0, .int .i64 0, .string ⟨#[]⟩, .int .i64 0, .int .i64 0, .int .i64 0, .int .i64 0, .int .i64 0, .int .i64 0, .slice none 0 0] ∧ Blk W (w.heap.size + 2) 99 #[.int .i64 kind, .int .i64 who, .int .i64 serial, .int .i64 at_, .int .i64 op_kind, .string op_key, .int .i64 op_what, .int .i64 op_val, .int .i64 code, .int .i64 win, .int .i64 steps, .int .i64 0, .slice none 0 0] ∧ Heap W (w.heap.size + 3) [] ∧ Below w.heap.size w W)
    ⟨(G0.out.far _ _ _ (by omega)), (G1.out.far _ _ _ (by omega)), (G2.out.store 10 _), heap_set1 G3.out (by omega) G2.out 10 _, (HB.out.setCell (show w.heap.size ≤ w.heap.size + 2 by omega) _)⟩ ?_
  clear z0 f0 q0 G0 G1 G2 G3 HB
  clear W
  rintro W ⟨h0, h1, h2, h3, hb⟩
  have G0 := Lib.hid h0
  have G1 := Lib.hid h1
  have G2 := Lib.hid h2
  have G3 := Lib.hid h3
  have HB := Lib.hid hb
  have q0 := h0.get 11
  simp at q0
  clear h0 h1 h2 h3 hb
  have z0 := G2.out.get 11
  have f0 := G2.out.frz 11
  simp at z0
  go_upto_region 11 with fail
  refine wp_gen (fun W => Blk W w.heap.size 112 #[.int .i64 kind, .int .i64 who, .int .i64 serial, .int .i64 at_, .int .i64 op_kind, .string op_key, .int .i64 op_what, .int .i64 op_val, .int .i64 code, .int .i64 win, .int .i64 steps, .int .i64 flips, .slice arows nrows crows] ∧ Blk W (w.heap.size + 1) 99 #[.int .i64 0, .int .i64 0, .int .i64 0, .int .i64 0, .int .i64 0, .string ⟨#[]⟩, .int .i64 0, .int .i64 0, .int .i64 0, .int .i64 0, .int .i64 0, .int .i64 0, .slice none 0 0] ∧ Blk W (w.heap.size + 2) 99 #[.int .i64 kind, .int .i64 who, .int .i64 serial, .int .i64 at_, .int .i64 op_kind, .string op_key, .int .i64 op_what, .int .i64 op_val, .int .i64 code, .int .i64 win, .int .i64 steps, .int .i64 flips, .slice none 0 0] ∧ Heap W (w.heap.size + 3) [] ∧ Below w.heap.size w W)
    ⟨(G0.out.far _ _ _ (by omega)), (G1.out.far _ _ _ (by omega)), (G2.out.store 11 _), heap_set1 G3.out (by omega) G2.out 11 _, (HB.out.setCell (show w.heap.size ≤ w.heap.size + 2 by omega) _)⟩ ?_
  clear z0 f0 q0 G0 G1 G2 G3 HB
  clear W
  rintro W ⟨h0, h1, h2, h3, hb⟩
  have G0 := Lib.hid h0
  have G1 := Lib.hid h1
  have G2 := Lib.hid h2
  have G3 := Lib.hid h3
  have HB := Lib.hid hb
  have q0 := h0.get 12
  simp at q0
  have HC := Lib.hid (Hrows W (Arows.out.below hb)).out
  clear h0 h1 h2 h3 hb
  go_wp2_with fail
  refine HC.out.mono ?_
  rintro e w2 ⟨u, rfl, ho, hb2⟩
  clear HC
  have hlt3 := G2.out.lt
  have hown : (⟨u, 117, 10, rows.length, (cellsR rows)⟩ : Rw).own w2 (w.heap.size + 3) := Rw.own_base (show (⟨u, 117, 10, rows.length, (cellsR rows)⟩ : Rw).own w2 W.heap.size from ho) hlt3
  obtain ⟨Brows, drows, rfl⟩ : ∃ A c, u = .slice A rows.length c := by
    rcases hown.2 with ⟨e, h0⟩ | ⟨g, cap, cur, e, _⟩
    · have h0 : rows.length = 0 := h0
      exact ⟨none, 0, by rw [h0]; exact e⟩
    · exact ⟨_, cap, e⟩
  rw [HNrows.out] at hown ⊢
  have HX := Lib.hid (Heap.join (G3.out.below hb2) (Heap.one (r := ⟨.slice Brows nrows drows, 117, 10, nrows, (cellsR rows)⟩) (show (⟨.slice Brows nrows drows, 117, 10, nrows, (cellsR rows)⟩ : Rw).own w2 W.heap.size from by have := ((show (⟨.slice Brows rows.length drows, 117, 10, rows.length, (cellsR rows)⟩ : Rw).own w2 W.heap.size from ho)); rw [HNrows.out] at this; exact this)) hlt3 (fun r hr b hbk => G3.out.lt hr b hbk))
  clear ho hown hlt3 G3
  replace G0 := Lib.hid (G0.out.below hb2)
  replace G1 := Lib.hid (G1.out.below hb2)
  replace G2 := Lib.hid (G2.out.below hb2)
  replace HB := Lib.hid (HB.out.trans (hb2.mono HB.out.size))
  have G3 := Lib.hid HX.out
  clear hb2 HX q0
  have z0 := G2.out.get 12
  have f0 := G2.out.frz 12
  simp at z0
  go_upto_region 12 with fail
  refine wp_gen (fun W => Blk W w.heap.size 112 #[.int .i64 kind, .int .i64 who, .int .i64 serial, .int .i64 at_, .int .i64 op_kind, .string op_key, .int .i64 op_what, .int .i64 op_val, .int .i64 code, .int .i64 win, .int .i64 steps, .int .i64 flips, .slice arows nrows crows] ∧ Blk W (w.heap.size + 1) 99 #[.int .i64 0, .int .i64 0, .int .i64 0, .int .i64 0, .int .i64 0, .string ⟨#[]⟩, .int .i64 0, .int .i64 0, .int .i64 0, .int .i64 0, .int .i64 0, .int .i64 0, .slice none 0 0] ∧ Blk W (w.heap.size + 2) 99 #[.int .i64 kind, .int .i64 who, .int .i64 serial, .int .i64 at_, .int .i64 op_kind, .string op_key, .int .i64 op_what, .int .i64 op_val, .int .i64 code, .int .i64 win, .int .i64 steps, .int .i64 flips, .slice Brows nrows drows] ∧ Heap W (w.heap.size + 3) [⟨.slice Brows nrows drows, 117, 10, nrows, (cellsR rows)⟩] ∧ Below w.heap.size w W)
    ⟨(G0.out.far _ _ _ (by omega)), (G1.out.far _ _ _ (by omega)), (G2.out.store 12 _), heap_set1 G3.out (by omega) G2.out 12 _, (HB.out.setCell (show w.heap.size ≤ w.heap.size + 2 by omega) _)⟩ ?_
  clear z0 f0 G0 G1 G2 G3 HB
  clear w2
  clear W
  rintro W ⟨h0, h1, h2, h3, hb⟩
  have G1 := Lib.hid h1
  have G2 := Lib.hid h2
  have G3 := Lib.hid h3
  have HB := Lib.hid hb
  have hu := Try.underlying99
  clear h0 h1 h2 h3 hb
  go_wp2_with (first | refine wpList_load_row rfl 99 _ rfl (w.heap.size + 2) rfl 99 #[.int .i64 kind, .int .i64 who, .int .i64 serial, .int .i64 at_, .int .i64 op_kind, .string op_key, .int .i64 op_what, .int .i64 op_val, .int .i64 code, .int .i64 win, .int .i64 steps, .int .i64 flips, .slice Brows nrows drows] (0, 0) _ G2.out hu rfl (by kernel_rfl) ?_ | refine wpList_store_row rfl 99 _ _ rfl (w.heap.size + 1) #[.int .i64 kind, .int .i64 who, .int .i64 serial, .int .i64 at_, .int .i64 op_kind, .string op_key, .int .i64 op_what, .int .i64 op_val, .int .i64 code, .int .i64 win, .int .i64 steps, .int .i64 flips, .slice Brows nrows drows] rfl rfl 99 _ G1.out (by kernel_rfl) rfl (by simp [Value.oneCell']) ?_)
  refine post_gen (fun X => Blk X (w.heap.size + 1) 99 #[.int .i64 kind, .int .i64 who, .int .i64 serial, .int .i64 at_, .int .i64 op_kind, .string op_key, .int .i64 op_what, .int .i64 op_val, .int .i64 code, .int .i64 win, .int .i64 steps, .int .i64 flips, .slice Brows nrows drows] ∧ Heap X (w.heap.size + 3) [⟨.slice Brows nrows drows, 117, 10, nrows, (cellsR rows)⟩] ∧ Below w.heap.size w X) ⟨setRow_heap _ _ _ _ _ _ G1.out, heap_setRow G3.out (by omega) _, below_setRow' HB.out (by omega) _⟩ ?_
  clear G1 G2 G3 HB
  rintro X ⟨h1, h3, hb⟩
  refine bodyPost_ret (v := .agg #[.int .i64 kind, .int .i64 who, .int .i64 serial, .int .i64 at_, .int .i64 op_kind, .string op_key, .int .i64 op_what, .int .i64 op_val, .int .i64 code, .int .i64 win, .int .i64 steps, .int .i64 flips, .slice Brows nrows drows]) (results_cell_row rfl _ _ _ _ _ (0, 0) _ rfl h1 hu rfl (by kernel_rfl)) rfl ⟨.slice Brows nrows drows, rfl, ?_, hb⟩
  rw [HNrows.out]
  exact h3.base (show w.heap.size ≤ w.heap.size + 3 by omega)
/-- Rows of such records, all of the call's own. -/
def MadeEvS (w : World) (l : List E) (e : Ending) (w' : World) : Prop := ∃ v, e = .returned v ∧ OwnY 99 13 evDat w' w.heap.size w'.heap.size v l ∧ Below w.heap.size w w'
set_option maxRecDepth 100000 in
set_option maxHeartbeats 4000000 in
theorem toEvS_any (w : World) (v : Value) (l : List E) (h : ArgT 13 evDat zeroE w v l) (hl : l.length ≤ 1048576) (hi : ∀ j, j < l.length → (l.getD j zeroE).rows.length ≤ 1048576) :
    Calls Try.prog 77 #[v] w (MadeEvS w l) := by
  obtain ⟨i0, hi0, hz0, hz1, hz2⟩ := info_parts info_Ev
  obtain ⟨A, cap, rfl, h1, h2, h3⟩ := h
  have HIL := Lib.hid hi
  have HP := Lib.hid (fun j (hj : j < l.length) => datL_part (z := zeroE) evDat_len l j hj)
  have HPZ := Lib.hid (partF_zero (z := zeroE) l)
  have HPA := Lib.hid (partF_all (z := zeroE) l)
  generalize hn : l.length = n at *
  have HN := Lib.hid hn
  have HC := Lib.hid h3
  clear hn h3 hi
  unfold maxLen at h2
  go_enter Try.func77, Try.ntmps77
  go_wp2_with (refine wpList_make_full _ rfl _ _ 47 rfl w.heap.size 99 i0 (.agg #[.int .i64 0, .int .i64 0, .int .i64 0, .int .i64 0, .int .i64 0, .string ⟨#[]⟩, .int .i64 0, .int .i64 0, .int .i64 0, .int .i64 0, .int .i64 0, .int .i64 0, .slice none 0 0]) 13 Try.underlying47 hi0 hz0 hz1 .i64 .i64 _ _ n rfl rfl rfl rfl ?c1 ?c2 ?c3 ?_; rotate_left 3; intro w1 hown hg; have HO := Lib.hid hown; have HG := Lib.hid hg; clear hown hg)
  case c1 => rw [hz2]; omega
  case c2 => unfold maxLen; omega
  case c3 => exact Nat.le_refl _
  clear hi0 hz0 hz1 hz2
  go_loopw [4] (fun i wr => ∃ j : Nat, j ≤ n ∧ i = .int .i64 j ∧ OwnX 99 13 n wr w.heap.size wr.heap.size (.slice (some ⟨w.heap.size, 0, none⟩) n n) (datL evDat (partF zeroE l j)) ∧ Below w.heap.size w wr) (fun i _ => n - (intOf i).toNat)
  case atStart =>
    refine ⟨0, Nat.zero_le _, rfl, ?_, below_madeF HG.out⟩
    rw [HPZ.out]
    exact OwnX.made HO.out rfl (by decide) evZero_ok.1 evZero_ok.2
  case round =>
    obtain ⟨j, hj, rfl, hh, hbl⟩ := hrel
    by_cases hlt : j < n
    · obtain ⟨b, off, hA, hb, hC⟩ := HC.out (by omega)
      obtain ⟨vrows, hrng, hin⟩ := ev_at ((hC j hlt).below hb hbl)
      obtain ⟨hp0, hp1, hp2⟩ := HP.out j hlt
      have HQ := Lib.hid (toEv_any wr (l.getD j zeroE) vrows hin (HIL.out j hlt))
      rw [hp0] at hh
      have HH := Lib.hid hh
      have HP1 := Lib.hid hp1
      have HP2 := Lib.hid hp2
      have HB := Lib.hid hbl
      have HR := Lib.hid hrng
      subst hA
      clear hh hbl hC hin hp0 hp1 hp2 hrng
      generalize l.getD j zeroE = r at *
      have hjn : (j : Int) < (n : Int) := by omega
      have hul := Try.underlying112
      go_wp2_with ((with_reducible show wpList _ _ _ _ _ _); refine wpList_load_mid rfl 112 _ rfl b (off + j * 13) rfl (evVals r vrows).toList _ HR.out hul rfl (by kernel_rfl) ?_)
      refine HQ.out.mono ?_
      rintro e w2 ⟨urows, rfl, hn2, hb2⟩
      obtain ⟨Arows, crows, rfl⟩ := Rw.slice (hn2.own _ List.mem_cons_self)
      have hsz := HB.out.size
      have hB2 := HB.out.trans (hb2.mono hsz)
      have hH2 := HH.out.below hb2
      have hthere := hH2.there (o := j * 13) (m := (evVals r (.slice Arows r.rows.length crows)).size) (by show j * 13 + 13 ≤ n * 13; omega)
      have HT := Lib.hid hthere
      have HN2 := Lib.hid hn2
      have HB2 := Lib.hid hB2
      have HH2 := Lib.hid hH2
      have HS2 := Lib.hid hb2.size
      have HSZ := Lib.hid hsz
      clear hn2 hb2 hB2 hH2 hsz hthere HB HH
      have HPT := Lib.hid (OwnX.put (us := (evVals r (.slice Arows r.rows.length crows)).toList) (D' := evDat r) HH2.out HP2.out rfl (evVals_ok _ _) (E' := w2.heap.size) ⟨HN2.out, fun x hx => HN2.out.lt hx⟩ (Nat.le_refl _) HSZ.out HS2.out)
      have HBT := Lib.hid (below_putN HB2.out (Nat.le_refl w.heap.size) (evVals r (.slice Arows r.rows.length crows)).toList (j * 13))
      clear HN2 HH2 HB2
      go_wp2_with ((with_reducible show wpList _ _ _ [_] _ _); refine wpList_store_mid rfl 99 _ _ rfl w.heap.size (j * 13) (evVals r (.slice Arows r.rows.length crows)) rfl rfl HT.out (by kernel_rfl) (by simp [evVals, Value.oneCell']) ?_; rw [setCells_putN]; generalize putN w2 w.heap.size (j * 13) (evVals r (.slice Arows r.rows.length crows)).toList = W at HPT HBT ⊢)
      go_roundw
      case rel =>
        refine ⟨j + 1, by omega, by go_num, ?_, HBT.out⟩
        rw [HP1.out]
        exact HPT.out.1.mono HPT.out.2.size
      case measure => simp [intOf]; omega
    · have hjn : j = n := by omega
      subst hjn
      have HH2 := Lib.hid hh
      have HB2 := Lib.hid hbl
      clear hh hbl
      go_wp2_with fail
      go_ret
      refine ⟨_, rfl, ?_, HB2.out⟩
      have := HH2.out
      rw [HPA.out] at this
      unfold OwnY
      rw [HN.out]
      exact this
end Go.Proofs.Ytfemdhknnfmpcaa
