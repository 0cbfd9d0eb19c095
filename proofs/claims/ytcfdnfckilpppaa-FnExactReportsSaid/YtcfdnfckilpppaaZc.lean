/-
  Several small texts of this proof, one behind another: each says ahead of itself what it proves.
-/
import Derived.Test.YtcfdnfckilpppaaZb
import Derived.Test.YtcfdnfckilpppaaOpC
import Derived.Test.YtcfdnfckilpppaaZa
import Derived.Test.YtcfdnfckilpppaaRwsC
import Derived.Test.YtcfdnfckilpppaaJobC
import Derived.OwnWalk
import Derived.Laws.AppendOwn
import Derived.Lib.SliceRun
import Derived.Lib.Walk
import Derived.Maps.AppendAt
import Derived.Laws.AppendOwnNone
/-
  The exact laws' copy of the record Ev.
-/
namespace Go.Proofs.Ytcfdnfckilpppaa
open Go.RowKit M
set_option linter.unusedVariables false
set_option linter.unusedSimpArgs false
set_option maxRecDepth 100000 in
set_option maxHeartbeats 8000000 in
theorem toEv_any (w : World) (r : E) (vrows : Value) (h : evIn w r vrows) (hlrows : r.rows.length ≤ 1048576) : Calls Try.prog 43 #[.agg (evVals r vrows)] w (MadeEv w r) := by
  have hrows := h
  have Hrows := fun W h => Lib.hid (toRowS_any W vrows r.rows h hlrows)
  have Arows := Lib.hid hrows
  clear h
  obtain ⟨arows, crows, rfl, _, _, _⟩ := hrows
  have HT := fun W => Lib.hid (toOp_any W r.op)
  clear hlrows
  obtain ⟨kind, who, serial, at_, ⟨op_kind, op_key, op_what, op_val⟩, code, win, steps, flips, rows⟩ := r
  unfold O.v at HT
  simp only at *
  generalize hnrows : rows.length = nrows at *
  have HNrows := Lib.hid hnrows
  clear hnrows
  unfold evVals
  simp only
  go_enter Try.func43, Try.ntmps43
  go_upto_region 2 with fail
  refine wp_gen (fun W => Blk W w.heap.size 75 #[.int .i64 kind, .int .i64 who, .int .i64 serial, .int .i64 at_, .int .i64 op_kind, .string op_key, .int .i64 op_what, .int .i64 op_val, .int .i64 code, .int .i64 win, .int .i64 steps, .int .i64 flips, .slice arows nrows crows] ∧ Blk W (w.heap.size + 1) 56 #[.int .i64 0, .int .i64 0, .int .i64 0, .int .i64 0, .int .i64 0, .string ⟨#[]⟩, .int .i64 0, .int .i64 0, .int .i64 0, .int .i64 0, .int .i64 0, .int .i64 0, .slice none 0 0] ∧ Blk W (w.heap.size + 2) 56 #[.int .i64 0, .int .i64 0, .int .i64 0, .int .i64 0, .int .i64 0, .string ⟨#[]⟩, .int .i64 0, .int .i64 0, .int .i64 0, .int .i64 0, .int .i64 0, .int .i64 0, .slice none 0 0] ∧ Heap W (w.heap.size + 3) [] ∧ Below w.heap.size w W)
    ⟨((Blk.new w _ _ _ rfl).alloc _).alloc _, (Blk.new _ _ _ _ (by simp [go_sem])).alloc _, Blk.new _ _ _ _ (by simp [go_sem]), Heap.nil _ _, (((Below.refl _ _).alloc (Nat.le_refl _) _).alloc (by simp [go_sem]) _).alloc (by simp [go_sem]; omega) _⟩ ?_
  rintro W ⟨h0, h1, h2, h3, hb⟩
  have G0 := Lib.hid h0
  have G1 := Lib.hid h1
  have G2 := Lib.hid h2
  have G3 := Lib.hid h3
  have HB := Lib.hid hb
  have q0 := h0.get 0
  simp at q0
  clear h0 h1 h2 h3 hb
  have z0 := G2.out.get 0
  have f0 := G2.out.frz 0
  simp at z0
  go_upto_region 3 with fail
  refine wp_gen (fun W => Blk W w.heap.size 75 #[.int .i64 kind, .int .i64 who, .int .i64 serial, .int .i64 at_, .int .i64 op_kind, .string op_key, .int .i64 op_what, .int .i64 op_val, .int .i64 code, .int .i64 win, .int .i64 steps, .int .i64 flips, .slice arows nrows crows] ∧ Blk W (w.heap.size + 1) 56 #[.int .i64 0, .int .i64 0, .int .i64 0, .int .i64 0, .int .i64 0, .string ⟨#[]⟩, .int .i64 0, .int .i64 0, .int .i64 0, .int .i64 0, .int .i64 0, .int .i64 0, .slice none 0 0] ∧ Blk W (w.heap.size + 2) 56 #[.int .i64 kind, .int .i64 0, .int .i64 0, .int .i64 0, .int .i64 0, .string ⟨#[]⟩, .int .i64 0, .int .i64 0, .int .i64 0, .int .i64 0, .int .i64 0, .int .i64 0, .slice none 0 0] ∧ Heap W (w.heap.size + 3) [] ∧ Below w.heap.size w W)
    ⟨(G0.out.far _ _ _ (by omega)), (G1.out.far _ _ _ (by omega)), (G2.out.store 0 _), heap_set1 G3.out (by omega) G2.out 0 _, (HB.out.setCell (show w.heap.size ≤ w.heap.size + 2 by omega) _)⟩ ?_
  clear z0 f0 q0 G0 G1 G2 G3 HB
  clear W
  rintro W ⟨h0, h1, h2, h3, hb⟩
  have G0 := Lib.hid h0
  have G1 := Lib.hid h1
  have G2 := Lib.hid h2
  have G3 := Lib.hid h3
  have HB := Lib.hid hb
  have q0 := h0.get 1
  simp at q0
  clear h0 h1 h2 h3 hb
  have z0 := G2.out.get 1
  have f0 := G2.out.frz 1
  simp at z0
  go_upto_region 4 with fail
  refine wp_gen (fun W => Blk W w.heap.size 75 #[.int .i64 kind, .int .i64 who, .int .i64 serial, .int .i64 at_, .int .i64 op_kind, .string op_key, .int .i64 op_what, .int .i64 op_val, .int .i64 code, .int .i64 win, .int .i64 steps, .int .i64 flips, .slice arows nrows crows] ∧ Blk W (w.heap.size + 1) 56 #[.int .i64 0, .int .i64 0, .int .i64 0, .int .i64 0, .int .i64 0, .string ⟨#[]⟩, .int .i64 0, .int .i64 0, .int .i64 0, .int .i64 0, .int .i64 0, .int .i64 0, .slice none 0 0] ∧ Blk W (w.heap.size + 2) 56 #[.int .i64 kind, .int .i64 who, .int .i64 0, .int .i64 0, .int .i64 0, .string ⟨#[]⟩, .int .i64 0, .int .i64 0, .int .i64 0, .int .i64 0, .int .i64 0, .int .i64 0, .slice none 0 0] ∧ Heap W (w.heap.size + 3) [] ∧ Below w.heap.size w W)
    ⟨(G0.out.far _ _ _ (by omega)), (G1.out.far _ _ _ (by omega)), (G2.out.store 1 _), heap_set1 G3.out (by omega) G2.out 1 _, (HB.out.setCell (show w.heap.size ≤ w.heap.size + 2 by omega) _)⟩ ?_
  clear z0 f0 q0 G0 G1 G2 G3 HB
  clear W
  rintro W ⟨h0, h1, h2, h3, hb⟩
  have G0 := Lib.hid h0
  have G1 := Lib.hid h1
  have G2 := Lib.hid h2
  have G3 := Lib.hid h3
  have HB := Lib.hid hb
  have q0 := h0.get 2
  simp at q0
  clear h0 h1 h2 h3 hb
  have z0 := G2.out.get 2
  have f0 := G2.out.frz 2
  simp at z0
  go_upto_region 5 with fail
  refine wp_gen (fun W => Blk W w.heap.size 75 #[.int .i64 kind, .int .i64 who, .int .i64 serial, .int .i64 at_, .int .i64 op_kind, .string op_key, .int .i64 op_what, .int .i64 op_val, .int .i64 code, .int .i64 win, .int .i64 steps, .int .i64 flips, .slice arows nrows crows] ∧ Blk W (w.heap.size + 1) 56 #[.int .i64 0, .int .i64 0, .int .i64 0, .int .i64 0, .int .i64 0, .string ⟨#[]⟩, .int .i64 0, .int .i64 0, .int .i64 0, .int .i64 0, .int .i64 0, .int .i64 0, .slice none 0 0] ∧ Blk W (w.heap.size + 2) 56 #[.int .i64 kind, .int .i64 who, .int .i64 serial, .int .i64 0, .int .i64 0, .string ⟨#[]⟩, .int .i64 0, .int .i64 0, .int .i64 0, .int .i64 0, .int .i64 0, .int .i64 0, .slice none 0 0] ∧ Heap W (w.heap.size + 3) [] ∧ Below w.heap.size w W)
    ⟨(G0.out.far _ _ _ (by omega)), (G1.out.far _ _ _ (by omega)), (G2.out.store 2 _), heap_set1 G3.out (by omega) G2.out 2 _, (HB.out.setCell (show w.heap.size ≤ w.heap.size + 2 by omega) _)⟩ ?_
  clear z0 f0 q0 G0 G1 G2 G3 HB
  clear W
  rintro W ⟨h0, h1, h2, h3, hb⟩
  have G0 := Lib.hid h0
  have G1 := Lib.hid h1
  have G2 := Lib.hid h2
  have G3 := Lib.hid h3
  have HB := Lib.hid hb
  have q0 := h0.get 3
  simp at q0
  clear h0 h1 h2 h3 hb
  have z0 := G2.out.get 3
  have f0 := G2.out.frz 3
  simp at z0
  go_upto_region 6 with fail
  refine wp_gen (fun W => Blk W w.heap.size 75 #[.int .i64 kind, .int .i64 who, .int .i64 serial, .int .i64 at_, .int .i64 op_kind, .string op_key, .int .i64 op_what, .int .i64 op_val, .int .i64 code, .int .i64 win, .int .i64 steps, .int .i64 flips, .slice arows nrows crows] ∧ Blk W (w.heap.size + 1) 56 #[.int .i64 0, .int .i64 0, .int .i64 0, .int .i64 0, .int .i64 0, .string ⟨#[]⟩, .int .i64 0, .int .i64 0, .int .i64 0, .int .i64 0, .int .i64 0, .int .i64 0, .slice none 0 0] ∧ Blk W (w.heap.size + 2) 56 #[.int .i64 kind, .int .i64 who, .int .i64 serial, .int .i64 at_, .int .i64 0, .string ⟨#[]⟩, .int .i64 0, .int .i64 0, .int .i64 0, .int .i64 0, .int .i64 0, .int .i64 0, .slice none 0 0] ∧ Heap W (w.heap.size + 3) [] ∧ Below w.heap.size w W)
    ⟨(G0.out.far _ _ _ (by omega)), (G1.out.far _ _ _ (by omega)), (G2.out.store 3 _), heap_set1 G3.out (by omega) G2.out 3 _, (HB.out.setCell (show w.heap.size ≤ w.heap.size + 2 by omega) _)⟩ ?_
  clear z0 f0 q0 G0 G1 G2 G3 HB
  clear W
  rintro W ⟨h0, h1, h2, h3, hb⟩
  have G0 := Lib.hid h0
  have G1 := Lib.hid h1
  have G2 := Lib.hid h2
  have G3 := Lib.hid h3
  have HB := Lib.hid hb
  have q0 := h0.get 4
  have q1 := h0.get 5
  have q2 := h0.get 6
  have q3 := h0.get 7
  simp at q0 q1 q2 q3
  clear h0 h1 h2 h3 hb
  go_wp2_with fail
  refine (HT _).out.mono ?_
  rintro e w2 ⟨rfl, hb2⟩
  replace G0 := Lib.hid (G0.out.below hb2)
  replace G1 := Lib.hid (G1.out.below hb2)
  replace G2 := Lib.hid (G2.out.below hb2)
  replace HB := Lib.hid (HB.out.trans (hb2.mono HB.out.size))
  replace G3 := Lib.hid (G3.out.below hb2)
  clear hb2 q0 q1 q2 q3
  have z0 := G2.out.get 4
  have f0 := G2.out.frz 4
  have z1 := G2.out.get 5
  have f1 := G2.out.frz 5
  have z2 := G2.out.get 6
  have f2 := G2.out.frz 6
  have z3 := G2.out.get 7
  have f3 := G2.out.frz 7
  simp at z0 z1 z2 z3
  go_upto_region 7 with fail
  refine wp_gen (fun W => Blk W w.heap.size 75 #[.int .i64 kind, .int .i64 who, .int .i64 serial, .int .i64 at_, .int .i64 op_kind, .string op_key, .int .i64 op_what, .int .i64 op_val, .int .i64 code, .int .i64 win, .int .i64 steps, .int .i64 flips, .slice arows nrows crows] ∧ Blk W (w.heap.size + 1) 56 #[.int .i64 0, .int .i64 0, .int .i64 0, .int .i64 0, .int .i64 0, .string ⟨#[]⟩, .int .i64 0, .int .i64 0, .int .i64 0, .int .i64 0, .int .i64 0, .int .i64 0, .slice none 0 0] ∧ Blk W (w.heap.size + 2) 56 #[.int .i64 kind, .int .i64 who, .int .i64 serial, .int .i64 at_, .int .i64 op_kind, .string op_key, .int .i64 op_what, .int .i64 op_val, .int .i64 0, .int .i64 0, .int .i64 0, .int .i64 0, .slice none 0 0] ∧ Heap W (w.heap.size + 3) [] ∧ Below w.heap.size w W)
    ⟨((((G0.out.far _ _ _ (by omega)).far _ _ _ (by omega)).far _ _ _ (by omega)).far _ _ _ (by omega)), ((((G1.out.far _ _ _ (by omega)).far _ _ _ (by omega)).far _ _ _ (by omega)).far _ _ _ (by omega)), ((((G2.out.store 4 _).store 5 _).store 6 _).store 7 _), heap_set1 (heap_set1 (heap_set1 (heap_set1 G3.out (by omega) G2.out 4 _) (by omega) (G2.out.store 4 _) 5 _) (by omega) ((G2.out.store 4 _).store 5 _) 6 _) (by omega) (((G2.out.store 4 _).store 5 _).store 6 _) 7 _, ((((HB.out.setCell (show w.heap.size ≤ w.heap.size + 2 by omega) _).setCell (show w.heap.size ≤ w.heap.size + 2 by omega) _).setCell (show w.heap.size ≤ w.heap.size + 2 by omega) _).setCell (show w.heap.size ≤ w.heap.size + 2 by omega) _)⟩ ?_
  clear z0 z1 z2 z3 f0 f1 f2 f3 G0 G1 G2 G3 HB
  clear w2
  clear W
  rintro W ⟨h0, h1, h2, h3, hb⟩
  have G0 := Lib.hid h0
  have G1 := Lib.hid h1
  have G2 := Lib.hid h2
  have G3 := Lib.hid h3
  have HB := Lib.hid hb
  have q0 := h0.get 8
  simp at q0
  clear h0 h1 h2 h3 hb
  have z0 := G2.out.get 8
  have f0 := G2.out.frz 8
  simp at z0
  go_upto_region 8 with fail
  refine wp_gen (fun W => Blk W w.heap.size 75 #[.int .i64 kind, .int .i64 who, .int .i64 serial, .int .i64 at_, .int .i64 op_kind, .string op_key, .int .i64 op_what, .int .i64 op_val, .int .i64 code, .int .i64 win, .int .i64 steps, .int .i64 flips, .slice arows nrows crows] ∧ Blk W (w.heap.size + 1) 56 #[.int .i64 0, .int .i64 0, .int .i64 0, .int .i64 0, .int .i64 0, .string ⟨#[]⟩, .int .i64 0, .int .i64 0, .int .i64 0, .int .i64 0, .int .i64 0, .int .i64 0, .slice none 0 0] ∧ Blk W (w.heap.size + 2) 56 #[.int .i64 kind, .int .i64 who, .int .i64 serial, .int .i64 at_, .int .i64 op_kind, .string op_key, .int .i64 op_what, .int .i64 op_val, .int .i64 code, .int .i64 0, .int .i64 0, .int .i64 0, .slice none 0 0] ∧ Heap W (w.heap.size + 3) [] ∧ Below w.heap.size w W)
    ⟨(G0.out.far _ _ _ (by omega)), (G1.out.far _ _ _ (by omega)), (G2.out.store 8 _), heap_set1 G3.out (by omega) G2.out 8 _, (HB.out.setCell (show w.heap.size ≤ w.heap.size + 2 by omega) _)⟩ ?_
  clear z0 f0 q0 G0 G1 G2 G3 HB
  clear W
  rintro W ⟨h0, h1, h2, h3, hb⟩
  have G0 := Lib.hid h0
  have G1 := Lib.hid h1
  have G2 := Lib.hid h2
  have G3 := Lib.hid h3
  have HB := Lib.hid hb
  have q0 := h0.get 9
  simp at q0
  clear h0 h1 h2 h3 hb
  have z0 := G2.out.get 9
  have f0 := G2.out.frz 9
  simp at z0
  go_upto_region 9 with fail
  refine wp_gen (fun W => Blk W w.heap.size 75 #[.int .i64 kind, .int .i64 who, .int .i64 serial, .int .i64 at_, .int .i64 op_kind, .string op_key, .int .i64 op_what, .int .i64 op_val, .int .i64 code, .int .i64 win, .int .i64 steps, .int .i64 flips, .slice arows nrows crows] ∧ Blk W (w.heap.size + 1) 56 #[.int .i64 0, .int .i64 0, .int .i64 0, .int .i64 0, .int .i64 0, .string ⟨#[]⟩, .int .i64 0, .int .i64 0, .int .i64 0, .int .i64 0, .int .i64 0, .int .i64 0, .slice none 0 0] ∧ Blk W (w.heap.size + 2) 56 #[.int .i64 kind, .int .i64 who, .int .i64 serial, .int .i64 at_, .int .i64 op_kind, .string op_key, .int .i64 op_what, .int .i64 op_val, .int .i64 code, .int .i64 win, .int .i64 0, .int .i64 0, .slice none 0 0] ∧ Heap W (w.heap.size + 3) [] ∧ Below w.heap.size w W)
    ⟨(G0.out.far _ _ _ (by omega)), (G1.out.far _ _ _ (by omega)), (G2.out.store 9 _), heap_set1 G3.out (by omega) G2.out 9 _, (HB.out.setCell (show w.heap.size ≤ w.heap.size + 2 by omega) _)⟩ ?_
  clear z0 f0 q0 G0 G1 G2 G3 HB
  clear W
  rintro W ⟨h0, h1, h2, h3, hb⟩
  have G0 := Lib.hid h0
  have G1 := Lib.hid h1
  have G2 := Lib.hid h2
  have G3 := Lib.hid h3
  have HB := Lib.hid hb
  have q0 := h0.get 10
  simp at q0
  clear h0 h1 h2 h3 hb
  have z0 := G2.out.get 10
  have f0 := G2.out.frz 10
  simp at z0
  go_upto_region 10 with fail
  refine wp_gen (fun W => Blk W w.heap.size 75 #[.int .i64 kind, .int .i64 who, .int .i64 serial, .int .i64 at_, .int .i64 op_kind, .string op_key, .int .i64 op_what, .int .i64 op_val, .int .i64 code, .int .i64 win, .int .i64 steps, .int .i64 flips, .slice arows nrows crows] ∧ Blk W (w.heap.size + 1) 56 #[.int .i64 0, .int .i64 0, .int .i64 0, .int .i64 0, .int .i64 0, .string ⟨#[]⟩, .int .i64 0, .int .i64 0, .int .i64 0, .int .i64 0, .int .i64 0, .int .i64 0, .slice none 0 0] ∧ Blk W (w.heap.size + 2) 56 #[.int .i64 kind, .int .i64 who, .int .i64 serial, .int .i64 at_, .int .i64 op_kind, .string op_key, .int .i64 op_what, .int .i64 op_val, .int .i64 code, .int .i64 win, .int .i64 steps, .int .i64 0, .slice none 0 0] ∧ Heap W (w.heap.size + 3) [] ∧ Below w.heap.size w W)
    ⟨(G0.out.far _ _ _ (by omega)), (G1.out.far _ _ _ (by omega)), (G2.out.store 10 _), heap_set1 G3.out (by omega) G2.out 10 _, (HB.out.setCell (show w.heap.size ≤ w.heap.size + 2 by omega) _)⟩ ?_
  clear z0 f0 q0 G0 G1 G2 G3 HB
  clear W
  rintro W ⟨h0, h1, h2, h3, hb⟩
  have G0 := Lib.hid h0
  have G1 := Lib.hid h1
  have G2 := Lib.hid h2
  have G3 := Lib.hid h3
  have HB := Lib.hid hb
  have q0 := h0.get 11
  simp at q0
  clear h0 h1 h2 h3 hb
  have z0 := G2.out.get 11
  have f0 := G2.out.frz 11
  simp at z0
  go_upto_region 11 with fail
  refine wp_gen (fun W => Blk W w.heap.size 75 #[.int .i64 kind, .int .i64 who, .int .i64 serial, .int .i64 at_, .int .i64 op_kind, .string op_key, .int .i64 op_what, .int .i64 op_val, .int .i64 code, .int .i64 win, .int .i64 steps, .int .i64 flips, .slice arows nrows crows] ∧ Blk W (w.heap.size + 1) 56 #[.int .i64 0, .int .i64 0, .int .i64 0, .int .i64 0, .int .i64 0, .string ⟨#[]⟩, .int .i64 0, .int .i64 0, .int .i64 0, .int .i64 0, .int .i64 0, .int .i64 0, .slice none 0 0] ∧ Blk W (w.heap.size + 2) 56 #[.int .i64 kind, .int .i64 who, .int .i64 serial, .int .i64 at_, .int .i64 op_kind, .string op_key, .int .i64 op_what, .int .i64 op_val, .int .i64 code, .int .i64 win, .int .i64 steps, .int .i64 flips, .slice none 0 0] ∧ Heap W (w.heap.size + 3) [] ∧ Below w.heap.size w W)
    ⟨(G0.out.far _ _ _ (by omega)), (G1.out.far _ _ _ (by omega)), (G2.out.store 11 _), heap_set1 G3.out (by omega) G2.out 11 _, (HB.out.setCell (show w.heap.size ≤ w.heap.size + 2 by omega) _)⟩ ?_
  clear z0 f0 q0 G0 G1 G2 G3 HB
  clear W
  rintro W ⟨h0, h1, h2, h3, hb⟩
  have G0 := Lib.hid h0
  have G1 := Lib.hid h1
  have G2 := Lib.hid h2
  have G3 := Lib.hid h3
  have HB := Lib.hid hb
  have q0 := h0.get 12
  simp at q0
  have HC := Lib.hid (Hrows W (Arows.out.below hb)).out
  clear h0 h1 h2 h3 hb
  go_wp2_with fail
  refine HC.out.mono ?_
  rintro e w2 ⟨u, rfl, ho, hb2⟩
  clear HC
  have hlt3 := G2.out.lt
  have hown : (⟨u, 62, 10, rows.length, (cellsR rows)⟩ : Rw).own w2 (w.heap.size + 3) := Rw.own_base (show (⟨u, 62, 10, rows.length, (cellsR rows)⟩ : Rw).own w2 W.heap.size from ho) hlt3
  obtain ⟨Brows, drows, rfl⟩ : ∃ A c, u = .slice A rows.length c := by
    rcases hown.2 with ⟨e, h0⟩ | ⟨g, cap, cur, e, _⟩
    · have h0 : rows.length = 0 := h0
      exact ⟨none, 0, by rw [h0]; exact e⟩
    · exact ⟨_, cap, e⟩
  rw [HNrows.out] at hown ⊢
  have HX := Lib.hid (Heap.join (G3.out.below hb2) (Heap.one (r := ⟨.slice Brows nrows drows, 62, 10, nrows, (cellsR rows)⟩) (show (⟨.slice Brows nrows drows, 62, 10, nrows, (cellsR rows)⟩ : Rw).own w2 W.heap.size from by have := ((show (⟨.slice Brows rows.length drows, 62, 10, rows.length, (cellsR rows)⟩ : Rw).own w2 W.heap.size from ho)); rw [HNrows.out] at this; exact this)) hlt3 (fun r hr b hbk => G3.out.lt hr b hbk))
  clear ho hown hlt3 G3
  replace G0 := Lib.hid (G0.out.below hb2)
  replace G1 := Lib.hid (G1.out.below hb2)
  replace G2 := Lib.hid (G2.out.below hb2)
  replace HB := Lib.hid (HB.out.trans (hb2.mono HB.out.size))
  have G3 := Lib.hid HX.out
  clear hb2 HX q0
  have z0 := G2.out.get 12
  have f0 := G2.out.frz 12
  simp at z0
  go_upto_region 12 with fail
  refine wp_gen (fun W => Blk W w.heap.size 75 #[.int .i64 kind, .int .i64 who, .int .i64 serial, .int .i64 at_, .int .i64 op_kind, .string op_key, .int .i64 op_what, .int .i64 op_val, .int .i64 code, .int .i64 win, .int .i64 steps, .int .i64 flips, .slice arows nrows crows] ∧ Blk W (w.heap.size + 1) 56 #[.int .i64 0, .int .i64 0, .int .i64 0, .int .i64 0, .int .i64 0, .string ⟨#[]⟩, .int .i64 0, .int .i64 0, .int .i64 0, .int .i64 0, .int .i64 0, .int .i64 0, .slice none 0 0] ∧ Blk W (w.heap.size + 2) 56 #[.int .i64 kind, .int .i64 who, .int .i64 serial, .int .i64 at_, .int .i64 op_kind, .string op_key, .int .i64 op_what, .int .i64 op_val, .int .i64 code, .int .i64 win, .int .i64 steps, .int .i64 flips, .slice Brows nrows drows] ∧ Heap W (w.heap.size + 3) [⟨.slice Brows nrows drows, 62, 10, nrows, (cellsR rows)⟩] ∧ Below w.heap.size w W)
    ⟨(G0.out.far _ _ _ (by omega)), (G1.out.far _ _ _ (by omega)), (G2.out.store 12 _), heap_set1 G3.out (by omega) G2.out 12 _, (HB.out.setCell (show w.heap.size ≤ w.heap.size + 2 by omega) _)⟩ ?_
  clear z0 f0 G0 G1 G2 G3 HB
  clear w2
  clear W
  rintro W ⟨h0, h1, h2, h3, hb⟩
  have G1 := Lib.hid h1
  have G2 := Lib.hid h2
  have G3 := Lib.hid h3
  have HB := Lib.hid hb
  have hu := Try.underlying56
  clear h0 h1 h2 h3 hb
  go_wp2_with (first | refine wpList_load_row rfl 56 _ rfl (w.heap.size + 2) rfl 56 #[.int .i64 kind, .int .i64 who, .int .i64 serial, .int .i64 at_, .int .i64 op_kind, .string op_key, .int .i64 op_what, .int .i64 op_val, .int .i64 code, .int .i64 win, .int .i64 steps, .int .i64 flips, .slice Brows nrows drows] (0, 0) _ G2.out hu rfl (by kernel_rfl) ?_ | refine wpList_store_row rfl 56 _ _ rfl (w.heap.size + 1) #[.int .i64 kind, .int .i64 who, .int .i64 serial, .int .i64 at_, .int .i64 op_kind, .string op_key, .int .i64 op_what, .int .i64 op_val, .int .i64 code, .int .i64 win, .int .i64 steps, .int .i64 flips, .slice Brows nrows drows] rfl rfl 56 _ G1.out (by kernel_rfl) rfl (by simp [Value.oneCell']) ?_)
  refine post_gen (fun X => Blk X (w.heap.size + 1) 56 #[.int .i64 kind, .int .i64 who, .int .i64 serial, .int .i64 at_, .int .i64 op_kind, .string op_key, .int .i64 op_what, .int .i64 op_val, .int .i64 code, .int .i64 win, .int .i64 steps, .int .i64 flips, .slice Brows nrows drows] ∧ Heap X (w.heap.size + 3) [⟨.slice Brows nrows drows, 62, 10, nrows, (cellsR rows)⟩] ∧ Below w.heap.size w X) ⟨setRow_heap _ _ _ _ _ _ G1.out, heap_setRow G3.out (by omega) _, below_setRow' HB.out (by omega) _⟩ ?_
  clear G1 G2 G3 HB
  rintro X ⟨h1, h3, hb⟩
  refine bodyPost_ret (v := .agg #[.int .i64 kind, .int .i64 who, .int .i64 serial, .int .i64 at_, .int .i64 op_kind, .string op_key, .int .i64 op_what, .int .i64 op_val, .int .i64 code, .int .i64 win, .int .i64 steps, .int .i64 flips, .slice Brows nrows drows]) (results_cell_row rfl _ _ _ _ _ (0, 0) _ rfl h1 hu rfl (by kernel_rfl)) rfl ⟨.slice Brows nrows drows, rfl, ?_, hb⟩
  rw [HNrows.out]
  exact h3.base (show w.heap.size ≤ w.heap.size + 3 by omega)
/-- Rows of such records, all of the call's own. -/
def MadeEvS (w : World) (l : List E) (e : Ending) (w' : World) : Prop := ∃ v, e = .returned v ∧ OwnY 56 13 evDat w' w.heap.size w'.heap.size v l ∧ Below w.heap.size w w'
set_option maxRecDepth 100000 in
set_option maxHeartbeats 4000000 in
theorem toEvS_any (w : World) (v : Value) (l : List E) (h : ArgT 13 evDat zeroE w v l) (hl : l.length ≤ 1048576) (hi : ∀ j, j < l.length → (l.getD j zeroE).rows.length ≤ 1048576) :
    Calls Try.prog 17 #[v] w (MadeEvS w l) := by
  obtain ⟨i0, hi0, hz0, hz1, hz2⟩ := info_parts info_Ev
  obtain ⟨A, cap, rfl, h1, h2, h3⟩ := h
  have HIL := Lib.hid hi
  have HP := Lib.hid (fun j (hj : j < l.length) => datL_part (z := zeroE) evDat_len l j hj)
  have HPZ := Lib.hid (partF_zero (z := zeroE) l)
  have HPA := Lib.hid (partF_all (z := zeroE) l)
  generalize hn : l.length = n at *
  have HN := Lib.hid hn
  have HC := Lib.hid h3
  clear hn h3 hi
  unfold maxLen at h2
  go_enter Try.func17, Try.ntmps17
  go_wp2_with (refine wpList_make_full _ rfl _ _ 29 rfl w.heap.size 56 i0 (.agg #[.int .i64 0, .int .i64 0, .int .i64 0, .int .i64 0, .int .i64 0, .string ⟨#[]⟩, .int .i64 0, .int .i64 0, .int .i64 0, .int .i64 0, .int .i64 0, .int .i64 0, .slice none 0 0]) 13 Try.underlying29 hi0 hz0 hz1 .i64 .i64 _ _ n rfl rfl rfl rfl ?c1 ?c2 ?c3 ?_; rotate_left 3; intro w1 hown hg; have HO := Lib.hid hown; have HG := Lib.hid hg; clear hown hg)
  case c1 => rw [hz2]; omega
  case c2 => unfold maxLen; omega
  case c3 => exact Nat.le_refl _
  clear hi0 hz0 hz1 hz2
  go_loopw [4] (fun i wr => ∃ j : Nat, j ≤ n ∧ i = .int .i64 j ∧ OwnX 56 13 n wr w.heap.size wr.heap.size (.slice (some ⟨w.heap.size, 0, none⟩) n n) (datL evDat (partF zeroE l j)) ∧ Below w.heap.size w wr) (fun i _ => n - (intOf i).toNat)
  case atStart =>
    refine ⟨0, Nat.zero_le _, rfl, ?_, below_madeF HG.out⟩
    rw [HPZ.out]
    exact OwnX.made HO.out rfl (by decide) evZero_ok.1 evZero_ok.2
  case round =>
    obtain ⟨j, hj, rfl, hh, hbl⟩ := hrel
    by_cases hlt : j < n
    · obtain ⟨b, off, hA, hb, hC⟩ := HC.out (by omega)
      obtain ⟨vrows, hrng, hin⟩ := ev_at ((hC j hlt).below hb hbl)
      obtain ⟨hp0, hp1, hp2⟩ := HP.out j hlt
      have HQ := Lib.hid (toEv_any wr (l.getD j zeroE) vrows hin (HIL.out j hlt))
      rw [hp0] at hh
      have HH := Lib.hid hh
      have HP1 := Lib.hid hp1
      have HP2 := Lib.hid hp2
      have HB := Lib.hid hbl
      have HR := Lib.hid hrng
      subst hA
      clear hh hbl hC hin hp0 hp1 hp2 hrng
      generalize l.getD j zeroE = r at *
      have hjn : (j : Int) < (n : Int) := by omega
      have hul := Try.underlying75
      go_wp2_with ((with_reducible show wpList _ _ _ _ _ _); refine wpList_load_mid rfl 75 _ rfl b (off + j * 13) rfl (evVals r vrows).toList _ HR.out hul rfl (by kernel_rfl) ?_)
      refine HQ.out.mono ?_
      rintro e w2 ⟨urows, rfl, hn2, hb2⟩
      obtain ⟨Arows, crows, rfl⟩ := Rw.slice (hn2.own _ List.mem_cons_self)
      have hsz := HB.out.size
      have hB2 := HB.out.trans (hb2.mono hsz)
      have hH2 := HH.out.below hb2
      have hthere := hH2.there (o := j * 13) (m := (evVals r (.slice Arows r.rows.length crows)).size) (by show j * 13 + 13 ≤ n * 13; omega)
      have HT := Lib.hid hthere
      have HN2 := Lib.hid hn2
      have HB2 := Lib.hid hB2
      have HH2 := Lib.hid hH2
      have HS2 := Lib.hid hb2.size
      have HSZ := Lib.hid hsz
      clear hn2 hb2 hB2 hH2 hsz hthere HB HH
      have HPT := Lib.hid (OwnX.put (us := (evVals r (.slice Arows r.rows.length crows)).toList) (D' := evDat r) HH2.out HP2.out rfl (evVals_ok _ _) (E' := w2.heap.size) ⟨HN2.out, fun x hx => HN2.out.lt hx⟩ (Nat.le_refl _) HSZ.out HS2.out)
      have HBT := Lib.hid (below_putN HB2.out (Nat.le_refl w.heap.size) (evVals r (.slice Arows r.rows.length crows)).toList (j * 13))
      clear HN2 HH2 HB2
      go_wp2_with ((with_reducible show wpList _ _ _ [_] _ _); refine wpList_store_mid rfl 56 _ _ rfl w.heap.size (j * 13) (evVals r (.slice Arows r.rows.length crows)) rfl rfl HT.out (by kernel_rfl) (by simp [evVals, Value.oneCell']) ?_; rw [setCells_putN]; generalize putN w2 w.heap.size (j * 13) (evVals r (.slice Arows r.rows.length crows)).toList = W at HPT HBT ⊢)
      go_roundw
      case rel =>
        refine ⟨j + 1, by omega, by go_num, ?_, HBT.out⟩
        rw [HP1.out]
        exact HPT.out.1.mono HPT.out.2.size
      case measure => simp [intOf]; omega
    · have hjn : j = n := by omega
      subst hjn
      have HH2 := Lib.hid hh
      have HB2 := Lib.hid hbl
      clear hh hbl
      go_wp2_with fail
      go_ret
      refine ⟨_, rfl, ?_, HB2.out⟩
      have := HH2.out
      rw [HPA.out] at this
      unfold OwnY
      rw [HN.out]
      exact this
end Go.Proofs.Ytcfdnfckilpppaa
/-
  A world as a value, and the exact laws' copy of it.
-/
namespace Go.Proofs.Ytcfdnfckilpppaa
open Go.RowKit M
set_option linter.unusedVariables false
set_option linter.unusedSimpArgs false
def intRw (v : Value) (zs : List Int) : Rw := ⟨v, 3, 1, zs.length, zs.map (Value.int .i64)⟩
def worVals (s : S) (vc vj vt vl : Value) : Array Value := #[vc, vj, vt, vl, .int .i64 s.serial, .int .i64 s.now]
/-- The world's rows read as they should. -/
structure WorIn (w : World) (s : S) (vc vj vt vl : Value) : Prop where
  c : IntsArg w vc s.cells
  j : ArgT 18 jobDat zeroJ w vj s.jobs
  t : ArgQ w vt s.todo
  l : ArgT 13 evDat zeroE w vl s.log
theorem WorIn.below {w w' : World} {s : S} {vc vj vt vl : Value} (h : WorIn w s vc vj vt vl) (hb : Below w.heap.size w w') : WorIn w' s vc vj vt vl := ⟨h.c.below hb, h.j.below hb, h.t.below hb, h.l.below hb⟩
/-- The world's rows are a call's own, in four stretches of blocks. -/
structure WorOwn (w : World) (B E1 E2 E3 E4 : Nat) (s : S) (vc vj vt vl : Value) : Prop where
  c : HeapE w B E1 [intRw vc s.cells]
  j : OwnY 86 18 jobDat w E1 E2 vj s.jobs
  t : OwnDE 90 53 4 opCells w E2 E3 vt s.todo
  l : OwnY 56 13 evDat w E3 E4 vl s.log
  h1 : B ≤ E1
  h2 : E1 ≤ E2
  h3 : E2 ≤ E3
  h4 : E3 ≤ E4
def MadeW (w : World) (s : S) (e : Ending) (w' : World) : Prop := ∃ vc vj vt vl E1 E2 E3, e = .returned (.agg (worVals s vc vj vt vl)) ∧ WorOwn w' w.heap.size E1 E2 E3 w'.heap.size s vc vj vt vl ∧ Below w.heap.size w w'
/-- No row is longer than a budget allows. -/
structure SmallS (s : S) : Prop where
  c : s.cells.length ≤ 1048576
  j : s.jobs.length ≤ 1048576
  jk : ∀ j, j < s.jobs.length → (s.jobs.getD j zeroJ).keys.length ≤ 1048576 ∧ (s.jobs.getD j zeroJ).raw.length ≤ 1048576
  t : s.todo.length ≤ 1048576
  tk : ∀ j, j < s.todo.length → (s.todo.getD j []).length ≤ 1048576
  l : s.log.length ≤ 1048576
  lk : ∀ j, j < s.log.length → (s.log.getD j zeroE).rows.length ≤ 1048576
theorem intRw_slice {w : World} {B E : Nat} {v : Value} {zs : List Int} (h : HeapE w B E [intRw v zs]) : ∃ A c, v = .slice A zs.length c := Rw.slice (h.1.own _ List.mem_cons_self)
theorem HeapE.far1 {w w' : World} {B E g : Nat} {L : List Rw} (h : HeapE w B E L) (hc : Chg (Within g (g + 1)) w w') (hg : g < B) : HeapE w' B E L := h.far hc (.inr (by omega))
set_option maxRecDepth 100000 in
set_option maxHeartbeats 8000000 in
theorem toWorld_any (w : World) (s : S) (vc vj vt vl : Value) (h : WorIn w s vc vj vt vl) (hs : SmallS s) : Calls Try.prog 8 #[.agg (worVals s vc vj vt vl)] w (MadeW w s) := by
  have Cc := fun W (h : IntsArg W vc s.cells) => Lib.hid (toIntS_any W vc s.cells h hs.c)
  have Hc := Lib.hid h.c
  have Cj := fun W (h : ArgT 18 jobDat zeroJ W vj s.jobs) => Lib.hid (toJobS_any W vj s.jobs h hs.j hs.jk)
  have Hj := Lib.hid h.j
  have Ct := fun W (h : ArgQ W vt s.todo) => Lib.hid (toQueueS_any W vt s.todo h hs.t hs.tk)
  have Ht := Lib.hid h.t
  have Cl := fun W (h : ArgT 13 evDat zeroE W vl s.log) => Lib.hid (toEvS_any W vl s.log h hs.l hs.lk)
  have Hl := Lib.hid h.l
  obtain ⟨⟨Ac, cc, rfl, _, _, _⟩, ⟨Aj, cj, rfl, _, _, _⟩, ⟨At, ct, rfl, _, _, _⟩, ⟨Al, cl, rfl, _, _, _⟩⟩ := h
  clear hs
  obtain ⟨cells, jobs, todo, log, serial, now⟩ := s
  unfold worVals
  simp only at *
  generalize hnc : cells.length = nc at *
  have HNc := Lib.hid hnc
  clear hnc
  generalize hnj : jobs.length = nj at *
  have HNj := Lib.hid hnj
  clear hnj
  generalize hnt : todo.length = nt at *
  have HNt := Lib.hid hnt
  clear hnt
  generalize hnl : log.length = nl at *
  have HNl := Lib.hid hnl
  clear hnl
  go_enter Try.func8, Try.ntmps8
  go_upto_region 2 with fail
  refine wp_gen (fun W => Blk W w.heap.size 27 #[.slice Ac nc cc, .slice Aj nj cj, .slice At nt ct, .slice Al nl cl, .int .i64 serial, .int .i64 now] ∧ Blk W (w.heap.size + 1) 34 #[.slice none 0 0, .slice none 0 0, .slice none 0 0, .slice none 0 0, .int .i64 0, .int .i64 0] ∧ Blk W (w.heap.size + 2) 34 #[.slice none 0 0, .slice none 0 0, .slice none 0 0, .slice none 0 0, .int .i64 0, .int .i64 0] ∧ Below w.heap.size w W ∧ w.heap.size + 3 ≤ W.heap.size)
    ⟨((Blk.new w _ _ _ rfl).alloc _).alloc _, (Blk.new _ _ _ _ (by simp [go_sem])).alloc _, Blk.new _ _ _ _ (by simp [go_sem]), (((Below.refl _ _).alloc (Nat.le_refl _) _).alloc (by simp [go_sem]) _).alloc (by simp [go_sem]; omega) _, by simp [go_sem]⟩ ?_
  rintro W ⟨h0, h1, h2, hb, hz⟩
  have G0 := Lib.hid h0; have G1 := Lib.hid h1; have G2 := Lib.hid h2; have HB := Lib.hid hb; have HZ := Lib.hid hz
  have q := h0.get 0
  simp at q
  have HC := Lib.hid (Cc W (Hc.out.below hb)).out
  clear h0 h1 h2 hb hz
  go_wp2_with fail
  refine HC.out.mono ?_
  rintro e w2 ⟨u, rfl, ho, hb2⟩
  clear HC
  have ho' : HeapE w2 (w.heap.size + 3) w2.heap.size [intRw u cells] := HeapE.made (Heap.one (Rw.own_base (show (intRw u cells).own w2 W.heap.size from ho.1) HZ.out))
  obtain ⟨Bc, dc, rfl⟩ : ∃ A c, u = .slice A cells.length c := by
    exact intRw_slice ho'
  rw [HNc.out] at ho' ⊢
  replace G0 := Lib.hid (G0.out.below hb2); replace G1 := Lib.hid (G1.out.below hb2); replace G2 := Lib.hid (G2.out.below hb2); replace HB := Lib.hid (HB.out.trans (hb2.mono HB.out.size))
  obtain ⟨E1, hE1⟩ : ∃ E, w2.heap.size = E := ⟨_, rfl⟩
  have hsz := hb2.size
  have hz := HZ.out
  rw [hE1] at ho'
  have Oc := Lib.hid (show _ ∧ (w.heap.size + 3) ≤ E1 from ⟨ho', by omega⟩)
  have HE := Lib.hid (Nat.le_of_eq hE1.symm)
  clear ho ho' hb2 q hE1 hsz hz HZ
  have z0 := G2.out.get 0
  simp at z0
  have fz := G2.out.frz 0
  have HCH := Lib.hid (chg_set G2.out 0 (.slice Bc nc dc))
  go_upto_region 3 with fail
  refine wp_gen (fun W => Blk W w.heap.size 27 #[.slice Ac nc cc, .slice Aj nj cj, .slice At nt ct, .slice Al nl cl, .int .i64 serial, .int .i64 now] ∧ Blk W (w.heap.size + 1) 34 #[.slice none 0 0, .slice none 0 0, .slice none 0 0, .slice none 0 0, .int .i64 0, .int .i64 0] ∧ Blk W (w.heap.size + 2) 34 #[.slice Bc nc dc, .slice none 0 0, .slice none 0 0, .slice none 0 0, .int .i64 0, .int .i64 0] ∧ Below w.heap.size w W ∧ E1 ≤ W.heap.size ∧ (HeapE W (w.heap.size + 3) E1 [intRw (.slice Bc nc dc) cells] ∧ w.heap.size + 3 ≤ E1))
    ⟨G0.out.far _ _ _ (by omega), G1.out.far _ _ _ (by omega), G2.out.store 0 _, HB.out.setCell (show w.heap.size ≤ w.heap.size + 2 by omega) _, Nat.le_trans HE.out HCH.out.size, ⟨Oc.out.1.far1 HCH.out (by have := Oc.out.2; omega), Oc.out.2⟩⟩ ?_
  clear z0 fz G0 G1 G2 HB HE HCH Oc
  clear w2
  clear W
  rintro W ⟨h0, h1, h2, hb, hz, oc⟩
  have G0 := Lib.hid h0; have G1 := Lib.hid h1; have G2 := Lib.hid h2; have HB := Lib.hid hb; have HZ := Lib.hid hz
  have Oc := Lib.hid oc
  have q := h0.get 1
  simp at q
  have HC := Lib.hid (Cj W (Hj.out.below hb)).out
  clear h0 h1 h2 hb hz oc
  go_wp2_with fail
  refine HC.out.mono ?_
  rintro e w2 ⟨u, rfl, ho, hb2⟩
  clear HC
  have ho' : OwnY 86 18 jobDat w2 E1 w2.heap.size u jobs := OwnX.base ho HZ.out
  obtain ⟨Bj, dj, rfl⟩ : ∃ A c, u = .slice A jobs.length c := by
    exact OwnY.shape ho'
  rw [HNj.out] at ho' ⊢
  replace G0 := Lib.hid (G0.out.below hb2); replace G1 := Lib.hid (G1.out.below hb2); replace G2 := Lib.hid (G2.out.below hb2); replace HB := Lib.hid (HB.out.trans (hb2.mono HB.out.size))
  replace Oc := Lib.hid (show _ ∧ _ from ⟨Oc.out.1.below hb2, Oc.out.2⟩)
  obtain ⟨E2, hE2⟩ : ∃ E, w2.heap.size = E := ⟨_, rfl⟩
  have hsz := hb2.size
  have hz := HZ.out
  rw [hE2] at ho'
  have Oj := Lib.hid (show _ ∧ E1 ≤ E2 from ⟨ho', by omega⟩)
  have HE := Lib.hid (Nat.le_of_eq hE2.symm)
  clear ho ho' hb2 q hE2 hsz hz HZ
  have z0 := G2.out.get 1
  simp at z0
  have fz := G2.out.frz 1
  have HCH := Lib.hid (chg_set G2.out 1 (.slice Bj nj dj))
  go_upto_region 4 with fail
  refine wp_gen (fun W => Blk W w.heap.size 27 #[.slice Ac nc cc, .slice Aj nj cj, .slice At nt ct, .slice Al nl cl, .int .i64 serial, .int .i64 now] ∧ Blk W (w.heap.size + 1) 34 #[.slice none 0 0, .slice none 0 0, .slice none 0 0, .slice none 0 0, .int .i64 0, .int .i64 0] ∧ Blk W (w.heap.size + 2) 34 #[.slice Bc nc dc, .slice Bj nj dj, .slice none 0 0, .slice none 0 0, .int .i64 0, .int .i64 0] ∧ Below w.heap.size w W ∧ E2 ≤ W.heap.size ∧ (HeapE W (w.heap.size + 3) E1 [intRw (.slice Bc nc dc) cells] ∧ w.heap.size + 3 ≤ E1) ∧ (OwnY 86 18 jobDat W E1 E2 (.slice Bj nj dj) jobs ∧ E1 ≤ E2))
    ⟨G0.out.far _ _ _ (by omega), G1.out.far _ _ _ (by omega), G2.out.store 1 _, HB.out.setCell (show w.heap.size ≤ w.heap.size + 2 by omega) _, Nat.le_trans HE.out HCH.out.size, ⟨Oc.out.1.far1 HCH.out (by have := Oc.out.2; have := Oj.out.2; omega), Oc.out.2⟩, ⟨OwnX.far Oj.out.1 HCH.out (.inr (by have := Oc.out.2; have := Oj.out.2; omega)), Oj.out.2⟩⟩ ?_
  clear z0 fz G0 G1 G2 HB HE HCH Oc Oj
  clear w2
  clear W
  rintro W ⟨h0, h1, h2, hb, hz, oc, oj⟩
  have G0 := Lib.hid h0; have G1 := Lib.hid h1; have G2 := Lib.hid h2; have HB := Lib.hid hb; have HZ := Lib.hid hz
  have Oc := Lib.hid oc
  have Oj := Lib.hid oj
  have q := h0.get 2
  simp at q
  have HC := Lib.hid (Ct W (Ht.out.below hb)).out
  clear h0 h1 h2 hb hz oc oj
  go_wp2_with fail
  refine HC.out.mono ?_
  rintro e w2 ⟨u, rfl, ho, hb2⟩
  clear HC
  have ho' := OwnD.made (OwnD.base ho HZ.out)
  obtain ⟨Bt, dt, rfl⟩ : ∃ A c, u = .slice A todo.length c := by
    exact OwnDE.slice ho'
  rw [HNt.out] at ho' ⊢
  replace G0 := Lib.hid (G0.out.below hb2); replace G1 := Lib.hid (G1.out.below hb2); replace G2 := Lib.hid (G2.out.below hb2); replace HB := Lib.hid (HB.out.trans (hb2.mono HB.out.size))
  replace Oc := Lib.hid (show _ ∧ _ from ⟨Oc.out.1.below hb2, Oc.out.2⟩)
  replace Oj := Lib.hid (show _ ∧ _ from ⟨Oj.out.1.below hb2, Oj.out.2⟩)
  obtain ⟨E3, hE3⟩ : ∃ E, w2.heap.size = E := ⟨_, rfl⟩
  have hsz := hb2.size
  have hz := HZ.out
  rw [hE3] at ho'
  have Ot := Lib.hid (show _ ∧ E2 ≤ E3 from ⟨ho', by omega⟩)
  have HE := Lib.hid (Nat.le_of_eq hE3.symm)
  clear ho ho' hb2 q hE3 hsz hz HZ
  have z0 := G2.out.get 2
  simp at z0
  have fz := G2.out.frz 2
  have HCH := Lib.hid (chg_set G2.out 2 (.slice Bt nt dt))
  go_upto_region 5 with fail
  refine wp_gen (fun W => Blk W w.heap.size 27 #[.slice Ac nc cc, .slice Aj nj cj, .slice At nt ct, .slice Al nl cl, .int .i64 serial, .int .i64 now] ∧ Blk W (w.heap.size + 1) 34 #[.slice none 0 0, .slice none 0 0, .slice none 0 0, .slice none 0 0, .int .i64 0, .int .i64 0] ∧ Blk W (w.heap.size + 2) 34 #[.slice Bc nc dc, .slice Bj nj dj, .slice Bt nt dt, .slice none 0 0, .int .i64 0, .int .i64 0] ∧ Below w.heap.size w W ∧ E3 ≤ W.heap.size ∧ (HeapE W (w.heap.size + 3) E1 [intRw (.slice Bc nc dc) cells] ∧ w.heap.size + 3 ≤ E1) ∧ (OwnY 86 18 jobDat W E1 E2 (.slice Bj nj dj) jobs ∧ E1 ≤ E2) ∧ (OwnDE 90 53 4 opCells W E2 E3 (.slice Bt nt dt) todo ∧ E2 ≤ E3))
    ⟨G0.out.far _ _ _ (by omega), G1.out.far _ _ _ (by omega), G2.out.store 2 _, HB.out.setCell (show w.heap.size ≤ w.heap.size + 2 by omega) _, Nat.le_trans HE.out HCH.out.size, ⟨Oc.out.1.far1 HCH.out (by have := Oc.out.2; have := Oj.out.2; have := Ot.out.2; omega), Oc.out.2⟩, ⟨OwnX.far Oj.out.1 HCH.out (.inr (by have := Oc.out.2; have := Oj.out.2; have := Ot.out.2; omega)), Oj.out.2⟩, ⟨OwnDE.far Ot.out.1 HCH.out (.inr (by have := Oc.out.2; have := Oj.out.2; have := Ot.out.2; omega)), Ot.out.2⟩⟩ ?_
  clear z0 fz G0 G1 G2 HB HE HCH Oc Oj Ot
  clear w2
  clear W
  rintro W ⟨h0, h1, h2, hb, hz, oc, oj, ot⟩
  have G0 := Lib.hid h0; have G1 := Lib.hid h1; have G2 := Lib.hid h2; have HB := Lib.hid hb; have HZ := Lib.hid hz
  have Oc := Lib.hid oc
  have Oj := Lib.hid oj
  have Ot := Lib.hid ot
  have q := h0.get 3
  simp at q
  have HC := Lib.hid (Cl W (Hl.out.below hb)).out
  clear h0 h1 h2 hb hz oc oj ot
  go_wp2_with fail
  refine HC.out.mono ?_
  rintro e w2 ⟨u, rfl, ho, hb2⟩
  clear HC
  have ho' : OwnY 56 13 evDat w2 E3 w2.heap.size u log := OwnX.base ho HZ.out
  obtain ⟨Bl, dl, rfl⟩ : ∃ A c, u = .slice A log.length c := by
    exact OwnY.shape ho'
  rw [HNl.out] at ho' ⊢
  replace G0 := Lib.hid (G0.out.below hb2); replace G1 := Lib.hid (G1.out.below hb2); replace G2 := Lib.hid (G2.out.below hb2); replace HB := Lib.hid (HB.out.trans (hb2.mono HB.out.size))
  replace Oc := Lib.hid (show _ ∧ _ from ⟨Oc.out.1.below hb2, Oc.out.2⟩)
  replace Oj := Lib.hid (show _ ∧ _ from ⟨Oj.out.1.below hb2, Oj.out.2⟩)
  replace Ot := Lib.hid (show _ ∧ _ from ⟨Ot.out.1.below hb2, Ot.out.2⟩)
  obtain ⟨E4, hE4⟩ : ∃ E, w2.heap.size = E := ⟨_, rfl⟩
  have hsz := hb2.size
  have hz := HZ.out
  rw [hE4] at ho'
  have Ol := Lib.hid (show _ ∧ E3 ≤ E4 from ⟨ho', by omega⟩)
  have HE := Lib.hid (Nat.le_of_eq hE4.symm)
  clear ho ho' hb2 q hE4 hsz hz HZ
  have z0 := G2.out.get 3
  simp at z0
  have fz := G2.out.frz 3
  have HCH := Lib.hid (chg_set G2.out 3 (.slice Bl nl dl))
  go_upto_region 6 with fail
  refine wp_gen (fun W => Blk W w.heap.size 27 #[.slice Ac nc cc, .slice Aj nj cj, .slice At nt ct, .slice Al nl cl, .int .i64 serial, .int .i64 now] ∧ Blk W (w.heap.size + 1) 34 #[.slice none 0 0, .slice none 0 0, .slice none 0 0, .slice none 0 0, .int .i64 0, .int .i64 0] ∧ Blk W (w.heap.size + 2) 34 #[.slice Bc nc dc, .slice Bj nj dj, .slice Bt nt dt, .slice Bl nl dl, .int .i64 0, .int .i64 0] ∧ Below w.heap.size w W ∧ E4 ≤ W.heap.size ∧ (HeapE W (w.heap.size + 3) E1 [intRw (.slice Bc nc dc) cells] ∧ w.heap.size + 3 ≤ E1) ∧ (OwnY 86 18 jobDat W E1 E2 (.slice Bj nj dj) jobs ∧ E1 ≤ E2) ∧ (OwnDE 90 53 4 opCells W E2 E3 (.slice Bt nt dt) todo ∧ E2 ≤ E3) ∧ (OwnY 56 13 evDat W E3 E4 (.slice Bl nl dl) log ∧ E3 ≤ E4))
    ⟨G0.out.far _ _ _ (by omega), G1.out.far _ _ _ (by omega), G2.out.store 3 _, HB.out.setCell (show w.heap.size ≤ w.heap.size + 2 by omega) _, Nat.le_trans HE.out HCH.out.size, ⟨Oc.out.1.far1 HCH.out (by have := Oc.out.2; have := Oj.out.2; have := Ot.out.2; have := Ol.out.2; omega), Oc.out.2⟩, ⟨OwnX.far Oj.out.1 HCH.out (.inr (by have := Oc.out.2; have := Oj.out.2; have := Ot.out.2; have := Ol.out.2; omega)), Oj.out.2⟩, ⟨OwnDE.far Ot.out.1 HCH.out (.inr (by have := Oc.out.2; have := Oj.out.2; have := Ot.out.2; have := Ol.out.2; omega)), Ot.out.2⟩, ⟨OwnX.far Ol.out.1 HCH.out (.inr (by have := Oc.out.2; have := Oj.out.2; have := Ot.out.2; have := Ol.out.2; omega)), Ol.out.2⟩⟩ ?_
  clear z0 fz G0 G1 G2 HB HE HCH Oc Oj Ot Ol
  clear w2
  clear W
  rintro W ⟨h0, h1, h2, hb, hz, oc, oj, ot, ol⟩
  have G0 := Lib.hid h0; have G1 := Lib.hid h1; have G2 := Lib.hid h2; have HB := Lib.hid hb; have HZ := Lib.hid hz
  have Oc := Lib.hid oc
  have Oj := Lib.hid oj
  have Ot := Lib.hid ot
  have Ol := Lib.hid ol
  have q := h0.get 4
  have z0 := h2.get 4
  simp at q z0
  have fz := h2.frz 4
  have HCH := Lib.hid (chg_set h2 4 (.int .i64 serial))
  clear h0 h1 h2 hb hz oc oj ot ol
  go_upto_region 7 with fail
  refine wp_gen (fun W => Blk W w.heap.size 27 #[.slice Ac nc cc, .slice Aj nj cj, .slice At nt ct, .slice Al nl cl, .int .i64 serial, .int .i64 now] ∧ Blk W (w.heap.size + 1) 34 #[.slice none 0 0, .slice none 0 0, .slice none 0 0, .slice none 0 0, .int .i64 0, .int .i64 0] ∧ Blk W (w.heap.size + 2) 34 #[.slice Bc nc dc, .slice Bj nj dj, .slice Bt nt dt, .slice Bl nl dl, .int .i64 serial, .int .i64 0] ∧ Below w.heap.size w W ∧ E4 ≤ W.heap.size ∧ (HeapE W (w.heap.size + 3) E1 [intRw (.slice Bc nc dc) cells] ∧ w.heap.size + 3 ≤ E1) ∧ (OwnY 86 18 jobDat W E1 E2 (.slice Bj nj dj) jobs ∧ E1 ≤ E2) ∧ (OwnDE 90 53 4 opCells W E2 E3 (.slice Bt nt dt) todo ∧ E2 ≤ E3) ∧ (OwnY 56 13 evDat W E3 E4 (.slice Bl nl dl) log ∧ E3 ≤ E4))
    ⟨G0.out.far _ _ _ (by omega), G1.out.far _ _ _ (by omega), G2.out.store 4 _, HB.out.setCell (show w.heap.size ≤ w.heap.size + 2 by omega) _, Nat.le_trans HZ.out HCH.out.size, ⟨Oc.out.1.far1 HCH.out (by have := Oc.out.2; have := Oj.out.2; have := Ot.out.2; have := Ol.out.2; omega), Oc.out.2⟩, ⟨OwnX.far Oj.out.1 HCH.out (.inr (by have := Oc.out.2; have := Oj.out.2; have := Ot.out.2; have := Ol.out.2; omega)), Oj.out.2⟩, ⟨OwnDE.far Ot.out.1 HCH.out (.inr (by have := Oc.out.2; have := Oj.out.2; have := Ot.out.2; have := Ol.out.2; omega)), Ot.out.2⟩, ⟨OwnX.far Ol.out.1 HCH.out (.inr (by have := Oc.out.2; have := Oj.out.2; have := Ot.out.2; have := Ol.out.2; omega)), Ol.out.2⟩⟩ ?_
  clear q z0 fz G0 G1 G2 HB HZ HCH Oc Oj Ot Ol
  clear W
  rintro W ⟨h0, h1, h2, hb, hz, oc, oj, ot, ol⟩
  have G0 := Lib.hid h0; have G1 := Lib.hid h1; have G2 := Lib.hid h2; have HB := Lib.hid hb; have HZ := Lib.hid hz
  have Oc := Lib.hid oc
  have Oj := Lib.hid oj
  have Ot := Lib.hid ot
  have Ol := Lib.hid ol
  have q := h0.get 5
  have z0 := h2.get 5
  simp at q z0
  have fz := h2.frz 5
  have HCH := Lib.hid (chg_set h2 5 (.int .i64 now))
  clear h0 h1 h2 hb hz oc oj ot ol
  go_upto_region 8 with fail
  refine wp_gen (fun W => Blk W w.heap.size 27 #[.slice Ac nc cc, .slice Aj nj cj, .slice At nt ct, .slice Al nl cl, .int .i64 serial, .int .i64 now] ∧ Blk W (w.heap.size + 1) 34 #[.slice none 0 0, .slice none 0 0, .slice none 0 0, .slice none 0 0, .int .i64 0, .int .i64 0] ∧ Blk W (w.heap.size + 2) 34 #[.slice Bc nc dc, .slice Bj nj dj, .slice Bt nt dt, .slice Bl nl dl, .int .i64 serial, .int .i64 now] ∧ Below w.heap.size w W ∧ E4 ≤ W.heap.size ∧ (HeapE W (w.heap.size + 3) E1 [intRw (.slice Bc nc dc) cells] ∧ w.heap.size + 3 ≤ E1) ∧ (OwnY 86 18 jobDat W E1 E2 (.slice Bj nj dj) jobs ∧ E1 ≤ E2) ∧ (OwnDE 90 53 4 opCells W E2 E3 (.slice Bt nt dt) todo ∧ E2 ≤ E3) ∧ (OwnY 56 13 evDat W E3 E4 (.slice Bl nl dl) log ∧ E3 ≤ E4))
    ⟨G0.out.far _ _ _ (by omega), G1.out.far _ _ _ (by omega), G2.out.store 5 _, HB.out.setCell (show w.heap.size ≤ w.heap.size + 2 by omega) _, Nat.le_trans HZ.out HCH.out.size, ⟨Oc.out.1.far1 HCH.out (by have := Oc.out.2; have := Oj.out.2; have := Ot.out.2; have := Ol.out.2; omega), Oc.out.2⟩, ⟨OwnX.far Oj.out.1 HCH.out (.inr (by have := Oc.out.2; have := Oj.out.2; have := Ot.out.2; have := Ol.out.2; omega)), Oj.out.2⟩, ⟨OwnDE.far Ot.out.1 HCH.out (.inr (by have := Oc.out.2; have := Oj.out.2; have := Ot.out.2; have := Ol.out.2; omega)), Ot.out.2⟩, ⟨OwnX.far Ol.out.1 HCH.out (.inr (by have := Oc.out.2; have := Oj.out.2; have := Ot.out.2; have := Ol.out.2; omega)), Ol.out.2⟩⟩ ?_
  clear q z0 fz G0 G1 G2 HB HZ HCH Oc Oj Ot Ol
  clear W
  rintro W ⟨h0, h1, h2, hb, hz, oc, oj, ot, ol⟩
  have G1 := Lib.hid h1; have G2 := Lib.hid h2; have HB := Lib.hid hb; have HZ := Lib.hid hz
  have Oc := Lib.hid oc
  have Oj := Lib.hid oj
  have Ot := Lib.hid ot
  have Ol := Lib.hid ol
  have hu := Try.underlying34
  clear h0 h1 h2 hb hz oc oj ot ol
  go_wp2_with (first | refine wpList_load_row rfl 34 _ rfl (w.heap.size + 2) rfl 34 #[.slice Bc nc dc, .slice Bj nj dj, .slice Bt nt dt, .slice Bl nl dl, .int .i64 serial, .int .i64 now] (0, 0) _ G2.out hu rfl (by kernel_rfl) ?_ | refine wpList_store_row rfl 34 _ _ rfl (w.heap.size + 1) #[.slice Bc nc dc, .slice Bj nj dj, .slice Bt nt dt, .slice Bl nl dl, .int .i64 serial, .int .i64 now] rfl rfl 34 _ G1.out (by kernel_rfl) rfl (by simp [Value.oneCell']) ?_)
  have HCH := Lib.hid (chg_setRow W (w.heap.size + 1) #[.slice Bc nc dc, .slice Bj nj dj, .slice Bt nt dt, .slice Bl nl dl, .int .i64 serial, .int .i64 now])
  refine post_gen (fun X => Blk X (w.heap.size + 1) 34 #[.slice Bc nc dc, .slice Bj nj dj, .slice Bt nt dt, .slice Bl nl dl, .int .i64 serial, .int .i64 now] ∧ Below w.heap.size w X ∧ E4 ≤ X.heap.size ∧ (HeapE X (w.heap.size + 3) E1 [intRw (.slice Bc nc dc) cells] ∧ w.heap.size + 3 ≤ E1) ∧ (OwnY 86 18 jobDat X E1 E2 (.slice Bj nj dj) jobs ∧ E1 ≤ E2) ∧ (OwnDE 90 53 4 opCells X E2 E3 (.slice Bt nt dt) todo ∧ E2 ≤ E3) ∧ (OwnY 56 13 evDat X E3 E4 (.slice Bl nl dl) log ∧ E3 ≤ E4)) ⟨setRow_heap _ _ _ _ _ _ G1.out, below_setRow' HB.out (by omega) _, Nat.le_trans HZ.out HCH.out.size, ⟨Oc.out.1.far1 HCH.out (by have := Oc.out.2; have := Oj.out.2; have := Ot.out.2; have := Ol.out.2; omega), Oc.out.2⟩, ⟨OwnX.far Oj.out.1 HCH.out (.inr (by have := Oc.out.2; have := Oj.out.2; have := Ot.out.2; have := Ol.out.2; omega)), Oj.out.2⟩, ⟨OwnDE.far Ot.out.1 HCH.out (.inr (by have := Oc.out.2; have := Oj.out.2; have := Ot.out.2; have := Ol.out.2; omega)), Ot.out.2⟩, ⟨OwnX.far Ol.out.1 HCH.out (.inr (by have := Oc.out.2; have := Oj.out.2; have := Ot.out.2; have := Ol.out.2; omega)), Ol.out.2⟩⟩ ?_
  clear G1 G2 HB HZ HCH Oc Oj Ot Ol
  rintro X ⟨h1, hb, hz, ⟨oc, ec⟩, ⟨oj, ej⟩, ⟨ot, et⟩, ⟨ol, el⟩⟩
  refine bodyPost_ret (v := .agg #[.slice Bc nc dc, .slice Bj nj dj, .slice Bt nt dt, .slice Bl nl dl, .int .i64 serial, .int .i64 now]) (results_cell_row rfl _ _ _ _ _ (0, 0) _ rfl h1 hu rfl (by kernel_rfl)) rfl ⟨.slice Bc nc dc, .slice Bj nj dj, .slice Bt nt dt, .slice Bl nl dl, E1, E2, E3, rfl, ?_, hb⟩
  exact ⟨⟨oc.1.base (by omega), oc.2⟩, oj, ot, OwnX.mono ol hz, by omega, ej, et, by omega⟩
end Go.Proofs.Ytcfdnfckilpppaa
/-
  The exact laws' budget behind the record Job, and behind rows of it.
-/
namespace Go.Proofs.Ytcfdnfckilpppaa
open Go.RowKit M
set_option linter.unusedVariables false
set_option linter.unusedSimpArgs false
def szInt (n : Nat) (l : Int) : Int := if l - (n : Int) < 0 then -1 else l - (n : Int)
theorem szInt_le {n : Nat} {l : Int} (h : 0 ≤ szInt n l) : (n : Int) + szInt n l ≤ l := by unfold szInt at *; split at h <;> (first | omega | (rename_i h2; rw [if_neg h2]; omega))
/-- A budget spent one after another. -/
def szBind (x : Int) (g : Int → Int) : Int := if x < 0 then -1 else g x
theorem szV_tot {rs : List R} {l : Int} (h : 0 ≤ szV rs l) : (rs.length : Int) + szV rs l ≤ l := by
  have hL : ∀ (rs : List R) (l : Int), szL rs l ≤ l ∨ szL rs l = -1 := by
    intro rs
    induction rs with
    | nil => exact fun l => .inl (Int.le_refl _)
    | cons r rs ih =>
      intro l
      unfold szL
      split
      · exact .inr rfl
      · rcases ih (l - (r.key.size : Int)) with h | h
        · exact .inl (by omega)
        · exact .inr h
  unfold szV at *
  split at h
  · omega
  · rename_i h2
    rw [if_neg h2]
    rcases hL rs (l - (rs.length : Int)) with h3 | h3 <;> omega
theorem szIntS_any (w : World) (v : Value) (zs : List Int) (left : Int) (h : IntsArg w v zs) (h0 : 0 ≤ left) (h1 : left ≤ 1048576) : Calls Try.prog 24 #[v, .int .i64 left] w (Gives (.int .i64 (szInt zs.length left)) w) := by
  obtain ⟨A, cap, rfl, h2, h3, _⟩ := h
  unfold maxLen at h3
  by_cases hn : left - (zs.length : Int) < 0
  · have E := Lib.hid (show szInt zs.length left = -1 from if_pos hn)
    have d1 : decide (left - (zs.length : Int) < 0) = true := decide_eq_true hn
    generalize zs.length = n at *
    go_enter Try.func24, Try.ntmps24
    go_wp2_with fail
    go_ret
    exact ⟨ret_i E.out.symm, Below.refl _ _⟩
  · have E := Lib.hid (show szInt zs.length left = left - (zs.length : Int) from if_neg hn)
    have d1 : decide (left - (zs.length : Int) < 0) = false := decide_eq_false hn
    generalize zs.length = n at *
    go_enter Try.func24, Try.ntmps24
    go_wp2_with fail
    go_ret
    exact ⟨ret_i E.out.symm, Below.refl _ _⟩
/-- What is left of a budget behind the record. -/
def szJobV (r : J) (l : Int) : Int := szBind (szBind (szBind (szInt r.op.key.size l) (szInt r.keys.length)) (szInt r.raw.length)) (fun x => x)
theorem szJobV_le {r : J} {l : Int} (h : 0 ≤ szJobV r l) : (r.keys.length : Int) + (r.raw.length : Int) + szJobV r l ≤ l := by
  unfold szJobV szBind at *
  by_cases a0 : szInt r.op.key.size l < 0
  · rw [if_pos a0] at h; simp at h
  have b0 := szInt_le (n := r.op.key.size) (l := l) (by omega)
  rw [if_neg a0] at h ⊢
  by_cases a1 : szInt r.keys.length (szInt r.op.key.size l) < 0
  · rw [if_pos a1] at h; simp at h
  have b1 := szInt_le (l := (szInt r.op.key.size l)) (show 0 ≤ szInt r.keys.length (szInt r.op.key.size l) by omega)
  rw [if_neg a1] at h ⊢
  by_cases a2 : szInt r.raw.length (szInt r.keys.length (szInt r.op.key.size l)) < 0
  · rw [if_pos a2] at h; simp at h
  have b2 := szInt_le (l := (szInt r.keys.length (szInt r.op.key.size l))) (show 0 ≤ szInt r.raw.length (szInt r.keys.length (szInt r.op.key.size l)) by omega)
  rw [if_neg a2] at h ⊢
  dsimp only at h ⊢
  omega
set_option maxRecDepth 100000 in
set_option maxHeartbeats 4000000 in
theorem szJob_any (w : World) (r : J) (vkeys vraw : Value) (left : Int) (h : jobIn w r vkeys vraw) (hk : r.op.key.size ≤ maxLen) (h0 : 0 ≤ left) (h1 : left ≤ 1048576) : Calls Try.prog 45 #[.agg (jobVals r vkeys vraw), .int .i64 left] w (Gives (.int .i64 (szJobV r left)) w) := by
  obtain ⟨hkeys, hraw⟩ := h
  have HT := fun W => Lib.hid (szOp_any W r.op left hk h0 h1)
  have Zkeys := fun W h x h0 h1 => Lib.hid (szIntS_any W vkeys r.keys x h h0 h1)
  have Hkeys := Lib.hid hkeys
  obtain ⟨akeys, ckeys, rfl, _, _, _⟩ := hkeys
  have Zraw := fun W h x h0 h1 => Lib.hid (szIntS_any W vraw r.raw x h h0 h1)
  have Hraw := Lib.hid hraw
  obtain ⟨araw, craw, rfl, _, _, _⟩ := hraw
  have HE := Lib.hid (show szJobV r left = _ from rfl)
  have HB := Lib.hid ((Below.refl w.heap.size w).alloc (Nat.le_refl _) (.cells (jobVals r (.slice akeys r.keys.length ckeys) (.slice araw r.raw.length craw)) 80))
  have e0 : (if left - (r.op.key.size : Int) < 0 then -1 else left - (r.op.key.size : Int)) = szInt r.op.key.size left := rfl
  rw [e0] at HT
  have l0 := fun h => szInt_le (n := r.op.key.size) (l := left) h
  have l1 := fun x h => szInt_le (n := r.keys.length) (l := x) h
  have l2 := fun x h => szInt_le (n := r.raw.length) (l := x) h
  have HV := Lib.hid (show szJobV r left = szBind (szBind (szBind (szInt r.op.key.size left) (szInt r.keys.length)) (szInt r.raw.length)) (fun x => x) from rfl)
  clear HE e0
  generalize szJobV r left = out at *
  generalize szInt r.op.key.size left = x0 at *
  generalize szInt r.keys.length = gkeys at *
  generalize szInt r.raw.length = graw at *
  obtain ⟨busy, ⟨op_kind, op_key, op_what, op_val⟩, serial, pc, k, slot, what, e, stamp, old, flips, steps, code, keys, raw⟩ := r
  unfold jobVals at *
  unfold O.v at HT
  simp only at *
  generalize keys.length = nkeys at *
  generalize raw.length = nraw at *
  by_cases a0 : x0 < 0
  case pos =>
    have d0 : decide (x0 < 0) = true := decide_eq_true a0
    go_enter Try.func45, Try.ntmps45
    go_wp2_with fail
    refine (HT _).out.mono ?_
    rintro e w1 ⟨rfl, hb1⟩
    have HB1 := Lib.hid (HB.out.trans (hb1.mono HB.out.size))
    have G1 := (Blk.new w w.heap.size 80 #[.bool busy, .int .i64 op_kind, .string op_key, .int .i64 op_what, .int .i64 op_val, .int .i64 serial, .int .i64 pc, .int .i64 k, .int .i64 slot, .int .i64 what, .int .i64 e, .int .i64 stamp, .int .i64 old, .int .i64 flips, .int .i64 steps, .int .i64 code, .slice akeys nkeys ckeys, .slice araw nraw craw] rfl).below hb1
    have q1 := G1.get 16
    simp at q1
    clear hb1
    have hm1 : (-1 : Int) < 0 := by decide
    go_wp2_with fail
    go_ret
    exact ⟨ret_i (by rw [HV.out]; simp only [szBind, if_pos (show x0 < 0 by omega), if_pos hm1]), HB1.out⟩
  have d0 : decide (x0 < 0) = false := decide_eq_false a0
  have z0 := l0 (by omega)
  obtain ⟨x1, hx1⟩ : ∃ x, gkeys x0 = x := ⟨_, rfl⟩
  have y1 := l1 x0
  rw [hx1] at y1
  by_cases a1 : x1 < 0
  case pos =>
    have d1 : decide (x1 < 0) = true := decide_eq_true a1
    go_enter Try.func45, Try.ntmps45
    go_wp2_with fail
    refine (HT _).out.mono ?_
    rintro e w1 ⟨rfl, hb1⟩
    have HB1 := Lib.hid (HB.out.trans (hb1.mono HB.out.size))
    have G1 := (Blk.new w w.heap.size 80 #[.bool busy, .int .i64 op_kind, .string op_key, .int .i64 op_what, .int .i64 op_val, .int .i64 serial, .int .i64 pc, .int .i64 k, .int .i64 slot, .int .i64 what, .int .i64 e, .int .i64 stamp, .int .i64 old, .int .i64 flips, .int .i64 steps, .int .i64 code, .slice akeys nkeys ckeys, .slice araw nraw craw] rfl).below hb1
    have q1 := G1.get 16
    simp at q1
    clear hb1
    go_wp2_with fail
    refine (Zkeys _ (Hkeys.out.below HB1.out) x0 (by omega) (by omega)).out.mono ?_
    rintro e w2 ⟨rfl, hb2⟩
    have HB2 := Lib.hid (HB1.out.trans (hb2.mono HB1.out.size))
    have G2 := G1.below hb2
    have q2 := G2.get 17
    simp at q2
    clear hb2
    rw [hx1]
    have hm1 : (-1 : Int) < 0 := by decide
    go_wp2_with fail
    go_ret
    exact ⟨ret_i (by rw [HV.out]; simp only [szBind, hx1, if_neg (show ¬ x0 < 0 by omega), if_pos (show x1 < 0 by omega), if_pos hm1]), HB2.out⟩
  have d1 : decide (x1 < 0) = false := decide_eq_false a1
  have z1 := y1 (by omega)
  obtain ⟨x2, hx2⟩ : ∃ x, graw x1 = x := ⟨_, rfl⟩
  have y2 := l2 x1
  rw [hx2] at y2
  by_cases a2 : x2 < 0
  case pos =>
    have d2 : decide (x2 < 0) = true := decide_eq_true a2
    go_enter Try.func45, Try.ntmps45
    go_wp2_with fail
    refine (HT _).out.mono ?_
    rintro e w1 ⟨rfl, hb1⟩
    have HB1 := Lib.hid (HB.out.trans (hb1.mono HB.out.size))
    have G1 := (Blk.new w w.heap.size 80 #[.bool busy, .int .i64 op_kind, .string op_key, .int .i64 op_what, .int .i64 op_val, .int .i64 serial, .int .i64 pc, .int .i64 k, .int .i64 slot, .int .i64 what, .int .i64 e, .int .i64 stamp, .int .i64 old, .int .i64 flips, .int .i64 steps, .int .i64 code, .slice akeys nkeys ckeys, .slice araw nraw craw] rfl).below hb1
    have q1 := G1.get 16
    simp at q1
    clear hb1
    go_wp2_with fail
    refine (Zkeys _ (Hkeys.out.below HB1.out) x0 (by omega) (by omega)).out.mono ?_
    rintro e w2 ⟨rfl, hb2⟩
    have HB2 := Lib.hid (HB1.out.trans (hb2.mono HB1.out.size))
    have G2 := G1.below hb2
    have q2 := G2.get 17
    simp at q2
    clear hb2
    rw [hx1]
    go_wp2_with fail
    refine (Zraw _ (Hraw.out.below HB2.out) x1 (by omega) (by omega)).out.mono ?_
    rintro e w3 ⟨rfl, hb3⟩
    have HB3 := Lib.hid (HB2.out.trans (hb3.mono HB2.out.size))
    have G3 := G2.below hb3
    have q3 := G3.get 17
    simp at q3
    clear hb3
    rw [hx2]
    have hm1 : (-1 : Int) < 0 := by decide
    go_wp2_with fail
    go_ret
    exact ⟨ret_i (by rw [HV.out]; simp only [szBind, hx1, hx2, if_neg (show ¬ x0 < 0 by omega), if_neg (show ¬ x1 < 0 by omega), if_pos (show x2 < 0 by omega), if_pos hm1]), HB3.out⟩
  have d2 : decide (x2 < 0) = false := decide_eq_false a2
  have z2 := y2 (by omega)
  go_enter Try.func45, Try.ntmps45
  go_wp2_with fail
  refine (HT _).out.mono ?_
  rintro e w1 ⟨rfl, hb1⟩
  have HB1 := Lib.hid (HB.out.trans (hb1.mono HB.out.size))
  have G1 := (Blk.new w w.heap.size 80 #[.bool busy, .int .i64 op_kind, .string op_key, .int .i64 op_what, .int .i64 op_val, .int .i64 serial, .int .i64 pc, .int .i64 k, .int .i64 slot, .int .i64 what, .int .i64 e, .int .i64 stamp, .int .i64 old, .int .i64 flips, .int .i64 steps, .int .i64 code, .slice akeys nkeys ckeys, .slice araw nraw craw] rfl).below hb1
  have q1 := G1.get 16
  simp at q1
  clear hb1
  go_wp2_with fail
  refine (Zkeys _ (Hkeys.out.below HB1.out) x0 (by omega) (by omega)).out.mono ?_
  rintro e w2 ⟨rfl, hb2⟩
  have HB2 := Lib.hid (HB1.out.trans (hb2.mono HB1.out.size))
  have G2 := G1.below hb2
  have q2 := G2.get 17
  simp at q2
  clear hb2
  rw [hx1]
  go_wp2_with fail
  refine (Zraw _ (Hraw.out.below HB2.out) x1 (by omega) (by omega)).out.mono ?_
  rintro e w3 ⟨rfl, hb3⟩
  have HB3 := Lib.hid (HB2.out.trans (hb3.mono HB2.out.size))
  have G3 := G2.below hb3
  have q3 := G3.get 17
  simp at q3
  clear hb3
  rw [hx2]
  have hm1 : (-1 : Int) < 0 := by decide
  go_wp2_with fail
  go_ret
  exact ⟨ret_i (by rw [HV.out]; simp only [szBind, hx1, hx2, if_neg (show ¬ x0 < 0 by omega), if_neg (show ¬ x1 < 0 by omega), if_neg (show ¬ x2 < 0 by omega), if_pos hm1]), HB3.out⟩
/-- What is left of a budget behind such records. -/
def szLJob : List J → Int → Int
  | [], l => l
  | r :: rs, l => if szJobV r l < 0 then -1 else szLJob rs (szJobV r l)
def szJobSV (ls : List J) (l : Int) : Int := if l - (ls.length : Int) < 0 then -1 else szLJob ls (l - (ls.length : Int))
theorem szLJob_drop (ls : List J) (j : Nat) (hj : j < ls.length) (c : Int) : szLJob (ls.drop j) c = if szJobV (ls.getD j zeroJ) c < 0 then -1 else szLJob (ls.drop (j + 1)) (szJobV (ls.getD j zeroJ) c) := by
  rw [List.drop_eq_getElem_cons hj, List.getD_eq_getElem?_getD, List.getElem?_eq_getElem hj]
  rfl
theorem szLJob_le : ∀ (ls : List J) (l : Int), 0 ≤ szLJob ls l → szLJob ls l ≤ l ∧ ∀ j, j < ls.length → 0 ≤ szJobV (ls.getD j zeroJ) l ∨ ∃ x, x ≤ l ∧ 0 ≤ szJobV (ls.getD j zeroJ) x := by
  intro ls
  induction ls with
  | nil => exact fun l _ => ⟨Int.le_refl _, fun j hj => absurd hj (Nat.not_lt_zero _)⟩
  | cons r rs ih =>
    intro l h
    have e : szLJob (r :: rs) l = if szJobV r l < 0 then -1 else szLJob rs (szJobV r l) := rfl
    rw [e] at h ⊢
    by_cases h2 : szJobV r l < 0
    · rw [if_pos h2] at h; simp at h
    · rw [if_neg h2] at h ⊢
      have h3 := szJobV_le (r := r) (l := l) (by omega)
      have h4 := ih _ h
      refine ⟨by omega, fun j hj => ?_⟩
      cases j with
      | zero => exact .inl (by rw [List.getD_cons_zero]; omega)
      | succ j =>
        rw [List.getD_cons_succ]
        rcases h4.2 j (by simpa using hj) with h5 | ⟨x, hx, h5⟩
        · exact .inr ⟨_, by omega, h5⟩
        · exact .inr ⟨x, by omega, h5⟩
set_option maxRecDepth 100000 in
set_option maxHeartbeats 2000000 in
theorem szJobS_any (w : World) (v : Value) (l : List J) (left : Int) (h : ArgT 18 jobDat zeroJ w v l) (hk : ∀ j, j < l.length → (l.getD j zeroJ).op.key.size ≤ maxLen) (h0 : 0 ≤ left) (h1 : left ≤ 1048576) :
    Calls Try.prog 25 #[v, .int .i64 left] w (Gives (.int .i64 (szJobSV l left)) w) := by
  obtain ⟨A, cap, rfl, h2, h3, h4⟩ := h
  have HC := Lib.hid h4
  have HK := Lib.hid hk
  have HL := Lib.hid (fun j (hj : j < l.length) => szLJob_drop l j hj)
  have HE := Lib.hid (show l.drop l.length = [] by simp)
  unfold maxLen at h3
  clear h4 hk
  by_cases hb : left - (l.length : Int) < 0
  · have HV := Lib.hid (show szJobSV l left = -1 from if_pos hb)
    have d1 : decide (left - (l.length : Int) < 0) = true := decide_eq_true hb
    generalize l.length = n at *
    go_enter Try.func25, Try.ntmps25
    go_wp2_with fail
    go_ret
    exact ⟨ret_i HV.out.symm, Below.refl _ _⟩
  · have HV := Lib.hid (show szJobSV l left = szLJob (l.drop 0) (left - (l.length : Int)) by unfold szJobSV; rw [if_neg hb, List.drop_zero])
    have d1 : decide (left - (l.length : Int) < 0) = false := decide_eq_false hb
    have hn : l.length ≤ 1048576 := by omega
    generalize hln : l.length = n at *
    clear hln
    go_enter Try.func25, Try.ntmps25
    go_wp2_with fail
    go_loopw [1, 5] (fun c i wr => ∃ (j : Nat) (x : Int), j ≤ n ∧ i = .int .i64 j ∧ c = .int .i64 x ∧ 0 ≤ x ∧ x ≤ 1048576 ∧ szLJob (l.drop 0) (left - (n : Int)) = szLJob (l.drop j) x ∧ Below w.heap.size w wr) (fun _ i _ => n - (intOf i).toNat)
    case atStart => exact ⟨0, _, Nat.zero_le _, rfl, rfl, by omega, by omega, rfl, Below.refl _ _⟩
    case round =>
      obtain ⟨j, x, hj, rfl, rfl, hx0, hx1, he, hbl⟩ := hrel
      have HB := Lib.hid hbl
      have HX := Lib.hid he
      clear hbl he
      by_cases hlt : j < n
      · obtain ⟨b, off, hA, h3', hC⟩ := HC.out (by omega)
        obtain ⟨vkeys, vraw, hrng, hin⟩ := job_at ((hC j hlt).below h3' HB.out)
        have HS := Lib.hid (HL.out j hlt x)
        have HR := Lib.hid (szJob_any wr (l.getD j zeroJ) vkeys vraw x hin (HK.out j hlt) hx0 hx1)
        have HT := Lib.hid (fun h => szJobV_le (r := l.getD j zeroJ) (l := x) h)
        have HG := Lib.hid hrng
        subst hA
        clear hC hin hrng
        generalize l.getD j zeroJ = r at *
        generalize szJobV r x = y at *
        have hul := Try.underlying80
        have hjn : (j : Int) < (n : Int) := by omega
        by_cases hneg : y < 0
        · rw [if_pos hneg] at HS
          have d2 : decide (y < 0) = true := decide_eq_true hneg
          go_wp2_with ((with_reducible show wpList _ _ _ _ _ _); refine wpList_load_mid rfl 80 _ rfl b (off + j * 18) rfl (jobVals r vkeys vraw).toList _ HG.out hul rfl (by kernel_rfl) ?_)
          refine HR.out.mono ?_
          rintro e w2 ⟨rfl, hb2⟩
          go_wp2_with fail
          go_ret
          exact ⟨ret_i (by rw [HV.out, HX.out, HS.out]), HB.out.trans (hb2.mono HB.out.size)⟩
        · rw [if_neg hneg] at HS
          have ht := HT.out (by omega)
          have d2 : decide (y < 0) = false := decide_eq_false hneg
          go_wp2_with ((with_reducible show wpList _ _ _ _ _ _); refine wpList_load_mid rfl 80 _ rfl b (off + j * 18) rfl (jobVals r vkeys vraw).toList _ HG.out hul rfl (by kernel_rfl) ?_)
          refine HR.out.mono ?_
          rintro e w2 ⟨rfl, hb2⟩
          go_wp2_with fail
          go_roundw
          case rel => exact ⟨j + 1, _, by omega, by go_num, rfl, by omega, by omega, by rw [HX.out, HS.out], HB.out.trans (hb2.mono HB.out.size)⟩
          case measure => simp [intOf]; omega
      · have hjn : j = n := by omega
        subst hjn
        go_wp2_with fail
        go_ret
        exact ⟨ret_i (by rw [HV.out, HX.out, HE.out]; rfl), HB.out⟩
end Go.Proofs.Ytcfdnfckilpppaa
/-
  The exact laws' budget behind the record Ev, and behind rows of it.
-/
namespace Go.Proofs.Ytcfdnfckilpppaa
open Go.RowKit M
set_option linter.unusedVariables false
set_option linter.unusedSimpArgs false
/-- What is left of a budget behind the record. -/
def szEvV (r : E) (l : Int) : Int := szBind (szBind (szInt r.op.key.size l) (szV r.rows)) (fun x => x)
theorem szEvV_le {r : E} {l : Int} (h : 0 ≤ szEvV r l) : (r.rows.length : Int) + szEvV r l ≤ l := by
  unfold szEvV szBind at *
  by_cases a0 : szInt r.op.key.size l < 0
  · rw [if_pos a0] at h; simp at h
  have b0 := szInt_le (n := r.op.key.size) (l := l) (by omega)
  rw [if_neg a0] at h ⊢
  by_cases a1 : szV r.rows (szInt r.op.key.size l) < 0
  · rw [if_pos a1] at h; simp at h
  have b1 := szV_tot (l := (szInt r.op.key.size l)) (show 0 ≤ szV r.rows (szInt r.op.key.size l) by omega)
  rw [if_neg a1] at h ⊢
  dsimp only at h ⊢
  omega
set_option maxRecDepth 100000 in
set_option maxHeartbeats 4000000 in
theorem szEv_any (w : World) (r : E) (vrows : Value) (left : Int) (h : evIn w r vrows) (hk : r.op.key.size ≤ maxLen) (hr : ∀ j, j < r.rows.length → (r.rows.getD j zeroR).key.size ≤ maxLen) (h0 : 0 ≤ left) (h1 : left ≤ 1048576) : Calls Try.prog 42 #[.agg (evVals r vrows), .int .i64 left] w (Gives (.int .i64 (szEvV r left)) w) := by
  have hrows := h
  clear h
  have HT := fun W => Lib.hid (szOp_any W r.op left hk h0 h1)
  have Zrows := fun W h x h0 h1 => Lib.hid (szRowS_any W vrows r.rows x h hr h0 h1)
  have Hrows := Lib.hid hrows
  obtain ⟨arows, crows, rfl, _, _, _⟩ := hrows
  have HE := Lib.hid (show szEvV r left = _ from rfl)
  have HB := Lib.hid ((Below.refl w.heap.size w).alloc (Nat.le_refl _) (.cells (evVals r (.slice arows r.rows.length crows)) 75))
  have e0 : (if left - (r.op.key.size : Int) < 0 then -1 else left - (r.op.key.size : Int)) = szInt r.op.key.size left := rfl
  rw [e0] at HT
  have l0 := fun h => szInt_le (n := r.op.key.size) (l := left) h
  have l1 := fun x h => szV_tot (rs := r.rows) (l := x) h
  have HV := Lib.hid (show szEvV r left = szBind (szBind (szInt r.op.key.size left) (szV r.rows)) (fun x => x) from rfl)
  clear HE e0
  generalize szEvV r left = out at *
  generalize szInt r.op.key.size left = x0 at *
  generalize szV r.rows = grows at *
  obtain ⟨kind, who, serial, at_, ⟨op_kind, op_key, op_what, op_val⟩, code, win, steps, flips, rows⟩ := r
  unfold evVals at *
  unfold O.v at HT
  simp only at *
  generalize rows.length = nrows at *
  by_cases a0 : x0 < 0
  case pos =>
    have d0 : decide (x0 < 0) = true := decide_eq_true a0
    go_enter Try.func42, Try.ntmps42
    go_wp2_with fail
    refine (HT _).out.mono ?_
    rintro e w1 ⟨rfl, hb1⟩
    have HB1 := Lib.hid (HB.out.trans (hb1.mono HB.out.size))
    have G1 := (Blk.new w w.heap.size 75 #[.int .i64 kind, .int .i64 who, .int .i64 serial, .int .i64 at_, .int .i64 op_kind, .string op_key, .int .i64 op_what, .int .i64 op_val, .int .i64 code, .int .i64 win, .int .i64 steps, .int .i64 flips, .slice arows nrows crows] rfl).below hb1
    have q1 := G1.get 12
    simp at q1
    clear hb1
    have hm1 : (-1 : Int) < 0 := by decide
    go_wp2_with fail
    go_ret
    exact ⟨ret_i (by rw [HV.out]; simp only [szBind, if_pos (show x0 < 0 by omega), if_pos hm1]), HB1.out⟩
  have d0 : decide (x0 < 0) = false := decide_eq_false a0
  have z0 := l0 (by omega)
  obtain ⟨x1, hx1⟩ : ∃ x, grows x0 = x := ⟨_, rfl⟩
  have y1 := l1 x0
  rw [hx1] at y1
  by_cases a1 : x1 < 0
  case pos =>
    have d1 : decide (x1 < 0) = true := decide_eq_true a1
    go_enter Try.func42, Try.ntmps42
    go_wp2_with fail
    refine (HT _).out.mono ?_
    rintro e w1 ⟨rfl, hb1⟩
    have HB1 := Lib.hid (HB.out.trans (hb1.mono HB.out.size))
    have G1 := (Blk.new w w.heap.size 75 #[.int .i64 kind, .int .i64 who, .int .i64 serial, .int .i64 at_, .int .i64 op_kind, .string op_key, .int .i64 op_what, .int .i64 op_val, .int .i64 code, .int .i64 win, .int .i64 steps, .int .i64 flips, .slice arows nrows crows] rfl).below hb1
    have q1 := G1.get 12
    simp at q1
    clear hb1
    go_wp2_with fail
    refine (Zrows _ (Hrows.out.below HB1.out) x0 (by omega) (by omega)).out.mono ?_
    rintro e w2 ⟨rfl, hb2⟩
    have HB2 := Lib.hid (HB1.out.trans (hb2.mono HB1.out.size))
    have G2 := G1.below hb2
    have q2 := G2.get 12
    simp at q2
    clear hb2
    rw [hx1]
    have hm1 : (-1 : Int) < 0 := by decide
    go_wp2_with fail
    go_ret
    exact ⟨ret_i (by rw [HV.out]; simp only [szBind, hx1, if_neg (show ¬ x0 < 0 by omega), if_pos (show x1 < 0 by omega), if_pos hm1]), HB2.out⟩
  have d1 : decide (x1 < 0) = false := decide_eq_false a1
  have z1 := y1 (by omega)
  go_enter Try.func42, Try.ntmps42
  go_wp2_with fail
  refine (HT _).out.mono ?_
  rintro e w1 ⟨rfl, hb1⟩
  have HB1 := Lib.hid (HB.out.trans (hb1.mono HB.out.size))
  have G1 := (Blk.new w w.heap.size 75 #[.int .i64 kind, .int .i64 who, .int .i64 serial, .int .i64 at_, .int .i64 op_kind, .string op_key, .int .i64 op_what, .int .i64 op_val, .int .i64 code, .int .i64 win, .int .i64 steps, .int .i64 flips, .slice arows nrows crows] rfl).below hb1
  have q1 := G1.get 12
  simp at q1
  clear hb1
  go_wp2_with fail
  refine (Zrows _ (Hrows.out.below HB1.out) x0 (by omega) (by omega)).out.mono ?_
  rintro e w2 ⟨rfl, hb2⟩
  have HB2 := Lib.hid (HB1.out.trans (hb2.mono HB1.out.size))
  have G2 := G1.below hb2
  have q2 := G2.get 12
  simp at q2
  clear hb2
  rw [hx1]
  have hm1 : (-1 : Int) < 0 := by decide
  go_wp2_with fail
  go_ret
  exact ⟨ret_i (by rw [HV.out]; simp only [szBind, hx1, if_neg (show ¬ x0 < 0 by omega), if_neg (show ¬ x1 < 0 by omega), if_pos hm1]), HB2.out⟩
/-- What is left of a budget behind such records. -/
def szLEv : List E → Int → Int
  | [], l => l
  | r :: rs, l => if szEvV r l < 0 then -1 else szLEv rs (szEvV r l)
def szEvSV (ls : List E) (l : Int) : Int := if l - (ls.length : Int) < 0 then -1 else szLEv ls (l - (ls.length : Int))
theorem szLEv_drop (ls : List E) (j : Nat) (hj : j < ls.length) (c : Int) : szLEv (ls.drop j) c = if szEvV (ls.getD j zeroE) c < 0 then -1 else szLEv (ls.drop (j + 1)) (szEvV (ls.getD j zeroE) c) := by
  rw [List.drop_eq_getElem_cons hj, List.getD_eq_getElem?_getD, List.getElem?_eq_getElem hj]
  rfl
theorem szLEv_le : ∀ (ls : List E) (l : Int), 0 ≤ szLEv ls l → szLEv ls l ≤ l ∧ ∀ j, j < ls.length → 0 ≤ szEvV (ls.getD j zeroE) l ∨ ∃ x, x ≤ l ∧ 0 ≤ szEvV (ls.getD j zeroE) x := by
  intro ls
  induction ls with
  | nil => exact fun l _ => ⟨Int.le_refl _, fun j hj => absurd hj (Nat.not_lt_zero _)⟩
  | cons r rs ih =>
    intro l h
    have e : szLEv (r :: rs) l = if szEvV r l < 0 then -1 else szLEv rs (szEvV r l) := rfl
    rw [e] at h ⊢
    by_cases h2 : szEvV r l < 0
    · rw [if_pos h2] at h; simp at h
    · rw [if_neg h2] at h ⊢
      have h3 := szEvV_le (r := r) (l := l) (by omega)
      have h4 := ih _ h
      refine ⟨by omega, fun j hj => ?_⟩
      cases j with
      | zero => exact .inl (by rw [List.getD_cons_zero]; omega)
      | succ j =>
        rw [List.getD_cons_succ]
        rcases h4.2 j (by simpa using hj) with h5 | ⟨x, hx, h5⟩
        · exact .inr ⟨_, by omega, h5⟩
        · exact .inr ⟨x, by omega, h5⟩
set_option maxRecDepth 100000 in
set_option maxHeartbeats 2000000 in
theorem szEvS_any (w : World) (v : Value) (l : List E) (left : Int) (h : ArgT 13 evDat zeroE w v l) (hk : ∀ j, j < l.length → (l.getD j zeroE).op.key.size ≤ maxLen ∧ ∀ i, i < (l.getD j zeroE).rows.length → ((l.getD j zeroE).rows.getD i zeroR).key.size ≤ maxLen) (h0 : 0 ≤ left) (h1 : left ≤ 1048576) :
    Calls Try.prog 15 #[v, .int .i64 left] w (Gives (.int .i64 (szEvSV l left)) w) := by
  obtain ⟨A, cap, rfl, h2, h3, h4⟩ := h
  have HC := Lib.hid h4
  have HK := Lib.hid hk
  have HL := Lib.hid (fun j (hj : j < l.length) => szLEv_drop l j hj)
  have HE := Lib.hid (show l.drop l.length = [] by simp)
  unfold maxLen at h3
  clear h4 hk
  by_cases hb : left - (l.length : Int) < 0
  · have HV := Lib.hid (show szEvSV l left = -1 from if_pos hb)
    have d1 : decide (left - (l.length : Int) < 0) = true := decide_eq_true hb
    generalize l.length = n at *
    go_enter Try.func15, Try.ntmps15
    go_wp2_with fail
    go_ret
    exact ⟨ret_i HV.out.symm, Below.refl _ _⟩
  · have HV := Lib.hid (show szEvSV l left = szLEv (l.drop 0) (left - (l.length : Int)) by unfold szEvSV; rw [if_neg hb, List.drop_zero])
    have d1 : decide (left - (l.length : Int) < 0) = false := decide_eq_false hb
    have hn : l.length ≤ 1048576 := by omega
    generalize hln : l.length = n at *
    clear hln
    go_enter Try.func15, Try.ntmps15
    go_wp2_with fail
    go_loopw [1, 5] (fun c i wr => ∃ (j : Nat) (x : Int), j ≤ n ∧ i = .int .i64 j ∧ c = .int .i64 x ∧ 0 ≤ x ∧ x ≤ 1048576 ∧ szLEv (l.drop 0) (left - (n : Int)) = szLEv (l.drop j) x ∧ Below w.heap.size w wr) (fun _ i _ => n - (intOf i).toNat)
    case atStart => exact ⟨0, _, Nat.zero_le _, rfl, rfl, by omega, by omega, rfl, Below.refl _ _⟩
    case round =>
      obtain ⟨j, x, hj, rfl, rfl, hx0, hx1, he, hbl⟩ := hrel
      have HB := Lib.hid hbl
      have HX := Lib.hid he
      clear hbl he
      by_cases hlt : j < n
      · obtain ⟨b, off, hA, h3', hC⟩ := HC.out (by omega)
        obtain ⟨vrows, hrng, hin⟩ := ev_at ((hC j hlt).below h3' HB.out)
        have HS := Lib.hid (HL.out j hlt x)
        have HR := Lib.hid (szEv_any wr (l.getD j zeroE) vrows x hin (HK.out j hlt).1 (HK.out j hlt).2 hx0 hx1)
        have HT := Lib.hid (fun h => szEvV_le (r := l.getD j zeroE) (l := x) h)
        have HG := Lib.hid hrng
        subst hA
        clear hC hin hrng
        generalize l.getD j zeroE = r at *
        generalize szEvV r x = y at *
        have hul := Try.underlying75
        have hjn : (j : Int) < (n : Int) := by omega
        by_cases hneg : y < 0
        · rw [if_pos hneg] at HS
          have d2 : decide (y < 0) = true := decide_eq_true hneg
          go_wp2_with ((with_reducible show wpList _ _ _ _ _ _); refine wpList_load_mid rfl 75 _ rfl b (off + j * 13) rfl (evVals r vrows).toList _ HG.out hul rfl (by kernel_rfl) ?_)
          refine HR.out.mono ?_
          rintro e w2 ⟨rfl, hb2⟩
          go_wp2_with fail
          go_ret
          exact ⟨ret_i (by rw [HV.out, HX.out, HS.out]), HB.out.trans (hb2.mono HB.out.size)⟩
        · rw [if_neg hneg] at HS
          have ht := HT.out (by omega)
          have d2 : decide (y < 0) = false := decide_eq_false hneg
          go_wp2_with ((with_reducible show wpList _ _ _ _ _ _); refine wpList_load_mid rfl 75 _ rfl b (off + j * 13) rfl (evVals r vrows).toList _ HG.out hul rfl (by kernel_rfl) ?_)
          refine HR.out.mono ?_
          rintro e w2 ⟨rfl, hb2⟩
          go_wp2_with fail
          go_roundw
          case rel => exact ⟨j + 1, _, by omega, by go_num, rfl, by omega, by omega, by rw [HX.out, HS.out], HB.out.trans (hb2.mono HB.out.size)⟩
          case measure => simp [intOf]; omega
      · have hjn : j = n := by omega
        subst hjn
        go_wp2_with fail
        go_ret
        exact ⟨ret_i (by rw [HV.out, HX.out, HE.out]; rfl), HB.out⟩
end Go.Proofs.Ytcfdnfckilpppaa
/-
  Chapter 10's exact laws: what their copies read as.
-/
namespace Go.Proofs.Ytcfdnfckilpppaa
open Go.RowKit M
set_option linter.unusedVariables false
theorem below_oneL (w : World) (o : Obj) : Below w.heap.size w (w.alloc o) := (Below.refl _ _).alloc (Nat.le_refl _) o
theorem opCells_size (r : O) : (opCells r).size = 4 := rfl
theorem len_le_sum (ls : List (List O)) (j : Nat) (hj : j < ls.length) : (ls.getD j []).length ≤ (ls.map List.length).sum := by
  induction ls generalizing j with
  | nil => simp at hj
  | cons q ls ih =>
    cases j with
    | zero => simp
    | succ j =>
      have := ih j (by simpa using hj)
      simp only [List.getD_cons_succ, List.map_cons, List.sum_cons]
      omega
theorem heapE_ints {w : World} {B E : Nat} {v : Value} {zs : List Int} (h : HeapE w B E [intRw v zs]) : IntsArg w v zs := by
  have ho : w.ownsRow B 3 1 v zs.length (zs.map (Value.int .i64)) := h.1.own (intRw v zs) (List.mem_singleton.2 rfl)
  have h' := ho
  rcases ho.2 with ⟨rfl, h0⟩ | ⟨g, cap, cur, rfl, hb, hg, hn, hm, hc, ht⟩
  · have e : zs = [] := List.length_eq_zero_iff.1 h0
    subst e; exact IntsArg.nil w
  · refine ⟨_, cap, rfl, hn, hm, fun _ => ⟨g, 0, rfl, (World.ownsRow.lt h' g rfl).2, fun j hj => ?_⟩⟩
    rw [Nat.zero_add, World.ownsRow.cellAt h' j (by omega), List.getElem?_map, List.getElem?_eq_getElem hj, List.getD_eq_getElem?_getD, List.getElem?_eq_getElem hj]
    rfl
theorem worOwn_in {w : World} {B E1 E2 E3 E4 : Nat} {s : S} {vc vj vt vl : Value} (h : WorOwn w B E1 E2 E3 E4 s vc vj vt vl) : WorIn w s vc vj vt vl :=
  ⟨heapE_ints h.c, h.j.arg jobDat_len jobDat_wf zeroJ, OwnD.arg h.t.own opCells_size zeroO, h.l.arg evDat_len evDat_wf zeroE⟩
/-- What a world's law keeps through its last statement: the two boxes, the argument, the copy that was worked on. -/
structure LawW (w0 : World) (gw gx : Nat) (s : S) (vc vj vt vl xc xj xt xl : Value) (w : World) : Prop where
  g : Blk w gw 27 #[vc, vj, vt, vl, .int .i64 s.serial, .int .i64 s.now]
  y : Blk w gx 34 #[xc, xj, xt, xl, .int .i64 s.serial, .int .i64 s.now]
  a : WorIn w s vc vj vt vl
  x : WorIn w s xc xj xt xl
  b : Below w0.heap.size w0 w
theorem LawW.next {w0 w w' : World} {gw gx : Nat} {s : S} {vc vj vt vl xc xj xt xl : Value} (h : LawW w0 gw gx s vc vj vt vl xc xj xt xl w) (hb : Below w.heap.size w w') : LawW w0 gw gx s vc vj vt vl xc xj xt xl w' :=
  ⟨h.g.below hb, h.y.below hb, h.a.below hb, h.x.below hb, h.b.trans (hb.mono h.b.size)⟩
def LawS (w0 : World) (gw gx : Nat) (s : S) (vc vj vt vl xc xj xt xl : Value) (w : World) : Prop :=
  (w.cell? ⟨gw, 0, none⟩ = some vc ∧ w.cell? ⟨gw, 1, none⟩ = some vj ∧ w.cell? ⟨gw, 2, none⟩ = some vt ∧ w.cell? ⟨gw, 3, none⟩ = some vl ∧ w.cell? ⟨gw, 4, none⟩ = some (.int .i64 s.serial) ∧ w.cell? ⟨gw, 5, none⟩ = some (.int .i64 s.now) ∧
   w.cell? ⟨gx, 0, none⟩ = some xc ∧ w.cell? ⟨gx, 1, none⟩ = some xj ∧ w.cell? ⟨gx, 2, none⟩ = some xt ∧ w.cell? ⟨gx, 3, none⟩ = some xl ∧ w.cell? ⟨gx, 4, none⟩ = some (.int .i64 s.serial) ∧ w.cell? ⟨gx, 5, none⟩ = some (.int .i64 s.now)) ∧ LawW w0 gw gx s vc vj vt vl xc xj xt xl w
theorem LawW.all {w0 w : World} {gw gx : Nat} {s : S} {vc vj vt vl xc xj xt xl : Value} (h : LawW w0 gw gx s vc vj vt vl xc xj xt xl w) : LawS w0 gw gx s vc vj vt vl xc xj xt xl w :=
  ⟨⟨h.g.get 0, h.g.get 1, h.g.get 2, h.g.get 3, h.g.get 4, h.g.get 5, h.y.get 0, h.y.get 1, h.y.get 2, h.y.get 3, h.y.get 4, h.y.get 5⟩, h⟩
theorem lawS_next {w0 w w' : World} {gw gx : Nat} {s : S} {vc vj vt vl xc xj xt xl : Value} (hb : Below w.heap.size w w') (h : LawS w0 gw gx s vc vj vt vl xc xj xt xl w) : LawS w0 gw gx s vc vj vt vl xc xj xt xl w' := (h.2.next hb).all
end Go.Proofs.Ytcfdnfckilpppaa
/-
  Chapter 10, the program's copy of queues: a new row of rows of its own. It turns nothing that was there.
-/
namespace Go.Proofs.Ytcfdnfckilpppaa
open Go.RowKit M
set_option linter.unusedVariables false
set_option linter.unusedSimpArgs false
/-- A queue of a row that a call made. -/
theorem ownQ_at {w : World} {B : Nat} {v : Value} {ls : List (List O)} (h : OwnQ w B v ls) (j : Nat) (hj : j < ls.length) : ∃ b cap u, v = .slice (some ⟨b, 0, none⟩) ls.length cap ∧ b < w.heap.size ∧ w.cell? ⟨b, j, none⟩ = some u ∧ OwnF 53 4 opCells w B u (ls.getD j []) := by
  obtain ⟨vs, hv, hh⟩ := h
  have ho := hh.own _ List.mem_cons_self
  have ho' : w.ownsRow B 90 1 v ls.length vs := ho
  rcases ho'.2 with ⟨_, h0⟩ | ⟨g, cap, cur, rfl, hb, hg, hn, hm, hc, ht⟩
  · omega
  · refine ⟨g, cap, vs.getD j undef, rfl, (World.ownsRow.lt ho' g rfl).2, ?_, hh.own _ (List.mem_cons_of_mem _ (inner_at hv j hj undef))⟩
    rw [World.ownsRow.cellAt ho' j (by omega), List.getD_eq_getElem?_getD, List.getElem?_eq_getElem (by rw [hv]; exact hj)]
    rfl
theorem ownQ_shape {w : World} {B : Nat} {v : Value} {ls : List (List O)} (h : OwnQ w B v ls) : ∃ A cap, v = .slice A ls.length cap ∧ cap ≤ maxLen ∧ ls.length ≤ cap := by
  obtain ⟨vs, hv, hh⟩ := h
  have ho' : w.ownsRow B 90 1 v ls.length vs := hh.own _ List.mem_cons_self
  rcases ho'.2 with ⟨rfl, h0⟩ | ⟨g, cap, cur, rfl, hb, hg, hn, hm, hc, ht⟩
  · exact ⟨none, 0, by rw [h0], Nat.zero_le _, by omega⟩
  · exact ⟨_, cap, rfl, hm, hn⟩
theorem opCells_one (l : List O) : ∀ u ∈ cellsF opCells l, u.oneCell' = true := by
  intro u hu
  unfold cellsF at hu
  simp only [List.mem_flatMap] at hu
  obtain ⟨r, _, h⟩ := hu
  simp only [opCells, List.mem_cons, List.not_mem_nil, or_false] at h
  rcases h with rfl | rfl | rfl | rfl <;> rfl
theorem ownF_nil {w : World} {B : Nat} : OwnF 53 4 opCells w B (.slice none 0 0) [] := ⟨rfl, .inl ⟨rfl, rfl⟩⟩
end Go.Proofs.Ytcfdnfckilpppaa
/-
  Chapter 10, the model's copy of queues: a new row of rows of its own. It turns nothing that was there.
-/
namespace Go.Proofs.Ytcfdnfckilpppaa
open Go.RowKit M
set_option linter.unusedVariables false
set_option linter.unusedSimpArgs false
/-- What the model's loop has gathered: a row of so many queues, each in a block of its own. -/
def Gath (w0 : World) (ls : List (List O)) (j : Nat) (v : Value) (w : World) : Prop := ∃ vs : List Value, vs.length = j ∧ Heap w w0.heap.size (⟨v, 90, 1, j, vs⟩ :: inner 53 4 opCells vs (ls.take j)) ∧ Below w0.heap.size w0 w
theorem Gath.len {w0 w : World} {ls : List (List O)} {j : Nat} {v : Value} (h : Gath w0 ls j v w) : h.choose.length = j := h.choose_spec.1
theorem Gath.b {w0 w : World} {ls : List (List O)} {j : Nat} {v : Value} (h : Gath w0 ls j v w) : Below w0.heap.size w0 w := h.choose_spec.2.2
theorem Gath.row {w0 w : World} {ls : List (List O)} {j : Nat} {v : Value} (h : Gath w0 ls j v w) {w' : World} (hb : Below w.heap.size w w') : w'.ownsRow w0.heap.size 90 1 v j h.choose := (h.choose_spec.2.1.below hb).own _ List.mem_cons_self
theorem Gath.next {w0 w w' w2 : World} {ls : List (List O)} {j : Nat} {v v' u : Value} {q : List O} (h : Gath w0 ls j v w) (hb : Below w.heap.size w w') (hj : j < ls.length) (hq : ls.getD j [] = q)
    (hu : OwnF 53 4 opCells w' w.heap.size u q) (hr : (⟨v', 90, 1, j + 1, ((h.choose) ++ [u])⟩ : Rw).own w2 w0.heap.size) (hg : w'.grownBy w2 v.ownBlock) (hv : v'.ownBlock = v.ownBlock ∨ ∀ k, v'.ownBlock = some k → w'.heap.size ≤ k) : Gath w0 ls (j + 1) v' w2 := by
  have hs := h.choose_spec
  generalize h.choose = vs at *
  obtain ⟨h1, h2, h3⟩ := hs
  have hh := Heap.join (h2.below hb) (Heap.one (r := ⟨u, 53, 4, q.length, cellsF opCells q⟩) hu) h3.size (fun r hr b hb => h2.lt hr b hb)
  refine ⟨vs ++ [u], by simp [h1], ?_, ?_⟩
  · have ht := Heap.turn (A := []) hh hg hr hv
    rw [show ls.take (j + 1) = ls.take j ++ [q] by rw [List.take_add_one, ← hq, List.getD_eq_getElem?_getD, List.getElem?_eq_getElem hj]; rfl]
    unfold inner at ht ⊢
    rw [zipWith_snoc _ _ _ _ _ (by rw [h1, List.length_take]; omega)]
    exact ht
  · refine (h3.trans (hb.mono h3.size)).grown hg (Nat.le_trans h3.size hb.size) (fun k hk => ?_)
    exact h2.base_le (List.mem_cons_self) k hk
end Go.Proofs.Ytcfdnfckilpppaa
