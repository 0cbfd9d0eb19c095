/-
  Several small texts of this proof, one behind another: each says ahead of itself what it proves.
-/
import Derived.Test.YtjiaogbkmpjciaaZb
import Derived.Test.YtjiaogbkmpjciaaOpC
import Derived.Test.YtjiaogbkmpjciaaZa
import Derived.Test.YtjiaogbkmpjciaaRwsC
import Derived.Test.YtjiaogbkmpjciaaJobC
import Derived.OwnWalk
import Derived.Laws.AppendOwn
import Derived.Lib.SliceRun
import Derived.Lib.Walk
import Derived.Maps.AppendAt
import Derived.Laws.AppendOwnNone
/-
  The exact laws' copy of the record Ev.
-/
namespace Go.Proofs.Ytjiaogbkmpjciaa
open Go.RowKit M
set_option linter.unusedVariables false
set_option linter.unusedSimpArgs false
set_option maxRecDepth 100000 in
set_option maxHeartbeats 8000000 in
theorem toEv_any (w : World) (r : E) (vrows : Value) (h : evIn w r vrows) (hlrows : r.rows.length ≤ 1048576) : Calls Try.prog 32 #[.agg (evVals r vrows)] w (MadeEv w r) := by
  have hrows := h
  have Hrows := fun W h => Lib.hid (toRowS_any W vrows r.rows h hlrows)
  have Arows := Lib.hid hrows
  clear h
  obtain ⟨arows, crows, rfl, _, _, _⟩ := hrows
  have HT := fun W => Lib.hid (toOp_any W r.op)
  clear hlrows
  obtain ⟨kind, who, serial, at_, ⟨op_kind, op_key, op_what, op_val⟩, code, win, steps, flips, rows⟩ := r
  unfold O.v at HT
  simp only at *
  generalize hnrows : rows.length = nrows at *
  have HNrows := Lib.hid hnrows
  clear hnrows
  unfold evVals
  simp only
  go_enter Try.func32, Try.ntmps32
  go_upto_region 2 with fail
  refine wp_gen (fun W => Blk W w.heap.size 43 #[.int .i64 kind, .int .i64 who, .int .i64 serial, .int .i64 at_, .int .i64 op_kind, .string op_key, .int .i64 op_what, .int .i64 op_val, .int .i64 code, .int .i64 win, .int .i64 steps, .int .i64 flips, .slice arows nrows crows] ∧ Blk W (w.heap.size + 1) 47 #[.int .i64 0, .int .i64 0, .int .i64 0, .int .i64 0, .int .i64 0, .string ⟨#[]⟩, .int .i64 0, .int .i64 0, .int .i64 0, .int .i64 0, .int .i64 0, .int .i64 0, .slice none 0 0] ∧ Blk W (w.heap.size + 2) 47 #[.int .i64 0, .int .i64 0, .int .i64 0, .int .i64 0, .int .i64 0, .string ⟨#[]⟩, .int .i64 0, .int .i64 0, .int .i64 0, .int .i64 0, .int .i64 0, .int .i64 0, .slice none 0 0] ∧ Heap W (w.heap.size + 3) [] ∧ Below w.heap.size w W)
    ⟨((Blk.new w _ _ _ rfl).alloc _).alloc _, (Blk.new _ _ _ _ (by simp [go_sem])).alloc _, Blk.new _ _ _ _ (by simp [go_sem]), Heap.nil _ _, (((Below.refl _ _).alloc (Nat.le_refl _) _).alloc (by simp [go_sem]) _).alloc (by simp [go_sem]; omega) _⟩ ?_
  rintro W ⟨h0, h1, h2, h3, hb⟩
  have G0 := Lib.hid h0
  have G1 := Lib.hid h1
  have G2 := Lib.hid h2
  have G3 := Lib.hid h3
  have HB := Lib.hid hb
  have q0 := h0.get 0
  simp at q0
  clear h0 h1 h2 h3 hb
  have z0 := G2.out.get 0
  have f0 := G2.out.frz 0
  simp at z0
  go_upto_region 3 with fail
  refine wp_gen (fun W => Blk W w.heap.size 43 #[.int .i64 kind, .int .i64 who, .int .i64 serial, .int .i64 at_, .int .i64 op_kind, .string op_key, .int .i64 op_what, .int .i64 op_val, .int .i64 code, .int .i64 win, .int .i64 steps, .int .i64 flips, .slice arows nrows crows] ∧ Blk W (w.heap.size + 1) 47 #[.int .i64 0, .int .i64 0, .int .i64 0, .int .i64 0, .int .i64 0, .string ⟨#[]⟩, .int .i64 0, .int .i64 0, .int .i64 0, .int .i64 0, .int .i64 0, .int .i64 0, .slice none 0 0] ∧ Blk W (w.heap.size + 2) 47 #[.int .i64 kind, .int .i64 0, .int .i64 0, .int .i64 0, .int .i64 0, .string ⟨#[]⟩, .int .i64 0, .int .i64 0, .int .i64 0, .int .i64 0, .int .i64 0, .int .i64 0, .slice none 0 0] ∧ Heap W (w.heap.size + 3) [] ∧ Below w.heap.size w W)
    ⟨(G0.out.far _ _ _ (by omega)), (G1.out.far _ _ _ (by omega)), (G2.out.store 0 _), heap_set1 G3.out (by omega) G2.out 0 _, (HB.out.setCell (show w.heap.size ≤ w.heap.size + 2 by omega) _)⟩ ?_
  clear z0 f0 q0 G0 G1 G2 G3 HB
  clear W
  rintro W ⟨h0, h1, h2, h3, hb⟩
  have G0 := Lib.hid h0
  have G1 := Lib.hid h1
  have G2 := Lib.hid h2
  have G3 := Lib.hid h3
  have HB := Lib.hid hb
  have q0 := h0.get 1
  simp at q0
  clear h0 h1 h2 h3 hb
  have z0 := G2.out.get 1
  have f0 := G2.out.frz 1
  simp at z0
  go_upto_region 4 with fail
  refine wp_gen (fun W => Blk W w.heap.size 43 #[.int .i64 kind, .int .i64 who, .int .i64 serial, .int .i64 at_, .int .i64 op_kind, .string op_key, .int .i64 op_what, .int .i64 op_val, .int .i64 code, .int .i64 win, .int .i64 steps, .int .i64 flips, .slice arows nrows crows] ∧ Blk W (w.heap.size + 1) 47 #[.int .i64 0, .int .i64 0, .int .i64 0, .int .i64 0, .int .i64 0, .string ⟨#[]⟩, .int .i64 0, .int .i64 0, .int .i64 0, .int .i64 0, .int .i64 0, .int .i64 0, .slice none 0 0] ∧ Blk W (w.heap.size + 2) 47 #[.int .i64 kind, .int .i64 who, .int .i64 0, .int .i64 0, .int .i64 0, .string ⟨#[]⟩, .int .i64 0, .int .i64 0, .int .i64 0, .int .i64 0, .int .i64 0, .int .i64 0, .slice none 0 0] ∧ Heap W (w.heap.size + 3) [] ∧ Below w.heap.size w W)
    ⟨(G0.out.far _ _ _ (by omega)), (G1.out.far _ _ _ (by omega)), (G2.out.store 1 _), heap_set1 G3.out (by omega) G2.out 1 _, (HB.out.setCell (show w.heap.size ≤ w.heap.size + 2 by omega) _)⟩ ?_
  clear z0 f0 q0 G0 G1 G2 G3 HB
  clear W
  rintro W ⟨h0, h1, h2, h3, hb⟩
  have G0 := Lib.hid h0
  have G1 := Lib.hid h1
  have G2 := Lib.hid h2
  have G3 := Lib.hid h3
  have HB := Lib.hid hb
  have q0 := h0.get 2
  simp at q0
  clear h0 h1 h2 h3 hb
  have z0 := G2.out.get 2
  have f0 := G2.out.frz 2
  simp at z0
  go_upto_region 5 with fail
  refine wp_gen (fun W => Blk W w.heap.size 43 #[.int .i64 kind, .int .i64 who, .int .i64 serial, .int .i64 at_, .int .i64 op_kind, .string op_key, .int .i64 op_what, .int .i64 op_val, .int .i64 code, .int .i64 win, .int .i64 steps, .int .i64 flips, .slice arows nrows crows] ∧ Blk W (w.heap.size + 1) 47 #[.int .i64 0, .int .i64 0, .int .i64 0, .int .i64 0, .int .i64 0, .string ⟨#[]⟩, .int .i64 0, .int .i64 0, .int .i64 0, .int .i64 0, .int .i64 0, .int .i64 0, .slice none 0 0] ∧ Blk W (w.heap.size + 2) 47 #[.int .i64 kind, .int .i64 who, .int .i64 serial, .int .i64 0, .int .i64 0, .string ⟨#[]⟩, .int .i64 0, .int .i64 0, .int .i64 0, .int .i64 0, .int .i64 0, .int .i64 0, .slice none 0 0] ∧ Heap W (w.heap.size + 3) [] ∧ Below w.heap.size w W)
    ⟨(G0.out.far _ _ _ (by omega)), (G1.out.far _ _ _ (by omega)), (G2.out.store 2 _), heap_set1 G3.out (by omega) G2.out 2 _, (HB.out.setCell (show w.heap.size ≤ w.heap.size + 2 by omega) _)⟩ ?_
  clear z0 f0 q0 G0 G1 G2 G3 HB
  clear W
  rintro W ⟨h0, h1, h2, h3, hb⟩
  have G0 := Lib.hid h0
  have G1 := Lib.hid h1
  have G2 := Lib.hid h2
  have G3 := Lib.hid h3
  have HB := Lib.hid hb
  have q0 := h0.get 3
  simp at q0
  clear h0 h1 h2 h3 hb
  have z0 := G2.out.get 3
  have f0 := G2.out.frz 3
  simp at z0
  go_upto_region 6 with fail
  refine wp_gen (fun W => Blk W w.heap.size 43 #[.int .i64 kind, .int .i64 who, .int .i64 serial, .int .i64 at_, .int .i64 op_kind, .string op_key, .int .i64 op_what, .int .i64 op_val, .int .i64 code, .int .i64 win, .int .i64 steps, .int .i64 flips, .slice arows nrows crows] ∧ Blk W (w.heap.size + 1) 47 #[.int .i64 0, .int .i64 0, .int .i64 0, .int .i64 0, .int .i64 0, .string ⟨#[]⟩, .int .i64 0, .int .i64 0, .int .i64 0, .int .i64 0, .int .i64 0, .int .i64 0, .slice none 0 0] ∧ Blk W (w.heap.size + 2) 47 #[.int .i64 kind, .int .i64 who, .int .i64 serial, .int .i64 at_, .int .i64 0, .string ⟨#[]⟩, .int .i64 0, .int .i64 0, .int .i64 0, .int .i64 0, .int .i64 0, .int .i64 0, .slice none 0 0] ∧ Heap W (w.heap.size + 3) [] ∧ Below w.heap.size w W)
    ⟨(G0.out.far _ _ _ (by omega)), (G1.out.far _ _ _ (by omega)), (G2.out.store 3 _), heap_set1 G3.out (by omega) G2.out 3 _, (HB.out.setCell (show w.heap.size ≤ w.heap.size + 2 by omega) _)⟩ ?_
  clear z0 f0 q0 G0 G1 G2 G3 HB
  clear W
  rintro W ⟨h0, h1, h2, h3, hb⟩
  have G0 := Lib.hid h0
  have G1 := Lib.hid h1
  have G2 := Lib.hid h2
  have G3 := Lib.hid h3
  have HB := Lib.hid hb
  have q0 := h0.get 4
  have q1 := h0.get 5
  have q2 := h0.get 6
  have q3 := h0.get 7
  simp at q0 q1 q2 q3
  clear h0 h1 h2 h3 hb
  go_wp2_with fail
  refine (HT _).out.mono ?_
  rintro e w2 ⟨rfl, hb2⟩
  replace G0 := Lib.hid (G0.out.below hb2)
  replace G1 := Lib.hid (G1.out.below hb2)
  replace G2 := Lib.hid (G2.out.below hb2)
  replace HB := Lib.hid (HB.out.trans (hb2.mono HB.out.size))
  replace G3 := Lib.hid (G3.out.below hb2)
  clear hb2 q0 q1 q2 q3
  have z0 := G2.out.get 4
  have f0 := G2.out.frz 4
  have z1 := G2.out.get 5
  have f1 := G2.out.frz 5
  have z2 := G2.out.get 6
  have f2 := G2.out.frz 6
  have z3 := G2.out.get 7
  have f3 := G2.out.frz 7
  simp at z0 z1 z2 z3
  go_upto_region 7 with fail
  refine wp_gen (fun W => Blk W w.heap.size 43 #[.int .i64 kind, .int .i64 who, .int .i64 serial, .int .i64 at_, .int .i64 op_kind, .string op_key, .int .i64 op_what, .int .i64 op_val, .int .i64 code, .int .i64 win, .int .i64 steps, .int .i64 flips, .slice arows nrows crows] ∧ Blk W (w.heap.size + 1) 47 #[.int .i64 0, .int .i64 0, .int .i64 0, .int .i64 0, .int .i64 0, .string ⟨#[]⟩, .int .i64 0, .int .i64 0, .int .i64 0, .int .i64 0, .int .i64 0, .int .i64 0, .slice none 0 0] ∧ Blk W (w.heap.size + 2) 47 #[.int .i64 kind, .int .i64 who, .int .i64 serial, .int .i64 at_, .int .i64 op_kind, .string op_key, .int .i64 op_what, .int .i64 op_val, .int .i64 0, .int .i64 0, .int .i64 0, .int .i64 0, .slice none 0 0] ∧ Heap W (w.heap.size + 3) [] ∧ Below w.heap.size w W)
    ⟨((((G0.out.far _ _ _ (by omega)).far _ _ _ (by omega)).far _ _ _ (by omega)).far _ _ _ (by omega)), ((((G1.out.far _ _ _ (by omega)).far _ _ _ (by omega)).far _ _ _ (by omega)).far _ _ _ (by omega)), ((((G2.out.store 4 _).store 5 _).store 6 _).store 7 _), heap_set1 (heap_set1 (heap_set1 (heap_set1 G3.out (by omega) G2.out 4 _) (by omega) (G2.out.store 4 _) 5 _) (by omega) ((G2.out.store 4 _).store 5 _) 6 _) (by omega) (((G2.out.store 4 _).store 5 _).store 6 _) 7 _, ((((HB.out.setCell (show w.heap.size ≤ w.heap.size + 2 by omega) _).setCell (show w.heap.size ≤ w.heap.size + 2 by omega) _).setCell (show w.heap.size ≤ w.heap.size + 2 by omega) _).setCell (show w.heap.size ≤ w.heap.size + 2 by omega) _)⟩ ?_
  clear z0 z1 z2 z3 f0 f1 f2 f3 G0 G1 G2 G3 HB
  clear w2
  clear W
  rintro W ⟨h0, h1, h2, h3, hb⟩
  have G0 := Lib.hid h0
  have G1 := Lib.hid h1
  have G2 := Lib.hid h2
  have G3 := Lib.hid h3
  have HB := Lib.hid hb
  have q0 := h0.get 8
  simp at q0
  clear h0 h1 h2 h3 hb
  have z0 := G2.out.get 8
  have f0 := G2.out.frz 8
  simp at z0
  go_upto_region 8 with fail
  refine wp_gen (fun W => Blk W w.heap.size 43 #[.int .i64 kind, .int .i64 who, .int .i64 serial, .int .i64 at_, .int .i64 op_kind, .string op_key, .int .i64 op_what, .int .i64 op_val, .int .i64 code, .int .i64 win, .int .i64 steps, .int .i64 flips, .slice arows nrows crows] ∧ Blk W (w.heap.size + 1) 47 #[.int .i64 0, .int .i64 0, .int .i64 0, .int .i64 0, .int .i64 0, .string ⟨#[]⟩, .int .i64 0, .int .i64 0, .int .i64 0, .int .i64 0, .int .i64 0, .int .i64 0, .slice none 0 0] ∧ Blk W (w.heap.size + 2) 47 #[.int .i64 kind, .int .i64 who, .int .i64 serial, .int .i64 at_, .int .i64 op_kind, .string op_key, .int .i64 op_what, .int .i64 op_val, .int .i64 code, .int .i64 0, .int .i64 0, .int .i64 0, .slice none 0 0] ∧ Heap W (w.heap.size + 3) [] ∧ Below w.heap.size w W)
    ⟨(G0.out.far _ _ _ (by omega)), (G1.out.far _ _ _ (by omega)), (G2.out.store 8 _), heap_set1 G3.out (by omega) G2.out 8 _, (HB.out.setCell (show w.heap.size ≤ w.heap.size + 2 by omega) _)⟩ ?_
  clear z0 f0 q0 G0 G1 G2 G3 HB
  clear W
  rintro W ⟨h0, h1, h2, h3, hb⟩
  have G0 := Lib.hid h0
  have G1 := Lib.hid h1
  have G2 := Lib.hid h2
  have G3 := Lib.hid h3
  have HB := Lib.hid hb
  have q0 := h0.get 9
  simp at q0
  clear h0 h1 h2 h3 hb
  have z0 := G2.out.get 9
  have f0 := G2.out.frz 9
  simp at z0
  go_upto_region 9 with fail
  refine wp_gen (fun W => Blk W w.heap.size 43 #[.int .i64 kind, .int .i64 who, .int .i64 serial, .int .i64 at_, .int .i64 op_kind, .string op_key, .int .i64 op_what, .int .i64 op_val, .int .i64 code, .int .i64 win, .int .i64 steps, .int .i64 flips, .slice arows nrows crows] ∧ Blk W (w.heap.size + 1) 47 #[.int .i64 0, .int .i64 0, .int .i64 0, .int .i64 0, .int .i64 0, .string ⟨#[]⟩, .int .i64 0, .int .i64 0, .int .i64 0, .int .i64 0, .int .i64 0, .int .i64 0, .slice none 0 0] ∧ Blk W (w.heap.size + 2) 47 #[.int .i64 kind, .int .i64 who, .int .i64 serial, .int .i64 at_, .int .i64 op_kind, .string op_key, .int .i64 op_what, .int .i64 op_val, .int .i64 code, .int .i64 win, .int .i64 0, .int .i64 0, .slice none 0 0] ∧ Heap W (w.heap.size + 3) [] ∧ Below w.heap.size w W)
    ⟨(G0.out.far _ _ _ (by omega)), (G1.out.far _ _ _ (by omega)), (G2.out.store 9 _), heap_set1 G3.out (by omega) G2.out 9 _, (HB.out.setCell (show w.heap.size ≤ w.heap.size + 2 by omega) _)⟩ ?_
  clear z0 f0 q0 G0 G1 G2 G3 HB
  clear W
  rintro W ⟨h0, h1, h2, h3, hb⟩
  have G0 := Lib.hid h0
  have G1 := Lib.hid h1
  have G2 := Lib.hid h2
  have G3 := Lib.hid h3
  have HB := Lib.hid hb
  have q0 := h0.get 10
  simp at q0
  clear h0 h1 h2 h3 hb
  have z0 := G2.out.get 10
  have f0 := G2.out.frz 10
  simp at z0
  go_upto_region 10 with fail
  refine wp_gen (fun W => Blk W w.heap.size 43 #[.int .i64 kind, .int .i64 who, .int .i64 serial, .int .i64 at_, .int .i64 op_kind, .string op_key, .int .i64 op_what, .int .i64 op_val, .int .i64 code, .int .i64 win, .int .i64 steps, .int .i64 flips, .slice arows nrows crows] ∧ Blk W (w.heap.size + 1) 47 #[.int .i64 0, .int .i64 0, .int .i64 0, .int .i64 0, .int .i64 0, .string ⟨#[]⟩, .int .i64 0, .int .i64 0, .int .i64 0, .int .i64 0, .int .i64 0, .int .i64 0, .slice none 0 0] ∧ Blk W (w.heap.size + 2) 47 #[.int .i64 kind, .int .i64 who, .int .i64 serial, .int .i64 at_, .int .i64 op_kind, .string op_key, .int .i64 op_what, .int .i64 op_val, .int .i64 code, .int .i64 win, .int .i64 steps, .int .i64 0, .slice none 0 0] ∧ Heap W (w.heap.size + 3) [] ∧ Below w.heap.size w W)
    ⟨(G0.out.far _ _ _ (by omega)), (G1.out.far _ _ _ (by omega)), (G2.out.store 10 _), heap_set1 G3.out (by omega) G2.out 10 _, (HB.out.setCell (show w.heap.size ≤ w.heap.size + 2 by omega) _)⟩ ?_
  clear z0 f0 q0 G0 G1 G2 G3 HB
  clear W
  rintro W ⟨h0, h1, h2, h3, hb⟩
  have G0 := Lib.hid h0
  have G1 := Lib.hid h1
  have G2 := Lib.hid h2
  have G3 := Lib.hid h3
  have HB := Lib.hid hb
  have q0 := h0.get 11
  simp at q0
  clear h0 h1 h2 h3 hb
  have z0 := G2.out.get 11
  have f0 := G2.out.frz 11
  simp at z0
  go_upto_region 11 with fail
  refine wp_gen (fun W => Blk W w.heap.size 43 #[.int .i64 kind, .int .i64 who, .int .i64 serial, .int .i64 at_, .int .i64 op_kind, .string op_key, .int .i64 op_what, .int .i64 op_val, .int .i64 code, .int .i64 win, .int .i64 steps, .int .i64 flips, .slice arows nrows crows] ∧ Blk W (w.heap.size + 1) 47 #[.int .i64 0, .int .i64 0, .int .i64 0, .int .i64 0, .int .i64 0, .string ⟨#[]⟩, .int .i64 0, .int .i64 0, .int .i64 0, .int .i64 0, .int .i64 0, .int .i64 0, .slice none 0 0] ∧ Blk W (w.heap.size + 2) 47 #[.int .i64 kind, .int .i64 who, .int .i64 serial, .int .i64 at_, .int .i64 op_kind, .string op_key, .int .i64 op_what, .int .i64 op_val, .int .i64 code, .int .i64 win, .int .i64 steps, .int .i64 flips, .slice none 0 0] ∧ Heap W (w.heap.size + 3) [] ∧ Below w.heap.size w W)
    ⟨(G0.out.far _ _ _ (by omega)), (G1.out.far _ _ _ (by omega)), (G2.out.store 11 _), heap_set1 G3.out (by omega) G2.out 11 _, (HB.out.setCell (show w.heap.size ≤ w.heap.size + 2 by omega) _)⟩ ?_
  clear z0 f0 q0 G0 G1 G2 G3 HB
  clear W
  rintro W ⟨h0, h1, h2, h3, hb⟩
  have G0 := Lib.hid h0
  have G1 := Lib.hid h1
  have G2 := Lib.hid h2
  have G3 := Lib.hid h3
  have HB := Lib.hid hb
  have q0 := h0.get 12
  simp at q0
  have HC := Lib.hid (Hrows W (Arows.out.below hb)).out
  clear h0 h1 h2 h3 hb
  go_wp2_with fail
  refine HC.out.mono ?_
  rintro e w2 ⟨u, rfl, ho, hb2⟩
  clear HC
  have hlt3 := G2.out.lt
  have hown : (⟨u, 81, 10, rows.length, (cellsR rows)⟩ : Rw).own w2 (w.heap.size + 3) := Rw.own_base (show (⟨u, 81, 10, rows.length, (cellsR rows)⟩ : Rw).own w2 W.heap.size from ho) hlt3
  obtain ⟨Brows, drows, rfl⟩ : ∃ A c, u = .slice A rows.length c := by
    rcases hown.2 with ⟨e, h0⟩ | ⟨g, cap, cur, e, _⟩
    · have h0 : rows.length = 0 := h0
      exact ⟨none, 0, by rw [h0]; exact e⟩
    · exact ⟨_, cap, e⟩
  rw [HNrows.out] at hown ⊢
  have HX := Lib.hid (Heap.join (G3.out.below hb2) (Heap.one (r := ⟨.slice Brows nrows drows, 81, 10, nrows, (cellsR rows)⟩) (show (⟨.slice Brows nrows drows, 81, 10, nrows, (cellsR rows)⟩ : Rw).own w2 W.heap.size from by have := ((show (⟨.slice Brows rows.length drows, 81, 10, rows.length, (cellsR rows)⟩ : Rw).own w2 W.heap.size from ho)); rw [HNrows.out] at this; exact this)) hlt3 (fun r hr b hbk => G3.out.lt hr b hbk))
  clear ho hown hlt3 G3
  replace G0 := Lib.hid (G0.out.below hb2)
  replace G1 := Lib.hid (G1.out.below hb2)
  replace G2 := Lib.hid (G2.out.below hb2)
  replace HB := Lib.hid (HB.out.trans (hb2.mono HB.out.size))
  have G3 := Lib.hid HX.out
  clear hb2 HX q0
  have z0 := G2.out.get 12
  have f0 := G2.out.frz 12
  simp at z0
  go_upto_region 12 with fail
  refine wp_gen (fun W => Blk W w.heap.size 43 #[.int .i64 kind, .int .i64 who, .int .i64 serial, .int .i64 at_, .int .i64 op_kind, .string op_key, .int .i64 op_what, .int .i64 op_val, .int .i64 code, .int .i64 win, .int .i64 steps, .int .i64 flips, .slice arows nrows crows] ∧ Blk W (w.heap.size + 1) 47 #[.int .i64 0, .int .i64 0, .int .i64 0, .int .i64 0, .int .i64 0, .string ⟨#[]⟩, .int .i64 0, .int .i64 0, .int .i64 0, .int .i64 0, .int .i64 0, .int .i64 0, .slice none 0 0] ∧ Blk W (w.heap.size + 2) 47 #[.int .i64 kind, .int .i64 who, .int .i64 serial, .int .i64 at_, .int .i64 op_kind, .string op_key, .int .i64 op_what, .int .i64 op_val, .int .i64 code, .int .i64 win, .int .i64 steps, .int .i64 flips, .slice Brows nrows drows] ∧ Heap W (w.heap.size + 3) [⟨.slice Brows nrows drows, 81, 10, nrows, (cellsR rows)⟩] ∧ Below w.heap.size w W)
    ⟨(G0.out.far _ _ _ (by omega)), (G1.out.far _ _ _ (by omega)), (G2.out.store 12 _), heap_set1 G3.out (by omega) G2.out 12 _, (HB.out.setCell (show w.heap.size ≤ w.heap.size + 2 by omega) _)⟩ ?_
  clear z0 f0 G0 G1 G2 G3 HB
  clear w2
  clear W
  rintro W ⟨h0, h1, h2, h3, hb⟩
  have G1 := Lib.hid h1
  have G2 := Lib.hid h2
  have G3 := Lib.hid h3
  have HB := Lib.hid hb
  have hu := Try.underlying47
  clear h0 h1 h2 h3 hb
  go_wp2_with (first | refine wpList_load_row rfl 47 _ rfl (w.heap.size + 2) rfl 47 #[.int .i64 kind, .int .i64 who, .int .i64 serial, .int .i64 at_, .int .i64 op_kind, .string op_key, .int .i64 op_what, .int .i64 op_val, .int .i64 code, .int .i64 win, .int .i64 steps, .int .i64 flips, .slice Brows nrows drows] (0, 0) _ G2.out hu rfl (by kernel_rfl) ?_ | refine wpList_store_row rfl 47 _ _ rfl (w.heap.size + 1) #[.int .i64 kind, .int .i64 who, .int .i64 serial, .int .i64 at_, .int .i64 op_kind, .string op_key, .int .i64 op_what, .int .i64 op_val, .int .i64 code, .int .i64 win, .int .i64 steps, .int .i64 flips, .slice Brows nrows drows] rfl rfl 47 _ G1.out (by kernel_rfl) rfl (by simp [Value.oneCell']) ?_)
  refine post_gen (fun X => Blk X (w.heap.size + 1) 47 #[.int .i64 kind, .int .i64 who, .int .i64 serial, .int .i64 at_, .int .i64 op_kind, .string op_key, .int .i64 op_what, .int .i64 op_val, .int .i64 code, .int .i64 win, .int .i64 steps, .int .i64 flips, .slice Brows nrows drows] ∧ Heap X (w.heap.size + 3) [⟨.slice Brows nrows drows, 81, 10, nrows, (cellsR rows)⟩] ∧ Below w.heap.size w X) ⟨setRow_heap _ _ _ _ _ _ G1.out, heap_setRow G3.out (by omega) _, below_setRow' HB.out (by omega) _⟩ ?_
  clear G1 G2 G3 HB
  rintro X ⟨h1, h3, hb⟩
  refine bodyPost_ret (v := .agg #[.int .i64 kind, .int .i64 who, .int .i64 serial, .int .i64 at_, .int .i64 op_kind, .string op_key, .int .i64 op_what, .int .i64 op_val, .int .i64 code, .int .i64 win, .int .i64 steps, .int .i64 flips, .slice Brows nrows drows]) (results_cell_row rfl _ _ _ _ _ (0, 0) _ rfl h1 hu rfl (by kernel_rfl)) rfl ⟨.slice Brows nrows drows, rfl, ?_, hb⟩
  rw [HNrows.out]
  exact h3.base (show w.heap.size ≤ w.heap.size + 3 by omega)
/-- Rows of such records, all of the call's own. -/
def MadeEvS (w : World) (l : List E) (e : Ending) (w' : World) : Prop := ∃ v, e = .returned v ∧ OwnY 47 13 evDat w' w.heap.size w'.heap.size v l ∧ Below w.heap.size w w'
set_option maxRecDepth 100000 in
set_option maxHeartbeats 4000000 in
theorem toEvS_any (w : World) (v : Value) (l : List E) (h : ArgT 13 evDat zeroE w v l) (hl : l.length ≤ 1048576) (hi : ∀ j, j < l.length → (l.getD j zeroE).rows.length ≤ 1048576) :
    Calls Try.prog 12 #[v] w (MadeEvS w l) := by
  obtain ⟨i0, hi0, hz0, hz1, hz2⟩ := info_parts info_Ev
  obtain ⟨A, cap, rfl, h1, h2, h3⟩ := h
  have HIL := Lib.hid hi
  have HP := Lib.hid (fun j (hj : j < l.length) => datL_part (z := zeroE) evDat_len l j hj)
  have HPZ := Lib.hid (partF_zero (z := zeroE) l)
  have HPA := Lib.hid (partF_all (z := zeroE) l)
  generalize hn : l.length = n at *
  have HN := Lib.hid hn
  have HC := Lib.hid h3
  clear hn h3 hi
  unfold maxLen at h2
  go_enter Try.func12, Try.ntmps12
  go_wp2_with (refine wpList_make_full _ rfl _ _ 25 rfl w.heap.size 47 i0 (.agg #[.int .i64 0, .int .i64 0, .int .i64 0, .int .i64 0, .int .i64 0, .string ⟨#[]⟩, .int .i64 0, .int .i64 0, .int .i64 0, .int .i64 0, .int .i64 0, .int .i64 0, .slice none 0 0]) 13 Try.underlying25 hi0 hz0 hz1 .i64 .i64 _ _ n rfl rfl rfl rfl ?c1 ?c2 ?c3 ?_; rotate_left 3; intro w1 hown hg; have HO := Lib.hid hown; have HG := Lib.hid hg; clear hown hg)
  case c1 => rw [hz2]; omega
  case c2 => unfold maxLen; omega
  case c3 => exact Nat.le_refl _
  clear hi0 hz0 hz1 hz2
  go_loopw [4] (fun i wr => ∃ j : Nat, j ≤ n ∧ i = .int .i64 j ∧ OwnX 47 13 n wr w.heap.size wr.heap.size (.slice (some ⟨w.heap.size, 0, none⟩) n n) (datL evDat (partF zeroE l j)) ∧ Below w.heap.size w wr) (fun i _ => n - (intOf i).toNat)
  case atStart =>
    refine ⟨0, Nat.zero_le _, rfl, ?_, below_madeF HG.out⟩
    rw [HPZ.out]
    exact OwnX.made HO.out rfl (by decide) evZero_ok.1 evZero_ok.2
  case round =>
    obtain ⟨j, hj, rfl, hh, hbl⟩ := hrel
    by_cases hlt : j < n
    · obtain ⟨b, off, hA, hb, hC⟩ := HC.out (by omega)
      obtain ⟨vrows, hrng, hin⟩ := ev_at ((hC j hlt).below hb hbl)
      obtain ⟨hp0, hp1, hp2⟩ := HP.out j hlt
      have HQ := Lib.hid (toEv_any wr (l.getD j zeroE) vrows hin (HIL.out j hlt))
      rw [hp0] at hh
      have HH := Lib.hid hh
      have HP1 := Lib.hid hp1
      have HP2 := Lib.hid hp2
      have HB := Lib.hid hbl
      have HR := Lib.hid hrng
      subst hA
      clear hh hbl hC hin hp0 hp1 hp2 hrng
      generalize l.getD j zeroE = r at *
      have hjn : (j : Int) < (n : Int) := by omega
      have hul := Try.underlying43
      go_wp2_with ((with_reducible show wpList _ _ _ _ _ _); refine wpList_load_mid rfl 43 _ rfl b (off + j * 13) rfl (evVals r vrows).toList _ HR.out hul rfl (by kernel_rfl) ?_)
      refine HQ.out.mono ?_
      rintro e w2 ⟨urows, rfl, hn2, hb2⟩
      obtain ⟨Arows, crows, rfl⟩ := Rw.slice (hn2.own _ List.mem_cons_self)
      have hsz := HB.out.size
      have hB2 := HB.out.trans (hb2.mono hsz)
      have hH2 := HH.out.below hb2
      have hthere := hH2.there (o := j * 13) (m := (evVals r (.slice Arows r.rows.length crows)).size) (by show j * 13 + 13 ≤ n * 13; omega)
      have HT := Lib.hid hthere
      have HN2 := Lib.hid hn2
      have HB2 := Lib.hid hB2
      have HH2 := Lib.hid hH2
      have HS2 := Lib.hid hb2.size
      have HSZ := Lib.hid hsz
      clear hn2 hb2 hB2 hH2 hsz hthere HB HH
      have HPT := Lib.hid (OwnX.put (us := (evVals r (.slice Arows r.rows.length crows)).toList) (D' := evDat r) HH2.out HP2.out rfl (evVals_ok _ _) (E' := w2.heap.size) ⟨HN2.out, fun x hx => HN2.out.lt hx⟩ (Nat.le_refl _) HSZ.out HS2.out)
      have HBT := Lib.hid (below_putN HB2.out (Nat.le_refl w.heap.size) (evVals r (.slice Arows r.rows.length crows)).toList (j * 13))
      clear HN2 HH2 HB2
      go_wp2_with ((with_reducible show wpList _ _ _ [_] _ _); refine wpList_store_mid rfl 47 _ _ rfl w.heap.size (j * 13) (evVals r (.slice Arows r.rows.length crows)) rfl rfl HT.out (by kernel_rfl) (by simp [evVals, Value.oneCell']) ?_; rw [setCells_putN]; generalize putN w2 w.heap.size (j * 13) (evVals r (.slice Arows r.rows.length crows)).toList = W at HPT HBT ⊢)
      go_roundw
      case rel =>
        refine ⟨j + 1, by omega, by go_num, ?_, HBT.out⟩
        rw [HP1.out]
        exact HPT.out.1.mono HPT.out.2.size
      case measure => simp [intOf]; omega
    · have hjn : j = n := by omega
      subst hjn
      have HH2 := Lib.hid hh
      have HB2 := Lib.hid hbl
      clear hh hbl
      go_wp2_with fail
      go_ret
      refine ⟨_, rfl, ?_, HB2.out⟩
      have := HH2.out
      rw [HPA.out] at this
      unfold OwnY
      rw [HN.out]
      exact this
end Go.Proofs.Ytjiaogbkmpjciaa
/-
  A world as a value, and the exact laws' copy of it.
-/
namespace Go.Proofs.Ytjiaogbkmpjciaa
open Go.RowKit M
set_option linter.unusedVariables false
set_option linter.unusedSimpArgs false
def intRw (v : Value) (zs : List Int) : Rw := ⟨v, 3, 1, zs.length, zs.map (Value.int .i64)⟩
def worVals (s : S) (vc vj vt vl : Value) : Array Value := #[vc, vj, vt, vl, .int .i64 s.serial, .int .i64 s.now]
/-- The world's rows read as they should. -/
structure WorIn (w : World) (s : S) (vc vj vt vl : Value) : Prop where
  c : IntsArg w vc s.cells
  j : ArgT 18 jobDat zeroJ w vj s.jobs
  t : ArgQ w vt s.todo
  l : ArgT 13 evDat zeroE w vl s.log
theorem WorIn.below {w w' : World} {s : S} {vc vj vt vl : Value} (h : WorIn w s vc vj vt vl) (hb : Below w.heap.size w w') : WorIn w' s vc vj vt vl := ⟨h.c.below hb, h.j.below hb, h.t.below hb, h.l.below hb⟩
/-- No row is longer than a budget allows. -/
structure SmallS (s : S) : Prop where
  c : s.cells.length ≤ 1048576
  j : s.jobs.length ≤ 1048576
  jk : ∀ j, j < s.jobs.length → (s.jobs.getD j zeroJ).keys.length ≤ 1048576 ∧ (s.jobs.getD j zeroJ).raw.length ≤ 1048576
  t : s.todo.length ≤ 1048576
  tk : ∀ j, j < s.todo.length → (s.todo.getD j []).length ≤ 1048576
  l : s.log.length ≤ 1048576
  lk : ∀ j, j < s.log.length → (s.log.getD j zeroE).rows.length ≤ 1048576
theorem intRw_slice {w : World} {B E : Nat} {v : Value} {zs : List Int} (h : HeapE w B E [intRw v zs]) : ∃ A c, v = .slice A zs.length c := Rw.slice (h.1.own _ List.mem_cons_self)
theorem HeapE.far1 {w w' : World} {B E g : Nat} {L : List Rw} (h : HeapE w B E L) (hc : Chg (Within g (g + 1)) w w') (hg : g < B) : HeapE w' B E L := h.far hc (.inr (by omega))
end Go.Proofs.Ytjiaogbkmpjciaa
/-
  The exact laws' budget behind the record Job, and behind rows of it.
-/
namespace Go.Proofs.Ytjiaogbkmpjciaa
open Go.RowKit M
set_option linter.unusedVariables false
set_option linter.unusedSimpArgs false
def szInt (n : Nat) (l : Int) : Int := if l - (n : Int) < 0 then -1 else l - (n : Int)
theorem szInt_le {n : Nat} {l : Int} (h : 0 ≤ szInt n l) : (n : Int) + szInt n l ≤ l := by unfold szInt at *; split at h <;> (first | omega | (rename_i h2; rw [if_neg h2]; omega))
/-- A budget spent one after another. -/
def szBind (x : Int) (g : Int → Int) : Int := if x < 0 then -1 else g x
theorem szV_tot {rs : List R} {l : Int} (h : 0 ≤ szV rs l) : (rs.length : Int) + szV rs l ≤ l := by
  have hL : ∀ (rs : List R) (l : Int), szL rs l ≤ l ∨ szL rs l = -1 := by
    intro rs
    induction rs with
    | nil => exact fun l => .inl (Int.le_refl _)
    | cons r rs ih =>
      intro l
      unfold szL
      split
      · exact .inr rfl
      · rcases ih (l - (r.key.size : Int)) with h | h
        · exact .inl (by omega)
        · exact .inr h
  unfold szV at *
  split at h
  · omega
  · rename_i h2
    rw [if_neg h2]
    rcases hL rs (l - (rs.length : Int)) with h3 | h3 <;> omega
/-- What is left of a budget behind the record. -/
def szJobV (r : J) (l : Int) : Int := szBind (szBind (szBind (szInt r.op.key.size l) (szInt r.keys.length)) (szInt r.raw.length)) (fun x => x)
theorem szJobV_le {r : J} {l : Int} (h : 0 ≤ szJobV r l) : (r.keys.length : Int) + (r.raw.length : Int) + szJobV r l ≤ l := by
  unfold szJobV szBind at *
  by_cases a0 : szInt r.op.key.size l < 0
  · rw [if_pos a0] at h; simp at h
  have b0 := szInt_le (n := r.op.key.size) (l := l) (by omega)
  rw [if_neg a0] at h ⊢
  by_cases a1 : szInt r.keys.length (szInt r.op.key.size l) < 0
  · rw [if_pos a1] at h; simp at h
  have b1 := szInt_le (l := (szInt r.op.key.size l)) (show 0 ≤ szInt r.keys.length (szInt r.op.key.size l) by omega)
  rw [if_neg a1] at h ⊢
  by_cases a2 : szInt r.raw.length (szInt r.keys.length (szInt r.op.key.size l)) < 0
  · rw [if_pos a2] at h; simp at h
  have b2 := szInt_le (l := (szInt r.keys.length (szInt r.op.key.size l))) (show 0 ≤ szInt r.raw.length (szInt r.keys.length (szInt r.op.key.size l)) by omega)
  rw [if_neg a2] at h ⊢
  dsimp only at h ⊢
  omega
/-- What is left of a budget behind such records. -/
def szLJob : List J → Int → Int
  | [], l => l
  | r :: rs, l => if szJobV r l < 0 then -1 else szLJob rs (szJobV r l)
def szJobSV (ls : List J) (l : Int) : Int := if l - (ls.length : Int) < 0 then -1 else szLJob ls (l - (ls.length : Int))
theorem szLJob_drop (ls : List J) (j : Nat) (hj : j < ls.length) (c : Int) : szLJob (ls.drop j) c = if szJobV (ls.getD j zeroJ) c < 0 then -1 else szLJob (ls.drop (j + 1)) (szJobV (ls.getD j zeroJ) c) := by
  rw [List.drop_eq_getElem_cons hj, List.getD_eq_getElem?_getD, List.getElem?_eq_getElem hj]
  rfl
theorem szLJob_le : ∀ (ls : List J) (l : Int), 0 ≤ szLJob ls l → szLJob ls l ≤ l ∧ ∀ j, j < ls.length → 0 ≤ szJobV (ls.getD j zeroJ) l ∨ ∃ x, x ≤ l ∧ 0 ≤ szJobV (ls.getD j zeroJ) x := by
  intro ls
  induction ls with
  | nil => exact fun l _ => ⟨Int.le_refl _, fun j hj => absurd hj (Nat.not_lt_zero _)⟩
  | cons r rs ih =>
    intro l h
    have e : szLJob (r :: rs) l = if szJobV r l < 0 then -1 else szLJob rs (szJobV r l) := rfl
    rw [e] at h ⊢
    by_cases h2 : szJobV r l < 0
    · rw [if_pos h2] at h; simp at h
    · rw [if_neg h2] at h ⊢
      have h3 := szJobV_le (r := r) (l := l) (by omega)
      have h4 := ih _ h
      refine ⟨by omega, fun j hj => ?_⟩
      cases j with
      | zero => exact .inl (by rw [List.getD_cons_zero]; omega)
      | succ j =>
        rw [List.getD_cons_succ]
        rcases h4.2 j (by simpa using hj) with h5 | ⟨x, hx, h5⟩
        · exact .inr ⟨_, by omega, h5⟩
        · exact .inr ⟨x, by omega, h5⟩
end Go.Proofs.Ytjiaogbkmpjciaa
/-
  The exact laws' budget behind the record Ev, and behind rows of it.
-/
namespace Go.Proofs.Ytjiaogbkmpjciaa
open Go.RowKit M
set_option linter.unusedVariables false
set_option linter.unusedSimpArgs false
/-- What is left of a budget behind the record. -/
def szEvV (r : E) (l : Int) : Int := szBind (szBind (szInt r.op.key.size l) (szV r.rows)) (fun x => x)
theorem szEvV_le {r : E} {l : Int} (h : 0 ≤ szEvV r l) : (r.rows.length : Int) + szEvV r l ≤ l := by
  unfold szEvV szBind at *
  by_cases a0 : szInt r.op.key.size l < 0
  · rw [if_pos a0] at h; simp at h
  have b0 := szInt_le (n := r.op.key.size) (l := l) (by omega)
  rw [if_neg a0] at h ⊢
  by_cases a1 : szV r.rows (szInt r.op.key.size l) < 0
  · rw [if_pos a1] at h; simp at h
  have b1 := szV_tot (l := (szInt r.op.key.size l)) (show 0 ≤ szV r.rows (szInt r.op.key.size l) by omega)
  rw [if_neg a1] at h ⊢
  dsimp only at h ⊢
  omega
set_option maxRecDepth 100000 in
set_option maxHeartbeats 4000000 in
theorem szEv_any (w : World) (r : E) (vrows : Value) (left : Int) (h : evIn w r vrows) (hk : r.op.key.size ≤ maxLen) (hr : ∀ j, j < r.rows.length → (r.rows.getD j zeroR).key.size ≤ maxLen) (h0 : 0 ≤ left) (h1 : left ≤ 1048576) : Calls Try.prog 31 #[.agg (evVals r vrows), .int .i64 left] w (Gives (.int .i64 (szEvV r left)) w) := by
  have hrows := h
  clear h
  have HT := fun W => Lib.hid (szOp_any W r.op left hk h0 h1)
  have Zrows := fun W h x h0 h1 => Lib.hid (szRowS_any W vrows r.rows x h hr h0 h1)
  have Hrows := Lib.hid hrows
  obtain ⟨arows, crows, rfl, _, _, _⟩ := hrows
  have HE := Lib.hid (show szEvV r left = _ from rfl)
  have HB := Lib.hid ((Below.refl w.heap.size w).alloc (Nat.le_refl _) (.cells (evVals r (.slice arows r.rows.length crows)) 43))
  have e0 : (if left - (r.op.key.size : Int) < 0 then -1 else left - (r.op.key.size : Int)) = szInt r.op.key.size left := rfl
  rw [e0] at HT
  have l0 := fun h => szInt_le (n := r.op.key.size) (l := left) h
  have l1 := fun x h => szV_tot (rs := r.rows) (l := x) h
  have HV := Lib.hid (show szEvV r left = szBind (szBind (szInt r.op.key.size left) (szV r.rows)) (fun x => x) from rfl)
  clear HE e0
  generalize szEvV r left = out at *
  generalize szInt r.op.key.size left = x0 at *
  generalize szV r.rows = grows at *
  obtain ⟨kind, who, serial, at_, ⟨op_kind, op_key, op_what, op_val⟩, code, win, steps, flips, rows⟩ := r
  unfold evVals at *
  unfold O.v at HT
  simp only at *
  generalize rows.length = nrows at *
  by_cases a0 : x0 < 0
  case pos =>
    have d0 : decide (x0 < 0) = true := decide_eq_true a0
    go_enter Try.func31, Try.ntmps31
    go_wp2_with fail
    refine (HT _).out.mono ?_
    rintro e w1 ⟨rfl, hb1⟩
    have HB1 := Lib.hid (HB.out.trans (hb1.mono HB.out.size))
    have G1 := (Blk.new w w.heap.size 43 #[.int .i64 kind, .int .i64 who, .int .i64 serial, .int .i64 at_, .int .i64 op_kind, .string op_key, .int .i64 op_what, .int .i64 op_val, .int .i64 code, .int .i64 win, .int .i64 steps, .int .i64 flips, .slice arows nrows crows] rfl).below hb1
    have q1 := G1.get 12
    simp at q1
    clear hb1
    have hm1 : (-1 : Int) < 0 := by decide
    go_wp2_with fail
    go_ret
    exact ⟨ret_i (by rw [HV.out]; simp only [szBind, if_pos (show x0 < 0 by omega), if_pos hm1]), HB1.out⟩
  have d0 : decide (x0 < 0) = false := decide_eq_false a0
  have z0 := l0 (by omega)
  obtain ⟨x1, hx1⟩ : ∃ x, grows x0 = x := ⟨_, rfl⟩
  have y1 := l1 x0
  rw [hx1] at y1
  by_cases a1 : x1 < 0
  case pos =>
    have d1 : decide (x1 < 0) = true := decide_eq_true a1
    go_enter Try.func31, Try.ntmps31
    go_wp2_with fail
    refine (HT _).out.mono ?_
    rintro e w1 ⟨rfl, hb1⟩
    have HB1 := Lib.hid (HB.out.trans (hb1.mono HB.out.size))
    have G1 := (Blk.new w w.heap.size 43 #[.int .i64 kind, .int .i64 who, .int .i64 serial, .int .i64 at_, .int .i64 op_kind, .string op_key, .int .i64 op_what, .int .i64 op_val, .int .i64 code, .int .i64 win, .int .i64 steps, .int .i64 flips, .slice arows nrows crows] rfl).below hb1
    have q1 := G1.get 12
    simp at q1
    clear hb1
    go_wp2_with fail
    refine (Zrows _ (Hrows.out.below HB1.out) x0 (by omega) (by omega)).out.mono ?_
    rintro e w2 ⟨rfl, hb2⟩
    have HB2 := Lib.hid (HB1.out.trans (hb2.mono HB1.out.size))
    have G2 := G1.below hb2
    have q2 := G2.get 12
    simp at q2
    clear hb2
    rw [hx1]
    have hm1 : (-1 : Int) < 0 := by decide
    go_wp2_with fail
    go_ret
    exact ⟨ret_i (by rw [HV.out]; simp only [szBind, hx1, if_neg (show ¬ x0 < 0 by omega), if_pos (show x1 < 0 by omega), if_pos hm1]), HB2.out⟩
  have d1 : decide (x1 < 0) = false := decide_eq_false a1
  have z1 := y1 (by omega)
  go_enter Try.func31, Try.ntmps31
  go_wp2_with fail
  refine (HT _).out.mono ?_
  rintro e w1 ⟨rfl, hb1⟩
  have HB1 := Lib.hid (HB.out.trans (hb1.mono HB.out.size))
  have G1 := (Blk.new w w.heap.size 43 #[.int .i64 kind, .int .i64 who, .int .i64 serial, .int .i64 at_, .int .i64 op_kind, .string op_key, .int .i64 op_what, .int .i64 op_val, .int .i64 code, .int .i64 win, .int .i64 steps, .int .i64 flips, .slice arows nrows crows] rfl).below hb1
  have q1 := G1.get 12
  simp at q1
  clear hb1
  go_wp2_with fail
  refine (Zrows _ (Hrows.out.below HB1.out) x0 (by omega) (by omega)).out.mono ?_
  rintro e w2 ⟨rfl, hb2⟩
  have HB2 := Lib.hid (HB1.out.trans (hb2.mono HB1.out.size))
  have G2 := G1.below hb2
  have q2 := G2.get 12
  simp at q2
  clear hb2
  rw [hx1]
  have hm1 : (-1 : Int) < 0 := by decide
  go_wp2_with fail
  go_ret
  exact ⟨ret_i (by rw [HV.out]; simp only [szBind, hx1, if_neg (show ¬ x0 < 0 by omega), if_neg (show ¬ x1 < 0 by omega), if_pos hm1]), HB2.out⟩
/-- What is left of a budget behind such records. -/
def szLEv : List E → Int → Int
  | [], l => l
  | r :: rs, l => if szEvV r l < 0 then -1 else szLEv rs (szEvV r l)
def szEvSV (ls : List E) (l : Int) : Int := if l - (ls.length : Int) < 0 then -1 else szLEv ls (l - (ls.length : Int))
theorem szLEv_drop (ls : List E) (j : Nat) (hj : j < ls.length) (c : Int) : szLEv (ls.drop j) c = if szEvV (ls.getD j zeroE) c < 0 then -1 else szLEv (ls.drop (j + 1)) (szEvV (ls.getD j zeroE) c) := by
  rw [List.drop_eq_getElem_cons hj, List.getD_eq_getElem?_getD, List.getElem?_eq_getElem hj]
  rfl
theorem szLEv_le : ∀ (ls : List E) (l : Int), 0 ≤ szLEv ls l → szLEv ls l ≤ l ∧ ∀ j, j < ls.length → 0 ≤ szEvV (ls.getD j zeroE) l ∨ ∃ x, x ≤ l ∧ 0 ≤ szEvV (ls.getD j zeroE) x := by
  intro ls
  induction ls with
  | nil => exact fun l _ => ⟨Int.le_refl _, fun j hj => absurd hj (Nat.not_lt_zero _)⟩
  | cons r rs ih =>
    intro l h
    have e : szLEv (r :: rs) l = if szEvV r l < 0 then -1 else szLEv rs (szEvV r l) := rfl
    rw [e] at h ⊢
    by_cases h2 : szEvV r l < 0
    · rw [if_pos h2] at h; simp at h
    · rw [if_neg h2] at h ⊢
      have h3 := szEvV_le (r := r) (l := l) (by omega)
      have h4 := ih _ h
      refine ⟨by omega, fun j hj => ?_⟩
      cases j with
      | zero => exact .inl (by rw [List.getD_cons_zero]; omega)
      | succ j =>
        rw [List.getD_cons_succ]
        rcases h4.2 j (by simpa using hj) with h5 | ⟨x, hx, h5⟩
        · exact .inr ⟨_, by omega, h5⟩
        · exact .inr ⟨x, by omega, h5⟩
set_option maxRecDepth 100000 in
set_option maxHeartbeats 2000000 in
theorem szEvS_any (w : World) (v : Value) (l : List E) (left : Int) (h : ArgT 13 evDat zeroE w v l) (hk : ∀ j, j < l.length → (l.getD j zeroE).op.key.size ≤ maxLen ∧ ∀ i, i < (l.getD j zeroE).rows.length → ((l.getD j zeroE).rows.getD i zeroR).key.size ≤ maxLen) (h0 : 0 ≤ left) (h1 : left ≤ 1048576) :
    Calls Try.prog 10 #[v, .int .i64 left] w (Gives (.int .i64 (szEvSV l left)) w) := by
  obtain ⟨A, cap, rfl, h2, h3, h4⟩ := h
  have HC := Lib.hid h4
  have HK := Lib.hid hk
  have HL := Lib.hid (fun j (hj : j < l.length) => szLEv_drop l j hj)
  have HE := Lib.hid (show l.drop l.length = [] by simp)
  unfold maxLen at h3
  clear h4 hk
  by_cases hb : left - (l.length : Int) < 0
  · have HV := Lib.hid (show szEvSV l left = -1 from if_pos hb)
    have d1 : decide (left - (l.length : Int) < 0) = true := decide_eq_true hb
    generalize l.length = n at *
    go_enter Try.func10, Try.ntmps10
    go_wp2_with fail
    go_ret
    exact ⟨ret_i HV.out.symm, Below.refl _ _⟩
  · have HV := Lib.hid (show szEvSV l left = szLEv (l.drop 0) (left - (l.length : Int)) by unfold szEvSV; rw [if_neg hb, List.drop_zero])
    have d1 : decide (left - (l.length : Int) < 0) = false := decide_eq_false hb
    have hn : l.length ≤ 1048576 := by omega
    generalize hln : l.length = n at *
    clear hln
    go_enter Try.func10, Try.ntmps10
    go_wp2_with fail
    go_loopw [1, 5] (fun c i wr => ∃ (j : Nat) (x : Int), j ≤ n ∧ i = .int .i64 j ∧ c = .int .i64 x ∧ 0 ≤ x ∧ x ≤ 1048576 ∧ szLEv (l.drop 0) (left - (n : Int)) = szLEv (l.drop j) x ∧ Below w.heap.size w wr) (fun _ i _ => n - (intOf i).toNat)
    case atStart => exact ⟨0, _, Nat.zero_le _, rfl, rfl, by omega, by omega, rfl, Below.refl _ _⟩
    case round =>
      obtain ⟨j, x, hj, rfl, rfl, hx0, hx1, he, hbl⟩ := hrel
      have HB := Lib.hid hbl
      have HX := Lib.hid he
      clear hbl he
      by_cases hlt : j < n
      · obtain ⟨b, off, hA, h3', hC⟩ := HC.out (by omega)
        obtain ⟨vrows, hrng, hin⟩ := ev_at ((hC j hlt).below h3' HB.out)
        have HS := Lib.hid (HL.out j hlt x)
        have HR := Lib.hid (szEv_any wr (l.getD j zeroE) vrows x hin (HK.out j hlt).1 (HK.out j hlt).2 hx0 hx1)
        have HT := Lib.hid (fun h => szEvV_le (r := l.getD j zeroE) (l := x) h)
        have HG := Lib.hid hrng
        subst hA
        clear hC hin hrng
        generalize l.getD j zeroE = r at *
        generalize szEvV r x = y at *
        have hul := Try.underlying43
        have hjn : (j : Int) < (n : Int) := by omega
        by_cases hneg : y < 0
        · rw [if_pos hneg] at HS
          have d2 : decide (y < 0) = true := decide_eq_true hneg
          go_wp2_with ((with_reducible show wpList _ _ _ _ _ _); refine wpList_load_mid rfl 43 _ rfl b (off + j * 13) rfl (evVals r vrows).toList _ HG.out hul rfl (by kernel_rfl) ?_)
          refine HR.out.mono ?_
          rintro e w2 ⟨rfl, hb2⟩
          go_wp2_with fail
          go_ret
          exact ⟨ret_i (by rw [HV.out, HX.out, HS.out]), HB.out.trans (hb2.mono HB.out.size)⟩
        · rw [if_neg hneg] at HS
          have ht := HT.out (by omega)
          have d2 : decide (y < 0) = false := decide_eq_false hneg
          go_wp2_with ((with_reducible show wpList _ _ _ _ _ _); refine wpList_load_mid rfl 43 _ rfl b (off + j * 13) rfl (evVals r vrows).toList _ HG.out hul rfl (by kernel_rfl) ?_)
          refine HR.out.mono ?_
          rintro e w2 ⟨rfl, hb2⟩
          go_wp2_with fail
          go_roundw
          case rel => exact ⟨j + 1, _, by omega, by go_num, rfl, by omega, by omega, by rw [HX.out, HS.out], HB.out.trans (hb2.mono HB.out.size)⟩
          case measure => simp [intOf]; omega
      · have hjn : j = n := by omega
        subst hjn
        go_wp2_with fail
        go_ret
        exact ⟨ret_i (by rw [HV.out, HX.out, HE.out]; rfl), HB.out⟩
end Go.Proofs.Ytjiaogbkmpjciaa
/-
  Chapter 10's exact laws: what their copies read as.
-/
namespace Go.Proofs.Ytjiaogbkmpjciaa
open Go.RowKit M
set_option linter.unusedVariables false
theorem below_oneL (w : World) (o : Obj) : Below w.heap.size w (w.alloc o) := (Below.refl _ _).alloc (Nat.le_refl _) o
theorem opCells_size (r : O) : (opCells r).size = 4 := rfl
theorem len_le_sum (ls : List (List O)) (j : Nat) (hj : j < ls.length) : (ls.getD j []).length ≤ (ls.map List.length).sum := by
  induction ls generalizing j with
  | nil => simp at hj
  | cons q ls ih =>
    cases j with
    | zero => simp
    | succ j =>
      have := ih j (by simpa using hj)
      simp only [List.getD_cons_succ, List.map_cons, List.sum_cons]
      omega
theorem heapE_ints {w : World} {B E : Nat} {v : Value} {zs : List Int} (h : HeapE w B E [intRw v zs]) : IntsArg w v zs := by
  have ho : w.ownsRow B 3 1 v zs.length (zs.map (Value.int .i64)) := h.1.own (intRw v zs) (List.mem_singleton.2 rfl)
  have h' := ho
  rcases ho.2 with ⟨rfl, h0⟩ | ⟨g, cap, cur, rfl, hb, hg, hn, hm, hc, ht⟩
  · have e : zs = [] := List.length_eq_zero_iff.1 h0
    subst e; exact IntsArg.nil w
  · refine ⟨_, cap, rfl, hn, hm, fun _ => ⟨g, 0, rfl, (World.ownsRow.lt h' g rfl).2, fun j hj => ?_⟩⟩
    rw [Nat.zero_add, World.ownsRow.cellAt h' j (by omega), List.getElem?_map, List.getElem?_eq_getElem hj, List.getD_eq_getElem?_getD, List.getElem?_eq_getElem hj]
    rfl
end Go.Proofs.Ytjiaogbkmpjciaa
/-
  Chapter 10, the program's copy of queues: a new row of rows of its own. It turns nothing that was there.
-/
namespace Go.Proofs.Ytjiaogbkmpjciaa
open Go.RowKit M
set_option linter.unusedVariables false
set_option linter.unusedSimpArgs false
theorem opCells_one (l : List O) : ∀ u ∈ cellsF opCells l, u.oneCell' = true := by
  intro u hu
  unfold cellsF at hu
  simp only [List.mem_flatMap] at hu
  obtain ⟨r, _, h⟩ := hu
  simp only [opCells, List.mem_cons, List.not_mem_nil, or_false] at h
  rcases h with rfl | rfl | rfl | rfl <;> rfl
theorem ownF_nil {w : World} {B : Nat} : OwnF 44 4 opCells w B (.slice none 0 0) [] := ⟨rfl, .inl ⟨rfl, rfl⟩⟩
end Go.Proofs.Ytjiaogbkmpjciaa
/-
  Chapter 10, the model's copy of queues: a new row of rows of its own. It turns nothing that was there.
-/
namespace Go.Proofs.Ytjiaogbkmpjciaa
open Go.RowKit M
set_option linter.unusedVariables false
set_option linter.unusedSimpArgs false
end Go.Proofs.Ytjiaogbkmpjciaa
