/-
  Chapter 10, the comparison of two records of the kind job. It turns nothing that was there.
-/
import Derived.Test.YtfemdhknnfmpcaaSamS
import Derived.Test.YtfemdhknnfmpcaaSamG
import Derived.Test.YtfemdhknnfmpcaaLink
import Derived.Test.YtfemdhknnfmpcaaOpen
import Derived.Test.YtfemdhknnfmpcaaSameG
namespace Go.Proofs.Ytfemdhknnfmpcaa
open Go.RowKit M
set_option linter.unusedVariables false
set_option linter.unusedSimpArgs false
set_option maxRecDepth 100000 in
set_option maxHeartbeats 4000000 in
theorem sSameJob_any (w : World) (a b : J) (vkeys vraw ukeys uraw : Value) (h : jobIn w a vkeys vraw) (k : jobIn w b ukeys uraw) : Calls Try.prog 82 #[.agg (jobVals a vkeys vraw), .agg (jobVals b ukeys uraw)] w (Gives (.bool (sameJV a b)) w) := by
  have HE := Lib.hid (show sameJV a b = (decide (a.busy = b.busy) && (decide (a.op = b.op) && (decide (a.serial = b.serial) && (decide (a.pc = b.pc) && (decide (a.k = b.k) && (decide (a.slot = b.slot) && (decide (a.what = b.what) && (decide (a.e = b.e) && (decide (a.stamp = b.stamp) && (decide (a.old = b.old) && (decide (a.flips = b.flips) && (decide (a.steps = b.steps) && (decide (a.code = b.code) && (decide (a.keys = b.keys) && (decide (a.raw = b.raw)))))))))))))))) from rfl)
  have heq := fun W => eql_op W a.op b.op
  have HR0 := Lib.hid (fun W (hb : Below w.heap.size w W) => sSameArg_any W vkeys ukeys a.keys b.keys (h.1.below hb) (k.1.below hb))
  have HR1 := Lib.hid (fun W (hb : Below w.heap.size w W) => sSameArg_any W vraw uraw a.raw b.raw (h.2.below hb) (k.2.below hb))
  generalize sameJV a b = all at *
  obtain ⟨⟨Akeys, ckeys, rfl, _⟩, Araw, craw, rfl, _⟩ := h
  obtain ⟨⟨Akeys', ckeys', rfl, _⟩, Araw', craw', rfl, _⟩ := k
  obtain ⟨busy, ⟨okind, okey, owhat, oval⟩, serial, pc, k, slot, what, e, stamp, old, flips, steps, code, keys, raw⟩ := a
  obtain ⟨busy', ⟨okind', okey', owhat', oval'⟩, serial', pc', k', slot', what', e', stamp', old', flips', steps', code', keys', raw'⟩ := b
  unfold O.v at heq
  unfold jobVals
  simp only at *
  have b0 := bool_beq busy busy'
  have b2 := int_beq2 serial serial'
  have b3 := int_beq2 pc pc'
  have b4 := int_beq2 k k'
  have b5 := int_beq2 slot slot'
  have b6 := int_beq2 what what'
  have b7 := int_beq2 e e'
  have b8 := int_beq2 stamp stamp'
  have b9 := int_beq2 old old'
  have b10 := int_beq2 flips flips'
  have b11 := int_beq2 steps steps'
  have b12 := int_beq2 code code'
  generalize decide (busy = busy') = q0 at *
  generalize decide ((⟨okind, okey, owhat, oval⟩ : O) = ⟨okind', okey', owhat', oval'⟩) = q1 at *
  generalize decide (serial = serial') = q2 at *
  generalize decide (pc = pc') = q3 at *
  generalize decide (k = k') = q4 at *
  generalize decide (slot = slot') = q5 at *
  generalize decide (what = what') = q6 at *
  generalize decide (e = e') = q7 at *
  generalize decide (stamp = stamp') = q8 at *
  generalize decide (old = old') = q9 at *
  generalize decide (flips = flips') = q10 at *
  generalize decide (steps = steps') = q11 at *
  generalize decide (code = code') = q12 at *
  generalize decide (keys = keys') = q13 at *
  generalize decide (raw = raw') = q14 at *
  generalize keys.length = nkeys at *
  generalize keys'.length = nkeys' at *
  generalize raw.length = nraw at *
  generalize raw'.length = nraw' at *
  have HG0 := Lib.hid (show (fun W => Blk W w.heap.size 42 #[.bool busy, .int .i64 okind, .string okey, .int .i64 owhat, .int .i64 oval, .int .i64 serial, .int .i64 pc, .int .i64 k, .int .i64 slot, .int .i64 what, .int .i64 e, .int .i64 stamp, .int .i64 old, .int .i64 flips, .int .i64 steps, .int .i64 code, .slice Akeys nkeys ckeys, .slice Araw nraw craw] ∧ Blk W (w.heap.size + 1) 42 #[.bool busy', .int .i64 okind', .string okey', .int .i64 owhat', .int .i64 oval', .int .i64 serial', .int .i64 pc', .int .i64 k', .int .i64 slot', .int .i64 what', .int .i64 e', .int .i64 stamp', .int .i64 old', .int .i64 flips', .int .i64 steps', .int .i64 code', .slice Akeys' nkeys' ckeys', .slice Araw' nraw' craw'] ∧ Below w.heap.size w W) ((w.alloc (.cells #[.bool busy, .int .i64 okind, .string okey, .int .i64 owhat, .int .i64 oval, .int .i64 serial, .int .i64 pc, .int .i64 k, .int .i64 slot, .int .i64 what, .int .i64 e, .int .i64 stamp, .int .i64 old, .int .i64 flips, .int .i64 steps, .int .i64 code, .slice Akeys nkeys ckeys, .slice Araw nraw craw] 42)).alloc (.cells #[.bool busy', .int .i64 okind', .string okey', .int .i64 owhat', .int .i64 oval', .int .i64 serial', .int .i64 pc', .int .i64 k', .int .i64 slot', .int .i64 what', .int .i64 e', .int .i64 stamp', .int .i64 old', .int .i64 flips', .int .i64 steps', .int .i64 code', .slice Akeys' nkeys' ckeys', .slice Araw' nraw' craw'] 42)) from ⟨(Blk.new w _ _ _ rfl).alloc _, Blk.new _ _ _ _ (by simp [go_sem]), ((Below.refl _ _).alloc (Nat.le_refl _) _).alloc (by simp [go_sem]) _⟩)
  go_enter Try.func82, Try.ntmps82
  go_upto_region 1 with fail
  refine wp_gen (fun W => Blk W w.heap.size 42 #[.bool busy, .int .i64 okind, .string okey, .int .i64 owhat, .int .i64 oval, .int .i64 serial, .int .i64 pc, .int .i64 k, .int .i64 slot, .int .i64 what, .int .i64 e, .int .i64 stamp, .int .i64 old, .int .i64 flips, .int .i64 steps, .int .i64 code, .slice Akeys nkeys ckeys, .slice Araw nraw craw] ∧ Blk W (w.heap.size + 1) 42 #[.bool busy', .int .i64 okind', .string okey', .int .i64 owhat', .int .i64 oval', .int .i64 serial', .int .i64 pc', .int .i64 k', .int .i64 slot', .int .i64 what', .int .i64 e', .int .i64 stamp', .int .i64 old', .int .i64 flips', .int .i64 steps', .int .i64 code', .slice Akeys' nkeys' ckeys', .slice Araw' nraw' craw'] ∧ Below w.heap.size w W) HG0.out ?_
  rintro W ⟨h0, h1, hb⟩
  clear HG0
  refine wp_region_lit ?_
  refine at_gen (n := 108) (A := 2) (B := 3) (pA := .pointer (some ⟨w.heap.size, 0, none⟩)) (pB := .pointer (some ⟨w.heap.size + 1, 0, none⟩)) (m := 4) (b := false) ⟨rfl, rfl, rfl, rfl, rfl⟩ ?_
  intro a0 hAt
  have p0 := h0.get 0
  have r0 := h1.get 0
  simp at p0 r0
  refine link0 (v1 := .pointer (some ⟨w.heap.size, 0, none⟩)) (x := .bool busy) (v2 := .pointer (some ⟨w.heap.size + 1, 0, none⟩)) (y := .bool busy') (q := q0) rfl rfl rfl rfl rfl rfl rfl rfl rfl rfl rfl rfl (by decide) (by decide) (by decide) (fun a h => by rw [ev_tmp] at h; go_simp) (fun a h => by rw [ev_tmp] at h; go_simp) (fun a h => by rw [ev_tmp] at h; go_simp) (fun a h => by rw [ev_tmp] at h; go_simp) (fun a h h' => by rw [ev_tmp] at h h'; go_simp) (fun a b h => by rw [ev_tmp] at h; go_simp) hAt ?_
  clear hAt p0 r0
  intro a0 hAt
  have p0 := h0.get 1
  have r0 := h1.get 1
  have p1 := h0.get 2
  have r1 := h1.get 2
  have p2 := h0.get 3
  have r2 := h1.get 3
  have p3 := h0.get 4
  have r3 := h1.get 4
  simp at p0 r0 p1 r1 p2 r2 p3 r3
  refine link (v1 := .pointer (some ⟨w.heap.size, 1, none⟩)) (x := .agg #[.int .i64 okind, .string okey, .int .i64 owhat, .int .i64 oval]) (v2 := .pointer (some ⟨w.heap.size + 1, 1, none⟩)) (y := .agg #[.int .i64 okind', .string okey', .int .i64 owhat', .int .i64 oval']) (q := q1) rfl rfl rfl rfl rfl rfl rfl rfl rfl rfl rfl rfl rfl (by decide) (by decide) (by decide) (fun a h => by rw [ev_tmp] at h; go_simp) (fun a h => by rw [ev_tmp] at h; go_simp) (fun a h => by rw [ev_tmp] at h; go_simp) (fun a h => by rw [ev_tmp] at h; go_simp) (fun a h h' => by rw [ev_tmp] at h h'; go_simp) (fun a c b h h' => by rw [ev_tmp] at h h'; cases b <;> go_simp) hAt ?_
  clear hAt p0 r0 p1 r1 p2 r2 p3 r3
  intro a0 hAt
  refine linkM rfl rfl (by decide) (fun a b h => by rw [ev_tmp] at h; go_simp) hAt ?_
  clear hAt
  intro a0 hAt
  have p0 := h0.get 5
  have r0 := h1.get 5
  simp at p0 r0
  refine link (v1 := .pointer (some ⟨w.heap.size, 5, none⟩)) (x := .int .i64 serial) (v2 := .pointer (some ⟨w.heap.size + 1, 5, none⟩)) (y := .int .i64 serial') (q := q2) rfl rfl rfl rfl rfl rfl rfl rfl rfl rfl rfl rfl rfl (by decide) (by decide) (by decide) (fun a h => by rw [ev_tmp] at h; go_simp) (fun a h => by rw [ev_tmp] at h; go_simp) (fun a h => by rw [ev_tmp] at h; go_simp) (fun a h => by rw [ev_tmp] at h; go_simp) (fun a h h' => by rw [ev_tmp] at h h'; go_simp) (fun a c b h h' => by rw [ev_tmp] at h h'; cases b <;> go_simp) hAt ?_
  clear hAt p0 r0
  intro a0 hAt
  refine linkM rfl rfl (by decide) (fun a b h => by rw [ev_tmp] at h; go_simp) hAt ?_
  clear hAt
  intro a0 hAt
  have p0 := h0.get 6
  have r0 := h1.get 6
  simp at p0 r0
  refine link (v1 := .pointer (some ⟨w.heap.size, 6, none⟩)) (x := .int .i64 pc) (v2 := .pointer (some ⟨w.heap.size + 1, 6, none⟩)) (y := .int .i64 pc') (q := q3) rfl rfl rfl rfl rfl rfl rfl rfl rfl rfl rfl rfl rfl (by decide) (by decide) (by decide) (fun a h => by rw [ev_tmp] at h; go_simp) (fun a h => by rw [ev_tmp] at h; go_simp) (fun a h => by rw [ev_tmp] at h; go_simp) (fun a h => by rw [ev_tmp] at h; go_simp) (fun a h h' => by rw [ev_tmp] at h h'; go_simp) (fun a c b h h' => by rw [ev_tmp] at h h'; cases b <;> go_simp) hAt ?_
  clear hAt p0 r0
  intro a0 hAt
  refine linkM rfl rfl (by decide) (fun a b h => by rw [ev_tmp] at h; go_simp) hAt ?_
  clear hAt
  intro a0 hAt
  have p0 := h0.get 7
  have r0 := h1.get 7
  simp at p0 r0
  refine link (v1 := .pointer (some ⟨w.heap.size, 7, none⟩)) (x := .int .i64 k) (v2 := .pointer (some ⟨w.heap.size + 1, 7, none⟩)) (y := .int .i64 k') (q := q4) rfl rfl rfl rfl rfl rfl rfl rfl rfl rfl rfl rfl rfl (by decide) (by decide) (by decide) (fun a h => by rw [ev_tmp] at h; go_simp) (fun a h => by rw [ev_tmp] at h; go_simp) (fun a h => by rw [ev_tmp] at h; go_simp) (fun a h => by rw [ev_tmp] at h; go_simp) (fun a h h' => by rw [ev_tmp] at h h'; go_simp) (fun a c b h h' => by rw [ev_tmp] at h h'; cases b <;> go_simp) hAt ?_
  clear hAt p0 r0
  intro a0 hAt
  refine linkM rfl rfl (by decide) (fun a b h => by rw [ev_tmp] at h; go_simp) hAt ?_
  clear hAt
  intro a0 hAt
  have p0 := h0.get 8
  have r0 := h1.get 8
  simp at p0 r0
  refine link (v1 := .pointer (some ⟨w.heap.size, 8, none⟩)) (x := .int .i64 slot) (v2 := .pointer (some ⟨w.heap.size + 1, 8, none⟩)) (y := .int .i64 slot') (q := q5) rfl rfl rfl rfl rfl rfl rfl rfl rfl rfl rfl rfl rfl (by decide) (by decide) (by decide) (fun a h => by rw [ev_tmp] at h; go_simp) (fun a h => by rw [ev_tmp] at h; go_simp) (fun a h => by rw [ev_tmp] at h; go_simp) (fun a h => by rw [ev_tmp] at h; go_simp) (fun a h h' => by rw [ev_tmp] at h h'; go_simp) (fun a c b h h' => by rw [ev_tmp] at h h'; cases b <;> go_simp) hAt ?_
  clear hAt p0 r0
  intro a0 hAt
  refine linkM rfl rfl (by decide) (fun a b h => by rw [ev_tmp] at h; go_simp) hAt ?_
  clear hAt
  intro a0 hAt
  have p0 := h0.get 9
  have r0 := h1.get 9
  simp at p0 r0
  refine link (v1 := .pointer (some ⟨w.heap.size, 9, none⟩)) (x := .int .i64 what) (v2 := .pointer (some ⟨w.heap.size + 1, 9, none⟩)) (y := .int .i64 what') (q := q6) rfl rfl rfl rfl rfl rfl rfl rfl rfl rfl rfl rfl rfl (by decide) (by decide) (by decide) (fun a h => by rw [ev_tmp] at h; go_simp) (fun a h => by rw [ev_tmp] at h; go_simp) (fun a h => by rw [ev_tmp] at h; go_simp) (fun a h => by rw [ev_tmp] at h; go_simp) (fun a h h' => by rw [ev_tmp] at h h'; go_simp) (fun a c b h h' => by rw [ev_tmp] at h h'; cases b <;> go_simp) hAt ?_
  clear hAt p0 r0
  intro a0 hAt
  refine linkM rfl rfl (by decide) (fun a b h => by rw [ev_tmp] at h; go_simp) hAt ?_
  clear hAt
  intro a0 hAt
  have p0 := h0.get 10
  have r0 := h1.get 10
  simp at p0 r0
  refine link (v1 := .pointer (some ⟨w.heap.size, 10, none⟩)) (x := .int .i64 e) (v2 := .pointer (some ⟨w.heap.size + 1, 10, none⟩)) (y := .int .i64 e') (q := q7) rfl rfl rfl rfl rfl rfl rfl rfl rfl rfl rfl rfl rfl (by decide) (by decide) (by decide) (fun a h => by rw [ev_tmp] at h; go_simp) (fun a h => by rw [ev_tmp] at h; go_simp) (fun a h => by rw [ev_tmp] at h; go_simp) (fun a h => by rw [ev_tmp] at h; go_simp) (fun a h h' => by rw [ev_tmp] at h h'; go_simp) (fun a c b h h' => by rw [ev_tmp] at h h'; cases b <;> go_simp) hAt ?_
  clear hAt p0 r0
  intro a0 hAt
  refine linkM rfl rfl (by decide) (fun a b h => by rw [ev_tmp] at h; go_simp) hAt ?_
  clear hAt
  intro a0 hAt
  have p0 := h0.get 11
  have r0 := h1.get 11
  simp at p0 r0
  refine link (v1 := .pointer (some ⟨w.heap.size, 11, none⟩)) (x := .int .i64 stamp) (v2 := .pointer (some ⟨w.heap.size + 1, 11, none⟩)) (y := .int .i64 stamp') (q := q8) rfl rfl rfl rfl rfl rfl rfl rfl rfl rfl rfl rfl rfl (by decide) (by decide) (by decide) (fun a h => by rw [ev_tmp] at h; go_simp) (fun a h => by rw [ev_tmp] at h; go_simp) (fun a h => by rw [ev_tmp] at h; go_simp) (fun a h => by rw [ev_tmp] at h; go_simp) (fun a h h' => by rw [ev_tmp] at h h'; go_simp) (fun a c b h h' => by rw [ev_tmp] at h h'; cases b <;> go_simp) hAt ?_
  clear hAt p0 r0
  intro a0 hAt
  refine linkM rfl rfl (by decide) (fun a b h => by rw [ev_tmp] at h; go_simp) hAt ?_
  clear hAt
  intro a0 hAt
  have p0 := h0.get 12
  have r0 := h1.get 12
  simp at p0 r0
  refine link (v1 := .pointer (some ⟨w.heap.size, 12, none⟩)) (x := .int .i64 old) (v2 := .pointer (some ⟨w.heap.size + 1, 12, none⟩)) (y := .int .i64 old') (q := q9) rfl rfl rfl rfl rfl rfl rfl rfl rfl rfl rfl rfl rfl (by decide) (by decide) (by decide) (fun a h => by rw [ev_tmp] at h; go_simp) (fun a h => by rw [ev_tmp] at h; go_simp) (fun a h => by rw [ev_tmp] at h; go_simp) (fun a h => by rw [ev_tmp] at h; go_simp) (fun a h h' => by rw [ev_tmp] at h h'; go_simp) (fun a c b h h' => by rw [ev_tmp] at h h'; cases b <;> go_simp) hAt ?_
  clear hAt p0 r0
  intro a0 hAt
  refine linkM rfl rfl (by decide) (fun a b h => by rw [ev_tmp] at h; go_simp) hAt ?_
  clear hAt
  intro a0 hAt
  have p0 := h0.get 13
  have r0 := h1.get 13
  simp at p0 r0
  refine link (v1 := .pointer (some ⟨w.heap.size, 13, none⟩)) (x := .int .i64 flips) (v2 := .pointer (some ⟨w.heap.size + 1, 13, none⟩)) (y := .int .i64 flips') (q := q10) rfl rfl rfl rfl rfl rfl rfl rfl rfl rfl rfl rfl rfl (by decide) (by decide) (by decide) (fun a h => by rw [ev_tmp] at h; go_simp) (fun a h => by rw [ev_tmp] at h; go_simp) (fun a h => by rw [ev_tmp] at h; go_simp) (fun a h => by rw [ev_tmp] at h; go_simp) (fun a h h' => by rw [ev_tmp] at h h'; go_simp) (fun a c b h h' => by rw [ev_tmp] at h h'; cases b <;> go_simp) hAt ?_
  clear hAt p0 r0
  intro a0 hAt
  refine linkM rfl rfl (by decide) (fun a b h => by rw [ev_tmp] at h; go_simp) hAt ?_
  clear hAt
  intro a0 hAt
  have p0 := h0.get 14
  have r0 := h1.get 14
  simp at p0 r0
  refine link (v1 := .pointer (some ⟨w.heap.size, 14, none⟩)) (x := .int .i64 steps) (v2 := .pointer (some ⟨w.heap.size + 1, 14, none⟩)) (y := .int .i64 steps') (q := q11) rfl rfl rfl rfl rfl rfl rfl rfl rfl rfl rfl rfl rfl (by decide) (by decide) (by decide) (fun a h => by rw [ev_tmp] at h; go_simp) (fun a h => by rw [ev_tmp] at h; go_simp) (fun a h => by rw [ev_tmp] at h; go_simp) (fun a h => by rw [ev_tmp] at h; go_simp) (fun a h h' => by rw [ev_tmp] at h h'; go_simp) (fun a c b h h' => by rw [ev_tmp] at h h'; cases b <;> go_simp) hAt ?_
  clear hAt p0 r0
  intro a0 hAt
  refine linkM rfl rfl (by decide) (fun a b h => by rw [ev_tmp] at h; go_simp) hAt ?_
  clear hAt
  intro a0 hAt
  have p0 := h0.get 15
  have r0 := h1.get 15
  simp at p0 r0
  refine link (v1 := .pointer (some ⟨w.heap.size, 15, none⟩)) (x := .int .i64 code) (v2 := .pointer (some ⟨w.heap.size + 1, 15, none⟩)) (y := .int .i64 code') (q := q12) rfl rfl rfl rfl rfl rfl rfl rfl rfl rfl rfl rfl rfl (by decide) (by decide) (by decide) (fun a h => by rw [ev_tmp] at h; go_simp) (fun a h => by rw [ev_tmp] at h; go_simp) (fun a h => by rw [ev_tmp] at h; go_simp) (fun a h => by rw [ev_tmp] at h; go_simp) (fun a h h' => by rw [ev_tmp] at h h'; go_simp) (fun a c b h h' => by rw [ev_tmp] at h h'; cases b <;> go_simp) hAt ?_
  clear hAt p0 r0
  intro a0 hAt
  refine linkM rfl rfl (by decide) (fun a b h => by rw [ev_tmp] at h; go_simp) hAt ?_
  clear hAt
  intro a0 hAt
  have p0 := h0.get 16
  have r0 := h1.get 16
  simp at p0 r0
  have HRR := HR0.out _ hb
  refine linkC (v1 := .pointer (some ⟨w.heap.size, 16, none⟩)) (x := .slice Akeys nkeys ckeys) (v2 := .pointer (some ⟨w.heap.size + 1, 16, none⟩)) (y := .slice Akeys' nkeys' ckeys') (q := q13) rfl rfl rfl rfl rfl rfl rfl rfl rfl rfl rfl rfl rfl (by decide) (by decide) (by decide) (fun a h => by rw [ev_tmp] at h; go_simp) (fun a h => by rw [ev_tmp] at h; go_simp) (fun a h => by rw [ev_tmp] at h; go_simp) (fun a h => by rw [ev_tmp] at h; go_simp) (fun a h h' => by rw [ev_tmp] at h h'; go_simp) HRR (fun a w c b h h' => by rw [ev_tmp] at h h'; cases b <;> go_simp) hAt ?_
  clear hAt p0 r0 HRR
  intro a0 W' hAt hb'
  replace h0 := h0.below hb'
  replace h1 := h1.below hb'
  replace hb := hb.trans (hb'.mono hb.size)
  clear hb'
  refine linkM rfl rfl (by decide) (fun a b h => by rw [ev_tmp] at h; go_simp) hAt ?_
  clear hAt
  intro a0 hAt
  have p0 := h0.get 17
  have r0 := h1.get 17
  simp at p0 r0
  have HRR := HR1.out _ hb
  refine linkC (v1 := .pointer (some ⟨w.heap.size, 17, none⟩)) (x := .slice Araw nraw craw) (v2 := .pointer (some ⟨w.heap.size + 1, 17, none⟩)) (y := .slice Araw' nraw' craw') (q := q14) rfl rfl rfl rfl rfl rfl rfl rfl rfl rfl rfl rfl rfl (by decide) (by decide) (by decide) (fun a h => by rw [ev_tmp] at h; go_simp) (fun a h => by rw [ev_tmp] at h; go_simp) (fun a h => by rw [ev_tmp] at h; go_simp) (fun a h => by rw [ev_tmp] at h; go_simp) (fun a h h' => by rw [ev_tmp] at h h'; go_simp) HRR (fun a w c b h h' => by rw [ev_tmp] at h h'; cases b <;> go_simp) hAt ?_
  clear hAt p0 r0 HRR
  intro a0 W' hAt hb'
  replace h0 := h0.below hb'
  replace h1 := h1.below hb'
  replace hb := hb.trans (hb'.mono hb.size)
  clear hb'
  refine linkM rfl rfl (by decide) (fun a b h => by rw [ev_tmp] at h; go_simp) hAt ?_
  clear hAt
  intro a0 hAt
  refine wpList_nil ?_
  simp only [Exit.then]
  apply_assumption
  refine wp_ret ?_
  refine bodyPost_ret (results_tmp rfl _ _ _) hAt.df ⟨?_, hb⟩
  show Ending.returned (a0.eval (.tmp 4)) = _
  rw [hAt.bool, HE.out]
  simp only [Bool.and_assoc]
end Go.Proofs.Ytfemdhknnfmpcaa
