/-
  Chapter 10, the comparison of two records of the kind ev. It turns nothing that was there.
-/
import Derived.Test.YtfemdhknnfmpcaaSamG
import Derived.Test.YtfemdhknnfmpcaaLink
import Derived.Test.YtfemdhknnfmpcaaOpen
import Derived.Test.YtfemdhknnfmpcaaSameG
namespace Go.Proofs.Ytfemdhknnfmpcaa
open Go.RowKit M
set_option linter.unusedVariables false
set_option linter.unusedSimpArgs false
set_option maxRecDepth 100000 in
set_option maxHeartbeats 4000000 in
theorem sSameEv_any (w : World) (a b : E) (vrows urows : Value) (h : evIn w a vrows) (k : evIn w b urows) : Calls Try.prog 83 #[.agg (evVals a vrows), .agg (evVals b urows)] w (Gives (.bool (sameEV a b)) w) := by
  have HE := Lib.hid (show sameEV a b = (decide (a.kind = b.kind) && (decide (a.who = b.who) && (decide (a.serial = b.serial) && (decide (a.at_ = b.at_) && (decide (a.op = b.op) && (decide (a.code = b.code) && (decide (a.win = b.win) && (decide (a.steps = b.steps) && (decide (a.flips = b.flips) && (sameRV a.rows b.rows)))))))))) from rfl)
  have heq := fun W => eql_op W a.op b.op
  have HR0 := Lib.hid (fun W (hb : Below w.heap.size w W) => sSameReport_any W vrows urows a.rows b.rows (h.below hb) (k.below hb))
  generalize sameEV a b = all at *
  obtain ⟨Arows, crows, rfl, _, _, _⟩ := (show RowsArg w vrows a.rows from h)
  obtain ⟨Arows', crows', rfl, _, _, _⟩ := (show RowsArg w urows b.rows from k)
  clear h k
  obtain ⟨kind, who, serial, at_, ⟨okind, okey, owhat, oval⟩, code, win, steps, flips, rows⟩ := a
  obtain ⟨kind', who', serial', at_', ⟨okind', okey', owhat', oval'⟩, code', win', steps', flips', rows'⟩ := b
  unfold O.v at heq
  unfold evVals
  simp only at *
  have b0 := int_beq2 kind kind'
  have b1 := int_beq2 who who'
  have b2 := int_beq2 serial serial'
  have b3 := int_beq2 at_ at_'
  have b5 := int_beq2 code code'
  have b6 := int_beq2 win win'
  have b7 := int_beq2 steps steps'
  have b8 := int_beq2 flips flips'
  generalize decide (kind = kind') = q0 at *
  generalize decide (who = who') = q1 at *
  generalize decide (serial = serial') = q2 at *
  generalize decide (at_ = at_') = q3 at *
  generalize decide ((⟨okind, okey, owhat, oval⟩ : O) = ⟨okind', okey', owhat', oval'⟩) = q4 at *
  generalize decide (code = code') = q5 at *
  generalize decide (win = win') = q6 at *
  generalize decide (steps = steps') = q7 at *
  generalize decide (flips = flips') = q8 at *
  generalize sameRV rows rows' = q9 at *
  generalize rows.length = nrows at *
  generalize rows'.length = nrows' at *
  have HG0 := Lib.hid (show (fun W => Blk W w.heap.size 99 #[.int .i64 kind, .int .i64 who, .int .i64 serial, .int .i64 at_, .int .i64 okind, .string okey, .int .i64 owhat, .int .i64 oval, .int .i64 code, .int .i64 win, .int .i64 steps, .int .i64 flips, .slice Arows nrows crows] ∧ Blk W (w.heap.size + 1) 99 #[.int .i64 kind', .int .i64 who', .int .i64 serial', .int .i64 at_', .int .i64 okind', .string okey', .int .i64 owhat', .int .i64 oval', .int .i64 code', .int .i64 win', .int .i64 steps', .int .i64 flips', .slice Arows' nrows' crows'] ∧ Below w.heap.size w W) ((w.alloc (.cells #[.int .i64 kind, .int .i64 who, .int .i64 serial, .int .i64 at_, .int .i64 okind, .string okey, .int .i64 owhat, .int .i64 oval, .int .i64 code, .int .i64 win, .int .i64 steps, .int .i64 flips, .slice Arows nrows crows] 99)).alloc (.cells #[.int .i64 kind', .int .i64 who', .int .i64 serial', .int .i64 at_', .int .i64 okind', .string okey', .int .i64 owhat', .int .i64 oval', .int .i64 code', .int .i64 win', .int .i64 steps', .int .i64 flips', .slice Arows' nrows' crows'] 99)) from ⟨(Blk.new w _ _ _ rfl).alloc _, Blk.new _ _ _ _ (by simp [go_sem]), ((Below.refl _ _).alloc (Nat.le_refl _) _).alloc (by simp [go_sem]) _⟩)
  go_enter Try.func83, Try.ntmps83
  go_upto_region 1 with fail
  refine wp_gen (fun W => Blk W w.heap.size 99 #[.int .i64 kind, .int .i64 who, .int .i64 serial, .int .i64 at_, .int .i64 okind, .string okey, .int .i64 owhat, .int .i64 oval, .int .i64 code, .int .i64 win, .int .i64 steps, .int .i64 flips, .slice Arows nrows crows] ∧ Blk W (w.heap.size + 1) 99 #[.int .i64 kind', .int .i64 who', .int .i64 serial', .int .i64 at_', .int .i64 okind', .string okey', .int .i64 owhat', .int .i64 oval', .int .i64 code', .int .i64 win', .int .i64 steps', .int .i64 flips', .slice Arows' nrows' crows'] ∧ Below w.heap.size w W) HG0.out ?_
  rintro W ⟨h0, h1, hb⟩
  clear HG0
  refine wp_region_lit ?_
  refine at_gen (n := 73) (A := 2) (B := 3) (pA := .pointer (some ⟨w.heap.size, 0, none⟩)) (pB := .pointer (some ⟨w.heap.size + 1, 0, none⟩)) (m := 4) (b := false) ⟨rfl, rfl, rfl, rfl, rfl⟩ ?_
  intro a0 hAt
  have p0 := h0.get 0
  have r0 := h1.get 0
  simp at p0 r0
  refine link0 (v1 := .pointer (some ⟨w.heap.size, 0, none⟩)) (x := .int .i64 kind) (v2 := .pointer (some ⟨w.heap.size + 1, 0, none⟩)) (y := .int .i64 kind') (q := q0) rfl rfl rfl rfl rfl rfl rfl rfl rfl rfl rfl rfl (by decide) (by decide) (by decide) (fun a h => by rw [ev_tmp] at h; go_simp) (fun a h => by rw [ev_tmp] at h; go_simp) (fun a h => by rw [ev_tmp] at h; go_simp) (fun a h => by rw [ev_tmp] at h; go_simp) (fun a h h' => by rw [ev_tmp] at h h'; go_simp) (fun a b h => by rw [ev_tmp] at h; go_simp) hAt ?_
  clear hAt p0 r0
  intro a0 hAt
  have p0 := h0.get 1
  have r0 := h1.get 1
  simp at p0 r0
  refine link (v1 := .pointer (some ⟨w.heap.size, 1, none⟩)) (x := .int .i64 who) (v2 := .pointer (some ⟨w.heap.size + 1, 1, none⟩)) (y := .int .i64 who') (q := q1) rfl rfl rfl rfl rfl rfl rfl rfl rfl rfl rfl rfl rfl (by decide) (by decide) (by decide) (fun a h => by rw [ev_tmp] at h; go_simp) (fun a h => by rw [ev_tmp] at h; go_simp) (fun a h => by rw [ev_tmp] at h; go_simp) (fun a h => by rw [ev_tmp] at h; go_simp) (fun a h h' => by rw [ev_tmp] at h h'; go_simp) (fun a c b h h' => by rw [ev_tmp] at h h'; cases b <;> go_simp) hAt ?_
  clear hAt p0 r0
  intro a0 hAt
  refine linkM rfl rfl (by decide) (fun a b h => by rw [ev_tmp] at h; go_simp) hAt ?_
  clear hAt
  intro a0 hAt
  have p0 := h0.get 2
  have r0 := h1.get 2
  simp at p0 r0
  refine link (v1 := .pointer (some ⟨w.heap.size, 2, none⟩)) (x := .int .i64 serial) (v2 := .pointer (some ⟨w.heap.size + 1, 2, none⟩)) (y := .int .i64 serial') (q := q2) rfl rfl rfl rfl rfl rfl rfl rfl rfl rfl rfl rfl rfl (by decide) (by decide) (by decide) (fun a h => by rw [ev_tmp] at h; go_simp) (fun a h => by rw [ev_tmp] at h; go_simp) (fun a h => by rw [ev_tmp] at h; go_simp) (fun a h => by rw [ev_tmp] at h; go_simp) (fun a h h' => by rw [ev_tmp] at h h'; go_simp) (fun a c b h h' => by rw [ev_tmp] at h h'; cases b <;> go_simp) hAt ?_
  clear hAt p0 r0
  intro a0 hAt
  refine linkM rfl rfl (by decide) (fun a b h => by rw [ev_tmp] at h; go_simp) hAt ?_
  clear hAt
  intro a0 hAt
  have p0 := h0.get 3
  have r0 := h1.get 3
  simp at p0 r0
  refine link (v1 := .pointer (some ⟨w.heap.size, 3, none⟩)) (x := .int .i64 at_) (v2 := .pointer (some ⟨w.heap.size + 1, 3, none⟩)) (y := .int .i64 at_') (q := q3) rfl rfl rfl rfl rfl rfl rfl rfl rfl rfl rfl rfl rfl (by decide) (by decide) (by decide) (fun a h => by rw [ev_tmp] at h; go_simp) (fun a h => by rw [ev_tmp] at h; go_simp) (fun a h => by rw [ev_tmp] at h; go_simp) (fun a h => by rw [ev_tmp] at h; go_simp) (fun a h h' => by rw [ev_tmp] at h h'; go_simp) (fun a c b h h' => by rw [ev_tmp] at h h'; cases b <;> go_simp) hAt ?_
  clear hAt p0 r0
  intro a0 hAt
  refine linkM rfl rfl (by decide) (fun a b h => by rw [ev_tmp] at h; go_simp) hAt ?_
  clear hAt
  intro a0 hAt
  have p0 := h0.get 4
  have r0 := h1.get 4
  have p1 := h0.get 5
  have r1 := h1.get 5
  have p2 := h0.get 6
  have r2 := h1.get 6
  have p3 := h0.get 7
  have r3 := h1.get 7
  simp at p0 r0 p1 r1 p2 r2 p3 r3
  refine link (v1 := .pointer (some ⟨w.heap.size, 4, none⟩)) (x := .agg #[.int .i64 okind, .string okey, .int .i64 owhat, .int .i64 oval]) (v2 := .pointer (some ⟨w.heap.size + 1, 4, none⟩)) (y := .agg #[.int .i64 okind', .string okey', .int .i64 owhat', .int .i64 oval']) (q := q4) rfl rfl rfl rfl rfl rfl rfl rfl rfl rfl rfl rfl rfl (by decide) (by decide) (by decide) (fun a h => by rw [ev_tmp] at h; go_simp) (fun a h => by rw [ev_tmp] at h; go_simp) (fun a h => by rw [ev_tmp] at h; go_simp) (fun a h => by rw [ev_tmp] at h; go_simp) (fun a h h' => by rw [ev_tmp] at h h'; go_simp) (fun a c b h h' => by rw [ev_tmp] at h h'; cases b <;> go_simp) hAt ?_
  clear hAt p0 r0 p1 r1 p2 r2 p3 r3
  intro a0 hAt
  refine linkM rfl rfl (by decide) (fun a b h => by rw [ev_tmp] at h; go_simp) hAt ?_
  clear hAt
  intro a0 hAt
  have p0 := h0.get 8
  have r0 := h1.get 8
  simp at p0 r0
  refine link (v1 := .pointer (some ⟨w.heap.size, 8, none⟩)) (x := .int .i64 code) (v2 := .pointer (some ⟨w.heap.size + 1, 8, none⟩)) (y := .int .i64 code') (q := q5) rfl rfl rfl rfl rfl rfl rfl rfl rfl rfl rfl rfl rfl (by decide) (by decide) (by decide) (fun a h => by rw [ev_tmp] at h; go_simp) (fun a h => by rw [ev_tmp] at h; go_simp) (fun a h => by rw [ev_tmp] at h; go_simp) (fun a h => by rw [ev_tmp] at h; go_simp) (fun a h h' => by rw [ev_tmp] at h h'; go_simp) (fun a c b h h' => by rw [ev_tmp] at h h'; cases b <;> go_simp) hAt ?_
  clear hAt p0 r0
  intro a0 hAt
  refine linkM rfl rfl (by decide) (fun a b h => by rw [ev_tmp] at h; go_simp) hAt ?_
  clear hAt
  intro a0 hAt
  have p0 := h0.get 9
  have r0 := h1.get 9
  simp at p0 r0
  refine link (v1 := .pointer (some ⟨w.heap.size, 9, none⟩)) (x := .int .i64 win) (v2 := .pointer (some ⟨w.heap.size + 1, 9, none⟩)) (y := .int .i64 win') (q := q6) rfl rfl rfl rfl rfl rfl rfl rfl rfl rfl rfl rfl rfl (by decide) (by decide) (by decide) (fun a h => by rw [ev_tmp] at h; go_simp) (fun a h => by rw [ev_tmp] at h; go_simp) (fun a h => by rw [ev_tmp] at h; go_simp) (fun a h => by rw [ev_tmp] at h; go_simp) (fun a h h' => by rw [ev_tmp] at h h'; go_simp) (fun a c b h h' => by rw [ev_tmp] at h h'; cases b <;> go_simp) hAt ?_
  clear hAt p0 r0
  intro a0 hAt
  refine linkM rfl rfl (by decide) (fun a b h => by rw [ev_tmp] at h; go_simp) hAt ?_
  clear hAt
  intro a0 hAt
  have p0 := h0.get 10
  have r0 := h1.get 10
  simp at p0 r0
  refine link (v1 := .pointer (some ⟨w.heap.size, 10, none⟩)) (x := .int .i64 steps) (v2 := .pointer (some ⟨w.heap.size + 1, 10, none⟩)) (y := .int .i64 steps') (q := q7) rfl rfl rfl rfl rfl rfl rfl rfl rfl rfl rfl rfl rfl (by decide) (by decide) (by decide) (fun a h => by rw [ev_tmp] at h; go_simp) (fun a h => by rw [ev_tmp] at h; go_simp) (fun a h => by rw [ev_tmp] at h; go_simp) (fun a h => by rw [ev_tmp] at h; go_simp) (fun a h h' => by rw [ev_tmp] at h h'; go_simp) (fun a c b h h' => by rw [ev_tmp] at h h'; cases b <;> go_simp) hAt ?_
  clear hAt p0 r0
  intro a0 hAt
  refine linkM rfl rfl (by decide) (fun a b h => by rw [ev_tmp] at h; go_simp) hAt ?_
  clear hAt
  intro a0 hAt
  have p0 := h0.get 11
  have r0 := h1.get 11
  simp at p0 r0
  refine link (v1 := .pointer (some ⟨w.heap.size, 11, none⟩)) (x := .int .i64 flips) (v2 := .pointer (some ⟨w.heap.size + 1, 11, none⟩)) (y := .int .i64 flips') (q := q8) rfl rfl rfl rfl rfl rfl rfl rfl rfl rfl rfl rfl rfl (by decide) (by decide) (by decide) (fun a h => by rw [ev_tmp] at h; go_simp) (fun a h => by rw [ev_tmp] at h; go_simp) (fun a h => by rw [ev_tmp] at h; go_simp) (fun a h => by rw [ev_tmp] at h; go_simp) (fun a h h' => by rw [ev_tmp] at h h'; go_simp) (fun a c b h h' => by rw [ev_tmp] at h h'; cases b <;> go_simp) hAt ?_
  clear hAt p0 r0
  intro a0 hAt
  refine linkM rfl rfl (by decide) (fun a b h => by rw [ev_tmp] at h; go_simp) hAt ?_
  clear hAt
  intro a0 hAt
  have p0 := h0.get 12
  have r0 := h1.get 12
  simp at p0 r0
  have HRR := HR0.out _ hb
  refine linkC (v1 := .pointer (some ⟨w.heap.size, 12, none⟩)) (x := .slice Arows nrows crows) (v2 := .pointer (some ⟨w.heap.size + 1, 12, none⟩)) (y := .slice Arows' nrows' crows') (q := q9) rfl rfl rfl rfl rfl rfl rfl rfl rfl rfl rfl rfl rfl (by decide) (by decide) (by decide) (fun a h => by rw [ev_tmp] at h; go_simp) (fun a h => by rw [ev_tmp] at h; go_simp) (fun a h => by rw [ev_tmp] at h; go_simp) (fun a h => by rw [ev_tmp] at h; go_simp) (fun a h h' => by rw [ev_tmp] at h h'; go_simp) HRR (fun a w c b h h' => by rw [ev_tmp] at h h'; cases b <;> go_simp) hAt ?_
  clear hAt p0 r0 HRR
  intro a0 W' hAt hb'
  replace h0 := h0.below hb'
  replace h1 := h1.below hb'
  replace hb := hb.trans (hb'.mono hb.size)
  clear hb'
  refine linkM rfl rfl (by decide) (fun a b h => by rw [ev_tmp] at h; go_simp) hAt ?_
  clear hAt
  intro a0 hAt
  refine wpList_nil ?_
  simp only [Exit.then]
  apply_assumption
  refine wp_ret ?_
  refine bodyPost_ret (results_tmp rfl _ _ _) hAt.df ⟨?_, hb⟩
  show Ending.returned (a0.eval (.tmp 4)) = _
  rw [hAt.bool, HE.out]
  simp only [Bool.and_assoc]
end Go.Proofs.Ytfemdhknnfmpcaa
