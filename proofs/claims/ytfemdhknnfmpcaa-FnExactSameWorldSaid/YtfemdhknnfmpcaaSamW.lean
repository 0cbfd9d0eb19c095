/-
  Chapter 10, the program's SameWorld: are two worlds alike? It turns nothing that was there.
-/
import Derived.Test.YtfemdhknnfmpcaaEqF
import Derived.Test.YtfemdhknnfmpcaaWorC
namespace Go.Proofs.Ytfemdhknnfmpcaa
open Go.RowKit M
set_option linter.unusedVariables false
set_option linter.unusedSimpArgs false
set_option maxRecDepth 100000 in
theorem iSameCells_arg (w : World) (v u : Value) (xs ys : List Int) (h : IntsArg w v xs) (k : IntsArg w u ys) : Calls Try.prog 84 #[v, u] w (Gives (.bool (decide (xs = ys))) w) := by
  have HE := Lib.hid (iEqualI_any w v u xs ys h k)
  clear h k
  generalize decide (xs = ys) = q at *
  go_enter Try.func84, Try.ntmps84
  go_wp2_with fail
  refine HE.out.mono ?_
  rintro e w1 ⟨rfl, hb⟩
  go_wp2_with fail
  go_ret
  exact ⟨rfl, hb⟩
set_option maxRecDepth 100000 in
set_option maxHeartbeats 4000000 in
theorem iSameWorld_any (w : World) (a b : S) (vc vj vt vl uc uj ut ul : Value) (h : WorIn w a vc vj vt vl) (k : WorIn w b uc uj ut ul) (fa : a.Fit) (fb : b.Fit) : Calls Try.prog 40 #[.agg (worVals a vc vj vt vl), .agg (worVals b uc uj ut ul)] w (Gives (.bool (sameSV a b)) w) := by
  have HC := Lib.hid (fun W (hb : Below w.heap.size w W) => iSameCells_arg W vc uc a.cells b.cells (h.c.below hb) (k.c.below hb))
  have HJ := Lib.hid (fun W (hb : Below w.heap.size w W) => iEqFJob_any W vj uj a.jobs b.jobs (h.j.below hb) (k.j.below hb))
  have HQ := Lib.hid (fun W (hb : Below w.heap.size w W) => iEqFQueue_any W vt ut a.todo b.todo (h.t.below hb) (k.t.below hb))
  have HV := Lib.hid (fun W (hb : Below w.heap.size w W) => iEqFEv_any W vl ul a.log b.log (h.l.below hb) (k.l.below hb) (fun j hj => (fa.log j hj).rows) (fun j hj => (fb.log j hj).rows))
  have HE := Lib.hid (show sameSV a b = (decide (a.cells = b.cells) && (sameL sameJV zeroJ a.jobs b.jobs && (sameL sameQV [] a.todo b.todo && (sameL sameEV zeroE a.log b.log && (decide (a.serial = b.serial) && decide (a.now = b.now)))))) from rfl)
  generalize sameSV a b = all at *
  obtain ⟨_, ⟨A1, c1, rfl, _⟩, ⟨A2, c2, rfl, _⟩, ⟨A3, c3, rfl, _⟩⟩ := h
  obtain ⟨_, ⟨B1, d1, rfl, _⟩, ⟨B2, d2, rfl, _⟩, ⟨B3, d3, rfl, _⟩⟩ := k
  clear fa fb
  obtain ⟨acells, ajobs, atodo, alog, aser, anow⟩ := a
  obtain ⟨bcells, bjobs, btodo, blog, bser, bnow⟩ := b
  unfold worVals
  simp only at *
  have b4 := int_beq2 aser bser
  have b5 := int_beq2 anow bnow
  generalize decide (acells = bcells) = q0 at *
  generalize sameL sameJV zeroJ ajobs bjobs = q1 at *
  generalize sameL sameQV [] atodo btodo = q2 at *
  generalize sameL sameEV zeroE alog blog = q3 at *
  generalize decide (aser = bser) = q4 at *
  generalize decide (anow = bnow) = q5 at *
  generalize ajobs.length = n1 at *
  generalize atodo.length = n2 at *
  generalize alog.length = n3 at *
  generalize bjobs.length = m1 at *
  generalize btodo.length = m2 at *
  generalize blog.length = m3 at *
  go_enter Try.func40, Try.ntmps40
  go_upto_region 1 with fail
  refine wp_gen (fun W => Blk W w.heap.size 49 #[vc, .slice A1 n1 c1, .slice A2 n2 c2, .slice A3 n3 c3, .int .i64 aser, .int .i64 anow] ∧ Blk W (w.heap.size + 1) 49 #[uc, .slice B1 m1 d1, .slice B2 m2 d2, .slice B3 m3 d3, .int .i64 bser, .int .i64 bnow] ∧ Below w.heap.size w W) ⟨(Blk.new w _ _ _ rfl).alloc _, Blk.new _ _ _ _ (by simp [go_sem]), ((Below.refl _ _).alloc (Nat.le_refl _) _).alloc (by simp [go_sem]) _⟩ ?_
  rintro W ⟨h0, h1, hb⟩
  have G0 := Lib.hid h0
  have G1 := Lib.hid h1
  have HB := Lib.hid hb
  clear h0 h1 hb
  have p0 : W.cell? ⟨w.heap.size, 0, none⟩ = some (vc) := G0.out.get 0
  have p1 : W.cell? ⟨w.heap.size, 1, none⟩ = some (.slice A1 n1 c1) := G0.out.get 1
  have p2 : W.cell? ⟨w.heap.size, 2, none⟩ = some (.slice A2 n2 c2) := G0.out.get 2
  have p3 : W.cell? ⟨w.heap.size, 3, none⟩ = some (.slice A3 n3 c3) := G0.out.get 3
  have p4 : W.cell? ⟨w.heap.size, 4, none⟩ = some (.int .i64 aser) := G0.out.get 4
  have p5 : W.cell? ⟨w.heap.size, 5, none⟩ = some (.int .i64 anow) := G0.out.get 5
  have r0 : W.cell? ⟨w.heap.size + 1, 0, none⟩ = some (uc) := G1.out.get 0
  have r1 : W.cell? ⟨w.heap.size + 1, 1, none⟩ = some (.slice B1 m1 d1) := G1.out.get 1
  have r2 : W.cell? ⟨w.heap.size + 1, 2, none⟩ = some (.slice B2 m2 d2) := G1.out.get 2
  have r3 : W.cell? ⟨w.heap.size + 1, 3, none⟩ = some (.slice B3 m3 d3) := G1.out.get 3
  have r4 : W.cell? ⟨w.heap.size + 1, 4, none⟩ = some (.int .i64 bser) := G1.out.get 4
  have r5 : W.cell? ⟨w.heap.size + 1, 5, none⟩ = some (.int .i64 bnow) := G1.out.get 5
  go_wp2_with fail
  refine (HC.out _ HB.out).mono ?_
  rintro er X0 ⟨rfl, hb2⟩
  clear p0 r0 p1 r1 p2 r2 p3 r3 p4 r4 p5 r5
  replace G0 := Lib.hid (G0.out.below hb2)
  replace G1 := Lib.hid (G1.out.below hb2)
  replace HB := Lib.hid (HB.out.trans (hb2.mono HB.out.size))
  clear hb2
  have p0 : X0.cell? ⟨w.heap.size, 0, none⟩ = some (vc) := G0.out.get 0
  have p1 : X0.cell? ⟨w.heap.size, 1, none⟩ = some (.slice A1 n1 c1) := G0.out.get 1
  have p2 : X0.cell? ⟨w.heap.size, 2, none⟩ = some (.slice A2 n2 c2) := G0.out.get 2
  have p3 : X0.cell? ⟨w.heap.size, 3, none⟩ = some (.slice A3 n3 c3) := G0.out.get 3
  have p4 : X0.cell? ⟨w.heap.size, 4, none⟩ = some (.int .i64 aser) := G0.out.get 4
  have p5 : X0.cell? ⟨w.heap.size, 5, none⟩ = some (.int .i64 anow) := G0.out.get 5
  have r0 : X0.cell? ⟨w.heap.size + 1, 0, none⟩ = some (uc) := G1.out.get 0
  have r1 : X0.cell? ⟨w.heap.size + 1, 1, none⟩ = some (.slice B1 m1 d1) := G1.out.get 1
  have r2 : X0.cell? ⟨w.heap.size + 1, 2, none⟩ = some (.slice B2 m2 d2) := G1.out.get 2
  have r3 : X0.cell? ⟨w.heap.size + 1, 3, none⟩ = some (.slice B3 m3 d3) := G1.out.get 3
  have r4 : X0.cell? ⟨w.heap.size + 1, 4, none⟩ = some (.int .i64 bser) := G1.out.get 4
  have r5 : X0.cell? ⟨w.heap.size + 1, 5, none⟩ = some (.int .i64 bnow) := G1.out.get 5
  cases q0 with
  | false =>
    go_wp2_with fail
    go_ret
    exact ⟨ret_bl (by rw [HE.out]; simp), HB.out⟩
  | true =>
    go_wp2_with fail
    refine (HJ.out _ HB.out).mono ?_
    rintro er X1 ⟨rfl, hb2⟩
    clear p0 r0 p1 r1 p2 r2 p3 r3 p4 r4 p5 r5
    replace G0 := Lib.hid (G0.out.below hb2)
    replace G1 := Lib.hid (G1.out.below hb2)
    replace HB := Lib.hid (HB.out.trans (hb2.mono HB.out.size))
    clear hb2
    have p0 : X1.cell? ⟨w.heap.size, 0, none⟩ = some (vc) := G0.out.get 0
    have p1 : X1.cell? ⟨w.heap.size, 1, none⟩ = some (.slice A1 n1 c1) := G0.out.get 1
    have p2 : X1.cell? ⟨w.heap.size, 2, none⟩ = some (.slice A2 n2 c2) := G0.out.get 2
    have p3 : X1.cell? ⟨w.heap.size, 3, none⟩ = some (.slice A3 n3 c3) := G0.out.get 3
    have p4 : X1.cell? ⟨w.heap.size, 4, none⟩ = some (.int .i64 aser) := G0.out.get 4
    have p5 : X1.cell? ⟨w.heap.size, 5, none⟩ = some (.int .i64 anow) := G0.out.get 5
    have r0 : X1.cell? ⟨w.heap.size + 1, 0, none⟩ = some (uc) := G1.out.get 0
    have r1 : X1.cell? ⟨w.heap.size + 1, 1, none⟩ = some (.slice B1 m1 d1) := G1.out.get 1
    have r2 : X1.cell? ⟨w.heap.size + 1, 2, none⟩ = some (.slice B2 m2 d2) := G1.out.get 2
    have r3 : X1.cell? ⟨w.heap.size + 1, 3, none⟩ = some (.slice B3 m3 d3) := G1.out.get 3
    have r4 : X1.cell? ⟨w.heap.size + 1, 4, none⟩ = some (.int .i64 bser) := G1.out.get 4
    have r5 : X1.cell? ⟨w.heap.size + 1, 5, none⟩ = some (.int .i64 bnow) := G1.out.get 5
    cases q1 with
    | false =>
      go_wp2_with fail
      go_ret
      exact ⟨ret_bl (by rw [HE.out]; simp), HB.out⟩
    | true =>
      go_wp2_with fail
      refine (HQ.out _ HB.out).mono ?_
      rintro er X2 ⟨rfl, hb2⟩
      clear p0 r0 p1 r1 p2 r2 p3 r3 p4 r4 p5 r5
      replace G0 := Lib.hid (G0.out.below hb2)
      replace G1 := Lib.hid (G1.out.below hb2)
      replace HB := Lib.hid (HB.out.trans (hb2.mono HB.out.size))
      clear hb2
      have p0 : X2.cell? ⟨w.heap.size, 0, none⟩ = some (vc) := G0.out.get 0
      have p1 : X2.cell? ⟨w.heap.size, 1, none⟩ = some (.slice A1 n1 c1) := G0.out.get 1
      have p2 : X2.cell? ⟨w.heap.size, 2, none⟩ = some (.slice A2 n2 c2) := G0.out.get 2
      have p3 : X2.cell? ⟨w.heap.size, 3, none⟩ = some (.slice A3 n3 c3) := G0.out.get 3
      have p4 : X2.cell? ⟨w.heap.size, 4, none⟩ = some (.int .i64 aser) := G0.out.get 4
      have p5 : X2.cell? ⟨w.heap.size, 5, none⟩ = some (.int .i64 anow) := G0.out.get 5
      have r0 : X2.cell? ⟨w.heap.size + 1, 0, none⟩ = some (uc) := G1.out.get 0
      have r1 : X2.cell? ⟨w.heap.size + 1, 1, none⟩ = some (.slice B1 m1 d1) := G1.out.get 1
      have r2 : X2.cell? ⟨w.heap.size + 1, 2, none⟩ = some (.slice B2 m2 d2) := G1.out.get 2
      have r3 : X2.cell? ⟨w.heap.size + 1, 3, none⟩ = some (.slice B3 m3 d3) := G1.out.get 3
      have r4 : X2.cell? ⟨w.heap.size + 1, 4, none⟩ = some (.int .i64 bser) := G1.out.get 4
      have r5 : X2.cell? ⟨w.heap.size + 1, 5, none⟩ = some (.int .i64 bnow) := G1.out.get 5
      cases q2 with
      | false =>
        go_wp2_with fail
        go_ret
        exact ⟨ret_bl (by rw [HE.out]; simp), HB.out⟩
      | true =>
        go_wp2_with fail
        refine (HV.out _ HB.out).mono ?_
        rintro er X3 ⟨rfl, hb2⟩
        clear p0 r0 p1 r1 p2 r2 p3 r3 p4 r4 p5 r5
        replace G0 := Lib.hid (G0.out.below hb2)
        replace G1 := Lib.hid (G1.out.below hb2)
        replace HB := Lib.hid (HB.out.trans (hb2.mono HB.out.size))
        clear hb2
        have p0 : X3.cell? ⟨w.heap.size, 0, none⟩ = some (vc) := G0.out.get 0
        have p1 : X3.cell? ⟨w.heap.size, 1, none⟩ = some (.slice A1 n1 c1) := G0.out.get 1
        have p2 : X3.cell? ⟨w.heap.size, 2, none⟩ = some (.slice A2 n2 c2) := G0.out.get 2
        have p3 : X3.cell? ⟨w.heap.size, 3, none⟩ = some (.slice A3 n3 c3) := G0.out.get 3
        have p4 : X3.cell? ⟨w.heap.size, 4, none⟩ = some (.int .i64 aser) := G0.out.get 4
        have p5 : X3.cell? ⟨w.heap.size, 5, none⟩ = some (.int .i64 anow) := G0.out.get 5
        have r0 : X3.cell? ⟨w.heap.size + 1, 0, none⟩ = some (uc) := G1.out.get 0
        have r1 : X3.cell? ⟨w.heap.size + 1, 1, none⟩ = some (.slice B1 m1 d1) := G1.out.get 1
        have r2 : X3.cell? ⟨w.heap.size + 1, 2, none⟩ = some (.slice B2 m2 d2) := G1.out.get 2
        have r3 : X3.cell? ⟨w.heap.size + 1, 3, none⟩ = some (.slice B3 m3 d3) := G1.out.get 3
        have r4 : X3.cell? ⟨w.heap.size + 1, 4, none⟩ = some (.int .i64 bser) := G1.out.get 4
        have r5 : X3.cell? ⟨w.heap.size + 1, 5, none⟩ = some (.int .i64 bnow) := G1.out.get 5
        cases q3 with
        | false =>
          go_wp2_with fail
          go_ret
          exact ⟨ret_bl (by rw [HE.out]; simp), HB.out⟩
        | true =>
          cases q4 with
          | false =>
            go_wp2_with fail
            go_ret
            exact ⟨ret_bl (by rw [HE.out]; simp), HB.out⟩
          | true =>
            go_wp2_with fail
            go_ret
            exact ⟨ret_bl (by rw [HE.out]; simp), HB.out⟩
end Go.Proofs.Ytfemdhknnfmpcaa
