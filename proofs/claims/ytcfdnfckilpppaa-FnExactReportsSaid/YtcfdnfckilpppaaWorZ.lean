/-
  The exact laws' budget behind a world, and what it bounds.
-/
import Derived.Test.YtcfdnfckilpppaaZc
import Derived.Test.YtcfdnfckilpppaaZb
namespace Go.Proofs.Ytcfdnfckilpppaa
open Go.RowKit M
set_option linter.unusedVariables false
set_option linter.unusedSimpArgs false
def szWorV (s : S) (l : Int) : Int := szBind (szBind (szBind (szBind (szInt s.cells.length l) (szJobSV s.jobs)) (szQV s.todo)) (szEvSV s.log)) (fun x => x)
theorem szJobSV_le {ls : List J} {l : Int} (h : 0 ≤ szJobSV ls l) : szJobSV ls l ≤ l ∧ (ls.length : Int) ≤ l ∧ ∀ j, j < ls.length → ((ls.getD j zeroJ).keys.length : Int) + ((ls.getD j zeroJ).raw.length : Int) ≤ l := by
  unfold szJobSV at *
  by_cases h2 : l - (ls.length : Int) < 0
  · rw [if_pos h2] at h; simp at h
  · rw [if_neg h2] at h ⊢
    have h3 := szLJob_le ls _ h
    refine ⟨by omega, by omega, fun j hj => ?_⟩
    rcases h3.2 j hj with h4 | ⟨x, hx, h4⟩
    · have := szJobV_le h4; omega
    · have := szJobV_le h4; omega
theorem szEvSV_le {ls : List E} {l : Int} (h : 0 ≤ szEvSV ls l) : szEvSV ls l ≤ l ∧ (ls.length : Int) ≤ l ∧ ∀ j, j < ls.length → ((ls.getD j zeroE).rows.length : Int) ≤ l := by
  unfold szEvSV at *
  by_cases h2 : l - (ls.length : Int) < 0
  · rw [if_pos h2] at h; simp at h
  · rw [if_neg h2] at h ⊢
    have h3 := szLEv_le ls _ h
    refine ⟨by omega, by omega, fun j hj => ?_⟩
    rcases h3.2 j hj with h4 | ⟨x, hx, h4⟩
    · have := szEvV_le h4; omega
    · have := szEvV_le h4; omega
/-- A world that a budget holds is small. -/
theorem szWor_small {s : S} {l : Int} (h : 0 ≤ szWorV s l) (hl : l ≤ 1048576) : SmallS s ∧ szWorV s l ≤ l := by
  unfold szWorV szBind at *
  by_cases a0 : szInt s.cells.length l < 0
  · rw [if_pos a0] at h; simp at h
  have b0 := szInt_le (n := s.cells.length) (l := l) (by omega)
  rw [if_neg a0] at h ⊢
  generalize szInt s.cells.length l = x0 at *
  by_cases a1 : szJobSV s.jobs x0 < 0
  · rw [if_pos a1] at h; simp at h
  have b1 := szJobSV_le (ls := s.jobs) (l := x0) (by omega)
  rw [if_neg a1] at h ⊢
  generalize szJobSV s.jobs x0 = x1 at *
  by_cases a2 : szQV s.todo x1 < 0
  · rw [if_pos a2] at h; simp at h
  have b2 := szQV_tot (ls := s.todo) (l := x1) (by omega)
  rw [if_neg a2] at h ⊢
  generalize szQV s.todo x1 = x2 at *
  by_cases a3 : szEvSV s.log x2 < 0
  · rw [if_pos a3] at h; simp at h
  have b3 := szEvSV_le (ls := s.log) (l := x2) (by omega)
  rw [if_neg a3] at h ⊢
  generalize szEvSV s.log x2 = x3 at *
  dsimp only at h ⊢
  have hq : ∀ j, j < s.todo.length → ((s.todo.getD j []).length : Int) ≤ ((s.todo.map List.length).sum : Int) := fun j hj => by
    have := totQ_take s.todo j hj
    unfold totQ at this
    omega
  refine ⟨⟨by omega, by omega, fun j hj => ?_, by omega, fun j hj => ?_, by omega, fun j hj => ?_⟩, by omega⟩
  · have := b1.2.2 j hj; omega
  · have := hq j hj; omega
  · have := b3.2.2 j hj; omega
/-- The texts in a world fit. -/
structure FitW (s : S) : Prop where
  j : ∀ j, j < s.jobs.length → (s.jobs.getD j zeroJ).op.key.size ≤ maxLen
  t : FitQ s.todo
  l : ∀ j, j < s.log.length → (s.log.getD j zeroE).op.key.size ≤ maxLen ∧ ∀ i, i < (s.log.getD j zeroE).rows.length → ((s.log.getD j zeroE).rows.getD i zeroR).key.size ≤ maxLen
set_option maxRecDepth 100000 in
set_option maxHeartbeats 4000000 in
theorem szWorld_any (w : World) (s : S) (vc vj vt vl : Value) (left : Int) (h : WorIn w s vc vj vt vl) (hf : FitW s) (h0 : 0 ≤ left) (h1 : left ≤ 1048576) : Calls Try.prog 6 #[.agg (worVals s vc vj vt vl), .int .i64 left] w (Gives (.int .i64 (szWorV s left)) w) := by
  have HW := Lib.hid h
  have Z0 := fun W h x h0 h1 => Lib.hid (szIntS_any W vc s.cells x h h0 h1)
  have Z1 := fun W h x h0 h1 => Lib.hid (szJobS_any W vj s.jobs x h hf.j h0 h1)
  have Z2 := fun W h x h0 h1 => Lib.hid (szQueueS_any W vt s.todo x h hf.t h0 h1)
  have Z3 := fun W h x h0 h1 => Lib.hid (szEvS_any W vl s.log x h hf.l h0 h1)
  have l0 := fun x h => szInt_le (n := s.cells.length) (l := x) h
  have l1 := fun x h => (szJobSV_le (ls := s.jobs) (l := x) h).1
  have l2 := fun x h => szQV_tot (ls := s.todo) (l := x) h
  have l3 := fun x h => (szEvSV_le (ls := s.log) (l := x) h).1
  obtain ⟨⟨Ac, cc, rfl, _, _, _⟩, ⟨Aj, cj, rfl, _, _, _⟩, ⟨At, ct, rfl, _, _, _⟩, ⟨Al, cl, rfl, _, _, _⟩⟩ := h
  have HV := Lib.hid (show szWorV s left = szBind (szBind (szBind (szBind (szInt s.cells.length left) (szJobSV s.jobs)) (szQV s.todo)) (szEvSV s.log)) (fun x => x) from rfl)
  clear hf
  generalize szWorV s left = out at *
  generalize szInt s.cells.length = g0 at *
  generalize szJobSV s.jobs = g1 at *
  generalize szQV s.todo = g2 at *
  generalize szEvSV s.log = g3 at *
  obtain ⟨cells, jobs, todo, log, serial, now⟩ := s
  unfold worVals
  simp only at *
  generalize cells.length = nc at *
  generalize jobs.length = nj at *
  generalize todo.length = nt at *
  generalize log.length = nl at *
  generalize (todo.map List.length).sum = sq at *
  obtain ⟨x1, hx1⟩ : ∃ x, g0 left = x := ⟨_, rfl⟩
  have y1 := l0 left
  rw [hx1] at y1
  by_cases a1 : x1 < 0
  case pos =>
    have d1 : decide (x1 < 0) = true := decide_eq_true a1
    go_enter Try.func6, Try.ntmps6
    go_upto_region 1 with fail
    refine wp_gen (fun W => Blk W w.heap.size 27 #[.slice Ac nc cc, .slice Aj nj cj, .slice At nt ct, .slice Al nl cl, .int .i64 serial, .int .i64 now] ∧ Below w.heap.size w W) ⟨Blk.new w _ _ _ rfl, (Below.refl _ _).alloc (Nat.le_refl _) _⟩ ?_
    rintro W ⟨G0, hb⟩
    have HB0 := Lib.hid hb
    clear hb
    have q0 := G0.get 0
    simp at q0
    go_wp2_with fail
    refine (Z0 _ (HW.out.below HB0.out).c left (by omega) (by omega)).out.mono ?_
    rintro e w1 ⟨rfl, hb1⟩
    have HB1 := Lib.hid (HB0.out.trans (hb1.mono HB0.out.size))
    have G1 := G0.below hb1
    have q1 := G1.get 1
    simp at q1
    clear hb1
    rw [hx1]
    have hm1 : (-1 : Int) < 0 := by decide
    go_wp2_with fail
    go_ret
    exact ⟨ret_i (by rw [HV.out]; simp only [szBind, hx1, if_pos (show x1 < 0 by omega), if_pos hm1]), HB1.out⟩
  have d1 : decide (x1 < 0) = false := decide_eq_false a1
  have z1 := y1 (by omega)
  obtain ⟨x2, hx2⟩ : ∃ x, g1 x1 = x := ⟨_, rfl⟩
  have y2 := l1 x1
  rw [hx2] at y2
  by_cases a2 : x2 < 0
  case pos =>
    have d2 : decide (x2 < 0) = true := decide_eq_true a2
    go_enter Try.func6, Try.ntmps6
    go_upto_region 1 with fail
    refine wp_gen (fun W => Blk W w.heap.size 27 #[.slice Ac nc cc, .slice Aj nj cj, .slice At nt ct, .slice Al nl cl, .int .i64 serial, .int .i64 now] ∧ Below w.heap.size w W) ⟨Blk.new w _ _ _ rfl, (Below.refl _ _).alloc (Nat.le_refl _) _⟩ ?_
    rintro W ⟨G0, hb⟩
    have HB0 := Lib.hid hb
    clear hb
    have q0 := G0.get 0
    simp at q0
    go_wp2_with fail
    refine (Z0 _ (HW.out.below HB0.out).c left (by omega) (by omega)).out.mono ?_
    rintro e w1 ⟨rfl, hb1⟩
    have HB1 := Lib.hid (HB0.out.trans (hb1.mono HB0.out.size))
    have G1 := G0.below hb1
    have q1 := G1.get 1
    simp at q1
    clear hb1
    rw [hx1]
    go_wp2_with fail
    refine (Z1 _ (HW.out.below HB1.out).j x1 (by omega) (by omega)).out.mono ?_
    rintro e w2 ⟨rfl, hb2⟩
    have HB2 := Lib.hid (HB1.out.trans (hb2.mono HB1.out.size))
    have G2 := G1.below hb2
    have q2 := G2.get 2
    simp at q2
    clear hb2
    rw [hx2]
    have hm1 : (-1 : Int) < 0 := by decide
    go_wp2_with fail
    go_ret
    exact ⟨ret_i (by rw [HV.out]; simp only [szBind, hx1, hx2, if_neg (show ¬ x1 < 0 by omega), if_pos (show x2 < 0 by omega), if_pos hm1]), HB2.out⟩
  have d2 : decide (x2 < 0) = false := decide_eq_false a2
  have z2 := y2 (by omega)
  obtain ⟨x3, hx3⟩ : ∃ x, g2 x2 = x := ⟨_, rfl⟩
  have y3 := l2 x2
  rw [hx3] at y3
  by_cases a3 : x3 < 0
  case pos =>
    have d3 : decide (x3 < 0) = true := decide_eq_true a3
    go_enter Try.func6, Try.ntmps6
    go_upto_region 1 with fail
    refine wp_gen (fun W => Blk W w.heap.size 27 #[.slice Ac nc cc, .slice Aj nj cj, .slice At nt ct, .slice Al nl cl, .int .i64 serial, .int .i64 now] ∧ Below w.heap.size w W) ⟨Blk.new w _ _ _ rfl, (Below.refl _ _).alloc (Nat.le_refl _) _⟩ ?_
    rintro W ⟨G0, hb⟩
    have HB0 := Lib.hid hb
    clear hb
    have q0 := G0.get 0
    simp at q0
    go_wp2_with fail
    refine (Z0 _ (HW.out.below HB0.out).c left (by omega) (by omega)).out.mono ?_
    rintro e w1 ⟨rfl, hb1⟩
    have HB1 := Lib.hid (HB0.out.trans (hb1.mono HB0.out.size))
    have G1 := G0.below hb1
    have q1 := G1.get 1
    simp at q1
    clear hb1
    rw [hx1]
    go_wp2_with fail
    refine (Z1 _ (HW.out.below HB1.out).j x1 (by omega) (by omega)).out.mono ?_
    rintro e w2 ⟨rfl, hb2⟩
    have HB2 := Lib.hid (HB1.out.trans (hb2.mono HB1.out.size))
    have G2 := G1.below hb2
    have q2 := G2.get 2
    simp at q2
    clear hb2
    rw [hx2]
    go_wp2_with fail
    refine (Z2 _ (HW.out.below HB2.out).t x2 (by omega) (by omega)).out.mono ?_
    rintro e w3 ⟨rfl, hb3⟩
    have HB3 := Lib.hid (HB2.out.trans (hb3.mono HB2.out.size))
    have G3 := G2.below hb3
    have q3 := G3.get 3
    simp at q3
    clear hb3
    rw [hx3]
    have hm1 : (-1 : Int) < 0 := by decide
    go_wp2_with fail
    go_ret
    exact ⟨ret_i (by rw [HV.out]; simp only [szBind, hx1, hx2, hx3, if_neg (show ¬ x1 < 0 by omega), if_neg (show ¬ x2 < 0 by omega), if_pos (show x3 < 0 by omega), if_pos hm1]), HB3.out⟩
  have d3 : decide (x3 < 0) = false := decide_eq_false a3
  have z3 := y3 (by omega)
  obtain ⟨x4, hx4⟩ : ∃ x, g3 x3 = x := ⟨_, rfl⟩
  have y4 := l3 x3
  rw [hx4] at y4
  by_cases a4 : x4 < 0
  case pos =>
    have d4 : decide (x4 < 0) = true := decide_eq_true a4
    go_enter Try.func6, Try.ntmps6
    go_upto_region 1 with fail
    refine wp_gen (fun W => Blk W w.heap.size 27 #[.slice Ac nc cc, .slice Aj nj cj, .slice At nt ct, .slice Al nl cl, .int .i64 serial, .int .i64 now] ∧ Below w.heap.size w W) ⟨Blk.new w _ _ _ rfl, (Below.refl _ _).alloc (Nat.le_refl _) _⟩ ?_
    rintro W ⟨G0, hb⟩
    have HB0 := Lib.hid hb
    clear hb
    have q0 := G0.get 0
    simp at q0
    go_wp2_with fail
    refine (Z0 _ (HW.out.below HB0.out).c left (by omega) (by omega)).out.mono ?_
    rintro e w1 ⟨rfl, hb1⟩
    have HB1 := Lib.hid (HB0.out.trans (hb1.mono HB0.out.size))
    have G1 := G0.below hb1
    have q1 := G1.get 1
    simp at q1
    clear hb1
    rw [hx1]
    go_wp2_with fail
    refine (Z1 _ (HW.out.below HB1.out).j x1 (by omega) (by omega)).out.mono ?_
    rintro e w2 ⟨rfl, hb2⟩
    have HB2 := Lib.hid (HB1.out.trans (hb2.mono HB1.out.size))
    have G2 := G1.below hb2
    have q2 := G2.get 2
    simp at q2
    clear hb2
    rw [hx2]
    go_wp2_with fail
    refine (Z2 _ (HW.out.below HB2.out).t x2 (by omega) (by omega)).out.mono ?_
    rintro e w3 ⟨rfl, hb3⟩
    have HB3 := Lib.hid (HB2.out.trans (hb3.mono HB2.out.size))
    have G3 := G2.below hb3
    have q3 := G3.get 3
    simp at q3
    clear hb3
    rw [hx3]
    go_wp2_with fail
    refine (Z3 _ (HW.out.below HB3.out).l x3 (by omega) (by omega)).out.mono ?_
    rintro e w4 ⟨rfl, hb4⟩
    have HB4 := Lib.hid (HB3.out.trans (hb4.mono HB3.out.size))
    have G4 := G3.below hb4
    have q4 := G4.get 3
    simp at q4
    clear hb4
    rw [hx4]
    have hm1 : (-1 : Int) < 0 := by decide
    go_wp2_with fail
    go_ret
    exact ⟨ret_i (by rw [HV.out]; simp only [szBind, hx1, hx2, hx3, hx4, if_neg (show ¬ x1 < 0 by omega), if_neg (show ¬ x2 < 0 by omega), if_neg (show ¬ x3 < 0 by omega), if_pos (show x4 < 0 by omega), if_pos hm1]), HB4.out⟩
  have d4 : decide (x4 < 0) = false := decide_eq_false a4
  have z4 := y4 (by omega)
  go_enter Try.func6, Try.ntmps6
  go_upto_region 1 with fail
  refine wp_gen (fun W => Blk W w.heap.size 27 #[.slice Ac nc cc, .slice Aj nj cj, .slice At nt ct, .slice Al nl cl, .int .i64 serial, .int .i64 now] ∧ Below w.heap.size w W) ⟨Blk.new w _ _ _ rfl, (Below.refl _ _).alloc (Nat.le_refl _) _⟩ ?_
  rintro W ⟨G0, hb⟩
  have HB0 := Lib.hid hb
  clear hb
  have q0 := G0.get 0
  simp at q0
  go_wp2_with fail
  refine (Z0 _ (HW.out.below HB0.out).c left (by omega) (by omega)).out.mono ?_
  rintro e w1 ⟨rfl, hb1⟩
  have HB1 := Lib.hid (HB0.out.trans (hb1.mono HB0.out.size))
  have G1 := G0.below hb1
  have q1 := G1.get 1
  simp at q1
  clear hb1
  rw [hx1]
  go_wp2_with fail
  refine (Z1 _ (HW.out.below HB1.out).j x1 (by omega) (by omega)).out.mono ?_
  rintro e w2 ⟨rfl, hb2⟩
  have HB2 := Lib.hid (HB1.out.trans (hb2.mono HB1.out.size))
  have G2 := G1.below hb2
  have q2 := G2.get 2
  simp at q2
  clear hb2
  rw [hx2]
  go_wp2_with fail
  refine (Z2 _ (HW.out.below HB2.out).t x2 (by omega) (by omega)).out.mono ?_
  rintro e w3 ⟨rfl, hb3⟩
  have HB3 := Lib.hid (HB2.out.trans (hb3.mono HB2.out.size))
  have G3 := G2.below hb3
  have q3 := G3.get 3
  simp at q3
  clear hb3
  rw [hx3]
  go_wp2_with fail
  refine (Z3 _ (HW.out.below HB3.out).l x3 (by omega) (by omega)).out.mono ?_
  rintro e w4 ⟨rfl, hb4⟩
  have HB4 := Lib.hid (HB3.out.trans (hb4.mono HB3.out.size))
  have G4 := G3.below hb4
  have q4 := G4.get 3
  simp at q4
  clear hb4
  rw [hx4]
  have hm1 : (-1 : Int) < 0 := by decide
  go_wp2_with fail
  go_ret
  exact ⟨ret_i (by rw [HV.out]; simp only [szBind, hx1, hx2, hx3, hx4, if_neg (show ¬ x1 < 0 by omega), if_neg (show ¬ x2 < 0 by omega), if_neg (show ¬ x3 < 0 by omega), if_neg (show ¬ x4 < 0 by omega), if_pos hm1]), HB4.out⟩
end Go.Proofs.Ytcfdnfckilpppaa
