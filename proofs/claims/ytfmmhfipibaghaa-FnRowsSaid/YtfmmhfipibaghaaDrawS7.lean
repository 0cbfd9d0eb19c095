/-
  Chapter 7's draws: some row, small, and some number.
-/
import Derived.Test.YtfmmhfipibaghaaDrawR7
namespace Go.Proofs.Ytfmmhfipibaghaa
open Go.RowKit M
set_option linter.unusedVariables false
set_option linter.unusedSimpArgs false
/-- Some row, small, and some number; nothing that was there is turned. -/
def GivesRI (w : World) (e : Ending) (w' : World) : Prop := ∃ (r : R) (v : Int), Small r ∧ (-1 ≤ v ∧ v ≤ 65536) ∧ e = .returned (.tuple #[r.v, .int .i64 v]) ∧ Below w.heap.size w w'

set_option maxRecDepth 100000 in
set_option maxHeartbeats 8000000 in
theorem drawCounted_some (w : World) (K : Code) (hk : CodeIn w K) (hl : K.len ≤ 1048576) : Calls Try.prog 16 #[.slice K.A K.len K.cap] w (GivesRI w) := by
  have hB := CodeB.of_in hk
  have HN := Lib.hid (new_any (w.alloc (.cells (rowCells zeroR) 25)) K (hk.below ((Below.refl _ _).alloc (Nat.le_refl _) _)) hl)
  clear hk hl
  go_enter Try.func16, Try.ntmps16
  go_wp2_with fail
  refine HN.out.mono ?_
  rintro e w1 ⟨g, rfl, hg, hc, hb⟩
  have Z1 := Lib.hid ((rowAt_new w _ zeroR rfl).below hb)
  have hgw : w.heap.size < g := by simp [go_sem] at hg; omega
  have G1 := Lib.hid (show w.grownBy w1 (some g) from grown_trans (World.grownBy_alloc w (.cells (rowCells zeroR) 25) (some g)) ⟨hb.os, hb.tape, hb.output, hb.size, fun i hi _ => hb.block i hi⟩)
  have H1 := Lib.hid (l7Any_some w1 g K _ hc (hB.mono (by have := hb.size; simp [go_sem] at this; omega)))
  clear hg hc hb HN
  go_wp2_with fail
  refine H1.out.mono ?_
  rintro e w2 ⟨r, s2, ht, rfl, hc2, hg2⟩
  obtain ⟨key, kind, sum, st, last, n, mn, mx, total, dropped⟩ := r
  have HS := Lib.hid ht
  have C2 := Lib.hid hc2
  have G2 := Lib.hid (grown_trans G1.out hg2)
  have Z2 := Lib.hid (Z1.out.kept hg2 (by omega))
  clear hc2 hg2 H1 G1 Z1 ht
  unfold R.v
  simp only
  go_upto_region 3 with fail
  refine wp_d7_new ⟨key, kind, sum, st, last, n, mn, mx, total, dropped⟩ C2.out G2.out Z2.out hB (by omega) (Nat.le_refl _) ?_
  generalize w2.heap.size = gr
  clear C2 G2 Z2
  clear w2
  intro u hD
  have HD := Lib.hid hD
  clear hD
  obtain ⟨hz, hx⟩ := HD.out.get
  obtain ⟨x0, x1, x2, x3, x4, x5, x6, x7, x8, x9, xf⟩ := hx.get
  obtain ⟨z0, z1, z2, z3, z4, z5, z6, z7, z8, z9, zf⟩ := hz.get
  simp only [zeroR] at x0 x1 x2 x3 x4 x5 x6 x7 x8 x9 z0 z1 z2 z3 z4 z5 z6 z7 z8 z9
  clear hz hx
  obtain ⟨sc, hc⟩ := HD.out.cur
  have HB := Lib.hid (once_some u g K 2 sc hc (by decide))
  clear hc
  go_wp2_with fail
  refine HB.out.mono ?_
  rintro e u' ⟨bb, s', rfl, hc', hg'⟩
  clear x0 x1 x2 x3 x4 x5 x6 x7 x8 x9 xf z0 z1 z2 z3 z4 z5 z6 z7 z8 z9 zf
  replace HD := Lib.hid (HD.out.call s' hc' hg')
  clear hc' hg' HB
  clear sc
  obtain ⟨hz, hx⟩ := HD.out.get
  obtain ⟨x0, x1, x2, x3, x4, x5, x6, x7, x8, x9, xf⟩ := hx.get
  obtain ⟨z0, z1, z2, z3, z4, z5, z6, z7, z8, z9, zf⟩ := hz.get
  simp only [zeroR] at x0 x1 x2 x3 x4 x5 x6 x7 x8 x9 z0 z1 z2 z3 z4 z5 z6 z7 z8 z9
  clear hz hx
  cases bb with
  | false =>
    have HD1 := Lib.hid (HD.out.below (below_drew _ _))
    have lx := HD.out.get.2.lt
    have lo := HD.out.get.1.lt
    go_wp2_with fail
    go_region_with (first | (go_at_call 36; refine (pick_some _ g K _ HD1.out.cur.choose_spec [0, 5, 65535, 65536, -1] 5 rfl (by decide) (by decide) _ rfl).mono ?_; rintro e u2 ⟨y, s'', hy, rfl, hc'', hg''⟩; have FY := Lib.hid (show -1 ≤ y ∧ y ≤ 65536 by simp at hy; omega); have HD2 := Lib.hid (HD1.out.call s'' hc'' hg''); have hx2 := HD2.out.get; obtain ⟨y0, y1, y2, y3, y4, y5, y6, y7, y8, y9, yf⟩ := hx2.2.get; simp only at y0 y1 y2 y3 y4 y5 y6 y7 y8 y9; obtain ⟨q0, q1, q2, q3, q4, q5, q6, q7, q8, q9, qf⟩ := hx2.1.get; simp only [zeroR] at q0 q1 q2 q3 q4 q5 q6 q7 q8 q9; clear hx2; clear hy hc'' hg''))
    all_goals
      have HA := Lib.hid (HD2.out.answer (.string key) (.int .i64 kind) (.int .i64 sum) (.bool st) (.int .i64 last) (.int .i64 n) (.int .i64 mn) (.int .i64 mx) (.int .i64 total) (.int .i64 dropped))
      go_wp2_with fail
      obtain ⟨s9, c9, g9⟩ := HA.out
      exact bodyPost_ret (v := .tuple #[.agg #[.string key, .int .i64 kind, .int .i64 sum, .bool st, .int .i64 last, .int .i64 n, .int .i64 mn, .int .i64 mx, .int .i64 total, .int .i64 dropped], .int .i64 y]) (by simp [results, Try.results16, go_sem, y0, y1, y2, y3, y4, y5, y6, y7, y8, y9, q0, q1, q2, q3, q4, q5, q6, q7, q8, q9]) rfl ⟨⟨key, kind, sum, st, last, n, mn, mx, total, dropped⟩, y, HS.out, FY.out, rfl, ⟨g9.os, g9.tape, g9.output, g9.size, fun i hi => g9.block i hi (by intro e; injection e with e; omega)⟩⟩
  | true =>
    obtain ⟨sc, hc⟩ := HD.out.cur
    have HB := Lib.hid (pick_some u' g K sc hc [0, 281474976710655, 7] 3 rfl (by decide) (by decide) _ rfl)
    clear hc
    go_wp2_with fail
    refine HB.out.mono ?_
    rintro e u'' ⟨z, s', hz, rfl, hc', hg'⟩
    have Fz : 0 ≤ z ∧ z ≤ 281474976710655 := by simp at hz; omega
    clear hz
    clear x0 x1 x2 x3 x4 x5 x6 x7 x8 x9 xf z0 z1 z2 z3 z4 z5 z6 z7 z8 z9 zf
    replace HD := Lib.hid (HD.out.call s' hc' hg')
    clear hc' hg' HB
    clear sc
    obtain ⟨hz, hx⟩ := HD.out.get
    obtain ⟨x0, x1, x2, x3, x4, x5, x6, x7, x8, x9, xf⟩ := hx.get
    obtain ⟨z0, z1, z2, z3, z4, z5, z6, z7, z8, z9, zf⟩ := hz.get
    simp only [zeroR] at x0 x1 x2 x3 x4 x5 x6 x7 x8 x9 z0 z1 z2 z3 z4 z5 z6 z7 z8 z9
    clear hz hx
    go_upto_region 5 with fail
    refine wp_d7_fill ⟨⟨#[97]⟩, 1, z, false, 0, 0, 0, 0, 0, 0⟩ HD.out ?_
    clear x0 x1 x2 x3 x4 x5 x6 x7 x8 x9 xf z0 z1 z2 z3 z4 z5 z6 z7 z8 z9 zf HD
    intro u''x hD
    have HD := Lib.hid hD
    clear hD
    obtain ⟨hz, hx⟩ := HD.out.get
    obtain ⟨x0, x1, x2, x3, x4, x5, x6, x7, x8, x9, xf⟩ := hx.get
    obtain ⟨z0, z1, z2, z3, z4, z5, z6, z7, z8, z9, zf⟩ := hz.get
    simp only [zeroR] at x0 x1 x2 x3 x4 x5 x6 x7 x8 x9 z0 z1 z2 z3 z4 z5 z6 z7 z8 z9
    clear hz hx
    have HD1 := Lib.hid (HD.out.below (below_drew _ _))
    have lx := HD.out.get.2.lt
    have lo := HD.out.get.1.lt
    go_wp2_with fail
    go_region_with (first | (go_at_call 36; refine (pick_some _ g K _ HD1.out.cur.choose_spec [0, 5, 65535, 65536, -1] 5 rfl (by decide) (by decide) _ rfl).mono ?_; rintro e u2 ⟨y, s'', hy, rfl, hc'', hg''⟩; have FY := Lib.hid (show -1 ≤ y ∧ y ≤ 65536 by simp at hy; omega); have HD2 := Lib.hid (HD1.out.call s'' hc'' hg''); have hx2 := HD2.out.get; obtain ⟨y0, y1, y2, y3, y4, y5, y6, y7, y8, y9, yf⟩ := hx2.2.get; simp only at y0 y1 y2 y3 y4 y5 y6 y7 y8 y9; obtain ⟨q0, q1, q2, q3, q4, q5, q6, q7, q8, q9, qf⟩ := hx2.1.get; simp only [zeroR] at q0 q1 q2 q3 q4 q5 q6 q7 q8 q9; clear hx2; clear hy hc'' hg''))
    all_goals
      have HA := Lib.hid (HD2.out.answer (.string ⟨#[97]⟩) (.int .i64 1) (.int .i64 z) (.bool false) (.int .i64 0) (.int .i64 0) (.int .i64 0) (.int .i64 0) (.int .i64 0) (.int .i64 0))
      go_wp2_with fail
      obtain ⟨s9, c9, g9⟩ := HA.out
      exact bodyPost_ret (v := .tuple #[.agg #[.string ⟨#[97]⟩, .int .i64 1, .int .i64 z, .bool false, .int .i64 0, .int .i64 0, .int .i64 0, .int .i64 0, .int .i64 0, .int .i64 0], .int .i64 y]) (by simp [results, Try.results16, go_sem, y0, y1, y2, y3, y4, y5, y6, y7, y8, y9, q0, q1, q2, q3, q4, q5, q6, q7, q8, q9]) rfl ⟨⟨⟨#[97]⟩, 1, z, false, 0, 0, 0, 0, 0, 0⟩, y, (by constructor <;> simp only <;> (first | omega | decide)), FY.out, rfl, ⟨g9.os, g9.tape, g9.output, g9.size, fun i hi => g9.block i hi (by intro e; injection e with e; omega)⟩⟩
set_option maxRecDepth 100000 in
set_option maxHeartbeats 8000000 in
theorem drawSampled_some (w : World) (K : Code) (hk : CodeIn w K) (hl : K.len ≤ 1048576) : Calls Try.prog 11 #[.slice K.A K.len K.cap] w (GivesRI w) := by
  have hB := CodeB.of_in hk
  have HN := Lib.hid (new_any (w.alloc (.cells (rowCells zeroR) 25)) K (hk.below ((Below.refl _ _).alloc (Nat.le_refl _) _)) hl)
  clear hk hl
  go_enter Try.func11, Try.ntmps11
  go_wp2_with fail
  refine HN.out.mono ?_
  rintro e w1 ⟨g, rfl, hg, hc, hb⟩
  have Z1 := Lib.hid ((rowAt_new w _ zeroR rfl).below hb)
  have hgw : w.heap.size < g := by simp [go_sem] at hg; omega
  have G1 := Lib.hid (show w.grownBy w1 (some g) from grown_trans (World.grownBy_alloc w (.cells (rowCells zeroR) 25) (some g)) ⟨hb.os, hb.tape, hb.output, hb.size, fun i hi _ => hb.block i hi⟩)
  have H1 := Lib.hid (l7Any_some w1 g K _ hc (hB.mono (by have := hb.size; simp [go_sem] at this; omega)))
  clear hg hc hb HN
  go_wp2_with fail
  refine H1.out.mono ?_
  rintro e w2 ⟨r, s2, ht, rfl, hc2, hg2⟩
  obtain ⟨key, kind, sum, st, last, n, mn, mx, total, dropped⟩ := r
  have HS := Lib.hid ht
  have C2 := Lib.hid hc2
  have G2 := Lib.hid (grown_trans G1.out hg2)
  have Z2 := Lib.hid (Z1.out.kept hg2 (by omega))
  clear hc2 hg2 H1 G1 Z1 ht
  unfold R.v
  simp only
  go_upto_region 3 with fail
  refine wp_d7_new ⟨key, kind, sum, st, last, n, mn, mx, total, dropped⟩ C2.out G2.out Z2.out hB (by omega) (Nat.le_refl _) ?_
  generalize w2.heap.size = gr
  clear C2 G2 Z2
  clear w2
  intro u hD
  have HD := Lib.hid hD
  clear hD
  obtain ⟨hz, hx⟩ := HD.out.get
  obtain ⟨x0, x1, x2, x3, x4, x5, x6, x7, x8, x9, xf⟩ := hx.get
  obtain ⟨z0, z1, z2, z3, z4, z5, z6, z7, z8, z9, zf⟩ := hz.get
  simp only [zeroR] at x0 x1 x2 x3 x4 x5 x6 x7 x8 x9 z0 z1 z2 z3 z4 z5 z6 z7 z8 z9
  clear hz hx
  obtain ⟨sc, hc⟩ := HD.out.cur
  have HB := Lib.hid (once_some u g K 2 sc hc (by decide))
  clear hc
  go_wp2_with fail
  refine HB.out.mono ?_
  rintro e u' ⟨bb, s', rfl, hc', hg'⟩
  clear x0 x1 x2 x3 x4 x5 x6 x7 x8 x9 xf z0 z1 z2 z3 z4 z5 z6 z7 z8 z9 zf
  replace HD := Lib.hid (HD.out.call s' hc' hg')
  clear hc' hg' HB
  clear sc
  obtain ⟨hz, hx⟩ := HD.out.get
  obtain ⟨x0, x1, x2, x3, x4, x5, x6, x7, x8, x9, xf⟩ := hx.get
  obtain ⟨z0, z1, z2, z3, z4, z5, z6, z7, z8, z9, zf⟩ := hz.get
  simp only [zeroR] at x0 x1 x2 x3 x4 x5 x6 x7 x8 x9 z0 z1 z2 z3 z4 z5 z6 z7 z8 z9
  clear hz hx
  cases bb with
  | false =>
    have HD1 := Lib.hid (HD.out.below (below_drew _ _))
    have lx := HD.out.get.2.lt
    have lo := HD.out.get.1.lt
    go_wp2_with fail
    go_region_with (first | (go_at_call 34; refine (below_some _ g K 900 _ HD1.out.cur.choose_spec (by decide) (by decide)).mono ?_; rintro e u1 ⟨x, s', hx, rfl, hc', hg'⟩; have FX := Lib.hid hx; have HDa := Lib.hid (HD1.out.call s' hc' hg'); have hxa := HDa.out.get; have la := hxa.2.lt; obtain ⟨p0, p1, p2, p3, p4, p5, p6, p7, p8, p9, pf⟩ := hxa.2.get; simp only at p0 p1 p2 p3 p4 p5 p6 p7 p8 p9; clear hx hc' hg' hxa) | (go_at_call 36; refine (pick_some _ g K _ HDa.out.cur.choose_spec [0, 5, 65535, 65536, -1, x] 6 rfl (by decide) (by decide) _ rfl).mono ?_; rintro e u2 ⟨y, s'', hy, rfl, hc'', hg''⟩; have FY := Lib.hid (show -1 ≤ y ∧ y ≤ 65536 by have := FX.out; simp at hy; omega); have HD2 := Lib.hid (HDa.out.call s'' hc'' hg''); have hx2 := HD2.out.get; obtain ⟨y0, y1, y2, y3, y4, y5, y6, y7, y8, y9, yf⟩ := hx2.2.get; simp only at y0 y1 y2 y3 y4 y5 y6 y7 y8 y9; obtain ⟨q0, q1, q2, q3, q4, q5, q6, q7, q8, q9, qf⟩ := hx2.1.get; simp only [zeroR] at q0 q1 q2 q3 q4 q5 q6 q7 q8 q9; clear hx2; clear hy hc'' hg''))
    all_goals
      have HA := Lib.hid (HD2.out.answer (.string key) (.int .i64 kind) (.int .i64 sum) (.bool st) (.int .i64 last) (.int .i64 n) (.int .i64 mn) (.int .i64 mx) (.int .i64 total) (.int .i64 dropped))
      go_wp2_with fail
      obtain ⟨s9, c9, g9⟩ := HA.out
      exact bodyPost_ret (v := .tuple #[.agg #[.string key, .int .i64 kind, .int .i64 sum, .bool st, .int .i64 last, .int .i64 n, .int .i64 mn, .int .i64 mx, .int .i64 total, .int .i64 dropped], .int .i64 y]) (by simp [results, Try.results11, go_sem, y0, y1, y2, y3, y4, y5, y6, y7, y8, y9, q0, q1, q2, q3, q4, q5, q6, q7, q8, q9]) rfl ⟨⟨key, kind, sum, st, last, n, mn, mx, total, dropped⟩, y, HS.out, FY.out, rfl, ⟨g9.os, g9.tape, g9.output, g9.size, fun i hi => g9.block i hi (by intro e; injection e with e; omega)⟩⟩
  | true =>
    go_upto_region 5 with fail
    refine wp_d7_fill ⟨⟨#[97]⟩, 3, 0, false, 0, 0, 0, 0, 0, 0⟩ HD.out ?_
    clear x0 x1 x2 x3 x4 x5 x6 x7 x8 x9 xf z0 z1 z2 z3 z4 z5 z6 z7 z8 z9 zf HD
    intro u'x hD
    have HD := Lib.hid hD
    clear hD
    obtain ⟨hz, hx⟩ := HD.out.get
    obtain ⟨x0, x1, x2, x3, x4, x5, x6, x7, x8, x9, xf⟩ := hx.get
    obtain ⟨z0, z1, z2, z3, z4, z5, z6, z7, z8, z9, zf⟩ := hz.get
    simp only [zeroR] at x0 x1 x2 x3 x4 x5 x6 x7 x8 x9 z0 z1 z2 z3 z4 z5 z6 z7 z8 z9
    clear hz hx
    obtain ⟨sc, hc⟩ := HD.out.cur
    have HB := Lib.hid (below_some u'x g K 5 sc hc (by decide) (by decide))
    clear hc
    go_wp2_with fail
    refine HB.out.mono ?_
    rintro e u'x' ⟨x, s', hx, rfl, hc', hg'⟩
    have Fx := hx
    clear hx
    clear x0 x1 x2 x3 x4 x5 x6 x7 x8 x9 xf z0 z1 z2 z3 z4 z5 z6 z7 z8 z9 zf
    replace HD := Lib.hid (HD.out.call s' hc' hg')
    clear hc' hg' HB
    clear sc
    obtain ⟨hz, hx⟩ := HD.out.get
    obtain ⟨x0, x1, x2, x3, x4, x5, x6, x7, x8, x9, xf⟩ := hx.get
    obtain ⟨z0, z1, z2, z3, z4, z5, z6, z7, z8, z9, zf⟩ := hz.get
    simp only [zeroR] at x0 x1 x2 x3 x4 x5 x6 x7 x8 x9 z0 z1 z2 z3 z4 z5 z6 z7 z8 z9
    clear hz hx
    have Fx' := Fx
    clear Fx
    obtain ⟨Fx0, Fx1⟩ := Fx'
    go_wp2_with fail
    go_loopw [6] (fun c wr => ∃ (j : Int) (r : R), c = .int .i64 j ∧ 0 ≤ j ∧ j ≤ 4 ∧ Tight r ∧ D7 w g K w.heap.size gr r wr) (fun c _ => (intOf c).toNat)
    case atStart => exact ⟨x, _, rfl, by omega, by omega, (by constructor <;> simp only <;> (first | omega | decide)), HD.out⟩
    case round =>
      obtain ⟨j, r, rfl, hj0, hj1, ht, hd⟩ := hrel
      obtain ⟨key, kind, sum, st, last, n, mn, mx, total, dropped⟩ := r
      have HT := Lib.hid ht
      clear x0 x1 x2 x3 x4 x5 x6 x7 x8 x9 xf z0 z1 z2 z3 z4 z5 z6 z7 z8 z9 zf HD
      have HD := Lib.hid hd
      clear ht hd
      obtain ⟨hz, hx⟩ := HD.out.get
      obtain ⟨x0, x1, x2, x3, x4, x5, x6, x7, x8, x9, xf⟩ := hx.get
      obtain ⟨z0, z1, z2, z3, z4, z5, z6, z7, z8, z9, zf⟩ := hz.get
      simp only [zeroR] at x0 x1 x2 x3 x4 x5 x6 x7 x8 x9 z0 z1 z2 z3 z4 z5 z6 z7 z8 z9
      clear hz hx
      by_cases hlt : 0 < j
      · have HD1 := Lib.hid (HD.out.below (below_drew _ _))
        obtain ⟨sc, hc⟩ := HD1.out.cur
        have HV := Lib.hid (l5Val_some wr.drew g K sc hc)
        clear hc
        go_wp2_with fail
        go_region_with (first | (go_at_call 35; refine HV.out.mono ?_; rintro e u1 ⟨v, s', hv, rfl, hc', hg'⟩; have HD2 := Lib.hid (HD1.out.call s' hc' hg'); have hx2 := HD2.out.get.2; obtain ⟨y0, y1, y2, y3, y4, y5, y6, y7, y8, y9, yf⟩ := hx2.get; simp only at y0 y1 y2 y3 y4 y5 y6 y7 y8 y9; clear hc' hg' hx2) | (go_at_call 13; refine (sampled_tight _ key kind sum st last n mn mx total dropped v HT.out).mono ?_; rintro e u2 ⟨k0, k1, k2, k3, k4, k5, k6, k7, k8, k9, ht', rfl, hb'⟩; have HT2 := Lib.hid ht'; have HD3 := Lib.hid (HD2.out.below hb'); have hx3 := HD3.out.get.2; obtain ⟨q0, q1, q2, q3, q4, q5, q6, q7, q8, q9, qf⟩ := hx3.get; simp only at q0 q1 q2 q3 q4 q5 q6 q7 q8 q9; clear hb' hx3 ht'))
        all_goals
          go_wp2_with fail
          go_roundw
          case rel => exact ⟨j - 1, ⟨k0, k1, k2, k3, k4, k5, k6, k7, k8, k9⟩, by go_num, by omega, by omega, HT2.out, HD3.out.fill _⟩
          case measure => simp [intOf]; omega
      · have hj : j = 0 := by omega
        subst hj
        have HD1 := Lib.hid (HD.out.below (below_drew _ _))
        have lx := HD.out.get.2.lt
        have lo := HD.out.get.1.lt
        go_wp2_with fail
        go_region_with (first | (go_at_call 34; refine (below_some _ g K 900 _ HD1.out.cur.choose_spec (by decide) (by decide)).mono ?_; rintro e u1 ⟨x2, s', hx, rfl, hc', hg'⟩; have FX := Lib.hid hx; have HDa := Lib.hid (HD1.out.call s' hc' hg'); have hxa := HDa.out.get; have la := hxa.2.lt; obtain ⟨p0, p1, p2, p3, p4, p5, p6, p7, p8, p9, pf⟩ := hxa.2.get; simp only at p0 p1 p2 p3 p4 p5 p6 p7 p8 p9; clear hx hc' hg' hxa) | (go_at_call 36; refine (pick_some _ g K _ HDa.out.cur.choose_spec [0, 5, 65535, 65536, -1, x2] 6 rfl (by decide) (by decide) _ rfl).mono ?_; rintro e u2 ⟨y, s'', hy, rfl, hc'', hg''⟩; have FY := Lib.hid (show -1 ≤ y ∧ y ≤ 65536 by have := FX.out; simp at hy; omega); have HD2 := Lib.hid (HDa.out.call s'' hc'' hg''); have hx2 := HD2.out.get; obtain ⟨y0, y1, y2, y3, y4, y5, y6, y7, y8, y9, yf⟩ := hx2.2.get; simp only at y0 y1 y2 y3 y4 y5 y6 y7 y8 y9; obtain ⟨q0, q1, q2, q3, q4, q5, q6, q7, q8, q9, qf⟩ := hx2.1.get; simp only [zeroR] at q0 q1 q2 q3 q4 q5 q6 q7 q8 q9; clear hx2; clear hy hc'' hg''))
        all_goals
          have HA := Lib.hid (HD2.out.answer (.string key) (.int .i64 kind) (.int .i64 sum) (.bool st) (.int .i64 last) (.int .i64 n) (.int .i64 mn) (.int .i64 mx) (.int .i64 total) (.int .i64 dropped))
          go_wp2_with fail
          obtain ⟨s9, c9, g9⟩ := HA.out
          exact bodyPost_ret (v := .tuple #[.agg #[.string key, .int .i64 kind, .int .i64 sum, .bool st, .int .i64 last, .int .i64 n, .int .i64 mn, .int .i64 mx, .int .i64 total, .int .i64 dropped], .int .i64 y]) (by simp [results, Try.results11, go_sem, y0, y1, y2, y3, y4, y5, y6, y7, y8, y9, q0, q1, q2, q3, q4, q5, q6, q7, q8, q9]) rfl ⟨⟨key, kind, sum, st, last, n, mn, mx, total, dropped⟩, y, HT.out.small, FY.out, rfl, ⟨g9.os, g9.tape, g9.output, g9.size, fun i hi => g9.block i hi (by intro e; injection e with e; omega)⟩⟩
end Go.Proofs.Ytfmmhfipibaghaa
