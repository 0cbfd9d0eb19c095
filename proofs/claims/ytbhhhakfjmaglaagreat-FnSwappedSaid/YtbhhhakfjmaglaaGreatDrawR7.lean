/-
  Chapter 7's draws, told in less: some row, small; some row and some number.
-/
import Derived.Test.YtbhhhakfjmaglaaGreatDrawR
import Derived.Test.YtbhhhakfjmaglaaGreatZb
import Derived.Test.YtbhhhakfjmaglaaGreatZm
import Derived.Deep.RegionWith
namespace Go.Proofs.YtbhhhakfjmaglaaGreat
open Go.RowKit M
set_option linter.unusedVariables false
set_option linter.unusedSimpArgs false
theorem wp_d7_fill {C : Go.Code} {Q : Exit → Act → World → Prop} {a : Act} {w u : World} {g : Nat} {K : Code} {o gr : Nat} {z : R} (r : R) (h : D7 w g K o gr z u) (k : ∀ u', D7 w g K o gr r u' → Go.Code.wp Tryz.prog C Q a u') :
    Go.Code.wp Tryz.prog C Q a ((((((((((u.setCell ⟨gr, 0, none⟩ (.string r.key)).setCell ⟨gr, 1, none⟩ (.int .i64 r.kind)).setCell ⟨gr, 2, none⟩ (.int .i64 r.sum)).setCell ⟨gr, 3, none⟩ (.bool r.set)).setCell ⟨gr, 4, none⟩ (.int .i64 r.last)).setCell ⟨gr, 5, none⟩ (.int .i64 r.n)).setCell ⟨gr, 6, none⟩ (.int .i64 r.mn)).setCell ⟨gr, 7, none⟩ (.int .i64 r.mx)).setCell ⟨gr, 8, none⟩ (.int .i64 r.total)).setCell ⟨gr, 9, none⟩ (.int .i64 r.dropped)) := k _ (h.fill r)
theorem wp_d7_new {C : Go.Code} {Q : Exit → Act → World → Prop} {a : Act} {w u : World} {g : Nat} {K : Code} {o : Nat} {s : St} (r : R) (hc : Cur u g K s) (h1 : w.grownBy u (some g)) (hz : RowAt u o zeroR) (hB : CodeB K w.heap.size) (hg : g ≠ o) (ho : w.heap.size ≤ o)
    (k : ∀ u', D7 w g K o u.heap.size r u' → Go.Code.wp Tryz.prog C Q a u') : Go.Code.wp Tryz.prog C Q a (u.alloc (.cells (rowCells r) 42)) :=
  k _ ⟨⟨⟨s, hc.alloc _⟩, grown_trans h1 (World.grownBy_alloc _ _ _)⟩, ⟨hz.alloc _, rowAt_new u _ r rfl⟩, ⟨hB, hg, Nat.ne_of_lt hc.lt⟩, ho, h1.size, Nat.ne_of_lt hz.lt⟩
/-- A sample more, told in less. -/
def SomeRow (w : World) (P : R → Prop) (e : Ending) (w' : World) : Prop := ∃ (key : ByteArray) (kind sum : Int) (st : Bool) (last n mn mx total dropped : Int), P ⟨key, kind, sum, st, last, n, mn, mx, total, dropped⟩ ∧ e = .returned (.agg #[.string key, .int .i64 kind, .int .i64 sum, .bool st, .int .i64 last, .int .i64 n, .int .i64 mn, .int .i64 mx, .int .i64 total, .int .i64 dropped]) ∧ Below w.heap.size w w'
theorem sampled_tight (w : World) (key : ByteArray) (kind sum : Int) (st : Bool) (last n mn mx total dropped v : Int) (h : Tight ⟨key, kind, sum, st, last, n, mn, mx, total, dropped⟩) :
    Calls Tryz.prog 81 #[.agg #[.string key, .int .i64 kind, .int .i64 sum, .bool st, .int .i64 last, .int .i64 n, .int .i64 mn, .int .i64 mx, .int .i64 total, .int .i64 dropped], .int .i64 v] w (SomeRow w Tight) := by
  refine (sSampled_any w ⟨key, kind, sum, st, last, n, mn, mx, total, dropped⟩ v (by have := h.key; unfold maxLen; simp only at this ⊢; omega)).mono ?_
  rintro e w' ⟨rfl, hb⟩
  have ht := h.sampled v
  generalize sampledV ⟨key, kind, sum, st, last, n, mn, mx, total, dropped⟩ v = r at *
  obtain ⟨key, kind, sum, st, last, n, mn, mx, total, dropped⟩ := r
  exact ⟨_, _, _, _, _, _, _, _, _, _, ht, rfl, hb⟩
set_option maxRecDepth 100000 in
set_option maxHeartbeats 8000000 in
theorem l7Row_some (w : World) (g : Nat) (K : Code) (s : St) (c : Cur w g K s) (hB : CodeB K w.heap.size) : Calls Tryz.prog 94 #[.pointer (some ⟨g, 0, none⟩)] w (SomeR w g K Tight) := by
  have hg := c.lt
  have H1 := Lib.hid (l4Key_some (w.alloc (.cells (rowCells zeroR) 42)) g K s (c.alloc _))
  clear c
  go_enter Tryz.func94, Tryz.ntmps94
  go_wp2_with fail
  refine H1.out.mono ?_
  rintro e w1 ⟨key, s1, hkx, rfl, hc1, hg1⟩
  have FK := hkx
  have H2 := Lib.hid (below_some w1 g K 3 s1 hc1 (by decide) (by decide))
  have G1 := Lib.hid (grown_trans (World.grownBy_alloc w (.cells (rowCells zeroR) 42) (some g)) hg1)
  have Z1 := Lib.hid ((rowAt_new w _ zeroR rfl).kept hg1 (by omega))
  clear hkx hc1 hg1 H1
  go_wp2_with fail
  refine H2.out.mono ?_
  rintro e w2 ⟨b, s2, hb, rfl, hc2, hg2⟩
  have FB := hb
  have C2 := Lib.hid hc2
  have G2 := Lib.hid (grown_trans G1.out hg2)
  have Z2 := Lib.hid (Z1.out.kept hg2 (by omega))
  clear hb hc2 hg2 H2 G1 Z1
  go_upto_region 2 with fail
  refine wp_d7_new ⟨key, 1 + b, 0, false, 0, 0, 0, 0, 0, 0⟩ C2.out G2.out Z2.out hB (by omega) (Nat.le_refl _) ?_
  generalize w2.heap.size = gr
  clear C2 G2 Z2
  clear w2
  intro u hD
  have HD := Lib.hid hD
  clear hD
  have hbb : b = 0 ∨ b = 1 ∨ b = 2 := by omega
  clear FB
  rcases hbb with rfl | rfl | rfl
  · skip
    obtain ⟨hz, hx⟩ := HD.out.get
    obtain ⟨x0, x1, x2, x3, x4, x5, x6, x7, x8, x9, xf⟩ := hx.get
    obtain ⟨z0, z1, z2, z3, z4, z5, z6, z7, z8, z9, zf⟩ := hz.get
    simp only [zeroR] at x0 x1 x2 x3 x4 x5 x6 x7 x8 x9 z0 z1 z2 z3 z4 z5 z6 z7 z8 z9
    clear hz hx
    obtain ⟨sc, hc⟩ := HD.out.cur
    have HB := Lib.hid (below_some u g K 9999 sc hc (by decide) (by decide))
    clear hc
    go_wp2_with fail
    refine HB.out.mono ?_
    rintro e u' ⟨x, s', hx, rfl, hc', hg'⟩
    have Fx := hx
    clear hx
    clear x0 x1 x2 x3 x4 x5 x6 x7 x8 x9 xf z0 z1 z2 z3 z4 z5 z6 z7 z8 z9 zf
    replace HD := Lib.hid (HD.out.call s' hc' hg')
    clear hc' hg' HB
    clear sc
    obtain ⟨hz, hx⟩ := HD.out.get
    obtain ⟨x0, x1, x2, x3, x4, x5, x6, x7, x8, x9, xf⟩ := hx.get
    obtain ⟨z0, z1, z2, z3, z4, z5, z6, z7, z8, z9, zf⟩ := hz.get
    simp only [zeroR] at x0 x1 x2 x3 x4 x5 x6 x7 x8 x9 z0 z1 z2 z3 z4 z5 z6 z7 z8 z9
    clear hz hx
    obtain ⟨sc, hc⟩ := HD.out.cur
    have HB := Lib.hid (pick_some u' g K sc hc [0, 1, 281474976710655, x] 4 rfl (by decide) (by decide) _ rfl)
    clear hc
    go_wp2_with fail
    refine HB.out.mono ?_
    rintro e u'' ⟨y, s', hy, rfl, hc', hg'⟩
    have Fy : 0 ≤ y ∧ y ≤ 281474976710655 := by simp at hy; omega
    clear hy
    clear x0 x1 x2 x3 x4 x5 x6 x7 x8 x9 xf z0 z1 z2 z3 z4 z5 z6 z7 z8 z9 zf
    replace HD := Lib.hid (HD.out.call s' hc' hg')
    clear hc' hg' HB
    clear sc
    obtain ⟨hz, hx⟩ := HD.out.get
    obtain ⟨x0, x1, x2, x3, x4, x5, x6, x7, x8, x9, xf⟩ := hx.get
    obtain ⟨z0, z1, z2, z3, z4, z5, z6, z7, z8, z9, zf⟩ := hz.get
    simp only [zeroR] at x0 x1 x2 x3 x4 x5 x6 x7 x8 x9 z0 z1 z2 z3 z4 z5 z6 z7 z8 z9
    clear hz hx
    go_upto_region 13 with fail
    refine wp_d7 ⟨key, 1, y, false, 0, 0, 0, 0, 0, 0⟩ HD.out rfl ?_
    clear x0 x1 x2 x3 x4 x5 x6 x7 x8 x9 xf z0 z1 z2 z3 z4 z5 z6 z7 z8 z9 zf HD
    intro u''x hD
    have HD := Lib.hid hD
    clear hD
    obtain ⟨hz, hx⟩ := HD.out.get
    obtain ⟨x0, x1, x2, x3, x4, x5, x6, x7, x8, x9, xf⟩ := hx.get
    obtain ⟨z0, z1, z2, z3, z4, z5, z6, z7, z8, z9, zf⟩ := hz.get
    simp only [zeroR] at x0 x1 x2 x3 x4 x5 x6 x7 x8 x9 z0 z1 z2 z3 z4 z5 z6 z7 z8 z9
    clear hz hx
    have HA := Lib.hid (HD.out.answer (.string key) (.int .i64 1) (.int .i64 y) (.bool false) (.int .i64 0) (.int .i64 0) (.int .i64 0) (.int .i64 0) (.int .i64 0) (.int .i64 0))
    go_wp2_with fail
    obtain ⟨s9, c9, g9⟩ := HA.out
    exact bodyPost_ret (v := .agg #[.string key, .int .i64 1, .int .i64 y, .bool false, .int .i64 0, .int .i64 0, .int .i64 0, .int .i64 0, .int .i64 0, .int .i64 0]) (by simp [results, Tryz.results94, go_sem, x0, x1, x2, x3, x4, x5, x6, x7, x8, x9, z0, z1, z2, z3, z4, z5, z6, z7, z8, z9]) rfl ⟨⟨key, 1, y, false, 0, 0, 0, 0, 0, 0⟩, s9, (by constructor <;> simp only <;> omega), rfl, c9, g9⟩
  · skip
    obtain ⟨hz, hx⟩ := HD.out.get
    obtain ⟨x0, x1, x2, x3, x4, x5, x6, x7, x8, x9, xf⟩ := hx.get
    obtain ⟨z0, z1, z2, z3, z4, z5, z6, z7, z8, z9, zf⟩ := hz.get
    simp only [zeroR] at x0 x1 x2 x3 x4 x5 x6 x7 x8 x9 z0 z1 z2 z3 z4 z5 z6 z7 z8 z9
    clear hz hx
    obtain ⟨sc, hc⟩ := HD.out.cur
    have HB := Lib.hid (once_some u g K 4 sc hc (by decide))
    clear hc
    go_wp2_with fail
    refine HB.out.mono ?_
    rintro e u' ⟨bb, s', rfl, hc', hg'⟩
    clear x0 x1 x2 x3 x4 x5 x6 x7 x8 x9 xf z0 z1 z2 z3 z4 z5 z6 z7 z8 z9 zf
    replace HD := Lib.hid (HD.out.call s' hc' hg')
    clear hc' hg' HB
    clear sc
    obtain ⟨hz, hx⟩ := HD.out.get
    obtain ⟨x0, x1, x2, x3, x4, x5, x6, x7, x8, x9, xf⟩ := hx.get
    obtain ⟨z0, z1, z2, z3, z4, z5, z6, z7, z8, z9, zf⟩ := hz.get
    simp only [zeroR] at x0 x1 x2 x3 x4 x5 x6 x7 x8 x9 z0 z1 z2 z3 z4 z5 z6 z7 z8 z9
    clear hz hx
    cases bb with
    | true =>
      have HA := Lib.hid (HD.out.answer (.string key) (.int .i64 2) (.int .i64 0) (.bool false) (.int .i64 0) (.int .i64 0) (.int .i64 0) (.int .i64 0) (.int .i64 0) (.int .i64 0))
      go_wp2_with fail
      obtain ⟨s9, c9, g9⟩ := HA.out
      exact bodyPost_ret (v := .agg #[.string key, .int .i64 2, .int .i64 0, .bool false, .int .i64 0, .int .i64 0, .int .i64 0, .int .i64 0, .int .i64 0, .int .i64 0]) (by simp [results, Tryz.results94, go_sem, x0, x1, x2, x3, x4, x5, x6, x7, x8, x9, z0, z1, z2, z3, z4, z5, z6, z7, z8, z9]) rfl ⟨⟨key, 2, 0, false, 0, 0, 0, 0, 0, 0⟩, s9, (by constructor <;> simp only <;> omega), rfl, c9, g9⟩
    | false =>
      go_upto_region 12 with fail
      refine wp_d7 ⟨key, 2, 0, true, 0, 0, 0, 0, 0, 0⟩ HD.out rfl ?_
      clear x0 x1 x2 x3 x4 x5 x6 x7 x8 x9 xf z0 z1 z2 z3 z4 z5 z6 z7 z8 z9 zf HD
      intro u'x hD
      have HD := Lib.hid hD
      clear hD
      obtain ⟨hz, hx⟩ := HD.out.get
      obtain ⟨x0, x1, x2, x3, x4, x5, x6, x7, x8, x9, xf⟩ := hx.get
      obtain ⟨z0, z1, z2, z3, z4, z5, z6, z7, z8, z9, zf⟩ := hz.get
      simp only [zeroR] at x0 x1 x2 x3 x4 x5 x6 x7 x8 x9 z0 z1 z2 z3 z4 z5 z6 z7 z8 z9
      clear hz hx
      obtain ⟨sc, hc⟩ := HD.out.cur
      have HB := Lib.hid (l5Val_some u'x g K sc hc)
      clear hc
      go_wp2_with fail
      refine HB.out.mono ?_
      rintro e u'x' ⟨y, s', hy, rfl, hc', hg'⟩
      have Fy := hy
      clear hy
      clear x0 x1 x2 x3 x4 x5 x6 x7 x8 x9 xf z0 z1 z2 z3 z4 z5 z6 z7 z8 z9 zf
      replace HD := Lib.hid (HD.out.call s' hc' hg')
      clear hc' hg' HB
      clear sc
      obtain ⟨hz, hx⟩ := HD.out.get
      obtain ⟨x0, x1, x2, x3, x4, x5, x6, x7, x8, x9, xf⟩ := hx.get
      obtain ⟨z0, z1, z2, z3, z4, z5, z6, z7, z8, z9, zf⟩ := hz.get
      simp only [zeroR] at x0 x1 x2 x3 x4 x5 x6 x7 x8 x9 z0 z1 z2 z3 z4 z5 z6 z7 z8 z9
      clear hz hx
      go_upto_region 13 with fail
      refine wp_d7 ⟨key, 2, 0, true, y, 0, 0, 0, 0, 0⟩ HD.out rfl ?_
      clear x0 x1 x2 x3 x4 x5 x6 x7 x8 x9 xf z0 z1 z2 z3 z4 z5 z6 z7 z8 z9 zf HD
      intro u'x'x hD
      have HD := Lib.hid hD
      clear hD
      obtain ⟨hz, hx⟩ := HD.out.get
      obtain ⟨x0, x1, x2, x3, x4, x5, x6, x7, x8, x9, xf⟩ := hx.get
      obtain ⟨z0, z1, z2, z3, z4, z5, z6, z7, z8, z9, zf⟩ := hz.get
      simp only [zeroR] at x0 x1 x2 x3 x4 x5 x6 x7 x8 x9 z0 z1 z2 z3 z4 z5 z6 z7 z8 z9
      clear hz hx
      have HA := Lib.hid (HD.out.answer (.string key) (.int .i64 2) (.int .i64 0) (.bool true) (.int .i64 y) (.int .i64 0) (.int .i64 0) (.int .i64 0) (.int .i64 0) (.int .i64 0))
      go_wp2_with fail
      obtain ⟨s9, c9, g9⟩ := HA.out
      exact bodyPost_ret (v := .agg #[.string key, .int .i64 2, .int .i64 0, .bool true, .int .i64 y, .int .i64 0, .int .i64 0, .int .i64 0, .int .i64 0, .int .i64 0]) (by simp [results, Tryz.results94, go_sem, x0, x1, x2, x3, x4, x5, x6, x7, x8, x9, z0, z1, z2, z3, z4, z5, z6, z7, z8, z9]) rfl ⟨⟨key, 2, 0, true, y, 0, 0, 0, 0, 0⟩, s9, (by constructor <;> simp only <;> omega), rfl, c9, g9⟩
  · skip
    obtain ⟨hz, hx⟩ := HD.out.get
    obtain ⟨x0, x1, x2, x3, x4, x5, x6, x7, x8, x9, xf⟩ := hx.get
    obtain ⟨z0, z1, z2, z3, z4, z5, z6, z7, z8, z9, zf⟩ := hz.get
    simp only [zeroR] at x0 x1 x2 x3 x4 x5 x6 x7 x8 x9 z0 z1 z2 z3 z4 z5 z6 z7 z8 z9
    clear hz hx
    obtain ⟨sc, hc⟩ := HD.out.cur
    have HB := Lib.hid (below_some u g K 6 sc hc (by decide) (by decide))
    clear hc
    go_wp2_with fail
    refine HB.out.mono ?_
    rintro e u' ⟨x, s', hx, rfl, hc', hg'⟩
    have Fx := hx
    clear hx
    clear x0 x1 x2 x3 x4 x5 x6 x7 x8 x9 xf z0 z1 z2 z3 z4 z5 z6 z7 z8 z9 zf
    replace HD := Lib.hid (HD.out.call s' hc' hg')
    clear hc' hg' HB
    clear sc
    obtain ⟨hz, hx⟩ := HD.out.get
    obtain ⟨x0, x1, x2, x3, x4, x5, x6, x7, x8, x9, xf⟩ := hx.get
    obtain ⟨z0, z1, z2, z3, z4, z5, z6, z7, z8, z9, zf⟩ := hz.get
    simp only [zeroR] at x0 x1 x2 x3 x4 x5 x6 x7 x8 x9 z0 z1 z2 z3 z4 z5 z6 z7 z8 z9
    clear hz hx
    go_wp2_with fail
    go_loopw [4] (fun c wr => ∃ (j : Int) (r : R), c = .int .i64 j ∧ 0 ≤ j ∧ j ≤ 5 ∧ Tight r ∧ D7 w g K w.heap.size gr r wr) (fun c _ => (intOf c).toNat)
    case atStart => exact ⟨x, _, rfl, by omega, by omega, (by constructor <;> simp only <;> omega), HD.out⟩
    case round =>
      obtain ⟨j, r, rfl, hj0, hj1, ht, hd⟩ := hrel
      obtain ⟨key, kind, sum, st, last, n, mn, mx, total, dropped⟩ := r
      have HT := Lib.hid ht
      clear x0 x1 x2 x3 x4 x5 x6 x7 x8 x9 xf z0 z1 z2 z3 z4 z5 z6 z7 z8 z9 zf HD
      have HD := Lib.hid hd
      clear ht hd
      obtain ⟨hz, hx⟩ := HD.out.get
      obtain ⟨x0, x1, x2, x3, x4, x5, x6, x7, x8, x9, xf⟩ := hx.get
      obtain ⟨z0, z1, z2, z3, z4, z5, z6, z7, z8, z9, zf⟩ := hz.get
      simp only [zeroR] at x0 x1 x2 x3 x4 x5 x6 x7 x8 x9 z0 z1 z2 z3 z4 z5 z6 z7 z8 z9
      clear hz hx
      by_cases hlt : 0 < j
      · have HD1 := Lib.hid (HD.out.below (below_drew _ _))
        obtain ⟨sc, hc⟩ := HD1.out.cur
        have HV := Lib.hid (l5Val_some wr.drew g K sc hc)
        clear hc
        go_wp2_with fail
        go_region_with (first | (go_at_call 66; refine HV.out.mono ?_; rintro e u1 ⟨v, s', hv, rfl, hc', hg'⟩; have HD2 := Lib.hid (HD1.out.call s' hc' hg'); have hx2 := HD2.out.get.2; obtain ⟨y0, y1, y2, y3, y4, y5, y6, y7, y8, y9, yf⟩ := hx2.get; simp only at y0 y1 y2 y3 y4 y5 y6 y7 y8 y9; clear hc' hg' hx2) | (go_at_call 81; refine (sampled_tight _ key kind sum st last n mn mx total dropped v HT.out).mono ?_; rintro e u2 ⟨k0, k1, k2, k3, k4, k5, k6, k7, k8, k9, ht', rfl, hb'⟩; have HT2 := Lib.hid ht'; have HD3 := Lib.hid (HD2.out.below hb'); have hx3 := HD3.out.get.2; obtain ⟨q0, q1, q2, q3, q4, q5, q6, q7, q8, q9, qf⟩ := hx3.get; simp only at q0 q1 q2 q3 q4 q5 q6 q7 q8 q9; clear hb' hx3 ht'))
        all_goals
          go_wp2_with fail
          go_roundw
          case rel => exact ⟨j - 1, ⟨k0, k1, k2, k3, k4, k5, k6, k7, k8, k9⟩, by go_num, by omega, by omega, HT2.out, HD3.out.fill _⟩
          case measure => simp [intOf]; omega
      · have hj : j = 0 := by omega
        subst hj
        have HA := Lib.hid (HD.out.answer (.string key) (.int .i64 kind) (.int .i64 sum) (.bool st) (.int .i64 last) (.int .i64 n) (.int .i64 mn) (.int .i64 mx) (.int .i64 total) (.int .i64 dropped))
        go_wp2_with fail
        obtain ⟨s9, c9, g9⟩ := HA.out
        exact bodyPost_ret (v := .agg #[.string key, .int .i64 kind, .int .i64 sum, .bool st, .int .i64 last, .int .i64 n, .int .i64 mn, .int .i64 mx, .int .i64 total, .int .i64 dropped]) (by simp [results, Tryz.results94, go_sem, x0, x1, x2, x3, x4, x5, x6, x7, x8, x9, z0, z1, z2, z3, z4, z5, z6, z7, z8, z9]) rfl ⟨⟨key, kind, sum, st, last, n, mn, mx, total, dropped⟩, s9, HT.out, rfl, c9, g9⟩
set_option maxRecDepth 100000 in
set_option maxHeartbeats 8000000 in
theorem l7Any_some (w : World) (g : Nat) (K : Code) (s : St) (c : Cur w g K s) (hB : CodeB K w.heap.size) : Calls Tryz.prog 60 #[.pointer (some ⟨g, 0, none⟩)] w (SomeR w g K Small) := by
  have hg := c.lt
  have H1 := Lib.hid (l7Row_some (w.alloc (.cells (rowCells zeroR) 42)) g K s (c.alloc _) (hB.mono (by simp [go_sem])))
  clear c
  go_enter Tryz.func60, Tryz.ntmps60
  go_wp2_with fail
  refine H1.out.mono ?_
  rintro e w1 ⟨r, s1, ht, rfl, hc1, hg1⟩
  obtain ⟨key, kind, sum, st, last, n, mn, mx, total, dropped⟩ := r
  obtain ⟨t0, t1, t2, t3, t4, t5, t6, t7, t8⟩ := ht
  simp only at t0 t1 t2 t3 t4 t5 t6 t7 t8
  have C1 := Lib.hid hc1
  have G1 := Lib.hid (grown_trans (World.grownBy_alloc w (.cells (rowCells zeroR) 42) (some g)) hg1)
  have Z1 := Lib.hid ((rowAt_new w _ zeroR rfl).kept hg1 (by omega))
  clear hc1 hg1 H1
  unfold R.v
  simp only
  go_upto_region 2 with fail
  refine wp_d7_new ⟨key, kind, sum, st, last, n, mn, mx, total, dropped⟩ C1.out G1.out Z1.out hB (by omega) (Nat.le_refl _) ?_
  generalize w1.heap.size = gr
  clear C1 G1 Z1
  clear w1
  intro u hD
  have HD := Lib.hid hD
  clear hD
  obtain ⟨hz, hx⟩ := HD.out.get
  obtain ⟨x0, x1, x2, x3, x4, x5, x6, x7, x8, x9, xf⟩ := hx.get
  obtain ⟨z0, z1, z2, z3, z4, z5, z6, z7, z8, z9, zf⟩ := hz.get
  simp only [zeroR] at x0 x1 x2 x3 x4 x5 x6 x7 x8 x9 z0 z1 z2 z3 z4 z5 z6 z7 z8 z9
  clear hz hx
  obtain ⟨sc, hc⟩ := HD.out.cur
  have HB := Lib.hid (below_some u g K 16 sc hc (by decide) (by decide))
  clear hc
  go_wp2_with fail
  refine HB.out.mono ?_
  rintro e u' ⟨b, s', hb, rfl, hc', hg'⟩
  have Fb := hb
  clear hb
  clear x0 x1 x2 x3 x4 x5 x6 x7 x8 x9 xf z0 z1 z2 z3 z4 z5 z6 z7 z8 z9 zf
  replace HD := Lib.hid (HD.out.call s' hc' hg')
  clear hc' hg' HB
  clear sc
  obtain ⟨hz, hx⟩ := HD.out.get
  obtain ⟨x0, x1, x2, x3, x4, x5, x6, x7, x8, x9, xf⟩ := hx.get
  obtain ⟨z0, z1, z2, z3, z4, z5, z6, z7, z8, z9, zf⟩ := hz.get
  simp only [zeroR] at x0 x1 x2 x3 x4 x5 x6 x7 x8 x9 z0 z1 z2 z3 z4 z5 z6 z7 z8 z9
  clear hz hx
  have hbb : b = 0 ∨ b = 1 ∨ b = 2 ∨ b = 3 ∨ b = 4 ∨ b = 5 ∨ b = 6 ∨ 7 ≤ b := by omega
  rcases hbb with rfl | rfl | rfl | rfl | rfl | rfl | rfl | hb7
  · skip
    obtain ⟨sc, hc⟩ := HD.out.cur
    have HB := Lib.hid (l4Any_some u' g K sc hc)
    clear hc
    go_wp2_with fail
    refine HB.out.mono ?_
    rintro e u'' ⟨y, s', hy, rfl, hc', hg'⟩
    have Fy := hy
    clear hy
    clear x0 x1 x2 x3 x4 x5 x6 x7 x8 x9 xf z0 z1 z2 z3 z4 z5 z6 z7 z8 z9 zf
    replace HD := Lib.hid (HD.out.call s' hc' hg')
    clear hc' hg' HB
    clear sc
    obtain ⟨hz, hx⟩ := HD.out.get
    obtain ⟨x0, x1, x2, x3, x4, x5, x6, x7, x8, x9, xf⟩ := hx.get
    obtain ⟨z0, z1, z2, z3, z4, z5, z6, z7, z8, z9, zf⟩ := hz.get
    simp only [zeroR] at x0 x1 x2 x3 x4 x5 x6 x7 x8 x9 z0 z1 z2 z3 z4 z5 z6 z7 z8 z9
    clear hz hx
    go_upto_region 17 with fail
    refine wp_d7 ⟨y, kind, sum, st, last, n, mn, mx, total, dropped⟩ HD.out rfl ?_
    clear x0 x1 x2 x3 x4 x5 x6 x7 x8 x9 xf z0 z1 z2 z3 z4 z5 z6 z7 z8 z9 zf HD
    intro u''x hD
    have HD := Lib.hid hD
    clear hD
    obtain ⟨hz, hx⟩ := HD.out.get
    obtain ⟨x0, x1, x2, x3, x4, x5, x6, x7, x8, x9, xf⟩ := hx.get
    obtain ⟨z0, z1, z2, z3, z4, z5, z6, z7, z8, z9, zf⟩ := hz.get
    simp only [zeroR] at x0 x1 x2 x3 x4 x5 x6 x7 x8 x9 z0 z1 z2 z3 z4 z5 z6 z7 z8 z9
    clear hz hx
    have HA := Lib.hid (HD.out.answer (.string y) (.int .i64 kind) (.int .i64 sum) (.bool st) (.int .i64 last) (.int .i64 n) (.int .i64 mn) (.int .i64 mx) (.int .i64 total) (.int .i64 dropped))
    go_wp2_with fail
    obtain ⟨s9, c9, g9⟩ := HA.out
    exact bodyPost_ret (v := .agg #[.string y, .int .i64 kind, .int .i64 sum, .bool st, .int .i64 last, .int .i64 n, .int .i64 mn, .int .i64 mx, .int .i64 total, .int .i64 dropped]) (by simp [results, Tryz.results60, go_sem, x0, x1, x2, x3, x4, x5, x6, x7, x8, x9, z0, z1, z2, z3, z4, z5, z6, z7, z8, z9]) rfl ⟨⟨y, kind, sum, st, last, n, mn, mx, total, dropped⟩, s9, (by constructor <;> simp only <;> omega), rfl, c9, g9⟩
  · skip
    obtain ⟨sc, hc⟩ := HD.out.cur
    have HB := Lib.hid (l5Kind_some u' g K sc hc)
    clear hc
    go_wp2_with fail
    refine HB.out.mono ?_
    rintro e u'' ⟨y, s', hy, rfl, hc', hg'⟩
    have Fy := hy
    clear hy
    clear x0 x1 x2 x3 x4 x5 x6 x7 x8 x9 xf z0 z1 z2 z3 z4 z5 z6 z7 z8 z9 zf
    replace HD := Lib.hid (HD.out.call s' hc' hg')
    clear hc' hg' HB
    clear sc
    obtain ⟨hz, hx⟩ := HD.out.get
    obtain ⟨x0, x1, x2, x3, x4, x5, x6, x7, x8, x9, xf⟩ := hx.get
    obtain ⟨z0, z1, z2, z3, z4, z5, z6, z7, z8, z9, zf⟩ := hz.get
    simp only [zeroR] at x0 x1 x2 x3 x4 x5 x6 x7 x8 x9 z0 z1 z2 z3 z4 z5 z6 z7 z8 z9
    clear hz hx
    go_upto_region 17 with fail
    refine wp_d7 ⟨key, y, sum, st, last, n, mn, mx, total, dropped⟩ HD.out rfl ?_
    clear x0 x1 x2 x3 x4 x5 x6 x7 x8 x9 xf z0 z1 z2 z3 z4 z5 z6 z7 z8 z9 zf HD
    intro u''x hD
    have HD := Lib.hid hD
    clear hD
    obtain ⟨hz, hx⟩ := HD.out.get
    obtain ⟨x0, x1, x2, x3, x4, x5, x6, x7, x8, x9, xf⟩ := hx.get
    obtain ⟨z0, z1, z2, z3, z4, z5, z6, z7, z8, z9, zf⟩ := hz.get
    simp only [zeroR] at x0 x1 x2 x3 x4 x5 x6 x7 x8 x9 z0 z1 z2 z3 z4 z5 z6 z7 z8 z9
    clear hz hx
    have HA := Lib.hid (HD.out.answer (.string key) (.int .i64 y) (.int .i64 sum) (.bool st) (.int .i64 last) (.int .i64 n) (.int .i64 mn) (.int .i64 mx) (.int .i64 total) (.int .i64 dropped))
    go_wp2_with fail
    obtain ⟨s9, c9, g9⟩ := HA.out
    exact bodyPost_ret (v := .agg #[.string key, .int .i64 y, .int .i64 sum, .bool st, .int .i64 last, .int .i64 n, .int .i64 mn, .int .i64 mx, .int .i64 total, .int .i64 dropped]) (by simp [results, Tryz.results60, go_sem, x0, x1, x2, x3, x4, x5, x6, x7, x8, x9, z0, z1, z2, z3, z4, z5, z6, z7, z8, z9]) rfl ⟨⟨key, y, sum, st, last, n, mn, mx, total, dropped⟩, s9, (by constructor <;> simp only <;> omega), rfl, c9, g9⟩
  · skip
    go_upto_region 17 with fail
    refine wp_d7 ⟨key, kind, sum, st, last, n + 1, mn, mx, total, dropped⟩ HD.out rfl ?_
    clear x0 x1 x2 x3 x4 x5 x6 x7 x8 x9 xf z0 z1 z2 z3 z4 z5 z6 z7 z8 z9 zf HD
    intro u'x hD
    have HD := Lib.hid hD
    clear hD
    obtain ⟨hz, hx⟩ := HD.out.get
    obtain ⟨x0, x1, x2, x3, x4, x5, x6, x7, x8, x9, xf⟩ := hx.get
    obtain ⟨z0, z1, z2, z3, z4, z5, z6, z7, z8, z9, zf⟩ := hz.get
    simp only [zeroR] at x0 x1 x2 x3 x4 x5 x6 x7 x8 x9 z0 z1 z2 z3 z4 z5 z6 z7 z8 z9
    clear hz hx
    have HA := Lib.hid (HD.out.answer (.string key) (.int .i64 kind) (.int .i64 sum) (.bool st) (.int .i64 last) (.int .i64 (n + 1)) (.int .i64 mn) (.int .i64 mx) (.int .i64 total) (.int .i64 dropped))
    go_wp2_with fail
    obtain ⟨s9, c9, g9⟩ := HA.out
    exact bodyPost_ret (v := .agg #[.string key, .int .i64 kind, .int .i64 sum, .bool st, .int .i64 last, .int .i64 (n + 1), .int .i64 mn, .int .i64 mx, .int .i64 total, .int .i64 dropped]) (by simp [results, Tryz.results60, go_sem, x0, x1, x2, x3, x4, x5, x6, x7, x8, x9, z0, z1, z2, z3, z4, z5, z6, z7, z8, z9]) rfl ⟨⟨key, kind, sum, st, last, n + 1, mn, mx, total, dropped⟩, s9, (by constructor <;> simp only <;> omega), rfl, c9, g9⟩
  · skip
    obtain ⟨sc, hc⟩ := HD.out.cur
    have HB := Lib.hid (pick_some u' g K sc hc [-1, 281474976710656, 1] 3 rfl (by decide) (by decide) _ rfl)
    clear hc
    go_wp2_with fail
    refine HB.out.mono ?_
    rintro e u'' ⟨y, s', hy, rfl, hc', hg'⟩
    have Fy : -1 ≤ y ∧ y ≤ 281474976710656 := by simp at hy; omega
    clear hy
    clear x0 x1 x2 x3 x4 x5 x6 x7 x8 x9 xf z0 z1 z2 z3 z4 z5 z6 z7 z8 z9 zf
    replace HD := Lib.hid (HD.out.call s' hc' hg')
    clear hc' hg' HB
    clear sc
    obtain ⟨hz, hx⟩ := HD.out.get
    obtain ⟨x0, x1, x2, x3, x4, x5, x6, x7, x8, x9, xf⟩ := hx.get
    obtain ⟨z0, z1, z2, z3, z4, z5, z6, z7, z8, z9, zf⟩ := hz.get
    simp only [zeroR] at x0 x1 x2 x3 x4 x5 x6 x7 x8 x9 z0 z1 z2 z3 z4 z5 z6 z7 z8 z9
    clear hz hx
    go_upto_region 17 with fail
    refine wp_d7 ⟨key, kind, y, st, last, n, mn, mx, total, dropped⟩ HD.out rfl ?_
    clear x0 x1 x2 x3 x4 x5 x6 x7 x8 x9 xf z0 z1 z2 z3 z4 z5 z6 z7 z8 z9 zf HD
    intro u''x hD
    have HD := Lib.hid hD
    clear hD
    obtain ⟨hz, hx⟩ := HD.out.get
    obtain ⟨x0, x1, x2, x3, x4, x5, x6, x7, x8, x9, xf⟩ := hx.get
    obtain ⟨z0, z1, z2, z3, z4, z5, z6, z7, z8, z9, zf⟩ := hz.get
    simp only [zeroR] at x0 x1 x2 x3 x4 x5 x6 x7 x8 x9 z0 z1 z2 z3 z4 z5 z6 z7 z8 z9
    clear hz hx
    have HA := Lib.hid (HD.out.answer (.string key) (.int .i64 kind) (.int .i64 y) (.bool st) (.int .i64 last) (.int .i64 n) (.int .i64 mn) (.int .i64 mx) (.int .i64 total) (.int .i64 dropped))
    go_wp2_with fail
    obtain ⟨s9, c9, g9⟩ := HA.out
    exact bodyPost_ret (v := .agg #[.string key, .int .i64 kind, .int .i64 y, .bool st, .int .i64 last, .int .i64 n, .int .i64 mn, .int .i64 mx, .int .i64 total, .int .i64 dropped]) (by simp [results, Tryz.results60, go_sem, x0, x1, x2, x3, x4, x5, x6, x7, x8, x9, z0, z1, z2, z3, z4, z5, z6, z7, z8, z9]) rfl ⟨⟨key, kind, y, st, last, n, mn, mx, total, dropped⟩, s9, (by constructor <;> simp only <;> omega), rfl, c9, g9⟩
  · skip
    obtain ⟨sc, hc⟩ := HD.out.cur
    have HB := Lib.hid (pick_some u' g K sc hc [-1, 65536, 1] 3 rfl (by decide) (by decide) _ rfl)
    clear hc
    go_wp2_with fail
    refine HB.out.mono ?_
    rintro e u'' ⟨y, s', hy, rfl, hc', hg'⟩
    have Fy : -1 ≤ y ∧ y ≤ 65536 := by simp at hy; omega
    clear hy
    clear x0 x1 x2 x3 x4 x5 x6 x7 x8 x9 xf z0 z1 z2 z3 z4 z5 z6 z7 z8 z9 zf
    replace HD := Lib.hid (HD.out.call s' hc' hg')
    clear hc' hg' HB
    clear sc
    obtain ⟨hz, hx⟩ := HD.out.get
    obtain ⟨x0, x1, x2, x3, x4, x5, x6, x7, x8, x9, xf⟩ := hx.get
    obtain ⟨z0, z1, z2, z3, z4, z5, z6, z7, z8, z9, zf⟩ := hz.get
    simp only [zeroR] at x0 x1 x2 x3 x4 x5 x6 x7 x8 x9 z0 z1 z2 z3 z4 z5 z6 z7 z8 z9
    clear hz hx
    go_upto_region 17 with fail
    refine wp_d7 ⟨key, kind, sum, st, y, n, mn, mx, total, dropped⟩ HD.out rfl ?_
    clear x0 x1 x2 x3 x4 x5 x6 x7 x8 x9 xf z0 z1 z2 z3 z4 z5 z6 z7 z8 z9 zf HD
    intro u''x hD
    have HD := Lib.hid hD
    clear hD
    obtain ⟨hz, hx⟩ := HD.out.get
    obtain ⟨x0, x1, x2, x3, x4, x5, x6, x7, x8, x9, xf⟩ := hx.get
    obtain ⟨z0, z1, z2, z3, z4, z5, z6, z7, z8, z9, zf⟩ := hz.get
    simp only [zeroR] at x0 x1 x2 x3 x4 x5 x6 x7 x8 x9 z0 z1 z2 z3 z4 z5 z6 z7 z8 z9
    clear hz hx
    have HA := Lib.hid (HD.out.answer (.string key) (.int .i64 kind) (.int .i64 sum) (.bool st) (.int .i64 y) (.int .i64 n) (.int .i64 mn) (.int .i64 mx) (.int .i64 total) (.int .i64 dropped))
    go_wp2_with fail
    obtain ⟨s9, c9, g9⟩ := HA.out
    exact bodyPost_ret (v := .agg #[.string key, .int .i64 kind, .int .i64 sum, .bool st, .int .i64 y, .int .i64 n, .int .i64 mn, .int .i64 mx, .int .i64 total, .int .i64 dropped]) (by simp [results, Tryz.results60, go_sem, x0, x1, x2, x3, x4, x5, x6, x7, x8, x9, z0, z1, z2, z3, z4, z5, z6, z7, z8, z9]) rfl ⟨⟨key, kind, sum, st, y, n, mn, mx, total, dropped⟩, s9, (by constructor <;> simp only <;> omega), rfl, c9, g9⟩
  · skip
    go_upto_region 17 with fail
    refine wp_d7 ⟨key, kind, sum, st, last, n, mn + 1, mx, total, dropped⟩ HD.out rfl ?_
    clear x0 x1 x2 x3 x4 x5 x6 x7 x8 x9 xf z0 z1 z2 z3 z4 z5 z6 z7 z8 z9 zf HD
    intro u'x hD
    have HD := Lib.hid hD
    clear hD
    obtain ⟨hz, hx⟩ := HD.out.get
    obtain ⟨x0, x1, x2, x3, x4, x5, x6, x7, x8, x9, xf⟩ := hx.get
    obtain ⟨z0, z1, z2, z3, z4, z5, z6, z7, z8, z9, zf⟩ := hz.get
    simp only [zeroR] at x0 x1 x2 x3 x4 x5 x6 x7 x8 x9 z0 z1 z2 z3 z4 z5 z6 z7 z8 z9
    clear hz hx
    have HA := Lib.hid (HD.out.answer (.string key) (.int .i64 kind) (.int .i64 sum) (.bool st) (.int .i64 last) (.int .i64 n) (.int .i64 (mn + 1)) (.int .i64 mx) (.int .i64 total) (.int .i64 dropped))
    go_wp2_with fail
    obtain ⟨s9, c9, g9⟩ := HA.out
    exact bodyPost_ret (v := .agg #[.string key, .int .i64 kind, .int .i64 sum, .bool st, .int .i64 last, .int .i64 n, .int .i64 (mn + 1), .int .i64 mx, .int .i64 total, .int .i64 dropped]) (by simp [results, Tryz.results60, go_sem, x0, x1, x2, x3, x4, x5, x6, x7, x8, x9, z0, z1, z2, z3, z4, z5, z6, z7, z8, z9]) rfl ⟨⟨key, kind, sum, st, last, n, mn + 1, mx, total, dropped⟩, s9, (by constructor <;> simp only <;> omega), rfl, c9, g9⟩
  · skip
    obtain ⟨sc, hc⟩ := HD.out.cur
    have HB := Lib.hid (pick_some u' g K sc hc [-1, 1, 65535, 65536] 4 rfl (by decide) (by decide) _ rfl)
    clear hc
    go_wp2_with fail
    refine HB.out.mono ?_
    rintro e u'' ⟨y, s', hy, rfl, hc', hg'⟩
    have Fy : -1 ≤ y ∧ y ≤ 65536 := by simp at hy; omega
    clear hy
    clear x0 x1 x2 x3 x4 x5 x6 x7 x8 x9 xf z0 z1 z2 z3 z4 z5 z6 z7 z8 z9 zf
    replace HD := Lib.hid (HD.out.call s' hc' hg')
    clear hc' hg' HB
    clear sc
    obtain ⟨hz, hx⟩ := HD.out.get
    obtain ⟨x0, x1, x2, x3, x4, x5, x6, x7, x8, x9, xf⟩ := hx.get
    obtain ⟨z0, z1, z2, z3, z4, z5, z6, z7, z8, z9, zf⟩ := hz.get
    simp only [zeroR] at x0 x1 x2 x3 x4 x5 x6 x7 x8 x9 z0 z1 z2 z3 z4 z5 z6 z7 z8 z9
    clear hz hx
    go_upto_region 17 with fail
    refine wp_d7 ⟨key, kind, sum, st, last, n, mn, mx, total, y⟩ HD.out rfl ?_
    clear x0 x1 x2 x3 x4 x5 x6 x7 x8 x9 xf z0 z1 z2 z3 z4 z5 z6 z7 z8 z9 zf HD
    intro u''x hD
    have HD := Lib.hid hD
    clear hD
    obtain ⟨hz, hx⟩ := HD.out.get
    obtain ⟨x0, x1, x2, x3, x4, x5, x6, x7, x8, x9, xf⟩ := hx.get
    obtain ⟨z0, z1, z2, z3, z4, z5, z6, z7, z8, z9, zf⟩ := hz.get
    simp only [zeroR] at x0 x1 x2 x3 x4 x5 x6 x7 x8 x9 z0 z1 z2 z3 z4 z5 z6 z7 z8 z9
    clear hz hx
    have HA := Lib.hid (HD.out.answer (.string key) (.int .i64 kind) (.int .i64 sum) (.bool st) (.int .i64 last) (.int .i64 n) (.int .i64 mn) (.int .i64 mx) (.int .i64 total) (.int .i64 y))
    go_wp2_with fail
    obtain ⟨s9, c9, g9⟩ := HA.out
    exact bodyPost_ret (v := .agg #[.string key, .int .i64 kind, .int .i64 sum, .bool st, .int .i64 last, .int .i64 n, .int .i64 mn, .int .i64 mx, .int .i64 total, .int .i64 y]) (by simp [results, Tryz.results60, go_sem, x0, x1, x2, x3, x4, x5, x6, x7, x8, x9, z0, z1, z2, z3, z4, z5, z6, z7, z8, z9]) rfl ⟨⟨key, kind, sum, st, last, n, mn, mx, total, y⟩, s9, (by constructor <;> simp only <;> omega), rfl, c9, g9⟩
  · skip
    have e0 : (b == 0) = false := by rw [beq_eq_false_iff_ne]; omega
    have e1 : (b == 1) = false := by rw [beq_eq_false_iff_ne]; omega
    have e2 : (b == 2) = false := by rw [beq_eq_false_iff_ne]; omega
    have e3 : (b == 3) = false := by rw [beq_eq_false_iff_ne]; omega
    have e4 : (b == 4) = false := by rw [beq_eq_false_iff_ne]; omega
    have e5 : (b == 5) = false := by rw [beq_eq_false_iff_ne]; omega
    have e6 : (b == 6) = false := by rw [beq_eq_false_iff_ne]; omega
    have HA := Lib.hid (HD.out.answer (.string key) (.int .i64 kind) (.int .i64 sum) (.bool st) (.int .i64 last) (.int .i64 n) (.int .i64 mn) (.int .i64 mx) (.int .i64 total) (.int .i64 dropped))
    go_wp2_with fail
    obtain ⟨s9, c9, g9⟩ := HA.out
    exact bodyPost_ret (v := .agg #[.string key, .int .i64 kind, .int .i64 sum, .bool st, .int .i64 last, .int .i64 n, .int .i64 mn, .int .i64 mx, .int .i64 total, .int .i64 dropped]) (by simp [results, Tryz.results60, go_sem, x0, x1, x2, x3, x4, x5, x6, x7, x8, x9, z0, z1, z2, z3, z4, z5, z6, z7, z8, z9]) rfl ⟨⟨key, kind, sum, st, last, n, mn, mx, total, dropped⟩, s9, (by constructor <;> simp only <;> omega), rfl, c9, g9⟩
end Go.Proofs.YtbhhhakfjmaglaaGreat
