/-
  Texts of this seat, laid together.
-/
import Derived.Test.YtnlepnfdgdbkoaaGreatDoorYMi
import Derived.Test.YtnlepnfdgdbkoaaGreatDoorYRowN
namespace Go.Proofs.YtnlepnfdgdbkoaaGreatDoor
open Go.RowKit M
set_option linter.unusedVariables false
set_option linter.unusedSimpArgs false
set_option maxRecDepth 100000 in
set_option maxHeartbeats 16000000 in
theorem iSampled_any (w : World) (r : R) (v : Int) (h : r.Fit) (hl0 : -9223372036854775808 ≤ v) (hl1 : v ≤ 9223372036854775807) : Calls Tryz.prog 142 #[r.v, .int .i64 v] w (Gives (sampledV r v).v w) := by
  have HO := fun W => Lib.hid (iRowOk_any W r h)
  clear h
  cases hk : rowOkV r with
  | false =>
    have HE := Lib.hid (show (sampledV r v).v = r.v by rw [sampled_no (by rw [hk]; simp)])
    generalize (sampledV r v).v = out at *
    rw [hk] at HO
    clear hk
    obtain ⟨key, kind, sum, st, last, n, mn, mx, total, dropped⟩ := r
    unfold R.v at *
    simp only at *
    go_enter Tryz.func142, Tryz.ntmps142
    go_wp2_with fail
    refine (HO _).out.mono ?_
    rintro e w2 ⟨rfl, hb0⟩
    have hx : RowAt w2 w.heap.size ⟨key, kind, sum, st, last, n, mn, mx, total, dropped⟩ := ((rowAt_new w _ _ rfl).alloc _).below hb0
    have hz : RowAt w2 (w.heap.size + 1) zeroR := (rowAt_new (w.alloc _) _ zeroR (by simp [go_sem])).below hb0
    have hb : Below w.heap.size w w2 := (((Below.refl _ _).alloc (Nat.le_refl _) _).alloc (by simp [go_sem]) _).trans (hb0.mono (by simp [go_sem]; omega))
    clear hb0
    obtain ⟨x0, x1, x2, x3, x4, x5, x6, x7, x8, x9, xf⟩ := hx.get
    obtain ⟨z0, z1, z2, z3, z4, z5, z6, z7, z8, z9, zf⟩ := hz.get
    simp only [zeroR] at x0 x1 x2 x3 x4 x5 x6 x7 x8 x9 z0 z1 z2 z3 z4 z5 z6 z7 z8 z9
    have HX := Lib.hid hx
    have HZ := Lib.hid hz
    have HB := Lib.hid hb
    clear hx hz hb
    go_wp2_with fail
    exact bodyPost_ret (v := .agg #[.string key, .int .i64 kind, .int .i64 sum, .bool st, .int .i64 last, .int .i64 n, .int .i64 mn, .int .i64 mx, .int .i64 total, .int .i64 dropped]) (by simp [results, Tryz.results142, go_sem, x0, x1, x2, x3, x4, x5, x6, x7, x8, x9, z0, z1, z2, z3, z4, z5, z6, z7, z8, z9]) rfl ⟨ret_v HE.out, below_row HB.out (by omega) _ _ _ _ _ _ _ _ _ _⟩
  | true =>
    rw [hk] at HO
    by_cases k3 : r.kind = 3
    case neg =>
      have HE := Lib.hid (show (sampledV r v).v = r.v by rw [sampled_no (fun x => k3 x.2.1)])
      have t3 : (r.kind != 3) = true := by rw [bne_iff_ne]; exact k3
      generalize (sampledV r v).v = out at *
      clear hk k3
      obtain ⟨key, kind, sum, st, last, n, mn, mx, total, dropped⟩ := r
      unfold R.v at *
      simp only at *
      go_enter Tryz.func142, Tryz.ntmps142
      go_wp2_with fail
      refine (HO _).out.mono ?_
      rintro e w2 ⟨rfl, hb0⟩
      have hx : RowAt w2 w.heap.size ⟨key, kind, sum, st, last, n, mn, mx, total, dropped⟩ := ((rowAt_new w _ _ rfl).alloc _).below hb0
      have hz : RowAt w2 (w.heap.size + 1) zeroR := (rowAt_new (w.alloc _) _ zeroR (by simp [go_sem])).below hb0
      have hb : Below w.heap.size w w2 := (((Below.refl _ _).alloc (Nat.le_refl _) _).alloc (by simp [go_sem]) _).trans (hb0.mono (by simp [go_sem]; omega))
      clear hb0
      obtain ⟨x0, x1, x2, x3, x4, x5, x6, x7, x8, x9, xf⟩ := hx.get
      obtain ⟨z0, z1, z2, z3, z4, z5, z6, z7, z8, z9, zf⟩ := hz.get
      simp only [zeroR] at x0 x1 x2 x3 x4 x5 x6 x7 x8 x9 z0 z1 z2 z3 z4 z5 z6 z7 z8 z9
      have HX := Lib.hid hx
      have HZ := Lib.hid hz
      have HB := Lib.hid hb
      clear hx hz hb
      go_wp2_with fail
      exact bodyPost_ret (v := .agg #[.string key, .int .i64 kind, .int .i64 sum, .bool st, .int .i64 last, .int .i64 n, .int .i64 mn, .int .i64 mx, .int .i64 total, .int .i64 dropped]) (by simp [results, Tryz.results142, go_sem, x0, x1, x2, x3, x4, x5, x6, x7, x8, x9, z0, z1, z2, z3, z4, z5, z6, z7, z8, z9]) rfl ⟨ret_v HE.out, below_row HB.out (by omega) _ _ _ _ _ _ _ _ _ _⟩
    obtain ⟨f1, f2, f3, ⟨f4, f5⟩, ⟨f6, f7⟩, f8, ⟨f9, f10⟩, f11, f12⟩ := timer_facts hk k3
    by_cases hv : 0 ≤ v ∧ v ≤ 65535
    case neg =>
      have HE := Lib.hid (show (sampledV r v).v = r.v by rw [sampled_no (fun x => hv x.2.2)])
      have HI := fun W => Lib.hid (isValue_no v W hv)
      generalize (sampledV r v).v = out at *
      clear hk hv
      obtain ⟨key, kind, sum, st, last, n, mn, mx, total, dropped⟩ := r
      unfold R.v at *
      simp only at *
      subst f1
      subst f2
      subst f3
      subst k3
      go_enter Tryz.func142, Tryz.ntmps142
      go_wp2_with fail
      refine (HO _).out.mono ?_
      rintro e w2 ⟨rfl, hb0⟩
      have hx : RowAt w2 w.heap.size ⟨key, 3, 0, false, 0, n, mn, mx, total, dropped⟩ := ((rowAt_new w _ _ rfl).alloc _).below hb0
      have hz : RowAt w2 (w.heap.size + 1) zeroR := (rowAt_new (w.alloc _) _ zeroR (by simp [go_sem])).below hb0
      have hb : Below w.heap.size w w2 := (((Below.refl _ _).alloc (Nat.le_refl _) _).alloc (by simp [go_sem]) _).trans (hb0.mono (by simp [go_sem]; omega))
      clear hb0
      obtain ⟨x0, x1, x2, x3, x4, x5, x6, x7, x8, x9, xf⟩ := hx.get
      obtain ⟨z0, z1, z2, z3, z4, z5, z6, z7, z8, z9, zf⟩ := hz.get
      simp only [zeroR] at x0 x1 x2 x3 x4 x5 x6 x7 x8 x9 z0 z1 z2 z3 z4 z5 z6 z7 z8 z9
      have HX := Lib.hid hx
      have HZ := Lib.hid hz
      have HB := Lib.hid hb
      clear hx hz hb
      go_wp2_with fail
      refine (HI _).out.mono ?_
      rintro e w' ⟨rfl, rfl⟩
      go_wp2_with fail
      exact bodyPost_ret (v := .agg #[.string key, .int .i64 3, .int .i64 0, .bool false, .int .i64 0, .int .i64 n, .int .i64 mn, .int .i64 mx, .int .i64 total, .int .i64 dropped]) (by simp [results, Tryz.results142, go_sem, x0, x1, x2, x3, x4, x5, x6, x7, x8, x9, z0, z1, z2, z3, z4, z5, z6, z7, z8, z9]) rfl ⟨ret_v HE.out, below_row HB.out (by omega) _ _ _ _ _ _ _ _ _ _⟩
    have HI := fun W => Lib.hid (isValue_yes v W hv.1 hv.2)
    have hall : rowOkV r = true ∧ r.kind = 3 ∧ (0 ≤ v ∧ v ≤ 65535) := ⟨hk, k3, hv⟩
    obtain ⟨v0, v1⟩ := hv
    by_cases h3 : r.n = 3
    case pos =>
      have E := sampled_3 hall h3
      have HE := Lib.hid (congrArg R.v E)
      generalize (sampledV r v).v = out at *
      clear hk hall E
      obtain ⟨key, kind, sum, st, last, n, mn, mx, total, dropped⟩ := r
      unfold R.v at *
      simp only at *
      subst f1
      subst f2
      subst f3
      subst k3
      subst h3
      obtain ⟨d, hd⟩ : ∃ d : Int, (if dropped < 65535 then dropped + 1 else 65535) = d := ⟨_, rfl⟩
      have m1 : min (dropped + 1) 65535 = d := by rw [← hd]; split <;> omega
      have m2 : (if 65535 < dropped + 1 then 65535 else dropped + 1) = d := by rw [← hd]; split <;> split <;> omega
      rw [hd] at HE
      clear hd
      go_enter Tryz.func142, Tryz.ntmps142
      go_wp2_with fail
      refine (HO _).out.mono ?_
      rintro e w2 ⟨rfl, hb0⟩
      have hx : RowAt w2 w.heap.size ⟨key, 3, 0, false, 0, 3, mn, mx, total, dropped⟩ := ((rowAt_new w _ _ rfl).alloc _).below hb0
      have hz : RowAt w2 (w.heap.size + 1) zeroR := (rowAt_new (w.alloc _) _ zeroR (by simp [go_sem])).below hb0
      have hb : Below w.heap.size w w2 := (((Below.refl _ _).alloc (Nat.le_refl _) _).alloc (by simp [go_sem]) _).trans (hb0.mono (by simp [go_sem]; omega))
      clear hb0
      obtain ⟨x0, x1, x2, x3, x4, x5, x6, x7, x8, x9, xf⟩ := hx.get
      obtain ⟨z0, z1, z2, z3, z4, z5, z6, z7, z8, z9, zf⟩ := hz.get
      simp only [zeroR] at x0 x1 x2 x3 x4 x5 x6 x7 x8 x9 z0 z1 z2 z3 z4 z5 z6 z7 z8 z9
      have HX := Lib.hid hx
      have HZ := Lib.hid hz
      have HB := Lib.hid hb
      clear hx hz hb
      go_wp2_with fail
      refine (HI _).out.mono ?_
      rintro e w' ⟨rfl, rfl⟩
      go_upto_region 5 with fail
      refine wp_two ⟨key, 3, 0, false, 0, 3, mn, mx, total, d⟩ zeroR (HX.out.store 9 _ ⟨key, 3, 0, false, 0, 3, mn, mx, total, d⟩ rfl) (HZ.out.far _ 9 _ (by omega)) (below_set HB.out w.heap.size 9 (Nat.le_refl _) _) ?_
      clear x0 x1 x2 x3 x4 x5 x6 x7 x8 x9 xf z0 z1 z2 z3 z4 z5 z6 z7 z8 z9 zf HX HZ HB
      intro w2 hx hz hb
      obtain ⟨x0, x1, x2, x3, x4, x5, x6, x7, x8, x9, xf⟩ := hx.get
      obtain ⟨z0, z1, z2, z3, z4, z5, z6, z7, z8, z9, zf⟩ := hz.get
      simp only [zeroR] at x0 x1 x2 x3 x4 x5 x6 x7 x8 x9 z0 z1 z2 z3 z4 z5 z6 z7 z8 z9
      have HX := Lib.hid hx
      have HZ := Lib.hid hz
      have HB := Lib.hid hb
      clear hx hz hb
      go_wp2_with fail
      exact bodyPost_ret (v := .agg #[.string key, .int .i64 3, .int .i64 0, .bool false, .int .i64 0, .int .i64 3, .int .i64 mn, .int .i64 mx, .int .i64 total, .int .i64 d]) (by simp [results, Tryz.results142, go_sem, x0, x1, x2, x3, x4, x5, x6, x7, x8, x9, z0, z1, z2, z3, z4, z5, z6, z7, z8, z9]) rfl ⟨ret_v HE.out, below_row HB.out (by omega) _ _ _ _ _ _ _ _ _ _⟩
    by_cases h0 : r.n = 0
    case pos =>
      have HE := Lib.hid (congrArg R.v (sampled_0 hall h0))
      generalize (sampledV r v).v = out at *
      clear hk hall h3
      obtain ⟨key, kind, sum, st, last, n, mn, mx, total, dropped⟩ := r
      unfold R.v at *
      simp only at *
      subst f1
      subst f2
      subst f3
      subst k3
      subst h0
      have m1 : min v v = v := by omega
      have m2 : max v v = v := by omega
      go_enter Tryz.func142, Tryz.ntmps142
      go_wp2_with fail
      refine (HO _).out.mono ?_
      rintro e w2 ⟨rfl, hb0⟩
      have hx : RowAt w2 w.heap.size ⟨key, 3, 0, false, 0, 0, mn, mx, total, dropped⟩ := ((rowAt_new w _ _ rfl).alloc _).below hb0
      have hz : RowAt w2 (w.heap.size + 1) zeroR := (rowAt_new (w.alloc _) _ zeroR (by simp [go_sem])).below hb0
      have hb : Below w.heap.size w w2 := (((Below.refl _ _).alloc (Nat.le_refl _) _).alloc (by simp [go_sem]) _).trans (hb0.mono (by simp [go_sem]; omega))
      clear hb0
      obtain ⟨x0, x1, x2, x3, x4, x5, x6, x7, x8, x9, xf⟩ := hx.get
      obtain ⟨z0, z1, z2, z3, z4, z5, z6, z7, z8, z9, zf⟩ := hz.get
      simp only [zeroR] at x0 x1 x2 x3 x4 x5 x6 x7 x8 x9 z0 z1 z2 z3 z4 z5 z6 z7 z8 z9
      have HX := Lib.hid hx
      have HZ := Lib.hid hz
      have HB := Lib.hid hb
      clear hx hz hb
      go_wp2_with fail
      refine (HI _).out.mono ?_
      rintro e w' ⟨rfl, rfl⟩
      go_upto_region 8 with fail
      refine wp_two ⟨key, 3, 0, false, 0, 0, v, v, total, dropped⟩ zeroR ((HX.out.store 6 _ ⟨key, 3, 0, false, 0, 0, v, mx, total, dropped⟩ rfl).store 7 _ ⟨key, 3, 0, false, 0, 0, v, v, total, dropped⟩ rfl) ((HZ.out.far _ 6 _ (by omega)).far _ 7 _ (by omega)) (below_set (below_set HB.out w.heap.size 6 (Nat.le_refl _) _) w.heap.size 7 (Nat.le_refl _) _) ?_
      clear x0 x1 x2 x3 x4 x5 x6 x7 x8 x9 xf z0 z1 z2 z3 z4 z5 z6 z7 z8 z9 zf HX HZ HB
      intro w2 hx hz hb
      obtain ⟨x0, x1, x2, x3, x4, x5, x6, x7, x8, x9, xf⟩ := hx.get
      obtain ⟨z0, z1, z2, z3, z4, z5, z6, z7, z8, z9, zf⟩ := hz.get
      simp only [zeroR] at x0 x1 x2 x3 x4 x5 x6 x7 x8 x9 z0 z1 z2 z3 z4 z5 z6 z7 z8 z9
      have HX := Lib.hid hx
      have HZ := Lib.hid hz
      have HB := Lib.hid hb
      clear hx hz hb
      go_upto_region 9 with fail
      refine wp_two ⟨key, 3, 0, false, 0, 1, v, v, total, dropped⟩ zeroR (HX.out.store 5 _ ⟨key, 3, 0, false, 0, 1, v, v, total, dropped⟩ rfl) (HZ.out.far _ 5 _ (by omega)) (below_set HB.out w.heap.size 5 (Nat.le_refl _) _) ?_
      clear x0 x1 x2 x3 x4 x5 x6 x7 x8 x9 xf z0 z1 z2 z3 z4 z5 z6 z7 z8 z9 zf HX HZ HB
      intro w2 hx hz hb
      obtain ⟨x0, x1, x2, x3, x4, x5, x6, x7, x8, x9, xf⟩ := hx.get
      obtain ⟨z0, z1, z2, z3, z4, z5, z6, z7, z8, z9, zf⟩ := hz.get
      simp only [zeroR] at x0 x1 x2 x3 x4 x5 x6 x7 x8 x9 z0 z1 z2 z3 z4 z5 z6 z7 z8 z9
      have HX := Lib.hid hx
      have HZ := Lib.hid hz
      have HB := Lib.hid hb
      clear hx hz hb
      go_upto_region 10 with fail
      refine wp_two ⟨key, 3, 0, false, 0, 1, v, v, total, dropped⟩ zeroR ((HX.out.store 6 _ ⟨key, 3, 0, false, 0, 1, v, v, total, dropped⟩ rfl).store 7 _ ⟨key, 3, 0, false, 0, 1, v, v, total, dropped⟩ rfl) ((HZ.out.far _ 6 _ (by omega)).far _ 7 _ (by omega)) (below_set (below_set HB.out w.heap.size 6 (Nat.le_refl _) _) w.heap.size 7 (Nat.le_refl _) _) ?_
      clear x0 x1 x2 x3 x4 x5 x6 x7 x8 x9 xf z0 z1 z2 z3 z4 z5 z6 z7 z8 z9 zf HX HZ HB
      intro w2 hx hz hb
      obtain ⟨x0, x1, x2, x3, x4, x5, x6, x7, x8, x9, xf⟩ := hx.get
      obtain ⟨z0, z1, z2, z3, z4, z5, z6, z7, z8, z9, zf⟩ := hz.get
      simp only [zeroR] at x0 x1 x2 x3 x4 x5 x6 x7 x8 x9 z0 z1 z2 z3 z4 z5 z6 z7 z8 z9
      have HX := Lib.hid hx
      have HZ := Lib.hid hz
      have HB := Lib.hid hb
      clear hx hz hb
      go_upto_region 11 with fail
      refine wp_two ⟨key, 3, 0, false, 0, 1, v, v, total + v, dropped⟩ zeroR (HX.out.store 8 _ ⟨key, 3, 0, false, 0, 1, v, v, total + v, dropped⟩ rfl) (HZ.out.far _ 8 _ (by omega)) (below_set HB.out w.heap.size 8 (Nat.le_refl _) _) ?_
      clear x0 x1 x2 x3 x4 x5 x6 x7 x8 x9 xf z0 z1 z2 z3 z4 z5 z6 z7 z8 z9 zf HX HZ HB
      intro w2 hx hz hb
      obtain ⟨x0, x1, x2, x3, x4, x5, x6, x7, x8, x9, xf⟩ := hx.get
      obtain ⟨z0, z1, z2, z3, z4, z5, z6, z7, z8, z9, zf⟩ := hz.get
      simp only [zeroR] at x0 x1 x2 x3 x4 x5 x6 x7 x8 x9 z0 z1 z2 z3 z4 z5 z6 z7 z8 z9
      have HX := Lib.hid hx
      have HZ := Lib.hid hz
      have HB := Lib.hid hb
      clear hx hz hb
      go_wp2_with fail
      exact bodyPost_ret (v := .agg #[.string key, .int .i64 3, .int .i64 0, .bool false, .int .i64 0, .int .i64 1, .int .i64 v, .int .i64 v, .int .i64 (total + v), .int .i64 dropped]) (by simp [results, Tryz.results142, go_sem, x0, x1, x2, x3, x4, x5, x6, x7, x8, x9, z0, z1, z2, z3, z4, z5, z6, z7, z8, z9]) rfl ⟨ret_v HE.out, below_row HB.out (by omega) _ _ _ _ _ _ _ _ _ _⟩
    have HE := Lib.hid (congrArg R.v (sampled_n hall h3 h0))
    have t3 : (r.n == 3) = false := by rw [beq_eq_false_iff_ne]; exact h3
    have t0 : (r.n == 0) = false := by rw [beq_eq_false_iff_ne]; exact h0
    generalize (sampledV r v).v = out at *
    clear hk hall h3 h0
    obtain ⟨key, kind, sum, st, last, n, mn, mx, total, dropped⟩ := r
    unfold R.v at *
    simp only at *
    subst f1
    subst f2
    subst f3
    subst k3
    obtain ⟨p, hp⟩ : ∃ d : Int, (if mn ≤ v then mn else v) = d := ⟨_, rfl⟩
    obtain ⟨q, hq⟩ : ∃ d : Int, (if v ≤ mx then mx else v) = d := ⟨_, rfl⟩
    have m1 : min mn v = p := by rw [← hp]; split <;> omega
    have m2 : max mx v = q := by rw [← hq]; split <;> omega
    have m3 : (if v < mn then v else mn) = p := by rw [← hp]; split <;> split <;> omega
    have m4 : (if mx < v then v else mx) = q := by rw [← hq]; split <;> split <;> omega
    rw [hp, hq] at HE
    clear hp hq
    go_enter Tryz.func142, Tryz.ntmps142
    go_wp2_with fail
    refine (HO _).out.mono ?_
    rintro e w2 ⟨rfl, hb0⟩
    have hx : RowAt w2 w.heap.size ⟨key, 3, 0, false, 0, n, mn, mx, total, dropped⟩ := ((rowAt_new w _ _ rfl).alloc _).below hb0
    have hz : RowAt w2 (w.heap.size + 1) zeroR := (rowAt_new (w.alloc _) _ zeroR (by simp [go_sem])).below hb0
    have hb : Below w.heap.size w w2 := (((Below.refl _ _).alloc (Nat.le_refl _) _).alloc (by simp [go_sem]) _).trans (hb0.mono (by simp [go_sem]; omega))
    clear hb0
    obtain ⟨x0, x1, x2, x3, x4, x5, x6, x7, x8, x9, xf⟩ := hx.get
    obtain ⟨z0, z1, z2, z3, z4, z5, z6, z7, z8, z9, zf⟩ := hz.get
    simp only [zeroR] at x0 x1 x2 x3 x4 x5 x6 x7 x8 x9 z0 z1 z2 z3 z4 z5 z6 z7 z8 z9
    have HX := Lib.hid hx
    have HZ := Lib.hid hz
    have HB := Lib.hid hb
    clear hx hz hb
    go_wp2_with fail
    refine (HI _).out.mono ?_
    rintro e w' ⟨rfl, rfl⟩
    go_upto_region 9 with fail
    refine wp_two ⟨key, 3, 0, false, 0, n + 1, mn, mx, total, dropped⟩ zeroR (HX.out.store 5 _ ⟨key, 3, 0, false, 0, n + 1, mn, mx, total, dropped⟩ rfl) (HZ.out.far _ 5 _ (by omega)) (below_set HB.out w.heap.size 5 (Nat.le_refl _) _) ?_
    clear x0 x1 x2 x3 x4 x5 x6 x7 x8 x9 xf z0 z1 z2 z3 z4 z5 z6 z7 z8 z9 zf HX HZ HB
    intro w2 hx hz hb
    obtain ⟨x0, x1, x2, x3, x4, x5, x6, x7, x8, x9, xf⟩ := hx.get
    obtain ⟨z0, z1, z2, z3, z4, z5, z6, z7, z8, z9, zf⟩ := hz.get
    simp only [zeroR] at x0 x1 x2 x3 x4 x5 x6 x7 x8 x9 z0 z1 z2 z3 z4 z5 z6 z7 z8 z9
    have HX := Lib.hid hx
    have HZ := Lib.hid hz
    have HB := Lib.hid hb
    clear hx hz hb
    go_upto_region 10 with fail
    refine wp_two ⟨key, 3, 0, false, 0, n + 1, p, q, total, dropped⟩ zeroR ((HX.out.store 6 _ ⟨key, 3, 0, false, 0, n + 1, p, mx, total, dropped⟩ rfl).store 7 _ ⟨key, 3, 0, false, 0, n + 1, p, q, total, dropped⟩ rfl) ((HZ.out.far _ 6 _ (by omega)).far _ 7 _ (by omega)) (below_set (below_set HB.out w.heap.size 6 (Nat.le_refl _) _) w.heap.size 7 (Nat.le_refl _) _) ?_
    clear x0 x1 x2 x3 x4 x5 x6 x7 x8 x9 xf z0 z1 z2 z3 z4 z5 z6 z7 z8 z9 zf HX HZ HB
    intro w2 hx hz hb
    obtain ⟨x0, x1, x2, x3, x4, x5, x6, x7, x8, x9, xf⟩ := hx.get
    obtain ⟨z0, z1, z2, z3, z4, z5, z6, z7, z8, z9, zf⟩ := hz.get
    simp only [zeroR] at x0 x1 x2 x3 x4 x5 x6 x7 x8 x9 z0 z1 z2 z3 z4 z5 z6 z7 z8 z9
    have HX := Lib.hid hx
    have HZ := Lib.hid hz
    have HB := Lib.hid hb
    clear hx hz hb
    go_upto_region 11 with fail
    refine wp_two ⟨key, 3, 0, false, 0, n + 1, p, q, total + v, dropped⟩ zeroR (HX.out.store 8 _ ⟨key, 3, 0, false, 0, n + 1, p, q, total + v, dropped⟩ rfl) (HZ.out.far _ 8 _ (by omega)) (below_set HB.out w.heap.size 8 (Nat.le_refl _) _) ?_
    clear x0 x1 x2 x3 x4 x5 x6 x7 x8 x9 xf z0 z1 z2 z3 z4 z5 z6 z7 z8 z9 zf HX HZ HB
    intro w2 hx hz hb
    obtain ⟨x0, x1, x2, x3, x4, x5, x6, x7, x8, x9, xf⟩ := hx.get
    obtain ⟨z0, z1, z2, z3, z4, z5, z6, z7, z8, z9, zf⟩ := hz.get
    simp only [zeroR] at x0 x1 x2 x3 x4 x5 x6 x7 x8 x9 z0 z1 z2 z3 z4 z5 z6 z7 z8 z9
    have HX := Lib.hid hx
    have HZ := Lib.hid hz
    have HB := Lib.hid hb
    clear hx hz hb
    go_wp2_with fail
    exact bodyPost_ret (v := .agg #[.string key, .int .i64 3, .int .i64 0, .bool false, .int .i64 0, .int .i64 (n + 1), .int .i64 p, .int .i64 q, .int .i64 (total + v), .int .i64 dropped]) (by simp [results, Tryz.results142, go_sem, x0, x1, x2, x3, x4, x5, x6, x7, x8, x9, z0, z1, z2, z3, z4, z5, z6, z7, z8, z9]) rfl ⟨ret_v HE.out, below_row HB.out (by omega) _ _ _ _ _ _ _ _ _ _⟩
end Go.Proofs.YtnlepnfdgdbkoaaGreatDoor
