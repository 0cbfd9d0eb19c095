/-
  Chapter 7, the model's Sampled and Counted: each answers what the plain words say. They turn nothing that was there.
-/
import Derived.Test.YtlnkjpacjbhncaaGreatDoorRowO
import Derived.Test.YtlnkjpacjbhncaaGreatDoorZb
import Derived.Test.YtlnkjpacjbhncaaGreatDoorZa
namespace Go.Proofs.YtlnkjpacjbhncaaGreatDoor
open Go.RowKit M
set_option linter.unusedVariables false
set_option linter.unusedSimpArgs false
theorem ret_v {v u : Value} (h : u = v) : Ending.returned v = .returned u := by rw [h]
theorem sampled_no {r : R} {v : Int} (h : ¬ (rowOkV r = true ∧ r.kind = 3 ∧ (0 ≤ v ∧ v ≤ 65535))) : sampledV r v = r := if_neg h
theorem sampled_3 {r : R} {v : Int} (h : rowOkV r = true ∧ r.kind = 3 ∧ (0 ≤ v ∧ v ≤ 65535)) (hn : r.n = 3) : sampledV r v = { r with dropped := if r.dropped < 65535 then r.dropped + 1 else 65535 } := by unfold sampledV; rw [if_pos h, if_pos hn]
theorem sampled_0 {r : R} {v : Int} (h : rowOkV r = true ∧ r.kind = 3 ∧ (0 ≤ v ∧ v ≤ 65535)) (hn : r.n = 0) : sampledV r v = { r with mn := v, mx := v, total := r.total + v, n := 1 } := by unfold sampledV; rw [if_pos h, if_neg (by omega), if_pos hn]
theorem sampled_n {r : R} {v : Int} (h : rowOkV r = true ∧ r.kind = 3 ∧ (0 ≤ v ∧ v ≤ 65535)) (h3 : r.n ≠ 3) (h0 : r.n ≠ 0) : sampledV r v = { r with mn := if r.mn ≤ v then r.mn else v, mx := if v ≤ r.mx then r.mx else v, total := r.total + v, n := r.n + 1 } := by unfold sampledV; rw [if_pos h, if_neg h3, if_neg h0]
theorem counted_no {r : R} {v : Int} (h : ¬ (rowOkV r = true ∧ r.kind = 1 ∧ (0 ≤ v ∧ v ≤ 65535))) : countedV r v = r := if_neg h
theorem counted_yes {r : R} {v : Int} (h : rowOkV r = true ∧ r.kind = 1 ∧ (0 ≤ v ∧ v ≤ 65535)) : countedV r v = { r with sum := (r.sum + v) % 281474976710656 } := if_pos h
set_option maxRecDepth 100000 in
set_option maxHeartbeats 16000000 in
theorem sSampled_any (w : World) (r : R) (v : Int) (hs : r.key.size ≤ maxLen) : Calls Tryz.prog 80 #[r.v, .int .i64 v] w (Gives (sampledV r v).v w) := by
  have HO := fun W => Lib.hid (sRowOk_any W r hs)
  cases hk : rowOkV r with
  | false =>
    have HE := Lib.hid (show (sampledV r v).v = r.v by rw [sampled_no (by rw [hk]; simp)])
    generalize (sampledV r v).v = out at *
    rw [hk] at HO
    clear hk
    obtain ⟨key, kind, sum, st, last, n, mn, mx, total, dropped⟩ := r
    unfold R.v at *
    simp only at *
    go_enter Tryz.func80, Tryz.ntmps80
    go_wp2_with fail
    refine (HO _).out.mono ?_
    rintro e w2 ⟨rfl, hb0⟩
    have hx : RowAt w2 w.heap.size ⟨key, kind, sum, st, last, n, mn, mx, total, dropped⟩ := ((rowAt_new w _ _ rfl).alloc _).below hb0
    have hz : RowAt w2 (w.heap.size + 1) zeroR := (rowAt_new (w.alloc _) _ zeroR (by simp [go_sem])).below hb0
    have hb : Below w.heap.size w w2 := (((Below.refl _ _).alloc (Nat.le_refl _) _).alloc (by simp [go_sem]) _).trans (hb0.mono (by simp [go_sem]; omega))
    clear hb0
    obtain ⟨x0, x1, x2, x3, x4, x5, x6, x7, x8, x9, xf⟩ := hx.get
    obtain ⟨z0, z1, z2, z3, z4, z5, z6, z7, z8, z9, zf⟩ := hz.get
    simp only [zeroR] at x0 x1 x2 x3 x4 x5 x6 x7 x8 x9 z0 z1 z2 z3 z4 z5 z6 z7 z8 z9
    have HX := Lib.hid hx
    have HZ := Lib.hid hz
    have HB := Lib.hid hb
    clear hx hz hb
    go_wp2_with fail
    exact bodyPost_ret (v := .agg #[.string key, .int .i64 kind, .int .i64 sum, .bool st, .int .i64 last, .int .i64 n, .int .i64 mn, .int .i64 mx, .int .i64 total, .int .i64 dropped]) (by simp [results, Tryz.results80, go_sem, x0, x1, x2, x3, x4, x5, x6, x7, x8, x9, z0, z1, z2, z3, z4, z5, z6, z7, z8, z9]) rfl ⟨ret_v HE.out, below_row HB.out (by omega) _ _ _ _ _ _ _ _ _ _⟩
  | true =>
    rw [hk] at HO
    by_cases k3 : r.kind = 3
    case neg =>
      have HE := Lib.hid (show (sampledV r v).v = r.v by rw [sampled_no (fun x => k3 x.2.1)])
      have t3 : (r.kind != 3) = true := by rw [bne_iff_ne]; exact k3
      generalize (sampledV r v).v = out at *
      clear hk k3
      obtain ⟨key, kind, sum, st, last, n, mn, mx, total, dropped⟩ := r
      unfold R.v at *
      simp only at *
      go_enter Tryz.func80, Tryz.ntmps80
      go_wp2_with fail
      refine (HO _).out.mono ?_
      rintro e w2 ⟨rfl, hb0⟩
      have hx : RowAt w2 w.heap.size ⟨key, kind, sum, st, last, n, mn, mx, total, dropped⟩ := ((rowAt_new w _ _ rfl).alloc _).below hb0
      have hz : RowAt w2 (w.heap.size + 1) zeroR := (rowAt_new (w.alloc _) _ zeroR (by simp [go_sem])).below hb0
      have hb : Below w.heap.size w w2 := (((Below.refl _ _).alloc (Nat.le_refl _) _).alloc (by simp [go_sem]) _).trans (hb0.mono (by simp [go_sem]; omega))
      clear hb0
      obtain ⟨x0, x1, x2, x3, x4, x5, x6, x7, x8, x9, xf⟩ := hx.get
      obtain ⟨z0, z1, z2, z3, z4, z5, z6, z7, z8, z9, zf⟩ := hz.get
      simp only [zeroR] at x0 x1 x2 x3 x4 x5 x6 x7 x8 x9 z0 z1 z2 z3 z4 z5 z6 z7 z8 z9
      have HX := Lib.hid hx
      have HZ := Lib.hid hz
      have HB := Lib.hid hb
      clear hx hz hb
      go_wp2_with fail
      exact bodyPost_ret (v := .agg #[.string key, .int .i64 kind, .int .i64 sum, .bool st, .int .i64 last, .int .i64 n, .int .i64 mn, .int .i64 mx, .int .i64 total, .int .i64 dropped]) (by simp [results, Tryz.results80, go_sem, x0, x1, x2, x3, x4, x5, x6, x7, x8, x9, z0, z1, z2, z3, z4, z5, z6, z7, z8, z9]) rfl ⟨ret_v HE.out, below_row HB.out (by omega) _ _ _ _ _ _ _ _ _ _⟩
    obtain ⟨f1, f2, f3, ⟨f4, f5⟩, ⟨f6, f7⟩, f8, ⟨f9, f10⟩, f11, f12⟩ := timer_facts hk k3
    by_cases hv : 0 ≤ v ∧ v ≤ 65535
    case neg =>
      have HE := Lib.hid (show (sampledV r v).v = r.v by rw [sampled_no (fun x => hv x.2.2)])
      have HI := fun W => Lib.hid (l1In_no v 0 65535 W (by omega))
      generalize (sampledV r v).v = out at *
      clear hk hv
      obtain ⟨key, kind, sum, st, last, n, mn, mx, total, dropped⟩ := r
      unfold R.v at *
      simp only at *
      subst f1
      subst f2
      subst f3
      subst k3
      go_enter Tryz.func80, Tryz.ntmps80
      go_wp2_with fail
      refine (HO _).out.mono ?_
      rintro e w2 ⟨rfl, hb0⟩
      have hx : RowAt w2 w.heap.size ⟨key, 3, 0, false, 0, n, mn, mx, total, dropped⟩ := ((rowAt_new w _ _ rfl).alloc _).below hb0
      have hz : RowAt w2 (w.heap.size + 1) zeroR := (rowAt_new (w.alloc _) _ zeroR (by simp [go_sem])).below hb0
      have hb : Below w.heap.size w w2 := (((Below.refl _ _).alloc (Nat.le_refl _) _).alloc (by simp [go_sem]) _).trans (hb0.mono (by simp [go_sem]; omega))
      clear hb0
      obtain ⟨x0, x1, x2, x3, x4, x5, x6, x7, x8, x9, xf⟩ := hx.get
      obtain ⟨z0, z1, z2, z3, z4, z5, z6, z7, z8, z9, zf⟩ := hz.get
      simp only [zeroR] at x0 x1 x2 x3 x4 x5 x6 x7 x8 x9 z0 z1 z2 z3 z4 z5 z6 z7 z8 z9
      have HX := Lib.hid hx
      have HZ := Lib.hid hz
      have HB := Lib.hid hb
      clear hx hz hb
      go_wp2_with fail
      refine (HI _).out.mono ?_
      rintro e w' ⟨rfl, rfl⟩
      go_wp2_with fail
      exact bodyPost_ret (v := .agg #[.string key, .int .i64 3, .int .i64 0, .bool false, .int .i64 0, .int .i64 n, .int .i64 mn, .int .i64 mx, .int .i64 total, .int .i64 dropped]) (by simp [results, Tryz.results80, go_sem, x0, x1, x2, x3, x4, x5, x6, x7, x8, x9, z0, z1, z2, z3, z4, z5, z6, z7, z8, z9]) rfl ⟨ret_v HE.out, below_row HB.out (by omega) _ _ _ _ _ _ _ _ _ _⟩
    have HI := fun W => Lib.hid (l1In_yes v 0 65535 W hv.1 hv.2)
    have hall : rowOkV r = true ∧ r.kind = 3 ∧ (0 ≤ v ∧ v ≤ 65535) := ⟨hk, k3, hv⟩
    obtain ⟨v0, v1⟩ := hv
    by_cases h3 : r.n = 3
    case pos =>
      have E := sampled_3 hall h3
      by_cases hd : r.dropped < 65535
      case pos =>
        rw [if_pos hd] at E
        have HE := Lib.hid (congrArg R.v E)
        generalize (sampledV r v).v = out at *
        clear hk hall E
        obtain ⟨key, kind, sum, st, last, n, mn, mx, total, dropped⟩ := r
        unfold R.v at *
        simp only at *
        subst f1
        subst f2
        subst f3
        subst k3
        subst h3
        have m1 : min (dropped + 1) 65535 = dropped + 1 := by omega
        go_enter Tryz.func80, Tryz.ntmps80
        go_wp2_with fail
        refine (HO _).out.mono ?_
        rintro e w2 ⟨rfl, hb0⟩
        have hx : RowAt w2 w.heap.size ⟨key, 3, 0, false, 0, 3, mn, mx, total, dropped⟩ := ((rowAt_new w _ _ rfl).alloc _).below hb0
        have hz : RowAt w2 (w.heap.size + 1) zeroR := (rowAt_new (w.alloc _) _ zeroR (by simp [go_sem])).below hb0
        have hb : Below w.heap.size w w2 := (((Below.refl _ _).alloc (Nat.le_refl _) _).alloc (by simp [go_sem]) _).trans (hb0.mono (by simp [go_sem]; omega))
        clear hb0
        obtain ⟨x0, x1, x2, x3, x4, x5, x6, x7, x8, x9, xf⟩ := hx.get
        obtain ⟨z0, z1, z2, z3, z4, z5, z6, z7, z8, z9, zf⟩ := hz.get
        simp only [zeroR] at x0 x1 x2 x3 x4 x5 x6 x7 x8 x9 z0 z1 z2 z3 z4 z5 z6 z7 z8 z9
        have HX := Lib.hid hx
        have HZ := Lib.hid hz
        have HB := Lib.hid hb
        clear hx hz hb
        go_wp2_with fail
        refine (HI _).out.mono ?_
        rintro e w' ⟨rfl, rfl⟩
        go_upto_region 5 with fail
        refine wp_row ⟨key, 3, 0, false, 0, 3, mn, mx, total, dropped + 1⟩ HX.out HZ.out HB.out (Nat.le_refl _) (by omega) rfl ?_
        clear x0 x1 x2 x3 x4 x5 x6 x7 x8 x9 xf z0 z1 z2 z3 z4 z5 z6 z7 z8 z9 zf HX HZ HB
        intro w2 hx hz hb
        obtain ⟨x0, x1, x2, x3, x4, x5, x6, x7, x8, x9, xf⟩ := hx.get
        obtain ⟨z0, z1, z2, z3, z4, z5, z6, z7, z8, z9, zf⟩ := hz.get
        simp only [zeroR] at x0 x1 x2 x3 x4 x5 x6 x7 x8 x9 z0 z1 z2 z3 z4 z5 z6 z7 z8 z9
        have HX := Lib.hid hx
        have HZ := Lib.hid hz
        have HB := Lib.hid hb
        clear hx hz hb
        go_wp2_with fail
        exact bodyPost_ret (v := .agg #[.string key, .int .i64 3, .int .i64 0, .bool false, .int .i64 0, .int .i64 3, .int .i64 mn, .int .i64 mx, .int .i64 total, .int .i64 (dropped + 1)]) (by simp [results, Tryz.results80, go_sem, x0, x1, x2, x3, x4, x5, x6, x7, x8, x9, z0, z1, z2, z3, z4, z5, z6, z7, z8, z9]) rfl ⟨ret_v HE.out, below_row HB.out (by omega) _ _ _ _ _ _ _ _ _ _⟩
      case neg =>
        rw [if_neg hd] at E
        have HE := Lib.hid (congrArg R.v E)
        generalize (sampledV r v).v = out at *
        clear hk hall E
        obtain ⟨key, kind, sum, st, last, n, mn, mx, total, dropped⟩ := r
        unfold R.v at *
        simp only at *
        subst f1
        subst f2
        subst f3
        subst k3
        subst h3
        obtain rfl : dropped = 65535 := by omega
        go_enter Tryz.func80, Tryz.ntmps80
        go_wp2_with fail
        refine (HO _).out.mono ?_
        rintro e w2 ⟨rfl, hb0⟩
        have hx : RowAt w2 w.heap.size ⟨key, 3, 0, false, 0, 3, mn, mx, total, 65535⟩ := ((rowAt_new w _ _ rfl).alloc _).below hb0
        have hz : RowAt w2 (w.heap.size + 1) zeroR := (rowAt_new (w.alloc _) _ zeroR (by simp [go_sem])).below hb0
        have hb : Below w.heap.size w w2 := (((Below.refl _ _).alloc (Nat.le_refl _) _).alloc (by simp [go_sem]) _).trans (hb0.mono (by simp [go_sem]; omega))
        clear hb0
        obtain ⟨x0, x1, x2, x3, x4, x5, x6, x7, x8, x9, xf⟩ := hx.get
        obtain ⟨z0, z1, z2, z3, z4, z5, z6, z7, z8, z9, zf⟩ := hz.get
        simp only [zeroR] at x0 x1 x2 x3 x4 x5 x6 x7 x8 x9 z0 z1 z2 z3 z4 z5 z6 z7 z8 z9
        have HX := Lib.hid hx
        have HZ := Lib.hid hz
        have HB := Lib.hid hb
        clear hx hz hb
        go_wp2_with fail
        refine (HI _).out.mono ?_
        rintro e w' ⟨rfl, rfl⟩
        go_upto_region 5 with fail
        refine wp_row ⟨key, 3, 0, false, 0, 3, mn, mx, total, 65535⟩ HX.out HZ.out HB.out (Nat.le_refl _) (by omega) rfl ?_
        clear x0 x1 x2 x3 x4 x5 x6 x7 x8 x9 xf z0 z1 z2 z3 z4 z5 z6 z7 z8 z9 zf HX HZ HB
        intro w2 hx hz hb
        obtain ⟨x0, x1, x2, x3, x4, x5, x6, x7, x8, x9, xf⟩ := hx.get
        obtain ⟨z0, z1, z2, z3, z4, z5, z6, z7, z8, z9, zf⟩ := hz.get
        simp only [zeroR] at x0 x1 x2 x3 x4 x5 x6 x7 x8 x9 z0 z1 z2 z3 z4 z5 z6 z7 z8 z9
        have HX := Lib.hid hx
        have HZ := Lib.hid hz
        have HB := Lib.hid hb
        clear hx hz hb
        go_wp2_with fail
        exact bodyPost_ret (v := .agg #[.string key, .int .i64 3, .int .i64 0, .bool false, .int .i64 0, .int .i64 3, .int .i64 mn, .int .i64 mx, .int .i64 total, .int .i64 65535]) (by simp [results, Tryz.results80, go_sem, x0, x1, x2, x3, x4, x5, x6, x7, x8, x9, z0, z1, z2, z3, z4, z5, z6, z7, z8, z9]) rfl ⟨ret_v HE.out, below_row HB.out (by omega) _ _ _ _ _ _ _ _ _ _⟩
    by_cases h0 : r.n = 0
    case pos =>
      have HE := Lib.hid (congrArg R.v (sampled_0 hall h0))
      generalize (sampledV r v).v = out at *
      clear hk hall h3
      obtain ⟨key, kind, sum, st, last, n, mn, mx, total, dropped⟩ := r
      unfold R.v at *
      simp only at *
      subst f1
      subst f2
      subst f3
      subst k3
      subst h0
      have m1 : min v v = v := by omega
      have m2 : max v v = v := by omega
      go_enter Tryz.func80, Tryz.ntmps80
      go_wp2_with fail
      refine (HO _).out.mono ?_
      rintro e w2 ⟨rfl, hb0⟩
      have hx : RowAt w2 w.heap.size ⟨key, 3, 0, false, 0, 0, mn, mx, total, dropped⟩ := ((rowAt_new w _ _ rfl).alloc _).below hb0
      have hz : RowAt w2 (w.heap.size + 1) zeroR := (rowAt_new (w.alloc _) _ zeroR (by simp [go_sem])).below hb0
      have hb : Below w.heap.size w w2 := (((Below.refl _ _).alloc (Nat.le_refl _) _).alloc (by simp [go_sem]) _).trans (hb0.mono (by simp [go_sem]; omega))
      clear hb0
      obtain ⟨x0, x1, x2, x3, x4, x5, x6, x7, x8, x9, xf⟩ := hx.get
      obtain ⟨z0, z1, z2, z3, z4, z5, z6, z7, z8, z9, zf⟩ := hz.get
      simp only [zeroR] at x0 x1 x2 x3 x4 x5 x6 x7 x8 x9 z0 z1 z2 z3 z4 z5 z6 z7 z8 z9
      have HX := Lib.hid hx
      have HZ := Lib.hid hz
      have HB := Lib.hid hb
      clear hx hz hb
      go_wp2_with fail
      refine (HI _).out.mono ?_
      rintro e w' ⟨rfl, rfl⟩
      go_upto_region 8 with fail
      refine wp_row ⟨key, 3, 0, false, 0, 0, v, mx, total, dropped⟩ HX.out HZ.out HB.out (Nat.le_refl _) (by omega) rfl ?_
      clear x0 x1 x2 x3 x4 x5 x6 x7 x8 x9 xf z0 z1 z2 z3 z4 z5 z6 z7 z8 z9 zf HX HZ HB
      intro w2 hx hz hb
      obtain ⟨x0, x1, x2, x3, x4, x5, x6, x7, x8, x9, xf⟩ := hx.get
      obtain ⟨z0, z1, z2, z3, z4, z5, z6, z7, z8, z9, zf⟩ := hz.get
      simp only [zeroR] at x0 x1 x2 x3 x4 x5 x6 x7 x8 x9 z0 z1 z2 z3 z4 z5 z6 z7 z8 z9
      have HX := Lib.hid hx
      have HZ := Lib.hid hz
      have HB := Lib.hid hb
      clear hx hz hb
      go_upto_region 9 with fail
      refine wp_row ⟨key, 3, 0, false, 0, 0, v, v, total, dropped⟩ HX.out HZ.out HB.out (Nat.le_refl _) (by omega) rfl ?_
      clear x0 x1 x2 x3 x4 x5 x6 x7 x8 x9 xf z0 z1 z2 z3 z4 z5 z6 z7 z8 z9 zf HX HZ HB
      intro w2 hx hz hb
      obtain ⟨x0, x1, x2, x3, x4, x5, x6, x7, x8, x9, xf⟩ := hx.get
      obtain ⟨z0, z1, z2, z3, z4, z5, z6, z7, z8, z9, zf⟩ := hz.get
      simp only [zeroR] at x0 x1 x2 x3 x4 x5 x6 x7 x8 x9 z0 z1 z2 z3 z4 z5 z6 z7 z8 z9
      have HX := Lib.hid hx
      have HZ := Lib.hid hz
      have HB := Lib.hid hb
      clear hx hz hb
      go_upto_region 10 with fail
      refine wp_row ⟨key, 3, 0, false, 0, 0, v, v, total, dropped⟩ HX.out HZ.out HB.out (Nat.le_refl _) (by omega) rfl ?_
      clear x0 x1 x2 x3 x4 x5 x6 x7 x8 x9 xf z0 z1 z2 z3 z4 z5 z6 z7 z8 z9 zf HX HZ HB
      intro w2 hx hz hb
      obtain ⟨x0, x1, x2, x3, x4, x5, x6, x7, x8, x9, xf⟩ := hx.get
      obtain ⟨z0, z1, z2, z3, z4, z5, z6, z7, z8, z9, zf⟩ := hz.get
      simp only [zeroR] at x0 x1 x2 x3 x4 x5 x6 x7 x8 x9 z0 z1 z2 z3 z4 z5 z6 z7 z8 z9
      have HX := Lib.hid hx
      have HZ := Lib.hid hz
      have HB := Lib.hid hb
      clear hx hz hb
      go_upto_region 11 with fail
      refine wp_row ⟨key, 3, 0, false, 0, 0, v, v, total, dropped⟩ HX.out HZ.out HB.out (Nat.le_refl _) (by omega) rfl ?_
      clear x0 x1 x2 x3 x4 x5 x6 x7 x8 x9 xf z0 z1 z2 z3 z4 z5 z6 z7 z8 z9 zf HX HZ HB
      intro w2 hx hz hb
      obtain ⟨x0, x1, x2, x3, x4, x5, x6, x7, x8, x9, xf⟩ := hx.get
      obtain ⟨z0, z1, z2, z3, z4, z5, z6, z7, z8, z9, zf⟩ := hz.get
      simp only [zeroR] at x0 x1 x2 x3 x4 x5 x6 x7 x8 x9 z0 z1 z2 z3 z4 z5 z6 z7 z8 z9
      have HX := Lib.hid hx
      have HZ := Lib.hid hz
      have HB := Lib.hid hb
      clear hx hz hb
      go_upto_region 12 with fail
      refine wp_row ⟨key, 3, 0, false, 0, 0, v, v, total + v, dropped⟩ HX.out HZ.out HB.out (Nat.le_refl _) (by omega) rfl ?_
      clear x0 x1 x2 x3 x4 x5 x6 x7 x8 x9 xf z0 z1 z2 z3 z4 z5 z6 z7 z8 z9 zf HX HZ HB
      intro w2 hx hz hb
      obtain ⟨x0, x1, x2, x3, x4, x5, x6, x7, x8, x9, xf⟩ := hx.get
      obtain ⟨z0, z1, z2, z3, z4, z5, z6, z7, z8, z9, zf⟩ := hz.get
      simp only [zeroR] at x0 x1 x2 x3 x4 x5 x6 x7 x8 x9 z0 z1 z2 z3 z4 z5 z6 z7 z8 z9
      have HX := Lib.hid hx
      have HZ := Lib.hid hz
      have HB := Lib.hid hb
      clear hx hz hb
      go_upto_region 13 with fail
      refine wp_row ⟨key, 3, 0, false, 0, 1, v, v, total + v, dropped⟩ HX.out HZ.out HB.out (Nat.le_refl _) (by omega) rfl ?_
      clear x0 x1 x2 x3 x4 x5 x6 x7 x8 x9 xf z0 z1 z2 z3 z4 z5 z6 z7 z8 z9 zf HX HZ HB
      intro w2 hx hz hb
      obtain ⟨x0, x1, x2, x3, x4, x5, x6, x7, x8, x9, xf⟩ := hx.get
      obtain ⟨z0, z1, z2, z3, z4, z5, z6, z7, z8, z9, zf⟩ := hz.get
      simp only [zeroR] at x0 x1 x2 x3 x4 x5 x6 x7 x8 x9 z0 z1 z2 z3 z4 z5 z6 z7 z8 z9
      have HX := Lib.hid hx
      have HZ := Lib.hid hz
      have HB := Lib.hid hb
      clear hx hz hb
      go_wp2_with fail
      exact bodyPost_ret (v := .agg #[.string key, .int .i64 3, .int .i64 0, .bool false, .int .i64 0, .int .i64 1, .int .i64 v, .int .i64 v, .int .i64 (total + v), .int .i64 dropped]) (by simp [results, Tryz.results80, go_sem, x0, x1, x2, x3, x4, x5, x6, x7, x8, x9, z0, z1, z2, z3, z4, z5, z6, z7, z8, z9]) rfl ⟨ret_v HE.out, below_row HB.out (by omega) _ _ _ _ _ _ _ _ _ _⟩
    have E := sampled_n hall h3 h0
    have t3 : (r.n == 3) = false := by rw [beq_eq_false_iff_ne]; exact h3
    have t0 : (r.n == 0) = false := by rw [beq_eq_false_iff_ne]; exact h0
    by_cases hmn : r.mn ≤ v
    case pos =>
      rw [if_pos hmn] at E
      by_cases hmx : v ≤ r.mx
      case pos =>
        rw [if_pos hmx] at E
        have HE := Lib.hid (congrArg R.v E)
        generalize (sampledV r v).v = out at *
        clear hk hall h3 h0 E
        obtain ⟨key, kind, sum, st, last, n, mn, mx, total, dropped⟩ := r
        unfold R.v at *
        simp only at *
        subst f1
        subst f2
        subst f3
        subst k3
        have m1 : min mn v = mn := by omega
        have m2 : max mx v = mx := by omega
        go_enter Tryz.func80, Tryz.ntmps80
        go_wp2_with fail
        refine (HO _).out.mono ?_
        rintro e w2 ⟨rfl, hb0⟩
        have hx : RowAt w2 w.heap.size ⟨key, 3, 0, false, 0, n, mn, mx, total, dropped⟩ := ((rowAt_new w _ _ rfl).alloc _).below hb0
        have hz : RowAt w2 (w.heap.size + 1) zeroR := (rowAt_new (w.alloc _) _ zeroR (by simp [go_sem])).below hb0
        have hb : Below w.heap.size w w2 := (((Below.refl _ _).alloc (Nat.le_refl _) _).alloc (by simp [go_sem]) _).trans (hb0.mono (by simp [go_sem]; omega))
        clear hb0
        obtain ⟨x0, x1, x2, x3, x4, x5, x6, x7, x8, x9, xf⟩ := hx.get
        obtain ⟨z0, z1, z2, z3, z4, z5, z6, z7, z8, z9, zf⟩ := hz.get
        simp only [zeroR] at x0 x1 x2 x3 x4 x5 x6 x7 x8 x9 z0 z1 z2 z3 z4 z5 z6 z7 z8 z9
        have HX := Lib.hid hx
        have HZ := Lib.hid hz
        have HB := Lib.hid hb
        clear hx hz hb
        go_wp2_with fail
        refine (HI _).out.mono ?_
        rintro e w' ⟨rfl, rfl⟩
        go_upto_region 10 with fail
        refine wp_row ⟨key, 3, 0, false, 0, n, mn, mx, total, dropped⟩ HX.out HZ.out HB.out (Nat.le_refl _) (by omega) rfl ?_
        clear x0 x1 x2 x3 x4 x5 x6 x7 x8 x9 xf z0 z1 z2 z3 z4 z5 z6 z7 z8 z9 zf HX HZ HB
        intro w2 hx hz hb
        obtain ⟨x0, x1, x2, x3, x4, x5, x6, x7, x8, x9, xf⟩ := hx.get
        obtain ⟨z0, z1, z2, z3, z4, z5, z6, z7, z8, z9, zf⟩ := hz.get
        simp only [zeroR] at x0 x1 x2 x3 x4 x5 x6 x7 x8 x9 z0 z1 z2 z3 z4 z5 z6 z7 z8 z9
        have HX := Lib.hid hx
        have HZ := Lib.hid hz
        have HB := Lib.hid hb
        clear hx hz hb
        go_upto_region 11 with fail
        refine wp_row ⟨key, 3, 0, false, 0, n, mn, mx, total, dropped⟩ HX.out HZ.out HB.out (Nat.le_refl _) (by omega) rfl ?_
        clear x0 x1 x2 x3 x4 x5 x6 x7 x8 x9 xf z0 z1 z2 z3 z4 z5 z6 z7 z8 z9 zf HX HZ HB
        intro w2 hx hz hb
        obtain ⟨x0, x1, x2, x3, x4, x5, x6, x7, x8, x9, xf⟩ := hx.get
        obtain ⟨z0, z1, z2, z3, z4, z5, z6, z7, z8, z9, zf⟩ := hz.get
        simp only [zeroR] at x0 x1 x2 x3 x4 x5 x6 x7 x8 x9 z0 z1 z2 z3 z4 z5 z6 z7 z8 z9
        have HX := Lib.hid hx
        have HZ := Lib.hid hz
        have HB := Lib.hid hb
        clear hx hz hb
        go_upto_region 12 with fail
        refine wp_row ⟨key, 3, 0, false, 0, n, mn, mx, total + v, dropped⟩ HX.out HZ.out HB.out (Nat.le_refl _) (by omega) rfl ?_
        clear x0 x1 x2 x3 x4 x5 x6 x7 x8 x9 xf z0 z1 z2 z3 z4 z5 z6 z7 z8 z9 zf HX HZ HB
        intro w2 hx hz hb
        obtain ⟨x0, x1, x2, x3, x4, x5, x6, x7, x8, x9, xf⟩ := hx.get
        obtain ⟨z0, z1, z2, z3, z4, z5, z6, z7, z8, z9, zf⟩ := hz.get
        simp only [zeroR] at x0 x1 x2 x3 x4 x5 x6 x7 x8 x9 z0 z1 z2 z3 z4 z5 z6 z7 z8 z9
        have HX := Lib.hid hx
        have HZ := Lib.hid hz
        have HB := Lib.hid hb
        clear hx hz hb
        go_upto_region 13 with fail
        refine wp_row ⟨key, 3, 0, false, 0, n + 1, mn, mx, total + v, dropped⟩ HX.out HZ.out HB.out (Nat.le_refl _) (by omega) rfl ?_
        clear x0 x1 x2 x3 x4 x5 x6 x7 x8 x9 xf z0 z1 z2 z3 z4 z5 z6 z7 z8 z9 zf HX HZ HB
        intro w2 hx hz hb
        obtain ⟨x0, x1, x2, x3, x4, x5, x6, x7, x8, x9, xf⟩ := hx.get
        obtain ⟨z0, z1, z2, z3, z4, z5, z6, z7, z8, z9, zf⟩ := hz.get
        simp only [zeroR] at x0 x1 x2 x3 x4 x5 x6 x7 x8 x9 z0 z1 z2 z3 z4 z5 z6 z7 z8 z9
        have HX := Lib.hid hx
        have HZ := Lib.hid hz
        have HB := Lib.hid hb
        clear hx hz hb
        go_wp2_with fail
        exact bodyPost_ret (v := .agg #[.string key, .int .i64 3, .int .i64 0, .bool false, .int .i64 0, .int .i64 (n + 1), .int .i64 mn, .int .i64 mx, .int .i64 (total + v), .int .i64 dropped]) (by simp [results, Tryz.results80, go_sem, x0, x1, x2, x3, x4, x5, x6, x7, x8, x9, z0, z1, z2, z3, z4, z5, z6, z7, z8, z9]) rfl ⟨ret_v HE.out, below_row HB.out (by omega) _ _ _ _ _ _ _ _ _ _⟩
      case neg =>
        rw [if_neg hmx] at E
        have HE := Lib.hid (congrArg R.v E)
        generalize (sampledV r v).v = out at *
        clear hk hall h3 h0 E
        obtain ⟨key, kind, sum, st, last, n, mn, mx, total, dropped⟩ := r
        unfold R.v at *
        simp only at *
        subst f1
        subst f2
        subst f3
        subst k3
        have m1 : min mn v = mn := by omega
        have m2 : max mx v = v := by omega
        go_enter Tryz.func80, Tryz.ntmps80
        go_wp2_with fail
        refine (HO _).out.mono ?_
        rintro e w2 ⟨rfl, hb0⟩
        have hx : RowAt w2 w.heap.size ⟨key, 3, 0, false, 0, n, mn, mx, total, dropped⟩ := ((rowAt_new w _ _ rfl).alloc _).below hb0
        have hz : RowAt w2 (w.heap.size + 1) zeroR := (rowAt_new (w.alloc _) _ zeroR (by simp [go_sem])).below hb0
        have hb : Below w.heap.size w w2 := (((Below.refl _ _).alloc (Nat.le_refl _) _).alloc (by simp [go_sem]) _).trans (hb0.mono (by simp [go_sem]; omega))
        clear hb0
        obtain ⟨x0, x1, x2, x3, x4, x5, x6, x7, x8, x9, xf⟩ := hx.get
        obtain ⟨z0, z1, z2, z3, z4, z5, z6, z7, z8, z9, zf⟩ := hz.get
        simp only [zeroR] at x0 x1 x2 x3 x4 x5 x6 x7 x8 x9 z0 z1 z2 z3 z4 z5 z6 z7 z8 z9
        have HX := Lib.hid hx
        have HZ := Lib.hid hz
        have HB := Lib.hid hb
        clear hx hz hb
        go_wp2_with fail
        refine (HI _).out.mono ?_
        rintro e w' ⟨rfl, rfl⟩
        go_upto_region 10 with fail
        refine wp_row ⟨key, 3, 0, false, 0, n, mn, mx, total, dropped⟩ HX.out HZ.out HB.out (Nat.le_refl _) (by omega) rfl ?_
        clear x0 x1 x2 x3 x4 x5 x6 x7 x8 x9 xf z0 z1 z2 z3 z4 z5 z6 z7 z8 z9 zf HX HZ HB
        intro w2 hx hz hb
        obtain ⟨x0, x1, x2, x3, x4, x5, x6, x7, x8, x9, xf⟩ := hx.get
        obtain ⟨z0, z1, z2, z3, z4, z5, z6, z7, z8, z9, zf⟩ := hz.get
        simp only [zeroR] at x0 x1 x2 x3 x4 x5 x6 x7 x8 x9 z0 z1 z2 z3 z4 z5 z6 z7 z8 z9
        have HX := Lib.hid hx
        have HZ := Lib.hid hz
        have HB := Lib.hid hb
        clear hx hz hb
        go_upto_region 11 with fail
        refine wp_row ⟨key, 3, 0, false, 0, n, mn, v, total, dropped⟩ HX.out HZ.out HB.out (Nat.le_refl _) (by omega) rfl ?_
        clear x0 x1 x2 x3 x4 x5 x6 x7 x8 x9 xf z0 z1 z2 z3 z4 z5 z6 z7 z8 z9 zf HX HZ HB
        intro w2 hx hz hb
        obtain ⟨x0, x1, x2, x3, x4, x5, x6, x7, x8, x9, xf⟩ := hx.get
        obtain ⟨z0, z1, z2, z3, z4, z5, z6, z7, z8, z9, zf⟩ := hz.get
        simp only [zeroR] at x0 x1 x2 x3 x4 x5 x6 x7 x8 x9 z0 z1 z2 z3 z4 z5 z6 z7 z8 z9
        have HX := Lib.hid hx
        have HZ := Lib.hid hz
        have HB := Lib.hid hb
        clear hx hz hb
        go_upto_region 12 with fail
        refine wp_row ⟨key, 3, 0, false, 0, n, mn, v, total + v, dropped⟩ HX.out HZ.out HB.out (Nat.le_refl _) (by omega) rfl ?_
        clear x0 x1 x2 x3 x4 x5 x6 x7 x8 x9 xf z0 z1 z2 z3 z4 z5 z6 z7 z8 z9 zf HX HZ HB
        intro w2 hx hz hb
        obtain ⟨x0, x1, x2, x3, x4, x5, x6, x7, x8, x9, xf⟩ := hx.get
        obtain ⟨z0, z1, z2, z3, z4, z5, z6, z7, z8, z9, zf⟩ := hz.get
        simp only [zeroR] at x0 x1 x2 x3 x4 x5 x6 x7 x8 x9 z0 z1 z2 z3 z4 z5 z6 z7 z8 z9
        have HX := Lib.hid hx
        have HZ := Lib.hid hz
        have HB := Lib.hid hb
        clear hx hz hb
        go_upto_region 13 with fail
        refine wp_row ⟨key, 3, 0, false, 0, n + 1, mn, v, total + v, dropped⟩ HX.out HZ.out HB.out (Nat.le_refl _) (by omega) rfl ?_
        clear x0 x1 x2 x3 x4 x5 x6 x7 x8 x9 xf z0 z1 z2 z3 z4 z5 z6 z7 z8 z9 zf HX HZ HB
        intro w2 hx hz hb
        obtain ⟨x0, x1, x2, x3, x4, x5, x6, x7, x8, x9, xf⟩ := hx.get
        obtain ⟨z0, z1, z2, z3, z4, z5, z6, z7, z8, z9, zf⟩ := hz.get
        simp only [zeroR] at x0 x1 x2 x3 x4 x5 x6 x7 x8 x9 z0 z1 z2 z3 z4 z5 z6 z7 z8 z9
        have HX := Lib.hid hx
        have HZ := Lib.hid hz
        have HB := Lib.hid hb
        clear hx hz hb
        go_wp2_with fail
        exact bodyPost_ret (v := .agg #[.string key, .int .i64 3, .int .i64 0, .bool false, .int .i64 0, .int .i64 (n + 1), .int .i64 mn, .int .i64 v, .int .i64 (total + v), .int .i64 dropped]) (by simp [results, Tryz.results80, go_sem, x0, x1, x2, x3, x4, x5, x6, x7, x8, x9, z0, z1, z2, z3, z4, z5, z6, z7, z8, z9]) rfl ⟨ret_v HE.out, below_row HB.out (by omega) _ _ _ _ _ _ _ _ _ _⟩
    case neg =>
      rw [if_neg hmn] at E
      by_cases hmx : v ≤ r.mx
      case pos =>
        rw [if_pos hmx] at E
        have HE := Lib.hid (congrArg R.v E)
        generalize (sampledV r v).v = out at *
        clear hk hall h3 h0 E
        obtain ⟨key, kind, sum, st, last, n, mn, mx, total, dropped⟩ := r
        unfold R.v at *
        simp only at *
        subst f1
        subst f2
        subst f3
        subst k3
        have m1 : min mn v = v := by omega
        have m2 : max mx v = mx := by omega
        go_enter Tryz.func80, Tryz.ntmps80
        go_wp2_with fail
        refine (HO _).out.mono ?_
        rintro e w2 ⟨rfl, hb0⟩
        have hx : RowAt w2 w.heap.size ⟨key, 3, 0, false, 0, n, mn, mx, total, dropped⟩ := ((rowAt_new w _ _ rfl).alloc _).below hb0
        have hz : RowAt w2 (w.heap.size + 1) zeroR := (rowAt_new (w.alloc _) _ zeroR (by simp [go_sem])).below hb0
        have hb : Below w.heap.size w w2 := (((Below.refl _ _).alloc (Nat.le_refl _) _).alloc (by simp [go_sem]) _).trans (hb0.mono (by simp [go_sem]; omega))
        clear hb0
        obtain ⟨x0, x1, x2, x3, x4, x5, x6, x7, x8, x9, xf⟩ := hx.get
        obtain ⟨z0, z1, z2, z3, z4, z5, z6, z7, z8, z9, zf⟩ := hz.get
        simp only [zeroR] at x0 x1 x2 x3 x4 x5 x6 x7 x8 x9 z0 z1 z2 z3 z4 z5 z6 z7 z8 z9
        have HX := Lib.hid hx
        have HZ := Lib.hid hz
        have HB := Lib.hid hb
        clear hx hz hb
        go_wp2_with fail
        refine (HI _).out.mono ?_
        rintro e w' ⟨rfl, rfl⟩
        go_upto_region 10 with fail
        refine wp_row ⟨key, 3, 0, false, 0, n, v, mx, total, dropped⟩ HX.out HZ.out HB.out (Nat.le_refl _) (by omega) rfl ?_
        clear x0 x1 x2 x3 x4 x5 x6 x7 x8 x9 xf z0 z1 z2 z3 z4 z5 z6 z7 z8 z9 zf HX HZ HB
        intro w2 hx hz hb
        obtain ⟨x0, x1, x2, x3, x4, x5, x6, x7, x8, x9, xf⟩ := hx.get
        obtain ⟨z0, z1, z2, z3, z4, z5, z6, z7, z8, z9, zf⟩ := hz.get
        simp only [zeroR] at x0 x1 x2 x3 x4 x5 x6 x7 x8 x9 z0 z1 z2 z3 z4 z5 z6 z7 z8 z9
        have HX := Lib.hid hx
        have HZ := Lib.hid hz
        have HB := Lib.hid hb
        clear hx hz hb
        go_upto_region 11 with fail
        refine wp_row ⟨key, 3, 0, false, 0, n, v, mx, total, dropped⟩ HX.out HZ.out HB.out (Nat.le_refl _) (by omega) rfl ?_
        clear x0 x1 x2 x3 x4 x5 x6 x7 x8 x9 xf z0 z1 z2 z3 z4 z5 z6 z7 z8 z9 zf HX HZ HB
        intro w2 hx hz hb
        obtain ⟨x0, x1, x2, x3, x4, x5, x6, x7, x8, x9, xf⟩ := hx.get
        obtain ⟨z0, z1, z2, z3, z4, z5, z6, z7, z8, z9, zf⟩ := hz.get
        simp only [zeroR] at x0 x1 x2 x3 x4 x5 x6 x7 x8 x9 z0 z1 z2 z3 z4 z5 z6 z7 z8 z9
        have HX := Lib.hid hx
        have HZ := Lib.hid hz
        have HB := Lib.hid hb
        clear hx hz hb
        go_upto_region 12 with fail
        refine wp_row ⟨key, 3, 0, false, 0, n, v, mx, total + v, dropped⟩ HX.out HZ.out HB.out (Nat.le_refl _) (by omega) rfl ?_
        clear x0 x1 x2 x3 x4 x5 x6 x7 x8 x9 xf z0 z1 z2 z3 z4 z5 z6 z7 z8 z9 zf HX HZ HB
        intro w2 hx hz hb
        obtain ⟨x0, x1, x2, x3, x4, x5, x6, x7, x8, x9, xf⟩ := hx.get
        obtain ⟨z0, z1, z2, z3, z4, z5, z6, z7, z8, z9, zf⟩ := hz.get
        simp only [zeroR] at x0 x1 x2 x3 x4 x5 x6 x7 x8 x9 z0 z1 z2 z3 z4 z5 z6 z7 z8 z9
        have HX := Lib.hid hx
        have HZ := Lib.hid hz
        have HB := Lib.hid hb
        clear hx hz hb
        go_upto_region 13 with fail
        refine wp_row ⟨key, 3, 0, false, 0, n + 1, v, mx, total + v, dropped⟩ HX.out HZ.out HB.out (Nat.le_refl _) (by omega) rfl ?_
        clear x0 x1 x2 x3 x4 x5 x6 x7 x8 x9 xf z0 z1 z2 z3 z4 z5 z6 z7 z8 z9 zf HX HZ HB
        intro w2 hx hz hb
        obtain ⟨x0, x1, x2, x3, x4, x5, x6, x7, x8, x9, xf⟩ := hx.get
        obtain ⟨z0, z1, z2, z3, z4, z5, z6, z7, z8, z9, zf⟩ := hz.get
        simp only [zeroR] at x0 x1 x2 x3 x4 x5 x6 x7 x8 x9 z0 z1 z2 z3 z4 z5 z6 z7 z8 z9
        have HX := Lib.hid hx
        have HZ := Lib.hid hz
        have HB := Lib.hid hb
        clear hx hz hb
        go_wp2_with fail
        exact bodyPost_ret (v := .agg #[.string key, .int .i64 3, .int .i64 0, .bool false, .int .i64 0, .int .i64 (n + 1), .int .i64 v, .int .i64 mx, .int .i64 (total + v), .int .i64 dropped]) (by simp [results, Tryz.results80, go_sem, x0, x1, x2, x3, x4, x5, x6, x7, x8, x9, z0, z1, z2, z3, z4, z5, z6, z7, z8, z9]) rfl ⟨ret_v HE.out, below_row HB.out (by omega) _ _ _ _ _ _ _ _ _ _⟩
      case neg =>
        exfalso
        omega
end Go.Proofs.YtlnkjpacjbhncaaGreatDoor
