/-
  Texts of this seat, laid together.
-/
import Derived.Test.YtnlepnfdgdbkoaaGreatDoorYMd
import Derived.Test.YtnlepnfdgdbkoaaGreatDoorYZa
import Derived.Test.YtnlepnfdgdbkoaaGreatDoorYZb
import Derived.BigRegion
section
namespace Go.Proofs.YtnlepnfdgdbkoaaGreatDoor
open Go.RowKit M
set_option linter.unusedVariables false
set_option linter.unusedSimpArgs false
theorem ret_v {v u : Value} (h : u = v) : Ending.returned v = .returned u := by rw [h]
theorem sampled_no {r : R} {v : Int} (h : ¬ (rowOkV r = true ∧ r.kind = 3 ∧ (0 ≤ v ∧ v ≤ 65535))) : sampledV r v = r := if_neg h
theorem sampled_3 {r : R} {v : Int} (h : rowOkV r = true ∧ r.kind = 3 ∧ (0 ≤ v ∧ v ≤ 65535)) (hn : r.n = 3) : sampledV r v = { r with dropped := if r.dropped < 65535 then r.dropped + 1 else 65535 } := by unfold sampledV; rw [if_pos h, if_pos hn]
theorem sampled_0 {r : R} {v : Int} (h : rowOkV r = true ∧ r.kind = 3 ∧ (0 ≤ v ∧ v ≤ 65535)) (hn : r.n = 0) : sampledV r v = { r with mn := v, mx := v, total := r.total + v, n := 1 } := by unfold sampledV; rw [if_pos h, if_neg (by omega), if_pos hn]
theorem sampled_n {r : R} {v : Int} (h : rowOkV r = true ∧ r.kind = 3 ∧ (0 ≤ v ∧ v ≤ 65535)) (h3 : r.n ≠ 3) (h0 : r.n ≠ 0) : sampledV r v = { r with mn := if r.mn ≤ v then r.mn else v, mx := if v ≤ r.mx then r.mx else v, total := r.total + v, n := r.n + 1 } := by unfold sampledV; rw [if_pos h, if_neg h3, if_neg h0]
end Go.Proofs.YtnlepnfdgdbkoaaGreatDoor
end
section
namespace Go.Proofs.YtnlepnfdgdbkoaaGreatDoor
open Go.RowKit M
set_option linter.unusedVariables false
set_option linter.unusedSimpArgs false
theorem rowFrom_none {tag : Int} {raw : List Int} (h : untagV tag = none) : rowFromV tag raw = zeroR := by unfold rowFromV; rw [h]
theorem rowFrom_len {tag : Int} {raw : List Int} {x : ByteArray × Int} (h : untagV tag = some x) (hl : raw.length ≠ 8) : rowFromV tag raw = zeroR := by unfold rowFromV; rw [h]; exact if_neg hl
theorem rowFrom_some {tag : Int} {raw : List Int} {k : ByteArray} {kd : Int} (h : untagV tag = some (k, kd)) (hl : raw.length = 8) : rowFromV tag raw = kindRow k kd raw := by unfold rowFromV; rw [h]; exact if_pos hl
theorem sumT_bd (raw : List Int) (k : Nat) : 0 ≤ sumT raw k ∧ sumT raw k ≤ 281474976710655 := by
  cases k with
  | zero => show (0 : Int) ≤ 0 ∧ (0 : Int) ≤ 281474976710655; omega
  | succ k => unfold sumT modW; omega
def DrHeld (w0 : World) (g o b : Nat) (r : R) (w : World) : Prop := RowAt w g r ∧ RowAt w o zeroR ∧ Below w0.heap.size w0 w ∧ b < w0.heap.size
theorem RowAt.frz {w : World} {g : Nat} {r : R} (h : RowAt w g r) : ∀ k, w.frozen? ⟨g, k, none⟩ = false := h.get.2.2.2.2.2.2.2.2.2.2
theorem ringV_next {r : R} {raw : List Int} {k : Nat} (h : (k : Int) < raw.getD 4 0) : ringV r raw (k + 1) = sampledV (ringV r raw k) (raw.getD (5 + k) 0 - 1) := if_pos h
theorem ringV_stop {r : R} {raw : List Int} {k : Nat} (h : raw.getD 4 0 ≤ (k : Int)) (m : Nat) : ringV r raw (k + m) = ringV r raw k := by
  induction m with
  | zero => rfl
  | succ m ih =>
    show (if ((k + m : Nat) : Int) < raw.getD 4 0 then sampledV (ringV r raw (k + m)) (raw.getD (5 + (k + m)) 0 - 1) else ringV r raw (k + m)) = _
    rw [if_neg (by omega)]; exact ih
theorem sampled_wrap (r : R) (z : Int) (h0 : -9223372036854775808 ≤ z) (h1 : z ≤ 9223372036854775807) : sampledV r (IntKind.i64.wrap (z - 1)) = sampledV r (z - 1) := by
  by_cases h : z = -9223372036854775808
  · subst h
    have e : IntKind.i64.wrap (-9223372036854775808 - 1) = 9223372036854775807 := by decide
    rw [e, sampled_no (fun x => by have := x.2.2; omega), sampled_no (fun x => by have := x.2.2; omega)]
  · rw [show IntKind.i64.wrap (z - 1) = z - 1 by rw [IntKind.wrap_i64]; omega]
theorem drR_next {w0 w1 w2 : World} {g o b j : Nat} {r : R} {y : Value} (hb : Below w1.heap.size w1 w2) (h : w1.cell? ⟨b, j, none⟩ = some y ∧ DrHeld w0 g o b r w1) : w2.cell? ⟨b, j, none⟩ = some y ∧ DrHeld w0 g o b r w2 := by
  obtain ⟨h2, h3, h4, h5, h6⟩ := h
  exact ⟨(hb.cell (p := ⟨b, j, none⟩) (Nat.lt_of_lt_of_le h6 h5.size)).trans h2, h3.below hb, h4.below hb, h5.trans (hb.mono h5.size), h6⟩
end Go.Proofs.YtnlepnfdgdbkoaaGreatDoor
end
section
namespace Go.Proofs.YtnlepnfdgdbkoaaGreatDoor
open Go.RowKit M
set_option linter.unusedVariables false
set_option linter.unusedSimpArgs false
theorem ret_w {v u : Value} (h : u = v) : Ending.returned v = .returned u := by rw [h]
def ownV (r : R) : R :=
  if r.kind = 1 then ⟨r.key, r.kind, r.sum, false, 0, 0, 0, 0, 0, 0⟩ else if r.kind = 2 then ⟨r.key, r.kind, 0, r.set, r.last, 0, 0, 0, 0, 0⟩
  else if r.kind = 3 then ⟨r.key, r.kind, 0, false, 0, r.n, r.mn, r.mx, r.total, r.dropped⟩ else ⟨r.key, r.kind, 0, false, 0, 0, 0, 0, 0, 0⟩
theorem own_1 {r : R} (h : r.kind = 1) : ownV r = ⟨r.key, r.kind, r.sum, false, 0, 0, 0, 0, 0, 0⟩ := if_pos h
theorem own_2 {r : R} (h : r.kind = 2) : ownV r = ⟨r.key, r.kind, 0, r.set, r.last, 0, 0, 0, 0, 0⟩ := by unfold ownV; rw [if_neg (by omega), if_pos h]
theorem own_3 {r : R} (h : r.kind = 3) : ownV r = ⟨r.key, r.kind, 0, false, 0, r.n, r.mn, r.mx, r.total, r.dropped⟩ := by unfold ownV; rw [if_neg (by omega), if_neg (by omega), if_pos h]
theorem own_0 {r : R} (h1 : r.kind ≠ 1) (h2 : r.kind ≠ 2) (h3 : r.kind ≠ 3) : ownV r = ⟨r.key, r.kind, 0, false, 0, 0, 0, 0, 0, 0⟩ := by unfold ownV; rw [if_neg h1, if_neg h2, if_neg h3]
theorem below_set {B : Nat} {w0 w : World} (h : Below B w0 w) (g i : Nat) (hg : B ≤ g) (v : Value) : Below B w0 (w.setCell ⟨g, i, none⟩ v) := h.setCell hg v
theorem wp_two {C : Go.Code} {Q : Exit → Act → World → Prop} {a : Act} {w0 W : World} {B g o : Nat} (x z : R) (hx : RowAt W g x) (hz : RowAt W o z) (hb : Below B w0 W)
    (k : ∀ u : World, RowAt u g x → RowAt u o z → Below B w0 u → Code.wp Tryz.prog C Q a u) : Code.wp Tryz.prog C Q a W := k W hx hz hb
theorem wp_two_drew {C : Go.Code} {Q : Exit → Act → World → Prop} {a : Act} {w0 W : World} {B g o : Nat} (x z : R) (hx : RowAt W g x) (hz : RowAt W o z) (hb : Below B w0 W)
    (k : ∀ u : World, RowAt u g x → RowAt u o z → Below B w0 u → Code.wp Tryz.prog C Q a u) : Code.wp Tryz.prog C Q a W.drew := k W.drew (hx.below (below_drew _ _)) (hz.below (below_drew _ _)) (hb.trans (below_drew _ _))
theorem wp_three {C : Go.Code} {Q : Exit → Act → World → Prop} {a : Act} {w : World} (r z x : R)
    (k : ∀ u : World, RowAt u w.heap.size r → RowAt u (w.heap.size + 1) z → RowAt u (w.heap.size + 1 + 1) x → w.heap.size + 1 + 1 < u.heap.size → Below w.heap.size w u → Code.wp Tryz.prog C Q a u) :
    Code.wp Tryz.prog C Q a (((w.alloc (.cells (rowCells r) 55)).alloc (.cells (rowCells z) 55)).alloc (.cells (rowCells x) 55)) :=
  k _ (((rowAt_new w _ r rfl).alloc _).alloc _) ((rowAt_new (w.alloc _) _ z (by simp [go_sem])).alloc _) (rowAt_new ((w.alloc _).alloc _) _ x (by simp [go_sem])) (by simp [go_sem]) ((((Below.refl _ _).alloc (Nat.le_refl _) _).alloc (by simp [go_sem]) _).alloc (by simp [go_sem]; omega) _)
set_option maxRecDepth 100000 in
set_option maxHeartbeats 4000000 in
theorem iOwn_any (w : World) (r : R) : Calls Tryz.prog 155 #[r.v] w (Gives (ownV r).v w) := by
  by_cases hk : r.kind = 1
  case pos =>
    have E := own_1 hk
    generalize ownV r = out at *
    obtain ⟨key, kind, sum, st, last, n, mn, mx, total, dropped⟩ := r
    simp only at *
    subst hk
    have HE := Lib.hid (show out.v = .agg #[.string key, .int .i64 1, .int .i64 sum, .bool false, .int .i64 0, .int .i64 0, .int .i64 0, .int .i64 0, .int .i64 0, .int .i64 0] by rw [E]; rfl)
    clear E
    generalize out.v = ov at *
    unfold R.v
    simp only at *
    go_enter Tryz.func155, Tryz.ntmps155
    go_upto_region 4 with fail
    refine wp_three ⟨key, 1, sum, st, last, n, mn, mx, total, dropped⟩ zeroR ⟨key, 1, 0, false, 0, 0, 0, 0, 0, 0⟩ ?_
    intro u hx hz hy hlt hb
    obtain ⟨x0, x1, x2, x3, x4, x5, x6, x7, x8, x9, xf⟩ := hx.get
    obtain ⟨y0, y1, y2, y3, y4, y5, y6, y7, y8, y9, yf⟩ := hy.get
    simp only at x0 x1 x2 x3 x4 x5 x6 x7 x8 x9 y0 y1 y2 y3 y4 y5 y6 y7 y8 y9
    have HX := Lib.hid hx
    have HZ := Lib.hid hz
    have HY := Lib.hid hy
    have HB := Lib.hid hb
    clear hx hz hy hb
    go_upto_region 9 with fail
    refine wp_two ⟨key, 1, sum, false, 0, 0, 0, 0, 0, 0⟩ zeroR (HY.out.store 2 _ ⟨key, 1, sum, false, 0, 0, 0, 0, 0, 0⟩ rfl) (HZ.out.far _ 2 _ (by omega)) (below_set HB.out (w.heap.size + 1 + 1) 2 (by omega) _) ?_
    clear x0 x1 x2 x3 x4 x5 x6 x7 x8 x9 xf y0 y1 y2 y3 y4 y5 y6 y7 y8 y9 yf HX HY HZ HB
    intro w2 hx hz hb
    have hs := hb.size
    obtain ⟨x0, x1, x2, x3, x4, x5, x6, x7, x8, x9, xf⟩ := hx.get
    obtain ⟨z0, z1, z2, z3, z4, z5, z6, z7, z8, z9, zf⟩ := hz.get
    simp only [zeroR] at x0 x1 x2 x3 x4 x5 x6 x7 x8 x9 z0 z1 z2 z3 z4 z5 z6 z7 z8 z9
    have HB := Lib.hid hb
    clear hx hz hb
    go_wp2_with fail
    exact bodyPost_ret (v := .agg #[.string key, .int .i64 1, .int .i64 sum, .bool false, .int .i64 0, .int .i64 0, .int .i64 0, .int .i64 0, .int .i64 0, .int .i64 0]) (by simp [results, Tryz.results155, go_sem, x0, x1, x2, x3, x4, x5, x6, x7, x8, x9, z0, z1, z2, z3, z4, z5, z6, z7, z8, z9]) rfl ⟨ret_w HE.out, below_row HB.out (by omega) _ _ _ _ _ _ _ _ _ _⟩
  have k1 : r.kind ≠ 1 := hk
  clear hk
  by_cases hk : r.kind = 2
  case pos =>
    have E := own_2 hk
    generalize ownV r = out at *
    obtain ⟨key, kind, sum, st, last, n, mn, mx, total, dropped⟩ := r
    simp only at *
    subst hk
    have HE := Lib.hid (show out.v = .agg #[.string key, .int .i64 2, .int .i64 0, .bool st, .int .i64 last, .int .i64 0, .int .i64 0, .int .i64 0, .int .i64 0, .int .i64 0] by rw [E]; rfl)
    clear E
    generalize out.v = ov at *
    unfold R.v
    simp only at *
    go_enter Tryz.func155, Tryz.ntmps155
    go_upto_region 6 with fail
    refine wp_three ⟨key, 2, sum, st, last, n, mn, mx, total, dropped⟩ zeroR ⟨key, 2, 0, false, 0, 0, 0, 0, 0, 0⟩ ?_
    intro u hx hz hy hlt hb
    obtain ⟨x0, x1, x2, x3, x4, x5, x6, x7, x8, x9, xf⟩ := hx.get
    obtain ⟨y0, y1, y2, y3, y4, y5, y6, y7, y8, y9, yf⟩ := hy.get
    simp only at x0 x1 x2 x3 x4 x5 x6 x7 x8 x9 y0 y1 y2 y3 y4 y5 y6 y7 y8 y9
    have HX := Lib.hid hx
    have HZ := Lib.hid hz
    have HY := Lib.hid hy
    have HB := Lib.hid hb
    clear hx hz hy hb
    go_region
    go_upto_region 9 with fail
    refine wp_two_drew ⟨key, 2, 0, st, last, 0, 0, 0, 0, 0⟩ zeroR ((HY.out.store 3 _ ⟨key, 2, 0, st, 0, 0, 0, 0, 0, 0⟩ rfl).store 4 _ ⟨key, 2, 0, st, last, 0, 0, 0, 0, 0⟩ rfl) ((HZ.out.far _ 3 _ (by omega)).far _ 4 _ (by omega)) (below_set (below_set HB.out (w.heap.size + 1 + 1) 3 (by omega) _) (w.heap.size + 1 + 1) 4 (by omega) _) ?_
    clear x0 x1 x2 x3 x4 x5 x6 x7 x8 x9 xf y0 y1 y2 y3 y4 y5 y6 y7 y8 y9 yf HX HY HZ HB
    intro w2 hx hz hb
    have hs := hb.size
    obtain ⟨x0, x1, x2, x3, x4, x5, x6, x7, x8, x9, xf⟩ := hx.get
    obtain ⟨z0, z1, z2, z3, z4, z5, z6, z7, z8, z9, zf⟩ := hz.get
    simp only [zeroR] at x0 x1 x2 x3 x4 x5 x6 x7 x8 x9 z0 z1 z2 z3 z4 z5 z6 z7 z8 z9
    have HB := Lib.hid hb
    clear hx hz hb
    go_wp2_with fail
    exact bodyPost_ret (v := .agg #[.string key, .int .i64 2, .int .i64 0, .bool st, .int .i64 last, .int .i64 0, .int .i64 0, .int .i64 0, .int .i64 0, .int .i64 0]) (by simp [results, Tryz.results155, go_sem, x0, x1, x2, x3, x4, x5, x6, x7, x8, x9, z0, z1, z2, z3, z4, z5, z6, z7, z8, z9]) rfl ⟨ret_w HE.out, below_row HB.out (by omega) _ _ _ _ _ _ _ _ _ _⟩
  have k2 : r.kind ≠ 2 := hk
  clear hk
  by_cases hk : r.kind = 3
  case pos =>
    have E := own_3 hk
    generalize ownV r = out at *
    obtain ⟨key, kind, sum, st, last, n, mn, mx, total, dropped⟩ := r
    simp only at *
    subst hk
    have HE := Lib.hid (show out.v = .agg #[.string key, .int .i64 3, .int .i64 0, .bool false, .int .i64 0, .int .i64 n, .int .i64 mn, .int .i64 mx, .int .i64 total, .int .i64 dropped] by rw [E]; rfl)
    clear E
    generalize out.v = ov at *
    unfold R.v
    simp only at *
    go_enter Tryz.func155, Tryz.ntmps155
    go_upto_region 8 with fail
    refine wp_three ⟨key, 3, sum, st, last, n, mn, mx, total, dropped⟩ zeroR ⟨key, 3, 0, false, 0, 0, 0, 0, 0, 0⟩ ?_
    intro u hx hz hy hlt hb
    obtain ⟨x0, x1, x2, x3, x4, x5, x6, x7, x8, x9, xf⟩ := hx.get
    obtain ⟨y0, y1, y2, y3, y4, y5, y6, y7, y8, y9, yf⟩ := hy.get
    simp only at x0 x1 x2 x3 x4 x5 x6 x7 x8 x9 y0 y1 y2 y3 y4 y5 y6 y7 y8 y9
    have HX := Lib.hid hx
    have HZ := Lib.hid hz
    have HY := Lib.hid hy
    have HB := Lib.hid hb
    clear hx hz hy hb
    go_region
    go_upto_region 9 with fail
    refine wp_two_drew ⟨key, 3, 0, false, 0, n, mn, mx, total, dropped⟩ zeroR (((((HY.out.store 5 _ ⟨key, 3, 0, false, 0, n, 0, 0, 0, 0⟩ rfl).store 6 _ ⟨key, 3, 0, false, 0, n, mn, 0, 0, 0⟩ rfl).store 7 _ ⟨key, 3, 0, false, 0, n, mn, mx, 0, 0⟩ rfl).store 8 _ ⟨key, 3, 0, false, 0, n, mn, mx, total, 0⟩ rfl).store 9 _ ⟨key, 3, 0, false, 0, n, mn, mx, total, dropped⟩ rfl) (((((HZ.out.far _ 5 _ (by omega)).far _ 6 _ (by omega)).far _ 7 _ (by omega)).far _ 8 _ (by omega)).far _ 9 _ (by omega)) (below_set (below_set (below_set (below_set (below_set HB.out (w.heap.size + 1 + 1) 5 (by omega) _) (w.heap.size + 1 + 1) 6 (by omega) _) (w.heap.size + 1 + 1) 7 (by omega) _) (w.heap.size + 1 + 1) 8 (by omega) _) (w.heap.size + 1 + 1) 9 (by omega) _) ?_
    clear x0 x1 x2 x3 x4 x5 x6 x7 x8 x9 xf y0 y1 y2 y3 y4 y5 y6 y7 y8 y9 yf HX HY HZ HB
    intro w2 hx hz hb
    have hs := hb.size
    obtain ⟨x0, x1, x2, x3, x4, x5, x6, x7, x8, x9, xf⟩ := hx.get
    obtain ⟨z0, z1, z2, z3, z4, z5, z6, z7, z8, z9, zf⟩ := hz.get
    simp only [zeroR] at x0 x1 x2 x3 x4 x5 x6 x7 x8 x9 z0 z1 z2 z3 z4 z5 z6 z7 z8 z9
    have HB := Lib.hid hb
    clear hx hz hb
    go_wp2_with fail
    exact bodyPost_ret (v := .agg #[.string key, .int .i64 3, .int .i64 0, .bool false, .int .i64 0, .int .i64 n, .int .i64 mn, .int .i64 mx, .int .i64 total, .int .i64 dropped]) (by simp [results, Tryz.results155, go_sem, x0, x1, x2, x3, x4, x5, x6, x7, x8, x9, z0, z1, z2, z3, z4, z5, z6, z7, z8, z9]) rfl ⟨ret_w HE.out, below_row HB.out (by omega) _ _ _ _ _ _ _ _ _ _⟩
  have k3 : r.kind ≠ 3 := hk
  clear hk
  have E := own_0 k1 k2 k3
  generalize ownV r = out at *
  obtain ⟨key, kind, sum, st, last, n, mn, mx, total, dropped⟩ := r
  simp only at *
  have t1 : (kind == 1) = false := by rw [beq_eq_false_iff_ne]; exact k1
  have t2 : (kind == 2) = false := by rw [beq_eq_false_iff_ne]; exact k2
  have t3 : (kind == 3) = false := by rw [beq_eq_false_iff_ne]; exact k3
  clear k1 k2 k3
  have HE := Lib.hid (show out.v = .agg #[.string key, .int .i64 kind, .int .i64 0, .bool false, .int .i64 0, .int .i64 0, .int .i64 0, .int .i64 0, .int .i64 0, .int .i64 0] by rw [E]; rfl)
  clear E
  generalize out.v = ov at *
  unfold R.v
  simp only at *
  go_enter Tryz.func155, Tryz.ntmps155
  go_upto_region 9 with fail
  refine wp_three ⟨key, kind, sum, st, last, n, mn, mx, total, dropped⟩ zeroR ⟨key, kind, 0, false, 0, 0, 0, 0, 0, 0⟩ ?_
  intro u hx hz hy hlt hb
  obtain ⟨x0, x1, x2, x3, x4, x5, x6, x7, x8, x9, xf⟩ := hx.get
  obtain ⟨y0, y1, y2, y3, y4, y5, y6, y7, y8, y9, yf⟩ := hy.get
  simp only at x0 x1 x2 x3 x4 x5 x6 x7 x8 x9 y0 y1 y2 y3 y4 y5 y6 y7 y8 y9
  have HX := Lib.hid hx
  have HZ := Lib.hid hz
  have HY := Lib.hid hy
  have HB := Lib.hid hb
  clear hx hz hy hb
  refine wp_two ⟨key, kind, 0, false, 0, 0, 0, 0, 0, 0⟩ zeroR HY.out HZ.out HB.out ?_
  clear x0 x1 x2 x3 x4 x5 x6 x7 x8 x9 xf y0 y1 y2 y3 y4 y5 y6 y7 y8 y9 yf HX HY HZ HB
  intro w2 hx hz hb
  have hs := hb.size
  obtain ⟨x0, x1, x2, x3, x4, x5, x6, x7, x8, x9, xf⟩ := hx.get
  obtain ⟨z0, z1, z2, z3, z4, z5, z6, z7, z8, z9, zf⟩ := hz.get
  simp only [zeroR] at x0 x1 x2 x3 x4 x5 x6 x7 x8 x9 z0 z1 z2 z3 z4 z5 z6 z7 z8 z9
  have HB := Lib.hid hb
  clear hx hz hb
  go_wp2_with fail
  exact bodyPost_ret (v := .agg #[.string key, .int .i64 kind, .int .i64 0, .bool false, .int .i64 0, .int .i64 0, .int .i64 0, .int .i64 0, .int .i64 0, .int .i64 0]) (by simp [results, Tryz.results155, go_sem, x0, x1, x2, x3, x4, x5, x6, x7, x8, x9, z0, z1, z2, z3, z4, z5, z6, z7, z8, z9]) rfl ⟨ret_w HE.out, below_row HB.out (by omega) _ _ _ _ _ _ _ _ _ _⟩
end Go.Proofs.YtnlepnfdgdbkoaaGreatDoor
end
