/-
  Chapter 8, the model's RowFrom: it answers the row of a slot's cells, and turns nothing that was there.
-/
import Derived.Test.YtlnkjpacjbhncaaGreatDoorZa
import Derived.Test.YtlnkjpacjbhncaaGreatDoorRowM
import Derived.Test.YtlnkjpacjbhncaaGreatDoorZb
namespace Go.Proofs.YtlnkjpacjbhncaaGreatDoor
open Go.RowKit M
set_option linter.unusedVariables false
set_option linter.unusedSimpArgs false
theorem rowFrom_none {tag : Int} {raw : List Int} (h : untagV tag = none) : rowFromV tag raw = zeroR := by unfold rowFromV; rw [h]
theorem rowFrom_len {tag : Int} {raw : List Int} {x : ByteArray × Int} (h : untagV tag = some x) (hl : raw.length ≠ 8) : rowFromV tag raw = zeroR := by unfold rowFromV; rw [h]; exact if_neg hl
theorem rowFrom_some {tag : Int} {raw : List Int} {k : ByteArray} {kd : Int} (h : untagV tag = some (k, kd)) (hl : raw.length = 8) : rowFromV tag raw = kindRow k kd raw := by unfold rowFromV; rw [h]; exact if_pos hl
theorem retR {r s : R} (h : r = s) : Ending.returned r.v = .returned s.v := by rw [h]
set_option maxRecDepth 100000 in
set_option maxHeartbeats 16000000 in
theorem sRowFrom_no (w : World) (tag : Int) (v : Value) (raw : List Int) (h : IntsArg w v raw) (hn : untagV tag = none ∨ raw.length ≠ 8) : Calls Tryz.prog 55 #[.int .i64 tag, v] w (Gives zeroR.v w) := by
  obtain ⟨A, cap, rfl, h1, h2, h3⟩ := h
  unfold maxLen at h2
  have HU := fun W => Lib.hid (sUntag_any W tag)
  have H3 := Lib.hid h3
  clear h3
  cases hu : untagV tag with
  | none =>
    rw [hu, untT_none] at HU
    clear hu hn
    generalize raw.length = n at *
    go_enter Tryz.func55, Tryz.ntmps55
    go_wp2_with fail
    refine (HU _).out.mono ?_
    rintro e w2 ⟨rfl, hb0⟩
    have hz : RowAt w2 w.heap.size zeroR := (rowAt_new w _ zeroR rfl).below hb0
    have hb : Below w.heap.size w w2 := ((Below.refl _ _).alloc (Nat.le_refl _) _).trans (hb0.mono (by simp [go_sem]))
    clear hb0
    have hlt := hz.lt
    have HZ := Lib.hid hz
    have HB := Lib.hid hb
    clear hz hb
    go_upto_region 3 with fail
    refine wp_gen (fun w' => RowAt w' w.heap.size zeroR ∧ RowAt w' w2.heap.size ⟨⟨#[]⟩, 0, 0, false, 0, 0, 0, 0, 0, 0⟩ ∧ Below w.heap.size w w') ⟨HZ.out.alloc _, rowAt_new w2 w2.heap.size (⟨⟨#[]⟩, 0, 0, false, 0, 0, 0, 0, 0, 0⟩ : R) rfl, HB.out.alloc HB.out.size _⟩ ?_
    clear HZ HB HU
    generalize w2.heap.size = g at *
    clear w2
    rintro w2 ⟨hz, hx, hb⟩
    obtain ⟨z0, z1, z2, z3, z4, z5, z6, z7, z8, z9, zf⟩ := hz.get
    simp only [zeroR] at z0 z1 z2 z3 z4 z5 z6 z7 z8 z9
    have HZ := Lib.hid hz
    have HX := Lib.hid hx
    have HB := Lib.hid hb
    clear hz hx hb
    go_wp2_with fail
    exact bodyPost_ret (v := zeroR.v) (by simp [results, Tryz.results55, go_sem, zeroR, R.v, z0, z1, z2, z3, z4, z5, z6, z7, z8, z9]) rfl ⟨rfl, (below_row HB.out (Nat.le_refl _) _ _ _ _ _ _ _ _ _ _)⟩
  | some x =>
    obtain ⟨key, kd⟩ := x
    have hl8 : raw.length ≠ 8 := by
      rcases hn with h | h
      · rw [hu] at h; cases h
      · exact h
    obtain ⟨_, hko, hk1, hk3⟩ := tag_untag hu
    rw [hu, untT_some] at HU
    have hk0 : (kd == 0) = false := by rw [beq_eq_false_iff_ne]; omega
    clear hu hn
    generalize raw.length = n at *
    have hl9 : ((n : Int) != 8) = true := by rw [bne_iff_ne]; omega
    go_enter Tryz.func55, Tryz.ntmps55
    go_wp2_with fail
    refine (HU _).out.mono ?_
    rintro e w2 ⟨rfl, hb0⟩
    have hz : RowAt w2 w.heap.size zeroR := (rowAt_new w _ zeroR rfl).below hb0
    have hb : Below w.heap.size w w2 := ((Below.refl _ _).alloc (Nat.le_refl _) _).trans (hb0.mono (by simp [go_sem]))
    clear hb0
    have hlt := hz.lt
    have HZ := Lib.hid hz
    have HB := Lib.hid hb
    clear hz hb
    go_upto_region 3 with fail
    refine wp_gen (fun w' => RowAt w' w.heap.size zeroR ∧ RowAt w' w2.heap.size ⟨key, kd, 0, false, 0, 0, 0, 0, 0, 0⟩ ∧ Below w.heap.size w w') ⟨HZ.out.alloc _, rowAt_new w2 w2.heap.size (⟨key, kd, 0, false, 0, 0, 0, 0, 0, 0⟩ : R) rfl, HB.out.alloc HB.out.size _⟩ ?_
    clear HZ HB HU
    generalize w2.heap.size = g at *
    clear w2
    rintro w2 ⟨hz, hx, hb⟩
    obtain ⟨z0, z1, z2, z3, z4, z5, z6, z7, z8, z9, zf⟩ := hz.get
    simp only [zeroR] at z0 z1 z2 z3 z4 z5 z6 z7 z8 z9
    have HZ := Lib.hid hz
    have HX := Lib.hid hx
    have HB := Lib.hid hb
    clear hz hx hb
    go_wp2_with fail
    exact bodyPost_ret (v := zeroR.v) (by simp [results, Tryz.results55, go_sem, zeroR, R.v, z0, z1, z2, z3, z4, z5, z6, z7, z8, z9]) rfl ⟨rfl, (below_row HB.out (Nat.le_refl _) _ _ _ _ _ _ _ _ _ _)⟩
theorem sumT_bd (raw : List Int) (k : Nat) : 0 ≤ sumT raw k ∧ sumT raw k ≤ 281474976710655 := by
  cases k with
  | zero => show (0 : Int) ≤ 0 ∧ (0 : Int) ≤ 281474976710655; omega
  | succ k => unfold sumT modW; omega
/-- The walk of a loop over a slot's cells holds: the row in block g, the zero row in block o, the cell that is read. -/
def DrHeld (w0 : World) (g o b : Nat) (r : R) (w : World) : Prop := RowAt w g r ∧ RowAt w o zeroR ∧ Below w0.heap.size w0 w ∧ b < w0.heap.size
theorem drS_next {w0 w1 w2 : World} {g o b i j : Nat} {r : R} {x y : Value} (hb : Below w1.heap.size w1 w2) (h : w1.cell? ⟨g, i, none⟩ = some x ∧ w1.cell? ⟨b, j, none⟩ = some y ∧ DrHeld w0 g o b r w1) :
    w2.cell? ⟨g, i, none⟩ = some x ∧ w2.cell? ⟨b, j, none⟩ = some y ∧ DrHeld w0 g o b r w2 := by
  obtain ⟨h1, h2, h3, h4, h5, h6⟩ := h
  exact ⟨(hb.cell (p := ⟨g, i, none⟩) h3.lt).trans h1, (hb.cell (p := ⟨b, j, none⟩) (Nat.lt_of_lt_of_le h6 h5.size)).trans h2, h3.below hb, h4.below hb, h5.trans (hb.mono h5.size), h6⟩
theorem drS_drew {w0 w1 : World} {g o b i j : Nat} {r : R} {x y : Value} (h : w1.cell? ⟨g, i, none⟩ = some x ∧ w1.cell? ⟨b, j, none⟩ = some y ∧ DrHeld w0 g o b r w1) :
    w1.drew.cell? ⟨g, i, none⟩ = some x ∧ w1.drew.cell? ⟨b, j, none⟩ = some y ∧ DrHeld w0 g o b r w1.drew := drS_next (below_drew _ _) h
theorem drS_held {w0 w1 : World} {g o b : Nat} {r : R} {p q : Prop} (h : p ∧ q ∧ DrHeld w0 g o b r w1) : DrHeld w0 g o b r w1 := h.2.2
theorem RowAt.frz {w : World} {g : Nat} {r : R} (h : RowAt w g r) : ∀ k, w.frozen? ⟨g, k, none⟩ = false := h.get.2.2.2.2.2.2.2.2.2.2
theorem fit_at {zs : List Int} (h : Fit zs) (j : Nat) : -9223372036854775808 ≤ zs.getD j 0 ∧ zs.getD j 0 ≤ 9223372036854775807 := h.at j
set_option maxRecDepth 100000 in
set_option maxHeartbeats 16000000 in
theorem sRowFrom_count (w : World) (tag : Int) (v : Value) (raw : List Int) (h : IntsArg w v raw) (hf : Fit raw) (key : ByteArray) (hu : untagV tag = some (key, 1)) (hl : raw.length = 8) : Calls Tryz.prog 55 #[.int .i64 tag, v] w (Gives (countRow key raw).v w) := by
  obtain ⟨A, cap, rfl, h1, h2, h3⟩ := h
  unfold maxLen at h2
  have HU := fun W => Lib.hid (sUntag_any W tag)
  have H3 := Lib.hid h3
  clear h3
  rw [hu, untT_some] at HU
  rw [hl] at *
  obtain ⟨b, off, rfl, hbl, hc⟩ := H3.out (by omega)
  have hu0 := hu
  clear H3 hu
  have HC := Lib.hid hc
  have HF := Lib.hid hf
  clear hc hf
  go_enter Tryz.func55, Tryz.ntmps55
  go_wp2_with fail
  refine (HU _).out.mono ?_
  rintro e w2 ⟨rfl, hb0⟩
  have hz : RowAt w2 w.heap.size zeroR := (rowAt_new w _ zeroR rfl).below hb0
  have hb : Below w.heap.size w w2 := ((Below.refl _ _).alloc (Nat.le_refl _) _).trans (hb0.mono (by simp [go_sem]))
  clear hb0
  have hlt := hz.lt
  have HZ := Lib.hid hz
  have HB := Lib.hid hb
  clear hz hb
  go_upto_region 3 with fail
  refine wp_gen (fun w' => RowAt w' w.heap.size zeroR ∧ RowAt w' w2.heap.size ⟨key, 1, 0, false, 0, 0, 0, 0, 0, 0⟩ ∧ Below w.heap.size w w') ⟨HZ.out.alloc _, rowAt_new w2 w2.heap.size (⟨key, 1, 0, false, 0, 0, 0, 0, 0, 0⟩ : R) rfl, HB.out.alloc HB.out.size _⟩ ?_
  clear HZ HB HU
  generalize w2.heap.size = g at *
  clear w2
  rintro w2 ⟨hz, hx, hb⟩
  clear hu0
  have HG := Lib.hid hlt
  have HZ := Lib.hid hz
  have HX := Lib.hid hx
  have HB := Lib.hid hb
  clear hz hx hb
  go_wp2_with fail
  go_loopw [8] (fun i wr => ∃ s : Nat, s ≤ 2 ∧ i = .int .i64 s ∧ RowAt wr w.heap.size zeroR ∧ RowAt wr g ⟨key, 1, sumT raw s, false, 0, 0, 0, 0, 0, 0⟩ ∧ Below w.heap.size w wr) (fun i _ => 2 - (intOf i).toNat)
  case atStart => exact ⟨0, Nat.zero_le _, rfl, HZ.out, HX.out, HB.out⟩
  case round =>
    obtain ⟨s, hs, rfl, hz, hx, hb⟩ := hrel
    clear HZ HX HB
    by_cases hlt2 : s < 2
    · have hlt : (s : Int) < 2 := by omega
      have HN := Lib.hid (show sumT raw (s + 1) = modW (sumT raw s + modW (raw.getD s 0)) from rfl)
      obtain ⟨q0, q1⟩ := sumT_bd raw s
      obtain ⟨f0, f1⟩ := HF.out.at s
      have c1 := (hb.cell (p := ⟨b, off + s, none⟩) hbl).trans (HC.out s (by omega))
      obtain ⟨x0, x1, x2, x3, x4, x5, x6, x7, x8, x9, xf⟩ := hx.get
      have HS := Lib.hid (drS_drew (w0 := w) (i := 2) (j := off + s) (g := g) (o := w.heap.size) ⟨x2, c1, hx, hz, hb, hbl⟩)
      clear hz hb x0 x1 x3 x4 x5 x6 x7 x8 x9
      have HX := Lib.hid hx
      clear hx
      generalize raw.getD s 0 = z at *
      generalize sumT raw s = q at *
      have m0 : 0 ≤ z % 281474976710656 := by omega
      have m1 : z % 281474976710656 ≤ 281474976710655 := by omega
      have hs8 : (s : Int) < 8 := by omega
      have hw : IntKind.i64.wrap (q + z % 281474976710656) = q + z % 281474976710656 := by rw [IntKind.wrap_i64]; omega
      go_wp2_with fail

      have HCL := (⟨HS.out⟩ : HoldsC (fun W => W.cell? ⟨g, 2, none⟩ = some (.int .i64 q) ∧ W.cell? ⟨b, off + s, none⟩ = some (.int .i64 z) ∧ DrHeld w g w.heap.size b ⟨key, 1, q, false, 0, 0, 0, 0, 0, 0⟩ W) _)
      have hall : ∀ p : Prop, (∀ W, HoldsC (fun W => W.cell? ⟨g, 2, none⟩ = some (.int .i64 q) ∧ W.cell? ⟨b, off + s, none⟩ = some (.int .i64 z) ∧ DrHeld w g w.heap.size b ⟨key, 1, q, false, 0, 0, 0, 0, 0, 0⟩ W) W → p) ↔ p := fun p => ⟨fun h => h _ HCL, fun h _ _ => h⟩
      refine wp_region_tail_lit (C := HoldsC (fun W => W.cell? ⟨g, 2, none⟩ = some (.int .i64 q) ∧ W.cell? ⟨b, off + s, none⟩ = some (.int .i64 z) ∧ DrHeld w g w.heap.size b ⟨key, 1, q, false, 0, 0, 0, 0, 0, 0⟩ W)) (by kernel_rfl) (by kernel_rfl) rfl HCL ?_
      repeat (refine WQ.step (fun K hK => ?_); go_simp; first | (refine hK _ ?_; clear hK K) | (apply Exists.intro; refine ⟨fun W hW => ?_, hK _ ?_⟩; (focus (first | (go_at_call 78; (with_reducible refine Calls.mono (sMod_any _ _) ?_); rintro e w' ⟨rfl, rfl⟩; exact ⟨rfl, hW⟩) | exact rfl | (obtain ⟨y1, y2, y3⟩ := hW.out; have yf := y3.1.frz; go_simp; rfl))); clear hK K))
      refine WQ.nil ?_
      intro W hW
      obtain ⟨y1, y2, y3⟩ := hW.out; have yf := y3.1.frz
      refine ⟨rfl, ?_⟩
      clear hall HCL
      go_simp
      have Y3 := Lib.hid y3
      clear hW y1 y2 y3 HS
      go_wp2_with fail
      go_roundw
      case rel =>
        obtain ⟨hx3, hz3, hb3, _⟩ := Y3.out
        exact ⟨s + 1, by omega, by go_num, hz3.far _ _ _ (by have := HG.out; omega), hx3.store 2 _ _ (by rw [HN.out, show modW (q + modW z) = (q + z) % 281474976710656 by unfold modW; omega]; rfl), hb3.setCell (Nat.le_of_lt HG.out) _⟩
      case measure => simp [intOf]; omega
    · have hs2 : s = 2 := by omega
      subst hs2
      have HE := Lib.hid (show R.v ⟨key, 1, sumT raw 2, false, 0, 0, 0, 0, 0, 0⟩ = (countRow key raw).v from rfl)
      generalize sumT raw 2 = q at *
      have hlg := HG.out
      generalize (countRow key raw).v = out at *
      obtain ⟨x0, x1, x2, x3, x4, x5, x6, x7, x8, x9, xf⟩ := hx.get
      obtain ⟨z0, z1, z2, z3, z4, z5, z6, z7, z8, z9, zf⟩ := hz.get
      simp only [zeroR] at x0 x1 x2 x3 x4 x5 x6 x7 x8 x9 z0 z1 z2 z3 z4 z5 z6 z7 z8 z9
      have HZ := Lib.hid hz
      have HX := Lib.hid hx
      have HB := Lib.hid hb
      clear hz hx hb
      go_wp2_with fail
      exact bodyPost_ret (v := R.v ⟨key, 1, q, false, 0, 0, 0, 0, 0, 0⟩) (by simp [results, Tryz.results55, go_sem, R.v, x0, x1, x2, x3, x4, x5, x6, x7, x8, x9, z0, z1, z2, z3, z4, z5, z6, z7, z8, z9]) rfl ⟨by rw [← HE.out], (below_row HB.out (Nat.le_refl _) _ _ _ _ _ _ _ _ _ _)⟩
set_option maxRecDepth 100000 in
set_option maxHeartbeats 16000000 in
theorem sRowFrom_gauge (w : World) (tag : Int) (v : Value) (raw : List Int) (h : IntsArg w v raw) (hf : Fit raw) (key : ByteArray) (hu : untagV tag = some (key, 2)) (hl : raw.length = 8) : Calls Tryz.prog 55 #[.int .i64 tag, v] w (Gives (gaugeRow key raw).v w) := by
  obtain ⟨A, cap, rfl, h1, h2, h3⟩ := h
  unfold maxLen at h2
  have HU := fun W => Lib.hid (sUntag_any W tag)
  have H3 := Lib.hid h3
  clear h3
  rw [hu, untT_some] at HU
  rw [hl] at *
  obtain ⟨b, off, rfl, hbl, hc⟩ := H3.out (by omega)
  have hu0 := hu
  clear H3 hu
  have HC := Lib.hid hc
  have HF := Lib.hid hf
  clear hc hf
  go_enter Tryz.func55, Tryz.ntmps55
  go_wp2_with fail
  refine (HU _).out.mono ?_
  rintro e w2 ⟨rfl, hb0⟩
  have hz : RowAt w2 w.heap.size zeroR := (rowAt_new w _ zeroR rfl).below hb0
  have hb : Below w.heap.size w w2 := ((Below.refl _ _).alloc (Nat.le_refl _) _).trans (hb0.mono (by simp [go_sem]))
  clear hb0
  have hlt := hz.lt
  have HZ := Lib.hid hz
  have HB := Lib.hid hb
  clear hz hb
  go_upto_region 3 with fail
  refine wp_gen (fun w' => RowAt w' w.heap.size zeroR ∧ RowAt w' w2.heap.size ⟨key, 2, 0, false, 0, 0, 0, 0, 0, 0⟩ ∧ Below w.heap.size w w') ⟨HZ.out.alloc _, rowAt_new w2 w2.heap.size (⟨key, 2, 0, false, 0, 0, 0, 0, 0, 0⟩ : R) rfl, HB.out.alloc HB.out.size _⟩ ?_
  clear HZ HB HU
  generalize w2.heap.size = g at *
  clear w2
  rintro w2 ⟨hz, hx, hb⟩
  clear hu0
  have HG := Lib.hid hlt
  have c3 := (hb.cell (p := ⟨b, off + 3, none⟩) hbl).trans (HC.out 3 (by omega))
  have HGU := fun W => Lib.hid (sUnpackGauge_any W (raw.getD 3 0))
  have HE := Lib.hid (show R.v ⟨key, 2, 0, decide (0 < ungA (raw.getD 3 0)), ungV (raw.getD 3 0), 0, 0, 0, 0, 0⟩ = (gaugeRow key raw).v from rfl)
  generalize (gaugeRow key raw).v = out at *
  generalize raw.getD 3 0 = z at *
  generalize ungA z = za at *
  generalize ungV z = zv at *
  obtain ⟨x0, x1, x2, x3, x4, x5, x6, x7, x8, x9, xf⟩ := hx.get
  have HZ := Lib.hid hz
  have HX := Lib.hid hx
  have HB := Lib.hid hb
  clear hz hx hb
  go_upto_region 19 with (go_at_call 79; refine (HGU _).out.mono ?_; rintro e w' ⟨rfl, rfl⟩)
  go_upto_region 20 with fail
  refine wp_row ⟨key, 2, 0, decide (0 < za), 0, 0, 0, 0, 0, 0⟩ HX.out HZ.out HB.out (Nat.le_of_lt HG.out) (by have := HG.out; omega) rfl ?_
  clear x0 x1 x2 x3 x4 x5 x6 x7 x8 x9 xf HX HZ HB c3
  intro w2 hx hz hb
  obtain ⟨x0, x1, x2, x3, x4, x5, x6, x7, x8, x9, xf⟩ := hx.get
  have HZ := Lib.hid hz
  have HX := Lib.hid hx
  have HB := Lib.hid hb
  clear hz hx hb
  go_upto_region 21 with fail
  refine wp_row ⟨key, 2, 0, decide (0 < za), zv, 0, 0, 0, 0, 0⟩ HX.out HZ.out HB.out (Nat.le_of_lt HG.out) (by have := HG.out; omega) rfl ?_
  clear x0 x1 x2 x3 x4 x5 x6 x7 x8 x9 xf HX HZ HB
  intro w2 hx hz hb
  have hlg := HG.out
  obtain ⟨x0, x1, x2, x3, x4, x5, x6, x7, x8, x9, xf⟩ := hx.get
  obtain ⟨z0, z1, z2, z3, z4, z5, z6, z7, z8, z9, zf⟩ := hz.get
  simp only [zeroR] at x0 x1 x2 x3 x4 x5 x6 x7 x8 x9 z0 z1 z2 z3 z4 z5 z6 z7 z8 z9
  have HZ := Lib.hid hz
  have HX := Lib.hid hx
  have HB := Lib.hid hb
  clear hz hx hb
  go_wp2_with fail
  exact bodyPost_ret (v := R.v ⟨key, 2, 0, decide (0 < za), zv, 0, 0, 0, 0, 0⟩) (by simp [results, Tryz.results55, go_sem, R.v, x0, x1, x2, x3, x4, x5, x6, x7, x8, x9, z0, z1, z2, z3, z4, z5, z6, z7, z8, z9]) rfl ⟨by rw [← HE.out], (below_row HB.out (Nat.le_refl _) _ _ _ _ _ _ _ _ _ _)⟩
theorem sampled_key (r : R) (v : Int) : (sampledV r v).key = r.key := by
  unfold sampledV
  repeat' split
  all_goals rfl
theorem ringV_key (r : R) (raw : List Int) (k : Nat) : (ringV r raw k).key = r.key := by
  induction k with
  | zero => rfl
  | succ k ih => unfold ringV; split; rw [sampled_key, ih]; exact ih
theorem ringV_next {r : R} {raw : List Int} {k : Nat} (h : (k : Int) < raw.getD 4 0) : ringV r raw (k + 1) = sampledV (ringV r raw k) (raw.getD (5 + k) 0 - 1) := if_pos h
theorem ringV_stop {r : R} {raw : List Int} {k : Nat} (h : raw.getD 4 0 ≤ (k : Int)) (m : Nat) : ringV r raw (k + m) = ringV r raw k := by
  induction m with
  | zero => rfl
  | succ m ih =>
    show (if ((k + m : Nat) : Int) < raw.getD 4 0 then sampledV (ringV r raw (k + m)) (raw.getD (5 + (k + m)) 0 - 1) else ringV r raw (k + m)) = _
    rw [if_neg (by omega)]; exact ih
theorem sampled_wrap (r : R) (z : Int) (h0 : -9223372036854775808 ≤ z) (h1 : z ≤ 9223372036854775807) : sampledV r (IntKind.i64.wrap (z - 1)) = sampledV r (z - 1) := by
  by_cases h : z = -9223372036854775808
  · subst h
    have e : IntKind.i64.wrap (-9223372036854775808 - 1) = 9223372036854775807 := by decide
    rw [e, sampled_no (fun x => by have := x.2.2; omega), sampled_no (fun x => by have := x.2.2; omega)]
  · rw [show IntKind.i64.wrap (z - 1) = z - 1 by rw [IntKind.wrap_i64]; omega]
/-- The walk of the samples holds: the row in block g, cell by cell, the sample that is read, and all else. -/
theorem drR_next {w0 w1 w2 : World} {g o b j : Nat} {r : R} {y : Value} (hb : Below w1.heap.size w1 w2) (h : w1.cell? ⟨b, j, none⟩ = some y ∧ DrHeld w0 g o b r w1) : w2.cell? ⟨b, j, none⟩ = some y ∧ DrHeld w0 g o b r w2 := by
  obtain ⟨h2, h3, h4, h5, h6⟩ := h
  exact ⟨(hb.cell (p := ⟨b, j, none⟩) (Nat.lt_of_lt_of_le h6 h5.size)).trans h2, h3.below hb, h4.below hb, h5.trans (hb.mono h5.size), h6⟩
set_option maxRecDepth 100000 in
set_option maxHeartbeats 16000000 in
theorem sRowFrom_timer (w : World) (tag : Int) (v : Value) (raw : List Int) (h : IntsArg w v raw) (hf : Fit raw) (key : ByteArray) (hu : untagV tag = some (key, 3)) (hl : raw.length = 8) : Calls Tryz.prog 55 #[.int .i64 tag, v] w (Gives (timerRow key raw).v w) := by
  obtain ⟨A, cap, rfl, h1, h2, h3⟩ := h
  unfold maxLen at h2
  have HU := fun W => Lib.hid (sUntag_any W tag)
  have H3 := Lib.hid h3
  clear h3
  rw [hu, untT_some] at HU
  rw [hl] at *
  obtain ⟨b, off, rfl, hbl, hc⟩ := H3.out (by omega)
  have hu0 := hu
  clear H3 hu
  have HC := Lib.hid hc
  have HF := Lib.hid hf
  clear hc hf
  go_enter Tryz.func55, Tryz.ntmps55
  go_wp2_with fail
  refine (HU _).out.mono ?_
  rintro e w2 ⟨rfl, hb0⟩
  have hz : RowAt w2 w.heap.size zeroR := (rowAt_new w _ zeroR rfl).below hb0
  have hb : Below w.heap.size w w2 := ((Below.refl _ _).alloc (Nat.le_refl _) _).trans (hb0.mono (by simp [go_sem]))
  clear hb0
  have hlt := hz.lt
  have HZ := Lib.hid hz
  have HB := Lib.hid hb
  clear hz hb
  go_upto_region 3 with fail
  refine wp_gen (fun w' => RowAt w' w.heap.size zeroR ∧ RowAt w' w2.heap.size ⟨key, 3, 0, false, 0, 0, 0, 0, 0, 0⟩ ∧ Below w.heap.size w w') ⟨HZ.out.alloc _, rowAt_new w2 w2.heap.size (⟨key, 3, 0, false, 0, 0, 0, 0, 0, 0⟩ : R) rfl, HB.out.alloc HB.out.size _⟩ ?_
  clear HZ HB HU
  generalize w2.heap.size = g at *
  clear w2
  rintro w2 ⟨hz, hx, hb⟩
  have HG := Lib.hid hlt
  have HK := Lib.hid (show key.size ≤ maxLen by have := keyOkV_iff.1 (tag_untag hu0).2.1; unfold maxLen; omega)
  clear hu0
  have HZ := Lib.hid hz
  have HX := Lib.hid (show RowAt w2 g (ringV { zeroR with key := key, kind := 3 } raw 0) from hx)
  have HB := Lib.hid hb
  clear hz hx hb
  go_wp2_with fail
  go_loopw [11] (fun i wr => ∃ k : Nat, k ≤ 3 ∧ i = .int .i64 k ∧ RowAt wr w.heap.size zeroR ∧ RowAt wr g (ringV { zeroR with key := key, kind := 3 } raw k) ∧ Below w.heap.size w wr) (fun i _ => 3 - (intOf i).toNat)
  case atStart => exact ⟨0, Nat.zero_le _, rfl, HZ.out, HX.out, HB.out⟩
  case round =>
    obtain ⟨k, hk, rfl, hz, hx, hb⟩ := hrel
    clear HZ HX HB
    obtain ⟨t0, t1⟩ := HF.out.at 4
    have c4 := (hb.cell (p := ⟨b, off + 4, none⟩) hbl).trans (HC.out 4 (by omega))
    have HRS := Lib.hid (fun (h : raw.getD 4 0 ≤ (k : Int)) (m : Nat) => ringV_stop (r := { zeroR with key := key, kind := 3 }) h m)
    have HRN := Lib.hid (fun (h : (k : Int) < raw.getD 4 0) => ringV_next (r := { zeroR with key := key, kind := 3 }) h)
    have hkey := ringV_key { zeroR with key := key, kind := 3 } raw k
    have HTR := Lib.hid (show timerRow key raw = dropRow (ringV { zeroR with key := key, kind := 3 } raw 3) (raw.getD 4 0) from rfl)
    generalize raw.getD 4 0 = t at *
    by_cases hgo : k < 3 ∧ (k : Int) < t
    · obtain ⟨hk3, hkt⟩ := hgo
      have d1 : (k : Int) < 3 := by omega
      obtain ⟨f0, f1⟩ := HF.out.at (5 + k)
      have c1 := (hb.cell (p := ⟨b, off + (5 + k), none⟩) hbl).trans (HC.out (5 + k) (by omega))
      have hn := HRN.out hkt
      rw [← sampled_wrap _ _ f0 f1] at hn
      have HSM := fun W => Lib.hid (sSampled_any W (ringV { zeroR with key := key, kind := 3 } raw k) (IntKind.i64.wrap (raw.getD (5 + k) 0 - 1)) (by rw [hkey]; exact HK.out))
      rw [← hn] at HSM
      have HN := Lib.hid (rfl : ringV { zeroR with key := key, kind := 3 } raw (k + 1) = ringV { zeroR with key := key, kind := 3 } raw (k + 1))
      generalize raw.getD (5 + k) 0 = z at *
      generalize ringV { zeroR with key := key, kind := 3 } raw k = r at *
      generalize hr2 : ringV { zeroR with key := key, kind := 3 } raw (k + 1) = r2 at *
      have HR2 := Lib.hid hr2
      clear hr2 hn hkey HN HTR HRS HRN
      have HS := Lib.hid (drR_next (below_drew _ _) (show wr.cell? ⟨b, off + (5 + k), none⟩ = some (.int .i64 z) ∧ DrHeld w g w.heap.size b r wr from ⟨c1, hx, hz, hb, hbl⟩))
      clear c1 hx hz hb
      obtain ⟨key', kind', sum', st', last', n', mn', mx', total', dropped'⟩ := r
      obtain ⟨key2, kind2, sum2, st2, last2, n2, mn2, mx2, total2, dropped2⟩ := r2
      unfold R.v at HSM
      simp only at HSM
      have i1 : (5 : Int) + (k : Int) < 8 := by omega
      have i2 : (0 : Int) ≤ 5 + (k : Int) := by omega
      have i3 : ((5 : Int) + (k : Int)).toNat = 5 + k := by omega
      have i4 : IntKind.i64.wrap (5 + (k : Int)) = 5 + (k : Int) := by rw [IntKind.wrap_i64]; omega
      go_upto_region 9 with fail
      clear c4
      have HCL := (⟨HS.out⟩ : HoldsC (fun W => W.cell? ⟨b, off + (5 + k), none⟩ = some (.int .i64 z) ∧ DrHeld w g w.heap.size b ⟨key', kind', sum', st', last', n', mn', mx', total', dropped'⟩ W) _)
      have hall : ∀ p : Prop, (∀ W, HoldsC (fun W => W.cell? ⟨b, off + (5 + k), none⟩ = some (.int .i64 z) ∧ DrHeld w g w.heap.size b ⟨key', kind', sum', st', last', n', mn', mx', total', dropped'⟩ W) W → p) ↔ p := fun p => ⟨fun h => h _ HCL, fun h _ _ => h⟩
      refine wp_region_tail_lit (C := HoldsC (fun W => W.cell? ⟨b, off + (5 + k), none⟩ = some (.int .i64 z) ∧ DrHeld w g w.heap.size b ⟨key', kind', sum', st', last', n', mn', mx', total', dropped'⟩ W)) (by kernel_rfl) (by kernel_rfl) rfl HCL ?_
      repeat (refine WQ.step (fun K hK => ?_); go_simp; first | (refine hK _ ?_; clear hK K) | (apply Exists.intro; refine ⟨fun W hW => ?_, hK _ ?_⟩; (focus (first | (go_at_call 80; (with_reducible refine Calls.mono (Hid.out (HSM _)) ?_); rintro e w' ⟨rfl, hb'⟩; exact ⟨rfl, ⟨drR_next hb' hW.out⟩⟩) | exact rfl | (obtain ⟨y2, y3⟩ := hW.out; obtain ⟨y10, y11, y12, y13, y14, y15, y16, y17, y18, y19, yf⟩ := y3.1.get; simp only at y10 y11 y12 y13 y14 y15 y16 y17 y18 y19; go_simp; rfl))); clear hK K))
      refine WQ.nil ?_
      intro W hW
      obtain ⟨y2, y3⟩ := hW.out; obtain ⟨y10, y11, y12, y13, y14, y15, y16, y17, y18, y19, yf⟩ := y3.1.get; simp only at y10 y11 y12 y13 y14 y15 y16 y17 y18 y19
      refine ⟨rfl, ?_⟩
      clear hall HCL
      go_simp
      have Y3 := Lib.hid y3
      clear hW y2 y3 HS
      go_wp2_with fail
      go_roundw
      case rel =>
        obtain ⟨hx3, hz3, hb3, _⟩ := Y3.out
        have hlg := HG.out
        refine ⟨k + 1, by omega, by go_num, ?_, ?_, below_row hb3 (Nat.le_of_lt hlg) _ _ _ _ _ _ _ _ _ _⟩
        · exact (((((((((hz3.far _ _ _ (by omega)).far _ _ _ (by omega)).far _ _ _ (by omega)).far _ _ _ (by omega)).far _ _ _ (by omega)).far _ _ _ (by omega)).far _ _ _ (by omega)).far _ _ _ (by omega)).far _ _ _ (by omega)).far _ _ _ (by omega)
        · rw [HR2.out]; exact hx3.all ⟨key2, kind2, sum2, st2, last2, n2, mn2, mx2, total2, dropped2⟩
      case measure => simp [intOf]; omega
    · have HG3 := Lib.hid (show ringV { zeroR with key := key, kind := 3 } raw 3 = ringV { zeroR with key := key, kind := 3 } raw k by
        by_cases h3 : k = 3
        · rw [h3]
        · have := HRS.out (by omega) (3 - k); rwa [show k + (3 - k) = 3 by omega] at this)
      rw [HG3.out] at HTR
      clear HRS HRN HG3 hkey HK
      generalize ringV { zeroR with key := key, kind := 3 } raw k = r at *
      have HGO := Lib.hid hgo
      clear hgo
      obtain ⟨key', kind', sum', st', last', n', mn', mx', total', dropped'⟩ := r
      by_cases h3 : k < 3
      · have hkt : t ≤ (k : Int) := by have := HGO.out; omega
        by_cases hn3 : n' = 3
        · subst hn3
          have HE := Lib.hid (show R.v ⟨key', kind', sum', st', last', 3, mn', mx', total', dropped'⟩ = (timerRow key raw).v by rw [HTR.out, show dropRow ⟨key', kind', sum', st', last', 3, mn', mx', total', dropped'⟩ t = ⟨key', kind', sum', st', last', 3, mn', mx', total', dropped'⟩ from if_neg (fun x => by have := x.2; omega)])
          clear HTR HGO
          generalize (timerRow key raw).v = out at *
          have d1 : (k : Int) < 3 := by omega
          have d2 : decide ((k : Int) < t) = false := by rw [decide_eq_false]; omega
          have d3 : decide ((3 : Int) < t) = false := by rw [decide_eq_false]; omega
          have hlg := HG.out
          obtain ⟨x0, x1, x2, x3, x4, x5, x6, x7, x8, x9, xf⟩ := hx.get
          obtain ⟨z0, z1, z2, z3, z4, z5, z6, z7, z8, z9, zf⟩ := hz.get
          simp only [zeroR] at x0 x1 x2 x3 x4 x5 x6 x7 x8 x9 z0 z1 z2 z3 z4 z5 z6 z7 z8 z9
          have HZ := Lib.hid hz
          have HX := Lib.hid hx
          have HB := Lib.hid hb
          clear hz hx hb
          go_wp2_with fail
          exact bodyPost_ret (v := R.v ⟨key', kind', sum', st', last', 3, mn', mx', total', dropped'⟩) (by simp [results, Tryz.results55, go_sem, R.v, x0, x1, x2, x3, x4, x5, x6, x7, x8, x9, z0, z1, z2, z3, z4, z5, z6, z7, z8, z9]) rfl ⟨by rw [← HE.out], (below_row HB.out (Nat.le_refl _) _ _ _ _ _ _ _ _ _ _)⟩
        · have e3 : (n' == 3) = false := by rw [beq_eq_false_iff_ne]; exact hn3
          have HE := Lib.hid (show R.v ⟨key', kind', sum', st', last', n', mn', mx', total', dropped'⟩ = (timerRow key raw).v by rw [HTR.out, show dropRow ⟨key', kind', sum', st', last', n', mn', mx', total', dropped'⟩ t = ⟨key', kind', sum', st', last', n', mn', mx', total', dropped'⟩ from if_neg (fun x => hn3 x.1)])
          clear HTR HGO
          generalize (timerRow key raw).v = out at *
          have d1 : (k : Int) < 3 := by omega
          have d2 : decide ((k : Int) < t) = false := by rw [decide_eq_false]; omega
          have hlg := HG.out
          obtain ⟨x0, x1, x2, x3, x4, x5, x6, x7, x8, x9, xf⟩ := hx.get
          obtain ⟨z0, z1, z2, z3, z4, z5, z6, z7, z8, z9, zf⟩ := hz.get
          simp only [zeroR] at x0 x1 x2 x3 x4 x5 x6 x7 x8 x9 z0 z1 z2 z3 z4 z5 z6 z7 z8 z9
          have HZ := Lib.hid hz
          have HX := Lib.hid hx
          have HB := Lib.hid hb
          clear hz hx hb
          go_wp2_with fail
          exact bodyPost_ret (v := R.v ⟨key', kind', sum', st', last', n', mn', mx', total', dropped'⟩) (by simp [results, Tryz.results55, go_sem, R.v, x0, x1, x2, x3, x4, x5, x6, x7, x8, x9, z0, z1, z2, z3, z4, z5, z6, z7, z8, z9]) rfl ⟨by rw [← HE.out], (below_row HB.out (Nat.le_refl _) _ _ _ _ _ _ _ _ _ _)⟩
      · have hk3 : k = 3 := by omega
        subst hk3
        by_cases hn3 : n' = 3
        · subst hn3
          by_cases ht3 : 3 < t
          · by_cases hm : 65535 < t - 3
            · have hdr := hm
              have HE := Lib.hid (show R.v ⟨key', kind', sum', st', last', 3, mn', mx', total', 65535⟩ = (timerRow key raw).v by rw [HTR.out, show dropRow ⟨key', kind', sum', st', last', 3, mn', mx', total', dropped'⟩ t = ⟨key', kind', sum', st', last', 3, mn', mx', total', 65535⟩ from (if_pos ⟨rfl, ht3⟩).trans (by rw [show (if t - 3 < 65535 then t - 3 else 65535) = 65535 by split <;> omega])])
              clear HTR HGO
              generalize (timerRow key raw).v = out at *
              have d0 := h3
              have d3 : decide ((3 : Int) < t) = true := by rw [decide_eq_true]; omega
              have m1 : min (t - 3) 65535 = 65535 := by omega
              have hlg := HG.out
              obtain ⟨x0, x1, x2, x3, x4, x5, x6, x7, x8, x9, xf⟩ := hx.get
              simp only at x0 x1 x2 x3 x4 x5 x6 x7 x8 x9
              have HZ := Lib.hid hz
              have HX := Lib.hid hx
              have HB := Lib.hid hb
              clear hz hx hb
              go_upto_region 21 with fail
              refine wp_row ⟨key', kind', sum', st', last', 3, mn', mx', total', 65535⟩ HX.out HZ.out HB.out (Nat.le_of_lt HG.out) (by have := HG.out; omega) rfl ?_
              clear x0 x1 x2 x3 x4 x5 x6 x7 x8 x9 xf HX HZ HB c4
              intro w2 hx hz hb
              obtain ⟨x0, x1, x2, x3, x4, x5, x6, x7, x8, x9, xf⟩ := hx.get
              obtain ⟨z0, z1, z2, z3, z4, z5, z6, z7, z8, z9, zf⟩ := hz.get
              simp only [zeroR] at x0 x1 x2 x3 x4 x5 x6 x7 x8 x9 z0 z1 z2 z3 z4 z5 z6 z7 z8 z9
              have HZ := Lib.hid hz
              have HX := Lib.hid hx
              have HB := Lib.hid hb
              clear hz hx hb
              go_wp2_with fail
              exact bodyPost_ret (v := R.v ⟨key', kind', sum', st', last', 3, mn', mx', total', 65535⟩) (by simp [results, Tryz.results55, go_sem, R.v, x0, x1, x2, x3, x4, x5, x6, x7, x8, x9, z0, z1, z2, z3, z4, z5, z6, z7, z8, z9]) rfl ⟨by rw [← HE.out], (below_row HB.out (Nat.le_refl _) _ _ _ _ _ _ _ _ _ _)⟩
            · have hdr := hm
              have HE := Lib.hid (show R.v ⟨key', kind', sum', st', last', 3, mn', mx', total', (t - 3)⟩ = (timerRow key raw).v by rw [HTR.out, show dropRow ⟨key', kind', sum', st', last', 3, mn', mx', total', dropped'⟩ t = ⟨key', kind', sum', st', last', 3, mn', mx', total', (t - 3)⟩ from (if_pos ⟨rfl, ht3⟩).trans (by rw [show (if t - 3 < 65535 then t - 3 else 65535) = (t - 3) by split <;> omega])])
              clear HTR HGO
              generalize (timerRow key raw).v = out at *
              have d0 := h3
              have d3 : decide ((3 : Int) < t) = true := by rw [decide_eq_true]; omega
              have m1 : min (t - 3) 65535 = t - 3 := by omega
              have hlg := HG.out
              obtain ⟨x0, x1, x2, x3, x4, x5, x6, x7, x8, x9, xf⟩ := hx.get
              simp only at x0 x1 x2 x3 x4 x5 x6 x7 x8 x9
              have HZ := Lib.hid hz
              have HX := Lib.hid hx
              have HB := Lib.hid hb
              clear hz hx hb
              go_upto_region 21 with fail
              refine wp_row ⟨key', kind', sum', st', last', 3, mn', mx', total', (t - 3)⟩ HX.out HZ.out HB.out (Nat.le_of_lt HG.out) (by have := HG.out; omega) rfl ?_
              clear x0 x1 x2 x3 x4 x5 x6 x7 x8 x9 xf HX HZ HB c4
              intro w2 hx hz hb
              obtain ⟨x0, x1, x2, x3, x4, x5, x6, x7, x8, x9, xf⟩ := hx.get
              obtain ⟨z0, z1, z2, z3, z4, z5, z6, z7, z8, z9, zf⟩ := hz.get
              simp only [zeroR] at x0 x1 x2 x3 x4 x5 x6 x7 x8 x9 z0 z1 z2 z3 z4 z5 z6 z7 z8 z9
              have HZ := Lib.hid hz
              have HX := Lib.hid hx
              have HB := Lib.hid hb
              clear hz hx hb
              go_wp2_with fail
              exact bodyPost_ret (v := R.v ⟨key', kind', sum', st', last', 3, mn', mx', total', (t - 3)⟩) (by simp [results, Tryz.results55, go_sem, R.v, x0, x1, x2, x3, x4, x5, x6, x7, x8, x9, z0, z1, z2, z3, z4, z5, z6, z7, z8, z9]) rfl ⟨by rw [← HE.out], (below_row HB.out (Nat.le_refl _) _ _ _ _ _ _ _ _ _ _)⟩
          · have hdr := ht3
            have HE := Lib.hid (show R.v ⟨key', kind', sum', st', last', 3, mn', mx', total', dropped'⟩ = (timerRow key raw).v by rw [HTR.out, show dropRow ⟨key', kind', sum', st', last', 3, mn', mx', total', dropped'⟩ t = ⟨key', kind', sum', st', last', 3, mn', mx', total', dropped'⟩ from if_neg (fun x => ht3 x.2)])
            clear HTR HGO
            generalize (timerRow key raw).v = out at *
            have d0 := h3
            have d3 : decide ((3 : Int) < t) = false := by rw [decide_eq_false]; omega
            have hlg := HG.out
            obtain ⟨x0, x1, x2, x3, x4, x5, x6, x7, x8, x9, xf⟩ := hx.get
            obtain ⟨z0, z1, z2, z3, z4, z5, z6, z7, z8, z9, zf⟩ := hz.get
            simp only [zeroR] at x0 x1 x2 x3 x4 x5 x6 x7 x8 x9 z0 z1 z2 z3 z4 z5 z6 z7 z8 z9
            have HZ := Lib.hid hz
            have HX := Lib.hid hx
            have HB := Lib.hid hb
            clear hz hx hb
            go_wp2_with fail
            exact bodyPost_ret (v := R.v ⟨key', kind', sum', st', last', 3, mn', mx', total', dropped'⟩) (by simp [results, Tryz.results55, go_sem, R.v, x0, x1, x2, x3, x4, x5, x6, x7, x8, x9, z0, z1, z2, z3, z4, z5, z6, z7, z8, z9]) rfl ⟨by rw [← HE.out], (below_row HB.out (Nat.le_refl _) _ _ _ _ _ _ _ _ _ _)⟩
        · have e3 : (n' == 3) = false := by rw [beq_eq_false_iff_ne]; exact hn3
          have HE := Lib.hid (show R.v ⟨key', kind', sum', st', last', n', mn', mx', total', dropped'⟩ = (timerRow key raw).v by rw [HTR.out, show dropRow ⟨key', kind', sum', st', last', n', mn', mx', total', dropped'⟩ t = ⟨key', kind', sum', st', last', n', mn', mx', total', dropped'⟩ from if_neg (fun x => hn3 x.1)])
          clear HTR HGO
          generalize (timerRow key raw).v = out at *
          have d0 := h3
          have hlg := HG.out
          obtain ⟨x0, x1, x2, x3, x4, x5, x6, x7, x8, x9, xf⟩ := hx.get
          obtain ⟨z0, z1, z2, z3, z4, z5, z6, z7, z8, z9, zf⟩ := hz.get
          simp only [zeroR] at x0 x1 x2 x3 x4 x5 x6 x7 x8 x9 z0 z1 z2 z3 z4 z5 z6 z7 z8 z9
          have HZ := Lib.hid hz
          have HX := Lib.hid hx
          have HB := Lib.hid hb
          clear hz hx hb
          go_wp2_with fail
          exact bodyPost_ret (v := R.v ⟨key', kind', sum', st', last', n', mn', mx', total', dropped'⟩) (by simp [results, Tryz.results55, go_sem, R.v, x0, x1, x2, x3, x4, x5, x6, x7, x8, x9, z0, z1, z2, z3, z4, z5, z6, z7, z8, z9]) rfl ⟨by rw [← HE.out], (below_row HB.out (Nat.le_refl _) _ _ _ _ _ _ _ _ _ _)⟩
theorem sRowFrom_any (w : World) (tag : Int) (v : Value) (raw : List Int) (h : IntsArg w v raw) (hf : Fit raw) : Calls Tryz.prog 55 #[.int .i64 tag, v] w (Gives (rowFromV tag raw).v w) := by
  cases hu : untagV tag with
  | none => rw [rowFrom_none hu]; exact sRowFrom_no w tag v raw h (.inl hu)
  | some x =>
    by_cases hl : raw.length = 8
    · obtain ⟨key, kd⟩ := x
      obtain ⟨_, _, hk1, hk3⟩ := tag_untag hu
      rw [rowFrom_some hu hl]
      have hk : kd = 1 ∨ kd = 2 ∨ kd = 3 := by omega
      rcases hk with rfl | rfl | rfl
      · exact sRowFrom_count w tag v raw h hf key hu hl
      · exact sRowFrom_gauge w tag v raw h hf key hu hl
      · exact sRowFrom_timer w tag v raw h hf key hu hl
    · rw [rowFrom_len hu hl]; exact sRowFrom_no w tag v raw h (.inr hl)
end Go.Proofs.YtlnkjpacjbhncaaGreatDoor
