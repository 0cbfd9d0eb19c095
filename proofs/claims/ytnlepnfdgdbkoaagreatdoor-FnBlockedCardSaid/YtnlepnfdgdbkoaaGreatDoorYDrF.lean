/-
  Texts of this seat, laid together.
-/
import Derived.Test.YtnlepnfdgdbkoaaGreatDoorYDrJ
import Derived.Test.YtnlepnfdgdbkoaaGreatDoorYZb
namespace Go.Proofs.YtnlepnfdgdbkoaaGreatDoor
open Go.RowKit M
set_option linter.unusedVariables false
set_option linter.unusedSimpArgs false
theorem arg_take {w : World} {b off cap : Nat} {raw : List Int} (hb : b < w.heap.size) (hc : ∀ j, j < raw.length → w.cell? ⟨b, off + j, none⟩ = some (.int .i64 (raw.getD j 0))) (hcap : raw.length ≤ cap) (hm : cap ≤ maxLen) (k : Nat) (hk : k ≤ raw.length) : IntsArg w (.slice (some ⟨b, off, none⟩) k cap) (raw.take k) := by
  have e : (raw.take k).length = k := by rw [List.length_take]; omega
  refine ⟨_, cap, by rw [e], by omega, hm, fun _ => ⟨b, off, rfl, hb, fun j hj => ?_⟩⟩
  rw [e] at hj
  rw [hc j (by omega), List.getD_eq_getElem?_getD, List.getD_eq_getElem?_getD, List.getElem?_take_of_lt hj]
theorem arg_drop {w : World} {b off cap : Nat} {raw : List Int} (hb : b < w.heap.size) (hc : ∀ j, j < raw.length → w.cell? ⟨b, off + j, none⟩ = some (.int .i64 (raw.getD j 0))) (hcap : raw.length ≤ cap) (hm : cap ≤ maxLen) (k n : Nat) (hk : k + n = raw.length) : IntsArg w (.slice (some ⟨b, off + k, none⟩) n (cap - k)) (raw.drop k) := by
  have e : (raw.drop k).length = n := by rw [List.length_drop]; omega
  refine ⟨_, cap - k, by rw [e], by omega, by omega, fun _ => ⟨b, off + k, rfl, hb, fun j hj => ?_⟩⟩
  rw [e] at hj
  rw [Nat.add_assoc, hc (k + j) (by omega), List.getD_eq_getElem?_getD, List.getD_eq_getElem?_getD, List.getElem?_drop]
theorem iSum_two {w : World} {b off cap : Nat} {raw : List Int} (hb : b < w.heap.size) (hc : ∀ j, j < raw.length → w.cell? ⟨b, off + j, none⟩ = some (.int .i64 (raw.getD j 0))) (hcap : raw.length ≤ cap) (hm : cap ≤ maxLen) (hl : raw.length = 8) :
    Calls Tryz.prog 129 #[.slice (some ⟨b, off, none⟩) 2 cap] w (Gives (.int .i64 (sumT raw 2)) w) := by
  have h := iSum_any w _ _ (arg_take hb hc hcap hm 2 (by omega))
  have e : (raw.take 2).length = 2 := by rw [List.length_take]; omega
  rw [e, sum_two] at h
  exact h
theorem drH_bel {w0 w1 : World} {g o b : Nat} {r : R} {p : Prop} (h : p ∧ DrHeld w0 g o b r w1) : Below w0.heap.size w0 w1 := h.2.2.2.1
theorem ungA_set (z : Int) : (ungA z != 0) = decide (0 < ungA z) := by
  have h : 0 ≤ ungA z := by unfold ungA; split <;> omega
  generalize ungA z = a at *
  by_cases e : a = 0
  · subst e; rfl
  · rw [bne_iff_ne.2 e, decide_eq_true (by omega : 0 < a)]
set_option maxRecDepth 100000 in
set_option maxHeartbeats 8000000 in
theorem iRowFrom_count (w : World) (tag : Int) (v : Value) (raw : List Int) (h : IntsArg w v raw) (hf : Fit raw) (h0 : -9223372036854775808 ≤ tag) (h1 : tag ≤ 9223372036854775807) (key : ByteArray) (hu : untagV tag = some (key, 1)) (hl : raw.length = 8) : Calls Tryz.prog 124 #[.int .i64 tag, v] w (Gives (countRow key raw).v w) := by
  obtain ⟨A, cap, rfl, hn, hm, h3⟩ := h
  have hcap := hm
  unfold maxLen at hcap
  have HU := fun W => Lib.hid (iUntag_any W tag h0 h1)
  have H3 := Lib.hid h3
  clear h3 h0 h1
  rw [hu, untT_some] at HU
  have HK := Lib.hid (show key.size ≤ maxLen by have := keyOkV_iff.1 (tag_untag hu).2.1; unfold maxLen; omega)
  rw [hl] at H3 hn ⊢
  obtain ⟨b, off, rfl, hbl, hc⟩ := H3.out (by omega)
  have hn8 : 8 ≤ cap := by omega
  have HL := Lib.hid hl
  have HA := Lib.hid hm
  clear H3 hu hm hn
  have HC := Lib.hid hc
  have HF := Lib.hid hf
  clear hc hf hl
  go_enter Tryz.func124, Tryz.ntmps124
  go_wp2_with fail
  refine (HU _).out.mono ?_
  rintro e w2 ⟨rfl, hb0⟩
  have hz : RowAt w2 w.heap.size zeroR := (rowAt_new w _ zeroR rfl).below hb0
  have hb : Below w.heap.size w w2 := ((Below.refl _ _).alloc (Nat.le_refl _) _).trans (hb0.mono (by simp [go_sem]))
  clear hb0
  have hlt := hz.lt
  have HZ := Lib.hid hz
  have HB := Lib.hid hb
  clear hz hb
  go_upto_region 5 with fail
  refine wp_gen (fun w' => RowAt w' w.heap.size zeroR ∧ RowAt w' w2.heap.size ⟨key, 1, 0, false, 0, 0, 0, 0, 0, 0⟩ ∧ Below w.heap.size w w') ⟨HZ.out.alloc _, rowAt_new w2 w2.heap.size (⟨key, 1, 0, false, 0, 0, 0, 0, 0, 0⟩ : R) rfl, HB.out.alloc HB.out.size _⟩ ?_
  clear HZ HB HU
  generalize w2.heap.size = g at *
  clear w2
  rintro w2 ⟨hz, hx, hb⟩
  have HG := Lib.hid hlt
  clear hlt
  have hs := fun W (h : Below w.heap.size w W) => Lib.hid (iSum_two (w := W) (b := b) (off := off) (cap := cap) (raw := raw) (Nat.lt_of_lt_of_le hbl h.size) (fun j hj => (h.cell (p := ⟨b, off + j, none⟩) hbl).trans (HC.out j (by rw [HL.out] at hj; exact hj))) (by rw [HL.out]; exact hn8) HA.out HL.out)
  have HE := Lib.hid (show R.v ⟨key, 1, sumT raw 2, false, 0, 0, 0, 0, 0, 0⟩ = (countRow key raw).v from rfl)
  generalize (countRow key raw).v = out at *
  generalize sumT raw 2 = q at *
  have HZ := Lib.hid hz
  have HX := Lib.hid hx
  have HB := Lib.hid hb
  clear hx hz hb
  go_wp2_with fail
  refine (hs _ HB.out).out.mono ?_
  rintro e w3 ⟨rfl, hb3⟩
  have hx3 := HX.out.below hb3
  have HX3 := Lib.hid hx3
  have HZ3 := Lib.hid (HZ.out.below hb3)
  have HB3 := Lib.hid (HB.out.trans (hb3.mono HB.out.size))
  obtain ⟨x0, x1, x2, x3, x4, x5, x6, x7, x8, x9, xf⟩ := hx3.get
  clear hx3 hb3 HX HZ HB hs
  go_upto_region 13 with fail
  refine wp_row ⟨key, 1, q, false, 0, 0, 0, 0, 0, 0⟩ HX3.out HZ3.out HB3.out (Nat.le_of_lt HG.out) (by have := HG.out; omega) rfl ?_
  clear x0 x1 x2 x3 x4 x5 x6 x7 x8 x9 xf HX3 HZ3 HB3
  intro w4 hx hz hb
  have hlg := HG.out
  obtain ⟨x0, x1, x2, x3, x4, x5, x6, x7, x8, x9, xf⟩ := hx.get
  obtain ⟨z0, z1, z2, z3, z4, z5, z6, z7, z8, z9, zf⟩ := hz.get
  simp only [zeroR] at x0 x1 x2 x3 x4 x5 x6 x7 x8 x9 z0 z1 z2 z3 z4 z5 z6 z7 z8 z9
  have HB := Lib.hid hb
  clear hx hz hb
  go_wp2_with fail
  exact bodyPost_ret (v := R.v ⟨key, 1, q, false, 0, 0, 0, 0, 0, 0⟩) (by simp [results, Tryz.results124, go_sem, R.v, x0, x1, x2, x3, x4, x5, x6, x7, x8, x9, z0, z1, z2, z3, z4, z5, z6, z7, z8, z9]) rfl ⟨by rw [← HE.out], below_row HB.out (by omega) _ _ _ _ _ _ _ _ _ _⟩
set_option maxRecDepth 100000 in
set_option maxHeartbeats 8000000 in
theorem iRowFrom_gauge (w : World) (tag : Int) (v : Value) (raw : List Int) (h : IntsArg w v raw) (hf : Fit raw) (h0 : -9223372036854775808 ≤ tag) (h1 : tag ≤ 9223372036854775807) (key : ByteArray) (hu : untagV tag = some (key, 2)) (hl : raw.length = 8) : Calls Tryz.prog 124 #[.int .i64 tag, v] w (Gives (gaugeRow key raw).v w) := by
  obtain ⟨A, cap, rfl, hn, hm, h3⟩ := h
  have hcap := hm
  unfold maxLen at hcap
  have HU := fun W => Lib.hid (iUntag_any W tag h0 h1)
  have H3 := Lib.hid h3
  clear h3 h0 h1
  rw [hu, untT_some] at HU
  have HK := Lib.hid (show key.size ≤ maxLen by have := keyOkV_iff.1 (tag_untag hu).2.1; unfold maxLen; omega)
  rw [hl] at H3 hn ⊢
  obtain ⟨b, off, rfl, hbl, hc⟩ := H3.out (by omega)
  have hn8 : 8 ≤ cap := by omega
  have HL := Lib.hid hl
  have HA := Lib.hid hm
  clear H3 hu hm hn
  have HC := Lib.hid hc
  have HF := Lib.hid hf
  clear hc hf hl
  go_enter Tryz.func124, Tryz.ntmps124
  go_wp2_with fail
  refine (HU _).out.mono ?_
  rintro e w2 ⟨rfl, hb0⟩
  have hz : RowAt w2 w.heap.size zeroR := (rowAt_new w _ zeroR rfl).below hb0
  have hb : Below w.heap.size w w2 := ((Below.refl _ _).alloc (Nat.le_refl _) _).trans (hb0.mono (by simp [go_sem]))
  clear hb0
  have hlt := hz.lt
  have HZ := Lib.hid hz
  have HB := Lib.hid hb
  clear hz hb
  go_upto_region 5 with fail
  refine wp_gen (fun w' => RowAt w' w.heap.size zeroR ∧ RowAt w' w2.heap.size ⟨key, 2, 0, false, 0, 0, 0, 0, 0, 0⟩ ∧ Below w.heap.size w w') ⟨HZ.out.alloc _, rowAt_new w2 w2.heap.size (⟨key, 2, 0, false, 0, 0, 0, 0, 0, 0⟩ : R) rfl, HB.out.alloc HB.out.size _⟩ ?_
  clear HZ HB HU
  generalize w2.heap.size = g at *
  clear w2
  rintro w2 ⟨hz, hx, hb⟩
  have HG := Lib.hid hlt
  clear hlt
  have c3 := (hb.cell (p := ⟨b, off + 3, none⟩) hbl).trans (HC.out 3 (by omega))
  have HGU := fun W => Lib.hid (iUnpackGauge_any W (raw.getD 3 0) (HF.out.at 3).1 (HF.out.at 3).2)
  have HE := Lib.hid (show R.v ⟨key, 2, 0, decide (0 < ungA (raw.getD 3 0)), ungV (raw.getD 3 0), 0, 0, 0, 0, 0⟩ = (gaugeRow key raw).v from rfl)
  have hset := ungA_set (raw.getD 3 0)
  generalize (gaugeRow key raw).v = out at *
  generalize raw.getD 3 0 = z at *
  generalize decide (0 < ungA z) = st at *
  generalize ungA z = za at *
  generalize ungV z = zv at *
  have HZ := Lib.hid hz
  have HX := Lib.hid hx
  have HB := Lib.hid hb
  clear hx hz hb
  go_wp2_with fail
  refine (HGU _).out.mono ?_
  rintro e w3 ⟨rfl, hb3⟩
  have hx3 := HX.out.below hb3
  have HX3 := Lib.hid hx3
  have HZ3 := Lib.hid (HZ.out.below hb3)
  have HB3 := Lib.hid (HB.out.trans (hb3.mono HB.out.size))
  obtain ⟨x0, x1, x2, x3, x4, x5, x6, x7, x8, x9, xf⟩ := hx3.get
  clear hx3 hb3 HX HZ HB HGU c3
  have hlg := HG.out
  have HX4 := Lib.hid (HX3.out.store 3 (.bool st) ⟨key, 2, 0, st, 0, 0, 0, 0, 0, 0⟩ rfl)
  have HZ4 := Lib.hid (HZ3.out.far g 3 (.bool st) (by omega))
  have HB4 := Lib.hid (HB3.out.setCell (p := ⟨g, 3, none⟩) (Nat.le_of_lt hlg) (.bool st))
  go_upto_region 13 with fail
  refine wp_row ⟨key, 2, 0, st, zv, 0, 0, 0, 0, 0⟩ HX4.out HZ4.out HB4.out (Nat.le_of_lt HG.out) (by have := HG.out; omega) rfl ?_
  clear x0 x1 x2 x3 x4 x5 x6 x7 x8 x9 xf HX3 HZ3 HB3 HX4 HZ4 HB4
  intro w4 hx hz hb
  obtain ⟨x0, x1, x2, x3, x4, x5, x6, x7, x8, x9, xf⟩ := hx.get
  obtain ⟨z0, z1, z2, z3, z4, z5, z6, z7, z8, z9, zf⟩ := hz.get
  simp only [zeroR] at x0 x1 x2 x3 x4 x5 x6 x7 x8 x9 z0 z1 z2 z3 z4 z5 z6 z7 z8 z9
  have HB := Lib.hid hb
  clear hx hz hb
  go_wp2_with fail
  exact bodyPost_ret (v := R.v ⟨key, 2, 0, st, zv, 0, 0, 0, 0, 0⟩) (by simp [results, Tryz.results124, go_sem, R.v, x0, x1, x2, x3, x4, x5, x6, x7, x8, x9, z0, z1, z2, z3, z4, z5, z6, z7, z8, z9]) rfl ⟨by rw [← HE.out], below_row HB.out (by omega) _ _ _ _ _ _ _ _ _ _⟩
set_option maxRecDepth 100000 in
set_option maxHeartbeats 8000000 in
theorem iRowFrom_timer (w : World) (tag : Int) (v : Value) (raw : List Int) (h : IntsArg w v raw) (hf : Fit raw) (h0 : -9223372036854775808 ≤ tag) (h1 : tag ≤ 9223372036854775807) (key : ByteArray) (hu : untagV tag = some (key, 3)) (hl : raw.length = 8) : Calls Tryz.prog 124 #[.int .i64 tag, v] w (Gives (timerRow key raw).v w) := by
  obtain ⟨A, cap, rfl, hn, hm, h3⟩ := h
  have hcap := hm
  unfold maxLen at hcap
  have HU := fun W => Lib.hid (iUntag_any W tag h0 h1)
  have H3 := Lib.hid h3
  clear h3 h0 h1
  rw [hu, untT_some] at HU
  have HK := Lib.hid (show key.size ≤ maxLen by have := keyOkV_iff.1 (tag_untag hu).2.1; unfold maxLen; omega)
  rw [hl] at H3 hn ⊢
  obtain ⟨b, off, rfl, hbl, hc⟩ := H3.out (by omega)
  have hn8 : 8 ≤ cap := by omega
  have HL := Lib.hid hl
  have HA := Lib.hid hm
  clear H3 hu hm hn
  have HC := Lib.hid hc
  have HF := Lib.hid hf
  clear hc hf hl
  go_enter Tryz.func124, Tryz.ntmps124
  go_wp2_with fail
  refine (HU _).out.mono ?_
  rintro e w2 ⟨rfl, hb0⟩
  have hz : RowAt w2 w.heap.size zeroR := (rowAt_new w _ zeroR rfl).below hb0
  have hb : Below w.heap.size w w2 := ((Below.refl _ _).alloc (Nat.le_refl _) _).trans (hb0.mono (by simp [go_sem]))
  clear hb0
  have hlt := hz.lt
  have HZ := Lib.hid hz
  have HB := Lib.hid hb
  clear hz hb
  go_upto_region 5 with fail
  refine wp_gen (fun w' => RowAt w' w.heap.size zeroR ∧ RowAt w' w2.heap.size ⟨key, 3, 0, false, 0, 0, 0, 0, 0, 0⟩ ∧ Below w.heap.size w w') ⟨HZ.out.alloc _, rowAt_new w2 w2.heap.size (⟨key, 3, 0, false, 0, 0, 0, 0, 0, 0⟩ : R) rfl, HB.out.alloc HB.out.size _⟩ ?_
  clear HZ HB HU
  generalize w2.heap.size = g at *
  clear w2
  rintro w2 ⟨hz, hx, hb⟩
  have HG := Lib.hid hlt
  clear hlt
  have HFX := Lib.hid (show R.Fit ⟨key, 3, 0, false, 0, 0, 0, 0, 0, 0⟩ from by constructor <;> (try unfold inW) <;> (try simp only) <;> first | exact HK.out | omega)
  have HSF := fun W (h : Below w.heap.size w W) => Lib.hid (iSampledFrom_any W ⟨key, 3, 0, false, 0, 0, 0, 0, 0, 0⟩ (raw.getD 4 0) _ raw (arg_drop (w := W) (b := b) (off := off) (cap := cap) (raw := raw) (Nat.lt_of_lt_of_le hbl h.size) (fun j hj => (h.cell (p := ⟨b, off + j, none⟩) hbl).trans (HC.out j (by rw [HL.out] at hj; exact hj))) (by rw [HL.out]; exact hn8) HA.out 5 3 (by rw [HL.out])) HF.out HL.out rfl HFX.out)
  have c4 := (hb.cell (p := ⟨b, off + 4, none⟩) hbl).trans (HC.out 4 (by omega))
  have HE := Lib.hid (show (dropRow (ringV ⟨key, 3, 0, false, 0, 0, 0, 0, 0, 0⟩ raw 3) (raw.getD 4 0)).v = (timerRow key raw).v from rfl)
  generalize (timerRow key raw).v = out at *
  obtain ⟨f0, f1⟩ := HF.out.at 4
  generalize raw.getD 4 0 = t at *
  generalize dropRow (ringV ⟨key, 3, 0, false, 0, 0, 0, 0, 0, 0⟩ raw 3) t = r2 at *
  have HS := Lib.hid (drR_next (below_drew _ _) (show w2.cell? ⟨b, off + 4, none⟩ = some (.int .i64 t) ∧ DrHeld w g w.heap.size b ⟨key, 3, 0, false, 0, 0, 0, 0, 0, 0⟩ w2 from ⟨c4, hx, hz, hb, hbl⟩))
  clear hx hz hb c4 HK HFX
  obtain ⟨key2, kind2, sum2, st2, last2, n2, mn2, mx2, total2, dropped2⟩ := r2
  unfold R.v at HSF
  simp only at HSF
  have hc5 : ¬ cap = 5 := by omega
  go_upto_region 12 with fail
  have HCL := (⟨HS.out⟩ : HoldsC (fun W => W.cell? ⟨b, off + 4, none⟩ = some (.int .i64 t) ∧ DrHeld w g w.heap.size b ⟨key, 3, 0, false, 0, 0, 0, 0, 0, 0⟩ W) _)
  have hall : ∀ p : Prop, (∀ W, HoldsC (fun W => W.cell? ⟨b, off + 4, none⟩ = some (.int .i64 t) ∧ DrHeld w g w.heap.size b ⟨key, 3, 0, false, 0, 0, 0, 0, 0, 0⟩ W) W → p) ↔ p := fun p => ⟨fun h => h _ HCL, fun h _ _ => h⟩
  refine wp_region_tail_lit (C := HoldsC (fun W => W.cell? ⟨b, off + 4, none⟩ = some (.int .i64 t) ∧ DrHeld w g w.heap.size b ⟨key, 3, 0, false, 0, 0, 0, 0, 0, 0⟩ W)) (by kernel_rfl) (by kernel_rfl) rfl HCL ?_
  repeat (refine WQ.step (fun K hK => ?_); go_simp; first | (refine hK _ ?_; clear hK K) | (apply Exists.intro; refine ⟨fun W hW => ?_, hK _ ?_⟩; (focus (first | (go_at_call 130; (with_reducible refine Calls.mono (HSF _ (drH_bel hW.out)).out ?_); rintro e w' ⟨rfl, hb'⟩; exact ⟨rfl, ⟨drR_next hb' hW.out⟩⟩) | exact rfl | (obtain ⟨y2, y3⟩ := hW.out; obtain ⟨y10, y11, y12, y13, y14, y15, y16, y17, y18, y19, yf⟩ := y3.1.get; simp only at y10 y11 y12 y13 y14 y15 y16 y17 y18 y19; go_simp; rfl))); clear hK K))
  refine WQ.nil ?_
  intro W hW
  obtain ⟨y2, y3⟩ := hW.out; obtain ⟨y10, y11, y12, y13, y14, y15, y16, y17, y18, y19, yf⟩ := y3.1.get; simp only at y10 y11 y12 y13 y14 y15 y16 y17 y18 y19
  refine ⟨rfl, ?_⟩
  clear hall HCL
  go_simp
  have Y3 := Lib.hid y3
  clear hW y2 y3 HS
  go_upto_region 13 with fail
  obtain ⟨hx3, hz3, hb3, _⟩ := Y3.out
  have hlg := HG.out
  refine wp_gen (fun w' => RowAt w' g ⟨key2, kind2, sum2, st2, last2, n2, mn2, mx2, total2, dropped2⟩ ∧ RowAt w' w.heap.size zeroR ∧ Below w.heap.size w w') ⟨hx3.all ⟨key2, kind2, sum2, st2, last2, n2, mn2, mx2, total2, dropped2⟩, ?_, below_row hb3 (Nat.le_of_lt hlg) _ _ _ _ _ _ _ _ _ _⟩ ?_
  · exact (((((((((hz3.far _ _ _ (by omega)).far _ _ _ (by omega)).far _ _ _ (by omega)).far _ _ _ (by omega)).far _ _ _ (by omega)).far _ _ _ (by omega)).far _ _ _ (by omega)).far _ _ _ (by omega)).far _ _ _ (by omega)).far _ _ _ (by omega)
  clear Y3 hx3 hz3 hb3 y10 y11 y12 y13 y14 y15 y16 y17 y18 y19 yf
  rintro w4 ⟨hx, hz, hb⟩
  obtain ⟨x0, x1, x2, x3, x4, x5, x6, x7, x8, x9, xf⟩ := hx.get
  obtain ⟨z0, z1, z2, z3, z4, z5, z6, z7, z8, z9, zf⟩ := hz.get
  simp only [zeroR] at x0 x1 x2 x3 x4 x5 x6 x7 x8 x9 z0 z1 z2 z3 z4 z5 z6 z7 z8 z9
  have HB := Lib.hid hb
  clear hx hz hb
  go_wp2_with fail
  exact bodyPost_ret (v := R.v ⟨key2, kind2, sum2, st2, last2, n2, mn2, mx2, total2, dropped2⟩) (by simp [results, Tryz.results124, go_sem, R.v, x0, x1, x2, x3, x4, x5, x6, x7, x8, x9, z0, z1, z2, z3, z4, z5, z6, z7, z8, z9]) rfl ⟨by rw [← HE.out], below_row HB.out (by omega) _ _ _ _ _ _ _ _ _ _⟩
set_option maxRecDepth 100000 in
set_option maxHeartbeats 8000000 in
theorem iRowFrom_no (w : World) (tag : Int) (v : Value) (raw : List Int) (h : IntsArg w v raw) (h0 : -9223372036854775808 ≤ tag) (h1 : tag ≤ 9223372036854775807) (hn : untagV tag = none ∨ raw.length ≠ 8) : Calls Tryz.prog 124 #[.int .i64 tag, v] w (Gives zeroR.v w) := by
  obtain ⟨A, cap, rfl, hnc, hm, h3⟩ := h
  unfold maxLen at hm
  have HU := fun W => Lib.hid (iUntag_any W tag h0 h1)
  have H3 := Lib.hid h3
  clear h3 h0 h1
  cases hu : untagV tag with
  | none =>
    rw [hu, untT_none] at HU
    clear hu hn
    generalize raw.length = n at *
    go_enter Tryz.func124, Tryz.ntmps124
    go_wp2_with fail
    refine (HU _).out.mono ?_
    rintro e w2 ⟨rfl, hb0⟩
    have hz : RowAt w2 w.heap.size zeroR := (rowAt_new w _ zeroR rfl).below hb0
    have hb : Below w.heap.size w w2 := ((Below.refl _ _).alloc (Nat.le_refl _) _).trans (hb0.mono (by simp [go_sem]))
    obtain ⟨z0, z1, z2, z3, z4, z5, z6, z7, z8, z9, zf⟩ := hz.get
    simp only [zeroR] at z0 z1 z2 z3 z4 z5 z6 z7 z8 z9
    have HB := Lib.hid hb
    clear hb0 hz hb HU
    go_wp2_with fail
    exact bodyPost_ret (v := zeroR.v) (by simp [results, Tryz.results124, go_sem, zeroR, R.v, z0, z1, z2, z3, z4, z5, z6, z7, z8, z9]) rfl ⟨rfl, below_row HB.out (Nat.le_refl _) _ _ _ _ _ _ _ _ _ _⟩
  | some x =>
    obtain ⟨key, kd⟩ := x
    have hl8 : raw.length ≠ 8 := by
      rcases hn with h | h
      · rw [hu] at h; cases h
      · exact h
    obtain ⟨_, hko, hk1, hk3⟩ := tag_untag hu
    rw [hu, untT_some] at HU
    have hk0 : (kd == 0) = false := by rw [beq_eq_false_iff_ne]; omega
    clear hu hn hko
    generalize raw.length = n at *
    have hl9 : ((n : Int) != 8) = true := by rw [bne_iff_ne]; omega
    go_enter Tryz.func124, Tryz.ntmps124
    go_wp2_with fail
    refine (HU _).out.mono ?_
    rintro e w2 ⟨rfl, hb0⟩
    have hz : RowAt w2 w.heap.size zeroR := (rowAt_new w _ zeroR rfl).below hb0
    have hb : Below w.heap.size w w2 := ((Below.refl _ _).alloc (Nat.le_refl _) _).trans (hb0.mono (by simp [go_sem]))
    obtain ⟨z0, z1, z2, z3, z4, z5, z6, z7, z8, z9, zf⟩ := hz.get
    simp only [zeroR] at z0 z1 z2 z3 z4 z5 z6 z7 z8 z9
    have HB := Lib.hid hb
    clear hb0 hz hb HU
    go_wp2_with fail
    exact bodyPost_ret (v := zeroR.v) (by simp [results, Tryz.results124, go_sem, zeroR, R.v, z0, z1, z2, z3, z4, z5, z6, z7, z8, z9]) rfl ⟨rfl, below_row HB.out (Nat.le_refl _) _ _ _ _ _ _ _ _ _ _⟩
theorem iRowFrom_any (w : World) (tag : Int) (v : Value) (raw : List Int) (h : IntsArg w v raw) (hf : Fit raw) (h0 : -9223372036854775808 ≤ tag) (h1 : tag ≤ 9223372036854775807) : Calls Tryz.prog 124 #[.int .i64 tag, v] w (Gives (rowFromV tag raw).v w) := by
  cases hu : untagV tag with
  | none => rw [rowFrom_none hu]; exact iRowFrom_no w tag v raw h h0 h1 (.inl hu)
  | some x =>
    by_cases hl : raw.length = 8
    · obtain ⟨key, kd⟩ := x
      obtain ⟨_, _, hk1, hk3⟩ := tag_untag hu
      rw [rowFrom_some hu hl]
      have hk : kd = 1 ∨ kd = 2 ∨ kd = 3 := by omega
      rcases hk with rfl | rfl | rfl
      · exact iRowFrom_count w tag v raw h hf h0 h1 key hu hl
      · exact iRowFrom_gauge w tag v raw h hf h0 h1 key hu hl
      · exact iRowFrom_timer w tag v raw h hf h0 h1 key hu hl
    · rw [rowFrom_len hu hl]; exact iRowFrom_no w tag v raw h h0 h1 (.inr hl)
end Go.Proofs.YtnlepnfdgdbkoaaGreatDoor
