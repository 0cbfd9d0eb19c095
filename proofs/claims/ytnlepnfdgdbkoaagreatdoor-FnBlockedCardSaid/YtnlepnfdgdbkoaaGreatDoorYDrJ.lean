/-
  Texts of this seat, laid together.
-/
import Derived.Test.YtnlepnfdgdbkoaaGreatDoorYMi
import Derived.Test.YtnlepnfdgdbkoaaGreatDoorYRowI
namespace Go.Proofs.YtnlepnfdgdbkoaaGreatDoor
open Go.RowKit M
set_option linter.unusedVariables false
set_option linter.unusedSimpArgs false
theorem i64_and48 (n : Int) : bits .and .i64 n 281474976710655 = n % 281474976710656 := by
  have h48 : (BitVec.ofInt 64 281474976710655).toNat = 2 ^ 48 - 1 := by decide
  have key : (BitVec.ofInt 64 n &&& BitVec.ofInt 64 281474976710655).toNat = (n % ((2 ^ 64 : Nat) : Int)).toNat % 2 ^ 48 := by
    rw [BitVec.toNat_and, BitVec.toNat_ofInt, h48, Nat.and_two_pow_sub_one_eq_mod]
  show IntKind.i64.wrap ((BitVec.ofInt 64 n &&& BitVec.ofInt 64 281474976710655).toNat : Nat) = n % 281474976710656
  rw [key, IntKind.wrap_i64]
  omega
def sumTo (zs : List Int) : Nat → Int
  | 0 => 0
  | k + 1 => sumTo zs k + zs.getD k 0
theorem wrap_add (a b : Int) : IntKind.i64.wrap (IntKind.i64.wrap a + b) = IntKind.i64.wrap (a + b) := by rw [IntKind.wrap_i64, IntKind.wrap_i64, IntKind.wrap_i64]; omega
theorem wrap_mod (a : Int) : IntKind.i64.wrap a % 281474976710656 = modW a := by rw [IntKind.wrap_i64]; unfold modW; omega
theorem sum_two (raw : List Int) : modW (sumTo (raw.take 2) 2) = sumT raw 2 := by
  have e : ∀ k, k < 2 → (raw.take 2).getD k 0 = raw.getD k 0 := fun k hk => by
    rw [List.getD_eq_getElem?_getD, List.getElem?_take_of_lt hk, List.getD_eq_getElem?_getD]
  show modW (0 + (raw.take 2).getD 0 0 + (raw.take 2).getD 1 0) = modW (modW (0 + modW (raw.getD 0 0)) + modW (raw.getD 1 0))
  rw [e 0 (by omega), e 1 (by omega)]
  unfold modW
  omega
set_option maxRecDepth 100000 in
set_option maxHeartbeats 4000000 in
theorem iSum_any (w : World) (v : Value) (zs : List Int) (h : IntsArg w v zs) : Calls Tryz.prog 129 #[v] w (Gives (.int .i64 (modW (sumTo zs zs.length))) w) := by
  obtain ⟨A, cap, rfl, h1, h2, h3⟩ := h
  unfold maxLen at h2
  generalize hn : zs.length = n at *
  clear hn
  have H3 := Lib.hid h3
  clear h3
  have HM := fun a => Lib.hid (wrap_mod a)
  go_enter Tryz.func129, Tryz.ntmps129
  go_wp2_with fail
  go_loopw [3, 8] (fun s i wr => ∃ j : Nat, j ≤ n ∧ i = .int .i64 j ∧ s = .int .i64 (IntKind.i64.wrap (sumTo zs j)) ∧ Below w.heap.size w wr) (fun _ i _ => n - (intOf i).toNat)
  case atStart => exact ⟨0, Nat.zero_le _, rfl, rfl, Below.refl _ _⟩
  case round =>
    obtain ⟨j, hj, rfl, rfl, hbl⟩ := hrel
    by_cases hlt : j < n
    · obtain ⟨b, off, rfl, hb, hc⟩ := H3.out (by omega)
      have c1 := (hbl.cell (p := ⟨b, off + j, none⟩) hb).trans (hc j hlt)
      have HN := Lib.hid (show sumTo zs (j + 1) = sumTo zs j + zs.getD j 0 from rfl)
      have HB := Lib.hid hbl
      clear hc hbl
      generalize zs.getD j 0 = z at *
      generalize sumTo zs j = q at *
      have hw := wrap_add q z
      generalize hq2 : IntKind.i64.wrap (q + z) = q2 at *
      have HQ2 := Lib.hid hq2
      clear hq2
      generalize IntKind.i64.wrap q = q1 at *
      have hltz : (j : Int) < (n : Int) := by omega
      go_wp2_with fail
      go_roundw
      case rel => exact ⟨j + 1, by omega, by go_num, by rw [HN.out, HQ2.out], HB.out⟩
      case measure => simp [intOf]; omega
    · have hjn : j = n := by omega
      subst hjn
      have HB := Lib.hid hbl
      clear hbl
      have ha := i64_and48 (IntKind.i64.wrap (sumTo zs j))
      have HE := HM (sumTo zs j)
      rw [HE.out] at ha
      generalize modW (sumTo zs j) = m at *
      generalize IntKind.i64.wrap (sumTo zs j) = q at *
      have hltz : ¬ (j : Int) < (j : Int) := by omega
      go_wp2_with fail
      go_ret
      exact ⟨rfl, HB.out⟩
def ringN (t : Int) : Nat := if t ≤ 0 then 0 else if t < 3 then t.toNat else 3
theorem ringN_le (t : Int) : ringN t ≤ 3 := by unfold ringN; split; omega; split <;> omega
theorem ringN_lt {t : Int} {k : Nat} (h : k < ringN t) : (k : Int) < t := by
  unfold ringN at h
  split at h
  · omega
  · split at h <;> omega
theorem ringN_max (t : Int) : (if (0 : Int) < (if t < 3 then t else 3) then (if t < 3 then t else 3) else 0) = (ringN t : Int) := by
  unfold ringN
  by_cases h : t ≤ 0
  · have h3 : t < 3 := by omega
    have h0 : ¬ (0 : Int) < t := by omega
    simp only [h, h3, h0, if_true, if_false]; rfl
  · by_cases h3 : t < 3
    · have h0 : (0 : Int) < t := by omega
      simp only [h, h3, h0, if_true, if_false]; omega
    · simp only [h, h3, if_false]; rfl
theorem ringN_ge {t : Int} (h : ringN t ≠ 3) : t ≤ (ringN t : Int) := by
  unfold ringN at *
  by_cases h0 : t ≤ 0
  · simp only [h0, if_true]; omega
  · by_cases h3 : t < 3
    · simp only [h0, h3, if_true, if_false]; omega
    · simp only [h0, h3, if_false] at h; exact absurd rfl h
theorem ring_all (r : R) (raw : List Int) : ringV r raw 3 = ringV r raw (ringN (raw.getD 4 0)) := by
  have hle := ringN_le (raw.getD 4 0)
  by_cases h : ringN (raw.getD 4 0) = 3
  · rw [h]
  · have := ringV_stop (r := r) (raw := raw) (k := ringN (raw.getD 4 0)) (ringN_ge h) (3 - ringN (raw.getD 4 0))
    rwa [show ringN (raw.getD 4 0) + (3 - ringN (raw.getD 4 0)) = 3 by omega] at this
theorem sampled_fit {r : R} (h : r.Fit) (v : Int) : (sampledV r v).Fit := by
  unfold sampledV
  split
  · rename_i hc
    obtain ⟨ho, hk, v0, v1⟩ := hc
    obtain ⟨f1, f2, f3, ⟨n0, n1⟩, ⟨m0, m1⟩, mx1, ⟨t0, t1⟩, ⟨d0, d1⟩⟩ := timer_facts ho hk
    obtain ⟨g0, g1, g2, g3, g4, g5, g6, g7, g8⟩ := h
    unfold inW at *
    repeat' split
    all_goals (constructor <;> (try unfold inW) <;> (try simp only) <;> first | assumption | omega)
  · exact h
theorem ring_fit {r : R} (h : r.Fit) (raw : List Int) (k : Nat) : (ringV r raw k).Fit := by
  induction k with
  | zero => exact h
  | succ k ih =>
    unfold ringV
    split
    · exact sampled_fit ih _
    · exact ih
set_option maxRecDepth 100000 in
set_option maxHeartbeats 4000000 in
theorem iSampledFrom_any (w : World) (r : R) (t : Int) (v : Value) (raw : List Int) (h : IntsArg w v (raw.drop 5)) (hf : Fit raw) (hl : raw.length = 8) (ht : t = raw.getD 4 0) (hr : r.Fit) :
    Calls Tryz.prog 130 #[r.v, .int .i64 t, v] w (Gives (dropRow (ringV r raw 3) t).v w) := by
  obtain ⟨A, cap, rfl, h1, h2, h3⟩ := h
  unfold maxLen at h2
  have hl5 : (raw.drop 5).length = 3 := by rw [List.length_drop, hl]
  rw [hl5] at h1 h3 ⊢
  obtain ⟨b, off, rfl, hbl, hc⟩ := h3 (by omega)
  have HC := Lib.hid (show ∀ j, j < 3 → w.cell? ⟨b, off + j, none⟩ = some (.int .i64 (raw.getD (5 + j) 0)) from fun j hj => by
    rw [hc j hj, List.getD_eq_getElem?_getD, List.getElem?_drop, List.getD_eq_getElem?_getD])
  clear hc h3 hl5
  have HF := Lib.hid hf
  obtain ⟨t0, t1⟩ := hf.at 4
  rw [← ht] at t0 t1
  have HSM := fun W r v h a b => Lib.hid (iSampled_any W r v h a b)
  have HRA := Lib.hid (ring_all r raw)
  have HRN := Lib.hid (fun (k : Nat) (h : (k : Int) < raw.getD 4 0) => ringV_next (r := r) h)
  have HFT := Lib.hid (ring_fit hr raw)
  rw [← ht] at HRA HRN
  have hm := ringN_max t
  have hn3 := ringN_le t
  have HLT := Lib.hid (fun k (h : k < ringN t) => ringN_lt h)
  generalize ringN t = m at *
  have hp : ∃ p : Int, min t 3 = p ∧ (if (3 : Int) < t then 3 else t) = p ∧ max 0 p = (m : Int) ∧ max p 0 = (m : Int) ∧ (if p < 0 then 0 else p) = (m : Int) ∧ (if (0 : Int) < p then p else 0) = (m : Int) := by
    refine ⟨min t 3, rfl, by rw [Int.min_def]; split <;> split <;> omega, ?_⟩
    have e : min t 3 = if t < 3 then t else 3 := by rw [Int.min_def]; split <;> split <;> omega
    rw [e, ← hm]
    generalize (if t < 3 then t else 3) = p
    refine ⟨by rw [Int.max_def]; split <;> split <;> omega, by rw [Int.max_def]; split <;> split <;> omega, by split <;> split <;> omega, rfl⟩
  obtain ⟨p, hp1, hp2, hp3, hp4, hp5, hp6⟩ := hp
  rw [HRA.out]
  have HDR := Lib.hid (rfl : dropRow (ringV r raw m) t = dropRow (ringV r raw m) t)
  clear HRA hf hl ht hm
  obtain ⟨key0, kind0, sum0, st0, last0, n0, mn0, mx0, total0, dropped0⟩ := r
  have mcap : (m : Int) ≤ cap := by omega
  have m0 : (0 : Int) ≤ m := by omega
  unfold R.v
  simp only
  go_enter Tryz.func130, Tryz.ntmps130
  go_wp2_with fail
  have HB0 := Lib.hid (((Below.refl w.heap.size w).alloc (Nat.le_refl _) (.cells (rowCells ⟨key0, kind0, sum0, st0, last0, n0, mn0, mx0, total0, dropped0⟩) 55)).alloc (by simp [go_sem]) (.cells (rowCells zeroR) 55))
  have HX0 := Lib.hid ((rowAt_new w _ ⟨key0, kind0, sum0, st0, last0, n0, mn0, mx0, total0, dropped0⟩ rfl).alloc (.cells (rowCells zeroR) 55))
  have HZ0 := Lib.hid (rowAt_new (w.alloc (.cells (rowCells ⟨key0, kind0, sum0, st0, last0, n0, mn0, mx0, total0, dropped0⟩) 55)) (w.heap.size + 1) zeroR (by simp [go_sem]))
  go_loopw [15] (fun i wr => ∃ k : Nat, k ≤ m ∧ i = .int .i64 k ∧ RowAt wr (w.heap.size + 1) zeroR ∧ RowAt wr w.heap.size (ringV ⟨key0, kind0, sum0, st0, last0, n0, mn0, mx0, total0, dropped0⟩ raw k) ∧ Below w.heap.size w wr) (fun i _ => m - (intOf i).toNat)
  case atStart => exact ⟨0, Nat.zero_le _, rfl, HZ0.out, HX0.out, HB0.out⟩
  case round =>
    obtain ⟨k, hk, rfl, hz, hx, hb⟩ := hrel
    clear HB0 HX0 HZ0
    by_cases hkm : k < m
    · have c1 := (hb.cell (p := ⟨b, off + k, none⟩) hbl).trans (HC.out k (by omega))
      obtain ⟨f0, f1⟩ := HF.out.at (5 + k)
      have hn := HRN.out k (HLT.out k hkm)
      rw [← sampled_wrap _ _ f0 f1] at hn
      have hfk := HFT.out k
      generalize raw.getD (5 + k) 0 = z at *
      have hw0 : -9223372036854775808 ≤ IntKind.i64.wrap (z - 1) := by rw [IntKind.wrap_i64]; omega
      have hw1 : IntKind.i64.wrap (z - 1) ≤ 9223372036854775807 := by rw [IntKind.wrap_i64]; omega
      have HSM2 := fun W => Lib.hid (HSM W _ _ hfk hw0 hw1).out
      rw [← hn] at HSM2
      generalize hr1 : ringV ⟨key0, kind0, sum0, st0, last0, n0, mn0, mx0, total0, dropped0⟩ raw k = r1 at *
      generalize hr2 : ringV ⟨key0, kind0, sum0, st0, last0, n0, mn0, mx0, total0, dropped0⟩ raw (k + 1) = r2 at *
      have HR2 := Lib.hid hr2
      clear hr1 hr2 hn hfk HSM HFT HRN HDR
      generalize hzw : IntKind.i64.wrap (z - 1) = zw at *
      obtain ⟨key, kind, sum, st, last, n, mn, mx, total, dropped⟩ := r1
      obtain ⟨key2, kind2, sum2, st2, last2, n2, mn2, mx2, total2, dropped2⟩ := r2
      unfold R.v at HSM2
      simp only at HSM2
      obtain ⟨x0, x1, x2, x3, x4, x5, x6, x7, x8, x9, xf⟩ := hx.get
      have HX := Lib.hid hx
      have HZ := Lib.hid hz
      have HB := Lib.hid hb
      have hkz : (k : Int) < (m : Int) := by omega
      clear hx hz hb
      go_wp2_with fail
      refine (HSM2 _).out.mono ?_
      rintro e w2 ⟨rfl, hb2⟩
      have hx2 := HX.out.below (hb2.mono (by simp [go_sem]))
      have HX2 := Lib.hid hx2
      have HZ2 := Lib.hid (HZ.out.below (hb2.mono (by simp [go_sem])))
      have HB2 := Lib.hid (HB.out.trans (hb2.mono HB.out.size))
      clear x0 x1 x2 x3 x4 x5 x6 x7 x8 x9 xf HX HZ HB hb2 c1 HSM2
      obtain ⟨x0, x1, x2, x3, x4, x5, x6, x7, x8, x9, xf⟩ := hx2.get
      clear hx2
      go_wp2_with fail
      go_roundw
      case rel =>
        have hz3 := HZ2.out
        refine ⟨k + 1, by omega, by go_num, ?_, ?_, below_row HB2.out (Nat.le_refl _) _ _ _ _ _ _ _ _ _ _⟩
        · exact (((((((((hz3.far _ _ _ (by omega)).far _ _ _ (by omega)).far _ _ _ (by omega)).far _ _ _ (by omega)).far _ _ _ (by omega)).far _ _ _ (by omega)).far _ _ _ (by omega)).far _ _ _ (by omega)).far _ _ _ (by omega)).far _ _ _ (by omega)
        · rw [HR2.out]; exact HX2.out.all ⟨key2, kind2, sum2, st2, last2, n2, mn2, mx2, total2, dropped2⟩
      case measure => simp [intOf]; omega
    · have hkm2 : k = m := by omega
      subst hkm2
      clear HRN HSM HFT HDR
      generalize ringV ⟨key0, kind0, sum0, st0, last0, n0, mn0, mx0, total0, dropped0⟩ raw k = r1 at *
      obtain ⟨key, kind, sum, st, last, n, mn, mx, total, dropped⟩ := r1
      obtain ⟨x0, x1, x2, x3, x4, x5, x6, x7, x8, x9, xf⟩ := hx.get
      obtain ⟨z0, z1, z2, z3, z4, z5, z6, z7, z8, z9, zf⟩ := hz.get
      simp only [zeroR] at z0 z1 z2 z3 z4 z5 z6 z7 z8 z9
      have HX := Lib.hid hx
      have HZ := Lib.hid hz
      have HB := Lib.hid hb
      clear hx hz hb hp1 hp2 hp3 hp4 hp5 hp6
      by_cases hn : n = 3
      · subst hn
        by_cases ht3 : 3 < t
        · have hd : ∃ d : Int, min (t - 3) 65535 = d ∧ (if 65535 < t - 3 then 65535 else t - 3) = d ∧ (if t - 3 < 65535 then t - 3 else 65535) = d := ⟨_, rfl, by rw [Int.min_def]; split <;> split <;> omega, by rw [Int.min_def]; split <;> split <;> omega⟩
          obtain ⟨d, hd1, hd2, hd3⟩ := hd
          have HE := Lib.hid (show dropRow ⟨key, kind, sum, st, last, 3, mn, mx, total, dropped⟩ t = ⟨key, kind, sum, st, last, 3, mn, mx, total, d⟩ by
            unfold dropRow
            rw [if_pos ⟨rfl, ht3⟩, hd3])
          clear hd3
          have hwt : IntKind.i64.wrap (t - 3) = t - 3 := by rw [IntKind.wrap_i64]; omega
          go_upto_region 8 with fail
          refine wp_row ⟨key, kind, sum, st, last, 3, mn, mx, total, d⟩ HX.out HZ.out HB.out (Nat.le_refl _) (by omega) rfl ?_
          clear x0 x1 x2 x3 x4 x5 x6 x7 x8 x9 xf z0 z1 z2 z3 z4 z5 z6 z7 z8 z9 zf HX HZ HB hd1 hd2 hwt
          intro w2 hx hz hb
          obtain ⟨x0, x1, x2, x3, x4, x5, x6, x7, x8, x9, xf⟩ := hx.get
          obtain ⟨z0, z1, z2, z3, z4, z5, z6, z7, z8, z9, zf⟩ := hz.get
          simp only [zeroR] at x0 x1 x2 x3 x4 x5 x6 x7 x8 x9 z0 z1 z2 z3 z4 z5 z6 z7 z8 z9
          have HB := Lib.hid hb
          clear hx hz hb
          go_wp2_with fail
          exact bodyPost_ret (v := R.v ⟨key, kind, sum, st, last, 3, mn, mx, total, d⟩) (by simp [results, Tryz.results130, go_sem, R.v, x0, x1, x2, x3, x4, x5, x6, x7, x8, x9, z0, z1, z2, z3, z4, z5, z6, z7, z8, z9]) rfl ⟨congrArg Ending.returned (congrArg R.v HE.out.symm), below_row HB.out (by omega) _ _ _ _ _ _ _ _ _ _⟩
        · have HE := Lib.hid (show dropRow ⟨key, kind, sum, st, last, 3, mn, mx, total, dropped⟩ t = ⟨key, kind, sum, st, last, 3, mn, mx, total, dropped⟩ from if_neg (fun x => ht3 x.2))
          have hd : decide ((3 : Int) < t) = false := by rw [decide_eq_false]; exact ht3
          go_wp2_with fail
          exact bodyPost_ret (v := R.v ⟨key, kind, sum, st, last, 3, mn, mx, total, dropped⟩) (by simp [results, Tryz.results130, go_sem, R.v, x0, x1, x2, x3, x4, x5, x6, x7, x8, x9, z0, z1, z2, z3, z4, z5, z6, z7, z8, z9]) rfl ⟨congrArg Ending.returned (congrArg R.v HE.out.symm), below_row HB.out (by omega) _ _ _ _ _ _ _ _ _ _⟩
      · have HE := Lib.hid (show dropRow ⟨key, kind, sum, st, last, n, mn, mx, total, dropped⟩ t = ⟨key, kind, sum, st, last, n, mn, mx, total, dropped⟩ from if_neg (fun x => hn x.1))
        have hd : (n == 3) = false := by rw [beq_eq_false_iff_ne]; exact hn
        go_wp2_with fail
        exact bodyPost_ret (v := R.v ⟨key, kind, sum, st, last, n, mn, mx, total, dropped⟩) (by simp [results, Tryz.results130, go_sem, R.v, x0, x1, x2, x3, x4, x5, x6, x7, x8, x9, z0, z1, z2, z3, z4, z5, z6, z7, z8, z9]) rfl ⟨congrArg Ending.returned (congrArg R.v HE.out.symm), below_row HB.out (by omega) _ _ _ _ _ _ _ _ _ _⟩
end Go.Proofs.YtnlepnfdgdbkoaaGreatDoor
