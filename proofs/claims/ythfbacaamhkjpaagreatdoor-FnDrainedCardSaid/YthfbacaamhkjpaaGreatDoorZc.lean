/-
  Several small texts of this proof, one behind another: each says ahead of itself what it proves.
-/
import Derived.Test.YthfbacaamhkjpaaGreatDoorDrB
import Derived.Test.YthfbacaamhkjpaaGreatDoorRowI
import Derived.Test.YthfbacaamhkjpaaGreatDoorZb
import Derived.Test.YthfbacaamhkjpaaGreatDoorZa
import Derived.Test.YthfbacaamhkjpaaGreatDoorRowJ
import Derived.Lib.SliceRun
import Derived.Deep.MidRow
import Derived.RegionTactic
import Derived.BigRegion
import Derived.Test.YthfbacaamhkjpaaGreatDoorDrawA
/-
  Chapter 8, the program's sums of stripes and samples of a ring: what the plain words say. They turn nothing that was there.
-/
namespace Go.Proofs.YthfbacaamhkjpaaGreatDoor
open Go.RowKit M
set_option linter.unusedVariables false
set_option linter.unusedSimpArgs false
theorem i64_and48 (n : Int) : bits .and .i64 n 281474976710655 = n % 281474976710656 := by
  have h48 : (BitVec.ofInt 64 281474976710655).toNat = 2 ^ 48 - 1 := by decide
  have key : (BitVec.ofInt 64 n &&& BitVec.ofInt 64 281474976710655).toNat = (n % ((2 ^ 64 : Nat) : Int)).toNat % 2 ^ 48 := by
    rw [BitVec.toNat_and, BitVec.toNat_ofInt, h48, Nat.and_two_pow_sub_one_eq_mod]
  show IntKind.i64.wrap ((BitVec.ofInt 64 n &&& BitVec.ofInt 64 281474976710655).toNat : Nat) = n % 281474976710656
  rw [key, IntKind.wrap_i64]
  omega
/-- The sum of the first k numbers. -/
def sumTo (zs : List Int) : Nat → Int
  | 0 => 0
  | k + 1 => sumTo zs k + zs.getD k 0
theorem wrap_add (a b : Int) : IntKind.i64.wrap (IntKind.i64.wrap a + b) = IntKind.i64.wrap (a + b) := by rw [IntKind.wrap_i64, IntKind.wrap_i64, IntKind.wrap_i64]; omega
theorem wrap_mod (a : Int) : IntKind.i64.wrap a % 281474976710656 = modW a := by rw [IntKind.wrap_i64]; unfold modW; omega
theorem sum_two (raw : List Int) : modW (sumTo (raw.take 2) 2) = sumT raw 2 := by
  have e : ∀ k, k < 2 → (raw.take 2).getD k 0 = raw.getD k 0 := fun k hk => by
    rw [List.getD_eq_getElem?_getD, List.getElem?_take_of_lt hk, List.getD_eq_getElem?_getD]
  show modW (0 + (raw.take 2).getD 0 0 + (raw.take 2).getD 1 0) = modW (modW (0 + modW (raw.getD 0 0)) + modW (raw.getD 1 0))
  rw [e 0 (by omega), e 1 (by omega)]
  unfold modW
  omega
set_option maxRecDepth 100000 in
set_option maxHeartbeats 4000000 in
theorem iSum_any (w : World) (v : Value) (zs : List Int) (h : IntsArg w v zs) : Calls Tryz.prog 37 #[v] w (Gives (.int .i64 (modW (sumTo zs zs.length))) w) := by
  obtain ⟨A, cap, rfl, h1, h2, h3⟩ := h
  unfold maxLen at h2
  generalize hn : zs.length = n at *
  clear hn
  have H3 := Lib.hid h3
  clear h3
  have HM := fun a => Lib.hid (wrap_mod a)
  go_enter Tryz.func37, Tryz.ntmps37
  go_wp2_with fail
  go_loopw [3, 8] (fun s i wr => ∃ j : Nat, j ≤ n ∧ i = .int .i64 j ∧ s = .int .i64 (IntKind.i64.wrap (sumTo zs j)) ∧ Below w.heap.size w wr) (fun _ i _ => n - (intOf i).toNat)
  case atStart => exact ⟨0, Nat.zero_le _, rfl, rfl, Below.refl _ _⟩
  case round =>
    obtain ⟨j, hj, rfl, rfl, hbl⟩ := hrel
    by_cases hlt : j < n
    · obtain ⟨b, off, rfl, hb, hc⟩ := H3.out (by omega)
      have c1 := (hbl.cell (p := ⟨b, off + j, none⟩) hb).trans (hc j hlt)
      have HN := Lib.hid (show sumTo zs (j + 1) = sumTo zs j + zs.getD j 0 from rfl)
      have HB := Lib.hid hbl
      clear hc hbl
      generalize zs.getD j 0 = z at *
      generalize sumTo zs j = q at *
      have hw := wrap_add q z
      generalize hq2 : IntKind.i64.wrap (q + z) = q2 at *
      have HQ2 := Lib.hid hq2
      clear hq2
      generalize IntKind.i64.wrap q = q1 at *
      have hltz : (j : Int) < (n : Int) := by omega
      go_wp2_with fail
      go_roundw
      case rel => exact ⟨j + 1, by omega, by go_num, by rw [HN.out, HQ2.out], HB.out⟩
      case measure => simp [intOf]; omega
    · have hjn : j = n := by omega
      subst hjn
      have HB := Lib.hid hbl
      clear hbl
      have ha := i64_and48 (IntKind.i64.wrap (sumTo zs j))
      have HE := HM (sumTo zs j)
      rw [HE.out] at ha
      generalize modW (sumTo zs j) = m at *
      generalize IntKind.i64.wrap (sumTo zs j) = q at *
      have hltz : ¬ (j : Int) < (j : Int) := by omega
      go_wp2_with fail
      go_ret
      exact ⟨rfl, HB.out⟩
/-- How many samples of a ring a ticket has given out. -/
def ringN (t : Int) : Nat := if t ≤ 0 then 0 else if t < 3 then t.toNat else 3
theorem ringN_le (t : Int) : ringN t ≤ 3 := by unfold ringN; split; omega; split <;> omega
theorem ringN_lt {t : Int} {k : Nat} (h : k < ringN t) : (k : Int) < t := by
  unfold ringN at h
  split at h
  · omega
  · split at h <;> omega
theorem ringN_max (t : Int) : (if (0 : Int) < (if t < 3 then t else 3) then (if t < 3 then t else 3) else 0) = (ringN t : Int) := by
  unfold ringN
  by_cases h : t ≤ 0
  · have h3 : t < 3 := by omega
    have h0 : ¬ (0 : Int) < t := by omega
    simp only [h, h3, h0, if_true, if_false]; rfl
  · by_cases h3 : t < 3
    · have h0 : (0 : Int) < t := by omega
      simp only [h, h3, h0, if_true, if_false]; omega
    · simp only [h, h3, if_false]; rfl
theorem ringN_ge {t : Int} (h : ringN t ≠ 3) : t ≤ (ringN t : Int) := by
  unfold ringN at *
  by_cases h0 : t ≤ 0
  · simp only [h0, if_true]; omega
  · by_cases h3 : t < 3
    · simp only [h0, h3, if_true, if_false]; omega
    · simp only [h0, h3, if_false] at h; exact absurd rfl h
theorem ring_all (r : R) (raw : List Int) : ringV r raw 3 = ringV r raw (ringN (raw.getD 4 0)) := by
  have hle := ringN_le (raw.getD 4 0)
  by_cases h : ringN (raw.getD 4 0) = 3
  · rw [h]
  · have := ringV_stop (r := r) (raw := raw) (k := ringN (raw.getD 4 0)) (ringN_ge h) (3 - ringN (raw.getD 4 0))
    rwa [show ringN (raw.getD 4 0) + (3 - ringN (raw.getD 4 0)) = 3 by omega] at this
theorem sampled_fit {r : R} (h : r.Fit) (v : Int) : (sampledV r v).Fit := by
  unfold sampledV
  split
  · rename_i hc
    obtain ⟨ho, hk, v0, v1⟩ := hc
    obtain ⟨f1, f2, f3, ⟨n0, n1⟩, ⟨m0, m1⟩, mx1, ⟨t0, t1⟩, ⟨d0, d1⟩⟩ := timer_facts ho hk
    obtain ⟨g0, g1, g2, g3, g4, g5, g6, g7, g8⟩ := h
    unfold inW at *
    repeat' split
    all_goals (constructor <;> (try unfold inW) <;> (try simp only) <;> first | assumption | omega)
  · exact h
theorem ring_fit {r : R} (h : r.Fit) (raw : List Int) (k : Nat) : (ringV r raw k).Fit := by
  induction k with
  | zero => exact h
  | succ k ih =>
    unfold ringV
    split
    · exact sampled_fit ih _
    · exact ih
set_option maxRecDepth 100000 in
set_option maxHeartbeats 4000000 in
theorem iSampledFrom_any (w : World) (r : R) (t : Int) (v : Value) (raw : List Int) (h : IntsArg w v (raw.drop 5)) (hf : Fit raw) (hl : raw.length = 8) (ht : t = raw.getD 4 0) (hr : r.Fit) :
    Calls Tryz.prog 39 #[r.v, .int .i64 t, v] w (Gives (dropRow (ringV r raw 3) t).v w) := by
  obtain ⟨A, cap, rfl, h1, h2, h3⟩ := h
  unfold maxLen at h2
  have hl5 : (raw.drop 5).length = 3 := by rw [List.length_drop, hl]
  rw [hl5] at h1 h3 ⊢
  obtain ⟨b, off, rfl, hbl, hc⟩ := h3 (by omega)
  have HC := Lib.hid (show ∀ j, j < 3 → w.cell? ⟨b, off + j, none⟩ = some (.int .i64 (raw.getD (5 + j) 0)) from fun j hj => by
    rw [hc j hj, List.getD_eq_getElem?_getD, List.getElem?_drop, List.getD_eq_getElem?_getD])
  clear hc h3 hl5
  have HF := Lib.hid hf
  obtain ⟨t0, t1⟩ := hf.at 4
  rw [← ht] at t0 t1
  have HSM := fun W r v h a b => Lib.hid (iSampled_any W r v h a b)
  have HRA := Lib.hid (ring_all r raw)
  have HRN := Lib.hid (fun (k : Nat) (h : (k : Int) < raw.getD 4 0) => ringV_next (r := r) h)
  have HFT := Lib.hid (ring_fit hr raw)
  rw [← ht] at HRA HRN
  have hm := ringN_max t
  have hn3 := ringN_le t
  have HLT := Lib.hid (fun k (h : k < ringN t) => ringN_lt h)
  generalize ringN t = m at *
  have hp : ∃ p : Int, min t 3 = p ∧ (if (3 : Int) < t then 3 else t) = p ∧ max 0 p = (m : Int) ∧ max p 0 = (m : Int) ∧ (if p < 0 then 0 else p) = (m : Int) ∧ (if (0 : Int) < p then p else 0) = (m : Int) := by
    refine ⟨min t 3, rfl, by rw [Int.min_def]; split <;> split <;> omega, ?_⟩
    have e : min t 3 = if t < 3 then t else 3 := by rw [Int.min_def]; split <;> split <;> omega
    rw [e, ← hm]
    generalize (if t < 3 then t else 3) = p
    refine ⟨by rw [Int.max_def]; split <;> split <;> omega, by rw [Int.max_def]; split <;> split <;> omega, by split <;> split <;> omega, rfl⟩
  obtain ⟨p, hp1, hp2, hp3, hp4, hp5, hp6⟩ := hp
  rw [HRA.out]
  have HDR := Lib.hid (rfl : dropRow (ringV r raw m) t = dropRow (ringV r raw m) t)
  clear HRA hf hl ht hm
  obtain ⟨key0, kind0, sum0, st0, last0, n0, mn0, mx0, total0, dropped0⟩ := r
  have mcap : (m : Int) ≤ cap := by omega
  have m0 : (0 : Int) ≤ m := by omega
  unfold R.v
  simp only
  go_enter Tryz.func39, Tryz.ntmps39
  go_wp2_with fail
  have HB0 := Lib.hid (((Below.refl w.heap.size w).alloc (Nat.le_refl _) (.cells (rowCells ⟨key0, kind0, sum0, st0, last0, n0, mn0, mx0, total0, dropped0⟩) 35)).alloc (by simp [go_sem]) (.cells (rowCells zeroR) 35))
  have HX0 := Lib.hid ((rowAt_new w _ ⟨key0, kind0, sum0, st0, last0, n0, mn0, mx0, total0, dropped0⟩ rfl).alloc (.cells (rowCells zeroR) 35))
  have HZ0 := Lib.hid (rowAt_new (w.alloc (.cells (rowCells ⟨key0, kind0, sum0, st0, last0, n0, mn0, mx0, total0, dropped0⟩) 35)) (w.heap.size + 1) zeroR (by simp [go_sem]))
  go_loopw [15] (fun i wr => ∃ k : Nat, k ≤ m ∧ i = .int .i64 k ∧ RowAt wr (w.heap.size + 1) zeroR ∧ RowAt wr w.heap.size (ringV ⟨key0, kind0, sum0, st0, last0, n0, mn0, mx0, total0, dropped0⟩ raw k) ∧ Below w.heap.size w wr) (fun i _ => m - (intOf i).toNat)
  case atStart => exact ⟨0, Nat.zero_le _, rfl, HZ0.out, HX0.out, HB0.out⟩
  case round =>
    obtain ⟨k, hk, rfl, hz, hx, hb⟩ := hrel
    clear HB0 HX0 HZ0
    by_cases hkm : k < m
    · have c1 := (hb.cell (p := ⟨b, off + k, none⟩) hbl).trans (HC.out k (by omega))
      obtain ⟨f0, f1⟩ := HF.out.at (5 + k)
      have hn := HRN.out k (HLT.out k hkm)
      rw [← sampled_wrap _ _ f0 f1] at hn
      have hfk := HFT.out k
      generalize raw.getD (5 + k) 0 = z at *
      have hw0 : -9223372036854775808 ≤ IntKind.i64.wrap (z - 1) := by rw [IntKind.wrap_i64]; omega
      have hw1 : IntKind.i64.wrap (z - 1) ≤ 9223372036854775807 := by rw [IntKind.wrap_i64]; omega
      have HSM2 := fun W => Lib.hid (HSM W _ _ hfk hw0 hw1).out
      rw [← hn] at HSM2
      generalize hr1 : ringV ⟨key0, kind0, sum0, st0, last0, n0, mn0, mx0, total0, dropped0⟩ raw k = r1 at *
      generalize hr2 : ringV ⟨key0, kind0, sum0, st0, last0, n0, mn0, mx0, total0, dropped0⟩ raw (k + 1) = r2 at *
      have HR2 := Lib.hid hr2
      clear hr1 hr2 hn hfk HSM HFT HRN HDR
      generalize hzw : IntKind.i64.wrap (z - 1) = zw at *
      obtain ⟨key, kind, sum, st, last, n, mn, mx, total, dropped⟩ := r1
      obtain ⟨key2, kind2, sum2, st2, last2, n2, mn2, mx2, total2, dropped2⟩ := r2
      unfold R.v at HSM2
      simp only at HSM2
      obtain ⟨x0, x1, x2, x3, x4, x5, x6, x7, x8, x9, xf⟩ := hx.get
      have HX := Lib.hid hx
      have HZ := Lib.hid hz
      have HB := Lib.hid hb
      have hkz : (k : Int) < (m : Int) := by omega
      clear hx hz hb
      go_wp2_with fail
      refine (HSM2 _).out.mono ?_
      rintro e w2 ⟨rfl, hb2⟩
      have hx2 := HX.out.below (hb2.mono (by simp [go_sem]))
      have HX2 := Lib.hid hx2
      have HZ2 := Lib.hid (HZ.out.below (hb2.mono (by simp [go_sem])))
      have HB2 := Lib.hid (HB.out.trans (hb2.mono HB.out.size))
      clear x0 x1 x2 x3 x4 x5 x6 x7 x8 x9 xf HX HZ HB hb2 c1 HSM2
      obtain ⟨x0, x1, x2, x3, x4, x5, x6, x7, x8, x9, xf⟩ := hx2.get
      clear hx2
      go_wp2_with fail
      go_roundw
      case rel =>
        have hz3 := HZ2.out
        refine ⟨k + 1, by omega, by go_num, ?_, ?_, below_row HB2.out (Nat.le_refl _) _ _ _ _ _ _ _ _ _ _⟩
        · exact (((((((((hz3.far _ _ _ (by omega)).far _ _ _ (by omega)).far _ _ _ (by omega)).far _ _ _ (by omega)).far _ _ _ (by omega)).far _ _ _ (by omega)).far _ _ _ (by omega)).far _ _ _ (by omega)).far _ _ _ (by omega)).far _ _ _ (by omega)
        · rw [HR2.out]; exact HX2.out.all ⟨key2, kind2, sum2, st2, last2, n2, mn2, mx2, total2, dropped2⟩
      case measure => simp [intOf]; omega
    · have hkm2 : k = m := by omega
      subst hkm2
      clear HRN HSM HFT HDR
      generalize ringV ⟨key0, kind0, sum0, st0, last0, n0, mn0, mx0, total0, dropped0⟩ raw k = r1 at *
      obtain ⟨key, kind, sum, st, last, n, mn, mx, total, dropped⟩ := r1
      obtain ⟨x0, x1, x2, x3, x4, x5, x6, x7, x8, x9, xf⟩ := hx.get
      obtain ⟨z0, z1, z2, z3, z4, z5, z6, z7, z8, z9, zf⟩ := hz.get
      simp only [zeroR] at z0 z1 z2 z3 z4 z5 z6 z7 z8 z9
      have HX := Lib.hid hx
      have HZ := Lib.hid hz
      have HB := Lib.hid hb
      clear hx hz hb hp1 hp2 hp3 hp4 hp5 hp6
      by_cases hn : n = 3
      · subst hn
        by_cases ht3 : 3 < t
        · have hd : ∃ d : Int, min (t - 3) 65535 = d ∧ (if 65535 < t - 3 then 65535 else t - 3) = d ∧ (if t - 3 < 65535 then t - 3 else 65535) = d := ⟨_, rfl, by rw [Int.min_def]; split <;> split <;> omega, by rw [Int.min_def]; split <;> split <;> omega⟩
          obtain ⟨d, hd1, hd2, hd3⟩ := hd
          have HE := Lib.hid (show dropRow ⟨key, kind, sum, st, last, 3, mn, mx, total, dropped⟩ t = ⟨key, kind, sum, st, last, 3, mn, mx, total, d⟩ by
            unfold dropRow
            rw [if_pos ⟨rfl, ht3⟩, hd3])
          clear hd3
          have hwt : IntKind.i64.wrap (t - 3) = t - 3 := by rw [IntKind.wrap_i64]; omega
          go_upto_region 8 with fail
          refine wp_row ⟨key, kind, sum, st, last, 3, mn, mx, total, d⟩ HX.out HZ.out HB.out (Nat.le_refl _) (by omega) rfl ?_
          clear x0 x1 x2 x3 x4 x5 x6 x7 x8 x9 xf z0 z1 z2 z3 z4 z5 z6 z7 z8 z9 zf HX HZ HB hd1 hd2 hwt
          intro w2 hx hz hb
          obtain ⟨x0, x1, x2, x3, x4, x5, x6, x7, x8, x9, xf⟩ := hx.get
          obtain ⟨z0, z1, z2, z3, z4, z5, z6, z7, z8, z9, zf⟩ := hz.get
          simp only [zeroR] at x0 x1 x2 x3 x4 x5 x6 x7 x8 x9 z0 z1 z2 z3 z4 z5 z6 z7 z8 z9
          have HB := Lib.hid hb
          clear hx hz hb
          go_wp2_with fail
          exact bodyPost_ret (v := R.v ⟨key, kind, sum, st, last, 3, mn, mx, total, d⟩) (by simp [results, Tryz.results39, go_sem, R.v, x0, x1, x2, x3, x4, x5, x6, x7, x8, x9, z0, z1, z2, z3, z4, z5, z6, z7, z8, z9]) rfl ⟨congrArg Ending.returned (congrArg R.v HE.out.symm), below_row HB.out (by omega) _ _ _ _ _ _ _ _ _ _⟩
        · have HE := Lib.hid (show dropRow ⟨key, kind, sum, st, last, 3, mn, mx, total, dropped⟩ t = ⟨key, kind, sum, st, last, 3, mn, mx, total, dropped⟩ from if_neg (fun x => ht3 x.2))
          have hd : decide ((3 : Int) < t) = false := by rw [decide_eq_false]; exact ht3
          go_wp2_with fail
          exact bodyPost_ret (v := R.v ⟨key, kind, sum, st, last, 3, mn, mx, total, dropped⟩) (by simp [results, Tryz.results39, go_sem, R.v, x0, x1, x2, x3, x4, x5, x6, x7, x8, x9, z0, z1, z2, z3, z4, z5, z6, z7, z8, z9]) rfl ⟨congrArg Ending.returned (congrArg R.v HE.out.symm), below_row HB.out (by omega) _ _ _ _ _ _ _ _ _ _⟩
      · have HE := Lib.hid (show dropRow ⟨key, kind, sum, st, last, n, mn, mx, total, dropped⟩ t = ⟨key, kind, sum, st, last, n, mn, mx, total, dropped⟩ from if_neg (fun x => hn x.1))
        have hd : (n == 3) = false := by rw [beq_eq_false_iff_ne]; exact hn
        go_wp2_with fail
        exact bodyPost_ret (v := R.v ⟨key, kind, sum, st, last, n, mn, mx, total, dropped⟩) (by simp [results, Tryz.results39, go_sem, R.v, x0, x1, x2, x3, x4, x5, x6, x7, x8, x9, z0, z1, z2, z3, z4, z5, z6, z7, z8, z9]) rfl ⟨congrArg Ending.returned (congrArg R.v HE.out.symm), below_row HB.out (by omega) _ _ _ _ _ _ _ _ _ _⟩
end Go.Proofs.YthfbacaamhkjpaaGreatDoor
/-
  Chapter 8, the program's RowFrom: it answers the row of a slot's cells, and turns nothing that was there.
-/
namespace Go.Proofs.YthfbacaamhkjpaaGreatDoor
open Go.RowKit M
set_option linter.unusedVariables false
set_option linter.unusedSimpArgs false
theorem arg_take {w : World} {b off cap : Nat} {raw : List Int} (hb : b < w.heap.size) (hc : ∀ j, j < raw.length → w.cell? ⟨b, off + j, none⟩ = some (.int .i64 (raw.getD j 0))) (hcap : raw.length ≤ cap) (hm : cap ≤ maxLen) (k : Nat) (hk : k ≤ raw.length) : IntsArg w (.slice (some ⟨b, off, none⟩) k cap) (raw.take k) := by
  have e : (raw.take k).length = k := by rw [List.length_take]; omega
  refine ⟨_, cap, by rw [e], by omega, hm, fun _ => ⟨b, off, rfl, hb, fun j hj => ?_⟩⟩
  rw [e] at hj
  rw [hc j (by omega), List.getD_eq_getElem?_getD, List.getD_eq_getElem?_getD, List.getElem?_take_of_lt hj]
theorem arg_drop {w : World} {b off cap : Nat} {raw : List Int} (hb : b < w.heap.size) (hc : ∀ j, j < raw.length → w.cell? ⟨b, off + j, none⟩ = some (.int .i64 (raw.getD j 0))) (hcap : raw.length ≤ cap) (hm : cap ≤ maxLen) (k n : Nat) (hk : k + n = raw.length) : IntsArg w (.slice (some ⟨b, off + k, none⟩) n (cap - k)) (raw.drop k) := by
  have e : (raw.drop k).length = n := by rw [List.length_drop]; omega
  refine ⟨_, cap - k, by rw [e], by omega, by omega, fun _ => ⟨b, off + k, rfl, hb, fun j hj => ?_⟩⟩
  rw [e] at hj
  rw [Nat.add_assoc, hc (k + j) (by omega), List.getD_eq_getElem?_getD, List.getD_eq_getElem?_getD, List.getElem?_drop]
theorem iSum_two {w : World} {b off cap : Nat} {raw : List Int} (hb : b < w.heap.size) (hc : ∀ j, j < raw.length → w.cell? ⟨b, off + j, none⟩ = some (.int .i64 (raw.getD j 0))) (hcap : raw.length ≤ cap) (hm : cap ≤ maxLen) (hl : raw.length = 8) :
    Calls Tryz.prog 37 #[.slice (some ⟨b, off, none⟩) 2 cap] w (Gives (.int .i64 (sumT raw 2)) w) := by
  have h := iSum_any w _ _ (arg_take hb hc hcap hm 2 (by omega))
  have e : (raw.take 2).length = 2 := by rw [List.length_take]; omega
  rw [e, sum_two] at h
  exact h
theorem drH_bel {w0 w1 : World} {g o b : Nat} {r : R} {p : Prop} (h : p ∧ DrHeld w0 g o b r w1) : Below w0.heap.size w0 w1 := h.2.2.2.1
theorem ungA_set (z : Int) : (ungA z != 0) = decide (0 < ungA z) := by
  have h : 0 ≤ ungA z := by unfold ungA; split <;> omega
  generalize ungA z = a at *
  by_cases e : a = 0
  · subst e; rfl
  · rw [bne_iff_ne.2 e, decide_eq_true (by omega : 0 < a)]
set_option maxRecDepth 100000 in
set_option maxHeartbeats 8000000 in
theorem iRowFrom_count (w : World) (tag : Int) (v : Value) (raw : List Int) (h : IntsArg w v raw) (hf : Fit raw) (h0 : -9223372036854775808 ≤ tag) (h1 : tag ≤ 9223372036854775807) (key : ByteArray) (hu : untagV tag = some (key, 1)) (hl : raw.length = 8) : Calls Tryz.prog 15 #[.int .i64 tag, v] w (Gives (countRow key raw).v w) := by
  obtain ⟨A, cap, rfl, hn, hm, h3⟩ := h
  have hcap := hm
  unfold maxLen at hcap
  have HU := fun W => Lib.hid (iUntag_any W tag h0 h1)
  have H3 := Lib.hid h3
  clear h3 h0 h1
  rw [hu, untT_some] at HU
  have HK := Lib.hid (show key.size ≤ maxLen by have := keyOkV_iff.1 (tag_untag hu).2.1; unfold maxLen; omega)
  rw [hl] at H3 hn ⊢
  obtain ⟨b, off, rfl, hbl, hc⟩ := H3.out (by omega)
  have hn8 : 8 ≤ cap := by omega
  have HL := Lib.hid hl
  have HA := Lib.hid hm
  clear H3 hu hm hn
  have HC := Lib.hid hc
  have HF := Lib.hid hf
  clear hc hf hl
  go_enter Tryz.func15, Tryz.ntmps15
  go_wp2_with fail
  refine (HU _).out.mono ?_
  rintro e w2 ⟨rfl, hb0⟩
  have hz : RowAt w2 w.heap.size zeroR := (rowAt_new w _ zeroR rfl).below hb0
  have hb : Below w.heap.size w w2 := ((Below.refl _ _).alloc (Nat.le_refl _) _).trans (hb0.mono (by simp [go_sem]))
  clear hb0
  have hlt := hz.lt
  have HZ := Lib.hid hz
  have HB := Lib.hid hb
  clear hz hb
  go_upto_region 5 with fail
  refine wp_gen (fun w' => RowAt w' w.heap.size zeroR ∧ RowAt w' w2.heap.size ⟨key, 1, 0, false, 0, 0, 0, 0, 0, 0⟩ ∧ Below w.heap.size w w') ⟨HZ.out.alloc _, rowAt_new w2 w2.heap.size (⟨key, 1, 0, false, 0, 0, 0, 0, 0, 0⟩ : R) rfl, HB.out.alloc HB.out.size _⟩ ?_
  clear HZ HB HU
  generalize w2.heap.size = g at *
  clear w2
  rintro w2 ⟨hz, hx, hb⟩
  have HG := Lib.hid hlt
  clear hlt
  have hs := fun W (h : Below w.heap.size w W) => Lib.hid (iSum_two (w := W) (b := b) (off := off) (cap := cap) (raw := raw) (Nat.lt_of_lt_of_le hbl h.size) (fun j hj => (h.cell (p := ⟨b, off + j, none⟩) hbl).trans (HC.out j (by rw [HL.out] at hj; exact hj))) (by rw [HL.out]; exact hn8) HA.out HL.out)
  have HE := Lib.hid (show R.v ⟨key, 1, sumT raw 2, false, 0, 0, 0, 0, 0, 0⟩ = (countRow key raw).v from rfl)
  generalize (countRow key raw).v = out at *
  generalize sumT raw 2 = q at *
  have HZ := Lib.hid hz
  have HX := Lib.hid hx
  have HB := Lib.hid hb
  clear hx hz hb
  go_wp2_with fail
  refine (hs _ HB.out).out.mono ?_
  rintro e w3 ⟨rfl, hb3⟩
  have hx3 := HX.out.below hb3
  have HX3 := Lib.hid hx3
  have HZ3 := Lib.hid (HZ.out.below hb3)
  have HB3 := Lib.hid (HB.out.trans (hb3.mono HB.out.size))
  obtain ⟨x0, x1, x2, x3, x4, x5, x6, x7, x8, x9, xf⟩ := hx3.get
  clear hx3 hb3 HX HZ HB hs
  go_upto_region 13 with fail
  refine wp_row ⟨key, 1, q, false, 0, 0, 0, 0, 0, 0⟩ HX3.out HZ3.out HB3.out (Nat.le_of_lt HG.out) (by have := HG.out; omega) rfl ?_
  clear x0 x1 x2 x3 x4 x5 x6 x7 x8 x9 xf HX3 HZ3 HB3
  intro w4 hx hz hb
  have hlg := HG.out
  obtain ⟨x0, x1, x2, x3, x4, x5, x6, x7, x8, x9, xf⟩ := hx.get
  obtain ⟨z0, z1, z2, z3, z4, z5, z6, z7, z8, z9, zf⟩ := hz.get
  simp only [zeroR] at x0 x1 x2 x3 x4 x5 x6 x7 x8 x9 z0 z1 z2 z3 z4 z5 z6 z7 z8 z9
  have HB := Lib.hid hb
  clear hx hz hb
  go_wp2_with fail
  exact bodyPost_ret (v := R.v ⟨key, 1, q, false, 0, 0, 0, 0, 0, 0⟩) (by simp [results, Tryz.results15, go_sem, R.v, x0, x1, x2, x3, x4, x5, x6, x7, x8, x9, z0, z1, z2, z3, z4, z5, z6, z7, z8, z9]) rfl ⟨by rw [← HE.out], below_row HB.out (by omega) _ _ _ _ _ _ _ _ _ _⟩
set_option maxRecDepth 100000 in
set_option maxHeartbeats 8000000 in
theorem iRowFrom_gauge (w : World) (tag : Int) (v : Value) (raw : List Int) (h : IntsArg w v raw) (hf : Fit raw) (h0 : -9223372036854775808 ≤ tag) (h1 : tag ≤ 9223372036854775807) (key : ByteArray) (hu : untagV tag = some (key, 2)) (hl : raw.length = 8) : Calls Tryz.prog 15 #[.int .i64 tag, v] w (Gives (gaugeRow key raw).v w) := by
  obtain ⟨A, cap, rfl, hn, hm, h3⟩ := h
  have hcap := hm
  unfold maxLen at hcap
  have HU := fun W => Lib.hid (iUntag_any W tag h0 h1)
  have H3 := Lib.hid h3
  clear h3 h0 h1
  rw [hu, untT_some] at HU
  have HK := Lib.hid (show key.size ≤ maxLen by have := keyOkV_iff.1 (tag_untag hu).2.1; unfold maxLen; omega)
  rw [hl] at H3 hn ⊢
  obtain ⟨b, off, rfl, hbl, hc⟩ := H3.out (by omega)
  have hn8 : 8 ≤ cap := by omega
  have HL := Lib.hid hl
  have HA := Lib.hid hm
  clear H3 hu hm hn
  have HC := Lib.hid hc
  have HF := Lib.hid hf
  clear hc hf hl
  go_enter Tryz.func15, Tryz.ntmps15
  go_wp2_with fail
  refine (HU _).out.mono ?_
  rintro e w2 ⟨rfl, hb0⟩
  have hz : RowAt w2 w.heap.size zeroR := (rowAt_new w _ zeroR rfl).below hb0
  have hb : Below w.heap.size w w2 := ((Below.refl _ _).alloc (Nat.le_refl _) _).trans (hb0.mono (by simp [go_sem]))
  clear hb0
  have hlt := hz.lt
  have HZ := Lib.hid hz
  have HB := Lib.hid hb
  clear hz hb
  go_upto_region 5 with fail
  refine wp_gen (fun w' => RowAt w' w.heap.size zeroR ∧ RowAt w' w2.heap.size ⟨key, 2, 0, false, 0, 0, 0, 0, 0, 0⟩ ∧ Below w.heap.size w w') ⟨HZ.out.alloc _, rowAt_new w2 w2.heap.size (⟨key, 2, 0, false, 0, 0, 0, 0, 0, 0⟩ : R) rfl, HB.out.alloc HB.out.size _⟩ ?_
  clear HZ HB HU
  generalize w2.heap.size = g at *
  clear w2
  rintro w2 ⟨hz, hx, hb⟩
  have HG := Lib.hid hlt
  clear hlt
  have c3 := (hb.cell (p := ⟨b, off + 3, none⟩) hbl).trans (HC.out 3 (by omega))
  have HGU := fun W => Lib.hid (iUnpackGauge_any W (raw.getD 3 0) (HF.out.at 3).1 (HF.out.at 3).2)
  have HE := Lib.hid (show R.v ⟨key, 2, 0, decide (0 < ungA (raw.getD 3 0)), ungV (raw.getD 3 0), 0, 0, 0, 0, 0⟩ = (gaugeRow key raw).v from rfl)
  have hset := ungA_set (raw.getD 3 0)
  generalize (gaugeRow key raw).v = out at *
  generalize raw.getD 3 0 = z at *
  generalize decide (0 < ungA z) = st at *
  generalize ungA z = za at *
  generalize ungV z = zv at *
  have HZ := Lib.hid hz
  have HX := Lib.hid hx
  have HB := Lib.hid hb
  clear hx hz hb
  go_wp2_with fail
  refine (HGU _).out.mono ?_
  rintro e w3 ⟨rfl, hb3⟩
  have hx3 := HX.out.below hb3
  have HX3 := Lib.hid hx3
  have HZ3 := Lib.hid (HZ.out.below hb3)
  have HB3 := Lib.hid (HB.out.trans (hb3.mono HB.out.size))
  obtain ⟨x0, x1, x2, x3, x4, x5, x6, x7, x8, x9, xf⟩ := hx3.get
  clear hx3 hb3 HX HZ HB HGU c3
  have hlg := HG.out
  have HX4 := Lib.hid (HX3.out.store 3 (.bool st) ⟨key, 2, 0, st, 0, 0, 0, 0, 0, 0⟩ rfl)
  have HZ4 := Lib.hid (HZ3.out.far g 3 (.bool st) (by omega))
  have HB4 := Lib.hid (HB3.out.setCell (p := ⟨g, 3, none⟩) (Nat.le_of_lt hlg) (.bool st))
  go_upto_region 13 with fail
  refine wp_row ⟨key, 2, 0, st, zv, 0, 0, 0, 0, 0⟩ HX4.out HZ4.out HB4.out (Nat.le_of_lt HG.out) (by have := HG.out; omega) rfl ?_
  clear x0 x1 x2 x3 x4 x5 x6 x7 x8 x9 xf HX3 HZ3 HB3 HX4 HZ4 HB4
  intro w4 hx hz hb
  obtain ⟨x0, x1, x2, x3, x4, x5, x6, x7, x8, x9, xf⟩ := hx.get
  obtain ⟨z0, z1, z2, z3, z4, z5, z6, z7, z8, z9, zf⟩ := hz.get
  simp only [zeroR] at x0 x1 x2 x3 x4 x5 x6 x7 x8 x9 z0 z1 z2 z3 z4 z5 z6 z7 z8 z9
  have HB := Lib.hid hb
  clear hx hz hb
  go_wp2_with fail
  exact bodyPost_ret (v := R.v ⟨key, 2, 0, st, zv, 0, 0, 0, 0, 0⟩) (by simp [results, Tryz.results15, go_sem, R.v, x0, x1, x2, x3, x4, x5, x6, x7, x8, x9, z0, z1, z2, z3, z4, z5, z6, z7, z8, z9]) rfl ⟨by rw [← HE.out], below_row HB.out (by omega) _ _ _ _ _ _ _ _ _ _⟩
set_option maxRecDepth 100000 in
set_option maxHeartbeats 8000000 in
theorem iRowFrom_timer (w : World) (tag : Int) (v : Value) (raw : List Int) (h : IntsArg w v raw) (hf : Fit raw) (h0 : -9223372036854775808 ≤ tag) (h1 : tag ≤ 9223372036854775807) (key : ByteArray) (hu : untagV tag = some (key, 3)) (hl : raw.length = 8) : Calls Tryz.prog 15 #[.int .i64 tag, v] w (Gives (timerRow key raw).v w) := by
  obtain ⟨A, cap, rfl, hn, hm, h3⟩ := h
  have hcap := hm
  unfold maxLen at hcap
  have HU := fun W => Lib.hid (iUntag_any W tag h0 h1)
  have H3 := Lib.hid h3
  clear h3 h0 h1
  rw [hu, untT_some] at HU
  have HK := Lib.hid (show key.size ≤ maxLen by have := keyOkV_iff.1 (tag_untag hu).2.1; unfold maxLen; omega)
  rw [hl] at H3 hn ⊢
  obtain ⟨b, off, rfl, hbl, hc⟩ := H3.out (by omega)
  have hn8 : 8 ≤ cap := by omega
  have HL := Lib.hid hl
  have HA := Lib.hid hm
  clear H3 hu hm hn
  have HC := Lib.hid hc
  have HF := Lib.hid hf
  clear hc hf hl
  go_enter Tryz.func15, Tryz.ntmps15
  go_wp2_with fail
  refine (HU _).out.mono ?_
  rintro e w2 ⟨rfl, hb0⟩
  have hz : RowAt w2 w.heap.size zeroR := (rowAt_new w _ zeroR rfl).below hb0
  have hb : Below w.heap.size w w2 := ((Below.refl _ _).alloc (Nat.le_refl _) _).trans (hb0.mono (by simp [go_sem]))
  clear hb0
  have hlt := hz.lt
  have HZ := Lib.hid hz
  have HB := Lib.hid hb
  clear hz hb
  go_upto_region 5 with fail
  refine wp_gen (fun w' => RowAt w' w.heap.size zeroR ∧ RowAt w' w2.heap.size ⟨key, 3, 0, false, 0, 0, 0, 0, 0, 0⟩ ∧ Below w.heap.size w w') ⟨HZ.out.alloc _, rowAt_new w2 w2.heap.size (⟨key, 3, 0, false, 0, 0, 0, 0, 0, 0⟩ : R) rfl, HB.out.alloc HB.out.size _⟩ ?_
  clear HZ HB HU
  generalize w2.heap.size = g at *
  clear w2
  rintro w2 ⟨hz, hx, hb⟩
  have HG := Lib.hid hlt
  clear hlt
  have HFX := Lib.hid (show R.Fit ⟨key, 3, 0, false, 0, 0, 0, 0, 0, 0⟩ from by constructor <;> (try unfold inW) <;> (try simp only) <;> first | exact HK.out | omega)
  have HSF := fun W (h : Below w.heap.size w W) => Lib.hid (iSampledFrom_any W ⟨key, 3, 0, false, 0, 0, 0, 0, 0, 0⟩ (raw.getD 4 0) _ raw (arg_drop (w := W) (b := b) (off := off) (cap := cap) (raw := raw) (Nat.lt_of_lt_of_le hbl h.size) (fun j hj => (h.cell (p := ⟨b, off + j, none⟩) hbl).trans (HC.out j (by rw [HL.out] at hj; exact hj))) (by rw [HL.out]; exact hn8) HA.out 5 3 (by rw [HL.out])) HF.out HL.out rfl HFX.out)
  have c4 := (hb.cell (p := ⟨b, off + 4, none⟩) hbl).trans (HC.out 4 (by omega))
  have HE := Lib.hid (show (dropRow (ringV ⟨key, 3, 0, false, 0, 0, 0, 0, 0, 0⟩ raw 3) (raw.getD 4 0)).v = (timerRow key raw).v from rfl)
  generalize (timerRow key raw).v = out at *
  obtain ⟨f0, f1⟩ := HF.out.at 4
  generalize raw.getD 4 0 = t at *
  generalize dropRow (ringV ⟨key, 3, 0, false, 0, 0, 0, 0, 0, 0⟩ raw 3) t = r2 at *
  have HS := Lib.hid (drR_next (below_drew _ _) (show w2.cell? ⟨b, off + 4, none⟩ = some (.int .i64 t) ∧ DrHeld w g w.heap.size b ⟨key, 3, 0, false, 0, 0, 0, 0, 0, 0⟩ w2 from ⟨c4, hx, hz, hb, hbl⟩))
  clear hx hz hb c4 HK HFX
  obtain ⟨key2, kind2, sum2, st2, last2, n2, mn2, mx2, total2, dropped2⟩ := r2
  unfold R.v at HSF
  simp only at HSF
  have hc5 : ¬ cap = 5 := by omega
  go_upto_region 12 with fail
  have HCL := (⟨HS.out⟩ : HoldsC (fun W => W.cell? ⟨b, off + 4, none⟩ = some (.int .i64 t) ∧ DrHeld w g w.heap.size b ⟨key, 3, 0, false, 0, 0, 0, 0, 0, 0⟩ W) _)
  have hall : ∀ p : Prop, (∀ W, HoldsC (fun W => W.cell? ⟨b, off + 4, none⟩ = some (.int .i64 t) ∧ DrHeld w g w.heap.size b ⟨key, 3, 0, false, 0, 0, 0, 0, 0, 0⟩ W) W → p) ↔ p := fun p => ⟨fun h => h _ HCL, fun h _ _ => h⟩
  refine wp_region_tail_lit (C := HoldsC (fun W => W.cell? ⟨b, off + 4, none⟩ = some (.int .i64 t) ∧ DrHeld w g w.heap.size b ⟨key, 3, 0, false, 0, 0, 0, 0, 0, 0⟩ W)) (by kernel_rfl) (by kernel_rfl) rfl HCL ?_
  repeat (refine WQ.step (fun K hK => ?_); go_simp; first | (refine hK _ ?_; clear hK K) | (apply Exists.intro; refine ⟨fun W hW => ?_, hK _ ?_⟩; (focus (first | (go_at_call 39; (with_reducible refine Calls.mono (HSF _ (drH_bel hW.out)).out ?_); rintro e w' ⟨rfl, hb'⟩; exact ⟨rfl, ⟨drR_next hb' hW.out⟩⟩) | exact rfl | (obtain ⟨y2, y3⟩ := hW.out; obtain ⟨y10, y11, y12, y13, y14, y15, y16, y17, y18, y19, yf⟩ := y3.1.get; simp only at y10 y11 y12 y13 y14 y15 y16 y17 y18 y19; go_simp; rfl))); clear hK K))
  refine WQ.nil ?_
  intro W hW
  obtain ⟨y2, y3⟩ := hW.out; obtain ⟨y10, y11, y12, y13, y14, y15, y16, y17, y18, y19, yf⟩ := y3.1.get; simp only at y10 y11 y12 y13 y14 y15 y16 y17 y18 y19
  refine ⟨rfl, ?_⟩
  clear hall HCL
  go_simp
  have Y3 := Lib.hid y3
  clear hW y2 y3 HS
  go_upto_region 13 with fail
  obtain ⟨hx3, hz3, hb3, _⟩ := Y3.out
  have hlg := HG.out
  refine wp_gen (fun w' => RowAt w' g ⟨key2, kind2, sum2, st2, last2, n2, mn2, mx2, total2, dropped2⟩ ∧ RowAt w' w.heap.size zeroR ∧ Below w.heap.size w w') ⟨hx3.all ⟨key2, kind2, sum2, st2, last2, n2, mn2, mx2, total2, dropped2⟩, ?_, below_row hb3 (Nat.le_of_lt hlg) _ _ _ _ _ _ _ _ _ _⟩ ?_
  · exact (((((((((hz3.far _ _ _ (by omega)).far _ _ _ (by omega)).far _ _ _ (by omega)).far _ _ _ (by omega)).far _ _ _ (by omega)).far _ _ _ (by omega)).far _ _ _ (by omega)).far _ _ _ (by omega)).far _ _ _ (by omega)).far _ _ _ (by omega)
  clear Y3 hx3 hz3 hb3 y10 y11 y12 y13 y14 y15 y16 y17 y18 y19 yf
  rintro w4 ⟨hx, hz, hb⟩
  obtain ⟨x0, x1, x2, x3, x4, x5, x6, x7, x8, x9, xf⟩ := hx.get
  obtain ⟨z0, z1, z2, z3, z4, z5, z6, z7, z8, z9, zf⟩ := hz.get
  simp only [zeroR] at x0 x1 x2 x3 x4 x5 x6 x7 x8 x9 z0 z1 z2 z3 z4 z5 z6 z7 z8 z9
  have HB := Lib.hid hb
  clear hx hz hb
  go_wp2_with fail
  exact bodyPost_ret (v := R.v ⟨key2, kind2, sum2, st2, last2, n2, mn2, mx2, total2, dropped2⟩) (by simp [results, Tryz.results15, go_sem, R.v, x0, x1, x2, x3, x4, x5, x6, x7, x8, x9, z0, z1, z2, z3, z4, z5, z6, z7, z8, z9]) rfl ⟨by rw [← HE.out], below_row HB.out (by omega) _ _ _ _ _ _ _ _ _ _⟩
set_option maxRecDepth 100000 in
set_option maxHeartbeats 8000000 in
theorem iRowFrom_no (w : World) (tag : Int) (v : Value) (raw : List Int) (h : IntsArg w v raw) (h0 : -9223372036854775808 ≤ tag) (h1 : tag ≤ 9223372036854775807) (hn : untagV tag = none ∨ raw.length ≠ 8) : Calls Tryz.prog 15 #[.int .i64 tag, v] w (Gives zeroR.v w) := by
  obtain ⟨A, cap, rfl, hnc, hm, h3⟩ := h
  unfold maxLen at hm
  have HU := fun W => Lib.hid (iUntag_any W tag h0 h1)
  have H3 := Lib.hid h3
  clear h3 h0 h1
  cases hu : untagV tag with
  | none =>
    rw [hu, untT_none] at HU
    clear hu hn
    generalize raw.length = n at *
    go_enter Tryz.func15, Tryz.ntmps15
    go_wp2_with fail
    refine (HU _).out.mono ?_
    rintro e w2 ⟨rfl, hb0⟩
    have hz : RowAt w2 w.heap.size zeroR := (rowAt_new w _ zeroR rfl).below hb0
    have hb : Below w.heap.size w w2 := ((Below.refl _ _).alloc (Nat.le_refl _) _).trans (hb0.mono (by simp [go_sem]))
    obtain ⟨z0, z1, z2, z3, z4, z5, z6, z7, z8, z9, zf⟩ := hz.get
    simp only [zeroR] at z0 z1 z2 z3 z4 z5 z6 z7 z8 z9
    have HB := Lib.hid hb
    clear hb0 hz hb HU
    go_wp2_with fail
    exact bodyPost_ret (v := zeroR.v) (by simp [results, Tryz.results15, go_sem, zeroR, R.v, z0, z1, z2, z3, z4, z5, z6, z7, z8, z9]) rfl ⟨rfl, below_row HB.out (Nat.le_refl _) _ _ _ _ _ _ _ _ _ _⟩
  | some x =>
    obtain ⟨key, kd⟩ := x
    have hl8 : raw.length ≠ 8 := by
      rcases hn with h | h
      · rw [hu] at h; cases h
      · exact h
    obtain ⟨_, hko, hk1, hk3⟩ := tag_untag hu
    rw [hu, untT_some] at HU
    have hk0 : (kd == 0) = false := by rw [beq_eq_false_iff_ne]; omega
    clear hu hn hko
    generalize raw.length = n at *
    have hl9 : ((n : Int) != 8) = true := by rw [bne_iff_ne]; omega
    go_enter Tryz.func15, Tryz.ntmps15
    go_wp2_with fail
    refine (HU _).out.mono ?_
    rintro e w2 ⟨rfl, hb0⟩
    have hz : RowAt w2 w.heap.size zeroR := (rowAt_new w _ zeroR rfl).below hb0
    have hb : Below w.heap.size w w2 := ((Below.refl _ _).alloc (Nat.le_refl _) _).trans (hb0.mono (by simp [go_sem]))
    obtain ⟨z0, z1, z2, z3, z4, z5, z6, z7, z8, z9, zf⟩ := hz.get
    simp only [zeroR] at z0 z1 z2 z3 z4 z5 z6 z7 z8 z9
    have HB := Lib.hid hb
    clear hb0 hz hb HU
    go_wp2_with fail
    exact bodyPost_ret (v := zeroR.v) (by simp [results, Tryz.results15, go_sem, zeroR, R.v, z0, z1, z2, z3, z4, z5, z6, z7, z8, z9]) rfl ⟨rfl, below_row HB.out (Nat.le_refl _) _ _ _ _ _ _ _ _ _ _⟩
theorem iRowFrom_any (w : World) (tag : Int) (v : Value) (raw : List Int) (h : IntsArg w v raw) (hf : Fit raw) (h0 : -9223372036854775808 ≤ tag) (h1 : tag ≤ 9223372036854775807) : Calls Tryz.prog 15 #[.int .i64 tag, v] w (Gives (rowFromV tag raw).v w) := by
  cases hu : untagV tag with
  | none => rw [rowFrom_none hu]; exact iRowFrom_no w tag v raw h h0 h1 (.inl hu)
  | some x =>
    by_cases hl : raw.length = 8
    · obtain ⟨key, kd⟩ := x
      obtain ⟨_, _, hk1, hk3⟩ := tag_untag hu
      rw [rowFrom_some hu hl]
      have hk : kd = 1 ∨ kd = 2 ∨ kd = 3 := by omega
      rcases hk with rfl | rfl | rfl
      · exact iRowFrom_count w tag v raw h hf h0 h1 key hu hl
      · exact iRowFrom_gauge w tag v raw h hf h0 h1 key hu hl
      · exact iRowFrom_timer w tag v raw h hf h0 h1 key hu hl
    · rw [rowFrom_len hu hl]; exact iRowFrom_no w tag v raw h h0 h1 (.inr hl)
end Go.Proofs.YthfbacaamhkjpaaGreatDoor
/-
  Rows of rows of the call's own, changed in place: cut shorter, the end cleared; the rows that are quiet struck.
-/
namespace Go.Proofs.YthfbacaamhkjpaaGreatDoor
open Go.RowKit M
set_option linter.unusedVariables false
set_option linter.unusedSimpArgs false
/-- An own row read only up to place k. -/
theorem own_short {w : World} {base size g n cap : Nat} {e : TypeId} {xs : List Value} (h : w.ownsRow base e size (.slice (some ⟨g, 0, none⟩) n cap) n xs) (k : Nat) (hk : k ≤ n) : w.ownsRow base e size (.slice (some ⟨g, 0, none⟩) k cap) k (xs.take (k * size)) := by
  have hle : k * size ≤ n * size := Nat.mul_le_mul_right _ hk
  refine ⟨by rw [List.length_take, h.1]; omega, .inr ?_⟩
  rcases h.2 with ⟨e0, _⟩ | ⟨g', cap', cur, e1, hb, hg, hn, hm, hc, ht⟩
  · cases e0
  · injection e1 with e2 e3 e4
    injection e2 with e5
    injection e5 with e6
    subst e6; subst e4
    exact ⟨g, cap, cur, rfl, hb, hg, by omega, hm, hc, by rw [← ht, List.take_take, Nat.min_eq_left hle]⟩
/-- Stores behind place m of an own row leave what lies ahead of it. -/
theorem own_behind {base size g n cap : Nat} {e : TypeId} (m : Nat) : ∀ (cs : List Value) (o : Nat) (w : World) (xs : List Value), m ≤ o → w.ownsRow base e size (.slice (some ⟨g, 0, none⟩) n cap) n xs →
    ∃ ys, (w.setCells g o cs).ownsRow base e size (.slice (some ⟨g, 0, none⟩) n cap) n ys ∧ ys.take m = xs.take m ∧ w.grownBy (w.setCells g o cs) (some g)
  | [], o, w, xs, _, h => ⟨xs, h, rfl, ⟨rfl, rfl, rfl, Nat.le_refl _, fun _ _ _ => rfl⟩⟩
  | c :: cs, o, w, xs, ho, h => by
    have h1 := World.ownsRow.stored h o c
    obtain ⟨ys, h2, h3, h4⟩ := own_behind m cs (o + 1) _ _ (by omega) h1.1
    refine ⟨ys, h2, ?_, grownR_trans h1.2 h4⟩
    rw [h3, List.take_set_of_le ho]
theorem cellsR_take (rs : List R) (k : Nat) : (cellsR rs).take (k * 10) = cellsR (rs.take k) := by
  induction rs generalizing k with
  | nil => simp [cellsR]
  | cons r rs ih =>
    cases k with
    | zero => simp [cellsR]
    | succ k =>
      show ((rowCells r).toList ++ cellsR rs).take ((k + 1) * 10) = (rowCells r).toList ++ cellsR (rs.take k)
      rw [List.take_append, cells10, show (k + 1) * 10 - 10 = k * 10 by omega, ih, List.take_of_length_le (by rw [cells10]; omega)]
/-- The own row cut to its first k rows, behind stores into the cells after them. -/
theorem OwnR.cut {w : World} {base g n cap : Nat} {rs : List R} (h : OwnR w base (.slice (some ⟨g, 0, none⟩) n cap) rs) (hn : rs.length = n) (k : Nat) (hk : k ≤ n) (cs : List Value) :
    OwnR (w.setCells g (k * 10) cs) base (.slice (some ⟨g, 0, none⟩) k cap) (rs.take k) ∧ w.grownBy (w.setCells g (k * 10) cs) (some g) := by
  subst hn
  obtain ⟨ys, h1, h2, h3⟩ := own_behind (k * 10) cs (k * 10) w _ (Nat.le_refl _) h
  have h4 := own_short h1 k hk
  rw [h2, cellsR_take] at h4
  refine ⟨?_, h3⟩
  unfold OwnR
  rwa [List.length_take, Nat.min_eq_left hk]
theorem OwnR.short {w : World} {base g n cap : Nat} {rs : List R} (h : OwnR w base (.slice (some ⟨g, 0, none⟩) n cap) rs) (hn : rs.length = n) (k : Nat) (hk : k ≤ n) : OwnR w base (.slice (some ⟨g, 0, none⟩) k cap) (rs.take k) := (h.cut hn k hk []).1
/-- What clear writes over m rows. -/
def clearedR (m : Nat) : List Value := (Builtin.zeroCells zeroR.v.cells m).toList
theorem cleared_length (m : Nat) : (clearedR m).length = m * 10 := by
  unfold clearedR Builtin.zeroCells
  rw [Array.length_toList, Array.size_map, Array.size_range]
  rfl
theorem cleared_one (m : Nat) : ∀ u ∈ clearedR m, u.oneCell' = true := by
  intro u hu
  unfold clearedR Builtin.zeroCells at hu
  rw [Array.mem_toList_iff, Array.mem_map] at hu
  obtain ⟨i, _, rfl⟩ := hu
  have hlt : i % zeroR.v.cells.size < 10 := Nat.mod_lt _ (by decide)
  generalize i % zeroR.v.cells.size = j at *
  have hj : j = 0 ∨ j = 1 ∨ j = 2 ∨ j = 3 ∨ j = 4 ∨ j = 5 ∨ j = 6 ∨ j = 7 ∨ j = 8 ∨ j = 9 := by omega
  rcases hj with rfl | rfl | rfl | rfl | rfl | rfl | rfl | rfl | rfl | rfl <;> rfl
theorem zero_row (w : World) : (zeroValue 35).run Tryz.prog w = .ok zeroR.v w := Tryz.zeroValue35 w
theorem clear_rows {w : World} {base g n cap : Nat} {rs : List R} (h : OwnR w base (.slice (some ⟨g, 0, none⟩) n cap) rs) (hn : rs.length = n) (k : Nat) (hk : k < n) (ty : TypeId) (c : Nat) :
    (Builtin.clear_ #[27] ty #[.slice (some ⟨g, k * 10, none⟩) (n - k) c]).run Tryz.prog w = .ok (.tuple #[]) (w.setCells g (k * 10) (clearedR (n - k))) := by
  have hst := run_storeCells_cells (P := Tryz.prog) g (k * 10) (clearedR (n - k)) 0 w (by
      intro j hj
      rw [cleared_length] at hj
      have e : k * 10 + j = (k * 10 + j) / 10 * 10 + (k * 10 + j) % 10 := by omega
      rw [Nat.add_zero, e, h.at hn ((k * 10 + j) / 10) (by omega) ((k * 10 + j) % 10) (by omega)]
      have hm : (k * 10 + j) % 10 < 10 := by omega
      rw [Array.getElem?_eq_getElem (show (k * 10 + j) % 10 < (rowCells _).size from hm)]
      rfl) (fun j _ => h.frz hn _) (cleared_one _)
  simp only [Nat.add_zero] at hst
  unfold clearedR at hst ⊢
  obtain ⟨m, hm⟩ : ∃ m, n - k = m + 1 := ⟨n - k - 1, by omega⟩
  rw [hm] at hst ⊢
  simp only [zeroR, R.v] at hst ⊢
  simp [Builtin.clear_, run_underlying Tryz.underlying27, zero_row, zeroR, R.v, hst]
/-- The first quiet row's place, or -1. -/
def quietAt (rs : List R) (k : Nat) : Prop := ∀ j, j < k → quietV (rs.getD j zeroR) = false
theorem FitR.get {rs : List R} (h : FitR rs) (j : Nat) (hj : j < rs.length) : (rs.getD j zeroR).Fit := h j hj
def IdxQ (w : World) (rs : List R) (e : Ending) (w' : World) : Prop := ((e = .returned (.int .i64 (-1)) ∧ quietAt rs rs.length) ∨ ∃ k : Nat, k < rs.length ∧ e = .returned (.int .i64 k) ∧ quietAt rs k ∧ quietV (rs.getD k zeroR) = true) ∧ Below w.heap.size w w'
set_option maxRecDepth 100000 in
set_option maxHeartbeats 4000000 in
theorem iIdx_any (w : World) (v : Value) (rs : List R) (h : RowsArg w v rs) (hf : FitR rs) : Calls Tryz.prog 70 #[v, .func (.func 46) #[] #[]] w (IdxQ w rs) := by
  obtain ⟨A, cap, rfl, h1, h2, h3⟩ := h
  unfold maxLen at h2
  have HI := Lib.hid (fun (e : Ending) (w' : World) (h : ((e = .returned (.int .i64 (-1)) ∧ quietAt rs rs.length) ∨ ∃ k : Nat, k < rs.length ∧ e = .returned (.int .i64 k) ∧ quietAt rs k ∧ quietV (rs.getD k zeroR) = true)) (hb : Below w.heap.size w w') => show IdxQ w rs e w' from ⟨h, hb⟩)
  have HF := Lib.hid hf
  clear hf
  generalize hn : rs.length = n at *
  have HNL := Lib.hid hn
  clear hn
  have H3 := Lib.hid h3
  clear h3
  go_enter Tryz.func70, Tryz.ntmps70
  go_wp2_with fail
  go_loopw [8] (fun i wr => ∃ j : Nat, j ≤ n ∧ i = .int .i64 j ∧ quietAt rs j ∧ Below w.heap.size w wr) (fun i _ => n - (intOf i).toNat)
  case atStart => exact ⟨0, Nat.zero_le _, rfl, fun j hj => absurd hj (Nat.not_lt_zero _), Below.refl _ _⟩
  case round =>
    obtain ⟨j, hj, rfl, hq, hbl⟩ := hrel
    have HQ := Lib.hid hq
    clear hq
    by_cases hlt : j < n
    · obtain ⟨b, off, rfl, hb, hc⟩ := H3.out (by omega)
      obtain ⟨x0, x1, x2, x3, x4, x5, x6, x7, x8, x9⟩ := ((hc j hlt).below hb hbl).get
      have hfj := HF.out j (by rw [HNL.out]; exact hlt)
      have HC := fun W => Lib.hid (iQuiet_any W (rs.getD j zeroR) hfj)
      have HB := Lib.hid hbl
      have HQ2 := Lib.hid (fun (q : quietV (rs.getD j zeroR) = false) => (show quietAt rs (j + 1) from fun i hi => by
        by_cases e : i = j
        · subst e; exact q
        · exact HQ.out i (by omega)))
      have HQ3 := Lib.hid (fun (q : quietV (rs.getD j zeroR) = true) => q)
      clear hc hbl hfj
      generalize hr : rs.getD j zeroR = r at *
      have HR := Lib.hid hr
      clear hr
      cases hq : quietV r with
      | true =>
        rw [hq] at HC
        obtain ⟨key, kind, sum, st, last, n', mn, mx, total, dropped⟩ := r
        unfold R.v at HC
        simp only at *
        go_wp2_with fail
        refine (HC _).out.mono ?_
        rintro e w2 ⟨rfl, hb2⟩
        have HB2 := Lib.hid (HB.out.trans (hb2.mono HB.out.size))
        clear hb2
        go_wp2_with fail
        go_ret
        exact HI.out _ _ (.inr ⟨j, hlt, rfl, HQ.out, by rw [HR.out]; exact hq⟩) HB2.out
      | false =>
        rw [hq] at HC
        have HQN := Lib.hid (HQ2.out hq)
        clear hq HQ2 HQ3
        obtain ⟨key, kind, sum, st, last, n', mn, mx, total, dropped⟩ := r
        unfold R.v at HC
        simp only at *
        go_wp2_with fail
        refine (HC _).out.mono ?_
        rintro e w2 ⟨rfl, hb2⟩
        have HB2 := Lib.hid (HB.out.trans (hb2.mono HB.out.size))
        clear hb2
        go_wp2_with fail
        go_roundw
        case rel => exact ⟨j + 1, by omega, by go_num, HQN.out, HB2.out⟩
        case measure => simp [intOf]; omega
    · have hjn : j = n := by omega
      subst hjn
      have HB := Lib.hid hbl
      clear hbl
      go_wp2_with fail
      go_ret
      exact HI.out _ _ (.inl ⟨rfl, HQ.out⟩) HB.out
end Go.Proofs.YthfbacaamhkjpaaGreatDoor
/-
  The rows that are quiet struck from an own row of rows, in place.
-/
namespace Go.Proofs.YthfbacaamhkjpaaGreatDoor
open Go.RowKit M
set_option linter.unusedVariables false
set_option linter.unusedSimpArgs false
/-- A call hands back the own row in block g, now holding rs; nothing else that was there is turned. -/
def InPlace (w : World) (base g cap : Nat) (rs : List R) (e : Ending) (w' : World) : Prop := ∃ n : Nat, n = rs.length ∧ e = .returned (.slice (some ⟨g, 0, none⟩) n cap) ∧ OwnR w' base (.slice (some ⟨g, 0, none⟩) n cap) rs ∧ w.grownBy w' (some g)
theorem grown_below {w w' : World} {g : Option Nat} (h : Below w.heap.size w w') : w.grownBy w' g := ⟨h.os, h.tape, h.output, h.size, fun i hi _ => h.block i hi⟩
theorem OwnR.inB {w : World} {base g n cap : Nat} {rs : List R} (h : OwnR w base (.slice (some ⟨g, 0, none⟩) n cap) rs) : base ≤ g ∧ g < w.heap.size := World.ownsRow.lt h g rfl
theorem OwnR.capLe {w : World} {base g n cap : Nat} {rs : List R} (h : OwnR w base (.slice (some ⟨g, 0, none⟩) n cap) rs) (hn : rs.length = n) : n ≤ cap ∧ cap ≤ maxLen := by
  subst hn
  rcases h.2 with ⟨e, _⟩ | ⟨g', cap', cur, e1, hb, hg, hn, hm, hc, ht⟩
  · cases e
  · injection e1 with e2 e3 e4; subst e4; exact ⟨hn, hm⟩
def keepQ (rs : List R) (j : Nat) : Bool := !quietV (rs.getD j zeroR)
theorem keepQ_all (rs : List R) : keptL (keepQ rs) rs rs.length = rs.filter fun r => !quietV r := keptL_filter (fun r => !quietV r) rs
theorem filter_none {rs : List R} (h : quietAt rs rs.length) : (rs.filter fun r => !quietV r) = rs := by
  rw [← keepQ_all, keptL_all (Nat.le_refl _) (fun j hj => by unfold keepQ; rw [h j hj]; rfl), List.take_length]
set_option maxRecDepth 100000 in
set_option maxHeartbeats 8000000 in
theorem iDel_any (w : World) (base g n cap : Nat) (rs : List R) (h : OwnR w base (.slice (some ⟨g, 0, none⟩) n cap) rs) (hn : rs.length = n) (hf : FitR rs) :
    Calls Tryz.prog 44 #[.slice (some ⟨g, 0, none⟩) n cap, .func (.func 46) #[] #[]] w (InPlace w base g cap (rs.filter fun r => !quietV r)) := by
  have HX := Lib.hid (iIdx_any w _ rs h.arg hf)
  obtain ⟨hc1, hc2⟩ := h.capLe hn
  have hg := h.inB.2
  have HO := Lib.hid h
  have HNL := Lib.hid hn
  have HF := Lib.hid hf
  unfold maxLen at hc2
  clear h hf hn
  go_enter Tryz.func44, Tryz.ntmps44
  go_wp2_with fail
  refine HX.out.mono ?_
  rintro e w2 ⟨hcase, hb2⟩
  have HO2 := Lib.hid (HO.out.below hb2)
  have HG2 := Lib.hid (grown_below (g := some g) hb2)
  rcases hcase with ⟨rfl, hq⟩ | ⟨k, hk, rfl, hq, hqk⟩
  · have HE := Lib.hid (filter_none hq)
    clear hq HX hb2
    go_wp2_with fail
    go_ret
    exact ⟨n, by rw [HE.out, HNL.out], rfl, by rw [HE.out]; exact HO2.out, HG2.out⟩
  · rw [HNL.out] at hk
    have hne : ((k : Int) == -1) = false := by rw [beq_eq_false_iff_ne]; omega
    have hs := strikeV_start (kp := keepQ rs) (l := rs) (k := k) (by rw [HNL.out]; exact hk) (fun j hj => by unfold keepQ; rw [hq j hj]; rfl) (by unfold keepQ; rw [hqk]; rfl)
    have HS := Lib.hid hs
    clear hs hq hqk HX hb2
    go_wp2_with fail
    go_loopw [5, 6] (fun i j wr => ∃ m : Nat, m ≤ n ∧ j = .int .i64 m ∧ i = .int .i64 ((keptL (keepQ rs) rs m).length : Nat) ∧ (keptL (keepQ rs) rs m).length < m ∧ OwnR wr base (.slice (some ⟨g, 0, none⟩) n cap) (strikeV (keepQ rs) rs m) ∧ w.grownBy wr (some g)) (fun _ j _ => n - (intOf j).toNat)
    case atStart =>
      have e : (keptL (keepQ rs) rs (k + 1)).length = k := by rw [HS.out.1, List.length_take, HNL.out]; omega
      exact ⟨k + 1, by omega, by go_num, by rw [e], by omega, by rw [HS.out.2]; exact HO2.out, HG2.out⟩
    case round =>
      obtain ⟨m, hm, rfl, rfl, hkm, ho, hgr⟩ := hrel
      clear HO2 HG2 HS
      have hsl : (strikeV (keepQ rs) rs m).length = n := by rw [strikeV_length (by rw [HNL.out]; exact hm), HNL.out]
      have HO2 := Lib.hid ho
      have HG2 := Lib.hid hgr
      have HSL := Lib.hid hsl
      by_cases hlt : m < n
      · have hrow := ho.at hsl m hlt
        rw [strikeV_high m (by omega)] at hrow
        have hfj := HF.out m (by rw [HNL.out]; exact hlt)
        have HC := fun W => Lib.hid (iQuiet_any W (rs.getD m zeroR) hfj)
        have HK := Lib.hid (fun (q : quietV (rs.getD m zeroR) = false) => strikeV_keep (kp := keepQ rs) (l := rs) (m := m) (by rw [HNL.out]; exact hlt) (by unfold keepQ; rw [q]; rfl))
        have HKN := Lib.hid (fun (q : quietV (rs.getD m zeroR) = true) => strikeV_skip (kp := keepQ rs) (l := rs) (m := m) (by unfold keepQ; rw [q]; rfl))
        generalize hL : (keptL (keepQ rs) rs m).length = L at *
        generalize rs.getD m zeroR = r at *
        have HL := Lib.hid hL
        clear hfj ho hgr hsl hL
        obtain ⟨x0, x1, x2, x3, x4, x5, x6, x7, x8, x9⟩ := hrow.get
        clear hrow
        have hLn : L < n := by omega
        have hltz : (m : Int) < (n : Int) := by omega
        have hLz : (L : Int) < (n : Int) := by omega
        cases hq : quietV r with
        | true =>
          rw [hq] at HC
          have HK2 := Lib.hid (HKN.out hq)
          clear hq HK HKN
          obtain ⟨key, kind, sum, st, last, n', mn, mx, total, dropped⟩ := r
          unfold R.v at HC
          simp only at *
          go_wp2_with fail
          refine (HC _).out.mono ?_
          rintro e w3 ⟨rfl, hb3⟩
          have HO3 := Lib.hid ((HO2.out.alloc (.cells (rowCells ⟨key, kind, sum, st, last, n', mn, mx, total, dropped⟩) 35)).below hb3)
          have HG3 := Lib.hid (grownR_trans HG2.out (grown_below (g := some g) (((Below.refl _ _).alloc (Nat.le_refl _) (.cells (rowCells ⟨key, kind, sum, st, last, n', mn, mx, total, dropped⟩) 35)).trans (hb3.mono (by simp [go_sem])))))
          clear hb3
          go_wp2_with fail
          go_roundw
          case rel => exact ⟨m + 1, by omega, by go_num, by rw [HK2.out.1, HL.out], by rw [HK2.out.1, HL.out]; omega, by rw [HK2.out.2]; exact HO3.out, HG3.out⟩
          case measure => simp [intOf]; omega
        | false =>
          rw [hq] at HC
          have HK2 := Lib.hid (HK.out hq)
          clear hq HK HKN
          obtain ⟨key, kind, sum, st, last, n', mn, mx, total, dropped⟩ := r
          unfold R.v at HC
          simp only at *
          go_wp2_with fail
          refine (HC _).out.mono ?_
          rintro e w3 ⟨rfl, hb3⟩
          have hx3 := (rowAt_new wr _ ⟨key, kind, sum, st, last, n', mn, mx, total, dropped⟩ rfl).below hb3
          have HO3 := Lib.hid ((HO2.out.alloc (.cells (rowCells ⟨key, kind, sum, st, last, n', mn, mx, total, dropped⟩) 35)).below hb3)
          have HG3 := Lib.hid (grownR_trans HG2.out (grown_below (g := some g) (((Below.refl _ _).alloc (Nat.le_refl _) (.cells (rowCells ⟨key, kind, sum, st, last, n', mn, mx, total, dropped⟩) 35)).trans (hb3.mono (by simp [go_sem])))))
          obtain ⟨z0, z1, z2, z3, z4, z5, z6, z7, z8, z9⟩ := (HO3.out.at HSL.out L hLn).get
          have zf := HO3.out.frz HSL.out
          clear hb3 x0 x1 x2 x3 x4 x5 x6 x7 x8 x9
          obtain ⟨x0, x1, x2, x3, x4, x5, x6, x7, x8, x9, xf⟩ := hx3.get
          clear hx3
          go_wp2_with fail
          go_roundw
          case rel =>
            have hst := HO3.out.put HSL.out L hLn ⟨key, kind, sum, st, last, n', mn, mx, total, dropped⟩
            exact ⟨m + 1, by omega, by go_num, by rw [HK2.out.1]; go_num, by rw [HK2.out.1]; omega, by rw [HK2.out.2]; exact hst.1, grownR_trans HG3.out hst.2⟩
          case measure => simp [intOf]; omega
      · have hmn : m = n := by omega
        subst hmn
        have hE := strikeV_done (keepQ rs) rs m
        have hF : keptL (keepQ rs) rs m = rs.filter fun r => !quietV r := by rw [← keepQ_all, HNL.out]
        rw [hF] at hE hkm
        rw [hF]
        have hcl := fun ty c => clear_rows ho hsl (rs.filter fun r => !quietV r).length hkm ty c
        have HCUT := Lib.hid (fun cs => ho.cut hsl (rs.filter fun r => !quietV r).length (Nat.le_of_lt hkm) cs)
        rw [hE] at HCUT
        clear ho hgr hsl hE hF HO2
        have HLL := Lib.hid (rfl : (rs.filter fun r => !quietV r).length = (rs.filter fun r => !quietV r).length)
        generalize hL : (rs.filter fun r => !quietV r).length = L at *
        have HL := Lib.hid hL
        clear hL HLL
        go_wp2_with fail
        go_ret
        exact ⟨L, HL.out.symm, rfl, (HCUT.out _).1, grownR_trans HG2.out (HCUT.out _).2⟩
end Go.Proofs.YthfbacaamhkjpaaGreatDoor
/-
  An own row of rows sorted by their keys, in place.
-/
namespace Go.Proofs.YthfbacaamhkjpaaGreatDoor
open Go.RowKit M
set_option linter.unusedVariables false
set_option linter.unusedSimpArgs false
/-- The row in block g now holds rs; nothing else that was there is turned; nothing is handed back. -/
def Sorted (w : World) (base g n cap : Nat) (rs : List R) (e : Ending) (w' : World) : Prop := e = .returned (.tuple #[]) ∧ OwnR w' base (.slice (some ⟨g, 0, none⟩) n cap) rs ∧ w.grownBy w' (some g)
/-- Two neighbours exchanged: the row x and the one ahead of it. -/
theorem set_swap (A C : List R) (a x : R) : ((A ++ a :: x :: C).set (A.length + 1) a).set A.length x = A ++ x :: a :: C := by
  rw [List.set_append_right _ _ (by omega), show A.length + 1 - A.length = 1 by omega, List.set_append_right _ _ (by omega), Nat.sub_self]
  rfl
theorem getD_at (A C : List R) (x : R) : (A ++ x :: C).getD A.length zeroR = x := by
  rw [List.getD_eq_getElem?_getD, List.getElem?_append_right (Nat.le_refl _), Nat.sub_self]; rfl
theorem getD_next (A C : List R) (a x : R) : (A ++ a :: x :: C).getD (A.length + 1) zeroR = x := by
  rw [List.getD_eq_getElem?_getD, List.getElem?_append_right (by omega), show A.length + 1 - A.length = 1 by omega]; rfl
/-- The inner loop's row at place j: A has been sorted, x goes down, B lies behind it, what has not been looked at at the end. -/
structure Down (S : List R) (x : R) (C : List R) (j : Nat) (l : List R) : Prop where
  parts : ∃ A B, S = A ++ B ∧ A.length = j ∧ l = A ++ x :: (B ++ C) ∧ (B = [] ∨ ∃ b B', B = b :: B' ∧ strLt x.key b.key = true)
theorem Down.stop {S : List R} {x : R} {C : List R} {j : Nat} {l : List R} (h : Down S x C j l) (hS : AscV S) (hs : j = 0 ∨ strLt x.key (l.getD (j - 1) zeroR).key = false) : l = insV x S ++ C := by
  obtain ⟨A, B, rfl, rfl, rfl, hB⟩ := h.parts
  rw [ins_at x A B hS ?_ hB, List.append_assoc]
  · rfl
  · rcases List.eq_nil_or_concat A with e | ⟨A', a, e⟩
    · exact .inl e
    · refine .inr ⟨A', a, by rw [e]; simp, ?_⟩
      rcases hs with h0 | hs
      · rw [e] at h0; simp at h0
      · rw [e] at hs
        have e2 : (A'.concat a).length - 1 = A'.length := by simp
        rw [e2, List.concat_eq_append, List.append_assoc, List.singleton_append, getD_at] at hs
        exact hs
theorem Down.next {S : List R} {x : R} {C : List R} {j : Nat} {l : List R} (h : Down S x C (j + 1) l) (hs : strLt x.key (l.getD j zeroR).key = true) : Down S x C j ((l.set (j + 1) (l.getD j zeroR)).set j x) := by
  obtain ⟨A, B, rfl, hA, rfl, hB⟩ := h.parts
  rcases List.eq_nil_or_concat A with e | ⟨A', a, e⟩
  · rw [e] at hA; simp at hA
  · rw [List.concat_eq_append] at e
    subst e
    have hj : j = A'.length := by simp at hA; omega
    subst hj
    have e2 : A' ++ [a] ++ x :: (B ++ C) = A' ++ a :: x :: (B ++ C) := by simp
    rw [e2] at hs ⊢
    rw [getD_at] at hs ⊢
    rw [set_swap]
    exact ⟨A', a :: B, by simp, rfl, by simp, .inr ⟨a, B, rfl, hs⟩⟩
theorem Down.at {S : List R} {x : R} {C : List R} {j : Nat} {l : List R} (h : Down S x C j l) : l.getD j zeroR = x := by
  obtain ⟨A, B, rfl, rfl, rfl, hB⟩ := h.parts
  exact getD_at _ _ _
theorem Down.len {S : List R} {x : R} {C : List R} {j : Nat} {l : List R} (h : Down S x C j l) : l.length = S.length + 1 + C.length := by
  obtain ⟨A, B, rfl, rfl, rfl, hB⟩ := h.parts
  simp; omega
theorem insV_length (r : R) (l : List R) : (insV r l).length = l.length + 1 := by
  induction l with
  | nil => rfl
  | cons x l ih => unfold insV; split; rfl; rw [List.length_cons, ih, List.length_cons]
theorem sortV_length (l : List R) : (sortV l).length = l.length := by
  have : ∀ (l s : List R), (l.foldl (fun s r => insV r s) s).length = s.length + l.length := by
    intro l
    induction l with
    | nil => intro s; rfl
    | cons x l ih => intro s; rw [List.foldl_cons, ih, insV_length, List.length_cons]; omega
  have h := this l []
  rw [List.length_nil, Nat.zero_add] at h
  exact h
/-- The outer loop's row: the first i are sorted. -/
def sortT (rs : List R) (i : Nat) : List R := sortV (rs.take i) ++ rs.drop i
theorem sortT_length (rs : List R) (i : Nat) : (sortT rs i).length = rs.length := by rw [sortT, List.length_append, sortV_length, ← List.length_append, List.take_append_drop]
theorem sortT_all {rs : List R} {i : Nat} (h : rs.length ≤ i) : sortT rs i = sortV rs := by rw [sortT, List.take_of_length_le h, List.drop_of_length_le h, List.append_nil]
theorem sortT_one (rs : List R) : sortT rs 1 = rs := by
  cases rs with
  | nil => rfl
  | cons r rs => simp [sortT, sortV, insV]
theorem Down.start {rs : List R} {i : Nat} (h : i < rs.length) : Down (sortV (rs.take i)) (rs.getD i zeroR) (rs.drop (i + 1)) i (sortT rs i) := by
  refine ⟨sortV (rs.take i), [], by simp, by rw [sortV_length, List.length_take]; omega, ?_, .inl rfl⟩
  rw [sortT, List.drop_eq_getElem_cons h, List.getD_eq_getElem?_getD, List.getElem?_eq_getElem h]
  rfl
theorem Down.done {rs : List R} {i j : Nat} {l : List R} (hi : i < rs.length) (h : Down (sortV (rs.take i)) (rs.getD i zeroR) (rs.drop (i + 1)) j l) (hs : j = 0 ∨ strLt (rs.getD i zeroR).key (l.getD (j - 1) zeroR).key = false) : l = sortT rs (i + 1) := by
  rw [h.stop (asc_sort _) hs, sortT, take_next rs i hi, sortV_snoc]
set_option maxRecDepth 100000 in
set_option maxHeartbeats 8000000 in
theorem iIns_any (w : World) (base g n cap : Nat) (rs : List R) (h : OwnR w base (.slice (some ⟨g, 0, none⟩) n cap) rs) (hn : rs.length = n) :
    Calls Tryz.prog 88 #[.slice (some ⟨g, 0, none⟩) n cap, .int .i64 0, .int .i64 n, .func (.func 48) #[] #[]] w (Sorted w base g n cap (sortV rs)) := by
  obtain ⟨hc1, hc2⟩ := h.capLe hn
  have hg := h.inB.2
  have HO := Lib.hid h
  have HNL := Lib.hid hn
  have HCMP := fun W r s => Lib.hid (iCmp_any W r s)
  unfold maxLen at hc2
  clear h hn
  go_enter Tryz.func88, Tryz.ntmps88
  go_wp2_with fail
  go_loopw [8] (fun vi wr => ∃ i : Nat, vi = .int .i64 i ∧ 1 ≤ i ∧ i ≤ n + 1 ∧ OwnR wr base (.slice (some ⟨g, 0, none⟩) n cap) (sortT rs i) ∧ w.grownBy wr (some g)) (fun vi _ => n + 1 - (intOf vi).toNat)
  case atStart => exact ⟨1, by go_num, Nat.le_refl _, by omega, by rw [sortT_one]; exact HO.out, ⟨rfl, rfl, rfl, Nat.le_refl _, fun _ _ _ => rfl⟩⟩
  case round =>
    obtain ⟨i, rfl, hi1, hi2, ho, hgr⟩ := hrel
    by_cases hlt : i < n
    · have hltz : (i : Int) < (n : Int) := by omega
      have HST := Lib.hid (Down.start (rs := rs) (i := i) (by rw [HNL.out]; exact hlt))
      have HDN := Lib.hid (fun j l => Down.done (rs := rs) (i := i) (j := j) (l := l) (by rw [HNL.out]; exact hlt))
      have HO1 := Lib.hid ho
      have HG1 := Lib.hid hgr
      have hlen : (sortV (rs.take i)).length + 1 + (rs.drop (i + 1)).length = n := by rw [sortV_length, List.length_take, List.length_drop, HNL.out]; omega
      have HLEN := Lib.hid hlen
      clear ho hgr HO hlen
      generalize rs.getD i zeroR = x at *
      generalize sortV (rs.take i) = S at *
      generalize rs.drop (i + 1) = C at *
      go_wp2_with fail
      obtain ⟨wo, rfl⟩ : ∃ wo : World, wo = wr := ⟨_, rfl⟩
      go_loopw [9] (fun vj wr2 => ∃ (j : Nat) (l : List R), vj = .int .i64 j ∧ j ≤ i ∧ Down S x C j l ∧ OwnR wr2 base (.slice (some ⟨g, 0, none⟩) n cap) l ∧ w.grownBy wr2 (some g)) (fun vj _ => (intOf vj).toNat)
      case atStart => exact ⟨i, _, rfl, Nat.le_refl _, HST.out, HO1.out, HG1.out⟩
      case round =>
        obtain ⟨j, l, rfl, hji, hd, ho, hgr⟩ := hrel
        have hll : l.length = n := by rw [hd.len, HLEN.out]
        have hat := hd.at
        clear HST HO1 HG1
        by_cases hj0 : j = 0
        · subst hj0
          have HE := Lib.hid (HDN.out 0 l hd (.inl rfl))
          have HS := Lib.hid (show OwnR wr.drew base (.slice (some ⟨g, 0, none⟩) n cap) l ∧ w.grownBy wr.drew (some g) from ⟨ho.below (below_drew _ _), grownR_trans hgr (grown_below (below_drew _ _))⟩)
          clear ho hgr hd hat
          have hgt : decide ((0 : Int) > 0) = false := rfl
          go_wp2_with fail
          have HCL := (⟨HS.out⟩ : HoldsC (fun W => OwnR W base (.slice (some ⟨g, 0, none⟩) n cap) l ∧ w.grownBy W (some g)) _)
          have hall : ∀ p : Prop, (∀ W, HoldsC (fun W => OwnR W base (.slice (some ⟨g, 0, none⟩) n cap) l ∧ w.grownBy W (some g)) W → p) ↔ p := fun p => ⟨fun h => h _ HCL, fun h _ _ => h⟩
          refine wp_region_wq (C := HoldsC (fun W => OwnR W base (.slice (some ⟨g, 0, none⟩) n cap) l ∧ w.grownBy W (some g))) (by kernel_rfl) (by kernel_rfl) HCL ?_
          repeat (refine WQ.step (fun K hK => ?_); go_simp; first | (refine hK _ ?_; clear hK K) | (apply Exists.intro; refine ⟨fun W hW => ?_, hK _ ?_⟩; (focus (first | exact rfl | (obtain ⟨hO, hG⟩ := hW.out; go_simp; rfl))); clear hK K))
          refine WQ.nil ?_
          intro W hW
          obtain ⟨hO, hG⟩ := hW.out
          clear hall HCL
          have HO3 := Lib.hid hO
          have HG3 := Lib.hid hG
          clear hW hO hG HS
          go_wp2_with fail
          go_roundw
          case rel => exact ⟨i + 1, by go_num, by omega, by omega, by rw [← HE.out]; exact HO3.out, HG3.out⟩
          case measure => simp [intOf]; omega
        · obtain ⟨jp, rfl⟩ : ∃ jp, j = jp + 1 := ⟨j - 1, by omega⟩
          have hjn : jp + 1 < n := by omega
          have HE := Lib.hid (fun (q : strLt x.key (l.getD jp zeroR).key = false) => HDN.out (jp + 1) l hd (.inr q))
          have HX := Lib.hid (fun (q : strLt x.key (l.getD jp zeroR).key = true) => hd.next q)
          have hless := cmpV_less x.key (l.getD jp zeroR).key
          have HS := Lib.hid (show OwnR wr.drew base (.slice (some ⟨g, 0, none⟩) n cap) l ∧ w.grownBy wr.drew (some g) from ⟨ho.below (below_drew _ _), grownR_trans hgr (grown_below (below_drew _ _))⟩)
          have HROW := Lib.hid (fun W (h : OwnR W base (.slice (some ⟨g, 0, none⟩) n cap) l) => (show Row10 W g ((jp + 1) * 10) x ∧ Row10 W g (jp * 10) (l.getD jp zeroR) from ⟨by have := h.at hll (jp + 1) hjn; rwa [hat] at this, h.at hll jp (by omega)⟩))
          have HC2 := fun W => Lib.hid (HCMP W x (l.getD jp zeroR)).out
          have HLL := Lib.hid hll
          clear ho hgr hd hat HCMP HDN
          generalize l.getD jp zeroR = y at *
          have hp1 : (jp : Int) + 1 < (n : Int) := by omega
          have hp2 : (0 : Int) ≤ (jp : Int) + 1 := by omega
          have hp3 : ((jp : Int) + 1).toNat = jp + 1 := by omega
          have hp4 : (jp : Int) < (n : Int) := by omega
          have hp5 : IntKind.i64.wrap ((jp : Int) + 1 - 1) = (jp : Int) := by rw [IntKind.wrap_i64]; omega
          have hp6 : IntKind.i64.wrap (jp : Int) = (jp : Int) := by rw [IntKind.wrap_i64]; omega
          have hp7 : decide ((jp : Int) + 1 > 0) = true := by rw [decide_eq_true]; omega
          have hp8 : (0 : Int) < (jp : Int) + 1 := by omega
          obtain ⟨key, kind, sum, st, last, n1, mn, mx, total, dropped⟩ := x
          obtain ⟨key', kind', sum', st', last', n1', mn', mx', total', dropped'⟩ := y
          unfold R.v at HC2
          simp only at HC2 hless HE HX
          generalize cmpV key key' = c at *
          generalize strLt key key' = sl at *
          go_wp2_with fail
          have HCL := (⟨HS.out⟩ : HoldsC (fun W => OwnR W base (.slice (some ⟨g, 0, none⟩) n cap) l ∧ w.grownBy W (some g)) _)
          have hall : ∀ p : Prop, (∀ W, HoldsC (fun W => OwnR W base (.slice (some ⟨g, 0, none⟩) n cap) l ∧ w.grownBy W (some g)) W → p) ↔ p := fun p => ⟨fun h => h _ HCL, fun h _ _ => h⟩
          refine wp_region_wq (C := HoldsC (fun W => OwnR W base (.slice (some ⟨g, 0, none⟩) n cap) l ∧ w.grownBy W (some g))) (by kernel_rfl) (by kernel_rfl) HCL ?_
          repeat (refine WQ.step (fun K hK => ?_); go_simp; first | (refine hK _ ?_; clear hK K) | (apply Exists.intro; refine ⟨fun W hW => ?_, hK _ ?_⟩; (focus (first | (go_at_call 48; (with_reducible refine Calls.mono (Hid.out (HC2 _)) ?_); rintro e w' ⟨rfl, hb'⟩; exact ⟨rfl, ⟨hW.out.1.below hb', grownR_trans hW.out.2 (grown_below hb')⟩⟩) | exact rfl | (obtain ⟨hO, hG⟩ := hW.out; obtain ⟨hRx, hRy⟩ := HROW.out _ hO; obtain ⟨x0, x1, x2, x3, x4, x5, x6, x7, x8, x9⟩ := hRx.get; obtain ⟨y0, y1, y2, y3, y4, y5, y6, y7, y8, y9⟩ := hRy.get; simp only at x0 x1 x2 x3 x4 x5 x6 x7 x8 x9 y0 y1 y2 y3 y4 y5 y6 y7 y8 y9; go_simp; rfl))); clear hK K))
          refine WQ.nil ?_
          intro W hW
          obtain ⟨hO, hG⟩ := hW.out; obtain ⟨hRx, hRy⟩ := HROW.out _ hO; obtain ⟨x0, x1, x2, x3, x4, x5, x6, x7, x8, x9⟩ := hRx.get; obtain ⟨y0, y1, y2, y3, y4, y5, y6, y7, y8, y9⟩ := hRy.get; simp only at x0 x1 x2 x3 x4 x5 x6 x7 x8 x9 y0 y1 y2 y3 y4 y5 y6 y7 y8 y9
          clear hall HCL
          have HO3 := Lib.hid hO
          have HG3 := Lib.hid hG
          have zf := hO.frz HLL.out
          clear hW hO hG HS hRx hRy HROW
          cases sl with
          | false =>
            have HE2 := Lib.hid (HE.out rfl)
            clear HE HX
            go_wp2_with fail
            go_roundw
            case rel => exact ⟨i + 1, by go_num, by omega, by omega, by rw [← HE2.out]; exact HO3.out, HG3.out⟩
            case measure => simp [intOf]; omega
          | true =>
            have HX2 := Lib.hid (HX.out rfl)
            clear HE HX
            go_wp2_with fail
            go_region
            all_goals go_wp2
            go_roundw
            case rel =>
              have p1 := HO3.out.put HLL.out (jp + 1) hjn ⟨key', kind', sum', st', last', n1', mn', mx', total', dropped'⟩
              have p2 := p1.1.put (by rw [List.length_set]; exact HLL.out) jp (by omega) ⟨key, kind, sum, st, last, n1, mn, mx, total, dropped⟩
              exact ⟨jp, _, rfl, by omega, HX2.out, p2.1.below (below_drew _ _), grownR_trans HG3.out (grownR_trans p1.2 (grownR_trans p2.2 (grown_below (below_drew _ _))))⟩
            case measure => simp [intOf]
    · have HO2 := Lib.hid ho
      have HG2 := Lib.hid hgr
      have HE := Lib.hid (sortT_all (rs := rs) (i := i) (by rw [HNL.out]; omega))
      have hltz : ¬ (i : Int) < (n : Int) := by omega
      clear ho hgr
      go_wp2_with fail
      go_end0
      exact ⟨rfl, by rw [← HE.out]; exact HO2.out, HG2.out⟩
set_option maxRecDepth 100000 in
set_option maxHeartbeats 4000000 in
theorem iStable_any (w : World) (base g n cap : Nat) (rs : List R) (h : OwnR w base (.slice (some ⟨g, 0, none⟩) n cap) rs) (hn : rs.length = n) (h19 : n ≤ 19) :
    Calls Tryz.prog 71 #[.slice (some ⟨g, 0, none⟩) n cap, .int .i64 n, .func (.func 48) #[] #[]] w (Sorted w base g n cap (sortV rs)) := by
  have HI := Lib.hid (iIns_any w base g n cap rs h hn)
  clear h hn
  have h1 : ¬ (20 : Int) ≤ (n : Int) := by omega
  have h2 : ¬ (20 : Int) < (n : Int) := by omega
  have h3 : decide ((20 : Int) ≤ (n : Int)) = false := by rw [decide_eq_false]; omega
  have h4 : decide ((20 : Int) < (n : Int)) = false := by rw [decide_eq_false]; omega
  go_enter Tryz.func71, Tryz.ntmps71
  go_wp2_with fail
  go_loopw [7, 8] (fun x y wr => x = .int .i64 0 ∧ y = .int .i64 20 ∧ wr = w) (fun _ _ _ => 0)
  case atStart => exact ⟨rfl, rfl, rfl⟩
  case round =>
    obtain ⟨rfl, rfl, rfl⟩ := hrel
    go_wp2_with fail
    refine HI.out.mono ?_
    rintro e w2 ⟨rfl, ho, hg⟩
    have HO := Lib.hid ho
    have HG := Lib.hid hg
    clear ho hg HI
    go_wp2_with fail
    go_loopw [6] (fun x wr => x = .int .i64 20 ∧ wr = w2) (fun _ _ => 0)
    case atStart => exact ⟨rfl, rfl⟩
    case round =>
      obtain ⟨rfl, rfl⟩ := hrel
      go_wp2_with fail
      go_end0
      exact ⟨rfl, HO.out, HG.out⟩
set_option maxRecDepth 100000 in
set_option maxHeartbeats 4000000 in
theorem iSort_any (w : World) (base g n cap : Nat) (rs : List R) (h : OwnR w base (.slice (some ⟨g, 0, none⟩) n cap) rs) (hn : rs.length = n) (h19 : n ≤ 19) :
    Calls Tryz.prog 47 #[.slice (some ⟨g, 0, none⟩) n cap, .func (.func 48) #[] #[]] w (Sorted w base g n cap (sortV rs)) := by
  have HI := Lib.hid (iStable_any w base g n cap rs h hn h19)
  clear h hn
  go_enter Tryz.func47, Tryz.ntmps47
  go_wp2_with fail
  refine HI.out.mono ?_
  rintro e w2 ⟨rfl, ho, hg⟩
  have HO := Lib.hid ho
  have HG := Lib.hid hg
  clear ho hg HI
  go_wp2_with fail
  go_end0
  exact ⟨rfl, HO.out, HG.out⟩
end Go.Proofs.YthfbacaamhkjpaaGreatDoor
/-
  Of rows with one key, side by side in an own row, the first alone, in place.
-/
namespace Go.Proofs.YthfbacaamhkjpaaGreatDoor
open Go.RowKit M
set_option linter.unusedVariables false
set_option linter.unusedSimpArgs false
theorem oneV_short {rs : List R} (h : rs.length < 2) : oneV rs = rs := by
  match rs, h with
  | [], _ => rfl
  | [x], _ => rfl
def NewTo (rs : List R) (k : Nat) : Prop := ∀ j, j < k → newKey rs j = true
theorem newKey_at {rs : List R} {k : Nat} : newKey rs (k + 1) = !decide ((rs.getD (k + 1) zeroR).key = (rs.getD k zeroR).key) := by
  unfold newKey
  rw [decide_eq_false (by omega), Bool.false_or]; rfl
theorem one_all {rs : List R} (h : NewTo rs rs.length) : oneV rs = rs := by
  rw [← keptL_one, keptL_all (Nat.le_refl _) h, List.take_length]
set_option maxRecDepth 100000 in
set_option maxHeartbeats 8000000 in
theorem iCompact_any (w : World) (base g n cap : Nat) (rs : List R) (h : OwnR w base (.slice (some ⟨g, 0, none⟩) n cap) rs) (hn : rs.length = n) :
    Calls Tryz.prog 50 #[.slice (some ⟨g, 0, none⟩) n cap, .func (.func 51) #[] #[]] w (InPlace w base g cap (oneV rs)) := by
  obtain ⟨hc1, hc2⟩ := h.capLe hn
  have hg := h.inB.2
  have HO := Lib.hid h
  have HNL := Lib.hid hn
  have HEQ := fun W r s => Lib.hid (iEq_any W r s)
  unfold maxLen at hc2
  clear h hn
  by_cases h2 : n < 2
  · have HE := Lib.hid (oneV_short (rs := rs) (by rw [HNL.out]; exact h2))
    have hd : decide ((n : Int) < 2) = true := by rw [decide_eq_true]; omega
    have hd2 : (n : Int) < 2 := by omega
    go_enter Tryz.func50, Tryz.ntmps50
    go_wp2_with fail
    go_ret
    exact ⟨n, by rw [HE.out, HNL.out], rfl, by rw [HE.out]; exact HO.out, ⟨rfl, rfl, rfl, Nat.le_refl _, fun _ _ _ => rfl⟩⟩
  have hd : decide ((n : Int) < 2) = false := by rw [decide_eq_false]; omega
  have hd2 : ¬ (n : Int) < 2 := by omega
  go_enter Tryz.func50, Tryz.ntmps50
  go_wp2_with fail
  go_loopw [5] (fun vk wr => ∃ k : Nat, k + 1 ≤ n ∧ vk = .int .i64 ((k + 1 : Nat) : Int) ∧ NewTo rs (k + 1) ∧ OwnR wr base (.slice (some ⟨g, 0, none⟩) n cap) rs ∧ w.grownBy wr (some g)) (fun vk _ => n - (intOf vk).toNat)
  case atStart => exact ⟨0, by omega, by go_num, fun j hj => by (obtain rfl : j = 0 := by omega); rfl, HO.out, ⟨rfl, rfl, rfl, Nat.le_refl _, fun _ _ _ => rfl⟩⟩
  case round =>
    obtain ⟨k, hk, rfl, hnew, ho, hgr⟩ := hrel
    have HNEW := Lib.hid hnew
    clear hnew HO
    by_cases hlt : k + 1 < n
    · have hltz : ((k + 1 : Nat) : Int) < (n : Int) := by omega
      have HS := Lib.hid (show OwnR wr.drew base (.slice (some ⟨g, 0, none⟩) n cap) rs ∧ w.grownBy wr.drew (some g) from ⟨ho.below (below_drew _ _), grownR_trans hgr (grown_below (below_drew _ _))⟩)
      have HROW := Lib.hid (fun W (h : OwnR W base (.slice (some ⟨g, 0, none⟩) n cap) rs) => (show Row10 W g ((k + 1) * 10) (rs.getD (k + 1) zeroR) ∧ Row10 W g (k * 10) (rs.getD k zeroR) from ⟨h.at HNL.out (k + 1) hlt, h.at HNL.out k (by omega)⟩))
      have HC2 := fun W => Lib.hid (HEQ W (rs.getD (k + 1) zeroR) (rs.getD k zeroR)).out
      have hnk := newKey_at (rs := rs) (k := k)
      clear ho hgr
      generalize rs.getD (k + 1) zeroR = x at *
      generalize rs.getD k zeroR = y at *
      have hp1 : (k : Int) + 1 < (n : Int) := by omega
      have hp2 : (0 : Int) ≤ (k : Int) + 1 := by omega
      have hp3 : ((k : Int) + 1).toNat = k + 1 := by omega
      have hp4 : (k : Int) < (n : Int) := by omega
      have hp5 : IntKind.i64.wrap ((k : Int) + 1 - 1) = (k : Int) := by rw [IntKind.wrap_i64]; omega
      have hp6 : IntKind.i64.wrap (k : Int) = (k : Int) := by rw [IntKind.wrap_i64]; omega
      obtain ⟨key, kind, sum, st, last, n1, mn, mx, total, dropped⟩ := x
      obtain ⟨key', kind', sum', st', last', n1', mn', mx', total', dropped'⟩ := y
      unfold R.v at HC2
      simp only at HC2 hnk
      generalize decide (key = key') = c at *
      go_wp2_with fail
      have HCL := (⟨HS.out⟩ : HoldsC (fun W => OwnR W base (.slice (some ⟨g, 0, none⟩) n cap) rs ∧ w.grownBy W (some g)) _)
      have hall : ∀ p : Prop, (∀ W, HoldsC (fun W => OwnR W base (.slice (some ⟨g, 0, none⟩) n cap) rs ∧ w.grownBy W (some g)) W → p) ↔ p := fun p => ⟨fun h => h _ HCL, fun h _ _ => h⟩
      refine wp_region_wq (C := HoldsC (fun W => OwnR W base (.slice (some ⟨g, 0, none⟩) n cap) rs ∧ w.grownBy W (some g))) (by kernel_rfl) (by kernel_rfl) HCL ?_
      repeat (refine WQ.step (fun K hK => ?_); go_simp; first | (refine hK _ ?_; clear hK K) | (apply Exists.intro; refine ⟨fun W hW => ?_, hK _ ?_⟩; (focus (first | (go_at_call 51; (with_reducible refine Calls.mono (Hid.out (HC2 _)) ?_); rintro e w' ⟨rfl, hb'⟩; exact ⟨rfl, ⟨hW.out.1.below hb', grownR_trans hW.out.2 (grown_below hb')⟩⟩) | exact rfl | (obtain ⟨hO, hG⟩ := hW.out; obtain ⟨hRx, hRy⟩ := HROW.out _ hO; obtain ⟨x0, x1, x2, x3, x4, x5, x6, x7, x8, x9⟩ := hRx.get; obtain ⟨y0, y1, y2, y3, y4, y5, y6, y7, y8, y9⟩ := hRy.get; simp only at x0 x1 x2 x3 x4 x5 x6 x7 x8 x9 y0 y1 y2 y3 y4 y5 y6 y7 y8 y9; go_simp; rfl))); clear hK K))
      refine WQ.nil ?_
      intro W hW
      obtain ⟨hO, hG⟩ := hW.out; obtain ⟨hRx, hRy⟩ := HROW.out _ hO; obtain ⟨x0, x1, x2, x3, x4, x5, x6, x7, x8, x9⟩ := hRx.get; obtain ⟨y0, y1, y2, y3, y4, y5, y6, y7, y8, y9⟩ := hRy.get; simp only at x0 x1 x2 x3 x4 x5 x6 x7 x8 x9 y0 y1 y2 y3 y4 y5 y6 y7 y8 y9
      clear hall HCL
      have HO3 := Lib.hid hO
      have HG3 := Lib.hid hG
      clear hW hO hG HS hRx hRy HROW HC2 x0 x1 x2 x3 x4 x5 x6 x7 x8 x9 y0 y1 y2 y3 y4 y5 y6 y7 y8 y9
      cases c with
      | false =>
        go_wp2_with fail
        go_roundw
        case rel =>
          refine ⟨k + 1, by omega, by go_num, fun j hj => ?_, HO3.out, HG3.out⟩
          by_cases e : j = k + 1
          · subst e; exact hnk
          · exact HNEW.out j (by omega)
        case measure => simp [intOf]; omega
      | true =>
        have hs := strikeV_start (kp := newKey rs) (l := rs) (k := k + 1) (by rw [HNL.out]; exact hlt) HNEW.out hnk
        have HS := Lib.hid hs
        clear hs hnk
        have hq1 : ¬ cap = k + 1 := by omega
        have hq2 : (k : Int) + 1 ≤ (cap : Int) := by omega
        have hq3 : (k : Int) + 1 ≤ (n : Int) := by omega
        go_upto_region 8 with fail
        generalize hdd : n - (k + 1) = d at *
        generalize hcd : cap - (k + 1) = cd at *
        have hd1 : k + 1 + d = n := by omega
        have hd2' : d ≤ cd := by omega
        clear hp1 hp2 hp3 hp4 hp5 hp6 hq1 hq2 hq3 hdd
        go_wp2_with fail
        obtain ⟨wo, rfl⟩ : ∃ wo : World, wo = wr := ⟨_, rfl⟩
        go_loopw [5, 7] (fun vl vq wr2 => ∃ q : Nat, q + 1 ≤ d ∧ vq = .int .i64 ((q + 1 : Nat) : Int) ∧ vl = .int .i64 ((keptL (newKey rs) rs (k + q + 2)).length : Nat) ∧ (keptL (newKey rs) rs (k + q + 2)).length < k + q + 2 ∧ OwnR wr2 base (.slice (some ⟨g, 0, none⟩) n cap) (strikeV (newKey rs) rs (k + q + 2)) ∧ w.grownBy wr2 (some g)) (fun _ vq _ => d - (intOf vq).toNat)
        case atStart =>
          have e : (keptL (newKey rs) rs (k + 0 + 2)).length = k + 1 := by rw [show k + 0 + 2 = k + 1 + 1 by omega, HS.out.1, List.length_take, HNL.out]; omega
          exact ⟨0, by omega, by go_num, by rw [e]; go_num, by omega, by rw [show k + 0 + 2 = k + 1 + 1 by omega, HS.out.2]; exact HO3.out, HG3.out⟩
        case round =>
          obtain ⟨q, hq, rfl, rfl, hL, ho, hgr⟩ := hrel
          have hsl : (strikeV (newKey rs) rs (k + q + 2)).length = n := by rw [strikeV_length (by rw [HNL.out]; omega), HNL.out]
          clear HS HO3 HG3 HNEW
          by_cases hq2 : q + 1 < d
          · have hmn : k + q + 2 < n := by omega
            have HS := Lib.hid (show OwnR wr.drew base (.slice (some ⟨g, 0, none⟩) n cap) (strikeV (newKey rs) rs (k + q + 2)) ∧ w.grownBy wr.drew (some g) from ⟨ho.below (below_drew _ _), grownR_trans hgr (grown_below (below_drew _ _))⟩)
            have HSL := Lib.hid hsl
            have HROW := Lib.hid (fun W (h : OwnR W base (.slice (some ⟨g, 0, none⟩) n cap) (strikeV (newKey rs) rs (k + q + 2))) => (show Row10 W g ((k + 1) * 10 + (q + 1) * 10) (rs.getD (k + q + 2) zeroR) ∧ Row10 W g ((k + 1) * 10 + q * 10) (rs.getD (k + q + 1) zeroR) from by
              have r1 := h.at HSL.out (k + q + 2) hmn
              have r2 := h.at HSL.out (k + q + 1) (by omega)
              rw [strikeV_high _ (by omega)] at r1 r2
              rw [show (k + 1) * 10 + (q + 1) * 10 = (k + q + 2) * 10 by omega, show (k + 1) * 10 + q * 10 = (k + q + 1) * 10 by omega]
              exact ⟨r1, r2⟩))
            have HC2 := fun W => Lib.hid (HEQ W (rs.getD (k + q + 2) zeroR) (rs.getD (k + q + 1) zeroR)).out
            have hnk := newKey_at (rs := rs) (k := k + q + 1)
            have HK := Lib.hid (fun (h : newKey rs (k + q + 2) = true) => strikeV_keep (kp := newKey rs) (l := rs) (m := k + q + 2) (by rw [HNL.out]; exact hmn) h)
            have HKN := Lib.hid (fun (h : newKey rs (k + q + 2) = false) => strikeV_skip (kp := newKey rs) (l := rs) (m := k + q + 2) h)
            clear ho hgr hsl
            rw [show k + q + 1 + 1 = k + q + 2 by omega] at hnk
            generalize rs.getD (k + q + 2) zeroR = x at *
            generalize rs.getD (k + q + 1) zeroR = y at *
            generalize hL2 : (keptL (newKey rs) rs (k + q + 2)).length = L at *
            have HL2 := Lib.hid hL2
            clear hL2
            have hp1 : (q : Int) + 1 < (d : Int) := by omega
            have hp2 : (0 : Int) ≤ (q : Int) + 1 := by omega
            have hp3 : ((q : Int) + 1).toNat = q + 1 := by omega
            have hp4 : (q : Int) < (d : Int) := by omega
            have hp5 : IntKind.i64.wrap ((q : Int) + 1 - 1) = (q : Int) := by rw [IntKind.wrap_i64]; omega
            have hp6 : IntKind.i64.wrap (q : Int) = (q : Int) := by rw [IntKind.wrap_i64]; omega
            have hLn : (L : Int) < (n : Int) := by omega
            obtain ⟨key, kind, sum, st, last, n1, mn, mx, total, dropped⟩ := x
            obtain ⟨key', kind', sum', st', last', n1', mn', mx', total', dropped'⟩ := y
            unfold R.v at HC2
            simp only at HC2 hnk
            generalize decide (key = key') = c at *
            go_wp2_with fail
            have HCL := (⟨HS.out⟩ : HoldsC (fun W => OwnR W base (.slice (some ⟨g, 0, none⟩) n cap) (strikeV (newKey rs) rs (k + q + 2)) ∧ w.grownBy W (some g)) _)
            have hall : ∀ p : Prop, (∀ W, HoldsC (fun W => OwnR W base (.slice (some ⟨g, 0, none⟩) n cap) (strikeV (newKey rs) rs (k + q + 2)) ∧ w.grownBy W (some g)) W → p) ↔ p := fun p => ⟨fun h => h _ HCL, fun h _ _ => h⟩
            refine wp_region_wq (C := HoldsC (fun W => OwnR W base (.slice (some ⟨g, 0, none⟩) n cap) (strikeV (newKey rs) rs (k + q + 2)) ∧ w.grownBy W (some g))) (by kernel_rfl) (by kernel_rfl) HCL ?_
            repeat (refine WQ.step (fun K hK => ?_); go_simp; first | (refine hK _ ?_; clear hK K) | (apply Exists.intro; refine ⟨fun W hW => ?_, hK _ ?_⟩; (focus (first | (go_at_call 51; (with_reducible refine Calls.mono (Hid.out (HC2 _)) ?_); rintro e w' ⟨rfl, hb'⟩; exact ⟨rfl, ⟨hW.out.1.below hb', grownR_trans hW.out.2 (grown_below hb')⟩⟩) | exact rfl | (obtain ⟨hO, hG⟩ := hW.out; obtain ⟨hRx, hRy⟩ := HROW.out _ hO; obtain ⟨x0, x1, x2, x3, x4, x5, x6, x7, x8, x9⟩ := hRx.get; obtain ⟨y0, y1, y2, y3, y4, y5, y6, y7, y8, y9⟩ := hRy.get; simp only at x0 x1 x2 x3 x4 x5 x6 x7 x8 x9 y0 y1 y2 y3 y4 y5 y6 y7 y8 y9; go_simp; rfl))); clear hK K))
            refine WQ.nil ?_
            intro W hW
            obtain ⟨hO, hG⟩ := hW.out; obtain ⟨hRx, hRy⟩ := HROW.out _ hO; obtain ⟨x0, x1, x2, x3, x4, x5, x6, x7, x8, x9⟩ := hRx.get; obtain ⟨y0, y1, y2, y3, y4, y5, y6, y7, y8, y9⟩ := hRy.get; simp only at x0 x1 x2 x3 x4 x5 x6 x7 x8 x9 y0 y1 y2 y3 y4 y5 y6 y7 y8 y9
            clear hall HCL
            have HO3 := Lib.hid hO
            have HG3 := Lib.hid hG
            clear hW hO hG HS hRx hRy HROW HC2 y0 y1 y2 y3 y4 y5 y6 y7 y8 y9
            cases c with
            | true =>
              have HK2 := Lib.hid (HKN.out hnk)
              clear HK HKN hnk
              go_wp2_with fail
              go_roundw
              case rel => exact ⟨q + 1, by omega, by go_num, by rw [show k + (q + 1) + 2 = k + q + 2 + 1 by omega, HK2.out.1, HL2.out], by rw [show k + (q + 1) + 2 = k + q + 2 + 1 by omega, HK2.out.1, HL2.out]; omega, by rw [show k + (q + 1) + 2 = k + q + 2 + 1 by omega, HK2.out.2]; exact HO3.out, HG3.out⟩
              case measure => simp [intOf]; omega
            | false =>
              have HK2 := Lib.hid (HK.out hnk)
              clear HK HKN hnk
              have hLn2 : L < n := by omega
              obtain ⟨z0, z1, z2, z3, z4, z5, z6, z7, z8, z9⟩ := (HO3.out.at HSL.out L hLn2).get
              have zf := HO3.out.frz HSL.out
              go_wp2_with fail
              go_roundw
              case rel =>
                have hst := HO3.out.put HSL.out L hLn2 ⟨key, kind, sum, st, last, n1, mn, mx, total, dropped⟩
                exact ⟨q + 1, by omega, by go_num, by rw [show k + (q + 1) + 2 = k + q + 2 + 1 by omega, HK2.out.1]; go_num, by rw [show k + (q + 1) + 2 = k + q + 2 + 1 by omega, HK2.out.1]; omega, by rw [show k + (q + 1) + 2 = k + q + 2 + 1 by omega, HK2.out.2]; exact hst.1, grownR_trans HG3.out hst.2⟩
              case measure => simp [intOf]; omega
          · have hqd : k + q + 2 = n := by omega
            have hE := strikeV_done (newKey rs) rs (k + q + 2)
            have hF : keptL (newKey rs) rs (k + q + 2) = oneV rs := by rw [← keptL_one, HNL.out, hqd]
            rw [hF] at hE hL
            rw [hF]
            have hln : (oneV rs).length < n := by omega
            have hcl := fun ty c => clear_rows ho hsl (oneV rs).length hln ty c
            have HCUT := Lib.hid (fun cs => ho.cut hsl (oneV rs).length (Nat.le_of_lt hln) cs)
            rw [hE] at HCUT
            have HG2 := Lib.hid hgr
            have hqz : ¬ (q : Int) + 1 < (d : Int) := by omega
            clear ho hgr hsl hE hF
            generalize hL2 : (oneV rs).length = L at *
            have HL := Lib.hid hL2
            clear hL2
            go_wp2_with fail
            go_ret
            exact ⟨L, HL.out.symm, rfl, (HCUT.out _).1, grownR_trans HG2.out (HCUT.out _).2⟩
    · have hkn : k + 1 = n := by omega
      have HE := Lib.hid (one_all (rs := rs) (by rw [HNL.out, ← hkn]; exact HNEW.out))
      have HO3 := Lib.hid ho
      have HG3 := Lib.hid hgr
      have hltz : ¬ ((k + 1 : Nat) : Int) < (n : Int) := by omega
      have hltz2 : ¬ (k : Int) + 1 < (n : Int) := by omega
      clear ho hgr
      go_wp2_with fail
      go_ret
      exact ⟨n, by rw [HE.out, HNL.out], rfl, by rw [HE.out]; exact HO3.out, HG3.out⟩
end Go.Proofs.YthfbacaamhkjpaaGreatDoor
/-
  Drawing any cells, with a buffer, and what a record takes: some cells, some numbers; nothing that was there is turned.
-/
namespace Go.Proofs.YthfbacaamhkjpaaGreatDoor
open Go.RowKit M
set_option linter.unusedVariables false
theorem ArD.cells {w u : World} {g : Nat} {K : Code} {v : Value} {zs : List Int} (h : ArD w g K v zs u) : CellsD w g K (.returned v) u := by
  obtain ⟨s, hc⟩ := h.cur
  exact ⟨v, zs, s, rfl, h.own.rowN, by rw [h.len]; exact Nat.le_refl _, hc, h.grown⟩
set_option maxRecDepth 100000 in
set_option maxHeartbeats 4000000 in
theorem l8Any_some (w : World) (g : Nat) (K : Code) (s : St) (c : Cur w g K s) (hB : CodeB K w.heap.size) : Calls Tryz.prog 20 #[.pointer (some ⟨g, 0, none⟩)] w (CellsD w g K) := by
  have hlt := c.lt
  have HC := Lib.hid c
  clear c
  go_enter Tryz.func20, Tryz.ntmps20
  go_wp2_with fail
  refine (l8Arena_some w g K s HC.out).mono ?_
  rintro e w1 ⟨v0, zs0, rfl, hd⟩
  have HD := Lib.hid hd
  clear hd HC
  go_wp2_with fail
  refine (below_some w1 g K _ _ HD.out.cur.choose_spec (by decide) (by decide)).mono ?_
  rintro e w2 ⟨x, s1, ⟨x0, x1⟩, rfl, hc1, hg1⟩
  have HD2 := Lib.hid (HD.out.call hlt s1 hc1 hg1)
  clear hc1 hg1 HD
  by_cases e0 : x = 0
  · have t0 : (x == 0) = true := by rw [beq_iff_eq]; exact e0
    clear e0 x0 x1
    obtain ⟨b, cap, rfl, hcap, hcm, hblt, hcl, hfz, _⟩ := HD2.out.store hlt hB 0 0
    clear hcl hfz
    go_wp2_with fail
    refine (below_some w2 g K 71 _ HD2.out.cur.choose_spec (by decide) (by decide)).mono ?_
    rintro e w3 ⟨y, s3, ⟨y0, y1⟩, rfl, hc3, hg3⟩
    have HD3 := Lib.hid (HD2.out.call hlt s3 hc3 hg3)
    obtain ⟨j, rfl⟩ := Int.eq_ofNat_of_zero_le y0
    have hj : j < 71 := by omega
    clear hc3 hg3 y0 y1 HD2 hblt
    go_wp2_with fail
    refine (pick_some w3 g K _ HD3.out.cur.choose_spec [1, 9, 281474976710655, 65537] 4 rfl (by decide) (by decide) _ rfl).mono ?_
    rintro e w4 ⟨z, s4, hz, rfl, hc4, hg4⟩
    have HD4 := Lib.hid (HD3.out.call hlt s4 hc4 hg4)
    clear hz hc4 hg4 HD3
    obtain ⟨b', cap', he, _, _, hb4, hq, hf, hst⟩ := HD4.out.store hlt hB j z
    injection he with he1 _ he2
    injection he1 with he1
    injection he1 with he1 _ _
    subst he1; subst he2
    obtain ⟨y, hy⟩ := hq hj
    have HE := Lib.hid hst
    clear hst hq
    go_wp2_with fail
    go_ret
    exact HE.out.cells
  · have t0 : (x == 0) = false := by rw [beq_eq_false_iff_ne]; exact e0
    by_cases e1 : x = 1
    · have t1 : (x == 1) = true := by rw [beq_iff_eq]; exact e1
      clear e0 e1 x0 x1
      go_wp2_with fail
      refine (cells_some w2 g K _ HD2.out.cur.choose_spec (hB.mono HD2.out.grown.size)).mono ?_
      rintro e w3 ⟨v3, zs3, s3, rfl, hr, hl, hc, hg⟩
      have HR := Lib.hid (hr.mono HD2.out.grown.size)
      have HL := Lib.hid hl
      have HC := Lib.hid hc
      have HG := Lib.hid (grown_trans HD2.out.grown hg)
      clear hr hl hc hg
      go_wp2_with fail
      go_ret
      exact ⟨_, zs3, s3, rfl, HR.out, HL.out, HC.out, HG.out⟩
    · have t1 : (x == 1) = false := by rw [beq_eq_false_iff_ne]; exact e1
      by_cases e2 : x = 2
      · have t2 : (x == 2) = true := by rw [beq_iff_eq]; exact e2
        clear e0 e1 e2 x0 x1
        obtain ⟨b, cap, rfl, hcap, hcm, hblt, hcl, hfz, _⟩ := HD2.out.store hlt hB 0 0
        clear hcl hfz hblt
        go_wp2_with fail
        refine (pick_some w2 g K _ HD2.out.cur.choose_spec [1, 5, 281474976710655] 3 rfl (by decide) (by decide) _ rfl).mono ?_
        rintro e w4 ⟨z, s4, hz, rfl, hc4, hg4⟩
        have HD4 := Lib.hid (HD2.out.call hlt s4 hc4 hg4)
        clear hz hc4 hg4 HD2
        obtain ⟨b', cap', he, _, _, hb4, hq, hf, hst⟩ := HD4.out.store hlt hB 0 z
        injection he with he1 _ he2
        injection he1 with he1
        injection he1 with he1 _ _
        subst he1; subst he2
        obtain ⟨y, hy⟩ := hq (by decide)
        have HE := Lib.hid hst
        clear hst hq
        go_wp2_with fail
        go_ret
        exact HE.out.cells
      · have t2 : (x == 2) = false := by rw [beq_eq_false_iff_ne]; exact e2
        clear e0 e1 e2 x0 x1
        go_wp2_with fail
        go_ret
        exact HD2.out.cells
/-- Some cells and some number, of the draw's own. -/
def SomeCB (w : World) (e : Ending) (w' : World) : Prop := ∃ v zs b, e = .returned (.tuple #[v, .int .i64 b]) ∧ RowN w' w.heap.size v zs ∧ zs.length ≤ 71 ∧ (-1 ≤ b ∧ b ≤ 2) ∧ Below w.heap.size w w'
set_option maxRecDepth 100000 in
theorem drawReport_some (w : World) (K : Code) (hk : CodeIn w K) (hl : K.len ≤ 1048576) :
    Calls Tryz.prog 5 #[.slice K.A K.len K.cap] w (SomeCB w) := by
  have HK := Lib.hid hk
  clear hk
  go_enter Tryz.func5, Tryz.ntmps5
  go_wp2_with fail
  refine (new_any w K HK.out hl).mono ?_
  rintro e w1 ⟨g, rfl, hg0, hc, hb⟩
  have HB := Lib.hid hb
  have HC := Lib.hid hc
  have HKB := Lib.hid ((CodeB.of_in HK.out).mono hb.size)
  clear hb hc
  go_wp2_with fail
  refine (l8Any_some w1 g K _ HC.out HKB.out).mono ?_
  rintro e w2 ⟨v, zs, s2, rfl, hr, hzl, hc2, hg2⟩
  have HR := Lib.hid hr
  have HG := Lib.hid hg2
  have HC2 := Lib.hid hc2
  have hlt := HC.out.lt
  clear hr hc2 hg2 HC
  go_wp2_with fail
  refine (l3Buf_some w2 g K s2 HC2.out).mono ?_
  rintro e w3 ⟨b, s3, hb01, rfl, hc3, hg3⟩
  have HR3 := Lib.hid ((HR.out.kept hg3 hlt).mono HB.out.size)
  have HB3 := Lib.hid (new_then' hg0 HB.out (grown_trans HG.out hg3))
  have HBB := Lib.hid hb01
  clear hc3 hg3 HR HG HC2 hb01
  go_wp2_with fail
  go_ret2
  exact ⟨v, zs, b, rfl, HR3.out, hzl, HBB.out, HB3.out⟩
/-- Cells of the draw's own beside the cursor. -/
structure RcD (w : World) (g : Nat) (K : Code) (v : Value) (zs : List Int) (u : World) : Prop where
  row : RowN u w.heap.size v zs
  len : zs.length ≤ 71
  cur : ∃ s, Cur u g K s
  grown : w.grownBy u (some g)
theorem RcD.call {w u u' : World} {g : Nat} {K : Code} {v : Value} {zs : List Int} (h : RcD w g K v zs u) (hlt : g < w.heap.size) (s : St) (hc : Cur u' g K s) (hg : u.grownBy u' (some g)) : RcD w g K v zs u' :=
  ⟨h.row.kept hg hlt, h.len, ⟨s, hc⟩, grown_trans h.grown hg⟩
theorem RcD.below {w u u' : World} {g : Nat} {K : Code} {v : Value} {zs : List Int} (h : RcD w g K v zs u) (hb : Below u.heap.size u u') : RcD w g K v zs u' := by
  obtain ⟨s, hc⟩ := h.cur
  obtain ⟨h1, b, e, h2⟩ := h.row
  exact ⟨⟨h1.below hb, b, e, h2⟩, h.len, ⟨s, hc.kept (below_grown hb none)⟩, grown_trans h.grown (below_grown hb _)⟩
theorem results_tmp4 {fn : Func} {t u v x : Tmp} (h : fn.results = #[.tmp t, .tmp u, .tmp v, .tmp x]) (tmps : Array Value) (P : Program) (w : World) :
    (results fn tmps).run P w = .ok (.tuple #[tmps.getD t undef, tmps.getD u undef, tmps.getD v undef, tmps.getD x undef]) w := by
  simp [results, h]
/-- Some cells, a number, a text and a number, of the draw's own. -/
def SomeRec (w : World) (e : Ending) (w' : World) : Prop :=
  ∃ v zs t key x, e = .returned (.tuple #[v, .int .i64 t, .string key, .int .i64 x]) ∧ RowN w' w.heap.size v zs ∧ zs.length ≤ 71 ∧ (-1 ≤ t ∧ t ≤ 3) ∧ key.size ≤ 5 ∧ (-1 ≤ x ∧ x ≤ 65536) ∧ Below w.heap.size w w'
end Go.Proofs.YthfbacaamhkjpaaGreatDoor
