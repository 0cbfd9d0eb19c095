/-
  The library's comparison of two rows by a function: rows of jobs, of queues, of events, nil ones among them. It turns nothing that was there.
-/
import Derived.Test.YtfemdhknnfmpcaaSamJ
import Derived.Test.YtfemdhknnfmpcaaSamI
import Derived.Test.YtfemdhknnfmpcaaSamQ
import Derived.Test.YtfemdhknnfmpcaaJobE
namespace Go.Proofs.Ytfemdhknnfmpcaa
open Go.RowKit M
set_option linter.unusedVariables false
set_option linter.unusedSimpArgs false
theorem ev_one (w : World) (r : E) (vr : Value) (h : evIn w r vr) : Array.all (evVals r vr) (·.oneCell') = true := by
  obtain ⟨A1, c1, rfl, _⟩ := (show RowsArg w vr r.rows from h)
  simp [evVals, Value.oneCell']
set_option maxRecDepth 100000 in
set_option maxHeartbeats 8000000 in
theorem iEqFJob_any (w : World) (v u : Value) (xs ys : List J) (h : ArgT 18 jobDat zeroJ w v xs) (k : ArgT 18 jobDat zeroJ w u ys) : Calls Try.prog 85 #[v, u, .func (.func 86) #[] #[]] w (Gives (.bool (sameL sameJV zeroJ xs ys)) w) := by
  obtain ⟨A, cap, rfl, h1, h2, h3⟩ := h
  obtain ⟨A', cap', rfl, k1, k2, k3⟩ := k
  unfold maxLen at h2 k2
  by_cases hl : xs.length = ys.length
  case neg =>
    have HE := Lib.hid (sameL_len (f := sameJV) (z := zeroJ) hl)
    have d : ((xs.length : Int) != (ys.length : Int)) = true := by rw [bne_iff_ne]; omega
    generalize sameL sameJV zeroJ xs ys = all at *
    generalize xs.length = n at *
    generalize ys.length = m at *
    clear h3 k3
    go_enter Try.func85, Try.ntmps85
    go_wp2_with fail
    go_ret
    exact ⟨ret_bl HE.out.symm, Below.refl _ _⟩
  have HALL := Lib.hid (fun (q : SameTo sameJV zeroJ xs ys xs.length) => sameL_yes hl q)
  have HNO := Lib.hid (fun j hj (q : sameJV (xs.getD j zeroJ) (ys.getD j zeroJ) = false) => sameL_no (xs := xs) (ys := ys) (j := j) hj q)
  skip
  rw [← hl] at k1 k3 ⊢
  generalize sameL sameJV zeroJ xs ys = all at *
  generalize hn : xs.length = n at *
  clear hn hl
  have H4 := Lib.hid h3
  have K4 := Lib.hid k3
  clear h3 k3
  have hul := Try.underlying42
  go_enter Try.func85, Try.ntmps85
  go_wp2_with fail
  go_loopw [17] (fun i wr => ∃ j : Nat, j ≤ n ∧ i = .int .i64 j ∧ SameTo sameJV zeroJ xs ys j ∧ Below w.heap.size w wr) (fun i _ => n - (intOf i).toNat)
  case atStart => exact ⟨0, Nat.zero_le _, rfl, SameTo.zero _ _ _ _, Below.refl _ _⟩
  case round =>
    obtain ⟨j, hj, rfl, he, hbl⟩ := hrel
    have HQ := Lib.hid he
    clear he
    by_cases hlt : j < n
    · obtain ⟨b, off, rfl, hb, hc⟩ := H4.out (by omega)
      obtain ⟨b', off', rfl, hb', hc'⟩ := K4.out (by omega)
      obtain ⟨vk, vr, hr1, hi1⟩ := job_at ((hc j hlt).below hb hbl)
      obtain ⟨uk, ur, hr2, hi2⟩ := job_at ((hc' j hlt).below hb' hbl)
      have ho1 := job_one wr _ vk vr hi1
      have ho2 := job_one wr _ uk ur hi2
      have HSJ := Lib.hid (fun W (hW : Below wr.heap.size wr W) => iSameJob_any W (xs.getD j zeroJ) (ys.getD j zeroJ) vk vr uk ur (jobIn_below hi1 hW) (jobIn_below hi2 hW))
      have HN := Lib.hid (fun q => HQ.out.next (j := j) q)
      have HX := Lib.hid (fun q => HNO.out j hlt q)
      have HR1 := Lib.hid hr1
      have HR2 := Lib.hid (fun X (hX : Below wr.heap.size wr X) => range_below hr2 (Nat.lt_of_lt_of_le hb' hbl.size) hX)
      have HB := Lib.hid hbl
      have hltz : (j : Int) < (n : Int) := by omega
      clear hc hc' hbl hr1 hr2 hi1 hi2 HNO
      generalize sameJV (xs.getD j zeroJ) (ys.getD j zeroJ) = q at *
      generalize xs.getD j zeroJ = r at *
      generalize ys.getD j zeroJ = r' at *
      go_upto_region 6 with ((with_reducible show wpList _ _ _ _ _ _); first | refine wpList_load_mid rfl 42 _ rfl b (off + j * 18) rfl ((jobVals r vk vr) : Array Value).toList _ HR1.out hul rfl (by kernel_rfl) ?_ | refine wpList_store_row rfl 42 _ _ rfl wr.heap.size (jobVals r vk vr) rfl rfl 42 _ (Blk.new wr wr.heap.size 42 #[.bool false, .int .i64 0, .string ⟨#[]⟩, .int .i64 0, .int .i64 0, .int .i64 0, .int .i64 0, .int .i64 0, .int .i64 0, .int .i64 0, .int .i64 0, .int .i64 0, .int .i64 0, .int .i64 0, .int .i64 0, .int .i64 0, .slice none 0 0, .slice none 0 0] rfl) (by kernel_rfl) rfl ho1 ?_)
      refine wp_gen (fun X => Blk X wr.heap.size 42 (jobVals r vk vr) ∧ Below wr.heap.size wr X) ⟨setRow_heap _ _ _ _ _ _ (Blk.new wr wr.heap.size 42 #[.bool false, .int .i64 0, .string ⟨#[]⟩, .int .i64 0, .int .i64 0, .int .i64 0, .int .i64 0, .int .i64 0, .int .i64 0, .int .i64 0, .int .i64 0, .int .i64 0, .int .i64 0, .int .i64 0, .int .i64 0, .int .i64 0, .slice none 0 0, .slice none 0 0] rfl), below_setRow' (below_one wr _) (Nat.le_refl _) _⟩ ?_
      rintro X ⟨hx, hbx⟩
      have HX1 := Lib.hid hx
      have HBX := Lib.hid hbx
      clear hx hbx HR1 ho1
      go_upto_region 7 with ((with_reducible show wpList _ _ _ _ _ _); first | refine wpList_load_mid rfl 42 _ rfl b' (off' + j * 18) rfl ((jobVals r' uk ur) : Array Value).toList _ (HR2.out _ HBX.out) hul rfl (by kernel_rfl) ?_ | refine wpList_store_row rfl 42 _ _ rfl X.heap.size (jobVals r' uk ur) rfl rfl 42 _ (Blk.new X X.heap.size 42 #[.bool false, .int .i64 0, .string ⟨#[]⟩, .int .i64 0, .int .i64 0, .int .i64 0, .int .i64 0, .int .i64 0, .int .i64 0, .int .i64 0, .int .i64 0, .int .i64 0, .int .i64 0, .int .i64 0, .int .i64 0, .int .i64 0, .slice none 0 0, .slice none 0 0] rfl) (by kernel_rfl) rfl ho2 ?_)
      refine wp_gen (fun Y => Blk Y wr.heap.size 42 (jobVals r vk vr) ∧ Blk Y X.heap.size 42 (jobVals r' uk ur) ∧ Below wr.heap.size wr Y) ?_ ?_
      · have hby := below_setRow' (below_one X (.cells #[.bool false, .int .i64 0, .string ⟨#[]⟩, .int .i64 0, .int .i64 0, .int .i64 0, .int .i64 0, .int .i64 0, .int .i64 0, .int .i64 0, .int .i64 0, .int .i64 0, .int .i64 0, .int .i64 0, .int .i64 0, .int .i64 0, .slice none 0 0, .slice none 0 0] 42)) (Nat.le_refl X.heap.size) (jobVals r' uk ur)
        exact ⟨HX1.out.below hby, setRow_heap _ _ _ _ _ _ (Blk.new X X.heap.size 42 #[.bool false, .int .i64 0, .string ⟨#[]⟩, .int .i64 0, .int .i64 0, .int .i64 0, .int .i64 0, .int .i64 0, .int .i64 0, .int .i64 0, .int .i64 0, .int .i64 0, .int .i64 0, .int .i64 0, .int .i64 0, .int .i64 0, .slice none 0 0, .slice none 0 0] rfl), HBX.out.trans (hby.mono HBX.out.size)⟩
      rintro Y ⟨hy1, hy2, hby⟩
      have HY1 := Lib.hid hy1
      have HY2 := Lib.hid hy2
      have HBY := Lib.hid hby
      have HB2 := Lib.hid (HB.out.trans (hby.mono HB.out.size))
      clear hy1 hy2 hby HX1 HBX HR2 ho2 HB
      go_wp2_with ((with_reducible show wpList _ _ _ _ _ _); first | refine wpList_load_row rfl 42 _ rfl wr.heap.size rfl 42 (jobVals r vk vr) (0, 0) _ HY1.out hul rfl (by kernel_rfl) ?_ | refine wpList_load_row rfl 42 _ rfl X.heap.size rfl 42 (jobVals r' uk ur) (0, 0) _ HY2.out hul rfl (by kernel_rfl) ?_)
      refine (HSJ.out _ HBY.out).mono ?_
      rintro e w3 ⟨rfl, hb3⟩
      replace HB2 := Lib.hid (HB2.out.trans (hb3.mono HB2.out.size))
      clear hb3 HY1 HY2 HBY HSJ
      cases q with
      | false =>
        have HE := Lib.hid (HX.out rfl)
        clear HX HN
        go_wp2_with fail
        go_ret
        exact ⟨ret_bl HE.out.symm, HB2.out⟩
      | true =>
        have HN2 := Lib.hid (HN.out rfl)
        clear HX HN
        go_wp2_with fail
        go_roundw
        case rel => exact ⟨j + 1, by omega, by go_num, HN2.out, HB2.out⟩
        case measure => simp [intOf]; omega
    · have hjn : j = n := by omega
      subst hjn
      have HN := Lib.hid (HALL.out HQ.out)
      have HB := Lib.hid hbl
      have hltz : ¬ (j : Int) < (j : Int) := by omega
      clear hbl
      go_wp2_with fail
      go_ret
      exact ⟨ret_bl HN.out.symm, HB.out⟩
set_option maxRecDepth 100000 in
set_option maxHeartbeats 8000000 in
theorem iEqFEv_any (w : World) (v u : Value) (xs ys : List E) (h : ArgT 13 evDat zeroE w v xs) (k : ArgT 13 evDat zeroE w u ys) (fx : ∀ j, j < xs.length → FitR (xs.getD j zeroE).rows) (fy : ∀ j, j < ys.length → FitR (ys.getD j zeroE).rows) : Calls Try.prog 89 #[v, u, .func (.func 90) #[] #[]] w (Gives (.bool (sameL sameEV zeroE xs ys)) w) := by
  obtain ⟨A, cap, rfl, h1, h2, h3⟩ := h
  obtain ⟨A', cap', rfl, k1, k2, k3⟩ := k
  unfold maxLen at h2 k2
  by_cases hl : xs.length = ys.length
  case neg =>
    have HE := Lib.hid (sameL_len (f := sameEV) (z := zeroE) hl)
    have d : ((xs.length : Int) != (ys.length : Int)) = true := by rw [bne_iff_ne]; omega
    generalize sameL sameEV zeroE xs ys = all at *
    generalize xs.length = n at *
    generalize ys.length = m at *
    clear h3 k3 fx fy
    go_enter Try.func89, Try.ntmps89
    go_wp2_with fail
    go_ret
    exact ⟨ret_bl HE.out.symm, Below.refl _ _⟩
  have HALL := Lib.hid (fun (q : SameTo sameEV zeroE xs ys xs.length) => sameL_yes hl q)
  have HNO := Lib.hid (fun j hj (q : sameEV (xs.getD j zeroE) (ys.getD j zeroE) = false) => sameL_no (xs := xs) (ys := ys) (j := j) hj q)
  rw [← hl] at fy
  have FX := Lib.hid fx
  have FY := Lib.hid fy
  clear fx fy
  rw [← hl] at k1 k3 ⊢
  generalize sameL sameEV zeroE xs ys = all at *
  generalize hn : xs.length = n at *
  clear hn hl
  have H4 := Lib.hid h3
  have K4 := Lib.hid k3
  clear h3 k3
  have hul := Try.underlying99
  go_enter Try.func89, Try.ntmps89
  go_wp2_with fail
  go_loopw [17] (fun i wr => ∃ j : Nat, j ≤ n ∧ i = .int .i64 j ∧ SameTo sameEV zeroE xs ys j ∧ Below w.heap.size w wr) (fun i _ => n - (intOf i).toNat)
  case atStart => exact ⟨0, Nat.zero_le _, rfl, SameTo.zero _ _ _ _, Below.refl _ _⟩
  case round =>
    obtain ⟨j, hj, rfl, he, hbl⟩ := hrel
    have HQ := Lib.hid he
    clear he
    by_cases hlt : j < n
    · obtain ⟨b, off, rfl, hb, hc⟩ := H4.out (by omega)
      obtain ⟨b', off', rfl, hb', hc'⟩ := K4.out (by omega)
      obtain ⟨vr, hr1, hi1⟩ := ev_at ((hc j hlt).below hb hbl)
      obtain ⟨ur, hr2, hi2⟩ := ev_at ((hc' j hlt).below hb' hbl)
      have ho1 := ev_one wr _ vr hi1
      have ho2 := ev_one wr _ ur hi2
      have HSJ := Lib.hid (fun W (hW : Below wr.heap.size wr W) => iSameEv_any W (xs.getD j zeroE) (ys.getD j zeroE) vr ur (evIn_below hi1 hW) (evIn_below hi2 hW) (FX.out j hlt) (FY.out j hlt))
      have HN := Lib.hid (fun q => HQ.out.next (j := j) q)
      have HX := Lib.hid (fun q => HNO.out j hlt q)
      have HR1 := Lib.hid hr1
      have HR2 := Lib.hid (fun X (hX : Below wr.heap.size wr X) => range_below hr2 (Nat.lt_of_lt_of_le hb' hbl.size) hX)
      have HB := Lib.hid hbl
      have hltz : (j : Int) < (n : Int) := by omega
      clear hc hc' hbl hr1 hr2 hi1 hi2 HNO
      generalize sameEV (xs.getD j zeroE) (ys.getD j zeroE) = q at *
      generalize xs.getD j zeroE = r at *
      generalize ys.getD j zeroE = r' at *
      go_upto_region 6 with ((with_reducible show wpList _ _ _ _ _ _); first | refine wpList_load_mid rfl 99 _ rfl b (off + j * 13) rfl ((evVals r vr) : Array Value).toList _ HR1.out hul rfl (by kernel_rfl) ?_ | refine wpList_store_row rfl 99 _ _ rfl wr.heap.size (evVals r vr) rfl rfl 99 _ (Blk.new wr wr.heap.size 99 #[.int .i64 0, .int .i64 0, .int .i64 0, .int .i64 0, .int .i64 0, .string ⟨#[]⟩, .int .i64 0, .int .i64 0, .int .i64 0, .int .i64 0, .int .i64 0, .int .i64 0, .slice none 0 0] rfl) (by kernel_rfl) rfl ho1 ?_)
      refine wp_gen (fun X => Blk X wr.heap.size 99 (evVals r vr) ∧ Below wr.heap.size wr X) ⟨setRow_heap _ _ _ _ _ _ (Blk.new wr wr.heap.size 99 #[.int .i64 0, .int .i64 0, .int .i64 0, .int .i64 0, .int .i64 0, .string ⟨#[]⟩, .int .i64 0, .int .i64 0, .int .i64 0, .int .i64 0, .int .i64 0, .int .i64 0, .slice none 0 0] rfl), below_setRow' (below_one wr _) (Nat.le_refl _) _⟩ ?_
      rintro X ⟨hx, hbx⟩
      have HX1 := Lib.hid hx
      have HBX := Lib.hid hbx
      clear hx hbx HR1 ho1
      go_upto_region 7 with ((with_reducible show wpList _ _ _ _ _ _); first | refine wpList_load_mid rfl 99 _ rfl b' (off' + j * 13) rfl ((evVals r' ur) : Array Value).toList _ (HR2.out _ HBX.out) hul rfl (by kernel_rfl) ?_ | refine wpList_store_row rfl 99 _ _ rfl X.heap.size (evVals r' ur) rfl rfl 99 _ (Blk.new X X.heap.size 99 #[.int .i64 0, .int .i64 0, .int .i64 0, .int .i64 0, .int .i64 0, .string ⟨#[]⟩, .int .i64 0, .int .i64 0, .int .i64 0, .int .i64 0, .int .i64 0, .int .i64 0, .slice none 0 0] rfl) (by kernel_rfl) rfl ho2 ?_)
      refine wp_gen (fun Y => Blk Y wr.heap.size 99 (evVals r vr) ∧ Blk Y X.heap.size 99 (evVals r' ur) ∧ Below wr.heap.size wr Y) ?_ ?_
      · have hby := below_setRow' (below_one X (.cells #[.int .i64 0, .int .i64 0, .int .i64 0, .int .i64 0, .int .i64 0, .string ⟨#[]⟩, .int .i64 0, .int .i64 0, .int .i64 0, .int .i64 0, .int .i64 0, .int .i64 0, .slice none 0 0] 99)) (Nat.le_refl X.heap.size) (evVals r' ur)
        exact ⟨HX1.out.below hby, setRow_heap _ _ _ _ _ _ (Blk.new X X.heap.size 99 #[.int .i64 0, .int .i64 0, .int .i64 0, .int .i64 0, .int .i64 0, .string ⟨#[]⟩, .int .i64 0, .int .i64 0, .int .i64 0, .int .i64 0, .int .i64 0, .int .i64 0, .slice none 0 0] rfl), HBX.out.trans (hby.mono HBX.out.size)⟩
      rintro Y ⟨hy1, hy2, hby⟩
      have HY1 := Lib.hid hy1
      have HY2 := Lib.hid hy2
      have HBY := Lib.hid hby
      have HB2 := Lib.hid (HB.out.trans (hby.mono HB.out.size))
      clear hy1 hy2 hby HX1 HBX HR2 ho2 HB
      go_wp2_with ((with_reducible show wpList _ _ _ _ _ _); first | refine wpList_load_row rfl 99 _ rfl wr.heap.size rfl 99 (evVals r vr) (0, 0) _ HY1.out hul rfl (by kernel_rfl) ?_ | refine wpList_load_row rfl 99 _ rfl X.heap.size rfl 99 (evVals r' ur) (0, 0) _ HY2.out hul rfl (by kernel_rfl) ?_)
      refine (HSJ.out _ HBY.out).mono ?_
      rintro e w3 ⟨rfl, hb3⟩
      replace HB2 := Lib.hid (HB2.out.trans (hb3.mono HB2.out.size))
      clear hb3 HY1 HY2 HBY HSJ
      cases q with
      | false =>
        have HE := Lib.hid (HX.out rfl)
        clear HX HN
        go_wp2_with fail
        go_ret
        exact ⟨ret_bl HE.out.symm, HB2.out⟩
      | true =>
        have HN2 := Lib.hid (HN.out rfl)
        clear HX HN
        go_wp2_with fail
        go_roundw
        case rel => exact ⟨j + 1, by omega, by go_num, HN2.out, HB2.out⟩
        case measure => simp [intOf]; omega
    · have hjn : j = n := by omega
      subst hjn
      have HN := Lib.hid (HALL.out HQ.out)
      have HB := Lib.hid hbl
      have hltz : ¬ (j : Int) < (j : Int) := by omega
      clear hbl
      go_wp2_with fail
      go_ret
      exact ⟨ret_bl HN.out.symm, HB.out⟩
set_option maxRecDepth 100000 in
set_option maxHeartbeats 4000000 in
theorem iEqFQueue_any (w : World) (v u : Value) (xs ys : List (List O)) (h : ArgQ w v xs) (k : ArgQ w u ys) : Calls Try.prog 87 #[v, u, .func (.func 88) #[] #[]] w (Gives (.bool (sameL sameQV [] xs ys)) w) := by
  obtain ⟨A, cap, rfl, h1, h2, h3⟩ := h
  obtain ⟨A', cap', rfl, k1, k2, k3⟩ := k
  unfold maxLen at h2 k2
  by_cases hl : xs.length = ys.length
  case neg =>
    have HE := Lib.hid (sameL_len (f := sameQV) (z := []) hl)
    have d : ((xs.length : Int) != (ys.length : Int)) = true := by rw [bne_iff_ne]; omega
    generalize sameL sameQV [] xs ys = all at *
    generalize xs.length = n at *
    generalize ys.length = m at *
    clear h3 k3
    go_enter Try.func87, Try.ntmps87
    go_wp2_with fail
    go_ret
    exact ⟨ret_bl HE.out.symm, Below.refl _ _⟩
  have HALL := Lib.hid (fun (q : SameTo sameQV [] xs ys xs.length) => sameL_yes hl q)
  have HNO := Lib.hid (fun j hj (q : sameQV (xs.getD j []) (ys.getD j []) = false) => sameL_no (xs := xs) (ys := ys) (j := j) hj q)
  rw [← hl] at k1 k3 ⊢
  generalize sameL sameQV [] xs ys = all at *
  generalize hn : xs.length = n at *
  clear hn hl
  have H4 := Lib.hid h3
  have K4 := Lib.hid k3
  clear h3 k3
  go_enter Try.func87, Try.ntmps87
  go_wp2_with fail
  go_loopw [17] (fun i wr => ∃ j : Nat, j ≤ n ∧ i = .int .i64 j ∧ SameTo sameQV [] xs ys j ∧ Below w.heap.size w wr) (fun i _ => n - (intOf i).toNat)
  case atStart => exact ⟨0, Nat.zero_le _, rfl, SameTo.zero _ _ _ _, Below.refl _ _⟩
  case round =>
    obtain ⟨j, hj, rfl, he, hbl⟩ := hrel
    have HQ := Lib.hid he
    clear he
    by_cases hlt : j < n
    · obtain ⟨b, off, rfl, hb, hc⟩ := H4.out (by omega)
      obtain ⟨b', off', rfl, hb', hc'⟩ := K4.out (by omega)
      obtain ⟨x, hx, hq⟩ := hc j hlt
      obtain ⟨y, hy, hq'⟩ := hc' j hlt
      have c1 := (hbl.cell (p := ⟨b, off + j, none⟩) hb).trans hx
      have c2 := (hbl.cell (p := ⟨b', off' + j, none⟩) hb').trans hy
      have c2' := fun o => ((below_one wr o).cell (p := ⟨b', off' + j, none⟩) (Nat.lt_of_lt_of_le hb' hbl.size)).trans c2
      have HSQ := Lib.hid (fun W (hW : Below w.heap.size w W) => iSameQueue_any W (xs.getD j []) (ys.getD j []) x y (hq.below hW) (hq'.below hW))
      have HN := Lib.hid (fun q => HQ.out.next (j := j) q)
      have HX := Lib.hid (fun q => HNO.out j hlt q)
      have HB := Lib.hid hbl
      have hltz : (j : Int) < (n : Int) := by omega
      obtain ⟨A1, m1, rfl, _⟩ := hq
      obtain ⟨A2, m2, rfl, _⟩ := hq'
      clear hc hc' hbl hx hy HNO
      generalize sameQV (xs.getD j []) (ys.getD j []) = q at *
      generalize (xs.getD j []).length = l1 at *
      generalize (ys.getD j []).length = l2 at *
      go_wp2_with fail
      have hb0 := (HB.out.alloc HB.out.size (.cells #[.slice A1 l1 m1] 73)).alloc (HB.out.alloc HB.out.size (.cells #[.slice A1 l1 m1] 73)).size (.cells #[.slice A2 l2 m2] 73)
      refine (HSQ.out _ hb0).mono ?_
      rintro e w3 ⟨rfl, hb3⟩
      have HB2 := Lib.hid (hb0.trans (hb3.mono hb0.size))
      clear hb3 hb0 HSQ
      cases q with
      | false =>
        have HE := Lib.hid (HX.out rfl)
        clear HX HN
        go_wp2_with fail
        go_ret
        exact ⟨ret_bl HE.out.symm, HB2.out⟩
      | true =>
        have HN2 := Lib.hid (HN.out rfl)
        clear HX HN
        go_wp2_with fail
        go_roundw
        case rel => exact ⟨j + 1, by omega, by go_num, HN2.out, HB2.out⟩
        case measure => simp [intOf]; omega
    · have hjn : j = n := by omega
      subst hjn
      have HN := Lib.hid (HALL.out HQ.out)
      have HB := Lib.hid hbl
      have hltz : ¬ (j : Int) < (j : Int) := by omega
      clear hbl
      go_wp2_with fail
      go_ret
      exact ⟨ret_bl HN.out.symm, HB.out⟩
end Go.Proofs.Ytfemdhknnfmpcaa
