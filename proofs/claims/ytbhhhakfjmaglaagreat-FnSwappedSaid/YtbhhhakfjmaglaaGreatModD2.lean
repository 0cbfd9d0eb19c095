/-
  Chapter 13: the model's l13Record.
-/
import Derived.Test.YtbhhhakfjmaglaaGreatModD
import Derived.Test.YtbhhhakfjmaglaaGreatModL
import Derived.Deep.RegionHeld3
namespace Go.Proofs.YtbhhhakfjmaglaaGreat
open Go.RowKit M
set_option linter.unusedVariables false
set_option linter.unusedSimpArgs false
theorem mRow_key {m : Mo} {s : ByteArray} (hf : m.Fit) (hs : s.size ≤ maxLen) : (mRowV m s).key.size ≤ maxLen := by
  unfold mRowV
  rcases mFind_or s (newRow m s) m.rows with ⟨h, _⟩ | ⟨h, e⟩
  · rw [h]
    unfold newRow
    split
    · exact Nat.zero_le _
    · exact hs
  · rw [e]; exact hs
set_option maxRecDepth 100000 in
set_option maxHeartbeats 8000000 in
theorem sMoRec_any (w : World) (B : Nat) (m : Mo) (o : O) (vk vr : Value) (h : MoOwn w B m vk vr) (hB : B ≤ w.heap.size) (hl : m.rows.length ≤ 1048576) (hf : m.Fit) (ho : o.key.size ≤ maxLen) : Calls Tryz.prog 41 #[.agg #[vk, vr], o.v] w (MadeMC w B (recV m o)) := by
  have CR := fun W (h : MoIn W m vk vr) => Lib.hid (sModelRow_any W m vk vr o.key h)
  have CW := fun W x (h : RowsArg W vr m.rows) => Lib.hid (sRowPut_any W vr m.rows x h hl)
  have CC := fun W => Lib.hid (sCounted_any W (mRowV m o.key) o.val (mRow_key hf ho))
  have CS := fun W => Lib.hid (sSampled_any W (mRowV m o.key) o.val (mRow_key hf ho))
  have HV := Lib.hid (show recV m o = if (mRowV m o.key).kind = 0 then (m, 2) else (⟨m.keys, rowPutV m.rows (withV (mRowV m o.key) o.val)⟩, if (mRowV m o.key).kind ≠ 1 ∧ (mRowV m o.key).kind ≠ 2 ∧ (mRowV m o.key).n = 3 then 5 else 0) from rfl)
  have HW := Lib.hid (show withV (mRowV m o.key) o.val = if (mRowV m o.key).kind = 1 then countedV (mRowV m o.key) o.val else if (mRowV m o.key).kind = 2 then { mRowV m o.key with set := true, last := o.val } else sampledV (mRowV m o.key) o.val from rfl)
  have hu := Tryz.underlying27
  have huR := Tryz.underlying42
  obtain ⟨Ak, nk, ck, rfl⟩ := own_slice h.keys
  obtain ⟨Ar, nr, cr, rfl⟩ := own_slice h.rows
  have HO0 := Lib.hid h
  have HA0 := Lib.hid (show (∀ k, (Value.slice Ak nk ck).ownBlock = some k → k < w.heap.size) ∧ ∀ k, (Value.slice Ar nr cr).ownBlock = some k → k < w.heap.size from ⟨fun k hk => h.keys.lt k hk, fun k hk => h.rows.lt k hk⟩)
  have HAW := Lib.hid h.away
  have HBB := Lib.hid hB
  clear h hl hB hf ho
  generalize recV m o = res at *
  generalize withV (mRowV m o.key) o.val = wv at *
  generalize countedV (mRowV m o.key) o.val = cv at *
  generalize sampledV (mRowV m o.key) o.val = sv at *
  generalize mRowV m o.key = r at *
  obtain ⟨okind, okey, owhat, oval⟩ := o
  obtain ⟨rkey, rkind, rsum, rst, rlast, rn, rmn, rmx, rtotal, rdropped⟩ := r
  obtain ⟨cv0, cv1, cv2, cv3, cv4, cv5, cv6, cv7, cv8, cv9⟩ := cv
  obtain ⟨sv0, sv1, sv2, sv3, sv4, sv5, sv6, sv7, sv8, sv9⟩ := sv
  unfold O.v
  unfold R.v at CR CC CS
  simp only at *
  go_enter Tryz.func41, Tryz.ntmps41
  go_upto_region 1 with fail
  refine wp_gen (fun W => Blk W w.heap.size 27 #[(.slice Ak nk ck), (.slice Ar nr cr)] ∧ Blk W (w.heap.size + 1) 29 #[.int .i64 okind, .string okey, .int .i64 owhat, .int .i64 oval] ∧ Blk W (w.heap.size + 2) 27 #[.slice none 0 0, .slice none 0 0] ∧ Below w.heap.size w W) ⟨((Blk.new w _ _ _ rfl).alloc _).alloc _, (Blk.new _ _ _ _ (by simp [go_sem])).alloc _, Blk.new _ _ _ _ (by simp [go_sem]), (((Below.refl _ _).alloc (Nat.le_refl _) _).alloc (by simp [go_sem]) _).alloc (by simp [go_sem]; omega) _⟩ ?_
  rintro W ⟨g0, g1, g2, hb⟩
  have HSZ := Lib.hid (show w.heap.size + 3 ≤ W.heap.size from g2.lt)
  have G0 := Lib.hid g0; have G1 := Lib.hid g1; have G2 := Lib.hid g2; have HB := Lib.hid hb; have HO := Lib.hid (HO0.out.below hb)
  clear g0 g1 g2 hb
  have p0 := G0.out.get 0; have p1 := G0.out.get 1
  simp at p0 p1
  have q0 := G1.out.get 0
  simp at q0
  have q1 := G1.out.get 1
  simp at q1
  have q2 := G1.out.get 2
  simp at q2
  have q3 := G1.out.get 3
  simp at q3
  go_wp2_with fail
  refine (CR _ HO.out.win).out.mono ?_
  rintro e W1 ⟨rfl, hb⟩
  clear p0 p1 q0 q1 q2 q3
  replace G0 := Lib.hid (G0.out.below hb); replace G1 := Lib.hid (G1.out.below hb); replace G2 := Lib.hid (G2.out.below hb); replace HB := Lib.hid (HB.out.trans (hb.mono HB.out.size)); replace HSZ := Lib.hid (Nat.le_trans HSZ.out hb.size)
  replace HO := Lib.hid (HO.out.below hb)
  clear hb CR
  go_upto_region 2 with ((with_reducible show wpList _ _ _ _ _ _); refine wpList_store_row rfl 42 _ _ rfl W1.heap.size (rowCells ⟨rkey, rkind, rsum, rst, rlast, rn, rmn, rmx, rtotal, rdropped⟩) rfl rfl 42 _ (Blk.new W1 W1.heap.size 42 (rowCells zeroR) rfl) (by kernel_rfl) rfl (by simp [rowCells, Value.oneCell']) ?_)
  refine wp_gen (fun X => Blk X W1.heap.size 42 (rowCells ⟨rkey, rkind, rsum, rst, rlast, rn, rmn, rmx, rtotal, rdropped⟩) ∧ Below W1.heap.size W1 X) ⟨setRow_heap _ _ _ _ _ _ (Blk.new W1 W1.heap.size 42 (rowCells zeroR) rfl), below_setRow' (below_oneM W1 _) (Nat.le_refl _) _⟩ ?_
  have HG6 := HSZ
  rintro W2 ⟨g6b, hb⟩
  replace G0 := Lib.hid (G0.out.below hb); replace G1 := Lib.hid (G1.out.below hb); replace G2 := Lib.hid (G2.out.below hb); replace HB := Lib.hid (HB.out.trans (hb.mono HB.out.size)); replace HSZ := Lib.hid (Nat.le_trans HSZ.out hb.size)
  replace HO := Lib.hid (HO.out.below hb)
  have G6 := Lib.hid g6b
  clear hb g6b
  generalize W1.heap.size = g6 at *
  clear W1
  have p0 := G0.out.get 0; have p1 := G0.out.get 1
  simp at p0 p1
  have q0 := G1.out.get 0
  simp at q0
  have q1 := G1.out.get 1
  simp at q1
  have q2 := G1.out.get 2
  simp at q2
  have q3 := G1.out.get 3
  simp at q3
  have x0 := G6.out.get 0
  have x1 := G6.out.get 1
  have x2 := G6.out.get 2
  have x3 := G6.out.get 3
  have x4 := G6.out.get 4
  have x5 := G6.out.get 5
  have x6 := G6.out.get 6
  have x7 := G6.out.get 7
  have x8 := G6.out.get 8
  have x9 := G6.out.get 9
  simp [rowCells] at x0 x1 x2 x3 x4 x5 x6 x7 x8 x9
  have hg6 := HG6.out
  by_cases c0 : rkind = 0
  · have d0 : (rkind == 0) = true := by rw [beq_iff_eq]; exact c0
    have HR := Lib.hid (HV.out.trans (if_pos c0))
    clear c0 HV HW
    go_wp2_with ((with_reducible show wpList _ _ _ _ _ _); first | refine wpList_load_row rfl 27 _ rfl (w.heap.size) rfl 27 #[(.slice Ak nk ck), (.slice Ar nr cr)] (0, 0) _ G0.out hu rfl (by kernel_rfl) ?_ | refine wpList_store_row rfl 27 _ _ rfl (w.heap.size + 2) #[(.slice Ak nk ck), (.slice Ar nr cr)] rfl rfl 27 _ G2.out (by kernel_rfl) rfl (mo_one2 HO.out) ?_)
    refine post_gen (fun X => Blk X (w.heap.size + 2) 27 #[(.slice Ak nk ck), (.slice Ar nr cr)] ∧ Below w.heap.size w X ∧ MoOwn X B m (.slice Ak nk ck) (.slice Ar nr cr)) ⟨setRow_heap _ _ _ _ _ _ G2.out, below_setRow' HB.out (by omega) _, HO.out.farA HAW.out (setRow_grown _ _ _) (by omega) (by omega)⟩ ?_
    rintro X ⟨h1, hb, hm⟩
    exact bodyPost_ret (v := .tuple #[.agg #[(.slice Ak nk ck), (.slice Ar nr cr)], .int .i64 (2)]) (results_cellM rfl _ _ _ _ _ _ _ rfl h1 hu rfl (by kernel_rfl) rfl) rfl ⟨_, _, by rw [HR.out], by rw [HR.out]; exact hm, hb⟩
  have d0 : (rkind == 0) = false := by rw [beq_eq_false_iff_ne]; exact c0
  replace HV := Lib.hid (HV.out.trans (if_neg c0))
  clear c0
  by_cases c1 : rkind = 1
  · have d1 : (rkind == 1) = true := by rw [beq_iff_eq]; exact c1
    have HR := Lib.hid (show res = (⟨m.keys, rowPutV m.rows ⟨cv0, cv1, cv2, cv3, cv4, cv5, cv6, cv7, cv8, cv9⟩⟩, 0) by rw [HV.out, HW.out, if_pos c1, if_neg (fun q => q.1 c1)])
    clear c1 HV HW CS
    go_upto_region 10 with fail
    clear x0 x1 x2 x3 x4 x5 x6 x7 x8 x9 p0 p1 q0 q1 q2 q3
    replace G0 := Lib.hid (G0.out.below (below_drew _ _))
    replace G1 := Lib.hid (G1.out.below (below_drew _ _))
    replace G2 := Lib.hid (G2.out.below (below_drew _ _))
    replace G6 := Lib.hid (G6.out.below (below_drew _ _))
    replace HSZ := Lib.hid (show w.heap.size + 3 ≤ W2.drew.heap.size from HSZ.out)
    replace HB := Lib.hid (HB.out.trans (below_drew _ _))
    replace HO := Lib.hid (HO.out.below (below_drew _ _))
    refine wp_region_held_drew (S := fun X : World => Blk X (w.heap.size + 1) 29 #[.int .i64 okind, .string okey, .int .i64 owhat, .int .i64 oval] ∧ Blk X g6 42 (rowCells ⟨rkey, rkind, rsum, rst, rlast, rn, rmn, rmx, rtotal, rdropped⟩)) (by kernel_rfl) ⟨G1.out, G6.out⟩ (fun hHeld => ?_)
    clear hHeld
    generalize hX0 : World.drew _ = X0 at *
    clear hX0
    refine' wpAnyH_take (i := 0) (v := .pointer (some ⟨w.heap.size, 1, none⟩)) rfl (by kernel_rfl) (by kernel_rfl) (by kernel_rfl) (fun _ _ _ h => h) (Or.inl ⟨by rfl, fun W h => by go_simp⟩) ⟨G1.out, G6.out⟩ ?_
    try simp only [Act.put, List.getElem_toArray, List.getElem_cons_succ, List.getElem_cons_zero, List.setIfInBounds_toArray, List.set_cons_zero, List.set_cons_succ]
    refine' wpAnyH_take (i := 2) (v := .agg #[.string rkey, .int .i64 rkind, .int .i64 rsum, .bool rst, .int .i64 rlast, .int .i64 rn, .int .i64 rmn, .int .i64 rmx, .int .i64 rtotal, .int .i64 rdropped]) rfl (by kernel_rfl) (by kernel_rfl) (by kernel_rfl) (fun _ _ _ h => h) (yieldsIf_load_mid (by rfl) 42 _ rfl g6 0 rfl (rowCells ⟨rkey, rkind, rsum, rst, rlast, rn, rmn, rmx, rtotal, rdropped⟩).toList _ (fun w' h => h.2.rangeM) huR rfl (by kernel_rfl)) ⟨G1.out, G6.out⟩ ?_
    try simp only [Act.put, List.getElem_toArray, List.getElem_cons_succ, List.getElem_cons_zero, List.setIfInBounds_toArray, List.set_cons_zero, List.set_cons_succ]
    refine' wpAnyH_take (i := 3) (v := .pointer (some ⟨w.heap.size + 1, 3, none⟩)) rfl (by kernel_rfl) (by kernel_rfl) (by kernel_rfl) (fun _ _ _ h => h) (Or.inl ⟨by rfl, fun W h => by go_simp⟩) ⟨G1.out, G6.out⟩ ?_
    try simp only [Act.put, List.getElem_toArray, List.getElem_cons_succ, List.getElem_cons_zero, List.setIfInBounds_toArray, List.set_cons_zero, List.set_cons_succ]
    refine' wpAnyH_take (i := 4) (v := .int .i64 oval) rfl (by kernel_rfl) (by kernel_rfl) (by kernel_rfl) (fun _ _ _ h => h) (Or.inl ⟨by rfl, fun W h => by have q := h.1.get 3; simp at q; go_simp⟩) ⟨G1.out, G6.out⟩ ?_
    try simp only [Act.put, List.getElem_toArray, List.getElem_cons_succ, List.getElem_cons_zero, List.setIfInBounds_toArray, List.set_cons_zero, List.set_cons_succ]
    refine wpAnyH_ready (rs := [1, 5]) (by kernel_rfl) (by simp) ?_
    refine AllReadyH.cons rfl (fun K hK => ?_) (AllReadyH.cons rfl (fun K hK => ?_) AllReadyH.nil)
    · skip
      have p1 := G0.out.get 1
      simp at p1
      go_simp
      refine hK.out _ _ ⟨G1.out, G6.out⟩ (fun hHeld => ?_)
      clear hK K hHeld p1
      try simp only [Act.put, List.getElem_toArray, List.getElem_cons_succ, List.getElem_cons_zero, List.setIfInBounds_toArray, List.set_cons_zero, List.set_cons_succ]
      refine wpAnyH_ready (rs := [5]) (by kernel_rfl) (by simp) ?_
      refine AllReadyH.cons rfl (fun K hK => ?_) AllReadyH.nil
      go_simp
      refine (CC _).out.mono ?_
      rintro e Y1 ⟨rfl, hb⟩
      replace HO := Lib.hid (HO.out.below hb)
      replace G0 := Lib.hid (G0.out.below hb); replace G1 := Lib.hid (G1.out.below hb); replace G2 := Lib.hid (G2.out.below hb); replace HB := Lib.hid (HB.out.trans (hb.mono HB.out.size)); replace HSZ := Lib.hid (Nat.le_trans HSZ.out hb.size)
      replace G6 := Lib.hid (G6.out.below hb)
      refine hK.out _ _ ⟨G1.out, G6.out⟩ (fun hHeld => ?_)
      clear hK K hHeld hb
      try simp only [Act.put, List.getElem_toArray, List.getElem_cons_succ, List.getElem_cons_zero, List.setIfInBounds_toArray, List.set_cons_zero, List.set_cons_succ]
      refine wpAnyH_ready (rs := [6]) (by kernel_rfl) (by simp) ?_
      refine AllReadyH.cons rfl (fun K hK => ?_) AllReadyH.nil
      go_simp
      have HS1 := HSZ
      refine (CW _ ⟨cv0, cv1, cv2, cv3, cv4, cv5, cv6, cv7, cv8, cv9⟩ HO.out.win.rows).out.mono ?_
      rintro e Y2 ⟨ur, rfl, hr, hb⟩
      have HAK := Lib.hid (show Away w.heap.size (.slice Ak nk ck) ∧ Away w.heap.size ur from ⟨HAW.out.1, fun k hk' => .inr (Nat.le_trans HS1.out (hr.base_le' k hk'))⟩)
      replace HO := Lib.hid (HO.out.newRows hb hr (Nat.le_trans HBB.out (by have := HS1.out; omega)))
      replace G0 := Lib.hid (G0.out.below hb); replace G1 := Lib.hid (G1.out.below hb); replace G2 := Lib.hid (G2.out.below hb); replace HB := Lib.hid (HB.out.trans (hb.mono HB.out.size)); replace HSZ := Lib.hid (Nat.le_trans HSZ.out hb.size)
      replace G6 := Lib.hid (G6.out.below hb)
      obtain ⟨Br, mr9, dr, rfl⟩ := own_slice hr
      refine hK.out _ _ ⟨G1.out, G6.out⟩ (fun hHeld => ?_)
      clear hK K hHeld hb hr HAW HS1
      have HAW := HAK
      clear HAK
      try simp only [Act.put, List.getElem_toArray, List.getElem_cons_succ, List.getElem_cons_zero, List.setIfInBounds_toArray, List.set_cons_zero, List.set_cons_succ]
      refine' wpAnyH_take (i := 7) (v := .pointer (some ⟨w.heap.size, 1, none⟩)) rfl (by kernel_rfl) (by kernel_rfl) (by kernel_rfl) (fun _ _ _ h => h) (Or.inl ⟨by rfl, fun W h => by go_simp⟩) ⟨G1.out, G6.out⟩ ?_
      try simp only [Act.put, List.getElem_toArray, List.getElem_cons_succ, List.getElem_cons_zero, List.setIfInBounds_toArray, List.set_cons_zero, List.set_cons_succ]
      refine wpAnyH_ready (rs := [8]) (by kernel_rfl) (by simp) ?_
      refine AllReadyH.cons rfl (fun K hK => ?_) AllReadyH.nil
      have p1 := G0.out.get 1; have f1 := G0.out.frz 1
      simp at p1
      have HG := Lib.hid (row_store G0.out 1 (.slice Br mr9 dr))
      go_simp
      have g0 := G0.out.store 1 (.slice Br mr9 dr); have g1 := G1.out.far w.heap.size 1 (.slice Br mr9 dr) (by omega); have g2 := G2.out.far w.heap.size 1 (.slice Br mr9 dr) (by omega); have g6' := G6.out.far w.heap.size 1 (.slice Br mr9 dr) (by omega); have hb := HB.out.setCell (p := ⟨w.heap.size, 1, none⟩) (Nat.le_refl _) (.slice Br mr9 dr); have ho := HO.out.farA HAW.out HG.out (Nat.le_refl _) (by omega)
      refine hK.out _ _ ⟨g1, g6'⟩ (fun hHeld => ?_)
      clear hK K hHeld p1 f1 G0 G1 G2 G6 HB HO HG HSZ
      try simp only [Act.put, List.getElem_toArray, List.getElem_cons_succ, List.getElem_cons_zero, List.setIfInBounds_toArray, List.set_cons_zero, List.set_cons_succ]
      refine wpAnyH_done (by kernel_rfl) ?_ _
      have G0 := Lib.hid (show Blk _ w.heap.size 27 #[(.slice Ak nk ck), (.slice Br mr9 dr)] from g0); have G2 := Lib.hid g2; have G6 := Lib.hid g6'; have HB := Lib.hid hb; have HO := Lib.hid (show MoOwn _ B ⟨m.keys, rowPutV m.rows ⟨cv0, cv1, cv2, cv3, cv4, cv5, cv6, cv7, cv8, cv9⟩⟩ (.slice Ak nk ck) (.slice Br mr9 dr) from ho)
      clear g0 g1 g2 g6' hb ho
      generalize hX9 : World.setCell _ _ _ = X9 at *
      clear hX9
      go_wp2_with ((with_reducible show wpList _ _ _ _ _ _); first | refine wpList_load_row rfl 27 _ rfl (w.heap.size) rfl 27 #[(.slice Ak nk ck), (.slice Br mr9 dr)] (0, 0) _ G0.out hu rfl (by kernel_rfl) ?_ | refine wpList_store_row rfl 27 _ _ rfl (w.heap.size + 2) #[(.slice Ak nk ck), (.slice Br mr9 dr)] rfl rfl 27 _ G2.out (by kernel_rfl) rfl (mo_one2 HO.out) ?_)
      refine post_gen (fun X => Blk X (w.heap.size + 2) 27 #[(.slice Ak nk ck), (.slice Br mr9 dr)] ∧ Below w.heap.size w X ∧ MoOwn X B ⟨m.keys, rowPutV m.rows ⟨cv0, cv1, cv2, cv3, cv4, cv5, cv6, cv7, cv8, cv9⟩⟩ (.slice Ak nk ck) (.slice Br mr9 dr)) ⟨setRow_heap _ _ _ _ _ _ G2.out, below_setRow' HB.out (by omega) _, HO.out.farA HAW.out (setRow_grown _ _ _) (by omega) (by omega)⟩ ?_
      rintro X ⟨h1, hb, hm⟩
      exact bodyPost_ret (v := .tuple #[.agg #[(.slice Ak nk ck), (.slice Br mr9 dr)], .int .i64 (0)]) (results_cellM rfl _ _ _ _ _ _ _ rfl h1 hu rfl (by kernel_rfl) rfl) rfl ⟨_, _, by rw [HR.out], by rw [HR.out]; exact hm, hb⟩
    · skip
      go_simp
      refine (CC _).out.mono ?_
      rintro e Y3 ⟨rfl, hb⟩
      replace HO := Lib.hid (HO.out.below hb)
      replace G0 := Lib.hid (G0.out.below hb); replace G1 := Lib.hid (G1.out.below hb); replace G2 := Lib.hid (G2.out.below hb); replace HB := Lib.hid (HB.out.trans (hb.mono HB.out.size)); replace HSZ := Lib.hid (Nat.le_trans HSZ.out hb.size)
      replace G6 := Lib.hid (G6.out.below hb)
      refine hK.out _ _ ⟨G1.out, G6.out⟩ (fun hHeld => ?_)
      clear hK K hHeld hb
      try simp only [Act.put, List.getElem_toArray, List.getElem_cons_succ, List.getElem_cons_zero, List.setIfInBounds_toArray, List.set_cons_zero, List.set_cons_succ]
      refine wpAnyH_ready (rs := [1]) (by kernel_rfl) (by simp) ?_
      refine AllReadyH.cons rfl (fun K hK => ?_) AllReadyH.nil
      have p1 := G0.out.get 1
      simp at p1
      go_simp
      refine hK.out _ _ ⟨G1.out, G6.out⟩ (fun hHeld => ?_)
      clear hK K hHeld p1
      try simp only [Act.put, List.getElem_toArray, List.getElem_cons_succ, List.getElem_cons_zero, List.setIfInBounds_toArray, List.set_cons_zero, List.set_cons_succ]
      refine wpAnyH_ready (rs := [6]) (by kernel_rfl) (by simp) ?_
      refine AllReadyH.cons rfl (fun K hK => ?_) AllReadyH.nil
      go_simp
      have HS1 := HSZ
      refine (CW _ ⟨cv0, cv1, cv2, cv3, cv4, cv5, cv6, cv7, cv8, cv9⟩ HO.out.win.rows).out.mono ?_
      rintro e Y4 ⟨ur, rfl, hr, hb⟩
      have HAK := Lib.hid (show Away w.heap.size (.slice Ak nk ck) ∧ Away w.heap.size ur from ⟨HAW.out.1, fun k hk' => .inr (Nat.le_trans HS1.out (hr.base_le' k hk'))⟩)
      replace HO := Lib.hid (HO.out.newRows hb hr (Nat.le_trans HBB.out (by have := HS1.out; omega)))
      replace G0 := Lib.hid (G0.out.below hb); replace G1 := Lib.hid (G1.out.below hb); replace G2 := Lib.hid (G2.out.below hb); replace HB := Lib.hid (HB.out.trans (hb.mono HB.out.size)); replace HSZ := Lib.hid (Nat.le_trans HSZ.out hb.size)
      replace G6 := Lib.hid (G6.out.below hb)
      obtain ⟨Br, mr9, dr, rfl⟩ := own_slice hr
      refine hK.out _ _ ⟨G1.out, G6.out⟩ (fun hHeld => ?_)
      clear hK K hHeld hb hr HAW HS1
      have HAW := HAK
      clear HAK
      try simp only [Act.put, List.getElem_toArray, List.getElem_cons_succ, List.getElem_cons_zero, List.setIfInBounds_toArray, List.set_cons_zero, List.set_cons_succ]
      refine' wpAnyH_take (i := 7) (v := .pointer (some ⟨w.heap.size, 1, none⟩)) rfl (by kernel_rfl) (by kernel_rfl) (by kernel_rfl) (fun _ _ _ h => h) (Or.inl ⟨by rfl, fun W h => by go_simp⟩) ⟨G1.out, G6.out⟩ ?_
      try simp only [Act.put, List.getElem_toArray, List.getElem_cons_succ, List.getElem_cons_zero, List.setIfInBounds_toArray, List.set_cons_zero, List.set_cons_succ]
      refine wpAnyH_ready (rs := [8]) (by kernel_rfl) (by simp) ?_
      refine AllReadyH.cons rfl (fun K hK => ?_) AllReadyH.nil
      have p1 := G0.out.get 1; have f1 := G0.out.frz 1
      simp at p1
      have HG := Lib.hid (row_store G0.out 1 (.slice Br mr9 dr))
      go_simp
      have g0 := G0.out.store 1 (.slice Br mr9 dr); have g1 := G1.out.far w.heap.size 1 (.slice Br mr9 dr) (by omega); have g2 := G2.out.far w.heap.size 1 (.slice Br mr9 dr) (by omega); have g6' := G6.out.far w.heap.size 1 (.slice Br mr9 dr) (by omega); have hb := HB.out.setCell (p := ⟨w.heap.size, 1, none⟩) (Nat.le_refl _) (.slice Br mr9 dr); have ho := HO.out.farA HAW.out HG.out (Nat.le_refl _) (by omega)
      refine hK.out _ _ ⟨g1, g6'⟩ (fun hHeld => ?_)
      clear hK K hHeld p1 f1 G0 G1 G2 G6 HB HO HG HSZ
      try simp only [Act.put, List.getElem_toArray, List.getElem_cons_succ, List.getElem_cons_zero, List.setIfInBounds_toArray, List.set_cons_zero, List.set_cons_succ]
      refine wpAnyH_done (by kernel_rfl) ?_ _
      have G0 := Lib.hid (show Blk _ w.heap.size 27 #[(.slice Ak nk ck), (.slice Br mr9 dr)] from g0); have G2 := Lib.hid g2; have G6 := Lib.hid g6'; have HB := Lib.hid hb; have HO := Lib.hid (show MoOwn _ B ⟨m.keys, rowPutV m.rows ⟨cv0, cv1, cv2, cv3, cv4, cv5, cv6, cv7, cv8, cv9⟩⟩ (.slice Ak nk ck) (.slice Br mr9 dr) from ho)
      clear g0 g1 g2 g6' hb ho
      generalize hX9 : World.setCell _ _ _ = X9 at *
      clear hX9
      go_wp2_with ((with_reducible show wpList _ _ _ _ _ _); first | refine wpList_load_row rfl 27 _ rfl (w.heap.size) rfl 27 #[(.slice Ak nk ck), (.slice Br mr9 dr)] (0, 0) _ G0.out hu rfl (by kernel_rfl) ?_ | refine wpList_store_row rfl 27 _ _ rfl (w.heap.size + 2) #[(.slice Ak nk ck), (.slice Br mr9 dr)] rfl rfl 27 _ G2.out (by kernel_rfl) rfl (mo_one2 HO.out) ?_)
      refine post_gen (fun X => Blk X (w.heap.size + 2) 27 #[(.slice Ak nk ck), (.slice Br mr9 dr)] ∧ Below w.heap.size w X ∧ MoOwn X B ⟨m.keys, rowPutV m.rows ⟨cv0, cv1, cv2, cv3, cv4, cv5, cv6, cv7, cv8, cv9⟩⟩ (.slice Ak nk ck) (.slice Br mr9 dr)) ⟨setRow_heap _ _ _ _ _ _ G2.out, below_setRow' HB.out (by omega) _, HO.out.farA HAW.out (setRow_grown _ _ _) (by omega) (by omega)⟩ ?_
      rintro X ⟨h1, hb, hm⟩
      exact bodyPost_ret (v := .tuple #[.agg #[(.slice Ak nk ck), (.slice Br mr9 dr)], .int .i64 (0)]) (results_cellM rfl _ _ _ _ _ _ _ rfl h1 hu rfl (by kernel_rfl) rfl) rfl ⟨_, _, by rw [HR.out], by rw [HR.out]; exact hm, hb⟩
  have d1 : (rkind == 1) = false := by rw [beq_eq_false_iff_ne]; exact c1
  by_cases c2 : rkind = 2
  · have d2 : (rkind == 2) = true := by rw [beq_iff_eq]; exact c2
    have HR := Lib.hid (show res = (⟨m.keys, rowPutV m.rows ⟨rkey, rkind, rsum, true, oval, rn, rmn, rmx, rtotal, rdropped⟩⟩, 0) by rw [HV.out, HW.out, if_neg c1, if_pos c2, if_neg (fun q => q.2.1 c2)])
    clear c1 c2 HV HW CS CC
    have y3 := G6.out.frz 3
    have y4 := G6.out.frz 4
    go_upto_region 14 with fail
    have HG := Lib.hid (row_store G6.out 3 (.bool true))
    have HH := Lib.hid (row_store (G6.out.store 3 (.bool true)) 4 (.int .i64 oval))
    refine wp_gen (fun X => Blk X w.heap.size 27 #[(.slice Ak nk ck), (.slice Ar nr cr)] ∧ Blk X (w.heap.size + 1) 29 #[.int .i64 okind, .string okey, .int .i64 owhat, .int .i64 oval] ∧ Blk X (w.heap.size + 2) 27 #[.slice none 0 0, .slice none 0 0] ∧ Blk X g6 42 (rowCells ⟨rkey, rkind, rsum, true, oval, rn, rmn, rmx, rtotal, rdropped⟩) ∧ Below w.heap.size w X ∧ MoOwn X B m (.slice Ak nk ck) (.slice Ar nr cr) ∧ w.heap.size + 3 ≤ X.heap.size) ⟨(G0.out.far _ _ _ (by omega)).far _ _ _ (by omega), (G1.out.far _ _ _ (by omega)).far _ _ _ (by omega), (G2.out.far _ _ _ (by omega)).far _ _ _ (by omega), (G6.out.store 3 (.bool true)).store 4 (.int .i64 oval), (HB.out.setCell (by show w.heap.size ≤ g6; omega) _).setCell (by show w.heap.size ≤ g6; omega) _, ?hmo, Nat.le_trans HSZ.out (by simp)⟩ ?_
    case hmo =>
      have a1 : ∀ k, (Value.slice Ak nk ck).ownBlock = some k → k ≠ g6 := fun k hk e => by have := HA0.out.1 k hk; omega
      have a2 : ∀ k, (Value.slice Ar nr cr).ownBlock = some k → k ≠ g6 := fun k hk e => by have := HA0.out.2 k hk; omega
      exact ⟨(HO.out.keys.kept HG.out (.inr fun e => a1 g6 e rfl)).kept HH.out (.inr fun e => a1 g6 e rfl), (HO.out.rows.kept HG.out (.inr fun e => a2 g6 e rfl)).kept HH.out (.inr fun e => a2 g6 e rfl), HO.out.ap⟩
    clear x0 x1 x2 x3 x4 x5 x6 x7 x8 x9 y3 y4 p0 p1 q0 q1 q2 q3 G0 G1 G2 G6 HB HO HSZ HG HH
    rintro W5 ⟨g0, g1, g2, g6b, hb, ho, hz⟩
    have G0 := Lib.hid g0; have G1 := Lib.hid g1; have G2 := Lib.hid g2; have G6 := Lib.hid g6b; have HB := Lib.hid hb; have HO := Lib.hid ho; have HSZ := Lib.hid hz
    clear g0 g1 g2 g6b hb ho hz
    have p0 := G0.out.get 0; have p1 := G0.out.get 1
    simp at p0 p1
    have q0 := G1.out.get 0
    simp at q0
    have q1 := G1.out.get 1
    simp at q1
    have q2 := G1.out.get 2
    simp at q2
    have q3 := G1.out.get 3
    simp at q3
    have x0 := G6.out.get 0
    have x1 := G6.out.get 1
    have x2 := G6.out.get 2
    have x3 := G6.out.get 3
    have x4 := G6.out.get 4
    have x5 := G6.out.get 5
    have x6 := G6.out.get 6
    have x7 := G6.out.get 7
    have x8 := G6.out.get 8
    have x9 := G6.out.get 9
    simp [rowCells] at x0 x1 x2 x3 x4 x5 x6 x7 x8 x9
    go_wp2_with fail
    have HS1 := HSZ
    refine (CW _ ⟨rkey, rkind, rsum, true, oval, rn, rmn, rmx, rtotal, rdropped⟩ HO.out.win.rows).out.mono ?_
    rintro e W6 ⟨ur, rfl, hr, hb⟩
    have HAK := Lib.hid (show Away w.heap.size (.slice Ak nk ck) ∧ Away w.heap.size ur from ⟨HAW.out.1, fun k hk' => .inr (Nat.le_trans HS1.out (hr.base_le' k hk'))⟩)
    replace HO := Lib.hid (HO.out.newRows hb hr (Nat.le_trans HBB.out (by have := HS1.out; omega)))
    replace G0 := Lib.hid (G0.out.below hb); replace G1 := Lib.hid (G1.out.below hb); replace G2 := Lib.hid (G2.out.below hb); replace HB := Lib.hid (HB.out.trans (hb.mono HB.out.size)); replace HSZ := Lib.hid (Nat.le_trans HSZ.out hb.size)
    obtain ⟨Br, mr9, dr, rfl⟩ := own_slice hr
    clear hb hr HAW HS1 G6 p0 p1 q0 q1 q2 q3 x0 x1 x2 x3 x4 x5 x6 x7 x8 x9
    have HAW := HAK
    clear HAK
    have p1 := G0.out.get 1; have f1 := G0.out.frz 1
    simp at p1
    have HG := Lib.hid (row_store G0.out 1 (.slice Br mr9 dr))
    go_upto_region 15 with fail
    refine wp_gen (fun W => Blk W w.heap.size 27 #[(.slice Ak nk ck), (.slice Br mr9 dr)] ∧ Blk W (w.heap.size + 2) 27 #[.slice none 0 0, .slice none 0 0] ∧ Below w.heap.size w W ∧ MoOwn W B ⟨m.keys, rowPutV m.rows ⟨rkey, rkind, rsum, true, oval, rn, rmn, rmx, rtotal, rdropped⟩⟩ (.slice Ak nk ck) (.slice Br mr9 dr)) ⟨G0.out.store 1 _, G2.out.far _ _ _ (by omega), HB.out.setCell (Nat.le_refl _) _, HO.out.farA HAW.out HG.out (Nat.le_refl _) (by omega)⟩ ?_
    clear p1 f1 G0 G1 G2 HB HO HG HSZ
    rintro W7 ⟨g0, g2, hb, ho⟩
    have G0 := Lib.hid g0; have G2 := Lib.hid g2; have HB := Lib.hid hb; have HO := Lib.hid ho
    clear g0 g2 hb ho
    go_wp2_with ((with_reducible show wpList _ _ _ _ _ _); first | refine wpList_load_row rfl 27 _ rfl (w.heap.size) rfl 27 #[(.slice Ak nk ck), (.slice Br mr9 dr)] (0, 0) _ G0.out hu rfl (by kernel_rfl) ?_ | refine wpList_store_row rfl 27 _ _ rfl (w.heap.size + 2) #[(.slice Ak nk ck), (.slice Br mr9 dr)] rfl rfl 27 _ G2.out (by kernel_rfl) rfl (mo_one2 HO.out) ?_)
    refine post_gen (fun X => Blk X (w.heap.size + 2) 27 #[(.slice Ak nk ck), (.slice Br mr9 dr)] ∧ Below w.heap.size w X ∧ MoOwn X B ⟨m.keys, rowPutV m.rows ⟨rkey, rkind, rsum, true, oval, rn, rmn, rmx, rtotal, rdropped⟩⟩ (.slice Ak nk ck) (.slice Br mr9 dr)) ⟨setRow_heap _ _ _ _ _ _ G2.out, below_setRow' HB.out (by omega) _, HO.out.farA HAW.out (setRow_grown _ _ _) (by omega) (by omega)⟩ ?_
    rintro X ⟨h1, hb, hm⟩
    exact bodyPost_ret (v := .tuple #[.agg #[(.slice Ak nk ck), (.slice Br mr9 dr)], .int .i64 (0)]) (results_cellM rfl _ _ _ _ _ _ _ rfl h1 hu rfl (by kernel_rfl) rfl) rfl ⟨_, _, by rw [HR.out], by rw [HR.out]; exact hm, hb⟩
  have d2 : (rkind == 2) = false := by rw [beq_eq_false_iff_ne]; exact c2
  clear CC
  by_cases c3 : rn = 3
  · have d3 : (rn == 3) = true := by rw [beq_iff_eq]; exact c3
    have HR := Lib.hid (show res = (⟨m.keys, rowPutV m.rows ⟨sv0, sv1, sv2, sv3, sv4, sv5, sv6, sv7, sv8, sv9⟩⟩, 5) by rw [HV.out, HW.out, if_neg c1, if_neg c2, if_pos ⟨c1, c2, c3⟩])
    clear c1 c2 c3 HV HW
    go_upto_region 4 with fail
    clear x0 x1 x2 x3 x4 x5 x6 x7 x8 x9 p0 p1 q0 q1 q2 q3
    replace G0 := Lib.hid (G0.out.below (below_drew _ _))
    replace G1 := Lib.hid (G1.out.below (below_drew _ _))
    replace G2 := Lib.hid (G2.out.below (below_drew _ _))
    replace G6 := Lib.hid (G6.out.below (below_drew _ _))
    replace HSZ := Lib.hid (show w.heap.size + 3 ≤ W2.drew.heap.size from HSZ.out)
    replace HB := Lib.hid (HB.out.trans (below_drew _ _))
    replace HO := Lib.hid (HO.out.below (below_drew _ _))
    refine wp_region_held_drew (S := fun X : World => Blk X (w.heap.size + 1) 29 #[.int .i64 okind, .string okey, .int .i64 owhat, .int .i64 oval] ∧ Blk X g6 42 (rowCells ⟨rkey, rkind, rsum, rst, rlast, rn, rmn, rmx, rtotal, rdropped⟩)) (by kernel_rfl) ⟨G1.out, G6.out⟩ (fun hHeld => ?_)
    clear hHeld
    generalize hX0 : World.drew _ = X0 at *
    clear hX0
    refine' wpAnyH_take (i := 0) (v := .pointer (some ⟨w.heap.size, 1, none⟩)) rfl (by kernel_rfl) (by kernel_rfl) (by kernel_rfl) (fun _ _ _ h => h) (Or.inl ⟨by rfl, fun W h => by go_simp⟩) ⟨G1.out, G6.out⟩ ?_
    try simp only [Act.put, List.getElem_toArray, List.getElem_cons_succ, List.getElem_cons_zero, List.setIfInBounds_toArray, List.set_cons_zero, List.set_cons_succ]
    refine' wpAnyH_take (i := 2) (v := .agg #[.string rkey, .int .i64 rkind, .int .i64 rsum, .bool rst, .int .i64 rlast, .int .i64 rn, .int .i64 rmn, .int .i64 rmx, .int .i64 rtotal, .int .i64 rdropped]) rfl (by kernel_rfl) (by kernel_rfl) (by kernel_rfl) (fun _ _ _ h => h) (yieldsIf_load_mid (by rfl) 42 _ rfl g6 0 rfl (rowCells ⟨rkey, rkind, rsum, rst, rlast, rn, rmn, rmx, rtotal, rdropped⟩).toList _ (fun w' h => h.2.rangeM) huR rfl (by kernel_rfl)) ⟨G1.out, G6.out⟩ ?_
    try simp only [Act.put, List.getElem_toArray, List.getElem_cons_succ, List.getElem_cons_zero, List.setIfInBounds_toArray, List.set_cons_zero, List.set_cons_succ]
    refine' wpAnyH_take (i := 3) (v := .pointer (some ⟨w.heap.size + 1, 3, none⟩)) rfl (by kernel_rfl) (by kernel_rfl) (by kernel_rfl) (fun _ _ _ h => h) (Or.inl ⟨by rfl, fun W h => by go_simp⟩) ⟨G1.out, G6.out⟩ ?_
    try simp only [Act.put, List.getElem_toArray, List.getElem_cons_succ, List.getElem_cons_zero, List.setIfInBounds_toArray, List.set_cons_zero, List.set_cons_succ]
    refine' wpAnyH_take (i := 4) (v := .int .i64 oval) rfl (by kernel_rfl) (by kernel_rfl) (by kernel_rfl) (fun _ _ _ h => h) (Or.inl ⟨by rfl, fun W h => by have q := h.1.get 3; simp at q; go_simp⟩) ⟨G1.out, G6.out⟩ ?_
    try simp only [Act.put, List.getElem_toArray, List.getElem_cons_succ, List.getElem_cons_zero, List.setIfInBounds_toArray, List.set_cons_zero, List.set_cons_succ]
    refine wpAnyH_ready (rs := [1, 5]) (by kernel_rfl) (by simp) ?_
    refine AllReadyH.cons rfl (fun K hK => ?_) (AllReadyH.cons rfl (fun K hK => ?_) AllReadyH.nil)
    · skip
      have p1 := G0.out.get 1
      simp at p1
      go_simp
      refine hK.out _ _ ⟨G1.out, G6.out⟩ (fun hHeld => ?_)
      clear hK K hHeld p1
      try simp only [Act.put, List.getElem_toArray, List.getElem_cons_succ, List.getElem_cons_zero, List.setIfInBounds_toArray, List.set_cons_zero, List.set_cons_succ]
      refine wpAnyH_ready (rs := [5]) (by kernel_rfl) (by simp) ?_
      refine AllReadyH.cons rfl (fun K hK => ?_) AllReadyH.nil
      go_simp
      refine (CS _).out.mono ?_
      rintro e Y5 ⟨rfl, hb⟩
      replace HO := Lib.hid (HO.out.below hb)
      replace G0 := Lib.hid (G0.out.below hb); replace G1 := Lib.hid (G1.out.below hb); replace G2 := Lib.hid (G2.out.below hb); replace HB := Lib.hid (HB.out.trans (hb.mono HB.out.size)); replace HSZ := Lib.hid (Nat.le_trans HSZ.out hb.size)
      replace G6 := Lib.hid (G6.out.below hb)
      refine hK.out _ _ ⟨G1.out, G6.out⟩ (fun hHeld => ?_)
      clear hK K hHeld hb
      try simp only [Act.put, List.getElem_toArray, List.getElem_cons_succ, List.getElem_cons_zero, List.setIfInBounds_toArray, List.set_cons_zero, List.set_cons_succ]
      refine wpAnyH_ready (rs := [6]) (by kernel_rfl) (by simp) ?_
      refine AllReadyH.cons rfl (fun K hK => ?_) AllReadyH.nil
      go_simp
      have HS1 := HSZ
      refine (CW _ ⟨sv0, sv1, sv2, sv3, sv4, sv5, sv6, sv7, sv8, sv9⟩ HO.out.win.rows).out.mono ?_
      rintro e Y6 ⟨ur, rfl, hr, hb⟩
      have HAK := Lib.hid (show Away w.heap.size (.slice Ak nk ck) ∧ Away w.heap.size ur from ⟨HAW.out.1, fun k hk' => .inr (Nat.le_trans HS1.out (hr.base_le' k hk'))⟩)
      replace HO := Lib.hid (HO.out.newRows hb hr (Nat.le_trans HBB.out (by have := HS1.out; omega)))
      replace G0 := Lib.hid (G0.out.below hb); replace G1 := Lib.hid (G1.out.below hb); replace G2 := Lib.hid (G2.out.below hb); replace HB := Lib.hid (HB.out.trans (hb.mono HB.out.size)); replace HSZ := Lib.hid (Nat.le_trans HSZ.out hb.size)
      replace G6 := Lib.hid (G6.out.below hb)
      obtain ⟨Br, mr9, dr, rfl⟩ := own_slice hr
      refine hK.out _ _ ⟨G1.out, G6.out⟩ (fun hHeld => ?_)
      clear hK K hHeld hb hr HAW HS1
      have HAW := HAK
      clear HAK
      try simp only [Act.put, List.getElem_toArray, List.getElem_cons_succ, List.getElem_cons_zero, List.setIfInBounds_toArray, List.set_cons_zero, List.set_cons_succ]
      refine' wpAnyH_take (i := 7) (v := .pointer (some ⟨w.heap.size, 1, none⟩)) rfl (by kernel_rfl) (by kernel_rfl) (by kernel_rfl) (fun _ _ _ h => h) (Or.inl ⟨by rfl, fun W h => by go_simp⟩) ⟨G1.out, G6.out⟩ ?_
      try simp only [Act.put, List.getElem_toArray, List.getElem_cons_succ, List.getElem_cons_zero, List.setIfInBounds_toArray, List.set_cons_zero, List.set_cons_succ]
      refine wpAnyH_ready (rs := [8]) (by kernel_rfl) (by simp) ?_
      refine AllReadyH.cons rfl (fun K hK => ?_) AllReadyH.nil
      have p1 := G0.out.get 1; have f1 := G0.out.frz 1
      simp at p1
      have HG := Lib.hid (row_store G0.out 1 (.slice Br mr9 dr))
      go_simp
      have g0 := G0.out.store 1 (.slice Br mr9 dr); have g1 := G1.out.far w.heap.size 1 (.slice Br mr9 dr) (by omega); have g2 := G2.out.far w.heap.size 1 (.slice Br mr9 dr) (by omega); have g6' := G6.out.far w.heap.size 1 (.slice Br mr9 dr) (by omega); have hb := HB.out.setCell (p := ⟨w.heap.size, 1, none⟩) (Nat.le_refl _) (.slice Br mr9 dr); have ho := HO.out.farA HAW.out HG.out (Nat.le_refl _) (by omega)
      refine hK.out _ _ ⟨g1, g6'⟩ (fun hHeld => ?_)
      clear hK K hHeld p1 f1 G0 G1 G2 G6 HB HO HG HSZ
      try simp only [Act.put, List.getElem_toArray, List.getElem_cons_succ, List.getElem_cons_zero, List.setIfInBounds_toArray, List.set_cons_zero, List.set_cons_succ]
      refine wpAnyH_done (by kernel_rfl) ?_ _
      have G0 := Lib.hid (show Blk _ w.heap.size 27 #[(.slice Ak nk ck), (.slice Br mr9 dr)] from g0); have G2 := Lib.hid g2; have G6 := Lib.hid g6'; have HB := Lib.hid hb; have HO := Lib.hid (show MoOwn _ B ⟨m.keys, rowPutV m.rows ⟨sv0, sv1, sv2, sv3, sv4, sv5, sv6, sv7, sv8, sv9⟩⟩ (.slice Ak nk ck) (.slice Br mr9 dr) from ho)
      clear g0 g1 g2 g6' hb ho
      generalize hX9 : World.setCell _ _ _ = X9 at *
      clear hX9
      go_wp2_with ((with_reducible show wpList _ _ _ _ _ _); first | refine wpList_load_row rfl 27 _ rfl (w.heap.size) rfl 27 #[(.slice Ak nk ck), (.slice Br mr9 dr)] (0, 0) _ G0.out hu rfl (by kernel_rfl) ?_ | refine wpList_store_row rfl 27 _ _ rfl (w.heap.size + 2) #[(.slice Ak nk ck), (.slice Br mr9 dr)] rfl rfl 27 _ G2.out (by kernel_rfl) rfl (mo_one2 HO.out) ?_)
      refine post_gen (fun X => Blk X (w.heap.size + 2) 27 #[(.slice Ak nk ck), (.slice Br mr9 dr)] ∧ Below w.heap.size w X ∧ MoOwn X B ⟨m.keys, rowPutV m.rows ⟨sv0, sv1, sv2, sv3, sv4, sv5, sv6, sv7, sv8, sv9⟩⟩ (.slice Ak nk ck) (.slice Br mr9 dr)) ⟨setRow_heap _ _ _ _ _ _ G2.out, below_setRow' HB.out (by omega) _, HO.out.farA HAW.out (setRow_grown _ _ _) (by omega) (by omega)⟩ ?_
      rintro X ⟨h1, hb, hm⟩
      exact bodyPost_ret (v := .tuple #[.agg #[(.slice Ak nk ck), (.slice Br mr9 dr)], .int .i64 (5)]) (results_cellM rfl _ _ _ _ _ _ _ rfl h1 hu rfl (by kernel_rfl) rfl) rfl ⟨_, _, by rw [HR.out], by rw [HR.out]; exact hm, hb⟩
    · skip
      go_simp
      refine (CS _).out.mono ?_
      rintro e Y7 ⟨rfl, hb⟩
      replace HO := Lib.hid (HO.out.below hb)
      replace G0 := Lib.hid (G0.out.below hb); replace G1 := Lib.hid (G1.out.below hb); replace G2 := Lib.hid (G2.out.below hb); replace HB := Lib.hid (HB.out.trans (hb.mono HB.out.size)); replace HSZ := Lib.hid (Nat.le_trans HSZ.out hb.size)
      replace G6 := Lib.hid (G6.out.below hb)
      refine hK.out _ _ ⟨G1.out, G6.out⟩ (fun hHeld => ?_)
      clear hK K hHeld hb
      try simp only [Act.put, List.getElem_toArray, List.getElem_cons_succ, List.getElem_cons_zero, List.setIfInBounds_toArray, List.set_cons_zero, List.set_cons_succ]
      refine wpAnyH_ready (rs := [1]) (by kernel_rfl) (by simp) ?_
      refine AllReadyH.cons rfl (fun K hK => ?_) AllReadyH.nil
      have p1 := G0.out.get 1
      simp at p1
      go_simp
      refine hK.out _ _ ⟨G1.out, G6.out⟩ (fun hHeld => ?_)
      clear hK K hHeld p1
      try simp only [Act.put, List.getElem_toArray, List.getElem_cons_succ, List.getElem_cons_zero, List.setIfInBounds_toArray, List.set_cons_zero, List.set_cons_succ]
      refine wpAnyH_ready (rs := [6]) (by kernel_rfl) (by simp) ?_
      refine AllReadyH.cons rfl (fun K hK => ?_) AllReadyH.nil
      go_simp
      have HS1 := HSZ
      refine (CW _ ⟨sv0, sv1, sv2, sv3, sv4, sv5, sv6, sv7, sv8, sv9⟩ HO.out.win.rows).out.mono ?_
      rintro e Y8 ⟨ur, rfl, hr, hb⟩
      have HAK := Lib.hid (show Away w.heap.size (.slice Ak nk ck) ∧ Away w.heap.size ur from ⟨HAW.out.1, fun k hk' => .inr (Nat.le_trans HS1.out (hr.base_le' k hk'))⟩)
      replace HO := Lib.hid (HO.out.newRows hb hr (Nat.le_trans HBB.out (by have := HS1.out; omega)))
      replace G0 := Lib.hid (G0.out.below hb); replace G1 := Lib.hid (G1.out.below hb); replace G2 := Lib.hid (G2.out.below hb); replace HB := Lib.hid (HB.out.trans (hb.mono HB.out.size)); replace HSZ := Lib.hid (Nat.le_trans HSZ.out hb.size)
      replace G6 := Lib.hid (G6.out.below hb)
      obtain ⟨Br, mr9, dr, rfl⟩ := own_slice hr
      refine hK.out _ _ ⟨G1.out, G6.out⟩ (fun hHeld => ?_)
      clear hK K hHeld hb hr HAW HS1
      have HAW := HAK
      clear HAK
      try simp only [Act.put, List.getElem_toArray, List.getElem_cons_succ, List.getElem_cons_zero, List.setIfInBounds_toArray, List.set_cons_zero, List.set_cons_succ]
      refine' wpAnyH_take (i := 7) (v := .pointer (some ⟨w.heap.size, 1, none⟩)) rfl (by kernel_rfl) (by kernel_rfl) (by kernel_rfl) (fun _ _ _ h => h) (Or.inl ⟨by rfl, fun W h => by go_simp⟩) ⟨G1.out, G6.out⟩ ?_
      try simp only [Act.put, List.getElem_toArray, List.getElem_cons_succ, List.getElem_cons_zero, List.setIfInBounds_toArray, List.set_cons_zero, List.set_cons_succ]
      refine wpAnyH_ready (rs := [8]) (by kernel_rfl) (by simp) ?_
      refine AllReadyH.cons rfl (fun K hK => ?_) AllReadyH.nil
      have p1 := G0.out.get 1; have f1 := G0.out.frz 1
      simp at p1
      have HG := Lib.hid (row_store G0.out 1 (.slice Br mr9 dr))
      go_simp
      have g0 := G0.out.store 1 (.slice Br mr9 dr); have g1 := G1.out.far w.heap.size 1 (.slice Br mr9 dr) (by omega); have g2 := G2.out.far w.heap.size 1 (.slice Br mr9 dr) (by omega); have g6' := G6.out.far w.heap.size 1 (.slice Br mr9 dr) (by omega); have hb := HB.out.setCell (p := ⟨w.heap.size, 1, none⟩) (Nat.le_refl _) (.slice Br mr9 dr); have ho := HO.out.farA HAW.out HG.out (Nat.le_refl _) (by omega)
      refine hK.out _ _ ⟨g1, g6'⟩ (fun hHeld => ?_)
      clear hK K hHeld p1 f1 G0 G1 G2 G6 HB HO HG HSZ
      try simp only [Act.put, List.getElem_toArray, List.getElem_cons_succ, List.getElem_cons_zero, List.setIfInBounds_toArray, List.set_cons_zero, List.set_cons_succ]
      refine wpAnyH_done (by kernel_rfl) ?_ _
      have G0 := Lib.hid (show Blk _ w.heap.size 27 #[(.slice Ak nk ck), (.slice Br mr9 dr)] from g0); have G2 := Lib.hid g2; have G6 := Lib.hid g6'; have HB := Lib.hid hb; have HO := Lib.hid (show MoOwn _ B ⟨m.keys, rowPutV m.rows ⟨sv0, sv1, sv2, sv3, sv4, sv5, sv6, sv7, sv8, sv9⟩⟩ (.slice Ak nk ck) (.slice Br mr9 dr) from ho)
      clear g0 g1 g2 g6' hb ho
      generalize hX9 : World.setCell _ _ _ = X9 at *
      clear hX9
      go_wp2_with ((with_reducible show wpList _ _ _ _ _ _); first | refine wpList_load_row rfl 27 _ rfl (w.heap.size) rfl 27 #[(.slice Ak nk ck), (.slice Br mr9 dr)] (0, 0) _ G0.out hu rfl (by kernel_rfl) ?_ | refine wpList_store_row rfl 27 _ _ rfl (w.heap.size + 2) #[(.slice Ak nk ck), (.slice Br mr9 dr)] rfl rfl 27 _ G2.out (by kernel_rfl) rfl (mo_one2 HO.out) ?_)
      refine post_gen (fun X => Blk X (w.heap.size + 2) 27 #[(.slice Ak nk ck), (.slice Br mr9 dr)] ∧ Below w.heap.size w X ∧ MoOwn X B ⟨m.keys, rowPutV m.rows ⟨sv0, sv1, sv2, sv3, sv4, sv5, sv6, sv7, sv8, sv9⟩⟩ (.slice Ak nk ck) (.slice Br mr9 dr)) ⟨setRow_heap _ _ _ _ _ _ G2.out, below_setRow' HB.out (by omega) _, HO.out.farA HAW.out (setRow_grown _ _ _) (by omega) (by omega)⟩ ?_
      rintro X ⟨h1, hb, hm⟩
      exact bodyPost_ret (v := .tuple #[.agg #[(.slice Ak nk ck), (.slice Br mr9 dr)], .int .i64 (5)]) (results_cellM rfl _ _ _ _ _ _ _ rfl h1 hu rfl (by kernel_rfl) rfl) rfl ⟨_, _, by rw [HR.out], by rw [HR.out]; exact hm, hb⟩
  · have d3 : (rn == 3) = false := by rw [beq_eq_false_iff_ne]; exact c3
    have HR := Lib.hid (show res = (⟨m.keys, rowPutV m.rows ⟨sv0, sv1, sv2, sv3, sv4, sv5, sv6, sv7, sv8, sv9⟩⟩, 0) by rw [HV.out, HW.out, if_neg c1, if_neg c2, if_neg (fun q => c3 q.2.2)])
    clear c1 c2 c3 HV HW
    go_upto_region 4 with fail
    clear x0 x1 x2 x3 x4 x5 x6 x7 x8 x9 p0 p1 q0 q1 q2 q3
    replace G0 := Lib.hid (G0.out.below (below_drew _ _))
    replace G1 := Lib.hid (G1.out.below (below_drew _ _))
    replace G2 := Lib.hid (G2.out.below (below_drew _ _))
    replace G6 := Lib.hid (G6.out.below (below_drew _ _))
    replace HSZ := Lib.hid (show w.heap.size + 3 ≤ W2.drew.heap.size from HSZ.out)
    replace HB := Lib.hid (HB.out.trans (below_drew _ _))
    replace HO := Lib.hid (HO.out.below (below_drew _ _))
    refine wp_region_held_drew (S := fun X : World => Blk X (w.heap.size + 1) 29 #[.int .i64 okind, .string okey, .int .i64 owhat, .int .i64 oval] ∧ Blk X g6 42 (rowCells ⟨rkey, rkind, rsum, rst, rlast, rn, rmn, rmx, rtotal, rdropped⟩)) (by kernel_rfl) ⟨G1.out, G6.out⟩ (fun hHeld => ?_)
    clear hHeld
    generalize hX0 : World.drew _ = X0 at *
    clear hX0
    refine' wpAnyH_take (i := 0) (v := .pointer (some ⟨w.heap.size, 1, none⟩)) rfl (by kernel_rfl) (by kernel_rfl) (by kernel_rfl) (fun _ _ _ h => h) (Or.inl ⟨by rfl, fun W h => by go_simp⟩) ⟨G1.out, G6.out⟩ ?_
    try simp only [Act.put, List.getElem_toArray, List.getElem_cons_succ, List.getElem_cons_zero, List.setIfInBounds_toArray, List.set_cons_zero, List.set_cons_succ]
    refine' wpAnyH_take (i := 2) (v := .agg #[.string rkey, .int .i64 rkind, .int .i64 rsum, .bool rst, .int .i64 rlast, .int .i64 rn, .int .i64 rmn, .int .i64 rmx, .int .i64 rtotal, .int .i64 rdropped]) rfl (by kernel_rfl) (by kernel_rfl) (by kernel_rfl) (fun _ _ _ h => h) (yieldsIf_load_mid (by rfl) 42 _ rfl g6 0 rfl (rowCells ⟨rkey, rkind, rsum, rst, rlast, rn, rmn, rmx, rtotal, rdropped⟩).toList _ (fun w' h => h.2.rangeM) huR rfl (by kernel_rfl)) ⟨G1.out, G6.out⟩ ?_
    try simp only [Act.put, List.getElem_toArray, List.getElem_cons_succ, List.getElem_cons_zero, List.setIfInBounds_toArray, List.set_cons_zero, List.set_cons_succ]
    refine' wpAnyH_take (i := 3) (v := .pointer (some ⟨w.heap.size + 1, 3, none⟩)) rfl (by kernel_rfl) (by kernel_rfl) (by kernel_rfl) (fun _ _ _ h => h) (Or.inl ⟨by rfl, fun W h => by go_simp⟩) ⟨G1.out, G6.out⟩ ?_
    try simp only [Act.put, List.getElem_toArray, List.getElem_cons_succ, List.getElem_cons_zero, List.setIfInBounds_toArray, List.set_cons_zero, List.set_cons_succ]
    refine' wpAnyH_take (i := 4) (v := .int .i64 oval) rfl (by kernel_rfl) (by kernel_rfl) (by kernel_rfl) (fun _ _ _ h => h) (Or.inl ⟨by rfl, fun W h => by have q := h.1.get 3; simp at q; go_simp⟩) ⟨G1.out, G6.out⟩ ?_
    try simp only [Act.put, List.getElem_toArray, List.getElem_cons_succ, List.getElem_cons_zero, List.setIfInBounds_toArray, List.set_cons_zero, List.set_cons_succ]
    refine wpAnyH_ready (rs := [1, 5]) (by kernel_rfl) (by simp) ?_
    refine AllReadyH.cons rfl (fun K hK => ?_) (AllReadyH.cons rfl (fun K hK => ?_) AllReadyH.nil)
    · skip
      have p1 := G0.out.get 1
      simp at p1
      go_simp
      refine hK.out _ _ ⟨G1.out, G6.out⟩ (fun hHeld => ?_)
      clear hK K hHeld p1
      try simp only [Act.put, List.getElem_toArray, List.getElem_cons_succ, List.getElem_cons_zero, List.setIfInBounds_toArray, List.set_cons_zero, List.set_cons_succ]
      refine wpAnyH_ready (rs := [5]) (by kernel_rfl) (by simp) ?_
      refine AllReadyH.cons rfl (fun K hK => ?_) AllReadyH.nil
      go_simp
      refine (CS _).out.mono ?_
      rintro e Y9 ⟨rfl, hb⟩
      replace HO := Lib.hid (HO.out.below hb)
      replace G0 := Lib.hid (G0.out.below hb); replace G1 := Lib.hid (G1.out.below hb); replace G2 := Lib.hid (G2.out.below hb); replace HB := Lib.hid (HB.out.trans (hb.mono HB.out.size)); replace HSZ := Lib.hid (Nat.le_trans HSZ.out hb.size)
      replace G6 := Lib.hid (G6.out.below hb)
      refine hK.out _ _ ⟨G1.out, G6.out⟩ (fun hHeld => ?_)
      clear hK K hHeld hb
      try simp only [Act.put, List.getElem_toArray, List.getElem_cons_succ, List.getElem_cons_zero, List.setIfInBounds_toArray, List.set_cons_zero, List.set_cons_succ]
      refine wpAnyH_ready (rs := [6]) (by kernel_rfl) (by simp) ?_
      refine AllReadyH.cons rfl (fun K hK => ?_) AllReadyH.nil
      go_simp
      have HS1 := HSZ
      refine (CW _ ⟨sv0, sv1, sv2, sv3, sv4, sv5, sv6, sv7, sv8, sv9⟩ HO.out.win.rows).out.mono ?_
      rintro e Y10 ⟨ur, rfl, hr, hb⟩
      have HAK := Lib.hid (show Away w.heap.size (.slice Ak nk ck) ∧ Away w.heap.size ur from ⟨HAW.out.1, fun k hk' => .inr (Nat.le_trans HS1.out (hr.base_le' k hk'))⟩)
      replace HO := Lib.hid (HO.out.newRows hb hr (Nat.le_trans HBB.out (by have := HS1.out; omega)))
      replace G0 := Lib.hid (G0.out.below hb); replace G1 := Lib.hid (G1.out.below hb); replace G2 := Lib.hid (G2.out.below hb); replace HB := Lib.hid (HB.out.trans (hb.mono HB.out.size)); replace HSZ := Lib.hid (Nat.le_trans HSZ.out hb.size)
      replace G6 := Lib.hid (G6.out.below hb)
      obtain ⟨Br, mr9, dr, rfl⟩ := own_slice hr
      refine hK.out _ _ ⟨G1.out, G6.out⟩ (fun hHeld => ?_)
      clear hK K hHeld hb hr HAW HS1
      have HAW := HAK
      clear HAK
      try simp only [Act.put, List.getElem_toArray, List.getElem_cons_succ, List.getElem_cons_zero, List.setIfInBounds_toArray, List.set_cons_zero, List.set_cons_succ]
      refine' wpAnyH_take (i := 7) (v := .pointer (some ⟨w.heap.size, 1, none⟩)) rfl (by kernel_rfl) (by kernel_rfl) (by kernel_rfl) (fun _ _ _ h => h) (Or.inl ⟨by rfl, fun W h => by go_simp⟩) ⟨G1.out, G6.out⟩ ?_
      try simp only [Act.put, List.getElem_toArray, List.getElem_cons_succ, List.getElem_cons_zero, List.setIfInBounds_toArray, List.set_cons_zero, List.set_cons_succ]
      refine wpAnyH_ready (rs := [8]) (by kernel_rfl) (by simp) ?_
      refine AllReadyH.cons rfl (fun K hK => ?_) AllReadyH.nil
      have p1 := G0.out.get 1; have f1 := G0.out.frz 1
      simp at p1
      have HG := Lib.hid (row_store G0.out 1 (.slice Br mr9 dr))
      go_simp
      have g0 := G0.out.store 1 (.slice Br mr9 dr); have g1 := G1.out.far w.heap.size 1 (.slice Br mr9 dr) (by omega); have g2 := G2.out.far w.heap.size 1 (.slice Br mr9 dr) (by omega); have g6' := G6.out.far w.heap.size 1 (.slice Br mr9 dr) (by omega); have hb := HB.out.setCell (p := ⟨w.heap.size, 1, none⟩) (Nat.le_refl _) (.slice Br mr9 dr); have ho := HO.out.farA HAW.out HG.out (Nat.le_refl _) (by omega)
      refine hK.out _ _ ⟨g1, g6'⟩ (fun hHeld => ?_)
      clear hK K hHeld p1 f1 G0 G1 G2 G6 HB HO HG HSZ
      try simp only [Act.put, List.getElem_toArray, List.getElem_cons_succ, List.getElem_cons_zero, List.setIfInBounds_toArray, List.set_cons_zero, List.set_cons_succ]
      refine wpAnyH_done (by kernel_rfl) ?_ _
      have G0 := Lib.hid (show Blk _ w.heap.size 27 #[(.slice Ak nk ck), (.slice Br mr9 dr)] from g0); have G2 := Lib.hid g2; have G6 := Lib.hid g6'; have HB := Lib.hid hb; have HO := Lib.hid (show MoOwn _ B ⟨m.keys, rowPutV m.rows ⟨sv0, sv1, sv2, sv3, sv4, sv5, sv6, sv7, sv8, sv9⟩⟩ (.slice Ak nk ck) (.slice Br mr9 dr) from ho)
      clear g0 g1 g2 g6' hb ho
      generalize hX9 : World.setCell _ _ _ = X9 at *
      clear hX9
      go_wp2_with ((with_reducible show wpList _ _ _ _ _ _); first | refine wpList_load_row rfl 27 _ rfl (w.heap.size) rfl 27 #[(.slice Ak nk ck), (.slice Br mr9 dr)] (0, 0) _ G0.out hu rfl (by kernel_rfl) ?_ | refine wpList_store_row rfl 27 _ _ rfl (w.heap.size + 2) #[(.slice Ak nk ck), (.slice Br mr9 dr)] rfl rfl 27 _ G2.out (by kernel_rfl) rfl (mo_one2 HO.out) ?_)
      refine post_gen (fun X => Blk X (w.heap.size + 2) 27 #[(.slice Ak nk ck), (.slice Br mr9 dr)] ∧ Below w.heap.size w X ∧ MoOwn X B ⟨m.keys, rowPutV m.rows ⟨sv0, sv1, sv2, sv3, sv4, sv5, sv6, sv7, sv8, sv9⟩⟩ (.slice Ak nk ck) (.slice Br mr9 dr)) ⟨setRow_heap _ _ _ _ _ _ G2.out, below_setRow' HB.out (by omega) _, HO.out.farA HAW.out (setRow_grown _ _ _) (by omega) (by omega)⟩ ?_
      rintro X ⟨h1, hb, hm⟩
      exact bodyPost_ret (v := .tuple #[.agg #[(.slice Ak nk ck), (.slice Br mr9 dr)], .int .i64 (0)]) (results_cellM rfl _ _ _ _ _ _ _ rfl h1 hu rfl (by kernel_rfl) rfl) rfl ⟨_, _, by rw [HR.out], by rw [HR.out]; exact hm, hb⟩
    · skip
      go_simp
      refine (CS _).out.mono ?_
      rintro e Y11 ⟨rfl, hb⟩
      replace HO := Lib.hid (HO.out.below hb)
      replace G0 := Lib.hid (G0.out.below hb); replace G1 := Lib.hid (G1.out.below hb); replace G2 := Lib.hid (G2.out.below hb); replace HB := Lib.hid (HB.out.trans (hb.mono HB.out.size)); replace HSZ := Lib.hid (Nat.le_trans HSZ.out hb.size)
      replace G6 := Lib.hid (G6.out.below hb)
      refine hK.out _ _ ⟨G1.out, G6.out⟩ (fun hHeld => ?_)
      clear hK K hHeld hb
      try simp only [Act.put, List.getElem_toArray, List.getElem_cons_succ, List.getElem_cons_zero, List.setIfInBounds_toArray, List.set_cons_zero, List.set_cons_succ]
      refine wpAnyH_ready (rs := [1]) (by kernel_rfl) (by simp) ?_
      refine AllReadyH.cons rfl (fun K hK => ?_) AllReadyH.nil
      have p1 := G0.out.get 1
      simp at p1
      go_simp
      refine hK.out _ _ ⟨G1.out, G6.out⟩ (fun hHeld => ?_)
      clear hK K hHeld p1
      try simp only [Act.put, List.getElem_toArray, List.getElem_cons_succ, List.getElem_cons_zero, List.setIfInBounds_toArray, List.set_cons_zero, List.set_cons_succ]
      refine wpAnyH_ready (rs := [6]) (by kernel_rfl) (by simp) ?_
      refine AllReadyH.cons rfl (fun K hK => ?_) AllReadyH.nil
      go_simp
      have HS1 := HSZ
      refine (CW _ ⟨sv0, sv1, sv2, sv3, sv4, sv5, sv6, sv7, sv8, sv9⟩ HO.out.win.rows).out.mono ?_
      rintro e Y12 ⟨ur, rfl, hr, hb⟩
      have HAK := Lib.hid (show Away w.heap.size (.slice Ak nk ck) ∧ Away w.heap.size ur from ⟨HAW.out.1, fun k hk' => .inr (Nat.le_trans HS1.out (hr.base_le' k hk'))⟩)
      replace HO := Lib.hid (HO.out.newRows hb hr (Nat.le_trans HBB.out (by have := HS1.out; omega)))
      replace G0 := Lib.hid (G0.out.below hb); replace G1 := Lib.hid (G1.out.below hb); replace G2 := Lib.hid (G2.out.below hb); replace HB := Lib.hid (HB.out.trans (hb.mono HB.out.size)); replace HSZ := Lib.hid (Nat.le_trans HSZ.out hb.size)
      replace G6 := Lib.hid (G6.out.below hb)
      obtain ⟨Br, mr9, dr, rfl⟩ := own_slice hr
      refine hK.out _ _ ⟨G1.out, G6.out⟩ (fun hHeld => ?_)
      clear hK K hHeld hb hr HAW HS1
      have HAW := HAK
      clear HAK
      try simp only [Act.put, List.getElem_toArray, List.getElem_cons_succ, List.getElem_cons_zero, List.setIfInBounds_toArray, List.set_cons_zero, List.set_cons_succ]
      refine' wpAnyH_take (i := 7) (v := .pointer (some ⟨w.heap.size, 1, none⟩)) rfl (by kernel_rfl) (by kernel_rfl) (by kernel_rfl) (fun _ _ _ h => h) (Or.inl ⟨by rfl, fun W h => by go_simp⟩) ⟨G1.out, G6.out⟩ ?_
      try simp only [Act.put, List.getElem_toArray, List.getElem_cons_succ, List.getElem_cons_zero, List.setIfInBounds_toArray, List.set_cons_zero, List.set_cons_succ]
      refine wpAnyH_ready (rs := [8]) (by kernel_rfl) (by simp) ?_
      refine AllReadyH.cons rfl (fun K hK => ?_) AllReadyH.nil
      have p1 := G0.out.get 1; have f1 := G0.out.frz 1
      simp at p1
      have HG := Lib.hid (row_store G0.out 1 (.slice Br mr9 dr))
      go_simp
      have g0 := G0.out.store 1 (.slice Br mr9 dr); have g1 := G1.out.far w.heap.size 1 (.slice Br mr9 dr) (by omega); have g2 := G2.out.far w.heap.size 1 (.slice Br mr9 dr) (by omega); have g6' := G6.out.far w.heap.size 1 (.slice Br mr9 dr) (by omega); have hb := HB.out.setCell (p := ⟨w.heap.size, 1, none⟩) (Nat.le_refl _) (.slice Br mr9 dr); have ho := HO.out.farA HAW.out HG.out (Nat.le_refl _) (by omega)
      refine hK.out _ _ ⟨g1, g6'⟩ (fun hHeld => ?_)
      clear hK K hHeld p1 f1 G0 G1 G2 G6 HB HO HG HSZ
      try simp only [Act.put, List.getElem_toArray, List.getElem_cons_succ, List.getElem_cons_zero, List.setIfInBounds_toArray, List.set_cons_zero, List.set_cons_succ]
      refine wpAnyH_done (by kernel_rfl) ?_ _
      have G0 := Lib.hid (show Blk _ w.heap.size 27 #[(.slice Ak nk ck), (.slice Br mr9 dr)] from g0); have G2 := Lib.hid g2; have G6 := Lib.hid g6'; have HB := Lib.hid hb; have HO := Lib.hid (show MoOwn _ B ⟨m.keys, rowPutV m.rows ⟨sv0, sv1, sv2, sv3, sv4, sv5, sv6, sv7, sv8, sv9⟩⟩ (.slice Ak nk ck) (.slice Br mr9 dr) from ho)
      clear g0 g1 g2 g6' hb ho
      generalize hX9 : World.setCell _ _ _ = X9 at *
      clear hX9
      go_wp2_with ((with_reducible show wpList _ _ _ _ _ _); first | refine wpList_load_row rfl 27 _ rfl (w.heap.size) rfl 27 #[(.slice Ak nk ck), (.slice Br mr9 dr)] (0, 0) _ G0.out hu rfl (by kernel_rfl) ?_ | refine wpList_store_row rfl 27 _ _ rfl (w.heap.size + 2) #[(.slice Ak nk ck), (.slice Br mr9 dr)] rfl rfl 27 _ G2.out (by kernel_rfl) rfl (mo_one2 HO.out) ?_)
      refine post_gen (fun X => Blk X (w.heap.size + 2) 27 #[(.slice Ak nk ck), (.slice Br mr9 dr)] ∧ Below w.heap.size w X ∧ MoOwn X B ⟨m.keys, rowPutV m.rows ⟨sv0, sv1, sv2, sv3, sv4, sv5, sv6, sv7, sv8, sv9⟩⟩ (.slice Ak nk ck) (.slice Br mr9 dr)) ⟨setRow_heap _ _ _ _ _ _ G2.out, below_setRow' HB.out (by omega) _, HO.out.farA HAW.out (setRow_grown _ _ _) (by omega) (by omega)⟩ ?_
      rintro X ⟨h1, hb, hm⟩
      exact bodyPost_ret (v := .tuple #[.agg #[(.slice Ak nk ck), (.slice Br mr9 dr)], .int .i64 (0)]) (results_cellM rfl _ _ _ _ _ _ _ rfl h1 hu rfl (by kernel_rfl) rfl) rfl ⟨_, _, by rw [HR.out], by rw [HR.out]; exact hm, hb⟩
end Go.Proofs.YtbhhhakfjmaglaaGreat
