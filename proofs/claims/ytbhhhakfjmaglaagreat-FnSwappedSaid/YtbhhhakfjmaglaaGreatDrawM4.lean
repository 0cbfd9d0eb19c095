/-
  Chapter 13's draw of any model, told in less.
-/
import Derived.Test.YtbhhhakfjmaglaaGreatDrawM2
import Derived.Test.YtbhhhakfjmaglaaGreatZm
namespace Go.Proofs.YtbhhhakfjmaglaaGreat
open Go.RowKit M
set_option linter.unusedVariables false
set_option linter.unusedSimpArgs false
theorem info_krow4 : True := trivial
set_option maxRecDepth 100000 in
set_option maxHeartbeats 3000000 in
theorem l13Any_some (w : World) (g : Nat) (K : Code) (s : St) (c : Cur w g K s) (hK : CodeB K w.heap.size) : Calls Tryz.prog 30 #[.pointer (some ⟨g, 0, none⟩)] w (SomeMo w g K 101) := by
  have D0 := DW.start c hK
  have hu := Tryz.underlying27
  obtain ⟨ik, hk1, hk2, hk3, hk4⟩ := info_parts info_KRow
  obtain ⟨ir, hr1, hr2, hr3, hr4⟩ := info_parts info_row
  have HMO := fun W s (c : Cur W g K s) (h : w.heap.size ≤ W.heap.size) => Lib.hid (l13Model_some W g K s c (hK.mono h))
  have HAN := fun W s (c : Cur W g K s) (h : w.heap.size ≤ W.heap.size) => Lib.hid (l7Any_some W g K s c (hK.mono h))
  have hlt := c.lt
  clear c hK
  go_enter Tryz.func30, Tryz.ntmps30
  go_upto_region 1 with fail
  refine wp_gen (fun W => Blk W w.heap.size 27 #[.slice none 0 0, .slice none 0 0] ∧ DW w g K W ∧ w.heap.size + 1 ≤ W.heap.size) ⟨Blk.new w _ _ _ rfl, D0.below ((Below.refl _ _).alloc (Nat.le_refl _) _), by simp⟩ ?_
  rintro W ⟨g0, d, hz0⟩
  obtain ⟨s0, c0⟩ := d.cur
  have G0 := Lib.hid g0; have D := Lib.hid d; have C0 := Lib.hid c0
  clear g0 d c0 D0
  go_wp2_with fail
  refine (HMO _ s0 C0.out (by omega)).out.mono ?_
  rintro e W1 ⟨m, vk, vr, s1, hf, hl, rfl, hm, c1, hg⟩
  have hs1 := hg.size
  replace G0 := Lib.hid (G0.out.turnG hg (by omega)); replace D := Lib.hid (D.out.call c1 hg)
  have HN := Lib.hid (hm.base (show w.heap.size ≤ W.heap.size by omega))
  have HF := Lib.hid hf
  have hoc := mo_one2 hm
  clear hf hm c1 hg C0 HMO
  go_upto_region 2 with ((with_reducible show wpList _ _ _ _ _ _); refine wpList_store_row rfl 27 _ _ rfl (W1.heap.size) #[vk, vr] rfl rfl 27 _ (Blk.new W1 W1.heap.size 27 #[.slice none 0 0, .slice none 0 0] rfl) (by kernel_rfl) rfl hoc ?_)
  refine wp_gen (fun X => ∃ gm, gm = W1.heap.size ∧ DM w g K 100 w.heap.size gm m vk vr X) ?h0 ?_
  case h0 =>
    refine ⟨_, rfl, ?_⟩
    have hb := below_oneM W1 (.cells #[.slice none 0 0, .slice none 0 0] 27)
    have hA : DM w g K 100 w.heap.size W1.heap.size ⟨[], []⟩ (.slice none 0 0) (.slice none 0 0) (W1.alloc (.cells #[.slice none 0 0, .slice none 0 0] 27)) := ⟨G0.out.below hb, Blk.new _ _ _ _ rfl, mo_empty _ _, fit_empty, ⟨Nat.zero_le _, Nat.zero_le _⟩, D.out.below hb, ⟨Nat.le_refl _, by omega, by omega⟩⟩
    exact hA.store (HN.out.below hb) HF.out hl
  rintro W2 ⟨gm, hgm, hm⟩
  rw [← hgm]
  have HM := Lib.hid hm
  have hsz := hm.d.grown.size
  obtain ⟨s2, c2⟩ := hm.d.cur
  have C2 := Lib.hid c2
  clear hm c2 G0 D HN HF hoc hgm hs1 hz0
  go_wp2_with fail
  refine (below_some W2 g K 14 s2 C2.out (by decide) (by decide)).mono ?_
  rintro e W3 ⟨x, s3, ⟨hx0, hx1⟩, rfl, c3, hg⟩
  replace HM := Lib.hid (HM.out.call c3 hg)
  have hsz3 := Nat.le_trans hsz hg.size
  have C3 := Lib.hid c3
  clear c3 hg C2
  obtain ⟨Ak, nk, ck, rfl⟩ := own_slice HM.out.mo.keys
  obtain ⟨Ar, nr, cr, rfl⟩ := own_slice HM.out.mo.rows
  by_cases hx : x = 0
  · have d1 : (x == 0) = true := by rw [beq_iff_eq]; exact hx
    clear hx hx0 hx1
    go_upto_region 4 with fail
    have hbd : Below W3.heap.size W3 W3.drew := below_drew _ _
    replace HM := Lib.hid (HM.out.below hbd)
    replace C3 := Lib.hid (show Cur W3.drew g K s3 from C3.out.kept ⟨hbd.os, hbd.tape, hbd.output, hbd.size, fun i hi _ => hbd.block i hi⟩)
    have hsd : w.heap.size ≤ W3.drew.heap.size := Nat.le_trans hsz3 hbd.size
    clear hbd
    refine wp_region_held_drew (S := fun X : World => True) (by kernel_rfl) trivial (fun hHeld => ?_)
    clear hHeld
    generalize W3.drew = X0 at *
    refine' wpAnyH_take (i := 0) (v := .pointer (some ⟨gm, 1, none⟩)) rfl (by kernel_rfl) (by kernel_rfl) (by kernel_rfl) (fun _ _ _ h => h) (Or.inl ⟨by rfl, fun W h => by go_simp⟩) trivial ?_
    try simp only [Act.put, List.getElem_toArray, List.getElem_cons_succ, List.getElem_cons_zero, List.setIfInBounds_toArray, List.set_cons_zero, List.set_cons_succ]
    refine' wpAnyH_take (i := 2) (v := .pointer (some ⟨g, 0, none⟩)) rfl (by kernel_rfl) (by kernel_rfl) (by kernel_rfl) (fun _ _ _ h => h) (Or.inl ⟨by rfl, fun W h => by go_simp⟩) trivial ?_
    try simp only [Act.put, List.getElem_toArray, List.getElem_cons_succ, List.getElem_cons_zero, List.setIfInBounds_toArray, List.set_cons_zero, List.set_cons_succ]
    refine wpAnyH_ready (rs := [1, 3]) (by kernel_rfl) (by simp) ?_
    refine AllReadyH.cons rfl (fun K hK => ?_) (AllReadyH.cons rfl (fun K hK => ?_) AllReadyH.nil)
    · skip
      have q9 := HM.out.b.get 1
      simp at q9
      go_simp
      refine hK.out _ _ trivial (fun hHeld => ?_)
      clear hK K hHeld q9
      try simp only [Act.put, List.getElem_toArray, List.getElem_cons_succ, List.getElem_cons_zero, List.setIfInBounds_toArray, List.set_cons_zero, List.set_cons_succ]
      refine wpAnyH_ready (rs := [3]) (by kernel_rfl) (by simp) ?_
      refine AllReadyH.cons rfl (fun K hK => ?_) AllReadyH.nil
      go_simp
      refine (HAN _ s3 C3.out hsd).out.mono ?_
      rintro e X1 ⟨r, s4, hr, rfl, c4, hg⟩
      replace HM := Lib.hid (HM.out.call c4 hg)
      have HR := Lib.hid hr
      have hs4 := Nat.le_trans hsd hg.size
      clear hr c4 hg C3
      refine hK.out _ _ trivial (fun hHeld => ?_)
      clear hK K hHeld
      try simp only [Act.put, List.getElem_toArray, List.getElem_cons_succ, List.getElem_cons_zero, List.setIfInBounds_toArray, List.set_cons_zero, List.set_cons_succ]
      refine wpAnyH_ready (rs := [4]) (by kernel_rfl) (by simp) ?_
      refine AllReadyH.cons rfl (fun K hK => ?_) AllReadyH.nil
      unfold R.v
      go_simp
      have hb := below_oneM X1 (.cells #[.string r.key, .int .i64 r.kind, .int .i64 r.sum, .bool r.set, .int .i64 r.last, .int .i64 r.n, .int .i64 r.mn, .int .i64 r.mx, .int .i64 r.total, .int .i64 r.dropped] 42)
      have hn := Blk.new X1 X1.heap.size 42 #[.string r.key, .int .i64 r.kind, .int .i64 r.sum, .bool r.set, .int .i64 r.last, .int .i64 r.n, .int .i64 r.mn, .int .i64 r.mx, .int .i64 r.total, .int .i64 r.dropped] rfl
      replace HM := Lib.hid (HM.out.below hb)
      have hs5 := Nat.le_trans hs4 hb.size
      have HX := Lib.hid hn
      clear hn
      refine hK.out _ _ trivial (fun hHeld => ?_)
      clear hK K hHeld hb
      try simp only [Act.put, List.getElem_toArray, List.getElem_cons_succ, List.getElem_cons_zero, List.setIfInBounds_toArray, List.set_cons_zero, List.set_cons_succ]
      refine wpAnyH_ready (rs := [5]) (by kernel_rfl) (by simp) ?_
      refine AllReadyH.cons rfl (fun K hK => ?_) AllReadyH.nil
      refine wp_append_lit _ _ 25 rfl w.heap.size 42 ir zeroR.v 10 88 Tryz.underlying25 hr1 hr2 hr3 hr4 rfl (by decide) (.slice Ar nr cr) m.rows.length (cellsR m.rows) rfl HM.out.mo.rows X1.heap.size (rowCells r).toList rfl rfl ?a1 ?a2 ?a3 ?a4 ?a5 ?a6
      case a1 => intro j u hj; exact (HX.out.get j).trans (by rw [Array.getElem?_toList] at hj; exact hj)
      case a2 => intro u hu; exact cellsR_one [r] u (by simpa [cellsR] using hu)
      case a3 => have := HM.out.l; unfold maxLen; omega
      case a4 => have := HM.out.l; omega
      case a5 => exact hs5
      case a6 =>
        intro v4 X4 hown hgr hbk
        obtain ⟨Av, nv, cv, rfl⟩ := own_slice hown
        have hbg : ∀ k, (Value.slice Ar nr cr).ownBlock = some k → w.heap.size ≤ k := fun k hk => HM.out.mo.rows.base_le k hk
        have HB4 := Lib.hid (show Blk X4 gm 27 #[.slice Ak nk ck, .slice Ar nr cr] from HM.out.b.grown hgr (by rcases own_ne HM.out.mo.rows HM.out.b (by decide) with e | e; rw [e]; simp; exact e))
        have HZ4 := Lib.hid (show Blk X4 w.heap.size 27 #[.slice none 0 0, .slice none 0 0] from HM.out.z.grown hgr (by rcases own_ne HM.out.mo.rows HM.out.z (by decide) with e | e; rw [e]; simp; exact e))
        have HK4 := Lib.hid (show OwnF 40 2 krCells X4 w.heap.size (.slice Ak nk ck) m.keys from OwnF.kept HM.out.mo.keys hgr HM.out.mo.ap)
        have HR4 := Lib.hid (show OwnR X4 w.heap.size (.slice Av nv cv) (m.rows ++ [r]) from by unfold OwnR; rw [List.length_append, cellsR_append]; simpa [cellsR] using hown)
        have HAP := Lib.hid (show Ap (.slice Ak nk ck) (.slice Av nv cv) from by
          rcases hbk with e | e
          · rcases (HM.out.mo.ap) with k | k
            · exact .inl k
            · exact .inr (fun q => k (q.trans e))
          · exact .inr (fun q => Nat.lt_irrefl _ (HM.out.mo.keys.lt _ (q.trans e))))
        have HD4 := Lib.hid (HM.out.d.turn hgr hbg)
        have HA := Lib.hid (show DM w g _ 101 w.heap.size gm ⟨m.keys, m.rows ++ [r]⟩ (.slice Ak nk ck) (.slice Av nv cv) (X4.setCell ⟨gm, 1, none⟩ (.slice Av nv cv)) from ⟨HZ4.out.far _ _ _ HM.out.o.2.2, HB4.out.store 1 _, ⟨OwnF.kept HK4.out (row_store HB4.out 1 _) (own_ne HK4.out HB4.out (by decide)), HR4.out.kept (row_store HB4.out 1 _) (own_ne HR4.out HB4.out (by decide)), HAP.out⟩, ⟨HM.out.f.keys, fitR_mem (fun y hy => by rcases List.mem_append.1 hy with q | q; exact FitR.filter HM.out.f.rows y q; rw [List.mem_singleton] at q; rw [q]; exact HR.out.fit)⟩, ⟨Nat.le_trans HM.out.l.1 (by decide), by have := HM.out.l.2; simp; omega⟩, HD4.out.turn (row_store HB4.out 1 _) (fun k e => by have e := Option.some.inj e; have := HM.out.o; omega), HM.out.o⟩)
        have q1 := HB4.out.get 1
        have q1f := HB4.out.frz 1
        simp at q1
        refine hK.out _ _ trivial (fun hHeld => ?_)
        clear hK K hHeld hown hgr hbk hbg HX HK4 HR4 HAP HD4 HZ4 HR
        try simp only [Act.put, List.getElem_toArray, List.getElem_cons_succ, List.getElem_cons_zero, List.setIfInBounds_toArray, List.set_cons_zero, List.set_cons_succ]
        refine' wpAnyH_take (i := 6) (v := .pointer (some ⟨gm, 1, none⟩)) rfl (by kernel_rfl) (by kernel_rfl) (by kernel_rfl) (fun _ _ _ h => h) (Or.inl ⟨by rfl, fun W h => by go_simp⟩) trivial ?_
        try simp only [Act.put, List.getElem_toArray, List.getElem_cons_succ, List.getElem_cons_zero, List.setIfInBounds_toArray, List.set_cons_zero, List.set_cons_succ]
        refine wpAnyH_ready (rs := [7]) (by kernel_rfl) (by simp) ?_
        refine AllReadyH.cons rfl (fun K hK => ?_) AllReadyH.nil
        go_simp
        clear HB4 HM
        refine hK.out _ _ trivial (fun hHeld => ?_)
        clear hK K hHeld q1 q1f
        try simp only [Act.put, List.getElem_toArray, List.getElem_cons_succ, List.getElem_cons_zero, List.setIfInBounds_toArray, List.set_cons_zero, List.set_cons_succ]
        refine wpAnyH_done (by kernel_rfl) ?_ _
        have HM := HA
        clear HA
        generalize X4.setCell ⟨gm, 1, none⟩ (.slice Av nv cv) = X9 at *
        have hoc := mo_one2 HM.out.mo
        go_wp2_with ((with_reducible show wpList _ _ _ _ _ _); first | refine wpList_load_row rfl 27 _ rfl (gm) rfl 27 #[.slice Ak nk ck, .slice Av nv cv] (0, 0) _ HM.out.b hu rfl (by kernel_rfl) ?_ | refine wpList_store_row rfl 27 _ _ rfl (w.heap.size) #[.slice Ak nk ck, .slice Av nv cv] rfl rfl 27 _ HM.out.z (by kernel_rfl) rfl hoc ?_)
        refine post_gen (fun X => Blk X w.heap.size 27 #[.slice Ak nk ck, .slice Av nv cv] ∧ DW w g K X ∧ MoOwn X w.heap.size ⟨m.keys, m.rows ++ [r]⟩ (.slice Ak nk ck) (.slice Av nv cv)) ⟨setRow_heap _ _ _ _ _ _ HM.out.z, HM.out.d.turn (setRow_grown _ w.heap.size _) (fun k e => by have e := Option.some.inj e; omega), HM.out.mo.farT HM.out.z (setRow_grown _ _ _)⟩ ?_
        rintro Z ⟨h1, hd, hm⟩
        obtain ⟨s9, c9⟩ := hd.cur
        exact bodyPost_ret (v := .agg #[.slice Ak nk ck, .slice Av nv cv]) (results_cell_row rfl _ _ _ _ _ (0, 0) _ rfl h1 hu rfl (by kernel_rfl)) rfl ⟨_, _, _, s9, HM.out.f, HM.out.l, rfl, hm, c9, hd.grown⟩
    · skip
      go_simp
      refine (HAN _ s3 C3.out hsd).out.mono ?_
      rintro e X1 ⟨r, s4, hr, rfl, c4, hg⟩
      replace HM := Lib.hid (HM.out.call c4 hg)
      have HR := Lib.hid hr
      have hs4 := Nat.le_trans hsd hg.size
      clear hr c4 hg C3
      refine hK.out _ _ trivial (fun hHeld => ?_)
      clear hK K hHeld
      try simp only [Act.put, List.getElem_toArray, List.getElem_cons_succ, List.getElem_cons_zero, List.setIfInBounds_toArray, List.set_cons_zero, List.set_cons_succ]
      refine wpAnyH_ready (rs := [1, 4]) (by kernel_rfl) (by simp) ?_
      refine AllReadyH.cons rfl (fun K hK => ?_) (AllReadyH.cons rfl (fun K hK => ?_) AllReadyH.nil)
      · skip
        have q9 := HM.out.b.get 1
        simp at q9
        go_simp
        refine hK.out _ _ trivial (fun hHeld => ?_)
        clear hK K hHeld q9
        try simp only [Act.put, List.getElem_toArray, List.getElem_cons_succ, List.getElem_cons_zero, List.setIfInBounds_toArray, List.set_cons_zero, List.set_cons_succ]
        refine wpAnyH_ready (rs := [4]) (by kernel_rfl) (by simp) ?_
        refine AllReadyH.cons rfl (fun K hK => ?_) AllReadyH.nil
        unfold R.v
        go_simp
        have hb := below_oneM X1 (.cells #[.string r.key, .int .i64 r.kind, .int .i64 r.sum, .bool r.set, .int .i64 r.last, .int .i64 r.n, .int .i64 r.mn, .int .i64 r.mx, .int .i64 r.total, .int .i64 r.dropped] 42)
        have hn := Blk.new X1 X1.heap.size 42 #[.string r.key, .int .i64 r.kind, .int .i64 r.sum, .bool r.set, .int .i64 r.last, .int .i64 r.n, .int .i64 r.mn, .int .i64 r.mx, .int .i64 r.total, .int .i64 r.dropped] rfl
        replace HM := Lib.hid (HM.out.below hb)
        have hs5 := Nat.le_trans hs4 hb.size
        have HX := Lib.hid hn
        clear hn
        refine hK.out _ _ trivial (fun hHeld => ?_)
        clear hK K hHeld hb
        try simp only [Act.put, List.getElem_toArray, List.getElem_cons_succ, List.getElem_cons_zero, List.setIfInBounds_toArray, List.set_cons_zero, List.set_cons_succ]
        refine wpAnyH_ready (rs := [5]) (by kernel_rfl) (by simp) ?_
        refine AllReadyH.cons rfl (fun K hK => ?_) AllReadyH.nil
        refine wp_append_lit _ _ 25 rfl w.heap.size 42 ir zeroR.v 10 88 Tryz.underlying25 hr1 hr2 hr3 hr4 rfl (by decide) (.slice Ar nr cr) m.rows.length (cellsR m.rows) rfl HM.out.mo.rows X1.heap.size (rowCells r).toList rfl rfl ?a1 ?a2 ?a3 ?a4 ?a5 ?a6
        case a1 => intro j u hj; exact (HX.out.get j).trans (by rw [Array.getElem?_toList] at hj; exact hj)
        case a2 => intro u hu; exact cellsR_one [r] u (by simpa [cellsR] using hu)
        case a3 => have := HM.out.l; unfold maxLen; omega
        case a4 => have := HM.out.l; omega
        case a5 => exact hs5
        case a6 =>
          intro v4 X4 hown hgr hbk
          obtain ⟨Av, nv, cv, rfl⟩ := own_slice hown
          have hbg : ∀ k, (Value.slice Ar nr cr).ownBlock = some k → w.heap.size ≤ k := fun k hk => HM.out.mo.rows.base_le k hk
          have HB4 := Lib.hid (show Blk X4 gm 27 #[.slice Ak nk ck, .slice Ar nr cr] from HM.out.b.grown hgr (by rcases own_ne HM.out.mo.rows HM.out.b (by decide) with e | e; rw [e]; simp; exact e))
          have HZ4 := Lib.hid (show Blk X4 w.heap.size 27 #[.slice none 0 0, .slice none 0 0] from HM.out.z.grown hgr (by rcases own_ne HM.out.mo.rows HM.out.z (by decide) with e | e; rw [e]; simp; exact e))
          have HK4 := Lib.hid (show OwnF 40 2 krCells X4 w.heap.size (.slice Ak nk ck) m.keys from OwnF.kept HM.out.mo.keys hgr HM.out.mo.ap)
          have HR4 := Lib.hid (show OwnR X4 w.heap.size (.slice Av nv cv) (m.rows ++ [r]) from by unfold OwnR; rw [List.length_append, cellsR_append]; simpa [cellsR] using hown)
          have HAP := Lib.hid (show Ap (.slice Ak nk ck) (.slice Av nv cv) from by
            rcases hbk with e | e
            · rcases (HM.out.mo.ap) with k | k
              · exact .inl k
              · exact .inr (fun q => k (q.trans e))
            · exact .inr (fun q => Nat.lt_irrefl _ (HM.out.mo.keys.lt _ (q.trans e))))
          have HD4 := Lib.hid (HM.out.d.turn hgr hbg)
          have HA := Lib.hid (show DM w g _ 101 w.heap.size gm ⟨m.keys, m.rows ++ [r]⟩ (.slice Ak nk ck) (.slice Av nv cv) (X4.setCell ⟨gm, 1, none⟩ (.slice Av nv cv)) from ⟨HZ4.out.far _ _ _ HM.out.o.2.2, HB4.out.store 1 _, ⟨OwnF.kept HK4.out (row_store HB4.out 1 _) (own_ne HK4.out HB4.out (by decide)), HR4.out.kept (row_store HB4.out 1 _) (own_ne HR4.out HB4.out (by decide)), HAP.out⟩, ⟨HM.out.f.keys, fitR_mem (fun y hy => by rcases List.mem_append.1 hy with q | q; exact FitR.filter HM.out.f.rows y q; rw [List.mem_singleton] at q; rw [q]; exact HR.out.fit)⟩, ⟨Nat.le_trans HM.out.l.1 (by decide), by have := HM.out.l.2; simp; omega⟩, HD4.out.turn (row_store HB4.out 1 _) (fun k e => by have e := Option.some.inj e; have := HM.out.o; omega), HM.out.o⟩)
          have q1 := HB4.out.get 1
          have q1f := HB4.out.frz 1
          simp at q1
          refine hK.out _ _ trivial (fun hHeld => ?_)
          clear hK K hHeld hown hgr hbk hbg HX HK4 HR4 HAP HD4 HZ4 HR
          try simp only [Act.put, List.getElem_toArray, List.getElem_cons_succ, List.getElem_cons_zero, List.setIfInBounds_toArray, List.set_cons_zero, List.set_cons_succ]
          refine' wpAnyH_take (i := 6) (v := .pointer (some ⟨gm, 1, none⟩)) rfl (by kernel_rfl) (by kernel_rfl) (by kernel_rfl) (fun _ _ _ h => h) (Or.inl ⟨by rfl, fun W h => by go_simp⟩) trivial ?_
          try simp only [Act.put, List.getElem_toArray, List.getElem_cons_succ, List.getElem_cons_zero, List.setIfInBounds_toArray, List.set_cons_zero, List.set_cons_succ]
          refine wpAnyH_ready (rs := [7]) (by kernel_rfl) (by simp) ?_
          refine AllReadyH.cons rfl (fun K hK => ?_) AllReadyH.nil
          go_simp
          clear HB4 HM
          refine hK.out _ _ trivial (fun hHeld => ?_)
          clear hK K hHeld q1 q1f
          try simp only [Act.put, List.getElem_toArray, List.getElem_cons_succ, List.getElem_cons_zero, List.setIfInBounds_toArray, List.set_cons_zero, List.set_cons_succ]
          refine wpAnyH_done (by kernel_rfl) ?_ _
          have HM := HA
          clear HA
          generalize X4.setCell ⟨gm, 1, none⟩ (.slice Av nv cv) = X9 at *
          have hoc := mo_one2 HM.out.mo
          go_wp2_with ((with_reducible show wpList _ _ _ _ _ _); first | refine wpList_load_row rfl 27 _ rfl (gm) rfl 27 #[.slice Ak nk ck, .slice Av nv cv] (0, 0) _ HM.out.b hu rfl (by kernel_rfl) ?_ | refine wpList_store_row rfl 27 _ _ rfl (w.heap.size) #[.slice Ak nk ck, .slice Av nv cv] rfl rfl 27 _ HM.out.z (by kernel_rfl) rfl hoc ?_)
          refine post_gen (fun X => Blk X w.heap.size 27 #[.slice Ak nk ck, .slice Av nv cv] ∧ DW w g K X ∧ MoOwn X w.heap.size ⟨m.keys, m.rows ++ [r]⟩ (.slice Ak nk ck) (.slice Av nv cv)) ⟨setRow_heap _ _ _ _ _ _ HM.out.z, HM.out.d.turn (setRow_grown _ w.heap.size _) (fun k e => by have e := Option.some.inj e; omega), HM.out.mo.farT HM.out.z (setRow_grown _ _ _)⟩ ?_
          rintro Z ⟨h1, hd, hm⟩
          obtain ⟨s9, c9⟩ := hd.cur
          exact bodyPost_ret (v := .agg #[.slice Ak nk ck, .slice Av nv cv]) (results_cell_row rfl _ _ _ _ _ (0, 0) _ rfl h1 hu rfl (by kernel_rfl)) rfl ⟨_, _, _, s9, HM.out.f, HM.out.l, rfl, hm, c9, hd.grown⟩
      · skip
        unfold R.v
        go_simp
        have hb := below_oneM X1 (.cells #[.string r.key, .int .i64 r.kind, .int .i64 r.sum, .bool r.set, .int .i64 r.last, .int .i64 r.n, .int .i64 r.mn, .int .i64 r.mx, .int .i64 r.total, .int .i64 r.dropped] 42)
        have hn := Blk.new X1 X1.heap.size 42 #[.string r.key, .int .i64 r.kind, .int .i64 r.sum, .bool r.set, .int .i64 r.last, .int .i64 r.n, .int .i64 r.mn, .int .i64 r.mx, .int .i64 r.total, .int .i64 r.dropped] rfl
        replace HM := Lib.hid (HM.out.below hb)
        have hs5 := Nat.le_trans hs4 hb.size
        have HX := Lib.hid hn
        clear hn
        refine hK.out _ _ trivial (fun hHeld => ?_)
        clear hK K hHeld hb
        try simp only [Act.put, List.getElem_toArray, List.getElem_cons_succ, List.getElem_cons_zero, List.setIfInBounds_toArray, List.set_cons_zero, List.set_cons_succ]
        refine wpAnyH_ready (rs := [1]) (by kernel_rfl) (by simp) ?_
        refine AllReadyH.cons rfl (fun K hK => ?_) AllReadyH.nil
        have q9 := HM.out.b.get 1
        simp at q9
        go_simp
        refine hK.out _ _ trivial (fun hHeld => ?_)
        clear hK K hHeld q9
        try simp only [Act.put, List.getElem_toArray, List.getElem_cons_succ, List.getElem_cons_zero, List.setIfInBounds_toArray, List.set_cons_zero, List.set_cons_succ]
        refine wpAnyH_ready (rs := [5]) (by kernel_rfl) (by simp) ?_
        refine AllReadyH.cons rfl (fun K hK => ?_) AllReadyH.nil
        refine wp_append_lit _ _ 25 rfl w.heap.size 42 ir zeroR.v 10 88 Tryz.underlying25 hr1 hr2 hr3 hr4 rfl (by decide) (.slice Ar nr cr) m.rows.length (cellsR m.rows) rfl HM.out.mo.rows X1.heap.size (rowCells r).toList rfl rfl ?a1 ?a2 ?a3 ?a4 ?a5 ?a6
        case a1 => intro j u hj; exact (HX.out.get j).trans (by rw [Array.getElem?_toList] at hj; exact hj)
        case a2 => intro u hu; exact cellsR_one [r] u (by simpa [cellsR] using hu)
        case a3 => have := HM.out.l; unfold maxLen; omega
        case a4 => have := HM.out.l; omega
        case a5 => exact hs5
        case a6 =>
          intro v4 X4 hown hgr hbk
          obtain ⟨Av, nv, cv, rfl⟩ := own_slice hown
          have hbg : ∀ k, (Value.slice Ar nr cr).ownBlock = some k → w.heap.size ≤ k := fun k hk => HM.out.mo.rows.base_le k hk
          have HB4 := Lib.hid (show Blk X4 gm 27 #[.slice Ak nk ck, .slice Ar nr cr] from HM.out.b.grown hgr (by rcases own_ne HM.out.mo.rows HM.out.b (by decide) with e | e; rw [e]; simp; exact e))
          have HZ4 := Lib.hid (show Blk X4 w.heap.size 27 #[.slice none 0 0, .slice none 0 0] from HM.out.z.grown hgr (by rcases own_ne HM.out.mo.rows HM.out.z (by decide) with e | e; rw [e]; simp; exact e))
          have HK4 := Lib.hid (show OwnF 40 2 krCells X4 w.heap.size (.slice Ak nk ck) m.keys from OwnF.kept HM.out.mo.keys hgr HM.out.mo.ap)
          have HR4 := Lib.hid (show OwnR X4 w.heap.size (.slice Av nv cv) (m.rows ++ [r]) from by unfold OwnR; rw [List.length_append, cellsR_append]; simpa [cellsR] using hown)
          have HAP := Lib.hid (show Ap (.slice Ak nk ck) (.slice Av nv cv) from by
            rcases hbk with e | e
            · rcases (HM.out.mo.ap) with k | k
              · exact .inl k
              · exact .inr (fun q => k (q.trans e))
            · exact .inr (fun q => Nat.lt_irrefl _ (HM.out.mo.keys.lt _ (q.trans e))))
          have HD4 := Lib.hid (HM.out.d.turn hgr hbg)
          have HA := Lib.hid (show DM w g _ 101 w.heap.size gm ⟨m.keys, m.rows ++ [r]⟩ (.slice Ak nk ck) (.slice Av nv cv) (X4.setCell ⟨gm, 1, none⟩ (.slice Av nv cv)) from ⟨HZ4.out.far _ _ _ HM.out.o.2.2, HB4.out.store 1 _, ⟨OwnF.kept HK4.out (row_store HB4.out 1 _) (own_ne HK4.out HB4.out (by decide)), HR4.out.kept (row_store HB4.out 1 _) (own_ne HR4.out HB4.out (by decide)), HAP.out⟩, ⟨HM.out.f.keys, fitR_mem (fun y hy => by rcases List.mem_append.1 hy with q | q; exact FitR.filter HM.out.f.rows y q; rw [List.mem_singleton] at q; rw [q]; exact HR.out.fit)⟩, ⟨Nat.le_trans HM.out.l.1 (by decide), by have := HM.out.l.2; simp; omega⟩, HD4.out.turn (row_store HB4.out 1 _) (fun k e => by have e := Option.some.inj e; have := HM.out.o; omega), HM.out.o⟩)
          have q1 := HB4.out.get 1
          have q1f := HB4.out.frz 1
          simp at q1
          refine hK.out _ _ trivial (fun hHeld => ?_)
          clear hK K hHeld hown hgr hbk hbg HX HK4 HR4 HAP HD4 HZ4 HR
          try simp only [Act.put, List.getElem_toArray, List.getElem_cons_succ, List.getElem_cons_zero, List.setIfInBounds_toArray, List.set_cons_zero, List.set_cons_succ]
          refine' wpAnyH_take (i := 6) (v := .pointer (some ⟨gm, 1, none⟩)) rfl (by kernel_rfl) (by kernel_rfl) (by kernel_rfl) (fun _ _ _ h => h) (Or.inl ⟨by rfl, fun W h => by go_simp⟩) trivial ?_
          try simp only [Act.put, List.getElem_toArray, List.getElem_cons_succ, List.getElem_cons_zero, List.setIfInBounds_toArray, List.set_cons_zero, List.set_cons_succ]
          refine wpAnyH_ready (rs := [7]) (by kernel_rfl) (by simp) ?_
          refine AllReadyH.cons rfl (fun K hK => ?_) AllReadyH.nil
          go_simp
          clear HB4 HM
          refine hK.out _ _ trivial (fun hHeld => ?_)
          clear hK K hHeld q1 q1f
          try simp only [Act.put, List.getElem_toArray, List.getElem_cons_succ, List.getElem_cons_zero, List.setIfInBounds_toArray, List.set_cons_zero, List.set_cons_succ]
          refine wpAnyH_done (by kernel_rfl) ?_ _
          have HM := HA
          clear HA
          generalize X4.setCell ⟨gm, 1, none⟩ (.slice Av nv cv) = X9 at *
          have hoc := mo_one2 HM.out.mo
          go_wp2_with ((with_reducible show wpList _ _ _ _ _ _); first | refine wpList_load_row rfl 27 _ rfl (gm) rfl 27 #[.slice Ak nk ck, .slice Av nv cv] (0, 0) _ HM.out.b hu rfl (by kernel_rfl) ?_ | refine wpList_store_row rfl 27 _ _ rfl (w.heap.size) #[.slice Ak nk ck, .slice Av nv cv] rfl rfl 27 _ HM.out.z (by kernel_rfl) rfl hoc ?_)
          refine post_gen (fun X => Blk X w.heap.size 27 #[.slice Ak nk ck, .slice Av nv cv] ∧ DW w g K X ∧ MoOwn X w.heap.size ⟨m.keys, m.rows ++ [r]⟩ (.slice Ak nk ck) (.slice Av nv cv)) ⟨setRow_heap _ _ _ _ _ _ HM.out.z, HM.out.d.turn (setRow_grown _ w.heap.size _) (fun k e => by have e := Option.some.inj e; omega), HM.out.mo.farT HM.out.z (setRow_grown _ _ _)⟩ ?_
          rintro Z ⟨h1, hd, hm⟩
          obtain ⟨s9, c9⟩ := hd.cur
          exact bodyPost_ret (v := .agg #[.slice Ak nk ck, .slice Av nv cv]) (results_cell_row rfl _ _ _ _ _ (0, 0) _ rfl h1 hu rfl (by kernel_rfl)) rfl ⟨_, _, _, s9, HM.out.f, HM.out.l, rfl, hm, c9, hd.grown⟩
  have d1 : (x == 0) = false := by rw [beq_eq_false_iff_ne]; exact hx
  by_cases hy : x = 1
  · have d2 : (x == 1) = true := by rw [beq_iff_eq]; exact hy
    clear hx hy hx0 hx1
    go_upto_region 6 with fail
    have hbd : Below W3.heap.size W3 W3.drew := below_drew _ _
    replace HM := Lib.hid (HM.out.below hbd)
    replace C3 := Lib.hid (show Cur W3.drew g K s3 from C3.out.kept ⟨hbd.os, hbd.tape, hbd.output, hbd.size, fun i hi _ => hbd.block i hi⟩)
    have hsd : w.heap.size ≤ W3.drew.heap.size := Nat.le_trans hsz3 hbd.size
    clear hbd
    refine wp_region_held_drew (S := fun X : World => True) (by kernel_rfl) trivial (fun hHeld => ?_)
    clear hHeld
    generalize W3.drew = X0 at *
    refine' wpAnyH_take (i := 0) (v := .pointer (some ⟨gm, 0, none⟩)) rfl (by kernel_rfl) (by kernel_rfl) (by kernel_rfl) (fun _ _ _ h => h) (Or.inl ⟨by rfl, fun W h => by go_simp⟩) trivial ?_
    try simp only [Act.put, List.getElem_toArray, List.getElem_cons_succ, List.getElem_cons_zero, List.setIfInBounds_toArray, List.set_cons_zero, List.set_cons_succ]
    refine' wpAnyH_take (i := 2) (v := .pointer (some ⟨g, 0, none⟩)) rfl (by kernel_rfl) (by kernel_rfl) (by kernel_rfl) (fun _ _ _ h => h) (Or.inl ⟨by rfl, fun W h => by go_simp⟩) trivial ?_
    try simp only [Act.put, List.getElem_toArray, List.getElem_cons_succ, List.getElem_cons_zero, List.setIfInBounds_toArray, List.set_cons_zero, List.set_cons_succ]
    refine' wpAnyH_take (i := 4) (v := .pointer (some ⟨g, 0, none⟩)) rfl (by kernel_rfl) (by kernel_rfl) (by kernel_rfl) (fun _ _ _ h => h) (Or.inl ⟨by rfl, fun W h => by go_simp⟩) trivial ?_
    try simp only [Act.put, List.getElem_toArray, List.getElem_cons_succ, List.getElem_cons_zero, List.setIfInBounds_toArray, List.set_cons_zero, List.set_cons_succ]
    refine wpAnyH_ready (rs := [1, 3]) (by kernel_rfl) (by simp) ?_
    refine AllReadyH.cons rfl (fun K hK => ?_) (AllReadyH.cons rfl (fun K hK => ?_) AllReadyH.nil)
    · skip
      have q9 := HM.out.b.get 0
      simp at q9
      go_simp
      refine hK.out _ _ trivial (fun hHeld => ?_)
      clear hK K hHeld q9
      try simp only [Act.put, List.getElem_toArray, List.getElem_cons_succ, List.getElem_cons_zero, List.setIfInBounds_toArray, List.set_cons_zero, List.set_cons_succ]
      refine wpAnyH_ready (rs := [3]) (by kernel_rfl) (by simp) ?_
      refine AllReadyH.cons rfl (fun K hK => ?_) AllReadyH.nil
      go_simp
      refine (l4Any_some _ g _ s3 C3.out).mono ?_
      rintro e X01 ⟨x4, s4, hr, rfl, c4, hg⟩
      replace HM := Lib.hid (HM.out.call c4 hg)
      have HX4 := Lib.hid hr
      have hs41 := Nat.le_trans hsd hg.size
      have C4 := Lib.hid c4
      clear hr c4 hg C3
      refine hK.out _ _ trivial (fun hHeld => ?_)
      clear hK K hHeld
      try simp only [Act.put, List.getElem_toArray, List.getElem_cons_succ, List.getElem_cons_zero, List.setIfInBounds_toArray, List.set_cons_zero, List.set_cons_succ]
      refine wpAnyH_ready (rs := [5]) (by kernel_rfl) (by simp) ?_
      refine AllReadyH.cons rfl (fun K hK => ?_) AllReadyH.nil
      go_simp
      refine (l5Kind_some _ g _ s4 C4.out).mono ?_
      rintro e X1 ⟨x5, s5, hr, rfl, c5, hg⟩
      replace HM := Lib.hid (HM.out.call c5 hg)
      have HX5 := Lib.hid hr
      have hs4 := Nat.le_trans hs41 hg.size
      clear hr c5 hg C4
      refine hK.out _ _ trivial (fun hHeld => ?_)
      clear hK K hHeld
      try simp only [Act.put, List.getElem_toArray, List.getElem_cons_succ, List.getElem_cons_zero, List.setIfInBounds_toArray, List.set_cons_zero, List.set_cons_succ]
      refine' wpAnyH_take (i := 6) (v := .agg #[.string x4, .int .i64 x5]) rfl (by kernel_rfl) (by kernel_rfl) (by kernel_rfl) (fun _ _ _ h => h) (Or.inl ⟨by rfl, fun W h => by go_simp⟩) trivial ?_
      try simp only [Act.put, List.getElem_toArray, List.getElem_cons_succ, List.getElem_cons_zero, List.setIfInBounds_toArray, List.set_cons_zero, List.set_cons_succ]
      refine wpAnyH_ready (rs := [7]) (by kernel_rfl) (by simp) ?_
      refine AllReadyH.cons rfl (fun K hK => ?_) AllReadyH.nil
      go_simp
      have hb := below_oneM X1 (.cells #[.string x4, .int .i64 x5] 40)
      have hn := Blk.new X1 X1.heap.size 40 #[.string x4, .int .i64 x5] rfl
      replace HM := Lib.hid (HM.out.below hb)
      have hs5 := Nat.le_trans hs4 hb.size
      have HX := Lib.hid hn
      clear hn
      refine hK.out _ _ trivial (fun hHeld => ?_)
      clear hK K hHeld hb
      try simp only [Act.put, List.getElem_toArray, List.getElem_cons_succ, List.getElem_cons_zero, List.setIfInBounds_toArray, List.set_cons_zero, List.set_cons_succ]
      refine wpAnyH_ready (rs := [8]) (by kernel_rfl) (by simp) ?_
      refine AllReadyH.cons rfl (fun K hK => ?_) AllReadyH.nil
      refine wp_append_lit _ _ 24 rfl w.heap.size 40 ik zeroKR.v 2 24 Tryz.underlying24 hk1 hk2 hk3 hk4 rfl (by decide) (.slice Ak nk ck) m.keys.length (cellsF krCells m.keys) rfl HM.out.mo.keys X1.heap.size [.string x4, .int .i64 x5] rfl rfl ?a1 ?a2 ?a3 ?a4 ?a5 ?a6
      case a1 => intro j u hj; exact (HX.out.get j).trans (by simpa using hj)
      case a2 => intro u hu; exact kr_one [⟨x4, x5⟩] u (by simpa [cellsF, krCells] using hu)
      case a3 => have := HM.out.l; unfold maxLen; omega
      case a4 => have := HM.out.l; omega
      case a5 => exact hs5
      case a6 =>
        intro v4 X4 hown hgr hbk
        obtain ⟨Av, nv, cv, rfl⟩ := own_slice hown
        have hbg : ∀ k, (Value.slice Ak nk ck).ownBlock = some k → w.heap.size ≤ k := fun k hk => HM.out.mo.keys.base_le k hk
        have HB4 := Lib.hid (show Blk X4 gm 27 #[.slice Ak nk ck, .slice Ar nr cr] from HM.out.b.grown hgr (by rcases own_ne HM.out.mo.keys HM.out.b (by decide) with e | e; rw [e]; simp; exact e))
        have HZ4 := Lib.hid (show Blk X4 w.heap.size 27 #[.slice none 0 0, .slice none 0 0] from HM.out.z.grown hgr (by rcases own_ne HM.out.mo.keys HM.out.z (by decide) with e | e; rw [e]; simp; exact e))
        have HK4 := Lib.hid (show OwnF 40 2 krCells X4 w.heap.size (.slice Av nv cv) (m.keys ++ [(⟨x4, x5⟩ : KR)]) from by unfold OwnF; rw [List.length_append, cellsF_append]; simpa [cellsF, krCells] using hown)
        have HR4 := Lib.hid (show OwnR X4 w.heap.size (.slice Ar nr cr) m.rows from HM.out.mo.rows.kept hgr (Ap.symm HM.out.mo.ap))
        have HAP := Lib.hid (show Ap (.slice Ar nr cr) (.slice Av nv cv) from by
          rcases hbk with e | e
          · rcases (Ap.symm HM.out.mo.ap) with k | k
            · exact .inl k
            · exact .inr (fun q => k (q.trans e))
          · exact .inr (fun q => Nat.lt_irrefl _ (HM.out.mo.rows.lt _ (q.trans e))))
        have HD4 := Lib.hid (HM.out.d.turn hgr hbg)
        have HA := Lib.hid (show DM w g _ 101 w.heap.size gm ⟨m.keys ++ [(⟨x4, x5⟩ : KR)], m.rows⟩ (.slice Av nv cv) (.slice Ar nr cr) (X4.setCell ⟨gm, 0, none⟩ (.slice Av nv cv)) from ⟨HZ4.out.far _ _ _ HM.out.o.2.2, HB4.out.store 0 _, ⟨OwnF.kept HK4.out (row_store HB4.out 0 _) (own_ne HK4.out HB4.out (by decide)), HR4.out.kept (row_store HB4.out 0 _) (own_ne HR4.out HB4.out (by decide)), Ap.symm HAP.out⟩, ⟨fitK_mem (fun y hy => by rcases List.mem_append.1 hy with q | q; exact fitK_of HM.out.f.keys y q; rw [List.mem_singleton] at q; rw [q]; exact ⟨Nat.le_trans HX4.out (by unfold maxLen; decide), show inW x5 from by have := HX5.out; unfold inW; omega⟩), HM.out.f.rows⟩, ⟨by have := HM.out.l.1; simp; omega, Nat.le_trans HM.out.l.2 (by decide)⟩, HD4.out.turn (row_store HB4.out 0 _) (fun k e => by have e := Option.some.inj e; have := HM.out.o; omega), HM.out.o⟩)
        have q1 := HB4.out.get 0
        have q1f := HB4.out.frz 0
        simp at q1
        refine hK.out _ _ trivial (fun hHeld => ?_)
        clear hK K hHeld hown hgr hbk hbg HX HK4 HR4 HAP HD4 HZ4 HX4 HX5
        try simp only [Act.put, List.getElem_toArray, List.getElem_cons_succ, List.getElem_cons_zero, List.setIfInBounds_toArray, List.set_cons_zero, List.set_cons_succ]
        refine' wpAnyH_take (i := 9) (v := .pointer (some ⟨gm, 0, none⟩)) rfl (by kernel_rfl) (by kernel_rfl) (by kernel_rfl) (fun _ _ _ h => h) (Or.inl ⟨by rfl, fun W h => by go_simp⟩) trivial ?_
        try simp only [Act.put, List.getElem_toArray, List.getElem_cons_succ, List.getElem_cons_zero, List.setIfInBounds_toArray, List.set_cons_zero, List.set_cons_succ]
        refine wpAnyH_ready (rs := [10]) (by kernel_rfl) (by simp) ?_
        refine AllReadyH.cons rfl (fun K hK => ?_) AllReadyH.nil
        go_simp
        clear HB4 HM
        refine hK.out _ _ trivial (fun hHeld => ?_)
        clear hK K hHeld q1 q1f
        try simp only [Act.put, List.getElem_toArray, List.getElem_cons_succ, List.getElem_cons_zero, List.setIfInBounds_toArray, List.set_cons_zero, List.set_cons_succ]
        refine wpAnyH_done (by kernel_rfl) ?_ _
        have HM := HA
        clear HA
        generalize X4.setCell ⟨gm, 0, none⟩ (.slice Av nv cv) = X9 at *
        have hoc := mo_one2 HM.out.mo
        go_wp2_with ((with_reducible show wpList _ _ _ _ _ _); first | refine wpList_load_row rfl 27 _ rfl (gm) rfl 27 #[.slice Av nv cv, .slice Ar nr cr] (0, 0) _ HM.out.b hu rfl (by kernel_rfl) ?_ | refine wpList_store_row rfl 27 _ _ rfl (w.heap.size) #[.slice Av nv cv, .slice Ar nr cr] rfl rfl 27 _ HM.out.z (by kernel_rfl) rfl hoc ?_)
        refine post_gen (fun X => Blk X w.heap.size 27 #[.slice Av nv cv, .slice Ar nr cr] ∧ DW w g K X ∧ MoOwn X w.heap.size ⟨m.keys ++ [(⟨x4, x5⟩ : KR)], m.rows⟩ (.slice Av nv cv) (.slice Ar nr cr)) ⟨setRow_heap _ _ _ _ _ _ HM.out.z, HM.out.d.turn (setRow_grown _ w.heap.size _) (fun k e => by have e := Option.some.inj e; omega), HM.out.mo.farT HM.out.z (setRow_grown _ _ _)⟩ ?_
        rintro Z ⟨h1, hd, hm⟩
        obtain ⟨s9, c9⟩ := hd.cur
        exact bodyPost_ret (v := .agg #[.slice Av nv cv, .slice Ar nr cr]) (results_cell_row rfl _ _ _ _ _ (0, 0) _ rfl h1 hu rfl (by kernel_rfl)) rfl ⟨_, _, _, s9, HM.out.f, HM.out.l, rfl, hm, c9, hd.grown⟩
    · skip
      go_simp
      refine (l4Any_some _ g _ s3 C3.out).mono ?_
      rintro e X01 ⟨x4, s4, hr, rfl, c4, hg⟩
      replace HM := Lib.hid (HM.out.call c4 hg)
      have HX4 := Lib.hid hr
      have hs41 := Nat.le_trans hsd hg.size
      have C4 := Lib.hid c4
      clear hr c4 hg C3
      refine hK.out _ _ trivial (fun hHeld => ?_)
      clear hK K hHeld
      try simp only [Act.put, List.getElem_toArray, List.getElem_cons_succ, List.getElem_cons_zero, List.setIfInBounds_toArray, List.set_cons_zero, List.set_cons_succ]
      refine wpAnyH_ready (rs := [1, 5]) (by kernel_rfl) (by simp) ?_
      refine AllReadyH.cons rfl (fun K hK => ?_) (AllReadyH.cons rfl (fun K hK => ?_) AllReadyH.nil)
      · skip
        have q9 := HM.out.b.get 0
        simp at q9
        go_simp
        refine hK.out _ _ trivial (fun hHeld => ?_)
        clear hK K hHeld q9
        try simp only [Act.put, List.getElem_toArray, List.getElem_cons_succ, List.getElem_cons_zero, List.setIfInBounds_toArray, List.set_cons_zero, List.set_cons_succ]
        refine wpAnyH_ready (rs := [5]) (by kernel_rfl) (by simp) ?_
        refine AllReadyH.cons rfl (fun K hK => ?_) AllReadyH.nil
        go_simp
        refine (l5Kind_some _ g _ s4 C4.out).mono ?_
        rintro e X1 ⟨x5, s5, hr, rfl, c5, hg⟩
        replace HM := Lib.hid (HM.out.call c5 hg)
        have HX5 := Lib.hid hr
        have hs4 := Nat.le_trans hs41 hg.size
        clear hr c5 hg C4
        refine hK.out _ _ trivial (fun hHeld => ?_)
        clear hK K hHeld
        try simp only [Act.put, List.getElem_toArray, List.getElem_cons_succ, List.getElem_cons_zero, List.setIfInBounds_toArray, List.set_cons_zero, List.set_cons_succ]
        refine' wpAnyH_take (i := 6) (v := .agg #[.string x4, .int .i64 x5]) rfl (by kernel_rfl) (by kernel_rfl) (by kernel_rfl) (fun _ _ _ h => h) (Or.inl ⟨by rfl, fun W h => by go_simp⟩) trivial ?_
        try simp only [Act.put, List.getElem_toArray, List.getElem_cons_succ, List.getElem_cons_zero, List.setIfInBounds_toArray, List.set_cons_zero, List.set_cons_succ]
        refine wpAnyH_ready (rs := [7]) (by kernel_rfl) (by simp) ?_
        refine AllReadyH.cons rfl (fun K hK => ?_) AllReadyH.nil
        go_simp
        have hb := below_oneM X1 (.cells #[.string x4, .int .i64 x5] 40)
        have hn := Blk.new X1 X1.heap.size 40 #[.string x4, .int .i64 x5] rfl
        replace HM := Lib.hid (HM.out.below hb)
        have hs5 := Nat.le_trans hs4 hb.size
        have HX := Lib.hid hn
        clear hn
        refine hK.out _ _ trivial (fun hHeld => ?_)
        clear hK K hHeld hb
        try simp only [Act.put, List.getElem_toArray, List.getElem_cons_succ, List.getElem_cons_zero, List.setIfInBounds_toArray, List.set_cons_zero, List.set_cons_succ]
        refine wpAnyH_ready (rs := [8]) (by kernel_rfl) (by simp) ?_
        refine AllReadyH.cons rfl (fun K hK => ?_) AllReadyH.nil
        refine wp_append_lit _ _ 24 rfl w.heap.size 40 ik zeroKR.v 2 24 Tryz.underlying24 hk1 hk2 hk3 hk4 rfl (by decide) (.slice Ak nk ck) m.keys.length (cellsF krCells m.keys) rfl HM.out.mo.keys X1.heap.size [.string x4, .int .i64 x5] rfl rfl ?a1 ?a2 ?a3 ?a4 ?a5 ?a6
        case a1 => intro j u hj; exact (HX.out.get j).trans (by simpa using hj)
        case a2 => intro u hu; exact kr_one [⟨x4, x5⟩] u (by simpa [cellsF, krCells] using hu)
        case a3 => have := HM.out.l; unfold maxLen; omega
        case a4 => have := HM.out.l; omega
        case a5 => exact hs5
        case a6 =>
          intro v4 X4 hown hgr hbk
          obtain ⟨Av, nv, cv, rfl⟩ := own_slice hown
          have hbg : ∀ k, (Value.slice Ak nk ck).ownBlock = some k → w.heap.size ≤ k := fun k hk => HM.out.mo.keys.base_le k hk
          have HB4 := Lib.hid (show Blk X4 gm 27 #[.slice Ak nk ck, .slice Ar nr cr] from HM.out.b.grown hgr (by rcases own_ne HM.out.mo.keys HM.out.b (by decide) with e | e; rw [e]; simp; exact e))
          have HZ4 := Lib.hid (show Blk X4 w.heap.size 27 #[.slice none 0 0, .slice none 0 0] from HM.out.z.grown hgr (by rcases own_ne HM.out.mo.keys HM.out.z (by decide) with e | e; rw [e]; simp; exact e))
          have HK4 := Lib.hid (show OwnF 40 2 krCells X4 w.heap.size (.slice Av nv cv) (m.keys ++ [(⟨x4, x5⟩ : KR)]) from by unfold OwnF; rw [List.length_append, cellsF_append]; simpa [cellsF, krCells] using hown)
          have HR4 := Lib.hid (show OwnR X4 w.heap.size (.slice Ar nr cr) m.rows from HM.out.mo.rows.kept hgr (Ap.symm HM.out.mo.ap))
          have HAP := Lib.hid (show Ap (.slice Ar nr cr) (.slice Av nv cv) from by
            rcases hbk with e | e
            · rcases (Ap.symm HM.out.mo.ap) with k | k
              · exact .inl k
              · exact .inr (fun q => k (q.trans e))
            · exact .inr (fun q => Nat.lt_irrefl _ (HM.out.mo.rows.lt _ (q.trans e))))
          have HD4 := Lib.hid (HM.out.d.turn hgr hbg)
          have HA := Lib.hid (show DM w g _ 101 w.heap.size gm ⟨m.keys ++ [(⟨x4, x5⟩ : KR)], m.rows⟩ (.slice Av nv cv) (.slice Ar nr cr) (X4.setCell ⟨gm, 0, none⟩ (.slice Av nv cv)) from ⟨HZ4.out.far _ _ _ HM.out.o.2.2, HB4.out.store 0 _, ⟨OwnF.kept HK4.out (row_store HB4.out 0 _) (own_ne HK4.out HB4.out (by decide)), HR4.out.kept (row_store HB4.out 0 _) (own_ne HR4.out HB4.out (by decide)), Ap.symm HAP.out⟩, ⟨fitK_mem (fun y hy => by rcases List.mem_append.1 hy with q | q; exact fitK_of HM.out.f.keys y q; rw [List.mem_singleton] at q; rw [q]; exact ⟨Nat.le_trans HX4.out (by unfold maxLen; decide), show inW x5 from by have := HX5.out; unfold inW; omega⟩), HM.out.f.rows⟩, ⟨by have := HM.out.l.1; simp; omega, Nat.le_trans HM.out.l.2 (by decide)⟩, HD4.out.turn (row_store HB4.out 0 _) (fun k e => by have e := Option.some.inj e; have := HM.out.o; omega), HM.out.o⟩)
          have q1 := HB4.out.get 0
          have q1f := HB4.out.frz 0
          simp at q1
          refine hK.out _ _ trivial (fun hHeld => ?_)
          clear hK K hHeld hown hgr hbk hbg HX HK4 HR4 HAP HD4 HZ4 HX4 HX5
          try simp only [Act.put, List.getElem_toArray, List.getElem_cons_succ, List.getElem_cons_zero, List.setIfInBounds_toArray, List.set_cons_zero, List.set_cons_succ]
          refine' wpAnyH_take (i := 9) (v := .pointer (some ⟨gm, 0, none⟩)) rfl (by kernel_rfl) (by kernel_rfl) (by kernel_rfl) (fun _ _ _ h => h) (Or.inl ⟨by rfl, fun W h => by go_simp⟩) trivial ?_
          try simp only [Act.put, List.getElem_toArray, List.getElem_cons_succ, List.getElem_cons_zero, List.setIfInBounds_toArray, List.set_cons_zero, List.set_cons_succ]
          refine wpAnyH_ready (rs := [10]) (by kernel_rfl) (by simp) ?_
          refine AllReadyH.cons rfl (fun K hK => ?_) AllReadyH.nil
          go_simp
          clear HB4 HM
          refine hK.out _ _ trivial (fun hHeld => ?_)
          clear hK K hHeld q1 q1f
          try simp only [Act.put, List.getElem_toArray, List.getElem_cons_succ, List.getElem_cons_zero, List.setIfInBounds_toArray, List.set_cons_zero, List.set_cons_succ]
          refine wpAnyH_done (by kernel_rfl) ?_ _
          have HM := HA
          clear HA
          generalize X4.setCell ⟨gm, 0, none⟩ (.slice Av nv cv) = X9 at *
          have hoc := mo_one2 HM.out.mo
          go_wp2_with ((with_reducible show wpList _ _ _ _ _ _); first | refine wpList_load_row rfl 27 _ rfl (gm) rfl 27 #[.slice Av nv cv, .slice Ar nr cr] (0, 0) _ HM.out.b hu rfl (by kernel_rfl) ?_ | refine wpList_store_row rfl 27 _ _ rfl (w.heap.size) #[.slice Av nv cv, .slice Ar nr cr] rfl rfl 27 _ HM.out.z (by kernel_rfl) rfl hoc ?_)
          refine post_gen (fun X => Blk X w.heap.size 27 #[.slice Av nv cv, .slice Ar nr cr] ∧ DW w g K X ∧ MoOwn X w.heap.size ⟨m.keys ++ [(⟨x4, x5⟩ : KR)], m.rows⟩ (.slice Av nv cv) (.slice Ar nr cr)) ⟨setRow_heap _ _ _ _ _ _ HM.out.z, HM.out.d.turn (setRow_grown _ w.heap.size _) (fun k e => by have e := Option.some.inj e; omega), HM.out.mo.farT HM.out.z (setRow_grown _ _ _)⟩ ?_
          rintro Z ⟨h1, hd, hm⟩
          obtain ⟨s9, c9⟩ := hd.cur
          exact bodyPost_ret (v := .agg #[.slice Av nv cv, .slice Ar nr cr]) (results_cell_row rfl _ _ _ _ _ (0, 0) _ rfl h1 hu rfl (by kernel_rfl)) rfl ⟨_, _, _, s9, HM.out.f, HM.out.l, rfl, hm, c9, hd.grown⟩
      · skip
        go_simp
        refine (l5Kind_some _ g _ s4 C4.out).mono ?_
        rintro e X1 ⟨x5, s5, hr, rfl, c5, hg⟩
        replace HM := Lib.hid (HM.out.call c5 hg)
        have HX5 := Lib.hid hr
        have hs4 := Nat.le_trans hs41 hg.size
        clear hr c5 hg C4
        refine hK.out _ _ trivial (fun hHeld => ?_)
        clear hK K hHeld
        try simp only [Act.put, List.getElem_toArray, List.getElem_cons_succ, List.getElem_cons_zero, List.setIfInBounds_toArray, List.set_cons_zero, List.set_cons_succ]
        refine' wpAnyH_take (i := 6) (v := .agg #[.string x4, .int .i64 x5]) rfl (by kernel_rfl) (by kernel_rfl) (by kernel_rfl) (fun _ _ _ h => h) (Or.inl ⟨by rfl, fun W h => by go_simp⟩) trivial ?_
        try simp only [Act.put, List.getElem_toArray, List.getElem_cons_succ, List.getElem_cons_zero, List.setIfInBounds_toArray, List.set_cons_zero, List.set_cons_succ]
        refine wpAnyH_ready (rs := [1, 7]) (by kernel_rfl) (by simp) ?_
        refine AllReadyH.cons rfl (fun K hK => ?_) (AllReadyH.cons rfl (fun K hK => ?_) AllReadyH.nil)
        · skip
          have q9 := HM.out.b.get 0
          simp at q9
          go_simp
          refine hK.out _ _ trivial (fun hHeld => ?_)
          clear hK K hHeld q9
          try simp only [Act.put, List.getElem_toArray, List.getElem_cons_succ, List.getElem_cons_zero, List.setIfInBounds_toArray, List.set_cons_zero, List.set_cons_succ]
          refine wpAnyH_ready (rs := [7]) (by kernel_rfl) (by simp) ?_
          refine AllReadyH.cons rfl (fun K hK => ?_) AllReadyH.nil
          go_simp
          have hb := below_oneM X1 (.cells #[.string x4, .int .i64 x5] 40)
          have hn := Blk.new X1 X1.heap.size 40 #[.string x4, .int .i64 x5] rfl
          replace HM := Lib.hid (HM.out.below hb)
          have hs5 := Nat.le_trans hs4 hb.size
          have HX := Lib.hid hn
          clear hn
          refine hK.out _ _ trivial (fun hHeld => ?_)
          clear hK K hHeld hb
          try simp only [Act.put, List.getElem_toArray, List.getElem_cons_succ, List.getElem_cons_zero, List.setIfInBounds_toArray, List.set_cons_zero, List.set_cons_succ]
          refine wpAnyH_ready (rs := [8]) (by kernel_rfl) (by simp) ?_
          refine AllReadyH.cons rfl (fun K hK => ?_) AllReadyH.nil
          refine wp_append_lit _ _ 24 rfl w.heap.size 40 ik zeroKR.v 2 24 Tryz.underlying24 hk1 hk2 hk3 hk4 rfl (by decide) (.slice Ak nk ck) m.keys.length (cellsF krCells m.keys) rfl HM.out.mo.keys X1.heap.size [.string x4, .int .i64 x5] rfl rfl ?a1 ?a2 ?a3 ?a4 ?a5 ?a6
          case a1 => intro j u hj; exact (HX.out.get j).trans (by simpa using hj)
          case a2 => intro u hu; exact kr_one [⟨x4, x5⟩] u (by simpa [cellsF, krCells] using hu)
          case a3 => have := HM.out.l; unfold maxLen; omega
          case a4 => have := HM.out.l; omega
          case a5 => exact hs5
          case a6 =>
            intro v4 X4 hown hgr hbk
            obtain ⟨Av, nv, cv, rfl⟩ := own_slice hown
            have hbg : ∀ k, (Value.slice Ak nk ck).ownBlock = some k → w.heap.size ≤ k := fun k hk => HM.out.mo.keys.base_le k hk
            have HB4 := Lib.hid (show Blk X4 gm 27 #[.slice Ak nk ck, .slice Ar nr cr] from HM.out.b.grown hgr (by rcases own_ne HM.out.mo.keys HM.out.b (by decide) with e | e; rw [e]; simp; exact e))
            have HZ4 := Lib.hid (show Blk X4 w.heap.size 27 #[.slice none 0 0, .slice none 0 0] from HM.out.z.grown hgr (by rcases own_ne HM.out.mo.keys HM.out.z (by decide) with e | e; rw [e]; simp; exact e))
            have HK4 := Lib.hid (show OwnF 40 2 krCells X4 w.heap.size (.slice Av nv cv) (m.keys ++ [(⟨x4, x5⟩ : KR)]) from by unfold OwnF; rw [List.length_append, cellsF_append]; simpa [cellsF, krCells] using hown)
            have HR4 := Lib.hid (show OwnR X4 w.heap.size (.slice Ar nr cr) m.rows from HM.out.mo.rows.kept hgr (Ap.symm HM.out.mo.ap))
            have HAP := Lib.hid (show Ap (.slice Ar nr cr) (.slice Av nv cv) from by
              rcases hbk with e | e
              · rcases (Ap.symm HM.out.mo.ap) with k | k
                · exact .inl k
                · exact .inr (fun q => k (q.trans e))
              · exact .inr (fun q => Nat.lt_irrefl _ (HM.out.mo.rows.lt _ (q.trans e))))
            have HD4 := Lib.hid (HM.out.d.turn hgr hbg)
            have HA := Lib.hid (show DM w g _ 101 w.heap.size gm ⟨m.keys ++ [(⟨x4, x5⟩ : KR)], m.rows⟩ (.slice Av nv cv) (.slice Ar nr cr) (X4.setCell ⟨gm, 0, none⟩ (.slice Av nv cv)) from ⟨HZ4.out.far _ _ _ HM.out.o.2.2, HB4.out.store 0 _, ⟨OwnF.kept HK4.out (row_store HB4.out 0 _) (own_ne HK4.out HB4.out (by decide)), HR4.out.kept (row_store HB4.out 0 _) (own_ne HR4.out HB4.out (by decide)), Ap.symm HAP.out⟩, ⟨fitK_mem (fun y hy => by rcases List.mem_append.1 hy with q | q; exact fitK_of HM.out.f.keys y q; rw [List.mem_singleton] at q; rw [q]; exact ⟨Nat.le_trans HX4.out (by unfold maxLen; decide), show inW x5 from by have := HX5.out; unfold inW; omega⟩), HM.out.f.rows⟩, ⟨by have := HM.out.l.1; simp; omega, Nat.le_trans HM.out.l.2 (by decide)⟩, HD4.out.turn (row_store HB4.out 0 _) (fun k e => by have e := Option.some.inj e; have := HM.out.o; omega), HM.out.o⟩)
            have q1 := HB4.out.get 0
            have q1f := HB4.out.frz 0
            simp at q1
            refine hK.out _ _ trivial (fun hHeld => ?_)
            clear hK K hHeld hown hgr hbk hbg HX HK4 HR4 HAP HD4 HZ4 HX4 HX5
            try simp only [Act.put, List.getElem_toArray, List.getElem_cons_succ, List.getElem_cons_zero, List.setIfInBounds_toArray, List.set_cons_zero, List.set_cons_succ]
            refine' wpAnyH_take (i := 9) (v := .pointer (some ⟨gm, 0, none⟩)) rfl (by kernel_rfl) (by kernel_rfl) (by kernel_rfl) (fun _ _ _ h => h) (Or.inl ⟨by rfl, fun W h => by go_simp⟩) trivial ?_
            try simp only [Act.put, List.getElem_toArray, List.getElem_cons_succ, List.getElem_cons_zero, List.setIfInBounds_toArray, List.set_cons_zero, List.set_cons_succ]
            refine wpAnyH_ready (rs := [10]) (by kernel_rfl) (by simp) ?_
            refine AllReadyH.cons rfl (fun K hK => ?_) AllReadyH.nil
            go_simp
            clear HB4 HM
            refine hK.out _ _ trivial (fun hHeld => ?_)
            clear hK K hHeld q1 q1f
            try simp only [Act.put, List.getElem_toArray, List.getElem_cons_succ, List.getElem_cons_zero, List.setIfInBounds_toArray, List.set_cons_zero, List.set_cons_succ]
            refine wpAnyH_done (by kernel_rfl) ?_ _
            have HM := HA
            clear HA
            generalize X4.setCell ⟨gm, 0, none⟩ (.slice Av nv cv) = X9 at *
            have hoc := mo_one2 HM.out.mo
            go_wp2_with ((with_reducible show wpList _ _ _ _ _ _); first | refine wpList_load_row rfl 27 _ rfl (gm) rfl 27 #[.slice Av nv cv, .slice Ar nr cr] (0, 0) _ HM.out.b hu rfl (by kernel_rfl) ?_ | refine wpList_store_row rfl 27 _ _ rfl (w.heap.size) #[.slice Av nv cv, .slice Ar nr cr] rfl rfl 27 _ HM.out.z (by kernel_rfl) rfl hoc ?_)
            refine post_gen (fun X => Blk X w.heap.size 27 #[.slice Av nv cv, .slice Ar nr cr] ∧ DW w g K X ∧ MoOwn X w.heap.size ⟨m.keys ++ [(⟨x4, x5⟩ : KR)], m.rows⟩ (.slice Av nv cv) (.slice Ar nr cr)) ⟨setRow_heap _ _ _ _ _ _ HM.out.z, HM.out.d.turn (setRow_grown _ w.heap.size _) (fun k e => by have e := Option.some.inj e; omega), HM.out.mo.farT HM.out.z (setRow_grown _ _ _)⟩ ?_
            rintro Z ⟨h1, hd, hm⟩
            obtain ⟨s9, c9⟩ := hd.cur
            exact bodyPost_ret (v := .agg #[.slice Av nv cv, .slice Ar nr cr]) (results_cell_row rfl _ _ _ _ _ (0, 0) _ rfl h1 hu rfl (by kernel_rfl)) rfl ⟨_, _, _, s9, HM.out.f, HM.out.l, rfl, hm, c9, hd.grown⟩
        · skip
          go_simp
          have hb := below_oneM X1 (.cells #[.string x4, .int .i64 x5] 40)
          have hn := Blk.new X1 X1.heap.size 40 #[.string x4, .int .i64 x5] rfl
          replace HM := Lib.hid (HM.out.below hb)
          have hs5 := Nat.le_trans hs4 hb.size
          have HX := Lib.hid hn
          clear hn
          refine hK.out _ _ trivial (fun hHeld => ?_)
          clear hK K hHeld hb
          try simp only [Act.put, List.getElem_toArray, List.getElem_cons_succ, List.getElem_cons_zero, List.setIfInBounds_toArray, List.set_cons_zero, List.set_cons_succ]
          refine wpAnyH_ready (rs := [1]) (by kernel_rfl) (by simp) ?_
          refine AllReadyH.cons rfl (fun K hK => ?_) AllReadyH.nil
          have q9 := HM.out.b.get 0
          simp at q9
          go_simp
          refine hK.out _ _ trivial (fun hHeld => ?_)
          clear hK K hHeld q9
          try simp only [Act.put, List.getElem_toArray, List.getElem_cons_succ, List.getElem_cons_zero, List.setIfInBounds_toArray, List.set_cons_zero, List.set_cons_succ]
          refine wpAnyH_ready (rs := [8]) (by kernel_rfl) (by simp) ?_
          refine AllReadyH.cons rfl (fun K hK => ?_) AllReadyH.nil
          refine wp_append_lit _ _ 24 rfl w.heap.size 40 ik zeroKR.v 2 24 Tryz.underlying24 hk1 hk2 hk3 hk4 rfl (by decide) (.slice Ak nk ck) m.keys.length (cellsF krCells m.keys) rfl HM.out.mo.keys X1.heap.size [.string x4, .int .i64 x5] rfl rfl ?a1 ?a2 ?a3 ?a4 ?a5 ?a6
          case a1 => intro j u hj; exact (HX.out.get j).trans (by simpa using hj)
          case a2 => intro u hu; exact kr_one [⟨x4, x5⟩] u (by simpa [cellsF, krCells] using hu)
          case a3 => have := HM.out.l; unfold maxLen; omega
          case a4 => have := HM.out.l; omega
          case a5 => exact hs5
          case a6 =>
            intro v4 X4 hown hgr hbk
            obtain ⟨Av, nv, cv, rfl⟩ := own_slice hown
            have hbg : ∀ k, (Value.slice Ak nk ck).ownBlock = some k → w.heap.size ≤ k := fun k hk => HM.out.mo.keys.base_le k hk
            have HB4 := Lib.hid (show Blk X4 gm 27 #[.slice Ak nk ck, .slice Ar nr cr] from HM.out.b.grown hgr (by rcases own_ne HM.out.mo.keys HM.out.b (by decide) with e | e; rw [e]; simp; exact e))
            have HZ4 := Lib.hid (show Blk X4 w.heap.size 27 #[.slice none 0 0, .slice none 0 0] from HM.out.z.grown hgr (by rcases own_ne HM.out.mo.keys HM.out.z (by decide) with e | e; rw [e]; simp; exact e))
            have HK4 := Lib.hid (show OwnF 40 2 krCells X4 w.heap.size (.slice Av nv cv) (m.keys ++ [(⟨x4, x5⟩ : KR)]) from by unfold OwnF; rw [List.length_append, cellsF_append]; simpa [cellsF, krCells] using hown)
            have HR4 := Lib.hid (show OwnR X4 w.heap.size (.slice Ar nr cr) m.rows from HM.out.mo.rows.kept hgr (Ap.symm HM.out.mo.ap))
            have HAP := Lib.hid (show Ap (.slice Ar nr cr) (.slice Av nv cv) from by
              rcases hbk with e | e
              · rcases (Ap.symm HM.out.mo.ap) with k | k
                · exact .inl k
                · exact .inr (fun q => k (q.trans e))
              · exact .inr (fun q => Nat.lt_irrefl _ (HM.out.mo.rows.lt _ (q.trans e))))
            have HD4 := Lib.hid (HM.out.d.turn hgr hbg)
            have HA := Lib.hid (show DM w g _ 101 w.heap.size gm ⟨m.keys ++ [(⟨x4, x5⟩ : KR)], m.rows⟩ (.slice Av nv cv) (.slice Ar nr cr) (X4.setCell ⟨gm, 0, none⟩ (.slice Av nv cv)) from ⟨HZ4.out.far _ _ _ HM.out.o.2.2, HB4.out.store 0 _, ⟨OwnF.kept HK4.out (row_store HB4.out 0 _) (own_ne HK4.out HB4.out (by decide)), HR4.out.kept (row_store HB4.out 0 _) (own_ne HR4.out HB4.out (by decide)), Ap.symm HAP.out⟩, ⟨fitK_mem (fun y hy => by rcases List.mem_append.1 hy with q | q; exact fitK_of HM.out.f.keys y q; rw [List.mem_singleton] at q; rw [q]; exact ⟨Nat.le_trans HX4.out (by unfold maxLen; decide), show inW x5 from by have := HX5.out; unfold inW; omega⟩), HM.out.f.rows⟩, ⟨by have := HM.out.l.1; simp; omega, Nat.le_trans HM.out.l.2 (by decide)⟩, HD4.out.turn (row_store HB4.out 0 _) (fun k e => by have e := Option.some.inj e; have := HM.out.o; omega), HM.out.o⟩)
            have q1 := HB4.out.get 0
            have q1f := HB4.out.frz 0
            simp at q1
            refine hK.out _ _ trivial (fun hHeld => ?_)
            clear hK K hHeld hown hgr hbk hbg HX HK4 HR4 HAP HD4 HZ4 HX4 HX5
            try simp only [Act.put, List.getElem_toArray, List.getElem_cons_succ, List.getElem_cons_zero, List.setIfInBounds_toArray, List.set_cons_zero, List.set_cons_succ]
            refine' wpAnyH_take (i := 9) (v := .pointer (some ⟨gm, 0, none⟩)) rfl (by kernel_rfl) (by kernel_rfl) (by kernel_rfl) (fun _ _ _ h => h) (Or.inl ⟨by rfl, fun W h => by go_simp⟩) trivial ?_
            try simp only [Act.put, List.getElem_toArray, List.getElem_cons_succ, List.getElem_cons_zero, List.setIfInBounds_toArray, List.set_cons_zero, List.set_cons_succ]
            refine wpAnyH_ready (rs := [10]) (by kernel_rfl) (by simp) ?_
            refine AllReadyH.cons rfl (fun K hK => ?_) AllReadyH.nil
            go_simp
            clear HB4 HM
            refine hK.out _ _ trivial (fun hHeld => ?_)
            clear hK K hHeld q1 q1f
            try simp only [Act.put, List.getElem_toArray, List.getElem_cons_succ, List.getElem_cons_zero, List.setIfInBounds_toArray, List.set_cons_zero, List.set_cons_succ]
            refine wpAnyH_done (by kernel_rfl) ?_ _
            have HM := HA
            clear HA
            generalize X4.setCell ⟨gm, 0, none⟩ (.slice Av nv cv) = X9 at *
            have hoc := mo_one2 HM.out.mo
            go_wp2_with ((with_reducible show wpList _ _ _ _ _ _); first | refine wpList_load_row rfl 27 _ rfl (gm) rfl 27 #[.slice Av nv cv, .slice Ar nr cr] (0, 0) _ HM.out.b hu rfl (by kernel_rfl) ?_ | refine wpList_store_row rfl 27 _ _ rfl (w.heap.size) #[.slice Av nv cv, .slice Ar nr cr] rfl rfl 27 _ HM.out.z (by kernel_rfl) rfl hoc ?_)
            refine post_gen (fun X => Blk X w.heap.size 27 #[.slice Av nv cv, .slice Ar nr cr] ∧ DW w g K X ∧ MoOwn X w.heap.size ⟨m.keys ++ [(⟨x4, x5⟩ : KR)], m.rows⟩ (.slice Av nv cv) (.slice Ar nr cr)) ⟨setRow_heap _ _ _ _ _ _ HM.out.z, HM.out.d.turn (setRow_grown _ w.heap.size _) (fun k e => by have e := Option.some.inj e; omega), HM.out.mo.farT HM.out.z (setRow_grown _ _ _)⟩ ?_
            rintro Z ⟨h1, hd, hm⟩
            obtain ⟨s9, c9⟩ := hd.cur
            exact bodyPost_ret (v := .agg #[.slice Av nv cv, .slice Ar nr cr]) (results_cell_row rfl _ _ _ _ _ (0, 0) _ rfl h1 hu rfl (by kernel_rfl)) rfl ⟨_, _, _, s9, HM.out.f, HM.out.l, rfl, hm, c9, hd.grown⟩
  have d2 : (x == 1) = false := by rw [beq_eq_false_iff_ne]; exact hy
  clear hx hy hx0 hx1 HAN C3
  replace HM := Lib.hid (HM.out.more (show 100 ≤ 101 by decide))
  have hoc := mo_one2 HM.out.mo
  go_wp2_with ((with_reducible show wpList _ _ _ _ _ _); first | refine wpList_load_row rfl 27 _ rfl (gm) rfl 27 #[.slice Ak nk ck, .slice Ar nr cr] (0, 0) _ HM.out.b hu rfl (by kernel_rfl) ?_ | refine wpList_store_row rfl 27 _ _ rfl (w.heap.size) #[.slice Ak nk ck, .slice Ar nr cr] rfl rfl 27 _ HM.out.z (by kernel_rfl) rfl hoc ?_)
  refine post_gen (fun X => Blk X w.heap.size 27 #[.slice Ak nk ck, .slice Ar nr cr] ∧ DW w g K X ∧ MoOwn X w.heap.size m (.slice Ak nk ck) (.slice Ar nr cr)) ⟨setRow_heap _ _ _ _ _ _ HM.out.z, HM.out.d.turn (setRow_grown _ w.heap.size _) (fun k e => by have e := Option.some.inj e; omega), HM.out.mo.farT HM.out.z (setRow_grown _ _ _)⟩ ?_
  rintro Z ⟨h1, hd, hm⟩
  obtain ⟨s9, c9⟩ := hd.cur
  exact bodyPost_ret (v := .agg #[.slice Ak nk ck, .slice Ar nr cr]) (results_cell_row rfl _ _ _ _ _ (0, 0) _ rfl h1 hu rfl (by kernel_rfl)) rfl ⟨m, _, _, s9, HM.out.f, HM.out.l, rfl, hm, c9, hd.grown⟩
end Go.Proofs.YtbhhhakfjmaglaaGreat
