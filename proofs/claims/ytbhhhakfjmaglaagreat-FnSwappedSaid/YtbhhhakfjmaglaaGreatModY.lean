/-
  Chapter 13, the program's ModelDo.
-/
import Derived.Test.YtbhhhakfjmaglaaGreatModM
import Derived.Test.YtbhhhakfjmaglaaGreatModP
import Derived.Test.YtbhhhakfjmaglaaGreatOpJ
namespace Go.Proofs.YtbhhhakfjmaglaaGreat
open Go.RowKit M
set_option linter.unusedVariables false
set_option linter.unusedSimpArgs false
theorem ap_nilR (v : Value) : Ap v (.slice none 0 0) := by
  cases h : v.ownBlock with
  | none => exact .inl h
  | some k => exact .inr (by rw [h]; exact fun e => by cases e)
theorem own_nilR (w : World) (B : Nat) : OwnR w B (.slice none 0 0) [] := ⟨rfl, .inl ⟨rfl, rfl⟩⟩
theorem no_touch {w : World} {B n gp g : Nat} {m : Mo} {vk vr : Value} {t : TypeId} {cs : Array Value} (h : MoOwn w B m vk vr) (hb : Blk w g t cs) (h1 : t ≠ 40) (h2 : t ≠ 42) (h3 : g ≠ gp) (h4 : g < n) : ¬ TouchM n gp vk vr g := by
  rintro (e | (e | e) | e)
  · exact h3 e
  · rcases own_ne h.keys hb (Ne.symm h1) with q | q
    · rw [q] at e; cases e
    · exact q e
  · rcases own_ne h.rows hb (Ne.symm h2) with q | q
    · rw [q] at e; cases e
    · exact q e
  · omega
theorem touch_ge {w : World} {B n gp : Nat} {m : Mo} {vk vr : Value} (h : MoOwn w B m vk vr) (h1 : B ≤ gp) (h2 : B ≤ n) (i : Nat) (q : TouchM n gp vk vr i) : B ≤ i := by
  rcases q with e | (e | e) | e
  · omega
  · exact h.keys.base_le i e
  · exact h.rows.base_le i e
  · omega
set_option maxRecDepth 100000 in
set_option maxHeartbeats 3000000 in
theorem iModelDo_any (w : World) (B : Nat) (m : Mo) (o : O) (vk vr : Value) (h : MoOwn w B m vk vr) (hB : B ≤ w.heap.size) (hk : m.keys.length ≤ 1048576) (hr : m.rows.length ≤ 1048576) (hf : m.Fit) (ho : o.Fit) : Calls Tryz.prog 8 #[.agg #[vk, vr], o.v] w (Made3 w (mDoV m o)) := by
  have CA := fun W (hb : Below w.heap.size w W) => Lib.hid (iCloneK_own W B vk m.keys (h.below hb).keys hk)
  have CB := fun W (hb : Below w.heap.size w W) => Lib.hid (iCloneR_own W B vr m.rows (h.below hb).rows hr)
  have CM := fun W (hb : Below w.heap.size w W) => Lib.hid (iModelOk_any W m vk vr (h.below hb).win hf)
  have CO := fun W => Lib.hid (iOpOk_any W o ho)
  have CG := fun W xk xr gp (hx : MoOwn W w.heap.size m xk xr) hp (hw : w.heap.size ≤ W.heap.size) (hok : modelOkV m = true) => Lib.hid (iRegIn_any W w.heap.size gp m o xk xr hx hp hw (modelOk_parts hok).2.1 (modelOk_parts hok).1)
  have CR := fun W xk xr gp (hx : MoOwn W w.heap.size m xk xr) hp (hw : w.heap.size ≤ W.heap.size) (hok : modelOkV m = true) => Lib.hid (iRecIn_any W w.heap.size gp m o xk xr hx hp hw hok hf ho.key ho.val.1 ho.val.2)
  have HV := Lib.hid (show mDoV m o = if modelOkV m = true ∧ opOkV o = true then (if o.kind = 1 then ((regV m o).1, (regV m o).2, []) else if o.kind = 2 then ((recV m o).1, (recV m o).2, []) else (⟨m.keys, []⟩, 0, m.rows)) else (m, 1, []) from rfl)
  have hu := Tryz.underlying27
  have huo := Tryz.underlying29
  obtain ⟨Ak, nk, ck, rfl⟩ := own_slice h.keys
  obtain ⟨Ar, nr, cr, rfl⟩ := own_slice h.rows
  clear h hB hk hr hf ho
  generalize mDoV m o = res at *
  generalize hmo : modelOkV m = mo at *
  have HMO := Lib.hid hmo
  clear hmo HMO
  generalize opOkV o = oo at *
  generalize regV m o = rg at *
  generalize recV m o = rc at *
  obtain ⟨okind, okey, owhat, oval⟩ := o
  unfold O.v at CO ⊢
  simp only at *
  go_enter Tryz.func8, Tryz.ntmps8
  go_upto_region 1 with fail
  refine wp_gen (fun W => Blk W w.heap.size 27 #[.slice Ak nk ck, .slice Ar nr cr] ∧ Blk W (w.heap.size + 1) 29 #[.int .i64 okind, .string okey, .int .i64 owhat, .int .i64 oval] ∧ Blk W (w.heap.size + 2) 27 #[.slice none 0 0, .slice none 0 0] ∧ Below w.heap.size w W) ⟨((Blk.new w _ _ _ rfl).alloc _).alloc _, (Blk.new _ _ _ _ (by simp [go_sem])).alloc _, Blk.new _ _ _ _ (by simp [go_sem]), (((Below.refl _ _).alloc (Nat.le_refl _) _).alloc (by simp [go_sem]) _).alloc (by simp [go_sem]; omega) _⟩ ?_
  rintro W ⟨g0, g1, g2, hb⟩
  go_cut [7] from 10 to 16 (fun x wx => ∃ g7 xk xr, x = .pointer (some ⟨g7, 0, none⟩) ∧ MoOwn wx w.heap.size m xk xr ∧ Blk wx g7 27 #[xk, xr] ∧ W.heap.size ≤ g7 ∧ Below W.heap.size W wx)
  case first =>
    have hbd : Below W.heap.size W W.drew := below_drew _ _
    have G0 := Lib.hid (show Blk W.drew w.heap.size 27 #[.slice Ak nk ck, .slice Ar nr cr] from g0.below hbd)
    have HWS := Lib.hid (show w.heap.size < W.heap.size from g0.lt)
    have HB0 := Lib.hid (hb.trans (hbd.mono hb.size))
    have HBW := Lib.hid hbd
    clear hb g0 g1 g2 hbd CM CO CG CR HV
    refine wp_region_held_drew (S := fun X : World => Blk X w.heap.size 27 #[.slice Ak nk ck, .slice Ar nr cr]) (by kernel_rfl) G0.out (fun hHeld => ?_)
    clear hHeld
    generalize W.drew = X0 at *
    refine' wpAnyH_take (i := 0) (v := .pointer (some ⟨w.heap.size, 0, none⟩)) rfl (by kernel_rfl) (by kernel_rfl) (by kernel_rfl) (fun _ _ _ h => h) (Or.inl ⟨by rfl, fun W h => by go_simp⟩) G0.out ?_
    try simp only [Act.put, List.getElem_toArray, List.getElem_cons_succ, List.getElem_cons_zero, List.setIfInBounds_toArray, List.set_cons_zero, List.set_cons_succ]
    refine' wpAnyH_take (i := 1) (v := .slice Ak nk ck) rfl (by kernel_rfl) (by kernel_rfl) (by kernel_rfl) (fun _ _ _ h => h) (Or.inl ⟨by rfl, fun W h => by have q := Blk.get h 0; simp at q; go_simp⟩) G0.out ?_
    try simp only [Act.put, List.getElem_toArray, List.getElem_cons_succ, List.getElem_cons_zero, List.setIfInBounds_toArray, List.set_cons_zero, List.set_cons_succ]
    refine' wpAnyH_take (i := 3) (v := .pointer (some ⟨w.heap.size, 1, none⟩)) rfl (by kernel_rfl) (by kernel_rfl) (by kernel_rfl) (fun _ _ _ h => h) (Or.inl ⟨by rfl, fun W h => by go_simp⟩) G0.out ?_
    try simp only [Act.put, List.getElem_toArray, List.getElem_cons_succ, List.getElem_cons_zero, List.setIfInBounds_toArray, List.set_cons_zero, List.set_cons_succ]
    refine' wpAnyH_take (i := 4) (v := .slice Ar nr cr) rfl (by kernel_rfl) (by kernel_rfl) (by kernel_rfl) (fun _ _ _ h => h) (Or.inl ⟨by rfl, fun W h => by have q := Blk.get h 1; simp at q; go_simp⟩) G0.out ?_
    try simp only [Act.put, List.getElem_toArray, List.getElem_cons_succ, List.getElem_cons_zero, List.setIfInBounds_toArray, List.set_cons_zero, List.set_cons_succ]
    refine wpAnyH_ready (rs := [2, 7]) (by kernel_rfl) (by simp) ?_
    refine AllReadyH.cons rfl (fun K hK => ?_) (AllReadyH.cons rfl (fun K hK => ?_) AllReadyH.nil)
    · skip
      go_simp
      refine (CA _ HB0.out).out.mono ?_
      rintro e X1 ⟨xk, rfl, ho, hb⟩
      obtain ⟨Ax, nx, cx, rfl⟩ := own_slice ho
      have HBX := Lib.hid HB0.out.size
      replace G0 := Lib.hid (G0.out.below hb); replace HB0 := Lib.hid (HB0.out.trans (hb.mono HB0.out.size)); replace HBW := Lib.hid (HBW.out.trans (hb.mono HBW.out.size))
      have HXK := Lib.hid (OwnF.base ho HBX.out)
      clear ho HBX
      refine hK.out _ _ G0.out (fun hHeld => ?_)
      clear hK K hHeld hb
      try simp only [Act.put, List.getElem_toArray, List.getElem_cons_succ, List.getElem_cons_zero, List.setIfInBounds_toArray, List.set_cons_zero, List.set_cons_succ]
      refine wpAnyH_ready (rs := [5, 7]) (by kernel_rfl) (by simp) ?_
      refine AllReadyH.cons rfl (fun K hK => ?_) (AllReadyH.cons rfl (fun K hK => ?_) AllReadyH.nil)
      · skip
        go_simp
        refine (CB _ HB0.out).out.mono ?_
        rintro e X2 ⟨xr, rfl, ho, hb⟩
        obtain ⟨Ay, ny, cy, rfl⟩ := own_slice ho
        have HAP := Lib.hid (show Ap (.slice Ax nx cx) (.slice Ay ny cy) from ap_of (e := X1.heap.size) (fun k hk => OwnF.lt HXK.out k hk) (fun k hk => OwnR.base_le ho k hk))
        have HBX := Lib.hid HB0.out.size
        replace G0 := Lib.hid (G0.out.below hb); replace HB0 := Lib.hid (HB0.out.trans (hb.mono HB0.out.size)); replace HBW := Lib.hid (HBW.out.trans (hb.mono HBW.out.size)); replace HXK := Lib.hid (OwnF.below HXK.out hb)
        have HXR := Lib.hid (OwnR.low ho HBX.out)
        clear ho HBX
        refine hK.out _ _ G0.out (fun hHeld => ?_)
        clear hK K hHeld hb
        try simp only [Act.put, List.getElem_toArray, List.getElem_cons_succ, List.getElem_cons_zero, List.setIfInBounds_toArray, List.set_cons_zero, List.set_cons_succ]
        refine' wpAnyH_take (i := 6) (v := .agg #[.slice Ax nx cx, .slice Ay ny cy]) rfl (by kernel_rfl) (by kernel_rfl) (by kernel_rfl) (fun _ _ _ h => h) (Or.inl ⟨by rfl, fun W h => by go_simp⟩) G0.out ?_
        try simp only [Act.put, List.getElem_toArray, List.getElem_cons_succ, List.getElem_cons_zero, List.setIfInBounds_toArray, List.set_cons_zero, List.set_cons_succ]
        refine wpAnyH_ready (rs := [7]) (by kernel_rfl) (by simp) ?_
        refine AllReadyH.cons rfl (fun K hK => ?_) AllReadyH.nil
        go_simp
        have hb := below_oneM X2 (.cells #[.slice none 0 0, .slice none 0 0] 27)
        have hn := Blk.new X2 X2.heap.size 27 #[.slice none 0 0, .slice none 0 0] rfl
        obtain ⟨g7, hg⟩ : ∃ g, g = X2.heap.size := ⟨_, rfl⟩
        rw [← hg] at hn
        have HZ := Lib.hid (show W.heap.size ≤ g7 from by rw [hg]; exact HBW.out.size)
        replace G0 := Lib.hid (G0.out.below hb); replace HB0 := Lib.hid (HB0.out.trans (hb.mono HB0.out.size)); replace HBW := Lib.hid (HBW.out.trans (hb.mono HBW.out.size)); replace HXK := Lib.hid (OwnF.below HXK.out hb); replace HXR := Lib.hid (OwnR.below HXR.out hb)
        have G7 := Lib.hid hn
        clear hn
        refine hK.out _ _ G0.out (fun hHeld => ?_)
        clear hK K hHeld hb
        try simp only [Act.put, List.getElem_toArray, List.getElem_cons_succ, List.getElem_cons_zero, List.setIfInBounds_toArray, List.set_cons_zero, List.set_cons_succ]
        rw [← hg]
        clear hg
        obtain ⟨X3, hX⟩ : ∃ Y, Y = X2.alloc (.cells #[.slice none 0 0, .slice none 0 0] 27) := ⟨_, rfl⟩
        rw [← hX] at G0 HB0 HBW G7 HXK HXR ⊢
        clear hX
        refine wpAnyH_ready (rs := [8]) (by kernel_rfl) (by simp) ?_
        refine AllReadyH.cons rfl (fun K hK => ?_) AllReadyH.nil
        rw [if_pos (by rfl)]
        have HM := Lib.hid (show MoOwn _ w.heap.size m (.slice Ax nx cx) (.slice Ay ny cy) from ⟨HXK.out, HXR.out, HAP.out⟩)
        have hoc := mo_one2 HM.out
        refine wp_store_row 27 _ _ rfl g7 #[.slice Ax nx cx, .slice Ay ny cy] rfl rfl 27 _ G7.out (by kernel_rfl) rfl hoc ?_
        have H7 := Lib.hid (show Blk (World.setRow _ g7 #[.slice Ax nx cx, .slice Ay ny cy]) g7 27 #[.slice Ax nx cx, .slice Ay ny cy] from setRow_heap _ _ _ _ _ _ G7.out)
        have hge := HZ.out
        have hws := HWS.out
        have HM9 := Lib.hid (HM.out.farT G7.out (setRow_grown _ g7 #[.slice Ax nx cx, .slice Ay ny cy]))
        have G9 := Lib.hid (show Blk (World.setRow _ g7 #[.slice Ax nx cx, .slice Ay ny cy]) w.heap.size 27 #[.slice Ak nk ck, .slice Ar nr cr] from (setRow_other _ g7 w.heap.size _ (by omega)).trans G0.out)
        have HB9 := Lib.hid (below_setRow' HBW.out hge #[.slice Ax nx cx, .slice Ay ny cy])
        refine hK.out _ _ G9.out (fun hHeld => ?_)
        clear hK K hHeld G0 HBW HB0 G7 HXK HXR HAP HM hoc
        try simp only [Act.put, List.getElem_toArray, List.getElem_cons_succ, List.getElem_cons_zero, List.setIfInBounds_toArray, List.set_cons_zero, List.set_cons_succ]
        refine wpAnyH_done (by kernel_rfl) ?_ _
        go_wp2_with fail
        go_meet
        exact ⟨g7, _, _, rfl, HM9.out, H7.out, HZ.out, HB9.out⟩
      · skip
        go_simp
        have hb := below_oneM X1 (.cells #[.slice none 0 0, .slice none 0 0] 27)
        have hn := Blk.new X1 X1.heap.size 27 #[.slice none 0 0, .slice none 0 0] rfl
        obtain ⟨g7, hg⟩ : ∃ g, g = X1.heap.size := ⟨_, rfl⟩
        rw [← hg] at hn
        have HZ := Lib.hid (show W.heap.size ≤ g7 from by rw [hg]; exact HBW.out.size)
        replace G0 := Lib.hid (G0.out.below hb); replace HB0 := Lib.hid (HB0.out.trans (hb.mono HB0.out.size)); replace HBW := Lib.hid (HBW.out.trans (hb.mono HBW.out.size)); replace HXK := Lib.hid (OwnF.below HXK.out hb)
        have G7 := Lib.hid hn
        clear hn
        refine hK.out _ _ G0.out (fun hHeld => ?_)
        clear hK K hHeld hb
        try simp only [Act.put, List.getElem_toArray, List.getElem_cons_succ, List.getElem_cons_zero, List.setIfInBounds_toArray, List.set_cons_zero, List.set_cons_succ]
        rw [← hg]
        clear hg
        obtain ⟨X4, hX⟩ : ∃ Y, Y = X1.alloc (.cells #[.slice none 0 0, .slice none 0 0] 27) := ⟨_, rfl⟩
        rw [← hX] at G0 HB0 HBW G7 HXK ⊢
        clear hX
        refine wpAnyH_ready (rs := [5]) (by kernel_rfl) (by simp) ?_
        refine AllReadyH.cons rfl (fun K hK => ?_) AllReadyH.nil
        go_simp
        refine (CB _ HB0.out).out.mono ?_
        rintro e X5 ⟨xr, rfl, ho, hb⟩
        obtain ⟨Ay, ny, cy, rfl⟩ := own_slice ho
        have HAP := Lib.hid (show Ap (.slice Ax nx cx) (.slice Ay ny cy) from ap_of (e := X4.heap.size) (fun k hk => OwnF.lt HXK.out k hk) (fun k hk => OwnR.base_le ho k hk))
        have HBX := Lib.hid HB0.out.size
        replace G0 := Lib.hid (G0.out.below hb); replace HB0 := Lib.hid (HB0.out.trans (hb.mono HB0.out.size)); replace HBW := Lib.hid (HBW.out.trans (hb.mono HBW.out.size)); replace G7 := Lib.hid (G7.out.below hb); replace HXK := Lib.hid (OwnF.below HXK.out hb)
        have HXR := Lib.hid (OwnR.low ho HBX.out)
        clear ho HBX
        refine hK.out _ _ G0.out (fun hHeld => ?_)
        clear hK K hHeld hb
        try simp only [Act.put, List.getElem_toArray, List.getElem_cons_succ, List.getElem_cons_zero, List.setIfInBounds_toArray, List.set_cons_zero, List.set_cons_succ]
        refine' wpAnyH_take (i := 6) (v := .agg #[.slice Ax nx cx, .slice Ay ny cy]) rfl (by kernel_rfl) (by kernel_rfl) (by kernel_rfl) (fun _ _ _ h => h) (Or.inl ⟨by rfl, fun W h => by go_simp⟩) G0.out ?_
        try simp only [Act.put, List.getElem_toArray, List.getElem_cons_succ, List.getElem_cons_zero, List.setIfInBounds_toArray, List.set_cons_zero, List.set_cons_succ]
        refine wpAnyH_ready (rs := [8]) (by kernel_rfl) (by simp) ?_
        refine AllReadyH.cons rfl (fun K hK => ?_) AllReadyH.nil
        rw [if_pos (by rfl)]
        have HM := Lib.hid (show MoOwn _ w.heap.size m (.slice Ax nx cx) (.slice Ay ny cy) from ⟨HXK.out, HXR.out, HAP.out⟩)
        have hoc := mo_one2 HM.out
        refine wp_store_row 27 _ _ rfl g7 #[.slice Ax nx cx, .slice Ay ny cy] rfl rfl 27 _ G7.out (by kernel_rfl) rfl hoc ?_
        have H7 := Lib.hid (show Blk (World.setRow _ g7 #[.slice Ax nx cx, .slice Ay ny cy]) g7 27 #[.slice Ax nx cx, .slice Ay ny cy] from setRow_heap _ _ _ _ _ _ G7.out)
        have hge := HZ.out
        have hws := HWS.out
        have HM9 := Lib.hid (HM.out.farT G7.out (setRow_grown _ g7 #[.slice Ax nx cx, .slice Ay ny cy]))
        have G9 := Lib.hid (show Blk (World.setRow _ g7 #[.slice Ax nx cx, .slice Ay ny cy]) w.heap.size 27 #[.slice Ak nk ck, .slice Ar nr cr] from (setRow_other _ g7 w.heap.size _ (by omega)).trans G0.out)
        have HB9 := Lib.hid (below_setRow' HBW.out hge #[.slice Ax nx cx, .slice Ay ny cy])
        refine hK.out _ _ G9.out (fun hHeld => ?_)
        clear hK K hHeld G0 HBW HB0 G7 HXK HXR HAP HM hoc
        try simp only [Act.put, List.getElem_toArray, List.getElem_cons_succ, List.getElem_cons_zero, List.setIfInBounds_toArray, List.set_cons_zero, List.set_cons_succ]
        refine wpAnyH_done (by kernel_rfl) ?_ _
        go_wp2_with fail
        go_meet
        exact ⟨g7, _, _, rfl, HM9.out, H7.out, HZ.out, HB9.out⟩
    · skip
      go_simp
      have hb := below_oneM X0 (.cells #[.slice none 0 0, .slice none 0 0] 27)
      have hn := Blk.new X0 X0.heap.size 27 #[.slice none 0 0, .slice none 0 0] rfl
      obtain ⟨g7, hg⟩ : ∃ g, g = X0.heap.size := ⟨_, rfl⟩
      rw [← hg] at hn
      have HZ := Lib.hid (show W.heap.size ≤ g7 from by rw [hg]; exact HBW.out.size)
      replace G0 := Lib.hid (G0.out.below hb); replace HB0 := Lib.hid (HB0.out.trans (hb.mono HB0.out.size)); replace HBW := Lib.hid (HBW.out.trans (hb.mono HBW.out.size))
      have G7 := Lib.hid hn
      clear hn
      refine hK.out _ _ G0.out (fun hHeld => ?_)
      clear hK K hHeld hb
      try simp only [Act.put, List.getElem_toArray, List.getElem_cons_succ, List.getElem_cons_zero, List.setIfInBounds_toArray, List.set_cons_zero, List.set_cons_succ]
      rw [← hg]
      clear hg
      obtain ⟨X6, hX⟩ : ∃ Y, Y = X0.alloc (.cells #[.slice none 0 0, .slice none 0 0] 27) := ⟨_, rfl⟩
      rw [← hX] at G0 HB0 HBW G7 ⊢
      clear hX
      refine wpAnyH_ready (rs := [2]) (by kernel_rfl) (by simp) ?_
      refine AllReadyH.cons rfl (fun K hK => ?_) AllReadyH.nil
      go_simp
      refine (CA _ HB0.out).out.mono ?_
      rintro e X7 ⟨xk, rfl, ho, hb⟩
      obtain ⟨Ax, nx, cx, rfl⟩ := own_slice ho
      have HBX := Lib.hid HB0.out.size
      replace G0 := Lib.hid (G0.out.below hb); replace HB0 := Lib.hid (HB0.out.trans (hb.mono HB0.out.size)); replace HBW := Lib.hid (HBW.out.trans (hb.mono HBW.out.size)); replace G7 := Lib.hid (G7.out.below hb)
      have HXK := Lib.hid (OwnF.base ho HBX.out)
      clear ho HBX
      refine hK.out _ _ G0.out (fun hHeld => ?_)
      clear hK K hHeld hb
      try simp only [Act.put, List.getElem_toArray, List.getElem_cons_succ, List.getElem_cons_zero, List.setIfInBounds_toArray, List.set_cons_zero, List.set_cons_succ]
      refine wpAnyH_ready (rs := [5]) (by kernel_rfl) (by simp) ?_
      refine AllReadyH.cons rfl (fun K hK => ?_) AllReadyH.nil
      go_simp
      refine (CB _ HB0.out).out.mono ?_
      rintro e X8 ⟨xr, rfl, ho, hb⟩
      obtain ⟨Ay, ny, cy, rfl⟩ := own_slice ho
      have HAP := Lib.hid (show Ap (.slice Ax nx cx) (.slice Ay ny cy) from ap_of (e := X7.heap.size) (fun k hk => OwnF.lt HXK.out k hk) (fun k hk => OwnR.base_le ho k hk))
      have HBX := Lib.hid HB0.out.size
      replace G0 := Lib.hid (G0.out.below hb); replace HB0 := Lib.hid (HB0.out.trans (hb.mono HB0.out.size)); replace HBW := Lib.hid (HBW.out.trans (hb.mono HBW.out.size)); replace G7 := Lib.hid (G7.out.below hb); replace HXK := Lib.hid (OwnF.below HXK.out hb)
      have HXR := Lib.hid (OwnR.low ho HBX.out)
      clear ho HBX
      refine hK.out _ _ G0.out (fun hHeld => ?_)
      clear hK K hHeld hb
      try simp only [Act.put, List.getElem_toArray, List.getElem_cons_succ, List.getElem_cons_zero, List.setIfInBounds_toArray, List.set_cons_zero, List.set_cons_succ]
      refine' wpAnyH_take (i := 6) (v := .agg #[.slice Ax nx cx, .slice Ay ny cy]) rfl (by kernel_rfl) (by kernel_rfl) (by kernel_rfl) (fun _ _ _ h => h) (Or.inl ⟨by rfl, fun W h => by go_simp⟩) G0.out ?_
      try simp only [Act.put, List.getElem_toArray, List.getElem_cons_succ, List.getElem_cons_zero, List.setIfInBounds_toArray, List.set_cons_zero, List.set_cons_succ]
      refine wpAnyH_ready (rs := [8]) (by kernel_rfl) (by simp) ?_
      refine AllReadyH.cons rfl (fun K hK => ?_) AllReadyH.nil
      rw [if_pos (by rfl)]
      have HM := Lib.hid (show MoOwn _ w.heap.size m (.slice Ax nx cx) (.slice Ay ny cy) from ⟨HXK.out, HXR.out, HAP.out⟩)
      have hoc := mo_one2 HM.out
      refine wp_store_row 27 _ _ rfl g7 #[.slice Ax nx cx, .slice Ay ny cy] rfl rfl 27 _ G7.out (by kernel_rfl) rfl hoc ?_
      have H7 := Lib.hid (show Blk (World.setRow _ g7 #[.slice Ax nx cx, .slice Ay ny cy]) g7 27 #[.slice Ax nx cx, .slice Ay ny cy] from setRow_heap _ _ _ _ _ _ G7.out)
      have hge := HZ.out
      have hws := HWS.out
      have HM9 := Lib.hid (HM.out.farT G7.out (setRow_grown _ g7 #[.slice Ax nx cx, .slice Ay ny cy]))
      have G9 := Lib.hid (show Blk (World.setRow _ g7 #[.slice Ax nx cx, .slice Ay ny cy]) w.heap.size 27 #[.slice Ak nk ck, .slice Ar nr cr] from (setRow_other _ g7 w.heap.size _ (by omega)).trans G0.out)
      have HB9 := Lib.hid (below_setRow' HBW.out hge #[.slice Ax nx cx, .slice Ay ny cy])
      refine hK.out _ _ G9.out (fun hHeld => ?_)
      clear hK K hHeld G0 HBW HB0 G7 HXK HXR HAP HM hoc
      try simp only [Act.put, List.getElem_toArray, List.getElem_cons_succ, List.getElem_cons_zero, List.setIfInBounds_toArray, List.set_cons_zero, List.set_cons_succ]
      refine wpAnyH_done (by kernel_rfl) ?_ _
      go_wp2_with fail
      go_meet
      exact ⟨g7, _, _, rfl, HM9.out, H7.out, HZ.out, HB9.out⟩
  case rest =>
    obtain ⟨g7, xk, xr, rfl, hx, h7, hg7, hb7⟩ := hcut
    obtain ⟨Ax, nx, cx, rfl⟩ := own_slice hx.keys
    obtain ⟨Ay, ny, cy, rfl⟩ := own_slice hx.rows
    have hws := g2.lt
    have HSZ := Lib.hid (show w.heap.size + 3 ≤ W.heap.size from g2.lt)
    have H7 := Lib.hid (show w.heap.size + 3 ≤ g7 by omega)
    have HB := Lib.hid (hb.trans (hb7.mono hb.size))
    have G0 := Lib.hid (g0.below hb7)
    have G1 := Lib.hid (g1.below hb7)
    have G2 := Lib.hid (g2.below hb7)
    have G7 := Lib.hid h7
    have HX := Lib.hid hx
    replace HSZ := Lib.hid (Nat.le_trans HSZ.out hb7.size)
    clear CA CB hb g0 g1 g2 hb7 hx h7 hg7 hws
    go_wp2_with ((with_reducible show wpList _ _ _ _ _ _); refine wpList_load_row rfl 27 _ rfl (w.heap.size) rfl 27 #[.slice Ak nk ck, .slice Ar nr cr] (0, 0) _ G0.out hu rfl (by kernel_rfl) ?_)
    refine (CM _ HB.out).out.mono ?_
    rintro e W3 ⟨rfl, hb⟩
    replace G1 := Lib.hid (G1.out.below hb); replace G2 := Lib.hid (G2.out.below hb); replace HB := Lib.hid (HB.out.trans (hb.mono HB.out.size)); replace HSZ := Lib.hid (Nat.le_trans HSZ.out hb.size); replace G7 := Lib.hid (G7.out.below hb); replace HX := Lib.hid (HX.out.below hb)
    clear hb CM G0
    have hoc := mo_one2 HX.out
    cases mo with
    | false =>
      have HR := Lib.hid (HV.out.trans (if_neg (fun q => by cases q.1)))
      clear HV CO CG CR
      go_wp2_with ((with_reducible show wpList _ _ _ _ _ _); first | refine wpList_load_row rfl 27 _ rfl (g7) rfl 27 #[.slice Ax nx cx, .slice Ay ny cy] (0, 0) _ G7.out hu rfl (by kernel_rfl) ?_ | refine wpList_store_row rfl 27 _ _ rfl (w.heap.size + 2) #[.slice Ax nx cx, .slice Ay ny cy] rfl rfl 27 _ G2.out (by kernel_rfl) rfl hoc ?_)
      refine post_gen (fun X => Blk X (w.heap.size + 2) 27 #[.slice Ax nx cx, .slice Ay ny cy] ∧ Below w.heap.size w X ∧ MoOwn X w.heap.size m (.slice Ax nx cx) (.slice Ay ny cy)) ⟨setRow_heap _ _ _ _ _ _ G2.out, below_setRow' HB.out (by omega) _, HX.out.farT G2.out (setRow_grown _ _ _)⟩ ?_
      rintro X ⟨h1, hb, hm⟩
      exact bodyPost_ret (v := .tuple #[.agg #[.slice Ax nx cx, .slice Ay ny cy], .int .i64 (1), .slice none 0 0]) (results_cellM3 rfl _ _ _ _ _ _ _ _ rfl h1 hu rfl (by kernel_rfl) rfl rfl) rfl ⟨_, _, _, by rw [HR.out], by rw [HR.out]; exact hm, by rw [HR.out]; exact own_nilR X _, ⟨ap_nilR _, ap_nilR _⟩, hb⟩
    | true =>
      have q0 := G1.out.get 0
      simp at q0
      have q1 := G1.out.get 1
      simp at q1
      have q2 := G1.out.get 2
      simp at q2
      have q3 := G1.out.get 3
      simp at q3
      go_wp2_with fail
      refine (CO _).out.mono ?_
      rintro e W4 ⟨rfl, hb⟩
      clear CO q0 q1 q2 q3
      replace G1 := Lib.hid (G1.out.below hb); replace G2 := Lib.hid (G2.out.below hb); replace HB := Lib.hid (HB.out.trans (hb.mono HB.out.size)); replace HSZ := Lib.hid (Nat.le_trans HSZ.out hb.size); replace G7 := Lib.hid (G7.out.below hb); replace HX := Lib.hid (HX.out.below hb)
      clear hb
      cases oo with
      | false =>
        have HR := Lib.hid (HV.out.trans (if_neg (fun q => by cases q.2)))
        clear HV CG CR
        go_wp2_with ((with_reducible show wpList _ _ _ _ _ _); first | refine wpList_load_row rfl 27 _ rfl (g7) rfl 27 #[.slice Ax nx cx, .slice Ay ny cy] (0, 0) _ G7.out hu rfl (by kernel_rfl) ?_ | refine wpList_store_row rfl 27 _ _ rfl (w.heap.size + 2) #[.slice Ax nx cx, .slice Ay ny cy] rfl rfl 27 _ G2.out (by kernel_rfl) rfl hoc ?_)
        refine post_gen (fun X => Blk X (w.heap.size + 2) 27 #[.slice Ax nx cx, .slice Ay ny cy] ∧ Below w.heap.size w X ∧ MoOwn X w.heap.size m (.slice Ax nx cx) (.slice Ay ny cy)) ⟨setRow_heap _ _ _ _ _ _ G2.out, below_setRow' HB.out (by omega) _, HX.out.farT G2.out (setRow_grown _ _ _)⟩ ?_
        rintro X ⟨h1, hb, hm⟩
        exact bodyPost_ret (v := .tuple #[.agg #[.slice Ax nx cx, .slice Ay ny cy], .int .i64 (1), .slice none 0 0]) (results_cellM3 rfl _ _ _ _ _ _ _ _ rfl h1 hu rfl (by kernel_rfl) rfl rfl) rfl ⟨_, _, _, by rw [HR.out], by rw [HR.out]; exact hm, by rw [HR.out]; exact own_nilR X _, ⟨ap_nilR _, ap_nilR _⟩, hb⟩
      | true =>
        have HV2 := Lib.hid (HV.out.trans (if_pos (by simp)))
        clear HV
        have q0 := G1.out.get 0
        simp at q0
        have q1 := G1.out.get 1
        simp at q1
        have q2 := G1.out.get 2
        simp at q2
        have q3 := G1.out.get 3
        simp at q3
        by_cases c1 : okind = 1
        · have d1 : (okind == 1) = true := by rw [beq_iff_eq]; exact c1
          have HR := Lib.hid (HV2.out.trans (if_pos c1))
          clear c1
          go_wp2_with fail
          refine (CG _ _ _ _ HX.out G7.out HB.out.size trivial).out.mono ?_
          rintro e W5 ⟨uk, ur, rfl, hy, h7, hc⟩
          have hnt := no_touch (gp := g7) (n := W4.heap.size) HX.out G2.out (by decide) (by decide) (by have := H7.out; omega) (by have := HSZ.out; omega)
          have hb := Chg.to_below HB.out hc HB.out.size (fun i hi => touch_ge HX.out (by have := H7.out; omega) HB.out.size i hi)
          replace G2 := Lib.hid (G2.out.chg hc hnt)
          replace HB := Lib.hid hb
          have HY := Lib.hid hy
          replace G7 := Lib.hid h7
          clear hy h7 hc hb hnt hoc HX CG CR HV2 q0 q1 q2 q3
          obtain ⟨Au, nu, cu, rfl⟩ := own_slice HY.out.keys
          obtain ⟨Av, nv, cv, rfl⟩ := own_slice HY.out.rows
          have hoc := mo_one2 HY.out
          go_wp2_with ((with_reducible show wpList _ _ _ _ _ _); first | refine wpList_load_row rfl 27 _ rfl (g7) rfl 27 #[.slice Au nu cu, .slice Av nv cv] (0, 0) _ G7.out hu rfl (by kernel_rfl) ?_ | refine wpList_store_row rfl 27 _ _ rfl (w.heap.size + 2) #[.slice Au nu cu, .slice Av nv cv] rfl rfl 27 _ G2.out (by kernel_rfl) rfl hoc ?_)
          refine post_gen (fun X => Blk X (w.heap.size + 2) 27 #[.slice Au nu cu, .slice Av nv cv] ∧ Below w.heap.size w X ∧ MoOwn X w.heap.size rg.1 (.slice Au nu cu) (.slice Av nv cv)) ⟨setRow_heap _ _ _ _ _ _ G2.out, below_setRow' HB.out (by omega) _, HY.out.farT G2.out (setRow_grown _ _ _)⟩ ?_
          rintro X ⟨h1, hb, hm⟩
          exact bodyPost_ret (v := .tuple #[.agg #[.slice Au nu cu, .slice Av nv cv], .int .i64 (rg.2), .slice none 0 0]) (results_cellM3 rfl _ _ _ _ _ _ _ _ rfl h1 hu rfl (by kernel_rfl) rfl rfl) rfl ⟨_, _, _, by rw [HR.out], by rw [HR.out]; exact hm, by rw [HR.out]; exact own_nilR X _, ⟨ap_nilR _, ap_nilR _⟩, hb⟩
        have d1 : (okind == 1) = false := by rw [beq_eq_false_iff_ne]; exact c1
        by_cases c2 : okind = 2
        · have d2 : (okind == 2) = true := by rw [beq_iff_eq]; exact c2
          have HR := Lib.hid ((HV2.out.trans (if_neg c1)).trans (if_pos c2))
          clear c1 c2
          go_wp2_with fail
          refine (CR _ _ _ _ HX.out G7.out HB.out.size trivial).out.mono ?_
          rintro e W5 ⟨uk, ur, rfl, hy, h7, hc⟩
          have hnt := no_touch (gp := g7) (n := W4.heap.size) HX.out G2.out (by decide) (by decide) (by have := H7.out; omega) (by have := HSZ.out; omega)
          have hb := Chg.to_below HB.out hc HB.out.size (fun i hi => touch_ge HX.out (by have := H7.out; omega) HB.out.size i hi)
          replace G2 := Lib.hid (G2.out.chg hc hnt)
          replace HB := Lib.hid hb
          have HY := Lib.hid hy
          replace G7 := Lib.hid h7
          clear hy h7 hc hb hnt hoc HX CG CR HV2 q0 q1 q2 q3
          obtain ⟨Au, nu, cu, rfl⟩ := own_slice HY.out.keys
          obtain ⟨Av, nv, cv, rfl⟩ := own_slice HY.out.rows
          have hoc := mo_one2 HY.out
          go_wp2_with ((with_reducible show wpList _ _ _ _ _ _); first | refine wpList_load_row rfl 27 _ rfl (g7) rfl 27 #[.slice Au nu cu, .slice Av nv cv] (0, 0) _ G7.out hu rfl (by kernel_rfl) ?_ | refine wpList_store_row rfl 27 _ _ rfl (w.heap.size + 2) #[.slice Au nu cu, .slice Av nv cv] rfl rfl 27 _ G2.out (by kernel_rfl) rfl hoc ?_)
          refine post_gen (fun X => Blk X (w.heap.size + 2) 27 #[.slice Au nu cu, .slice Av nv cv] ∧ Below w.heap.size w X ∧ MoOwn X w.heap.size rc.1 (.slice Au nu cu) (.slice Av nv cv)) ⟨setRow_heap _ _ _ _ _ _ G2.out, below_setRow' HB.out (by omega) _, HY.out.farT G2.out (setRow_grown _ _ _)⟩ ?_
          rintro X ⟨h1, hb, hm⟩
          exact bodyPost_ret (v := .tuple #[.agg #[.slice Au nu cu, .slice Av nv cv], .int .i64 (rc.2), .slice none 0 0]) (results_cellM3 rfl _ _ _ _ _ _ _ _ rfl h1 hu rfl (by kernel_rfl) rfl rfl) rfl ⟨_, _, _, by rw [HR.out], by rw [HR.out]; exact hm, by rw [HR.out]; exact own_nilR X _, ⟨ap_nilR _, ap_nilR _⟩, hb⟩
        have d2 : (okind == 2) = false := by rw [beq_eq_false_iff_ne]; exact c2
        have HR := Lib.hid ((HV2.out.trans (if_neg c1)).trans (if_neg c2))
        clear HV2 CG CR c1 c2 hoc
        go_upto_region 11 with fail
        have hbd : Below W4.heap.size W4 W4.drew := below_drew _ _
        replace G2 := Lib.hid (G2.out.below hbd); replace HB := Lib.hid (HB.out.trans (hbd.mono HB.out.size)); replace G7 := Lib.hid (G7.out.below hbd); replace HX := Lib.hid (HX.out.below hbd)
        clear hbd q0 q1 q2 q3
        refine wp_region_held_drew (S := fun X : World => Blk X g7 27 #[.slice Ax nx cx, .slice Ay ny cy]) (by kernel_rfl) G7.out (fun hHeld => ?_)
        clear hHeld
        generalize W4.drew = X0 at *
        refine' wpAnyH_take (i := 0) (v := .pointer (some ⟨g7, 0, none⟩)) rfl (by kernel_rfl) (by kernel_rfl) (by kernel_rfl) (fun _ _ _ h => h) (Or.inl ⟨by rfl, fun W h => by go_simp⟩) G7.out ?_
        try simp only [Act.put, List.getElem_toArray, List.getElem_cons_succ, List.getElem_cons_zero, List.setIfInBounds_toArray, List.set_cons_zero, List.set_cons_succ]
        refine' wpAnyH_take (i := 1) (v := .slice Ax nx cx) rfl (by kernel_rfl) (by kernel_rfl) (by kernel_rfl) (fun _ _ _ h => h) (Or.inl ⟨by rfl, fun W h => by have q := Blk.get h 0; simp at q; go_simp⟩) G7.out ?_
        try simp only [Act.put, List.getElem_toArray, List.getElem_cons_succ, List.getElem_cons_zero, List.setIfInBounds_toArray, List.set_cons_zero, List.set_cons_succ]
        refine' wpAnyH_take (i := 2) (v := .agg #[.slice Ax nx cx, .slice none 0 0]) rfl (by kernel_rfl) (by kernel_rfl) (by kernel_rfl) (fun _ _ _ h => h) (Or.inl ⟨by rfl, fun W h => by go_simp⟩) G7.out ?_
        try simp only [Act.put, List.getElem_toArray, List.getElem_cons_succ, List.getElem_cons_zero, List.setIfInBounds_toArray, List.set_cons_zero, List.set_cons_succ]
        refine' wpAnyH_take (i := 3) (v := .pointer (some ⟨g7, 1, none⟩)) rfl (by kernel_rfl) (by kernel_rfl) (by kernel_rfl) (fun _ _ _ h => h) (Or.inl ⟨by rfl, fun W h => by go_simp⟩) G7.out ?_
        try simp only [Act.put, List.getElem_toArray, List.getElem_cons_succ, List.getElem_cons_zero, List.setIfInBounds_toArray, List.set_cons_zero, List.set_cons_succ]
        refine' wpAnyH_take (i := 4) (v := .slice Ay ny cy) rfl (by kernel_rfl) (by kernel_rfl) (by kernel_rfl) (fun _ _ _ h => h) (Or.inl ⟨by rfl, fun W h => by have q := Blk.get h 1; simp at q; go_simp⟩) G7.out ?_
        try simp only [Act.put, List.getElem_toArray, List.getElem_cons_succ, List.getElem_cons_zero, List.setIfInBounds_toArray, List.set_cons_zero, List.set_cons_succ]
        refine wpAnyH_ready (rs := [5]) (by kernel_rfl) (by simp) ?_
        refine AllReadyH.cons rfl (fun K hK => ?_) AllReadyH.nil
        rw [if_pos (by rfl)]
        refine wp_store_row 27 _ _ rfl (w.heap.size + 2) #[.slice Ax nx cx, .slice none 0 0] rfl rfl 27 _ G2.out (by kernel_rfl) rfl (by simp [Value.oneCell']) ?_
        have h7 := H7.out
        have G9 := Lib.hid (show Blk (World.setRow _ (w.heap.size + 2) #[.slice Ax nx cx, .slice none 0 0]) g7 27 #[.slice Ax nx cx, .slice Ay ny cy] from (setRow_other _ (w.heap.size + 2) g7 _ (by omega)).trans G7.out)
        have H2 := Lib.hid (show Blk (World.setRow _ (w.heap.size + 2) #[.slice Ax nx cx, .slice none 0 0]) (w.heap.size + 2) 27 #[.slice Ax nx cx, .slice none 0 0] from setRow_heap _ _ _ _ _ _ G2.out)
        have HB9 := Lib.hid (below_setRow' HB.out (show w.heap.size ≤ w.heap.size + 2 by omega) #[.slice Ax nx cx, .slice none 0 0])
        have HX9 := Lib.hid (HX.out.farT G2.out (setRow_grown _ (w.heap.size + 2) #[.slice Ax nx cx, .slice none 0 0]))
        refine hK.out _ _ G9.out (fun hHeld => ?_)
        clear hK K hHeld G7 G2 HB HX
        try simp only [Act.put, List.getElem_toArray, List.getElem_cons_succ, List.getElem_cons_zero, List.setIfInBounds_toArray, List.set_cons_zero, List.set_cons_succ]
        refine' wpAnyH_take (i := 6) (v := .int .i64 0) rfl (by kernel_rfl) (by kernel_rfl) (by kernel_rfl) (fun _ _ _ h => h) (Or.inl ⟨by rfl, fun W h => by go_simp⟩) G9.out ?_
        try simp only [Act.put, List.getElem_toArray, List.getElem_cons_succ, List.getElem_cons_zero, List.setIfInBounds_toArray, List.set_cons_zero, List.set_cons_succ]
        refine' wpAnyH_take (i := 7) (v := .slice Ay ny cy) rfl (by kernel_rfl) (by kernel_rfl) (by kernel_rfl) (fun _ _ _ h => h) (Or.inl ⟨by rfl, fun W h => by go_simp⟩) G9.out ?_
        try simp only [Act.put, List.getElem_toArray, List.getElem_cons_succ, List.getElem_cons_zero, List.setIfInBounds_toArray, List.set_cons_zero, List.set_cons_succ]
        refine wpAnyH_done (by kernel_rfl) ?_ _
        go_wp2_with fail
        exact bodyPost_ret (v := .tuple #[.agg #[.slice Ax nx cx, .slice none 0 0], .int .i64 (0), .slice Ay ny cy]) (results_cellM3 rfl _ _ _ _ _ _ _ _ rfl H2.out hu rfl (by kernel_rfl) rfl rfl) rfl ⟨_, _, _, by rw [HR.out], by rw [HR.out]; exact ⟨HX9.out.keys, own_nilR _ _, ap_nilR _⟩, by rw [HR.out]; exact HX9.out.rows, ⟨HX9.out.ap, Ap.symm (ap_nilR _)⟩, HB9.out⟩
end Go.Proofs.YtbhhhakfjmaglaaGreat
