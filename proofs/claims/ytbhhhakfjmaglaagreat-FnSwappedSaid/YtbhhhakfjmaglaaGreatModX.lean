/-
  Chapter 13: the model's ModelDo.
-/
import Derived.Test.YtbhhhakfjmaglaaGreatModD
import Derived.Test.YtbhhhakfjmaglaaGreatModD2
import Derived.Test.YtbhhhakfjmaglaaGreatModC
import Derived.Test.YtbhhhakfjmaglaaGreatModO
import Derived.Test.YtbhhhakfjmaglaaGreatOpS
namespace Go.Proofs.YtbhhhakfjmaglaaGreat
open Go.RowKit M
set_option linter.unusedVariables false
set_option linter.unusedSimpArgs false
/-- A row of another type lies in another block. -/
theorem own_ne {w : World} {base F n : Nat} {t t' : TypeId} {v : Value} {xs : List Value} {g : Nat} {cs : Array Value} (h : w.ownsRow base t F v n xs) (hb : Blk w g t' cs) (ht : t ≠ t') : v.ownBlock = none ∨ v.ownBlock ≠ some g := by
  rcases h.2 with ⟨rfl, _⟩ | ⟨k, cap, cur, rfl, _, hk, _⟩
  · exact .inl rfl
  · refine .inr fun e => ?_
    have e : k = g := Option.some.inj e
    subst e
    have hb' : w.heap[k]? = some (.cells cs t' (0, 0)) := hb
    rw [hk] at hb'
    injection hb' with hb'
    injection hb' with _ e2
    exact ht e2
theorem MoOwn.farT {w w' : World} {B g : Nat} {m : Mo} {vk vr : Value} {cs : Array Value} (h : MoOwn w B m vk vr) (hb : Blk w g 27 cs) (hg : w.grownBy w' (some g)) : MoOwn w' B m vk vr :=
  ⟨h.keys.kept hg (own_ne h.keys hb (by decide)), h.rows.kept hg (own_ne h.rows hb (by decide)), h.ap⟩
/-- A call hands back a model of its own, a code and own rows. -/
def Made3 (w : World) (p : Mo × Int × List R) (e : Ending) (w' : World) : Prop := ∃ vk vr vo, e = .returned (.tuple #[.agg #[vk, vr], .int .i64 p.2.1, vo]) ∧ MoOwn w' w.heap.size p.1 vk vr ∧ OwnR w' w.heap.size vo p.2.2 ∧ (Ap vk vo ∧ Ap vr vo) ∧ Below w.heap.size w w'
theorem MoOwn.newest {w : World} {B g : Nat} {m : Mo} {vk vr : Value} (h : MoOwn w B m vk vr) (hg : w.heap.size ≤ g) : Ap vk (.slice (some ⟨g, 0, none⟩) 0 0) ∧ Ap vr (.slice (some ⟨g, 0, none⟩) 0 0) :=
  ⟨ap_of (e := w.heap.size) (fun k hk => h.keys.lt k hk) (fun k hk => by have e : g = k := Option.some.inj hk; omega), ap_of (e := w.heap.size) (fun k hk => h.rows.lt k hk) (fun k hk => by have e : g = k := Option.some.inj hk; omega)⟩
set_option maxRecDepth 100000 in
set_option maxHeartbeats 1500000 in
theorem sModelDo_any (w : World) (B : Nat) (m : Mo) (o : O) (vk vr : Value) (h : MoOwn w B m vk vr) (hB : B ≤ w.heap.size) (hk : m.keys.length ≤ 1048576) (hr : m.rows.length ≤ 1048576) (hf : m.Fit) (ho : o.key.size ≤ maxLen) : Calls Tryz.prog 9 #[.agg #[vk, vr], o.v] w (Made3 w (mDoV m o)) := by
  have CC := fun W (hb : Below w.heap.size w W) => Lib.hid (sMoCopy_any W B m vk vr (h.below hb) hk hr)
  have CM := fun W (hb : Below w.heap.size w W) => Lib.hid (sModelOk_any W m vk vr (h.below hb).win hf)
  have CO := fun W => Lib.hid (sOpOk_any W o ho)
  have CG := fun W xk xr (hx : MoOwn W w.heap.size m xk xr) (hw : w.heap.size ≤ W.heap.size) => Lib.hid (sMoReg_any W w.heap.size m o xk xr hx hw hk)
  have CR := fun W xk xr (hx : MoOwn W w.heap.size m xk xr) (hw : w.heap.size ≤ W.heap.size) => Lib.hid (sMoRec_any W w.heap.size m o xk xr hx hw hr hf ho)
  have HV := Lib.hid (show mDoV m o = if modelOkV m = true ∧ opOkV o = true then (if o.kind = 1 then ((regV m o).1, (regV m o).2, []) else if o.kind = 2 then ((recV m o).1, (recV m o).2, []) else (⟨m.keys, []⟩, 0, m.rows)) else (m, 1, []) from rfl)
  have hu := Tryz.underlying27
  have huo := Tryz.underlying29
  obtain ⟨Ak, nk, ck, rfl⟩ := own_slice h.keys
  obtain ⟨Ar, nr, cr, rfl⟩ := own_slice h.rows
  have HO0 := Lib.hid h
  clear h hB hk hr hf ho
  generalize mDoV m o = res at *
  generalize modelOkV m = mo at *
  generalize opOkV o = oo at *
  generalize regV m o = rg at *
  generalize recV m o = rc at *
  obtain ⟨okind, okey, owhat, oval⟩ := o
  unfold O.v at CO CG CR ⊢
  simp only at *
  go_enter Tryz.func9, Tryz.ntmps9
  go_upto_region 1 with fail
  refine wp_gen (fun W => Blk W w.heap.size 27 #[(.slice Ak nk ck), (.slice Ar nr cr)] ∧ Blk W (w.heap.size + 1) 29 #[.int .i64 okind, .string okey, .int .i64 owhat, .int .i64 oval] ∧ Blk W (w.heap.size + 2) 27 #[.slice none 0 0, .slice none 0 0] ∧ Below w.heap.size w W) ⟨((Blk.new w _ _ _ rfl).alloc _).alloc _, (Blk.new _ _ _ _ (by simp [go_sem])).alloc _, Blk.new _ _ _ _ (by simp [go_sem]), (((Below.refl _ _).alloc (Nat.le_refl _) _).alloc (by simp [go_sem]) _).alloc (by simp [go_sem]; omega) _⟩ ?_
  rintro W ⟨g0, g1, g2, hb⟩
  have HSZ := Lib.hid (show w.heap.size + 3 ≤ W.heap.size from g2.lt)
  have G0 := Lib.hid g0; have G1 := Lib.hid g1; have G2 := Lib.hid g2; have HB := Lib.hid hb; have HO := Lib.hid (HO0.out.below hb)
  clear g0 g1 g2 hb
  go_wp2_with ((with_reducible show wpList _ _ _ _ _ _); refine wpList_load_row rfl 27 _ rfl (w.heap.size) rfl 27 #[(.slice Ak nk ck), (.slice Ar nr cr)] (0, 0) _ G0.out hu rfl (by kernel_rfl) ?_)
  refine (CC _ HB.out).out.mono ?_
  rintro e W1 ⟨xk, xr, rfl, hx, hb⟩
  have HX := Lib.hid (show MoOwn W1 w.heap.size m xk xr from ⟨hx.keys.base HB.out.size, hx.rows.low HB.out.size, hx.ap⟩)
  replace G0 := Lib.hid (G0.out.below hb); replace G1 := Lib.hid (G1.out.below hb); replace G2 := Lib.hid (G2.out.below hb); replace HB := Lib.hid (HB.out.trans (hb.mono HB.out.size)); replace HSZ := Lib.hid (Nat.le_trans HSZ.out hb.size)
  replace HO := Lib.hid (HO.out.below hb)
  clear hb CC hx
  obtain ⟨Ax, nx, cx, rfl⟩ := own_slice HX.out.keys
  obtain ⟨Ay, ny, cy, rfl⟩ := own_slice HX.out.rows
  have H7 := Lib.hid (show w.heap.size + 3 ≤ W1.heap.size from HSZ.out)
  have hoc := mo_one2 HX.out
  go_upto_region 2 with ((with_reducible show wpList _ _ _ _ _ _); refine wpList_store_row rfl 27 _ _ rfl W1.heap.size #[(.slice Ax nx cx), (.slice Ay ny cy)] rfl rfl 27 _ (Blk.new W1 W1.heap.size 27 #[.slice none 0 0, .slice none 0 0] rfl) (by kernel_rfl) rfl hoc ?_)
  refine wp_gen (fun X => Blk X W1.heap.size 27 #[(.slice Ax nx cx), (.slice Ay ny cy)] ∧ Below W1.heap.size W1 X) ⟨setRow_heap _ _ _ _ _ _ (Blk.new W1 W1.heap.size 27 #[.slice none 0 0, .slice none 0 0] rfl), below_setRow' ((Below.refl _ _).alloc (Nat.le_refl _) _) (Nat.le_refl _) _⟩ ?_
  rintro W2 ⟨g7b, hb⟩
  replace G0 := Lib.hid (G0.out.below hb); replace G1 := Lib.hid (G1.out.below hb); replace G2 := Lib.hid (G2.out.below hb); replace HB := Lib.hid (HB.out.trans (hb.mono HB.out.size)); replace HSZ := Lib.hid (Nat.le_trans HSZ.out hb.size)
  replace HO := Lib.hid (HO.out.below hb)
  replace HX := Lib.hid (HX.out.below hb)
  have G7 := Lib.hid g7b
  have G7 := Lib.hid g7b
  clear hb g7b hoc
  generalize W1.heap.size = g7 at *
  go_wp2_with ((with_reducible show wpList _ _ _ _ _ _); refine wpList_load_row rfl 27 _ rfl (w.heap.size) rfl 27 #[(.slice Ak nk ck), (.slice Ar nr cr)] (0, 0) _ G0.out hu rfl (by kernel_rfl) ?_)
  refine (CM _ HB.out).out.mono ?_
  rintro e W3 ⟨rfl, hb⟩
  replace HO := Lib.hid (HO.out.below hb)
  replace G0 := Lib.hid (G0.out.below hb); replace G1 := Lib.hid (G1.out.below hb); replace G2 := Lib.hid (G2.out.below hb); replace HB := Lib.hid (HB.out.trans (hb.mono HB.out.size)); replace HSZ := Lib.hid (Nat.le_trans HSZ.out hb.size)
  replace G7 := Lib.hid (G7.out.below hb)
  replace HX := Lib.hid (HX.out.below hb)
  clear hb
  cases mo with
  | false =>
    have HR := Lib.hid (HV.out.trans (if_neg (fun q => by cases q.1)))
    clear HV CO CG CR
    have hoc := mo_one2 HX.out
    have hbz : Below W3.heap.size W3 (W3.alloc (.cells #[] 42)) := (Below.refl _ _).alloc (Nat.le_refl _) _
    go_wp2_with ((with_reducible show wpList _ _ _ _ _ _); first | refine wpList_load_row rfl 27 _ rfl (g7) rfl 27 #[(.slice Ax nx cx), (.slice Ay ny cy)] (0, 0) _ G7.out hu rfl (by kernel_rfl) ?_ | refine wpList_store_row rfl 27 _ _ rfl (w.heap.size + 2) #[(.slice Ax nx cx), (.slice Ay ny cy)] rfl rfl 27 _ (G2.out.alloc _) (by kernel_rfl) rfl hoc ?_)
    refine post_gen (fun X => Blk X (w.heap.size + 2) 27 #[(.slice Ax nx cx), (.slice Ay ny cy)] ∧ Below w.heap.size w X ∧ MoOwn X w.heap.size m (.slice Ax nx cx) (.slice Ay ny cy) ∧ OwnR X w.heap.size (.slice (some ⟨W3.heap.size, 0, none⟩) 0 0) []) ⟨setRow_heap _ _ _ _ _ _ (G2.out.alloc _), below_setRow' (HB.out.trans (hbz.mono HB.out.size)) (by omega) _, (HX.out.below hbz).farT (G2.out.alloc _) (setRow_grown _ _ _), (OwnR.empty W3 w.heap.size HB.out.size).kept (setRow_grown _ _ _) (.inr (fun e => by have e : W3.heap.size = w.heap.size + 2 := Option.some.inj e; have := HSZ.out; omega))⟩ ?_
    rintro X ⟨h1, hb, hm, hr⟩
    exact bodyPost_ret (v := .tuple #[.agg #[(.slice Ax nx cx), (.slice Ay ny cy)], .int .i64 (1), .slice (some ⟨W3.heap.size, 0, none⟩) 0 0]) (results_cellM3 rfl _ _ _ _ _ _ _ _ rfl h1 hu rfl (by kernel_rfl) rfl rfl) rfl ⟨_, _, _, by rw [HR.out], by rw [HR.out]; exact hm, by rw [HR.out]; exact hr, HX.out.newest (Nat.le_refl _), hb⟩
  | true =>
    have q0 := G1.out.get 0
    simp at q0
    have q1 := G1.out.get 1
    simp at q1
    have q2 := G1.out.get 2
    simp at q2
    have q3 := G1.out.get 3
    simp at q3
    go_wp2_with fail
    refine (CO _).out.mono ?_
    rintro e W4 ⟨rfl, hb⟩
    clear CO CM q0 q1 q2 q3
    replace G0 := Lib.hid (G0.out.below hb); replace G1 := Lib.hid (G1.out.below hb); replace G2 := Lib.hid (G2.out.below hb); replace HB := Lib.hid (HB.out.trans (hb.mono HB.out.size)); replace HSZ := Lib.hid (Nat.le_trans HSZ.out hb.size)
    replace G7 := Lib.hid (G7.out.below hb)
    replace HX := Lib.hid (HX.out.below hb)
    clear hb
    cases oo with
    | false =>
      have HR := Lib.hid (HV.out.trans (if_neg (fun q => by cases q.2)))
      clear HV CG CR
      have hoc := mo_one2 HX.out
      have hbz : Below W4.heap.size W4 (W4.alloc (.cells #[] 42)) := (Below.refl _ _).alloc (Nat.le_refl _) _
      go_wp2_with ((with_reducible show wpList _ _ _ _ _ _); first | refine wpList_load_row rfl 27 _ rfl (g7) rfl 27 #[(.slice Ax nx cx), (.slice Ay ny cy)] (0, 0) _ G7.out hu rfl (by kernel_rfl) ?_ | refine wpList_store_row rfl 27 _ _ rfl (w.heap.size + 2) #[(.slice Ax nx cx), (.slice Ay ny cy)] rfl rfl 27 _ (G2.out.alloc _) (by kernel_rfl) rfl hoc ?_)
      refine post_gen (fun X => Blk X (w.heap.size + 2) 27 #[(.slice Ax nx cx), (.slice Ay ny cy)] ∧ Below w.heap.size w X ∧ MoOwn X w.heap.size m (.slice Ax nx cx) (.slice Ay ny cy) ∧ OwnR X w.heap.size (.slice (some ⟨W4.heap.size, 0, none⟩) 0 0) []) ⟨setRow_heap _ _ _ _ _ _ (G2.out.alloc _), below_setRow' (HB.out.trans (hbz.mono HB.out.size)) (by omega) _, (HX.out.below hbz).farT (G2.out.alloc _) (setRow_grown _ _ _), (OwnR.empty W4 w.heap.size HB.out.size).kept (setRow_grown _ _ _) (.inr (fun e => by have e : W4.heap.size = w.heap.size + 2 := Option.some.inj e; have := HSZ.out; omega))⟩ ?_
      rintro X ⟨h1, hb, hm, hr⟩
      exact bodyPost_ret (v := .tuple #[.agg #[(.slice Ax nx cx), (.slice Ay ny cy)], .int .i64 (1), .slice (some ⟨W4.heap.size, 0, none⟩) 0 0]) (results_cellM3 rfl _ _ _ _ _ _ _ _ rfl h1 hu rfl (by kernel_rfl) rfl rfl) rfl ⟨_, _, _, by rw [HR.out], by rw [HR.out]; exact hm, by rw [HR.out]; exact hr, HX.out.newest (Nat.le_refl _), hb⟩
    | true =>
      have HV2 := Lib.hid (HV.out.trans (if_pos (by simp)))
      clear HV
      have q0 := G1.out.get 0
      simp at q0
      have q1 := G1.out.get 1
      simp at q1
      have q2 := G1.out.get 2
      simp at q2
      have q3 := G1.out.get 3
      simp at q3
      by_cases c1 : okind = 1
      · have d1 : (okind == 1) = true := by rw [beq_iff_eq]; exact c1
        have HR := Lib.hid (HV2.out.trans (if_pos c1))
        clear c1
        go_wp2_with ((with_reducible show wpList _ _ _ _ _ _); refine wpList_load_row rfl 27 _ rfl (g7) rfl 27 #[(.slice Ax nx cx), (.slice Ay ny cy)] (0, 0) _ G7.out hu rfl (by kernel_rfl) ?_)
        refine (CG _ _ _ HX.out HB.out.size).out.mono ?_
        rintro e W5 ⟨yk, yr, rfl, hy, hb⟩
        replace G0 := Lib.hid (G0.out.below hb); replace G1 := Lib.hid (G1.out.below hb); replace G2 := Lib.hid (G2.out.below hb); replace HB := Lib.hid (HB.out.trans (hb.mono HB.out.size)); replace HSZ := Lib.hid (Nat.le_trans HSZ.out hb.size)
        replace G7 := Lib.hid (G7.out.below hb)
        have HY := Lib.hid hy
        clear hb hy HX CG CR HV2 q0 q1 q2 q3
        obtain ⟨Au, nu, cu, rfl⟩ := own_slice HY.out.keys
        obtain ⟨Av, nv, cv, rfl⟩ := own_slice HY.out.rows
        have hoc := mo_one2 HY.out
        go_upto_region 13 with ((with_reducible show wpList _ _ _ _ _ _); refine wpList_store_row rfl 27 _ _ rfl g7 #[(.slice Au nu cu), (.slice Av nv cv)] rfl rfl 27 _ G7.out (by kernel_rfl) rfl hoc ?_)
        refine wp_gen (fun X => Blk X g7 27 #[(.slice Au nu cu), (.slice Av nv cv)] ∧ Blk X (w.heap.size + 2) 27 #[.slice none 0 0, .slice none 0 0] ∧ Below w.heap.size w X ∧ MoOwn X w.heap.size rg.1 (.slice Au nu cu) (.slice Av nv cv) ∧ w.heap.size + 3 ≤ X.heap.size) ⟨setRow_heap _ _ _ _ _ _ G7.out, ((setRow_grown _ g7 _).block _ G2.out.lt (fun e => by have e : w.heap.size + 2 = g7 := Option.some.inj e; have := H7.out; omega)).trans G2.out, below_setRow' HB.out (by have := H7.out; omega) _, HY.out.farT G7.out (setRow_grown _ _ _), Nat.le_trans HSZ.out (setRow_grown _ _ _).size⟩ ?_
        clear hoc G0 G1 G2 G7 HB HY HSZ
        rintro W5' ⟨g7b, g2, hb, ho, hz⟩
        have G7 := Lib.hid g7b; have G2 := Lib.hid g2; have HB := Lib.hid hb; have HY := Lib.hid ho; have HSZ := Lib.hid hz
        clear g7b g2 hb ho hz
        have hoc := mo_one2 HY.out
        have hbz : Below W5'.heap.size W5' (W5'.alloc (.cells #[] 42)) := (Below.refl _ _).alloc (Nat.le_refl _) _
        go_wp2_with ((with_reducible show wpList _ _ _ _ _ _); first | refine wpList_load_row rfl 27 _ rfl (g7) rfl 27 #[(.slice Au nu cu), (.slice Av nv cv)] (0, 0) _ G7.out hu rfl (by kernel_rfl) ?_ | refine wpList_store_row rfl 27 _ _ rfl (w.heap.size + 2) #[(.slice Au nu cu), (.slice Av nv cv)] rfl rfl 27 _ (G2.out.alloc _) (by kernel_rfl) rfl hoc ?_)
        refine post_gen (fun X => Blk X (w.heap.size + 2) 27 #[(.slice Au nu cu), (.slice Av nv cv)] ∧ Below w.heap.size w X ∧ MoOwn X w.heap.size rg.1 (.slice Au nu cu) (.slice Av nv cv) ∧ OwnR X w.heap.size (.slice (some ⟨W5'.heap.size, 0, none⟩) 0 0) []) ⟨setRow_heap _ _ _ _ _ _ (G2.out.alloc _), below_setRow' (HB.out.trans (hbz.mono HB.out.size)) (by omega) _, (HY.out.below hbz).farT (G2.out.alloc _) (setRow_grown _ _ _), (OwnR.empty W5' w.heap.size HB.out.size).kept (setRow_grown _ _ _) (.inr (fun e => by have e : W5'.heap.size = w.heap.size + 2 := Option.some.inj e; have := HSZ.out; omega))⟩ ?_
        rintro X ⟨h1, hb, hm, hr⟩
        exact bodyPost_ret (v := .tuple #[.agg #[(.slice Au nu cu), (.slice Av nv cv)], .int .i64 (rg.2), .slice (some ⟨W5'.heap.size, 0, none⟩) 0 0]) (results_cellM3 rfl _ _ _ _ _ _ _ _ rfl h1 hu rfl (by kernel_rfl) rfl rfl) rfl ⟨_, _, _, by rw [HR.out], by rw [HR.out]; exact hm, by rw [HR.out]; exact hr, HY.out.newest (Nat.le_refl _), hb⟩
      have d1 : (okind == 1) = false := by rw [beq_eq_false_iff_ne]; exact c1
      by_cases c2 : okind = 2
      · have d2 : (okind == 2) = true := by rw [beq_iff_eq]; exact c2
        have HR := Lib.hid ((HV2.out.trans (if_neg c1)).trans (if_pos c2))
        clear c1 c2
        go_wp2_with ((with_reducible show wpList _ _ _ _ _ _); refine wpList_load_row rfl 27 _ rfl (g7) rfl 27 #[(.slice Ax nx cx), (.slice Ay ny cy)] (0, 0) _ G7.out hu rfl (by kernel_rfl) ?_)
        refine (CR _ _ _ HX.out HB.out.size).out.mono ?_
        rintro e W5 ⟨yk, yr, rfl, hy, hb⟩
        replace G0 := Lib.hid (G0.out.below hb); replace G1 := Lib.hid (G1.out.below hb); replace G2 := Lib.hid (G2.out.below hb); replace HB := Lib.hid (HB.out.trans (hb.mono HB.out.size)); replace HSZ := Lib.hid (Nat.le_trans HSZ.out hb.size)
        replace G7 := Lib.hid (G7.out.below hb)
        have HY := Lib.hid hy
        clear hb hy HX CG CR HV2 q0 q1 q2 q3
        obtain ⟨Au, nu, cu, rfl⟩ := own_slice HY.out.keys
        obtain ⟨Av, nv, cv, rfl⟩ := own_slice HY.out.rows
        have hoc := mo_one2 HY.out
        go_upto_region 13 with ((with_reducible show wpList _ _ _ _ _ _); refine wpList_store_row rfl 27 _ _ rfl g7 #[(.slice Au nu cu), (.slice Av nv cv)] rfl rfl 27 _ G7.out (by kernel_rfl) rfl hoc ?_)
        refine wp_gen (fun X => Blk X g7 27 #[(.slice Au nu cu), (.slice Av nv cv)] ∧ Blk X (w.heap.size + 2) 27 #[.slice none 0 0, .slice none 0 0] ∧ Below w.heap.size w X ∧ MoOwn X w.heap.size rc.1 (.slice Au nu cu) (.slice Av nv cv) ∧ w.heap.size + 3 ≤ X.heap.size) ⟨setRow_heap _ _ _ _ _ _ G7.out, ((setRow_grown _ g7 _).block _ G2.out.lt (fun e => by have e : w.heap.size + 2 = g7 := Option.some.inj e; have := H7.out; omega)).trans G2.out, below_setRow' HB.out (by have := H7.out; omega) _, HY.out.farT G7.out (setRow_grown _ _ _), Nat.le_trans HSZ.out (setRow_grown _ _ _).size⟩ ?_
        clear hoc G0 G1 G2 G7 HB HY HSZ
        rintro W5' ⟨g7b, g2, hb, ho, hz⟩
        have G7 := Lib.hid g7b; have G2 := Lib.hid g2; have HB := Lib.hid hb; have HY := Lib.hid ho; have HSZ := Lib.hid hz
        clear g7b g2 hb ho hz
        have hoc := mo_one2 HY.out
        have hbz : Below W5'.heap.size W5' (W5'.alloc (.cells #[] 42)) := (Below.refl _ _).alloc (Nat.le_refl _) _
        go_wp2_with ((with_reducible show wpList _ _ _ _ _ _); first | refine wpList_load_row rfl 27 _ rfl (g7) rfl 27 #[(.slice Au nu cu), (.slice Av nv cv)] (0, 0) _ G7.out hu rfl (by kernel_rfl) ?_ | refine wpList_store_row rfl 27 _ _ rfl (w.heap.size + 2) #[(.slice Au nu cu), (.slice Av nv cv)] rfl rfl 27 _ (G2.out.alloc _) (by kernel_rfl) rfl hoc ?_)
        refine post_gen (fun X => Blk X (w.heap.size + 2) 27 #[(.slice Au nu cu), (.slice Av nv cv)] ∧ Below w.heap.size w X ∧ MoOwn X w.heap.size rc.1 (.slice Au nu cu) (.slice Av nv cv) ∧ OwnR X w.heap.size (.slice (some ⟨W5'.heap.size, 0, none⟩) 0 0) []) ⟨setRow_heap _ _ _ _ _ _ (G2.out.alloc _), below_setRow' (HB.out.trans (hbz.mono HB.out.size)) (by omega) _, (HY.out.below hbz).farT (G2.out.alloc _) (setRow_grown _ _ _), (OwnR.empty W5' w.heap.size HB.out.size).kept (setRow_grown _ _ _) (.inr (fun e => by have e : W5'.heap.size = w.heap.size + 2 := Option.some.inj e; have := HSZ.out; omega))⟩ ?_
        rintro X ⟨h1, hb, hm, hr⟩
        exact bodyPost_ret (v := .tuple #[.agg #[(.slice Au nu cu), (.slice Av nv cv)], .int .i64 (rc.2), .slice (some ⟨W5'.heap.size, 0, none⟩) 0 0]) (results_cellM3 rfl _ _ _ _ _ _ _ _ rfl h1 hu rfl (by kernel_rfl) rfl rfl) rfl ⟨_, _, _, by rw [HR.out], by rw [HR.out]; exact hm, by rw [HR.out]; exact hr, HY.out.newest (Nat.le_refl _), hb⟩
      have d2 : (okind == 2) = false := by rw [beq_eq_false_iff_ne]; exact c2
      have HR := Lib.hid ((HV2.out.trans (if_neg c1)).trans (if_neg c2))
      clear HV2 CG CR c1 c2
      have r1 := G7.out.get 1
      simp at r1
      have r2 : (W4.alloc (.cells #[] 42)).cell? ⟨g7, 1, none⟩ = some (.slice Ay ny cy) := (G7.out.alloc _).get 1
      have f1 : (W4.alloc (.cells #[] 42)).frozen? ⟨g7, 1, none⟩ = false := (G7.out.alloc _).frz 1
      have hbz : Below W4.heap.size W4 (W4.alloc (.cells #[] 42)) := (Below.refl _ _).alloc (Nat.le_refl _) _
      have HG := Lib.hid (row_store (G7.out.alloc (.cells #[] 42)) 1 (.slice (some ⟨W4.heap.size, 0, none⟩) 0 0))
      have HXA := Lib.hid (HX.out.newest (Nat.le_refl _))
      go_upto_region 8 with fail
      refine wp_gen (fun X => Blk X g7 27 #[(.slice Ax nx cx), (.slice (some ⟨W4.heap.size, 0, none⟩) 0 0)] ∧ Blk X (w.heap.size + 2) 27 #[.slice none 0 0, .slice none 0 0] ∧ Below w.heap.size w X ∧ MoOwn X w.heap.size m (.slice Ax nx cx) (.slice Ay ny cy) ∧ OwnR X w.heap.size (.slice (some ⟨W4.heap.size, 0, none⟩) 0 0) []) ⟨(G7.out.alloc _).store 1 _, (G2.out.alloc _).far _ _ _ (by have := H7.out; omega), (HB.out.trans (hbz.mono HB.out.size)).setCell (by show w.heap.size ≤ g7; have := H7.out; omega) _, (HX.out.below hbz).farT (G7.out.alloc _) HG.out, (OwnR.empty W4 w.heap.size HB.out.size).kept HG.out (.inr (fun e => by have e : W4.heap.size = g7 := Option.some.inj e; have := G7.out.lt; omega))⟩ ?_
      clear r1 r2 f1 q0 q1 q2 q3 hbz HG G0 G1 G2 G7 HB HX HSZ
      generalize W4.heap.size = g9 at *
      rintro W5 ⟨g7b, g2, hb, ho, hr⟩
      have G7 := Lib.hid g7b; have G2 := Lib.hid g2; have HB := Lib.hid hb; have HX := Lib.hid ho; have HN := Lib.hid hr
      clear g7b g2 hb ho hr
      have HY := Lib.hid (show MoOwn W5 w.heap.size ⟨m.keys, []⟩ (.slice Ax nx cx) (.slice (some ⟨g9, 0, none⟩) 0 0) from ⟨HX.out.keys, HN.out, HXA.out.1⟩)
      have hoc := mo_one2 HY.out
      go_wp2_with ((with_reducible show wpList _ _ _ _ _ _); first | refine wpList_load_row rfl 27 _ rfl (g7) rfl 27 #[(.slice Ax nx cx), (.slice (some ⟨g9, 0, none⟩) 0 0)] (0, 0) _ G7.out hu rfl (by kernel_rfl) ?_ | refine wpList_store_row rfl 27 _ _ rfl (w.heap.size + 2) #[(.slice Ax nx cx), (.slice (some ⟨g9, 0, none⟩) 0 0)] rfl rfl 27 _ G2.out (by kernel_rfl) rfl hoc ?_)
      refine post_gen (fun X => Blk X (w.heap.size + 2) 27 #[(.slice Ax nx cx), (.slice (some ⟨g9, 0, none⟩) 0 0)] ∧ Below w.heap.size w X ∧ MoOwn X w.heap.size ⟨m.keys, []⟩ (.slice Ax nx cx) (.slice (some ⟨g9, 0, none⟩) 0 0) ∧ MoOwn X w.heap.size m (.slice Ax nx cx) (.slice Ay ny cy)) ⟨setRow_heap _ _ _ _ _ _ G2.out, below_setRow' HB.out (by omega) _, HY.out.farT G2.out (setRow_grown _ _ _), HX.out.farT G2.out (setRow_grown _ _ _)⟩ ?_
      rintro X ⟨h1, hb, hm, hx⟩
      exact bodyPost_ret (v := .tuple #[.agg #[(.slice Ax nx cx), (.slice (some ⟨g9, 0, none⟩) 0 0)], .int .i64 0, (.slice Ay ny cy)]) (results_cellM3 rfl _ _ _ _ _ _ _ _ rfl h1 hu rfl (by kernel_rfl) rfl rfl) rfl ⟨_, _, _, by rw [HR.out], by rw [HR.out]; exact hm, by rw [HR.out]; exact hx.rows, ⟨hx.ap, HXA.out.2.symm⟩, hb⟩
end Go.Proofs.YtbhhhakfjmaglaaGreat
