/-
  FnExactReports: what the function answers is what its model answers, at every argument; it writes into no argument, and its answer owns its memory: the law's call returns true and each argument reads afterwards as before, without any condition on the arguments.
-/
import Derived.Test.YtcfdnfckilpppaaRows
import Derived.Test.YtcfdnfckilpppaaRepM
import Derived.Test.YtcfdnfckilpppaaRepI
import Derived.Test.YtcfdnfckilpppaaTame
import Derived.Test.YtcfdnfckilpppaaZd
import Derived.Test.YtcfdnfckilpppaaZc
import Derived.Test.YtcfdnfckilpppaaNewL
import Derived.Test.YtcfdnfckilpppaaWorE
import Derived.Test.YtcfdnfckilpppaaZe
import Derived.Test.YtcfdnfckilpppaaRowSSK
import Derived.Test.YtcfdnfckilpppaaRowSSC
import Derived.WalkKit
import Derived.ProofKit
import Derived.OpenShut
import Derived.ShutString
import Derived.ChangeOld
import Derived.Below
namespace Go.Proofs.Ytcfdnfckilpppaa.fnExactReports
open Go.ChangeShapes Go.WideShapes Go.ChangeAt Go.RowKit Go.Proofs.Ytcfdnfckilpppaa.M
open Go.ChangeMaps (open_string shut_string)
set_option linter.unusedVariables false
set_option linter.unusedSimpArgs false

theorem own : ownKnob Try.prog.godebug = none := by kernel_rfl
theorem laidOut : laidOutB Try.prog = true := by kernel_rfl

set_option maxRecDepth 100000 in
set_option maxHeartbeats 4000000 in
theorem walk (w : World) (z0 : S) (vc0 vj0 vt0 vl0 : Value) (w0 : WorIn w z0 vc0 vj0 vt0 vl0) (f0 : z0.Fit) :
    Calls Try.prog 5 #[.agg (worVals z0 vc0 vj0 vt0 vl0)] w fun e w' => e = .returned (.bool true) ∧ Below w.heap.size w w' := by
  have HIN0 := Lib.hid w0
  have HZ0 := fun W (h : WorIn W z0 vc0 vj0 vt0 vl0) => Lib.hid (szWorld_any W z0 vc0 vj0 vt0 vl0 1048576 h (fitS_w f0) (by decide) (by decide))
  have hulL := Try.underlying27
  have hulI := Try.underlying34
  have hone0 := wor_one w z0 vc0 vj0 vt0 vl0 w0
  by_cases hneg0 : szWorV z0 1048576 < 0
  · have d0 : decide (szWorV z0 1048576 < 0) = true := decide_eq_true hneg0
    go_enter Try.func5, Try.ntmps5
    have B0 := Lib.hid (below_oneL w (.cells (worVals z0 vc0 vj0 vt0 vl0) 27))
    have GA := Lib.hid (Blk.new w w.heap.size 27 (worVals z0 vc0 vj0 vt0 vl0) rfl)
    go_wp2_with ((with_reducible show wpList _ _ _ _ _ _); first | refine wpList_load_row rfl 27 _ rfl w.heap.size rfl 27 (worVals z0 vc0 vj0 vt0 vl0) (0, 0) _ GA.out hulL rfl (by kernel_rfl) ?_)
    refine (HZ0 _ (HIN0.out.below B0.out)).out.mono ?_
    rintro e U ⟨rfl, hb⟩
    replace B0 := Lib.hid (B0.out.trans (hb.mono B0.out.size))
    clear hb
    go_wp2_with fail
    go_ret
    exact ⟨rfl, B0.out⟩
  · have d0 : decide (szWorV z0 1048576 < 0) = false := decide_eq_false hneg0
    obtain ⟨htm, hte, htr⟩ := tame_arg (s := z0) (by omega)
    have HTM := Lib.hid htm
    have HSM := Lib.hid htm.sm
    have HL := Lib.hid (show (reportsV z0).length ≤ 1048576 ∧ totR (reportsV z0) ≤ 1048576 ∧ endRS 1 (reportsV z0) ≤ 900000000000 ∧ 1 ≤ endRS 1 (reportsV z0) from reports_hl htm.sm htr)
    have H1 := fun W B E a b c d h => Lib.hid (sReports_any W B E z0 a b c d h HSM.out)
    have H2 := fun W B E a b c d h => Lib.hid (iReports_any W B E z0 a b c d h HSM.out)
    have HT0 := fun W (h : WorIn W z0 vc0 vj0 vt0 vl0) => Lib.hid (toWorldP_any W z0 vc0 vj0 vt0 vl0 h HSM.out)
    have HEQ := fun W a b c d a' b' c' d' h k => Lib.hid (eqWorld_same W z0 a b c d a' b' c' d' h k)
    generalize reportsV z0 = l at *
    generalize hsq : szWorV z0 1048576 = sq at *
    clear hsq htm hte htr w0
    go_enter Try.func5, Try.ntmps5
    have B0 := Lib.hid (below_oneL w (.cells (worVals z0 vc0 vj0 vt0 vl0) 27))
    have GA := Lib.hid (Blk.new w w.heap.size 27 (worVals z0 vc0 vj0 vt0 vl0) rfl)
    go_wp2_with ((with_reducible show wpList _ _ _ _ _ _); first | refine wpList_load_row rfl 27 _ rfl w.heap.size rfl 27 (worVals z0 vc0 vj0 vt0 vl0) (0, 0) _ GA.out hulL rfl (by kernel_rfl) ?_)
    refine ((HZ0 _ (HIN0.out.below B0.out)).out).mono ?_
    rintro e u1 ⟨rfl, hb⟩
    replace GA := Lib.hid (GA.out.below hb)
    replace B0 := Lib.hid (B0.out.trans (hb.mono B0.out.size))
    clear hb
    have HSZ := Lib.hid (show w.heap.size < u1.heap.size from GA.out.lt)
    go_wp2_with ((with_reducible show wpList _ _ _ _ _ _); first | refine wpList_load_row rfl 27 _ rfl w.heap.size rfl 27 (worVals z0 vc0 vj0 vt0 vl0) (0, 0) _ GA.out hulL rfl (by kernel_rfl) ?_)
    refine (HT0 _ (HIN0.out.below B0.out)).out.mono ?_
    rintro e u2 ⟨sc, sj, st, sl, rfl, ho, hb⟩
    replace GA := Lib.hid (GA.out.below hb)
    replace B0 := Lib.hid (B0.out.trans (hb.mono B0.out.size))
    have hz := hb.size
    replace HSZ := Lib.hid (show _ ∧ _ from ⟨HSZ.out, hz⟩)
    have Ws := Lib.hid ho
    clear ho hb hz
    go_wp2_with fail
    refine ((H1 _ _ _ _ _ _ _ Ws.out).out).mono ?_
    rintro e u3 ⟨vAw, rfl, ho, hb⟩
    replace GA := Lib.hid (GA.out.below hb)
    replace Ws := Lib.hid (Ws.out.below hb)
    replace B0 := Lib.hid (B0.out.trans (hb.mono B0.out.size))
    have hz := hb.size
    replace HSZ := Lib.hid (show _ ∧ _ from ⟨HSZ.out, hz⟩)
    have Aw := Lib.hid (show PickR u3 u2.heap.size u3.heap.size vAw l from ho)
    clear ho hb hz
    clear Ws
    go_wp2_with ((with_reducible show wpList _ _ _ _ _ _); first | refine wpList_load_row rfl 27 _ rfl w.heap.size rfl 27 (worVals z0 vc0 vj0 vt0 vl0) (0, 0) _ GA.out hulL rfl (by kernel_rfl) ?_)
    refine (HT0 _ (HIN0.out.below B0.out)).out.mono ?_
    rintro e u4 ⟨xc, xj, xt, xl, rfl, ho, hb⟩
    replace GA := Lib.hid (GA.out.below hb)
    replace Aw := Lib.hid (PickR.below Aw.out hb)
    replace B0 := Lib.hid (B0.out.trans (hb.mono B0.out.size))
    have hz := hb.size
    replace HSZ := Lib.hid (show _ ∧ _ from ⟨HSZ.out, hz⟩)
    have Wx := Lib.hid ho
    clear ho hb hz
    have hoc := worP_one Wx.out
    go_upto_region 7 with ((with_reducible show wpList _ _ _ _ _ _); refine wpList_store_row rfl 34 _ _ rfl u4.heap.size (worVals z0 xc xj xt xl) rfl rfl 34 _ (Blk.new u4 u4.heap.size 34 #[.slice none 0 0, .slice none 0 0, .slice none 0 0, .slice none 0 0, .int .i64 0, .int .i64 0] rfl) (by kernel_rfl) rfl hoc ?_)
    refine wp_gen (fun X => Blk X u4.heap.size 34 (worVals z0 xc xj xt xl) ∧ Below u4.heap.size u4 X) ⟨setRow_heap _ _ _ _ _ _ (Blk.new u4 u4.heap.size 34 #[.slice none 0 0, .slice none 0 0, .slice none 0 0, .slice none 0 0, .int .i64 0, .int .i64 0] rfl), below_setRow' (below_oneL u4 _) (Nat.le_refl _) _⟩ ?_
    rintro u5 ⟨hx, hb⟩
    replace GA := Lib.hid (GA.out.below hb)
    replace Aw := Lib.hid (PickR.below Aw.out hb)
    replace Wx := Lib.hid (Wx.out.below hb)
    replace B0 := Lib.hid (B0.out.trans (hb.mono B0.out.size))
    have GX := Lib.hid hx
    have hz : u4.heap.size < u5.heap.size := hx.lt
    replace HSZ := Lib.hid (show _ ∧ _ from ⟨HSZ.out, hz⟩)
    clear hx hb hoc hz
    go_wp2_with ((with_reducible show wpList _ _ _ _ _ _); first | refine wpList_load_row rfl 34 _ rfl u4.heap.size rfl 34 (worVals z0 xc xj xt xl) (0, 0) _ GX.out hulI rfl (by kernel_rfl) ?_)
    refine ((H2 _ _ _ _ _ _ _ Wx.out).out).mono ?_
    rintro e u6 ⟨vAg, rfl, ho, hb⟩
    replace GA := Lib.hid (GA.out.below hb)
    replace Aw := Lib.hid (PickR.below Aw.out hb)
    replace Wx := Lib.hid (Wx.out.below hb)
    replace GX := Lib.hid (GX.out.below hb)
    replace B0 := Lib.hid (B0.out.trans (hb.mono B0.out.size))
    have hz := hb.size
    replace HSZ := Lib.hid (show _ ∧ _ from ⟨HSZ.out, hz⟩)
    have Ag := Lib.hid (show OwnRS u6 u5.heap.size u6.heap.size vAg l from ho)
    clear ho hb hz
    go_wp2_with fail
    refine (eqRowSS_same _ _ _ l (OwnRS.arg Ag.out) (PickR.arg Aw.out)).mono ?_
    rintro e u7 ⟨rfl, hb⟩
    replace GA := Lib.hid (GA.out.below hb)
    replace Aw := Lib.hid (PickR.below Aw.out hb)
    replace Wx := Lib.hid (Wx.out.below hb)
    replace GX := Lib.hid (GX.out.below hb)
    replace Ag := Lib.hid (OwnRS.below Ag.out hb)
    replace B0 := Lib.hid (B0.out.trans (hb.mono B0.out.size))
    have hz := hb.size
    replace HSZ := Lib.hid (show _ ∧ _ from ⟨HSZ.out, hz⟩)
    clear hz
    clear hb
    have HF := Lib.hid (show ∀ a b : World, Below a.heap.size a b → (fun W' => PickR W' u2.heap.size u3.heap.size vAw l ∧ OwnRS W' u5.heap.size u6.heap.size vAg l) a → (fun W' => PickR W' u2.heap.size u3.heap.size vAw l ∧ OwnRS W' u5.heap.size u6.heap.size vAg l) b from fun a b hb h => ⟨PickR.below h.1 hb, OwnRS.below h.2 hb⟩)
    have HS := Lib.hid (show LawP (fun W' => PickR W' u2.heap.size u3.heap.size vAw l ∧ OwnRS W' u5.heap.size u6.heap.size vAg l) w w.heap.size u4.heap.size z0 vc0 vj0 vt0 vl0 xc xj xt xl u3.heap.size u4.heap.size u7.drew from LawP.next HF.out ⟨GA.out, GX.out, HIN0.out.below B0.out, Wx.out, B0.out, Aw.out, Ag.out⟩ (below_drew _ _))
    have hsz1 : u7.heap.size ≤ u7.drew.heap.size := Nat.le_refl _
    replace HSZ := Lib.hid (show _ ∧ _ from ⟨HSZ.out, hsz1⟩)
    clear hsz1
    clear GA GX Wx B0 Aw Ag
    go_upto_region 10 with fail
    refine wp_region_held_drew (S := fun w' => LawP (fun W' => PickR W' u2.heap.size u3.heap.size vAw l ∧ OwnRS W' u5.heap.size u6.heap.size vAg l) w w.heap.size u4.heap.size z0 vc0 vj0 vt0 vl0 xc xj xt xl u3.heap.size u4.heap.size w') (by kernel_rfl) HS.out (fun hHeld => ?_)
    refine' wpAnyH_take (i := 0) (v := _) rfl (by kernel_rfl) (by kernel_rfl) (by kernel_rfl) (fun _ _ _ h => h) (yieldsIf_load_mid (by rfl) 34 _ rfl u4.heap.size 0 rfl ((worVals z0 xc xj xt xl)).toList _ (fun w h => h.y.range) hulI rfl (by kernel_rfl)) hHeld ?_
    simp only [Act.put, List.setIfInBounds_toArray, List.set_cons_zero, List.set_cons_succ]
    refine' wpAnyH_take (i := 1) (v := _) rfl (by kernel_rfl) (by kernel_rfl) (by kernel_rfl) (fun _ _ _ h => h) (yieldsIf_load_mid (by rfl) 27 _ rfl w.heap.size 0 rfl ((worVals z0 vc0 vj0 vt0 vl0)).toList _ (fun w h => h.g.range) hulL rfl (by kernel_rfl)) hHeld ?_
    simp only [Act.put, List.setIfInBounds_toArray, List.set_cons_zero, List.set_cons_succ]
    refine wpAnyH_ready (rs := [2]) (by kernel_rfl) (by simp) ?_
    refine AllReadyH.cons rfl (fun K hK => ?_) AllReadyH.nil
    go_simp
    refine (HT0 _ hHeld.a).out.mono ?_
    rintro e u8 ⟨yc, yj, yt, yl, rfl, ho, hb⟩
    refine hK.out _ _ (hHeld.next HF.out hb) (fun hHeld2 => ?_)
    have Oy := Lib.hid ho.win
    have hz := hb.size
    replace HSZ := Lib.hid (show _ ∧ _ from ⟨HSZ.out, hz⟩)
    clear hK K hHeld hb ho hz
    try simp only [Act.put, List.setIfInBounds_toArray, List.set_cons_zero, List.set_cons_succ]
    refine wpAnyH_ready (rs := [3]) (by kernel_rfl) (by simp) ?_
    refine AllReadyH.cons rfl (fun K hK => ?_) AllReadyH.nil
    go_simp
    refine (HEQ _ _ _ _ _ _ _ _ _ hHeld2.x.win Oy.out).out.mono ?_
    rintro e u9 ⟨rfl, hb⟩
    refine hK.out _ _ (hHeld2.next HF.out hb) (fun hHeld => ?_)
    have hz := hb.size
    replace HSZ := Lib.hid (show _ ∧ _ from ⟨HSZ.out, hz⟩)
    clear hK K hHeld2 hb Oy hz
    try simp only [Act.put, List.setIfInBounds_toArray, List.set_cons_zero, List.set_cons_succ]
    refine wpAnyH_ready (rs := [4]) (by kernel_rfl) (by simp) ?_
    refine AllReadyH.cons rfl (fun K hK => ?_) AllReadyH.nil
    go_simp
    refine hK.out _ _ hHeld (fun hHeld => ?_)
    clear hK K
    try simp only [Act.put, List.setIfInBounds_toArray, List.set_cons_zero, List.set_cons_succ]
    refine wpAnyH_done (by kernel_rfl) ?_ _
    have GA := Lib.hid hHeld.g
    have GX := Lib.hid hHeld.y
    have Wx := Lib.hid hHeld.x
    have B0 := Lib.hid hHeld.b
    have Aw := Lib.hid hHeld.f.1
    have Ag := Lib.hid hHeld.f.2
    clear hHeld HS
    have HM := Lib.hid (markWorld_any _ _ _ z0 _ _ _ _ 1 Wx.out (by have hs := HSZ.out; omega) HTM.out)
    have dk : decide (endW 1 z0 < 0) = false := decide_eq_false (endW_pos HTM.out)
    clear Wx
    go_wp2_with ((with_reducible show wpList _ _ _ _ _ _); first | refine wpList_load_row rfl 34 _ rfl u4.heap.size rfl 34 (worVals z0 xc xj xt xl) (0, 0) _ GX.out hulI rfl (by kernel_rfl) ?_)
    refine HM.out.mono ?_
    rintro e u10 ⟨rfl, hm, hc⟩
    clear hm HM
    have hs := HSZ.out
    have hgA := GA.out.lt
    replace GA := Lib.hid (GA.out.chg hc (fun hw => by have h1 := hw.1; have h2 := hw.2; omega))
    replace Aw := Lib.hid (PickR.far Aw.out hc (by omega))
    replace GX := Lib.hid (GX.out.chg hc (fun hw => by have h1 := hw.1; have h2 := hw.2; omega))
    replace Ag := Lib.hid (OwnRS.far Ag.out hc (by omega))
    replace B0 := Lib.hid (Chg.to_below B0.out hc B0.out.size (fun i hi => by have h1 := hi.1; omega))
    clear hs hgA
    clear hc
    generalize endW 1 z0 = kw at *
    go_wp2_with fail
    refine (eqRowSS_same _ _ _ l (OwnRS.arg Ag.out) (PickR.arg Aw.out)).mono ?_
    rintro e u11 ⟨rfl, hb⟩
    replace GA := Lib.hid (GA.out.below hb)
    replace Aw := Lib.hid (PickR.below Aw.out hb)
    replace GX := Lib.hid (GX.out.below hb)
    replace Ag := Lib.hid (OwnRS.below Ag.out hb)
    replace B0 := Lib.hid (B0.out.trans (hb.mono B0.out.size))
    have hz := hb.size
    replace HSZ := Lib.hid (show _ ∧ _ from ⟨HSZ.out, hz⟩)
    clear hz
    clear hb
    have HM := Lib.hid (markRowSS_any _ _ _ _ l 1 Ag.out HL.out.1 HL.out.2.1 (by decide) (by decide))
    have dq : decide (endRS 1 l < 0) = false := decide_eq_false (by have := HL.out.2.2.2; omega)
    clear Ag
    go_wp2_with fail
    refine HM.out.mono ?_
    rintro e u12 ⟨rfl, hm, hc⟩
    have hs := HSZ.out
    have hgA := GA.out.lt
    replace GA := Lib.hid (GA.out.chg hc (fun hw => by have h1 := hw.1; have h2 := hw.2; omega))
    replace Aw := Lib.hid (PickR.far Aw.out hc (by omega))
    replace GX := Lib.hid (GX.out.chg hc (fun hw => by have h1 := hw.1; have h2 := hw.2; omega))
    replace B0 := Lib.hid (Chg.to_below B0.out hc B0.out.size (fun i hi => by have h1 := hi.1; omega))
    clear hs hgA
    have Ag := Lib.hid (show OwnRS u12 u5.heap.size u6.heap.size vAg (marksRS 1 l) from hm)
    clear hm HM hc
    have HH := fun W (h : OwnRS W u5.heap.size u6.heap.size vAg (marksRS 1 l)) => Lib.hid (show Calls Try.prog 23 #[vAg, .int .i64 1] W (Gives (.int .i64 (endRS 1 l)) W) from heldRowSS_any _ _ _ _ l 1 h HL.out.1 HL.out.2.1 (by decide) (by decide))
    generalize hkq : endRS 1 l = kq at *
    go_wp2_with fail
    refine ((HH _ Ag.out).out).mono ?_
    rintro e u13 ⟨rfl, hb⟩
    replace GA := Lib.hid (GA.out.below hb)
    replace Aw := Lib.hid (PickR.below Aw.out hb)
    replace GX := Lib.hid (GX.out.below hb)
    replace Ag := Lib.hid (OwnRS.below Ag.out hb)
    replace B0 := Lib.hid (B0.out.trans (hb.mono B0.out.size))
    have hz := hb.size
    replace HSZ := Lib.hid (show _ ∧ _ from ⟨HSZ.out, hz⟩)
    clear hz
    clear hb
    go_wp2_with ((with_reducible show wpList _ _ _ _ _ _); first | refine wpList_load_row rfl 27 _ rfl w.heap.size rfl 27 (worVals z0 vc0 vj0 vt0 vl0) (0, 0) _ GA.out hulL rfl (by kernel_rfl) ?_)
    refine (HT0 _ (HIN0.out.below B0.out)).out.mono ?_
    rintro e u14 ⟨hc, hj, ht, hl, rfl, ho, hb⟩
    replace GA := Lib.hid (GA.out.below hb)
    replace Aw := Lib.hid (PickR.below Aw.out hb)
    replace GX := Lib.hid (GX.out.below hb)
    replace Ag := Lib.hid (OwnRS.below Ag.out hb)
    replace B0 := Lib.hid (B0.out.trans (hb.mono B0.out.size))
    have hz := hb.size
    replace HSZ := Lib.hid (show _ ∧ _ from ⟨HSZ.out, hz⟩)
    have Wh := Lib.hid ho
    clear ho hb hz
    go_wp2_with fail
    refine ((H2 _ _ _ _ _ _ _ Wh.out).out).mono ?_
    rintro e u15 ⟨vAh, rfl, ho, hb⟩
    replace GA := Lib.hid (GA.out.below hb)
    replace Aw := Lib.hid (PickR.below Aw.out hb)
    replace GX := Lib.hid (GX.out.below hb)
    replace Ag := Lib.hid (OwnRS.below Ag.out hb)
    replace Wh := Lib.hid (Wh.out.below hb)
    replace B0 := Lib.hid (B0.out.trans (hb.mono B0.out.size))
    have hz := hb.size
    replace HSZ := Lib.hid (show _ ∧ _ from ⟨HSZ.out, hz⟩)
    have Ah := Lib.hid (show OwnRS u15 u14.heap.size u15.heap.size vAh l from ho)
    clear ho hb hz
    clear Wh
    go_wp2_with fail
    refine (eqRowSS_same _ _ _ l (OwnRS.arg Ah.out) (PickR.arg Aw.out)).mono ?_
    rintro e u16 ⟨rfl, hb⟩
    replace GA := Lib.hid (GA.out.below hb)
    replace Aw := Lib.hid (PickR.below Aw.out hb)
    replace GX := Lib.hid (GX.out.below hb)
    replace Ag := Lib.hid (OwnRS.below Ag.out hb)
    replace Ah := Lib.hid (OwnRS.below Ah.out hb)
    replace B0 := Lib.hid (B0.out.trans (hb.mono B0.out.size))
    have hz := hb.size
    replace HSZ := Lib.hid (show _ ∧ _ from ⟨HSZ.out, hz⟩)
    clear hz
    clear hb
    clear Ah
    go_wp2_with fail
    refine ((HH _ Ag.out).out).mono ?_
    rintro e u17 ⟨rfl, hb⟩
    replace GA := Lib.hid (GA.out.below hb)
    replace Aw := Lib.hid (PickR.below Aw.out hb)
    replace GX := Lib.hid (GX.out.below hb)
    replace Ag := Lib.hid (OwnRS.below Ag.out hb)
    replace B0 := Lib.hid (B0.out.trans (hb.mono B0.out.size))
    have hz := hb.size
    replace HSZ := Lib.hid (show _ ∧ _ from ⟨HSZ.out, hz⟩)
    clear hz
    clear hb
    go_wp2_with fail
    go_ret
    exact ⟨rfl, B0.out⟩

set_option maxRecDepth 100000 in
theorem lifted (os : Os) (started : os.Started) (H : Type) (enc : TypeId × Value → H) :
    ReturnsInHanded {} Try.checked os 5 .any (Rows.fnExactReportsSpec.pre6 enc Try.prog Try.f5 Rows.fnExactReportsRow.domain false) (Rows.fnExactReportsSpec.post enc Try.prog Try.f5 false true false false) := by
  refine returnsInHanded_of_change (C := Try.checked) own started (by kernel_rfl) Try.func5
    (ChangeSpec.witness6 (enc := enc) (C := Try.checked) false ⟨#[], #[.agg #[.slice none 0 0, .slice none 0 0, .slice none 0 0, .slice none 0 0, .int .i64 0, .int .i64 0]], []⟩ 8 (by kernel_rfl) (by kernel_rfl) (by kernel_rfl) (by kernel_rfl)) ?_
  intro W base args ds gs before hval0 hW hcnd _
  have hval : ∀ (j : Nat) t v, Try.f5.params[j]? = some t → args[j]? = some v → Value.okWide Try.prog W .any base t v := hval0
  have hW' := hW
  obtain ⟨p, q, hA0, hV, rfl, hfz, hnd⟩ := hW
  have hA : DataW.TrodAll enc Try.prog W 0 (fun _ => true) true Try.f5.params.toList args.toList ds p := hA0
  rw [Try.params5] at hA hval
  obtain ⟨v0, vs0, d0, ds0, p0, q0, hargs, rfl, rfl, h0, r0⟩ := trodAll_cons hA
  obtain ⟨rfl, rfl, rfl⟩ := trodAll_nil r0
  obtain rfl : args = #[v0] := by cases args; simp_all
  obtain ⟨rfl, rfl⟩ := trodVars_none hV
  have k0 := h0
  have lt0 : ∀ x ∈ p0, x.block < W.heap.size := by obtain ⟨m, hm⟩ := k0; exact DataW.trod_lt m _ _ _ hm
  obtain ⟨z0, vc0, vj0, vt0, vl0, rfl, w0, f0⟩ := open_world (hval 0 27 v0 rfl rfl) h0
  clear hA0 hval0
  refine (walk W z0 vc0 vj0 vt0 vl0 w0 f0).mono fun e W' ⟨he, bel⟩ => ?_
  subst he
  exact ⟨_, rfl, _, _, _, [], _, [], hW', trodAll_mk1 (shut_bool Try.underlying4 _), (trodAll_cons_mk (Below.trod laidOut (by kernel_rfl) (of_decide_eq_true (by kernel_rfl)) k0 bel lt0) trodAll_mk0), rfl, bel.frame _, fun h => by cases h⟩

theorem over : Rows.fnExactReportsRow.holds Try.pinned (OpenSpec.ofChange Rows.fnExactReportsSpec) :=
  OpenClaim.holds_of_wide 5 Try.f5 rfl rfl rfl rfl rfl rfl rfl ⟨rfl, rfl, rfl, rfl, rfl⟩ rfl rfl rfl rfl rfl (by kernel_rfl) Try.func5 (by kernel_rfl)
    (of_decide_eq_true (by kernel_rfl)) (by unfold Func.isWrapper; first | (rw [if_pos (by decide +kernel)]; kernel_rfl) | (rw [if_neg (by decide +kernel)]; exact ⟨rfl, rfl⟩))
    (fun os started H enc _ => lifted os started H enc)

end Go.Proofs.Ytcfdnfckilpppaa.fnExactReports
namespace Go.Proofs.Ytcfdnfckilpppaa
theorem fnExactReports_holds : Rows.FnExactReportsSaid := fnExactReports.over
end Go.Proofs.Ytcfdnfckilpppaa
