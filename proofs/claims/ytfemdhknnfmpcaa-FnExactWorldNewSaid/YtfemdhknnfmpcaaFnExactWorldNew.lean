/-
  FnExactWorldNew: what the function answers is what its model answers, at every argument: the law's call returns true and each argument reads afterwards as before, without any condition on the arguments.
-/
import Derived.Test.YtfemdhknnfmpcaaRows
import Derived.Test.YtfemdhknnfmpcaaNewI
import Derived.Test.YtfemdhknnfmpcaaNewS
import Derived.Test.YtfemdhknnfmpcaaNewL
import Derived.Test.YtfemdhknnfmpcaaWorE
import Derived.Test.YtfemdhknnfmpcaaWorK
import Derived.Test.YtfemdhknnfmpcaaQuC
import Derived.Test.YtfemdhknnfmpcaaQuK
import Derived.Test.YtfemdhknnfmpcaaOpen
import Derived.Test.YtfemdhknnfmpcaaSysL
import Derived.Test.YtfemdhknnfmpcaaJobS
import Derived.WalkKit
import Derived.ProofKit
import Derived.OpenShut
import Derived.ShutString
import Derived.ChangeOld
import Derived.Below
namespace Go.Proofs.Ytfemdhknnfmpcaa.fnExactWorldNew
open Go.ChangeShapes Go.WideShapes Go.ChangeAt Go.RowKit Go.Proofs.Ytfemdhknnfmpcaa.M
open Go.ChangeMaps (open_string shut_string)
set_option linter.unusedVariables false
set_option linter.unusedSimpArgs false

theorem own : ownKnob Try.prog.godebug = none := by kernel_rfl
theorem laidOut : laidOutB Try.prog = true := by kernel_rfl

set_option maxRecDepth 100000 in
set_option maxHeartbeats 1500000 in
theorem walk (w : World) (a0 : Option Addr) (len0 cap0 : Nat) (z0 : List (List O)) (w0 : ArgQ w (.slice a0 len0 cap0) z0) (f0 : FitQ z0) :
    Calls Try.prog 6 #[.slice a0 len0 cap0] w fun e w' => e = .returned (.bool true) ∧ Below w.heap.size w w' := by
  have HIN0 := Lib.hid w0
  have HZ0 := fun W (h : ArgQ W (.slice a0 len0 cap0) z0) => Lib.hid (szQueueS_any W _ z0 1048576 h f0 (by decide) (by decide))
  have H1 := fun W B v h => Lib.hid (sWorldNew_any W B v z0 h f0)
  have H2 := fun W B v h => Lib.hid (iWorldNew_any W B v z0 h f0)
  have hul := Try.underlying49
  by_cases hneg0 : szQV z0 1048576 < 0
  · have d0 : decide (szQV z0 1048576 < 0) = true := decide_eq_true hneg0
    clear w0
    have B0 := Lib.hid (Below.refl w.heap.size w)
    go_enter Try.func6, Try.ntmps6
    go_wp2_with fail
    refine (HZ0 _ (HIN0.out.below B0.out)).out.mono ?_
    rintro e U ⟨rfl, hb⟩
    replace B0 := Lib.hid (B0.out.trans (hb.mono B0.out.size))
    clear hb
    go_wp2_with fail
    go_ret
    exact ⟨rfl, B0.out⟩
  · have d0 : decide (szQV z0 1048576 < 0) = false := decide_eq_false hneg0
    have htot := szQV_tot (ls := z0) (l := 1048576) (by omega)
    have hl0 : z0.length ≤ 1048576 := by omega
    have hl1 : ∀ j, j < z0.length → (z0.getD j []).length ≤ 1048576 := fun j hj => by have := len_le_sum z0 j hj; omega
    have hlq : totQ z0 ≤ 1048576 := by unfold totQ; omega
    have HTM := Lib.hid (tame_new hl0 hl1 hlq)
    have HL0 := Lib.hid hl0
    have HL1 := Lib.hid hl1
    have HLQ := Lib.hid hlq
    have HT0 := fun W (h : ArgQ W (.slice a0 len0 cap0) z0) => Lib.hid (toQueueS_any W _ z0 h HL0.out HL1.out)
    have HKQ := Lib.hid (show (1 : Int) ≤ endQ 1 z0 from by rw [endQ_tot]; omega)
    have HEQ := fun W a b c d a' b' c' d' h k => Lib.hid (eqWorld_same W (worldNewV z0) a b c d a' b' c' d' h k)
    clear htot w0 hl0 hl1 hlq
    generalize hsq : szQV z0 1048576 = sq at *
    clear hsq
    generalize worldNewV z0 = s at *
    have B0 := Lib.hid (Below.refl w.heap.size w)
    go_enter Try.func6, Try.ntmps6
    go_wp2_with fail
    refine ((HZ0 _ (HIN0.out.below B0.out)).out).mono ?_
    rintro e u1 ⟨rfl, hb⟩
    replace B0 := Lib.hid (B0.out.trans (hb.mono B0.out.size))
    clear hb
    have HSZ := Lib.hid (show w.heap.size ≤ u1.heap.size from B0.out.size)
    go_wp2_with fail
    refine (HT0 _ (HIN0.out.below B0.out)).out.mono ?_
    rintro e u2 ⟨va, rfl, ho, hb⟩
    replace B0 := Lib.hid (B0.out.trans (hb.mono B0.out.size))
    have hz := hb.size
    replace HSZ := Lib.hid (show _ ∧ _ from ⟨HSZ.out, hz⟩)
    have Qa := Lib.hid (OwnD.made ho)
    clear ho hb hz
    go_wp2_with fail
    refine (H1 _ _ _ (OwnDE.own Qa.out)).out.mono ?_
    rintro e u3 ⟨wc, wj, wt, wl, rfl, ho, hb⟩
    replace Qa := Lib.hid (OwnDE.below Qa.out hb)
    replace B0 := Lib.hid (B0.out.trans (hb.mono B0.out.size))
    have hz := hb.size
    replace HSZ := Lib.hid (show _ ∧ _ from ⟨HSZ.out, hz⟩)
    have Ww := Lib.hid ho
    have hoc := worP_one ho
    clear ho hb hz
    go_upto_region 6 with ((with_reducible show wpList _ _ _ _ _ _); refine wpList_store_row rfl 49 _ _ rfl u3.heap.size (worVals s wc wj wt wl) rfl rfl 49 _ (Blk.new u3 u3.heap.size 49 #[.slice none 0 0, .slice none 0 0, .slice none 0 0, .slice none 0 0, .int .i64 0, .int .i64 0] rfl) (by kernel_rfl) rfl hoc ?_)
    refine wp_gen (fun X => Blk X u3.heap.size 49 (worVals s wc wj wt wl) ∧ Below u3.heap.size u3 X) ⟨setRow_heap _ _ _ _ _ _ (Blk.new u3 u3.heap.size 49 #[.slice none 0 0, .slice none 0 0, .slice none 0 0, .slice none 0 0, .int .i64 0, .int .i64 0] rfl), below_setRow' (below_oneL u3 _) (Nat.le_refl _) _⟩ ?_
    rintro u4 ⟨hx, hb⟩
    replace Qa := Lib.hid (OwnDE.below Qa.out hb)
    replace Ww := Lib.hid (Ww.out.below hb)
    replace B0 := Lib.hid (B0.out.trans (hb.mono B0.out.size))
    have GW := Lib.hid hx
    have hz : u3.heap.size < u4.heap.size := hx.lt
    replace HSZ := Lib.hid (show _ ∧ _ from ⟨HSZ.out, hz⟩)
    clear hx hb hoc hz
    clear Qa
    go_wp2_with fail
    refine (HT0 _ (HIN0.out.below B0.out)).out.mono ?_
    rintro e u5 ⟨vx, rfl, ho, hb⟩
    replace Ww := Lib.hid (Ww.out.below hb)
    replace GW := Lib.hid (GW.out.below hb)
    replace B0 := Lib.hid (B0.out.trans (hb.mono B0.out.size))
    have hz := hb.size
    replace HSZ := Lib.hid (show _ ∧ _ from ⟨HSZ.out, hz⟩)
    have Qx := Lib.hid (OwnD.made ho)
    clear ho hb hz
    go_wp2_with fail
    refine (H2 _ _ _ (OwnDE.own Qx.out)).out.mono ?_
    rintro e u6 ⟨gc, gj, gt, gl, rfl, ho, hb⟩
    replace Ww := Lib.hid (Ww.out.below hb)
    replace GW := Lib.hid (GW.out.below hb)
    replace Qx := Lib.hid (OwnDE.below Qx.out hb)
    replace B0 := Lib.hid (B0.out.trans (hb.mono B0.out.size))
    have hz := hb.size
    replace HSZ := Lib.hid (show _ ∧ _ from ⟨HSZ.out, hz⟩)
    have Wg := Lib.hid ho
    have hoc := worP_one ho
    clear ho hb hz
    go_upto_region 8 with ((with_reducible show wpList _ _ _ _ _ _); refine wpList_store_row rfl 49 _ _ rfl u6.heap.size (worVals s gc gj gt gl) rfl rfl 49 _ (Blk.new u6 u6.heap.size 49 #[.slice none 0 0, .slice none 0 0, .slice none 0 0, .slice none 0 0, .int .i64 0, .int .i64 0] rfl) (by kernel_rfl) rfl hoc ?_)
    refine wp_gen (fun X => Blk X u6.heap.size 49 (worVals s gc gj gt gl) ∧ Below u6.heap.size u6 X) ⟨setRow_heap _ _ _ _ _ _ (Blk.new u6 u6.heap.size 49 #[.slice none 0 0, .slice none 0 0, .slice none 0 0, .slice none 0 0, .int .i64 0, .int .i64 0] rfl), below_setRow' (below_oneL u6 _) (Nat.le_refl _) _⟩ ?_
    rintro u7 ⟨hx, hb⟩
    replace Ww := Lib.hid (Ww.out.below hb)
    replace GW := Lib.hid (GW.out.below hb)
    replace Qx := Lib.hid (OwnDE.below Qx.out hb)
    replace Wg := Lib.hid (Wg.out.below hb)
    replace B0 := Lib.hid (B0.out.trans (hb.mono B0.out.size))
    have GG := Lib.hid hx
    have hz : u6.heap.size < u7.heap.size := hx.lt
    replace HSZ := Lib.hid (show _ ∧ _ from ⟨HSZ.out, hz⟩)
    clear hx hb hoc hz
    go_wp2_with ((with_reducible show wpList _ _ _ _ _ _); first | refine wpList_load_row rfl 49 _ rfl u6.heap.size rfl 49 (worVals s gc gj gt gl) (0, 0) _ GG.out hul rfl (by kernel_rfl) ?_ | refine wpList_load_row rfl 49 _ rfl u3.heap.size rfl 49 (worVals s wc wj wt wl) (0, 0) _ GW.out hul rfl (by kernel_rfl) ?_)
    refine ((HEQ _ _ _ _ _ _ _ _ _ Wg.out.win Ww.out.win).out).mono ?_
    rintro e u8 ⟨rfl, hb⟩
    replace Ww := Lib.hid (Ww.out.below hb)
    replace GW := Lib.hid (GW.out.below hb)
    replace Qx := Lib.hid (OwnDE.below Qx.out hb)
    replace Wg := Lib.hid (Wg.out.below hb)
    replace GG := Lib.hid (GG.out.below hb)
    replace B0 := Lib.hid (B0.out.trans (hb.mono B0.out.size))
    clear hb
    go_wp2_with fail
    refine (HT0 _ (HIN0.out.below B0.out)).out.mono ?_
    rintro e u9 ⟨vy, rfl, ho, hb⟩
    replace Ww := Lib.hid (Ww.out.below hb)
    replace GW := Lib.hid (GW.out.below hb)
    replace Qx := Lib.hid (OwnDE.below Qx.out hb)
    replace Wg := Lib.hid (Wg.out.below hb)
    replace GG := Lib.hid (GG.out.below hb)
    replace B0 := Lib.hid (B0.out.trans (hb.mono B0.out.size))
    have hz := hb.size
    replace HSZ := Lib.hid (show _ ∧ _ from ⟨HSZ.out, hz⟩)
    have Qy := Lib.hid (OwnD.made ho)
    clear ho hb hz
    go_wp2_with fail
    refine (eqQueueS_same _ _ _ z0 (OwnD.arg Qx.out.own opCells_size zeroO) (OwnD.arg Qy.out.own opCells_size zeroO)).mono ?_
    rintro e u10 ⟨rfl, hb⟩
    replace Ww := Lib.hid (Ww.out.below hb)
    replace GW := Lib.hid (GW.out.below hb)
    replace Qx := Lib.hid (OwnDE.below Qx.out hb)
    replace Wg := Lib.hid (Wg.out.below hb)
    replace GG := Lib.hid (GG.out.below hb)
    replace Qy := Lib.hid (OwnDE.below Qy.out hb)
    replace B0 := Lib.hid (B0.out.trans (hb.mono B0.out.size))
    clear hb
    clear Qy
    have HM := Lib.hid (markQueueS_any _ _ _ _ z0 1 Qx.out HL0.out HLQ.out (by decide) (by decide))
    clear Qx
    go_wp2_with fail
    refine HM.out.mono ?_
    rintro e u11 ⟨rfl, hm, hc⟩
    clear hm HM
    have hs := HSZ.out
    replace Ww := Lib.hid (Ww.out.far hc (by omega))
    replace GW := Lib.hid (GW.out.chg hc (fun hw => by have h1 := hw.1; have h2 := hw.2; omega))
    replace Wg := Lib.hid (Wg.out.far hc (by omega))
    replace GG := Lib.hid (GG.out.chg hc (fun hw => by have h1 := hw.1; have h2 := hw.2; omega))
    replace B0 := Lib.hid (Chg.to_below B0.out hc B0.out.size (fun i hi => by have h1 := hi.1; omega))
    clear hs
    clear hc
    have dk : decide (endQ 1 z0 < 0) = false := decide_eq_false (by have := HKQ.out; omega)
    generalize endQ 1 z0 = kq at *
    go_wp2_with ((with_reducible show wpList _ _ _ _ _ _); first | refine wpList_load_rowG 49 _ rfl u6.heap.size rfl 49 (worVals s gc gj gt gl) (0, 0) _ GG.out hul rfl (by kernel_rfl) rfl ?_ | refine wpList_load_rowG 49 _ rfl u3.heap.size rfl 49 (worVals s wc wj wt wl) (0, 0) _ GW.out hul rfl (by kernel_rfl) rfl ?_)
    refine ((HEQ _ _ _ _ _ _ _ _ _ Wg.out.win Ww.out.win).out).mono ?_
    rintro e u12 ⟨rfl, hb⟩
    replace Ww := Lib.hid (Ww.out.below hb)
    replace GW := Lib.hid (GW.out.below hb)
    replace Wg := Lib.hid (Wg.out.below hb)
    replace GG := Lib.hid (GG.out.below hb)
    replace B0 := Lib.hid (B0.out.trans (hb.mono B0.out.size))
    clear hb
    have HM := Lib.hid (markWorld_any _ _ _ s _ _ _ _ 1 Wg.out (by have hs := HSZ.out; have hz := GG.out.lt; omega) HTM.out)
    have dw : decide (endW 1 s < 0) = false := decide_eq_false (endW_pos HTM.out)
    clear Wg
    go_wp2_with ((with_reducible show wpList _ _ _ _ _ _); refine wpList_load_row rfl 49 _ rfl u6.heap.size rfl 49 (worVals s gc gj gt gl) (0, 0) _ GG.out hul rfl (by kernel_rfl) ?_)
    refine HM.out.mono ?_
    rintro e u13 ⟨rfl, hm, hc⟩
    have hs := HSZ.out
    replace Ww := Lib.hid (Ww.out.far hc (by omega))
    replace GW := Lib.hid (GW.out.chg hc (fun hw => by have h1 := hw.1; have h2 := hw.2; omega))
    replace GG := Lib.hid (GG.out.chg hc (fun hw => by have h1 := hw.1; have h2 := hw.2; omega))
    replace B0 := Lib.hid (Chg.to_below B0.out hc B0.out.size (fun i hi => by have h1 := hi.1; omega))
    clear hs
    have Wm := Lib.hid hm
    clear hm HM hc
    have HH := fun W (h : WorP W u5.heap.size u6.heap.size (markW 1 s) gc gj gt gl) => Lib.hid (show Calls Try.prog 30 #[.agg (worVals s gc gj gt gl), .int .i64 1] W (Gives (.int .i64 (endW 1 s)) W) from heldWorld_any W _ _ s _ _ _ _ 1 h HTM.out)
    generalize endW 1 s = kw at *
    go_wp2_with ((with_reducible show wpList _ _ _ _ _ _); refine wpList_load_row rfl 49 _ rfl u6.heap.size rfl 49 (worVals s gc gj gt gl) (0, 0) _ GG.out hul rfl (by kernel_rfl) ?_)
    refine ((HH _ Wm.out).out).mono ?_
    rintro e u14 ⟨rfl, hb⟩
    replace Ww := Lib.hid (Ww.out.below hb)
    replace GW := Lib.hid (GW.out.below hb)
    replace GG := Lib.hid (GG.out.below hb)
    replace Wm := Lib.hid (Wm.out.below hb)
    replace B0 := Lib.hid (B0.out.trans (hb.mono B0.out.size))
    clear hb
    go_wp2_with fail
    refine (HT0 _ (HIN0.out.below B0.out)).out.mono ?_
    rintro e u15 ⟨vb, rfl, ho, hb⟩
    replace Ww := Lib.hid (Ww.out.below hb)
    replace GW := Lib.hid (GW.out.below hb)
    replace GG := Lib.hid (GG.out.below hb)
    replace Wm := Lib.hid (Wm.out.below hb)
    replace B0 := Lib.hid (B0.out.trans (hb.mono B0.out.size))
    have hz := hb.size
    replace HSZ := Lib.hid (show _ ∧ _ from ⟨HSZ.out, hz⟩)
    have Qb := Lib.hid (OwnD.made ho)
    clear ho hb hz
    go_wp2_with fail
    refine (H2 _ _ _ (OwnDE.own Qb.out)).out.mono ?_
    rintro e u16 ⟨hc, hj, ht, hl, rfl, ho, hb⟩
    replace Ww := Lib.hid (Ww.out.below hb)
    replace GW := Lib.hid (GW.out.below hb)
    replace GG := Lib.hid (GG.out.below hb)
    replace Wm := Lib.hid (Wm.out.below hb)
    replace Qb := Lib.hid (OwnDE.below Qb.out hb)
    replace B0 := Lib.hid (B0.out.trans (hb.mono B0.out.size))
    have hz := hb.size
    replace HSZ := Lib.hid (show _ ∧ _ from ⟨HSZ.out, hz⟩)
    have Wh := Lib.hid ho
    have hoc := worP_one ho
    clear ho hb hz
    go_upto_region 25 with ((with_reducible show wpList _ _ _ _ _ _); refine wpList_store_row rfl 49 _ _ rfl u16.heap.size (worVals s hc hj ht hl) rfl rfl 49 _ (Blk.new u16 u16.heap.size 49 #[.slice none 0 0, .slice none 0 0, .slice none 0 0, .slice none 0 0, .int .i64 0, .int .i64 0] rfl) (by kernel_rfl) rfl hoc ?_)
    refine wp_gen (fun X => Blk X u16.heap.size 49 (worVals s hc hj ht hl) ∧ Below u16.heap.size u16 X) ⟨setRow_heap _ _ _ _ _ _ (Blk.new u16 u16.heap.size 49 #[.slice none 0 0, .slice none 0 0, .slice none 0 0, .slice none 0 0, .int .i64 0, .int .i64 0] rfl), below_setRow' (below_oneL u16 _) (Nat.le_refl _) _⟩ ?_
    rintro u17 ⟨hx, hb⟩
    replace Ww := Lib.hid (Ww.out.below hb)
    replace GW := Lib.hid (GW.out.below hb)
    replace GG := Lib.hid (GG.out.below hb)
    replace Wm := Lib.hid (Wm.out.below hb)
    replace Qb := Lib.hid (OwnDE.below Qb.out hb)
    replace Wh := Lib.hid (Wh.out.below hb)
    replace B0 := Lib.hid (B0.out.trans (hb.mono B0.out.size))
    have GH := Lib.hid hx
    have hz : u16.heap.size < u17.heap.size := hx.lt
    replace HSZ := Lib.hid (show _ ∧ _ from ⟨HSZ.out, hz⟩)
    clear hx hb hoc hz
    go_wp2_with ((with_reducible show wpList _ _ _ _ _ _); first | refine wpList_load_row rfl 49 _ rfl u16.heap.size rfl 49 (worVals s hc hj ht hl) (0, 0) _ GH.out hul rfl (by kernel_rfl) ?_ | refine wpList_load_row rfl 49 _ rfl u3.heap.size rfl 49 (worVals s wc wj wt wl) (0, 0) _ GW.out hul rfl (by kernel_rfl) ?_)
    refine ((HEQ _ _ _ _ _ _ _ _ _ Wh.out.win Ww.out.win).out).mono ?_
    rintro e u18 ⟨rfl, hb⟩
    replace Ww := Lib.hid (Ww.out.below hb)
    replace GW := Lib.hid (GW.out.below hb)
    replace GG := Lib.hid (GG.out.below hb)
    replace Wm := Lib.hid (Wm.out.below hb)
    replace Qb := Lib.hid (OwnDE.below Qb.out hb)
    replace Wh := Lib.hid (Wh.out.below hb)
    replace GH := Lib.hid (GH.out.below hb)
    replace B0 := Lib.hid (B0.out.trans (hb.mono B0.out.size))
    clear hb
    go_wp2_with ((with_reducible show wpList _ _ _ _ _ _); refine wpList_load_row rfl 49 _ rfl u6.heap.size rfl 49 (worVals s gc gj gt gl) (0, 0) _ GG.out hul rfl (by kernel_rfl) ?_)
    refine ((HH _ Wm.out).out).mono ?_
    rintro e u19 ⟨rfl, hb⟩
    replace Ww := Lib.hid (Ww.out.below hb)
    replace GW := Lib.hid (GW.out.below hb)
    replace GG := Lib.hid (GG.out.below hb)
    replace Wm := Lib.hid (Wm.out.below hb)
    replace Qb := Lib.hid (OwnDE.below Qb.out hb)
    replace Wh := Lib.hid (Wh.out.below hb)
    replace GH := Lib.hid (GH.out.below hb)
    replace B0 := Lib.hid (B0.out.trans (hb.mono B0.out.size))
    clear hb
    go_wp2_with fail
    go_ret
    exact ⟨rfl, B0.out⟩

set_option maxRecDepth 100000 in
theorem lifted (os : Os) (started : os.Started) (H : Type) (enc : TypeId × Value → H) :
    ReturnsInHanded {} Try.checked os 6 .any (Rows.fnExactWorldNewSpec.pre6 enc Try.prog Try.f6 Rows.fnExactWorldNewRow.domain false) (Rows.fnExactWorldNewSpec.post enc Try.prog Try.f6 false true false false) := by
  refine returnsInHanded_of_change (C := Try.checked) own started (by kernel_rfl) Try.func6
    (ChangeSpec.witness6 (enc := enc) (C := Try.checked) false ⟨#[], #[.slice none 0 0], []⟩ 8 (by kernel_rfl) (by kernel_rfl) (by kernel_rfl) (by kernel_rfl)) ?_
  intro W base args ds gs before hval0 hW hcnd _
  have hval : ∀ (j : Nat) t v, Try.f6.params[j]? = some t → args[j]? = some v → Value.okWide Try.prog W .any base t v := hval0
  have hW' := hW
  obtain ⟨p, q, hA0, hV, rfl, hfz, hnd⟩ := hW
  have hA : DataW.TrodAll enc Try.prog W 0 (fun _ => true) true Try.f6.params.toList args.toList ds p := hA0
  rw [Try.params6] at hA hval
  obtain ⟨v0, vs0, d0, ds0, p0, q0, hargs, rfl, rfl, h0, r0⟩ := trodAll_cons hA
  obtain ⟨rfl, rfl, rfl⟩ := trodAll_nil r0
  obtain rfl : args = #[v0] := by cases args; simp_all
  obtain ⟨rfl, rfl⟩ := trodVars_none hV
  obtain ⟨a0, len0, cap0, rfl⟩ := okWide_slice Try.underlying29 (hval 0 29 v0 rfl rfl)
  have k0 := h0
  have lt0 : ∀ x ∈ p0, x.block < W.heap.size := by obtain ⟨m, hm⟩ := k0; exact DataW.trod_lt m _ _ _ hm
  obtain ⟨z0, w0, f0⟩ : ∃ zs, ArgQ W (.slice a0 len0 cap0) zs ∧ FitQ zs := by
    obtain ⟨fuel, hf⟩ := h0
    exact rd_queues (by simpa [Value.cells] using hf)
  clear hA0 hval0
  refine (walk W a0 len0 cap0 z0 w0 f0).mono fun e W' ⟨he, bel⟩ => ?_
  subst he
  exact ⟨_, rfl, _, _, _, [], _, [], hW', trodAll_mk1 (shut_bool Try.underlying4 _), (trodAll_cons_mk (Below.trod laidOut (by kernel_rfl) (of_decide_eq_true (by kernel_rfl)) k0 bel lt0) trodAll_mk0), rfl, bel.frame _, fun h => by cases h⟩

theorem over : Rows.fnExactWorldNewRow.holds Try.pinned (OpenSpec.ofChange Rows.fnExactWorldNewSpec) :=
  OpenClaim.holds_of_wide 6 Try.f6 rfl rfl rfl rfl rfl rfl rfl ⟨rfl, rfl, rfl, rfl, rfl⟩ rfl rfl rfl rfl rfl (by kernel_rfl) Try.func6 (by kernel_rfl)
    (of_decide_eq_true (by kernel_rfl)) (by unfold Func.isWrapper; first | (rw [if_pos (by decide +kernel)]; kernel_rfl) | (rw [if_neg (by decide +kernel)]; exact ⟨rfl, rfl⟩))
    (fun os started H enc _ => lifted os started H enc)

end Go.Proofs.Ytfemdhknnfmpcaa.fnExactWorldNew
namespace Go.Proofs.Ytfemdhknnfmpcaa
theorem fnExactWorldNew_holds : Rows.FnExactWorldNewSaid := fnExactWorldNew.over
end Go.Proofs.Ytfemdhknnfmpcaa
