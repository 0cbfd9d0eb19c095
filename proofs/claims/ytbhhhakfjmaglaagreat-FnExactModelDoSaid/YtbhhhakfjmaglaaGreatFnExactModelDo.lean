/-
  FnExactModelDo: what the function answers is what its model answers, at every argument: the law's call returns true and each argument reads afterwards as before, without any condition on the arguments.
-/
import Derived.Test.YtbhhhakfjmaglaaGreatRows
import Derived.Test.YtbhhhakfjmaglaaGreatModY
import Derived.Test.YtbhhhakfjmaglaaGreatModB
import Derived.Test.YtbhhhakfjmaglaaGreatModX
import Derived.Test.YtbhhhakfjmaglaaGreatModK
import Derived.Test.YtbhhhakfjmaglaaGreatModL
import Derived.Test.YtbhhhakfjmaglaaGreatZc
import Derived.Test.YtbhhhakfjmaglaaGreatOpC
import Derived.WalkKit
import Derived.ProofKit
import Derived.OpenShut
import Derived.ShutString
import Derived.ChangeOld
import Derived.Below
namespace Go.Proofs.YtbhhhakfjmaglaaGreat.fnExactModelDo
open Go.ChangeShapes Go.WideShapes Go.ChangeAt Go.RowKit Go.Proofs.YtbhhhakfjmaglaaGreat.M
open Go.ChangeMaps (open_string shut_string)
set_option linter.unusedVariables false
set_option linter.unusedSimpArgs false

theorem own : ownKnob Tryz.prog.godebug = none := by kernel_rfl
theorem laidOut : laidOutB Tryz.prog = true := by kernel_rfl

set_option maxRecDepth 100000 in
set_option maxHeartbeats 4000000 in
theorem walk (w : World) (z0 : Mo) (vk0 vr0 : Value) (w0 : MoIn w z0 vk0 vr0) (f0 : z0.Fit) (a1 : O) (w1 : a1.Fit) :
    Calls Tryz.prog 5 #[.agg #[vk0, vr0], a1.v] w fun e w' => e = .returned (.bool true) ∧ Below w.heap.size w w' := by
  have hulL := Tryz.underlying48
  have hulI := Tryz.underlying27
  have hulO := Tryz.underlying49
  have HIN := Lib.hid w0
  have HZ := fun W (h : MoIn W z0 vk0 vr0) => Lib.hid (szModel_any W z0 vk0 vr0 (1048576) h f0 (by omega) (by omega))
  by_cases hneg0 : szMoV z0 (1048576) < 0
  · have d0 : decide (szMoV z0 (1048576) < 0) = true := decide_eq_true hneg0
    clear w0
    unfold O.v
    go_enter Tryz.func5, Tryz.ntmps5
    go_upto_region 1 with fail
    refine wp_gen (fun W => Blk W (w.heap.size + 0) 48 #[vk0, vr0] ∧ Blk W (w.heap.size + 1) 49 #[.int .i64 a1.kind, .string a1.key, .int .i64 a1.what, .int .i64 a1.val] ∧ Below w.heap.size w W) ⟨(Blk.new w _ _ _ rfl).alloc _, Blk.new _ _ _ _ (by simp [go_sem]), ((Below.refl w.heap.size w).alloc (by simp [go_sem]) _).alloc (by simp [go_sem]; try omega) _⟩ ?_
    rintro u1 ⟨ga, go, hb⟩
    have GA := Lib.hid ga
    have GO := Lib.hid go
    have B0 := Lib.hid hb
    clear hb ga go
    have HSZ := Lib.hid (show w.heap.size + 2 ≤ u1.heap.size from GO.out.lt)
    go_wp2_with ((with_reducible show wpList _ _ _ _ _ _); first | refine wpList_load_row rfl 48 _ rfl (w.heap.size + 0) rfl 48 #[vk0, vr0] (0, 0) _ GA.out hulL rfl (by kernel_rfl) ?_)
    refine ((HZ _ (HIN.out.below B0.out)).out).mono ?_
    rintro e u2 ⟨rfl, hb⟩
    replace GA := Lib.hid (GA.out.below hb)
    replace GO := Lib.hid (GO.out.below hb)
    replace B0 := Lib.hid (B0.out.trans (hb.mono B0.out.size))
    replace HSZ := Lib.hid (Nat.le_trans HSZ.out hb.size)
    clear hb
    go_wp2_with fail
    go_ret
    exact ⟨rfl, B0.out⟩
  have d0 : decide (szMoV z0 (1048576) < 0) = false := decide_eq_false hneg0
  have hsl := szMo_le (m := z0) (left := 1048576) (by omega)
  have HSO := fun W => Lib.hid (szOp_any W a1 (szMoV z0 (1048576)) w1.key (by omega) (by omega))
  by_cases hneg1 : (if szMoV z0 (1048576) - (a1.key.size : Int) < 0 then -1 else szMoV z0 (1048576) - (a1.key.size : Int)) < 0
  · have d1 : decide ((if szMoV z0 (1048576) - (a1.key.size : Int) < 0 then -1 else szMoV z0 (1048576) - (a1.key.size : Int)) < 0) = true := decide_eq_true hneg1
    generalize (if szMoV z0 (1048576) - (a1.key.size : Int) < 0 then -1 else szMoV z0 (1048576) - (a1.key.size : Int)) = n1 at *
    clear w0
    unfold O.v at HSO ⊢
    go_enter Tryz.func5, Tryz.ntmps5
    go_upto_region 1 with fail
    refine wp_gen (fun W => Blk W (w.heap.size + 0) 48 #[vk0, vr0] ∧ Blk W (w.heap.size + 1) 49 #[.int .i64 a1.kind, .string a1.key, .int .i64 a1.what, .int .i64 a1.val] ∧ Below w.heap.size w W) ⟨(Blk.new w _ _ _ rfl).alloc _, Blk.new _ _ _ _ (by simp [go_sem]), ((Below.refl w.heap.size w).alloc (by simp [go_sem]) _).alloc (by simp [go_sem]; try omega) _⟩ ?_
    rintro u1 ⟨ga, go, hb⟩
    have GA := Lib.hid ga
    have GO := Lib.hid go
    have B0 := Lib.hid hb
    clear hb ga go
    have HSZ := Lib.hid (show w.heap.size + 2 ≤ u1.heap.size from GO.out.lt)
    go_wp2_with ((with_reducible show wpList _ _ _ _ _ _); first | refine wpList_load_row rfl 48 _ rfl (w.heap.size + 0) rfl 48 #[vk0, vr0] (0, 0) _ GA.out hulL rfl (by kernel_rfl) ?_)
    refine ((HZ _ (HIN.out.below B0.out)).out).mono ?_
    rintro e u2 ⟨rfl, hb⟩
    replace GA := Lib.hid (GA.out.below hb)
    replace GO := Lib.hid (GO.out.below hb)
    replace B0 := Lib.hid (B0.out.trans (hb.mono B0.out.size))
    replace HSZ := Lib.hid (Nat.le_trans HSZ.out hb.size)
    clear hb
    go_wp2_with ((with_reducible show wpList _ _ _ _ _ _); first | refine wpList_load_row rfl 49 _ rfl (w.heap.size + 1) rfl 49 #[.int .i64 a1.kind, .string a1.key, .int .i64 a1.what, .int .i64 a1.val] (0, 0) _ GO.out hulO rfl (by kernel_rfl) ?_)
    refine ((HSO _).out).mono ?_
    rintro e u3 ⟨rfl, hb⟩
    replace GA := Lib.hid (GA.out.below hb)
    replace GO := Lib.hid (GO.out.below hb)
    replace B0 := Lib.hid (B0.out.trans (hb.mono B0.out.size))
    replace HSZ := Lib.hid (Nat.le_trans HSZ.out hb.size)
    clear hb
    go_wp2_with fail
    go_ret
    exact ⟨rfl, B0.out⟩
  have d1 : decide ((if szMoV z0 (1048576) - (a1.key.size : Int) < 0 then -1 else szMoV z0 (1048576) - (a1.key.size : Int)) < 0) = false := decide_eq_false hneg1
  generalize (if szMoV z0 (1048576) - (a1.key.size : Int) < 0 then -1 else szMoV z0 (1048576) - (a1.key.size : Int)) = n1 at *
  have hk0 : z0.keys.length ≤ 1048576 := by omega
  have hr0 : z0.rows.length ≤ 1048576 := by omega
  have hsm := mDo_small a1 hk0 hr0
  have HT := fun W (h : MoIn W z0 vk0 vr0) => Lib.hid (toModel_any W z0 vk0 vr0 h hk0 hr0)
  have HTO := fun W => Lib.hid (toOp_any W a1)
  have HSD := fun W B k r (h : MoOwn W B z0 k r) (hB : B ≤ W.heap.size) => Lib.hid (sModelDo_any W B z0 a1 k r h hB hk0 hr0 f0 w1.key)
  have HID := fun W B k r (h : MoOwn W B z0 k r) (hB : B ≤ W.heap.size) => Lib.hid (iModelDo_any W B z0 a1 k r h hB hk0 hr0 f0 w1)
  have HEZ := fun W a b c d h k => Lib.hid (eqModel_same W z0 a b c d h k)
  have HEP := fun W a b c d h k => Lib.hid (eqModel_same W (mDoV z0 a1).1 a b c d h k)
  have HER := fun W a b h k => Lib.hid (eqRowS_same W a b (mDoV z0 a1).2.2 h k)
  obtain ⟨n2, hn2⟩ : ∃ n : Int, n = 1 + 2 * (z0.keys.length : Int) + 10 * (z0.rows.length : Int) := ⟨_, rfl⟩
  obtain ⟨n3, hn3⟩ : ∃ n : Int, n = 1 + 2 * ((mDoV z0 a1).1.keys.length : Int) + 10 * ((mDoV z0 a1).1.rows.length : Int) := ⟨_, rfl⟩
  obtain ⟨n4, hn4⟩ : ∃ n : Int, n = n3 + 10 * ((mDoV z0 a1).2.2.length : Int) := ⟨_, rfl⟩
  have d2 : decide (n2 < 0) = false := by rw [decide_eq_false_iff_not]; omega
  have d3 : decide (n3 < 0) = false := by rw [decide_eq_false_iff_not]; omega
  have d4 : decide (n4 < 0) = false := by rw [decide_eq_false_iff_not]; omega
  have HMX := fun W b e k r h => Lib.hid (markE_any W b e z0 k r 1 n2 h hk0 hr0 (by omega) (by omega) hn2)
  have HMG := fun W b e k r h => Lib.hid (markE_any W b e (mDoV z0 a1).1 k r 1 n3 h hsm.1 hsm.2.1 (by omega) (by omega) hn3)
  have HMR := fun W b v (h : OwnR W b v (mDoV z0 a1).2.2) => Lib.hid (show Calls Tryz.prog 26 #[v, .int .i64 n3] W (fun e w' => e = .returned (.int .i64 n4) ∧ OwnR w' b v (marksRow n3 (mDoV z0 a1).2.2.length) ∧ W.grownBy w' v.ownBlock) from (markRowS_any W b v (mDoV z0 a1).2.2 n3 h hsm.2.2 (by omega) (by omega)).mono (by rintro e w' ⟨rfl, hm, hg⟩; exact ⟨by rw [hn4], hm, hg⟩))
  have HHG := fun W b k r (h : MoOwn W b (markMo 1 (mDoV z0 a1).1) k r) => Lib.hid (show Calls Tryz.prog 27 #[.agg #[k, r], .int .i64 1] W (Gives (.int .i64 n3) W) from by rw [hn3]; exact heldModel_any W b (mDoV z0 a1).1 k r 1 h hsm.1 hsm.2.1 (by omega) (by omega))
  have HHR := fun W b v (h : OwnR W b v (marksRow n3 (mDoV z0 a1).2.2.length)) => Lib.hid (show Calls Tryz.prog 28 #[v, .int .i64 n3] W (Gives (.int .i64 n4) W) from by rw [hn4]; exact heldRowS_any W b v n3 (mDoV z0 a1).2.2.length h (by omega) (by omega) hsm.2.2)
  have HN4 := Lib.hid hn4
  clear w0 hsl hneg0 hneg1 hk0 hr0 hsm hn2 hn3 hn4 f0
  generalize mDoV z0 a1 = p at *
  unfold O.v at HSO HTO HSD HID ⊢
  go_enter Tryz.func5, Tryz.ntmps5
  go_upto_region 1 with fail
  refine wp_gen (fun W => Blk W (w.heap.size + 0) 48 #[vk0, vr0] ∧ Blk W (w.heap.size + 1) 49 #[.int .i64 a1.kind, .string a1.key, .int .i64 a1.what, .int .i64 a1.val] ∧ Below w.heap.size w W) ⟨(Blk.new w _ _ _ rfl).alloc _, Blk.new _ _ _ _ (by simp [go_sem]), ((Below.refl w.heap.size w).alloc (by simp [go_sem]) _).alloc (by simp [go_sem]; try omega) _⟩ ?_
  rintro u1 ⟨ga, go, hb⟩
  have GA := Lib.hid ga
  have GO := Lib.hid go
  have B0 := Lib.hid hb
  clear hb ga go
  have HSZ := Lib.hid (show w.heap.size + 2 ≤ u1.heap.size from GO.out.lt)
  go_wp2_with ((with_reducible show wpList _ _ _ _ _ _); first | refine wpList_load_row rfl 48 _ rfl (w.heap.size + 0) rfl 48 #[vk0, vr0] (0, 0) _ GA.out hulL rfl (by kernel_rfl) ?_)
  refine ((HZ _ (HIN.out.below B0.out)).out).mono ?_
  rintro e u2 ⟨rfl, hb⟩
  replace GA := Lib.hid (GA.out.below hb)
  replace GO := Lib.hid (GO.out.below hb)
  replace B0 := Lib.hid (B0.out.trans (hb.mono B0.out.size))
  replace HSZ := Lib.hid (Nat.le_trans HSZ.out hb.size)
  clear hb
  go_wp2_with ((with_reducible show wpList _ _ _ _ _ _); first | refine wpList_load_row rfl 49 _ rfl (w.heap.size + 1) rfl 49 #[.int .i64 a1.kind, .string a1.key, .int .i64 a1.what, .int .i64 a1.val] (0, 0) _ GO.out hulO rfl (by kernel_rfl) ?_)
  refine ((HSO _).out).mono ?_
  rintro e u3 ⟨rfl, hb⟩
  replace GA := Lib.hid (GA.out.below hb)
  replace GO := Lib.hid (GO.out.below hb)
  replace B0 := Lib.hid (B0.out.trans (hb.mono B0.out.size))
  replace HSZ := Lib.hid (Nat.le_trans HSZ.out hb.size)
  clear hb
  go_upto_region 8 with fail
  go_cut [6, 7, 8] from 30 to 37 (fun x y z wx => ∃ g k r o, x = .pointer (some ⟨g, 0, none⟩) ∧ y = .int .i64 p.2.1 ∧ z = o ∧ TriE wx u3.heap.size wx.heap.size p k r o ∧ Blk wx g 27 #[k, r] ∧ Below u3.heap.size u3 wx)
  case first =>
    have hbd : Below u3.heap.size u3 u3.drew := below_drew _ _
    have QA := Lib.hid (show Blk u3.drew (w.heap.size + 0) 48 #[vk0, vr0] from GA.out.below hbd)
    have QO := Lib.hid (show Blk u3.drew (w.heap.size + 1) 49 #[.int .i64 a1.kind, .string a1.key, .int .i64 a1.what, .int .i64 a1.val] from GO.out.below hbd)
    have HB := Lib.hid (B0.out.trans (hbd.mono B0.out.size))
    have HBW := Lib.hid hbd
    clear hbd B0 GA GO
    refine wp_region_held_drew (S := fun X : World => Blk X (w.heap.size + 0) 48 #[vk0, vr0] ∧ Blk X (w.heap.size + 1) 49 #[.int .i64 a1.kind, .string a1.key, .int .i64 a1.what, .int .i64 a1.val]) (by kernel_rfl) ⟨QA.out, QO.out⟩ (fun hHeld => ?_)
    clear hHeld
    generalize u3.drew = X0 at *
    refine' wpAnyH_take (i := 0) (v := .agg #[vk0, vr0]) rfl (by kernel_rfl) (by kernel_rfl) (by kernel_rfl) (fun _ _ _ h => h) (yieldsIf_load_mid (by rfl) 48 _ rfl (w.heap.size + 0) 0 rfl (#[vk0, vr0] : Array Value).toList _ (fun w' h => Blk.rangeM h.1) hulL rfl (by kernel_rfl)) ⟨QA.out, QO.out⟩ ?_
    try simp only [Act.put, List.getElem_toArray, List.getElem_cons_succ, List.getElem_cons_zero, List.setIfInBounds_toArray, List.set_cons_zero, List.set_cons_succ]
    refine' wpAnyH_take (i := 2) (v := .agg #[.int .i64 a1.kind, .string a1.key, .int .i64 a1.what, .int .i64 a1.val]) rfl (by kernel_rfl) (by kernel_rfl) (by kernel_rfl) (fun _ _ _ h => h) (yieldsIf_load_mid (by rfl) 49 _ rfl (w.heap.size + 1) 0 rfl (#[.int .i64 a1.kind, .string a1.key, .int .i64 a1.what, .int .i64 a1.val] : Array Value).toList _ (fun w' h => Blk.rangeM h.2) hulO rfl (by kernel_rfl)) ⟨QA.out, QO.out⟩ ?_
    try simp only [Act.put, List.getElem_toArray, List.getElem_cons_succ, List.getElem_cons_zero, List.setIfInBounds_toArray, List.set_cons_zero, List.set_cons_succ]
    refine wpAnyH_ready (rs := [1, 9]) (by kernel_rfl) (by simp) ?_
    refine AllReadyH.cons rfl (fun K hK => ?_) (AllReadyH.cons rfl (fun K hK => ?_) AllReadyH.nil)
    · skip
      go_simp
      refine (HT _ (HIN.out.below HB.out)).out.mono ?_
      rintro e X1 ⟨sk, sr, rfl, ho, hb⟩
      replace QA := Lib.hid (QA.out.below hb); replace QO := Lib.hid (QO.out.below hb); replace HB := Lib.hid (HB.out.trans (hb.mono HB.out.size)); replace HBW := Lib.hid (HBW.out.trans (hb.mono HBW.out.size))
      have QM := Lib.hid ho
      have HQ9 := Lib.hid hb.size
      clear ho
      refine hK.out _ _ ⟨QA.out, QO.out⟩ (fun hHeld => ?_)
      clear hK K hHeld hb
      try simp only [Act.put, List.getElem_toArray, List.getElem_cons_succ, List.getElem_cons_zero, List.setIfInBounds_toArray, List.set_cons_zero, List.set_cons_succ]
      refine wpAnyH_ready (rs := [3, 9]) (by kernel_rfl) (by simp) ?_
      refine AllReadyH.cons rfl (fun K hK => ?_) (AllReadyH.cons rfl (fun K hK => ?_) AllReadyH.nil)
      · skip
        go_simp
        refine (HTO _).out.mono ?_
        rintro e X2 ⟨rfl, hb⟩
        replace QA := Lib.hid (QA.out.below hb); replace QO := Lib.hid (QO.out.below hb); replace HB := Lib.hid (HB.out.trans (hb.mono HB.out.size)); replace HBW := Lib.hid (HBW.out.trans (hb.mono HBW.out.size)); replace QM := Lib.hid (QM.out.below hb); replace HQ9 := Lib.hid (Nat.le_trans HQ9.out hb.size)
        refine hK.out _ _ ⟨QA.out, QO.out⟩ (fun hHeld => ?_)
        clear hK K hHeld hb
        try simp only [Act.put, List.getElem_toArray, List.getElem_cons_succ, List.getElem_cons_zero, List.setIfInBounds_toArray, List.set_cons_zero, List.set_cons_succ]
        refine wpAnyH_ready (rs := [4, 9]) (by kernel_rfl) (by simp) ?_
        refine AllReadyH.cons rfl (fun K hK => ?_) (AllReadyH.cons rfl (fun K hK => ?_) AllReadyH.nil)
        · skip
          go_simp
          refine (HSD _ _ _ _ QM.out HQ9.out).out.mono ?_
          rintro e X3 ⟨k, r, o, rfl, hm, hr, ha, hb⟩
          have QT := Lib.hid ((TriE.made hm hr ha).wide HBW.out.size (Nat.le_refl _))
          replace QA := Lib.hid (QA.out.below hb); replace QO := Lib.hid (QO.out.below hb); replace HB := Lib.hid (HB.out.trans (hb.mono HB.out.size)); replace HBW := Lib.hid (HBW.out.trans (hb.mono HBW.out.size)); replace QM := Lib.hid (QM.out.below hb); replace HQ9 := Lib.hid (Nat.le_trans HQ9.out hb.size)
          have HE9 := Lib.hid (Nat.le_refl X3.heap.size)
          clear hm hr ha QM HQ9
          refine hK.out _ _ ⟨QA.out, QO.out⟩ (fun hHeld => ?_)
          clear hK K hHeld hb
          try simp only [Act.put, List.getElem_toArray, List.getElem_cons_succ, List.getElem_cons_zero, List.setIfInBounds_toArray, List.set_cons_zero, List.set_cons_succ]
          refine' wpAnyH_take (i := 5) (v := .tuple #[.agg #[k, r], .int .i64 p.2.1, o]) rfl (by kernel_rfl) (by kernel_rfl) (by kernel_rfl) (fun _ _ _ h => h) (Or.inl ⟨by rfl, fun W h => by go_simp⟩) ⟨QA.out, QO.out⟩ ?_
          try simp only [Act.put, List.getElem_toArray, List.getElem_cons_succ, List.getElem_cons_zero, List.setIfInBounds_toArray, List.set_cons_zero, List.set_cons_succ]
          refine' wpAnyH_take (i := 6) (v := .agg #[k, r]) rfl (by kernel_rfl) (by kernel_rfl) (by kernel_rfl) (fun _ _ _ h => h) (Or.inl ⟨by rfl, fun W h => by go_simp⟩) ⟨QA.out, QO.out⟩ ?_
          try simp only [Act.put, List.getElem_toArray, List.getElem_cons_succ, List.getElem_cons_zero, List.setIfInBounds_toArray, List.set_cons_zero, List.set_cons_succ]
          refine' wpAnyH_take (i := 7) (v := .int .i64 p.2.1) rfl (by kernel_rfl) (by kernel_rfl) (by kernel_rfl) (fun _ _ _ h => h) (Or.inl ⟨by rfl, fun W h => by go_simp⟩) ⟨QA.out, QO.out⟩ ?_
          try simp only [Act.put, List.getElem_toArray, List.getElem_cons_succ, List.getElem_cons_zero, List.setIfInBounds_toArray, List.set_cons_zero, List.set_cons_succ]
          refine' wpAnyH_take (i := 8) (v := o) rfl (by kernel_rfl) (by kernel_rfl) (by kernel_rfl) (fun _ _ _ h => h) (Or.inl ⟨by rfl, fun W h => by go_simp⟩) ⟨QA.out, QO.out⟩ ?_
          try simp only [Act.put, List.getElem_toArray, List.getElem_cons_succ, List.getElem_cons_zero, List.setIfInBounds_toArray, List.set_cons_zero, List.set_cons_succ]
          refine wpAnyH_ready (rs := [9]) (by kernel_rfl) (by simp) ?_
          refine AllReadyH.cons rfl (fun K hK => ?_) AllReadyH.nil
          go_simp
          have hb := below_oneM X3 (.cells #[.slice none 0 0, .slice none 0 0] 27)
          have hn := Blk.new X3 X3.heap.size 27 #[.slice none 0 0, .slice none 0 0] rfl
          obtain ⟨g7, hg⟩ : ∃ g, g = X3.heap.size := ⟨_, rfl⟩
          rw [← hg] at hn
          have HZ7 := Lib.hid (show u3.heap.size ≤ g7 from by rw [hg]; exact HBW.out.size)
          replace QA := Lib.hid (QA.out.below hb); replace QO := Lib.hid (QO.out.below hb); replace HB := Lib.hid (HB.out.trans (hb.mono HB.out.size)); replace HBW := Lib.hid (HBW.out.trans (hb.mono HBW.out.size)); replace QT := Lib.hid (QT.out.below hb); replace HE9 := Lib.hid (Nat.le_trans HE9.out hb.size)
          have Q7 := Lib.hid hn
          clear hn
          refine hK.out _ _ ⟨QA.out, QO.out⟩ (fun hHeld => ?_)
          clear hK K hHeld hb
          try simp only [Act.put, List.getElem_toArray, List.getElem_cons_succ, List.getElem_cons_zero, List.setIfInBounds_toArray, List.set_cons_zero, List.set_cons_succ]
          rw [← hg]
          clear hg
          obtain ⟨X4, hX⟩ : ∃ Y, Y = X3.alloc (.cells #[.slice none 0 0, .slice none 0 0] 27) := ⟨_, rfl⟩
          rw [← hX] at QA QO HB HBW Q7 HE9 QT ⊢
          clear hX
          refine wpAnyH_ready (rs := [10]) (by kernel_rfl) (by simp) ?_
          refine AllReadyH.cons rfl (fun K hK => ?_) AllReadyH.nil
          rw [if_pos (by rfl)]
          have hoc := mo_one2 QT.out.m
          refine wp_store_row 27 _ _ rfl g7 #[k, r] rfl rfl 27 _ Q7.out (by kernel_rfl) rfl hoc ?_
          have H7 := Lib.hid (show Blk (World.setRow _ g7 #[k, r]) g7 27 #[k, r] from setRow_heap _ _ _ _ _ _ Q7.out)
          have hge := HZ7.out
          have QT9 := Lib.hid (QT.out.farT Q7.out (setRow_grown _ g7 #[k, r]))
          have QA9 := Lib.hid (show Blk (World.setRow _ g7 #[k, r]) (w.heap.size + 0) 48 #[vk0, vr0] from (setRow_other _ g7 (w.heap.size + 0) _ (by have := HSZ.out; omega)).trans QA.out)
          have QO9 := Lib.hid (show Blk (World.setRow _ g7 #[k, r]) (w.heap.size + 1) 49 #[.int .i64 a1.kind, .string a1.key, .int .i64 a1.what, .int .i64 a1.val] from (setRow_other _ g7 (w.heap.size + 1) _ (by have := HSZ.out; omega)).trans QO.out)
          have HB9 := Lib.hid (below_setRow' HBW.out hge #[k, r])
          have HS9 := Lib.hid (Nat.le_of_eq (setRow_size X4 g7 #[k, r]).symm)
          refine hK.out _ _ ⟨QA9.out, QO9.out⟩ (fun hHeld => ?_)
          clear hK K hHeld QA QO Q7 QT HB HBW hoc hge
          try simp only [Act.put, List.getElem_toArray, List.getElem_cons_succ, List.getElem_cons_zero, List.setIfInBounds_toArray, List.set_cons_zero, List.set_cons_succ]
          refine' wpAnyH_take (i := 11) (v := .int .i64 p.2.1) rfl (by kernel_rfl) (by kernel_rfl) (by kernel_rfl) (fun _ _ _ h => h) (Or.inl ⟨by rfl, fun W h => by go_simp⟩) ⟨QA9.out, QO9.out⟩ ?_
          try simp only [Act.put, List.getElem_toArray, List.getElem_cons_succ, List.getElem_cons_zero, List.setIfInBounds_toArray, List.set_cons_zero, List.set_cons_succ]
          refine' wpAnyH_take (i := 12) (v := o) rfl (by kernel_rfl) (by kernel_rfl) (by kernel_rfl) (fun _ _ _ h => h) (Or.inl ⟨by rfl, fun W h => by go_simp⟩) ⟨QA9.out, QO9.out⟩ ?_
          try simp only [Act.put, List.getElem_toArray, List.getElem_cons_succ, List.getElem_cons_zero, List.setIfInBounds_toArray, List.set_cons_zero, List.set_cons_succ]
          refine wpAnyH_done (by kernel_rfl) ?_ _
          go_wp2_with fail
          go_meet
          exact ⟨g7, k, r, o, rfl, rfl, rfl, QT9.out.wide (Nat.le_refl _) (Nat.le_trans HE9.out HS9.out), H7.out, HB9.out⟩
        · skip
          go_simp
          have hb := below_oneM X2 (.cells #[.slice none 0 0, .slice none 0 0] 27)
          have hn := Blk.new X2 X2.heap.size 27 #[.slice none 0 0, .slice none 0 0] rfl
          obtain ⟨g7, hg⟩ : ∃ g, g = X2.heap.size := ⟨_, rfl⟩
          rw [← hg] at hn
          have HZ7 := Lib.hid (show u3.heap.size ≤ g7 from by rw [hg]; exact HBW.out.size)
          replace QA := Lib.hid (QA.out.below hb); replace QO := Lib.hid (QO.out.below hb); replace HB := Lib.hid (HB.out.trans (hb.mono HB.out.size)); replace HBW := Lib.hid (HBW.out.trans (hb.mono HBW.out.size)); replace QM := Lib.hid (QM.out.below hb); replace HQ9 := Lib.hid (Nat.le_trans HQ9.out hb.size)
          have Q7 := Lib.hid hn
          clear hn
          refine hK.out _ _ ⟨QA.out, QO.out⟩ (fun hHeld => ?_)
          clear hK K hHeld hb
          try simp only [Act.put, List.getElem_toArray, List.getElem_cons_succ, List.getElem_cons_zero, List.setIfInBounds_toArray, List.set_cons_zero, List.set_cons_succ]
          rw [← hg]
          clear hg
          obtain ⟨X5, hX⟩ : ∃ Y, Y = X2.alloc (.cells #[.slice none 0 0, .slice none 0 0] 27) := ⟨_, rfl⟩
          rw [← hX] at QA QO HB HBW Q7 HQ9 QM ⊢
          clear hX
          refine wpAnyH_ready (rs := [4]) (by kernel_rfl) (by simp) ?_
          refine AllReadyH.cons rfl (fun K hK => ?_) AllReadyH.nil
          go_simp
          refine (HSD _ _ _ _ QM.out HQ9.out).out.mono ?_
          rintro e X6 ⟨k, r, o, rfl, hm, hr, ha, hb⟩
          have QT := Lib.hid ((TriE.made hm hr ha).wide HBW.out.size (Nat.le_refl _))
          replace QA := Lib.hid (QA.out.below hb); replace QO := Lib.hid (QO.out.below hb); replace HB := Lib.hid (HB.out.trans (hb.mono HB.out.size)); replace HBW := Lib.hid (HBW.out.trans (hb.mono HBW.out.size)); replace QM := Lib.hid (QM.out.below hb); replace Q7 := Lib.hid (Q7.out.below hb); replace HQ9 := Lib.hid (Nat.le_trans HQ9.out hb.size)
          have HE9 := Lib.hid (Nat.le_refl X6.heap.size)
          clear hm hr ha QM HQ9
          refine hK.out _ _ ⟨QA.out, QO.out⟩ (fun hHeld => ?_)
          clear hK K hHeld hb
          try simp only [Act.put, List.getElem_toArray, List.getElem_cons_succ, List.getElem_cons_zero, List.setIfInBounds_toArray, List.set_cons_zero, List.set_cons_succ]
          refine' wpAnyH_take (i := 5) (v := .tuple #[.agg #[k, r], .int .i64 p.2.1, o]) rfl (by kernel_rfl) (by kernel_rfl) (by kernel_rfl) (fun _ _ _ h => h) (Or.inl ⟨by rfl, fun W h => by go_simp⟩) ⟨QA.out, QO.out⟩ ?_
          try simp only [Act.put, List.getElem_toArray, List.getElem_cons_succ, List.getElem_cons_zero, List.setIfInBounds_toArray, List.set_cons_zero, List.set_cons_succ]
          refine' wpAnyH_take (i := 6) (v := .agg #[k, r]) rfl (by kernel_rfl) (by kernel_rfl) (by kernel_rfl) (fun _ _ _ h => h) (Or.inl ⟨by rfl, fun W h => by go_simp⟩) ⟨QA.out, QO.out⟩ ?_
          try simp only [Act.put, List.getElem_toArray, List.getElem_cons_succ, List.getElem_cons_zero, List.setIfInBounds_toArray, List.set_cons_zero, List.set_cons_succ]
          refine' wpAnyH_take (i := 7) (v := .int .i64 p.2.1) rfl (by kernel_rfl) (by kernel_rfl) (by kernel_rfl) (fun _ _ _ h => h) (Or.inl ⟨by rfl, fun W h => by go_simp⟩) ⟨QA.out, QO.out⟩ ?_
          try simp only [Act.put, List.getElem_toArray, List.getElem_cons_succ, List.getElem_cons_zero, List.setIfInBounds_toArray, List.set_cons_zero, List.set_cons_succ]
          refine' wpAnyH_take (i := 8) (v := o) rfl (by kernel_rfl) (by kernel_rfl) (by kernel_rfl) (fun _ _ _ h => h) (Or.inl ⟨by rfl, fun W h => by go_simp⟩) ⟨QA.out, QO.out⟩ ?_
          try simp only [Act.put, List.getElem_toArray, List.getElem_cons_succ, List.getElem_cons_zero, List.setIfInBounds_toArray, List.set_cons_zero, List.set_cons_succ]
          refine wpAnyH_ready (rs := [10]) (by kernel_rfl) (by simp) ?_
          refine AllReadyH.cons rfl (fun K hK => ?_) AllReadyH.nil
          rw [if_pos (by rfl)]
          have hoc := mo_one2 QT.out.m
          refine wp_store_row 27 _ _ rfl g7 #[k, r] rfl rfl 27 _ Q7.out (by kernel_rfl) rfl hoc ?_
          have H7 := Lib.hid (show Blk (World.setRow _ g7 #[k, r]) g7 27 #[k, r] from setRow_heap _ _ _ _ _ _ Q7.out)
          have hge := HZ7.out
          have QT9 := Lib.hid (QT.out.farT Q7.out (setRow_grown _ g7 #[k, r]))
          have QA9 := Lib.hid (show Blk (World.setRow _ g7 #[k, r]) (w.heap.size + 0) 48 #[vk0, vr0] from (setRow_other _ g7 (w.heap.size + 0) _ (by have := HSZ.out; omega)).trans QA.out)
          have QO9 := Lib.hid (show Blk (World.setRow _ g7 #[k, r]) (w.heap.size + 1) 49 #[.int .i64 a1.kind, .string a1.key, .int .i64 a1.what, .int .i64 a1.val] from (setRow_other _ g7 (w.heap.size + 1) _ (by have := HSZ.out; omega)).trans QO.out)
          have HB9 := Lib.hid (below_setRow' HBW.out hge #[k, r])
          have HS9 := Lib.hid (Nat.le_of_eq (setRow_size X6 g7 #[k, r]).symm)
          refine hK.out _ _ ⟨QA9.out, QO9.out⟩ (fun hHeld => ?_)
          clear hK K hHeld QA QO Q7 QT HB HBW hoc hge
          try simp only [Act.put, List.getElem_toArray, List.getElem_cons_succ, List.getElem_cons_zero, List.setIfInBounds_toArray, List.set_cons_zero, List.set_cons_succ]
          refine' wpAnyH_take (i := 11) (v := .int .i64 p.2.1) rfl (by kernel_rfl) (by kernel_rfl) (by kernel_rfl) (fun _ _ _ h => h) (Or.inl ⟨by rfl, fun W h => by go_simp⟩) ⟨QA9.out, QO9.out⟩ ?_
          try simp only [Act.put, List.getElem_toArray, List.getElem_cons_succ, List.getElem_cons_zero, List.setIfInBounds_toArray, List.set_cons_zero, List.set_cons_succ]
          refine' wpAnyH_take (i := 12) (v := o) rfl (by kernel_rfl) (by kernel_rfl) (by kernel_rfl) (fun _ _ _ h => h) (Or.inl ⟨by rfl, fun W h => by go_simp⟩) ⟨QA9.out, QO9.out⟩ ?_
          try simp only [Act.put, List.getElem_toArray, List.getElem_cons_succ, List.getElem_cons_zero, List.setIfInBounds_toArray, List.set_cons_zero, List.set_cons_succ]
          refine wpAnyH_done (by kernel_rfl) ?_ _
          go_wp2_with fail
          go_meet
          exact ⟨g7, k, r, o, rfl, rfl, rfl, QT9.out.wide (Nat.le_refl _) (Nat.le_trans HE9.out HS9.out), H7.out, HB9.out⟩
      · skip
        go_simp
        have hb := below_oneM X1 (.cells #[.slice none 0 0, .slice none 0 0] 27)
        have hn := Blk.new X1 X1.heap.size 27 #[.slice none 0 0, .slice none 0 0] rfl
        obtain ⟨g7, hg⟩ : ∃ g, g = X1.heap.size := ⟨_, rfl⟩
        rw [← hg] at hn
        have HZ7 := Lib.hid (show u3.heap.size ≤ g7 from by rw [hg]; exact HBW.out.size)
        replace QA := Lib.hid (QA.out.below hb); replace QO := Lib.hid (QO.out.below hb); replace HB := Lib.hid (HB.out.trans (hb.mono HB.out.size)); replace HBW := Lib.hid (HBW.out.trans (hb.mono HBW.out.size)); replace QM := Lib.hid (QM.out.below hb); replace HQ9 := Lib.hid (Nat.le_trans HQ9.out hb.size)
        have Q7 := Lib.hid hn
        clear hn
        refine hK.out _ _ ⟨QA.out, QO.out⟩ (fun hHeld => ?_)
        clear hK K hHeld hb
        try simp only [Act.put, List.getElem_toArray, List.getElem_cons_succ, List.getElem_cons_zero, List.setIfInBounds_toArray, List.set_cons_zero, List.set_cons_succ]
        rw [← hg]
        clear hg
        obtain ⟨X7, hX⟩ : ∃ Y, Y = X1.alloc (.cells #[.slice none 0 0, .slice none 0 0] 27) := ⟨_, rfl⟩
        rw [← hX] at QA QO HB HBW Q7 HQ9 QM ⊢
        clear hX
        refine wpAnyH_ready (rs := [3]) (by kernel_rfl) (by simp) ?_
        refine AllReadyH.cons rfl (fun K hK => ?_) AllReadyH.nil
        go_simp
        refine (HTO _).out.mono ?_
        rintro e X8 ⟨rfl, hb⟩
        replace QA := Lib.hid (QA.out.below hb); replace QO := Lib.hid (QO.out.below hb); replace HB := Lib.hid (HB.out.trans (hb.mono HB.out.size)); replace HBW := Lib.hid (HBW.out.trans (hb.mono HBW.out.size)); replace QM := Lib.hid (QM.out.below hb); replace Q7 := Lib.hid (Q7.out.below hb); replace HQ9 := Lib.hid (Nat.le_trans HQ9.out hb.size)
        refine hK.out _ _ ⟨QA.out, QO.out⟩ (fun hHeld => ?_)
        clear hK K hHeld hb
        try simp only [Act.put, List.getElem_toArray, List.getElem_cons_succ, List.getElem_cons_zero, List.setIfInBounds_toArray, List.set_cons_zero, List.set_cons_succ]
        refine wpAnyH_ready (rs := [4]) (by kernel_rfl) (by simp) ?_
        refine AllReadyH.cons rfl (fun K hK => ?_) AllReadyH.nil
        go_simp
        refine (HSD _ _ _ _ QM.out HQ9.out).out.mono ?_
        rintro e X9 ⟨k, r, o, rfl, hm, hr, ha, hb⟩
        have QT := Lib.hid ((TriE.made hm hr ha).wide HBW.out.size (Nat.le_refl _))
        replace QA := Lib.hid (QA.out.below hb); replace QO := Lib.hid (QO.out.below hb); replace HB := Lib.hid (HB.out.trans (hb.mono HB.out.size)); replace HBW := Lib.hid (HBW.out.trans (hb.mono HBW.out.size)); replace QM := Lib.hid (QM.out.below hb); replace Q7 := Lib.hid (Q7.out.below hb); replace HQ9 := Lib.hid (Nat.le_trans HQ9.out hb.size)
        have HE9 := Lib.hid (Nat.le_refl X9.heap.size)
        clear hm hr ha QM HQ9
        refine hK.out _ _ ⟨QA.out, QO.out⟩ (fun hHeld => ?_)
        clear hK K hHeld hb
        try simp only [Act.put, List.getElem_toArray, List.getElem_cons_succ, List.getElem_cons_zero, List.setIfInBounds_toArray, List.set_cons_zero, List.set_cons_succ]
        refine' wpAnyH_take (i := 5) (v := .tuple #[.agg #[k, r], .int .i64 p.2.1, o]) rfl (by kernel_rfl) (by kernel_rfl) (by kernel_rfl) (fun _ _ _ h => h) (Or.inl ⟨by rfl, fun W h => by go_simp⟩) ⟨QA.out, QO.out⟩ ?_
        try simp only [Act.put, List.getElem_toArray, List.getElem_cons_succ, List.getElem_cons_zero, List.setIfInBounds_toArray, List.set_cons_zero, List.set_cons_succ]
        refine' wpAnyH_take (i := 6) (v := .agg #[k, r]) rfl (by kernel_rfl) (by kernel_rfl) (by kernel_rfl) (fun _ _ _ h => h) (Or.inl ⟨by rfl, fun W h => by go_simp⟩) ⟨QA.out, QO.out⟩ ?_
        try simp only [Act.put, List.getElem_toArray, List.getElem_cons_succ, List.getElem_cons_zero, List.setIfInBounds_toArray, List.set_cons_zero, List.set_cons_succ]
        refine' wpAnyH_take (i := 7) (v := .int .i64 p.2.1) rfl (by kernel_rfl) (by kernel_rfl) (by kernel_rfl) (fun _ _ _ h => h) (Or.inl ⟨by rfl, fun W h => by go_simp⟩) ⟨QA.out, QO.out⟩ ?_
        try simp only [Act.put, List.getElem_toArray, List.getElem_cons_succ, List.getElem_cons_zero, List.setIfInBounds_toArray, List.set_cons_zero, List.set_cons_succ]
        refine' wpAnyH_take (i := 8) (v := o) rfl (by kernel_rfl) (by kernel_rfl) (by kernel_rfl) (fun _ _ _ h => h) (Or.inl ⟨by rfl, fun W h => by go_simp⟩) ⟨QA.out, QO.out⟩ ?_
        try simp only [Act.put, List.getElem_toArray, List.getElem_cons_succ, List.getElem_cons_zero, List.setIfInBounds_toArray, List.set_cons_zero, List.set_cons_succ]
        refine wpAnyH_ready (rs := [10]) (by kernel_rfl) (by simp) ?_
        refine AllReadyH.cons rfl (fun K hK => ?_) AllReadyH.nil
        rw [if_pos (by rfl)]
        have hoc := mo_one2 QT.out.m
        refine wp_store_row 27 _ _ rfl g7 #[k, r] rfl rfl 27 _ Q7.out (by kernel_rfl) rfl hoc ?_
        have H7 := Lib.hid (show Blk (World.setRow _ g7 #[k, r]) g7 27 #[k, r] from setRow_heap _ _ _ _ _ _ Q7.out)
        have hge := HZ7.out
        have QT9 := Lib.hid (QT.out.farT Q7.out (setRow_grown _ g7 #[k, r]))
        have QA9 := Lib.hid (show Blk (World.setRow _ g7 #[k, r]) (w.heap.size + 0) 48 #[vk0, vr0] from (setRow_other _ g7 (w.heap.size + 0) _ (by have := HSZ.out; omega)).trans QA.out)
        have QO9 := Lib.hid (show Blk (World.setRow _ g7 #[k, r]) (w.heap.size + 1) 49 #[.int .i64 a1.kind, .string a1.key, .int .i64 a1.what, .int .i64 a1.val] from (setRow_other _ g7 (w.heap.size + 1) _ (by have := HSZ.out; omega)).trans QO.out)
        have HB9 := Lib.hid (below_setRow' HBW.out hge #[k, r])
        have HS9 := Lib.hid (Nat.le_of_eq (setRow_size X9 g7 #[k, r]).symm)
        refine hK.out _ _ ⟨QA9.out, QO9.out⟩ (fun hHeld => ?_)
        clear hK K hHeld QA QO Q7 QT HB HBW hoc hge
        try simp only [Act.put, List.getElem_toArray, List.getElem_cons_succ, List.getElem_cons_zero, List.setIfInBounds_toArray, List.set_cons_zero, List.set_cons_succ]
        refine' wpAnyH_take (i := 11) (v := .int .i64 p.2.1) rfl (by kernel_rfl) (by kernel_rfl) (by kernel_rfl) (fun _ _ _ h => h) (Or.inl ⟨by rfl, fun W h => by go_simp⟩) ⟨QA9.out, QO9.out⟩ ?_
        try simp only [Act.put, List.getElem_toArray, List.getElem_cons_succ, List.getElem_cons_zero, List.setIfInBounds_toArray, List.set_cons_zero, List.set_cons_succ]
        refine' wpAnyH_take (i := 12) (v := o) rfl (by kernel_rfl) (by kernel_rfl) (by kernel_rfl) (fun _ _ _ h => h) (Or.inl ⟨by rfl, fun W h => by go_simp⟩) ⟨QA9.out, QO9.out⟩ ?_
        try simp only [Act.put, List.getElem_toArray, List.getElem_cons_succ, List.getElem_cons_zero, List.setIfInBounds_toArray, List.set_cons_zero, List.set_cons_succ]
        refine wpAnyH_done (by kernel_rfl) ?_ _
        go_wp2_with fail
        go_meet
        exact ⟨g7, k, r, o, rfl, rfl, rfl, QT9.out.wide (Nat.le_refl _) (Nat.le_trans HE9.out HS9.out), H7.out, HB9.out⟩
    · skip
      go_simp
      have hb := below_oneM X0 (.cells #[.slice none 0 0, .slice none 0 0] 27)
      have hn := Blk.new X0 X0.heap.size 27 #[.slice none 0 0, .slice none 0 0] rfl
      obtain ⟨g7, hg⟩ : ∃ g, g = X0.heap.size := ⟨_, rfl⟩
      rw [← hg] at hn
      have HZ7 := Lib.hid (show u3.heap.size ≤ g7 from by rw [hg]; exact HBW.out.size)
      replace QA := Lib.hid (QA.out.below hb); replace QO := Lib.hid (QO.out.below hb); replace HB := Lib.hid (HB.out.trans (hb.mono HB.out.size)); replace HBW := Lib.hid (HBW.out.trans (hb.mono HBW.out.size))
      have Q7 := Lib.hid hn
      clear hn
      refine hK.out _ _ ⟨QA.out, QO.out⟩ (fun hHeld => ?_)
      clear hK K hHeld hb
      try simp only [Act.put, List.getElem_toArray, List.getElem_cons_succ, List.getElem_cons_zero, List.setIfInBounds_toArray, List.set_cons_zero, List.set_cons_succ]
      rw [← hg]
      clear hg
      obtain ⟨X10, hX⟩ : ∃ Y, Y = X0.alloc (.cells #[.slice none 0 0, .slice none 0 0] 27) := ⟨_, rfl⟩
      rw [← hX] at QA QO HB HBW Q7 ⊢
      clear hX
      refine wpAnyH_ready (rs := [1]) (by kernel_rfl) (by simp) ?_
      refine AllReadyH.cons rfl (fun K hK => ?_) AllReadyH.nil
      go_simp
      refine (HT _ (HIN.out.below HB.out)).out.mono ?_
      rintro e X11 ⟨sk, sr, rfl, ho, hb⟩
      replace QA := Lib.hid (QA.out.below hb); replace QO := Lib.hid (QO.out.below hb); replace HB := Lib.hid (HB.out.trans (hb.mono HB.out.size)); replace HBW := Lib.hid (HBW.out.trans (hb.mono HBW.out.size)); replace Q7 := Lib.hid (Q7.out.below hb)
      have QM := Lib.hid ho
      have HQ9 := Lib.hid hb.size
      clear ho
      refine hK.out _ _ ⟨QA.out, QO.out⟩ (fun hHeld => ?_)
      clear hK K hHeld hb
      try simp only [Act.put, List.getElem_toArray, List.getElem_cons_succ, List.getElem_cons_zero, List.setIfInBounds_toArray, List.set_cons_zero, List.set_cons_succ]
      refine wpAnyH_ready (rs := [3]) (by kernel_rfl) (by simp) ?_
      refine AllReadyH.cons rfl (fun K hK => ?_) AllReadyH.nil
      go_simp
      refine (HTO _).out.mono ?_
      rintro e X12 ⟨rfl, hb⟩
      replace QA := Lib.hid (QA.out.below hb); replace QO := Lib.hid (QO.out.below hb); replace HB := Lib.hid (HB.out.trans (hb.mono HB.out.size)); replace HBW := Lib.hid (HBW.out.trans (hb.mono HBW.out.size)); replace QM := Lib.hid (QM.out.below hb); replace Q7 := Lib.hid (Q7.out.below hb); replace HQ9 := Lib.hid (Nat.le_trans HQ9.out hb.size)
      refine hK.out _ _ ⟨QA.out, QO.out⟩ (fun hHeld => ?_)
      clear hK K hHeld hb
      try simp only [Act.put, List.getElem_toArray, List.getElem_cons_succ, List.getElem_cons_zero, List.setIfInBounds_toArray, List.set_cons_zero, List.set_cons_succ]
      refine wpAnyH_ready (rs := [4]) (by kernel_rfl) (by simp) ?_
      refine AllReadyH.cons rfl (fun K hK => ?_) AllReadyH.nil
      go_simp
      refine (HSD _ _ _ _ QM.out HQ9.out).out.mono ?_
      rintro e X13 ⟨k, r, o, rfl, hm, hr, ha, hb⟩
      have QT := Lib.hid ((TriE.made hm hr ha).wide HBW.out.size (Nat.le_refl _))
      replace QA := Lib.hid (QA.out.below hb); replace QO := Lib.hid (QO.out.below hb); replace HB := Lib.hid (HB.out.trans (hb.mono HB.out.size)); replace HBW := Lib.hid (HBW.out.trans (hb.mono HBW.out.size)); replace QM := Lib.hid (QM.out.below hb); replace Q7 := Lib.hid (Q7.out.below hb); replace HQ9 := Lib.hid (Nat.le_trans HQ9.out hb.size)
      have HE9 := Lib.hid (Nat.le_refl X13.heap.size)
      clear hm hr ha QM HQ9
      refine hK.out _ _ ⟨QA.out, QO.out⟩ (fun hHeld => ?_)
      clear hK K hHeld hb
      try simp only [Act.put, List.getElem_toArray, List.getElem_cons_succ, List.getElem_cons_zero, List.setIfInBounds_toArray, List.set_cons_zero, List.set_cons_succ]
      refine' wpAnyH_take (i := 5) (v := .tuple #[.agg #[k, r], .int .i64 p.2.1, o]) rfl (by kernel_rfl) (by kernel_rfl) (by kernel_rfl) (fun _ _ _ h => h) (Or.inl ⟨by rfl, fun W h => by go_simp⟩) ⟨QA.out, QO.out⟩ ?_
      try simp only [Act.put, List.getElem_toArray, List.getElem_cons_succ, List.getElem_cons_zero, List.setIfInBounds_toArray, List.set_cons_zero, List.set_cons_succ]
      refine' wpAnyH_take (i := 6) (v := .agg #[k, r]) rfl (by kernel_rfl) (by kernel_rfl) (by kernel_rfl) (fun _ _ _ h => h) (Or.inl ⟨by rfl, fun W h => by go_simp⟩) ⟨QA.out, QO.out⟩ ?_
      try simp only [Act.put, List.getElem_toArray, List.getElem_cons_succ, List.getElem_cons_zero, List.setIfInBounds_toArray, List.set_cons_zero, List.set_cons_succ]
      refine' wpAnyH_take (i := 7) (v := .int .i64 p.2.1) rfl (by kernel_rfl) (by kernel_rfl) (by kernel_rfl) (fun _ _ _ h => h) (Or.inl ⟨by rfl, fun W h => by go_simp⟩) ⟨QA.out, QO.out⟩ ?_
      try simp only [Act.put, List.getElem_toArray, List.getElem_cons_succ, List.getElem_cons_zero, List.setIfInBounds_toArray, List.set_cons_zero, List.set_cons_succ]
      refine' wpAnyH_take (i := 8) (v := o) rfl (by kernel_rfl) (by kernel_rfl) (by kernel_rfl) (fun _ _ _ h => h) (Or.inl ⟨by rfl, fun W h => by go_simp⟩) ⟨QA.out, QO.out⟩ ?_
      try simp only [Act.put, List.getElem_toArray, List.getElem_cons_succ, List.getElem_cons_zero, List.setIfInBounds_toArray, List.set_cons_zero, List.set_cons_succ]
      refine wpAnyH_ready (rs := [10]) (by kernel_rfl) (by simp) ?_
      refine AllReadyH.cons rfl (fun K hK => ?_) AllReadyH.nil
      rw [if_pos (by rfl)]
      have hoc := mo_one2 QT.out.m
      refine wp_store_row 27 _ _ rfl g7 #[k, r] rfl rfl 27 _ Q7.out (by kernel_rfl) rfl hoc ?_
      have H7 := Lib.hid (show Blk (World.setRow _ g7 #[k, r]) g7 27 #[k, r] from setRow_heap _ _ _ _ _ _ Q7.out)
      have hge := HZ7.out
      have QT9 := Lib.hid (QT.out.farT Q7.out (setRow_grown _ g7 #[k, r]))
      have QA9 := Lib.hid (show Blk (World.setRow _ g7 #[k, r]) (w.heap.size + 0) 48 #[vk0, vr0] from (setRow_other _ g7 (w.heap.size + 0) _ (by have := HSZ.out; omega)).trans QA.out)
      have QO9 := Lib.hid (show Blk (World.setRow _ g7 #[k, r]) (w.heap.size + 1) 49 #[.int .i64 a1.kind, .string a1.key, .int .i64 a1.what, .int .i64 a1.val] from (setRow_other _ g7 (w.heap.size + 1) _ (by have := HSZ.out; omega)).trans QO.out)
      have HB9 := Lib.hid (below_setRow' HBW.out hge #[k, r])
      have HS9 := Lib.hid (Nat.le_of_eq (setRow_size X13 g7 #[k, r]).symm)
      refine hK.out _ _ ⟨QA9.out, QO9.out⟩ (fun hHeld => ?_)
      clear hK K hHeld QA QO Q7 QT HB HBW hoc hge
      try simp only [Act.put, List.getElem_toArray, List.getElem_cons_succ, List.getElem_cons_zero, List.setIfInBounds_toArray, List.set_cons_zero, List.set_cons_succ]
      refine' wpAnyH_take (i := 11) (v := .int .i64 p.2.1) rfl (by kernel_rfl) (by kernel_rfl) (by kernel_rfl) (fun _ _ _ h => h) (Or.inl ⟨by rfl, fun W h => by go_simp⟩) ⟨QA9.out, QO9.out⟩ ?_
      try simp only [Act.put, List.getElem_toArray, List.getElem_cons_succ, List.getElem_cons_zero, List.setIfInBounds_toArray, List.set_cons_zero, List.set_cons_succ]
      refine' wpAnyH_take (i := 12) (v := o) rfl (by kernel_rfl) (by kernel_rfl) (by kernel_rfl) (fun _ _ _ h => h) (Or.inl ⟨by rfl, fun W h => by go_simp⟩) ⟨QA9.out, QO9.out⟩ ?_
      try simp only [Act.put, List.getElem_toArray, List.getElem_cons_succ, List.getElem_cons_zero, List.setIfInBounds_toArray, List.set_cons_zero, List.set_cons_succ]
      refine wpAnyH_done (by kernel_rfl) ?_ _
      go_wp2_with fail
      go_meet
      exact ⟨g7, k, r, o, rfl, rfl, rfl, QT9.out.wide (Nat.le_refl _) (Nat.le_trans HE9.out HS9.out), H7.out, HB9.out⟩
  case rest =>
    obtain ⟨gw, kw, rw, ow, rfl, rfl, rfl, ht, hg, hb⟩ := hcut
    obtain ⟨u4, hU⟩ : ∃ Y, Y = wc := ⟨_, rfl⟩
    subst hU
    replace GA := Lib.hid (GA.out.below hb)
    replace GO := Lib.hid (GO.out.below hb)
    replace B0 := Lib.hid (B0.out.trans (hb.mono B0.out.size))
    replace HSZ := Lib.hid (Nat.le_trans HSZ.out hb.size)
    obtain ⟨bw, hbw⟩ : ∃ b, b = u3.heap.size := ⟨_, rfl⟩
    rw [← hbw] at ht
    obtain ⟨ew, hew⟩ : ∃ b, b = u4.heap.size := ⟨_, rfl⟩
    rw [← hew] at ht
    have HEw := Lib.hid (Nat.le_of_eq hew)
    have Tw := Lib.hid ht
    have Gw := Lib.hid hg
    clear ht hg hb hbw hew
    go_wp2_with ((with_reducible show wpList _ _ _ _ _ _); first | refine wpList_load_row rfl 48 _ rfl (w.heap.size + 0) rfl 48 #[vk0, vr0] (0, 0) _ GA.out hulL rfl (by kernel_rfl) ?_)
    refine (HT _ (HIN.out.below B0.out)).out.mono ?_
    rintro e u5 ⟨kx, rx, rfl, ho, hb⟩
    have HWX0 := HEw
    have HWB0 := Lib.hid B0.out.size
    have OX0 := Lib.hid (MoE.of ho)
    replace GA := Lib.hid (GA.out.below hb)
    replace GO := Lib.hid (GO.out.below hb)
    replace Tw := Lib.hid (Tw.out.below hb)
    replace Gw := Lib.hid (Gw.out.below hb)
    replace B0 := Lib.hid (B0.out.trans (hb.mono B0.out.size))
    replace HSZ := Lib.hid (Nat.le_trans HSZ.out hb.size)
    replace HEw := Lib.hid (Nat.le_trans HEw.out hb.size)
    obtain ⟨bx, hbx⟩ : ∃ b, b = u4.heap.size := ⟨_, rfl⟩
    obtain ⟨ex, hex⟩ : ∃ b, b = u5.heap.size := ⟨_, rfl⟩
    rw [← hbx, ← hex] at OX0
    have HWX := Lib.hid (show ew ≤ bx from by rw [hbx]; exact HWX0.out)
    have HWB := Lib.hid (show w.heap.size ≤ bx from by rw [hbx]; exact HWB0.out)
    have HXX := Lib.hid (show bx ≤ ex from by rw [hbx, hex]; exact hb.size)
    have HEx := Lib.hid (Nat.le_of_eq hex)
    have Ox := OX0
    clear OX0 HWX0 HWB0 ho hb hbx hex
    have hoc := mo_one2 Ox.out.m
    go_upto_region 10 with ((with_reducible show wpList _ _ _ _ _ _); refine wpList_store_row rfl 27 _ _ rfl u5.heap.size #[kx, rx] rfl rfl 27 _ (Blk.new u5 u5.heap.size 27 #[.slice none 0 0, .slice none 0 0] rfl) (by kernel_rfl) rfl hoc ?_)
    refine wp_gen (fun X => Blk X u5.heap.size 27 #[kx, rx] ∧ Below u5.heap.size u5 X) ⟨setRow_heap _ _ _ _ _ _ (Blk.new u5 u5.heap.size 27 #[.slice none 0 0, .slice none 0 0] rfl), below_setRow' (below_oneM u5 _) (Nat.le_refl _) _⟩ ?_
    rintro u6 ⟨hx, hb⟩
    replace GA := Lib.hid (GA.out.below hb)
    replace GO := Lib.hid (GO.out.below hb)
    replace Tw := Lib.hid (Tw.out.below hb)
    replace Gw := Lib.hid (Gw.out.below hb)
    replace Ox := Lib.hid (Ox.out.below hb)
    replace B0 := Lib.hid (B0.out.trans (hb.mono B0.out.size))
    replace HSZ := Lib.hid (Nat.le_trans HSZ.out hb.size)
    replace HEw := Lib.hid (Nat.le_trans HEw.out hb.size)
    replace HEx := Lib.hid (Nat.le_trans HEx.out hb.size)
    have HLx := Lib.hid (show u5.heap.size + 1 ≤ u6.heap.size from hx.lt)
    have Gx := Lib.hid hx
    clear hx hb hoc
    generalize u5.heap.size = gx at *
    try simp only [Act.put, List.getElem_toArray, List.getElem_cons_succ, List.getElem_cons_zero, List.setIfInBounds_toArray, List.set_cons_zero, List.set_cons_succ]
    go_upto_region 10 with fail
    go_cut [10, 11, 12] from 41 to 47 (fun x y z wx => ∃ g k r o, x = .pointer (some ⟨g, 0, none⟩) ∧ y = .int .i64 p.2.1 ∧ z = o ∧ TriE wx u6.heap.size wx.heap.size p k r o ∧ Blk wx g 27 #[k, r] ∧ Below u6.heap.size u6 wx)
    case first =>
      have hbd : Below u6.heap.size u6 u6.drew := below_drew _ _
      have QA := Lib.hid (show Blk u6.drew (w.heap.size + 0) 48 #[vk0, vr0] from GA.out.below hbd)
      have QO := Lib.hid (show Blk u6.drew (w.heap.size + 1) 49 #[.int .i64 a1.kind, .string a1.key, .int .i64 a1.what, .int .i64 a1.val] from GO.out.below hbd)
      have QX := Lib.hid (show Blk u6.drew gx 27 #[kx, rx] from Gx.out.below hbd)
      have QM := Lib.hid (show MoOwn u6.drew bx z0 kx rx from Ox.out.m.below hbd)
      have HB := Lib.hid (B0.out.trans (hbd.mono B0.out.size))
      have HBW := Lib.hid hbd
      clear hbd B0 GA GO Tw Gw Ox Gx
      refine wp_region_held_drew (S := fun X : World => Blk X (w.heap.size + 0) 48 #[vk0, vr0] ∧ Blk X (w.heap.size + 1) 49 #[.int .i64 a1.kind, .string a1.key, .int .i64 a1.what, .int .i64 a1.val] ∧ Blk X gx 27 #[kx, rx]) (by kernel_rfl) ⟨QA.out, QO.out, QX.out⟩ (fun hHeld => ?_)
      clear hHeld
      generalize u6.drew = X0 at *
      refine' wpAnyH_take (i := 0) (v := .agg #[kx, rx]) rfl (by kernel_rfl) (by kernel_rfl) (by kernel_rfl) (fun _ _ _ h => h) (yieldsIf_load_mid (by rfl) 27 _ rfl (gx) 0 rfl (#[kx, rx] : Array Value).toList _ (fun w' h => Blk.rangeM h.2.2) hulI rfl (by kernel_rfl)) ⟨QA.out, QO.out, QX.out⟩ ?_
      try simp only [Act.put, List.getElem_toArray, List.getElem_cons_succ, List.getElem_cons_zero, List.setIfInBounds_toArray, List.set_cons_zero, List.set_cons_succ]
      refine' wpAnyH_take (i := 1) (v := .agg #[.int .i64 a1.kind, .string a1.key, .int .i64 a1.what, .int .i64 a1.val]) rfl (by kernel_rfl) (by kernel_rfl) (by kernel_rfl) (fun _ _ _ h => h) (yieldsIf_load_mid (by rfl) 49 _ rfl (w.heap.size + 1) 0 rfl (#[.int .i64 a1.kind, .string a1.key, .int .i64 a1.what, .int .i64 a1.val] : Array Value).toList _ (fun w' h => Blk.rangeM h.2.1) hulO rfl (by kernel_rfl)) ⟨QA.out, QO.out, QX.out⟩ ?_
      try simp only [Act.put, List.getElem_toArray, List.getElem_cons_succ, List.getElem_cons_zero, List.setIfInBounds_toArray, List.set_cons_zero, List.set_cons_succ]
      have HQ9 := Lib.hid (show bx ≤ X0.heap.size from Nat.le_trans HXX.out (Nat.le_trans HEx.out HBW.out.size))
      refine wpAnyH_ready (rs := [2, 8]) (by kernel_rfl) (by simp) ?_
      refine AllReadyH.cons rfl (fun K hK => ?_) (AllReadyH.cons rfl (fun K hK => ?_) AllReadyH.nil)
      · skip
        go_simp
        refine (HTO _).out.mono ?_
        rintro e X1 ⟨rfl, hb⟩
        replace QA := Lib.hid (QA.out.below hb); replace QO := Lib.hid (QO.out.below hb); replace HB := Lib.hid (HB.out.trans (hb.mono HB.out.size)); replace HBW := Lib.hid (HBW.out.trans (hb.mono HBW.out.size)); replace QX := Lib.hid (QX.out.below hb); replace QM := Lib.hid (QM.out.below hb); replace HQ9 := Lib.hid (Nat.le_trans HQ9.out hb.size)
        refine hK.out _ _ ⟨QA.out, QO.out, QX.out⟩ (fun hHeld => ?_)
        clear hK K hHeld hb
        try simp only [Act.put, List.getElem_toArray, List.getElem_cons_succ, List.getElem_cons_zero, List.setIfInBounds_toArray, List.set_cons_zero, List.set_cons_succ]
        refine wpAnyH_ready (rs := [3, 8]) (by kernel_rfl) (by simp) ?_
        refine AllReadyH.cons rfl (fun K hK => ?_) (AllReadyH.cons rfl (fun K hK => ?_) AllReadyH.nil)
        · skip
          go_simp
          refine (HID _ _ _ _ QM.out HQ9.out).out.mono ?_
          rintro e X2 ⟨k, r, o, rfl, hm, hr, ha, hb⟩
          have QT := Lib.hid ((TriE.made hm hr ha).wide HBW.out.size (Nat.le_refl _))
          replace QA := Lib.hid (QA.out.below hb); replace QO := Lib.hid (QO.out.below hb); replace HB := Lib.hid (HB.out.trans (hb.mono HB.out.size)); replace HBW := Lib.hid (HBW.out.trans (hb.mono HBW.out.size)); replace QX := Lib.hid (QX.out.below hb); replace QM := Lib.hid (QM.out.below hb); replace HQ9 := Lib.hid (Nat.le_trans HQ9.out hb.size)
          have HE9 := Lib.hid (Nat.le_refl X2.heap.size)
          clear hm hr ha QM HQ9
          refine hK.out _ _ ⟨QA.out, QO.out, QX.out⟩ (fun hHeld => ?_)
          clear hK K hHeld hb
          try simp only [Act.put, List.getElem_toArray, List.getElem_cons_succ, List.getElem_cons_zero, List.setIfInBounds_toArray, List.set_cons_zero, List.set_cons_succ]
          refine' wpAnyH_take (i := 4) (v := .tuple #[.agg #[k, r], .int .i64 p.2.1, o]) rfl (by kernel_rfl) (by kernel_rfl) (by kernel_rfl) (fun _ _ _ h => h) (Or.inl ⟨by rfl, fun W h => by go_simp⟩) ⟨QA.out, QO.out, QX.out⟩ ?_
          try simp only [Act.put, List.getElem_toArray, List.getElem_cons_succ, List.getElem_cons_zero, List.setIfInBounds_toArray, List.set_cons_zero, List.set_cons_succ]
          refine' wpAnyH_take (i := 5) (v := .agg #[k, r]) rfl (by kernel_rfl) (by kernel_rfl) (by kernel_rfl) (fun _ _ _ h => h) (Or.inl ⟨by rfl, fun W h => by go_simp⟩) ⟨QA.out, QO.out, QX.out⟩ ?_
          try simp only [Act.put, List.getElem_toArray, List.getElem_cons_succ, List.getElem_cons_zero, List.setIfInBounds_toArray, List.set_cons_zero, List.set_cons_succ]
          refine' wpAnyH_take (i := 6) (v := .int .i64 p.2.1) rfl (by kernel_rfl) (by kernel_rfl) (by kernel_rfl) (fun _ _ _ h => h) (Or.inl ⟨by rfl, fun W h => by go_simp⟩) ⟨QA.out, QO.out, QX.out⟩ ?_
          try simp only [Act.put, List.getElem_toArray, List.getElem_cons_succ, List.getElem_cons_zero, List.setIfInBounds_toArray, List.set_cons_zero, List.set_cons_succ]
          refine' wpAnyH_take (i := 7) (v := o) rfl (by kernel_rfl) (by kernel_rfl) (by kernel_rfl) (fun _ _ _ h => h) (Or.inl ⟨by rfl, fun W h => by go_simp⟩) ⟨QA.out, QO.out, QX.out⟩ ?_
          try simp only [Act.put, List.getElem_toArray, List.getElem_cons_succ, List.getElem_cons_zero, List.setIfInBounds_toArray, List.set_cons_zero, List.set_cons_succ]
          refine wpAnyH_ready (rs := [8]) (by kernel_rfl) (by simp) ?_
          refine AllReadyH.cons rfl (fun K hK => ?_) AllReadyH.nil
          go_simp
          have hb := below_oneM X2 (.cells #[.slice none 0 0, .slice none 0 0] 27)
          have hn := Blk.new X2 X2.heap.size 27 #[.slice none 0 0, .slice none 0 0] rfl
          obtain ⟨g7, hg⟩ : ∃ g, g = X2.heap.size := ⟨_, rfl⟩
          rw [← hg] at hn
          have HZ7 := Lib.hid (show u6.heap.size ≤ g7 from by rw [hg]; exact HBW.out.size)
          replace QA := Lib.hid (QA.out.below hb); replace QO := Lib.hid (QO.out.below hb); replace HB := Lib.hid (HB.out.trans (hb.mono HB.out.size)); replace HBW := Lib.hid (HBW.out.trans (hb.mono HBW.out.size)); replace QX := Lib.hid (QX.out.below hb); replace QT := Lib.hid (QT.out.below hb); replace HE9 := Lib.hid (Nat.le_trans HE9.out hb.size)
          have Q7 := Lib.hid hn
          clear hn
          refine hK.out _ _ ⟨QA.out, QO.out, QX.out⟩ (fun hHeld => ?_)
          clear hK K hHeld hb
          try simp only [Act.put, List.getElem_toArray, List.getElem_cons_succ, List.getElem_cons_zero, List.setIfInBounds_toArray, List.set_cons_zero, List.set_cons_succ]
          rw [← hg]
          clear hg
          obtain ⟨X3, hX⟩ : ∃ Y, Y = X2.alloc (.cells #[.slice none 0 0, .slice none 0 0] 27) := ⟨_, rfl⟩
          rw [← hX] at QA QO HB HBW Q7 HE9 QX QT ⊢
          clear hX
          refine wpAnyH_ready (rs := [9]) (by kernel_rfl) (by simp) ?_
          refine AllReadyH.cons rfl (fun K hK => ?_) AllReadyH.nil
          rw [if_pos (by rfl)]
          have hoc := mo_one2 QT.out.m
          refine wp_store_row 27 _ _ rfl g7 #[k, r] rfl rfl 27 _ Q7.out (by kernel_rfl) rfl hoc ?_
          have H7 := Lib.hid (show Blk (World.setRow _ g7 #[k, r]) g7 27 #[k, r] from setRow_heap _ _ _ _ _ _ Q7.out)
          have hge := HZ7.out
          have QT9 := Lib.hid (QT.out.farT Q7.out (setRow_grown _ g7 #[k, r]))
          have QA9 := Lib.hid (show Blk (World.setRow _ g7 #[k, r]) (w.heap.size + 0) 48 #[vk0, vr0] from (setRow_other _ g7 (w.heap.size + 0) _ (by have := HSZ.out; omega)).trans QA.out)
          have QO9 := Lib.hid (show Blk (World.setRow _ g7 #[k, r]) (w.heap.size + 1) 49 #[.int .i64 a1.kind, .string a1.key, .int .i64 a1.what, .int .i64 a1.val] from (setRow_other _ g7 (w.heap.size + 1) _ (by have := HSZ.out; omega)).trans QO.out)
          have QX9 := Lib.hid (show Blk (World.setRow _ g7 #[k, r]) gx 27 #[kx, rx] from (setRow_other _ g7 gx _ (by have := HLx.out; omega)).trans QX.out)
          have HB9 := Lib.hid (below_setRow' HBW.out hge #[k, r])
          have HS9 := Lib.hid (Nat.le_of_eq (setRow_size X3 g7 #[k, r]).symm)
          refine hK.out _ _ ⟨QA9.out, QO9.out, QX9.out⟩ (fun hHeld => ?_)
          clear hK K hHeld QA QO Q7 QT HB HBW hoc hge QX
          try simp only [Act.put, List.getElem_toArray, List.getElem_cons_succ, List.getElem_cons_zero, List.setIfInBounds_toArray, List.set_cons_zero, List.set_cons_succ]
          refine' wpAnyH_take (i := 10) (v := .int .i64 p.2.1) rfl (by kernel_rfl) (by kernel_rfl) (by kernel_rfl) (fun _ _ _ h => h) (Or.inl ⟨by rfl, fun W h => by go_simp⟩) ⟨QA9.out, QO9.out, QX9.out⟩ ?_
          try simp only [Act.put, List.getElem_toArray, List.getElem_cons_succ, List.getElem_cons_zero, List.setIfInBounds_toArray, List.set_cons_zero, List.set_cons_succ]
          refine' wpAnyH_take (i := 11) (v := o) rfl (by kernel_rfl) (by kernel_rfl) (by kernel_rfl) (fun _ _ _ h => h) (Or.inl ⟨by rfl, fun W h => by go_simp⟩) ⟨QA9.out, QO9.out, QX9.out⟩ ?_
          try simp only [Act.put, List.getElem_toArray, List.getElem_cons_succ, List.getElem_cons_zero, List.setIfInBounds_toArray, List.set_cons_zero, List.set_cons_succ]
          refine wpAnyH_done (by kernel_rfl) ?_ _
          go_wp2_with fail
          go_meet
          exact ⟨g7, k, r, o, rfl, rfl, rfl, QT9.out.wide (Nat.le_refl _) (Nat.le_trans HE9.out HS9.out), H7.out, HB9.out⟩
        · skip
          go_simp
          have hb := below_oneM X1 (.cells #[.slice none 0 0, .slice none 0 0] 27)
          have hn := Blk.new X1 X1.heap.size 27 #[.slice none 0 0, .slice none 0 0] rfl
          obtain ⟨g7, hg⟩ : ∃ g, g = X1.heap.size := ⟨_, rfl⟩
          rw [← hg] at hn
          have HZ7 := Lib.hid (show u6.heap.size ≤ g7 from by rw [hg]; exact HBW.out.size)
          replace QA := Lib.hid (QA.out.below hb); replace QO := Lib.hid (QO.out.below hb); replace HB := Lib.hid (HB.out.trans (hb.mono HB.out.size)); replace HBW := Lib.hid (HBW.out.trans (hb.mono HBW.out.size)); replace QX := Lib.hid (QX.out.below hb); replace QM := Lib.hid (QM.out.below hb); replace HQ9 := Lib.hid (Nat.le_trans HQ9.out hb.size)
          have Q7 := Lib.hid hn
          clear hn
          refine hK.out _ _ ⟨QA.out, QO.out, QX.out⟩ (fun hHeld => ?_)
          clear hK K hHeld hb
          try simp only [Act.put, List.getElem_toArray, List.getElem_cons_succ, List.getElem_cons_zero, List.setIfInBounds_toArray, List.set_cons_zero, List.set_cons_succ]
          rw [← hg]
          clear hg
          obtain ⟨X4, hX⟩ : ∃ Y, Y = X1.alloc (.cells #[.slice none 0 0, .slice none 0 0] 27) := ⟨_, rfl⟩
          rw [← hX] at QA QO HB HBW Q7 HQ9 QX QM ⊢
          clear hX
          refine wpAnyH_ready (rs := [3]) (by kernel_rfl) (by simp) ?_
          refine AllReadyH.cons rfl (fun K hK => ?_) AllReadyH.nil
          go_simp
          refine (HID _ _ _ _ QM.out HQ9.out).out.mono ?_
          rintro e X5 ⟨k, r, o, rfl, hm, hr, ha, hb⟩
          have QT := Lib.hid ((TriE.made hm hr ha).wide HBW.out.size (Nat.le_refl _))
          replace QA := Lib.hid (QA.out.below hb); replace QO := Lib.hid (QO.out.below hb); replace HB := Lib.hid (HB.out.trans (hb.mono HB.out.size)); replace HBW := Lib.hid (HBW.out.trans (hb.mono HBW.out.size)); replace QX := Lib.hid (QX.out.below hb); replace QM := Lib.hid (QM.out.below hb); replace Q7 := Lib.hid (Q7.out.below hb); replace HQ9 := Lib.hid (Nat.le_trans HQ9.out hb.size)
          have HE9 := Lib.hid (Nat.le_refl X5.heap.size)
          clear hm hr ha QM HQ9
          refine hK.out _ _ ⟨QA.out, QO.out, QX.out⟩ (fun hHeld => ?_)
          clear hK K hHeld hb
          try simp only [Act.put, List.getElem_toArray, List.getElem_cons_succ, List.getElem_cons_zero, List.setIfInBounds_toArray, List.set_cons_zero, List.set_cons_succ]
          refine' wpAnyH_take (i := 4) (v := .tuple #[.agg #[k, r], .int .i64 p.2.1, o]) rfl (by kernel_rfl) (by kernel_rfl) (by kernel_rfl) (fun _ _ _ h => h) (Or.inl ⟨by rfl, fun W h => by go_simp⟩) ⟨QA.out, QO.out, QX.out⟩ ?_
          try simp only [Act.put, List.getElem_toArray, List.getElem_cons_succ, List.getElem_cons_zero, List.setIfInBounds_toArray, List.set_cons_zero, List.set_cons_succ]
          refine' wpAnyH_take (i := 5) (v := .agg #[k, r]) rfl (by kernel_rfl) (by kernel_rfl) (by kernel_rfl) (fun _ _ _ h => h) (Or.inl ⟨by rfl, fun W h => by go_simp⟩) ⟨QA.out, QO.out, QX.out⟩ ?_
          try simp only [Act.put, List.getElem_toArray, List.getElem_cons_succ, List.getElem_cons_zero, List.setIfInBounds_toArray, List.set_cons_zero, List.set_cons_succ]
          refine' wpAnyH_take (i := 6) (v := .int .i64 p.2.1) rfl (by kernel_rfl) (by kernel_rfl) (by kernel_rfl) (fun _ _ _ h => h) (Or.inl ⟨by rfl, fun W h => by go_simp⟩) ⟨QA.out, QO.out, QX.out⟩ ?_
          try simp only [Act.put, List.getElem_toArray, List.getElem_cons_succ, List.getElem_cons_zero, List.setIfInBounds_toArray, List.set_cons_zero, List.set_cons_succ]
          refine' wpAnyH_take (i := 7) (v := o) rfl (by kernel_rfl) (by kernel_rfl) (by kernel_rfl) (fun _ _ _ h => h) (Or.inl ⟨by rfl, fun W h => by go_simp⟩) ⟨QA.out, QO.out, QX.out⟩ ?_
          try simp only [Act.put, List.getElem_toArray, List.getElem_cons_succ, List.getElem_cons_zero, List.setIfInBounds_toArray, List.set_cons_zero, List.set_cons_succ]
          refine wpAnyH_ready (rs := [9]) (by kernel_rfl) (by simp) ?_
          refine AllReadyH.cons rfl (fun K hK => ?_) AllReadyH.nil
          rw [if_pos (by rfl)]
          have hoc := mo_one2 QT.out.m
          refine wp_store_row 27 _ _ rfl g7 #[k, r] rfl rfl 27 _ Q7.out (by kernel_rfl) rfl hoc ?_
          have H7 := Lib.hid (show Blk (World.setRow _ g7 #[k, r]) g7 27 #[k, r] from setRow_heap _ _ _ _ _ _ Q7.out)
          have hge := HZ7.out
          have QT9 := Lib.hid (QT.out.farT Q7.out (setRow_grown _ g7 #[k, r]))
          have QA9 := Lib.hid (show Blk (World.setRow _ g7 #[k, r]) (w.heap.size + 0) 48 #[vk0, vr0] from (setRow_other _ g7 (w.heap.size + 0) _ (by have := HSZ.out; omega)).trans QA.out)
          have QO9 := Lib.hid (show Blk (World.setRow _ g7 #[k, r]) (w.heap.size + 1) 49 #[.int .i64 a1.kind, .string a1.key, .int .i64 a1.what, .int .i64 a1.val] from (setRow_other _ g7 (w.heap.size + 1) _ (by have := HSZ.out; omega)).trans QO.out)
          have QX9 := Lib.hid (show Blk (World.setRow _ g7 #[k, r]) gx 27 #[kx, rx] from (setRow_other _ g7 gx _ (by have := HLx.out; omega)).trans QX.out)
          have HB9 := Lib.hid (below_setRow' HBW.out hge #[k, r])
          have HS9 := Lib.hid (Nat.le_of_eq (setRow_size X5 g7 #[k, r]).symm)
          refine hK.out _ _ ⟨QA9.out, QO9.out, QX9.out⟩ (fun hHeld => ?_)
          clear hK K hHeld QA QO Q7 QT HB HBW hoc hge QX
          try simp only [Act.put, List.getElem_toArray, List.getElem_cons_succ, List.getElem_cons_zero, List.setIfInBounds_toArray, List.set_cons_zero, List.set_cons_succ]
          refine' wpAnyH_take (i := 10) (v := .int .i64 p.2.1) rfl (by kernel_rfl) (by kernel_rfl) (by kernel_rfl) (fun _ _ _ h => h) (Or.inl ⟨by rfl, fun W h => by go_simp⟩) ⟨QA9.out, QO9.out, QX9.out⟩ ?_
          try simp only [Act.put, List.getElem_toArray, List.getElem_cons_succ, List.getElem_cons_zero, List.setIfInBounds_toArray, List.set_cons_zero, List.set_cons_succ]
          refine' wpAnyH_take (i := 11) (v := o) rfl (by kernel_rfl) (by kernel_rfl) (by kernel_rfl) (fun _ _ _ h => h) (Or.inl ⟨by rfl, fun W h => by go_simp⟩) ⟨QA9.out, QO9.out, QX9.out⟩ ?_
          try simp only [Act.put, List.getElem_toArray, List.getElem_cons_succ, List.getElem_cons_zero, List.setIfInBounds_toArray, List.set_cons_zero, List.set_cons_succ]
          refine wpAnyH_done (by kernel_rfl) ?_ _
          go_wp2_with fail
          go_meet
          exact ⟨g7, k, r, o, rfl, rfl, rfl, QT9.out.wide (Nat.le_refl _) (Nat.le_trans HE9.out HS9.out), H7.out, HB9.out⟩
      · skip
        go_simp
        have hb := below_oneM X0 (.cells #[.slice none 0 0, .slice none 0 0] 27)
        have hn := Blk.new X0 X0.heap.size 27 #[.slice none 0 0, .slice none 0 0] rfl
        obtain ⟨g7, hg⟩ : ∃ g, g = X0.heap.size := ⟨_, rfl⟩
        rw [← hg] at hn
        have HZ7 := Lib.hid (show u6.heap.size ≤ g7 from by rw [hg]; exact HBW.out.size)
        replace QA := Lib.hid (QA.out.below hb); replace QO := Lib.hid (QO.out.below hb); replace HB := Lib.hid (HB.out.trans (hb.mono HB.out.size)); replace HBW := Lib.hid (HBW.out.trans (hb.mono HBW.out.size)); replace QX := Lib.hid (QX.out.below hb); replace QM := Lib.hid (QM.out.below hb); replace HQ9 := Lib.hid (Nat.le_trans HQ9.out hb.size)
        have Q7 := Lib.hid hn
        clear hn
        refine hK.out _ _ ⟨QA.out, QO.out, QX.out⟩ (fun hHeld => ?_)
        clear hK K hHeld hb
        try simp only [Act.put, List.getElem_toArray, List.getElem_cons_succ, List.getElem_cons_zero, List.setIfInBounds_toArray, List.set_cons_zero, List.set_cons_succ]
        rw [← hg]
        clear hg
        obtain ⟨X6, hX⟩ : ∃ Y, Y = X0.alloc (.cells #[.slice none 0 0, .slice none 0 0] 27) := ⟨_, rfl⟩
        rw [← hX] at QA QO HB HBW Q7 HQ9 QX QM ⊢
        clear hX
        refine wpAnyH_ready (rs := [2]) (by kernel_rfl) (by simp) ?_
        refine AllReadyH.cons rfl (fun K hK => ?_) AllReadyH.nil
        go_simp
        refine (HTO _).out.mono ?_
        rintro e X7 ⟨rfl, hb⟩
        replace QA := Lib.hid (QA.out.below hb); replace QO := Lib.hid (QO.out.below hb); replace HB := Lib.hid (HB.out.trans (hb.mono HB.out.size)); replace HBW := Lib.hid (HBW.out.trans (hb.mono HBW.out.size)); replace QX := Lib.hid (QX.out.below hb); replace QM := Lib.hid (QM.out.below hb); replace Q7 := Lib.hid (Q7.out.below hb); replace HQ9 := Lib.hid (Nat.le_trans HQ9.out hb.size)
        refine hK.out _ _ ⟨QA.out, QO.out, QX.out⟩ (fun hHeld => ?_)
        clear hK K hHeld hb
        try simp only [Act.put, List.getElem_toArray, List.getElem_cons_succ, List.getElem_cons_zero, List.setIfInBounds_toArray, List.set_cons_zero, List.set_cons_succ]
        refine wpAnyH_ready (rs := [3]) (by kernel_rfl) (by simp) ?_
        refine AllReadyH.cons rfl (fun K hK => ?_) AllReadyH.nil
        go_simp
        refine (HID _ _ _ _ QM.out HQ9.out).out.mono ?_
        rintro e X8 ⟨k, r, o, rfl, hm, hr, ha, hb⟩
        have QT := Lib.hid ((TriE.made hm hr ha).wide HBW.out.size (Nat.le_refl _))
        replace QA := Lib.hid (QA.out.below hb); replace QO := Lib.hid (QO.out.below hb); replace HB := Lib.hid (HB.out.trans (hb.mono HB.out.size)); replace HBW := Lib.hid (HBW.out.trans (hb.mono HBW.out.size)); replace QX := Lib.hid (QX.out.below hb); replace QM := Lib.hid (QM.out.below hb); replace Q7 := Lib.hid (Q7.out.below hb); replace HQ9 := Lib.hid (Nat.le_trans HQ9.out hb.size)
        have HE9 := Lib.hid (Nat.le_refl X8.heap.size)
        clear hm hr ha QM HQ9
        refine hK.out _ _ ⟨QA.out, QO.out, QX.out⟩ (fun hHeld => ?_)
        clear hK K hHeld hb
        try simp only [Act.put, List.getElem_toArray, List.getElem_cons_succ, List.getElem_cons_zero, List.setIfInBounds_toArray, List.set_cons_zero, List.set_cons_succ]
        refine' wpAnyH_take (i := 4) (v := .tuple #[.agg #[k, r], .int .i64 p.2.1, o]) rfl (by kernel_rfl) (by kernel_rfl) (by kernel_rfl) (fun _ _ _ h => h) (Or.inl ⟨by rfl, fun W h => by go_simp⟩) ⟨QA.out, QO.out, QX.out⟩ ?_
        try simp only [Act.put, List.getElem_toArray, List.getElem_cons_succ, List.getElem_cons_zero, List.setIfInBounds_toArray, List.set_cons_zero, List.set_cons_succ]
        refine' wpAnyH_take (i := 5) (v := .agg #[k, r]) rfl (by kernel_rfl) (by kernel_rfl) (by kernel_rfl) (fun _ _ _ h => h) (Or.inl ⟨by rfl, fun W h => by go_simp⟩) ⟨QA.out, QO.out, QX.out⟩ ?_
        try simp only [Act.put, List.getElem_toArray, List.getElem_cons_succ, List.getElem_cons_zero, List.setIfInBounds_toArray, List.set_cons_zero, List.set_cons_succ]
        refine' wpAnyH_take (i := 6) (v := .int .i64 p.2.1) rfl (by kernel_rfl) (by kernel_rfl) (by kernel_rfl) (fun _ _ _ h => h) (Or.inl ⟨by rfl, fun W h => by go_simp⟩) ⟨QA.out, QO.out, QX.out⟩ ?_
        try simp only [Act.put, List.getElem_toArray, List.getElem_cons_succ, List.getElem_cons_zero, List.setIfInBounds_toArray, List.set_cons_zero, List.set_cons_succ]
        refine' wpAnyH_take (i := 7) (v := o) rfl (by kernel_rfl) (by kernel_rfl) (by kernel_rfl) (fun _ _ _ h => h) (Or.inl ⟨by rfl, fun W h => by go_simp⟩) ⟨QA.out, QO.out, QX.out⟩ ?_
        try simp only [Act.put, List.getElem_toArray, List.getElem_cons_succ, List.getElem_cons_zero, List.setIfInBounds_toArray, List.set_cons_zero, List.set_cons_succ]
        refine wpAnyH_ready (rs := [9]) (by kernel_rfl) (by simp) ?_
        refine AllReadyH.cons rfl (fun K hK => ?_) AllReadyH.nil
        rw [if_pos (by rfl)]
        have hoc := mo_one2 QT.out.m
        refine wp_store_row 27 _ _ rfl g7 #[k, r] rfl rfl 27 _ Q7.out (by kernel_rfl) rfl hoc ?_
        have H7 := Lib.hid (show Blk (World.setRow _ g7 #[k, r]) g7 27 #[k, r] from setRow_heap _ _ _ _ _ _ Q7.out)
        have hge := HZ7.out
        have QT9 := Lib.hid (QT.out.farT Q7.out (setRow_grown _ g7 #[k, r]))
        have QA9 := Lib.hid (show Blk (World.setRow _ g7 #[k, r]) (w.heap.size + 0) 48 #[vk0, vr0] from (setRow_other _ g7 (w.heap.size + 0) _ (by have := HSZ.out; omega)).trans QA.out)
        have QO9 := Lib.hid (show Blk (World.setRow _ g7 #[k, r]) (w.heap.size + 1) 49 #[.int .i64 a1.kind, .string a1.key, .int .i64 a1.what, .int .i64 a1.val] from (setRow_other _ g7 (w.heap.size + 1) _ (by have := HSZ.out; omega)).trans QO.out)
        have QX9 := Lib.hid (show Blk (World.setRow _ g7 #[k, r]) gx 27 #[kx, rx] from (setRow_other _ g7 gx _ (by have := HLx.out; omega)).trans QX.out)
        have HB9 := Lib.hid (below_setRow' HBW.out hge #[k, r])
        have HS9 := Lib.hid (Nat.le_of_eq (setRow_size X8 g7 #[k, r]).symm)
        refine hK.out _ _ ⟨QA9.out, QO9.out, QX9.out⟩ (fun hHeld => ?_)
        clear hK K hHeld QA QO Q7 QT HB HBW hoc hge QX
        try simp only [Act.put, List.getElem_toArray, List.getElem_cons_succ, List.getElem_cons_zero, List.setIfInBounds_toArray, List.set_cons_zero, List.set_cons_succ]
        refine' wpAnyH_take (i := 10) (v := .int .i64 p.2.1) rfl (by kernel_rfl) (by kernel_rfl) (by kernel_rfl) (fun _ _ _ h => h) (Or.inl ⟨by rfl, fun W h => by go_simp⟩) ⟨QA9.out, QO9.out, QX9.out⟩ ?_
        try simp only [Act.put, List.getElem_toArray, List.getElem_cons_succ, List.getElem_cons_zero, List.setIfInBounds_toArray, List.set_cons_zero, List.set_cons_succ]
        refine' wpAnyH_take (i := 11) (v := o) rfl (by kernel_rfl) (by kernel_rfl) (by kernel_rfl) (fun _ _ _ h => h) (Or.inl ⟨by rfl, fun W h => by go_simp⟩) ⟨QA9.out, QO9.out, QX9.out⟩ ?_
        try simp only [Act.put, List.getElem_toArray, List.getElem_cons_succ, List.getElem_cons_zero, List.setIfInBounds_toArray, List.set_cons_zero, List.set_cons_succ]
        refine wpAnyH_done (by kernel_rfl) ?_ _
        go_wp2_with fail
        go_meet
        exact ⟨g7, k, r, o, rfl, rfl, rfl, QT9.out.wide (Nat.le_refl _) (Nat.le_trans HE9.out HS9.out), H7.out, HB9.out⟩
    case rest =>
      obtain ⟨gg, kg, rg, og, rfl, rfl, rfl, ht, hg, hb⟩ := hcut
      obtain ⟨u7, hU⟩ : ∃ Y, Y = wc := ⟨_, rfl⟩
      subst hU
      have P9 := HEx
      replace GA := Lib.hid (GA.out.below hb)
      replace GO := Lib.hid (GO.out.below hb)
      replace Tw := Lib.hid (Tw.out.below hb)
      replace Gw := Lib.hid (Gw.out.below hb)
      replace Ox := Lib.hid (Ox.out.below hb)
      replace Gx := Lib.hid (Gx.out.below hb)
      replace B0 := Lib.hid (B0.out.trans (hb.mono B0.out.size))
      replace HSZ := Lib.hid (Nat.le_trans HSZ.out hb.size)
      replace HEw := Lib.hid (Nat.le_trans HEw.out hb.size)
      replace HEx := Lib.hid (Nat.le_trans HEx.out hb.size)
      replace HLx := Lib.hid (Nat.le_trans HLx.out hb.size)
      obtain ⟨bg, hbg⟩ : ∃ b, b = u6.heap.size := ⟨_, rfl⟩
      rw [← hbg] at ht
      obtain ⟨eg, heg⟩ : ∃ b, b = u7.heap.size := ⟨_, rfl⟩
      rw [← heg] at ht
      have HBg := Lib.hid (show ex ≤ bg from by rw [hbg]; exact P9.out)
      clear P9
      have HEg := Lib.hid (Nat.le_of_eq heg)
      have Tg := Lib.hid ht
      have Gg := Lib.hid hg
      clear ht hg hb hbg heg
      go_wp2_with ((with_reducible show wpList _ _ _ _ _ _); first | refine wpList_load_row rfl 27 _ rfl (gg) rfl 27 #[kg, rg] (0, 0) _ Gg.out hulI rfl (by kernel_rfl) ?_ | refine wpList_load_row rfl 27 _ rfl (gw) rfl 27 #[kw, rw] (0, 0) _ Gw.out hulI rfl (by kernel_rfl) ?_ | refine wpList_load_rowM 27 _ rfl (gg) rfl 27 #[kg, rg] (0, 0) _ Gg.out hulI rfl (by kernel_rfl) rfl ?_ | refine wpList_load_rowM 27 _ rfl (gw) rfl 27 #[kw, rw] (0, 0) _ Gw.out hulI rfl (by kernel_rfl) rfl ?_)
      refine ((HEP _ _ _ _ _ Tg.out.m.win Tw.out.m.win).out).mono ?_
      rintro e u8 ⟨rfl, hb⟩
      replace GA := Lib.hid (GA.out.below hb)
      replace GO := Lib.hid (GO.out.below hb)
      replace Tw := Lib.hid (Tw.out.below hb)
      replace Gw := Lib.hid (Gw.out.below hb)
      replace Ox := Lib.hid (Ox.out.below hb)
      replace Gx := Lib.hid (Gx.out.below hb)
      replace Tg := Lib.hid (Tg.out.below hb)
      replace Gg := Lib.hid (Gg.out.below hb)
      replace B0 := Lib.hid (B0.out.trans (hb.mono B0.out.size))
      replace HSZ := Lib.hid (Nat.le_trans HSZ.out hb.size)
      replace HEw := Lib.hid (Nat.le_trans HEw.out hb.size)
      replace HEx := Lib.hid (Nat.le_trans HEx.out hb.size)
      replace HLx := Lib.hid (Nat.le_trans HLx.out hb.size)
      replace HEg := Lib.hid (Nat.le_trans HEg.out hb.size)
      clear hb
      go_wp2_with fail
      refine ((HER _ _ _ Tg.out.r.arg Tw.out.r.arg).out).mono ?_
      rintro e u9 ⟨rfl, hb⟩
      replace GA := Lib.hid (GA.out.below hb)
      replace GO := Lib.hid (GO.out.below hb)
      replace Tw := Lib.hid (Tw.out.below hb)
      replace Gw := Lib.hid (Gw.out.below hb)
      replace Ox := Lib.hid (Ox.out.below hb)
      replace Gx := Lib.hid (Gx.out.below hb)
      replace Tg := Lib.hid (Tg.out.below hb)
      replace Gg := Lib.hid (Gg.out.below hb)
      replace B0 := Lib.hid (B0.out.trans (hb.mono B0.out.size))
      replace HSZ := Lib.hid (Nat.le_trans HSZ.out hb.size)
      replace HEw := Lib.hid (Nat.le_trans HEw.out hb.size)
      replace HEx := Lib.hid (Nat.le_trans HEx.out hb.size)
      replace HLx := Lib.hid (Nat.le_trans HLx.out hb.size)
      replace HEg := Lib.hid (Nat.le_trans HEg.out hb.size)
      clear hb
      go_upto_region 13 with fail
      go_cut [67] from 63 to 66 (fun x wx => x = .bool false ∧ Below u9.heap.size u9 wx)
      case first =>
        have hbd : Below u9.heap.size u9 u9.drew := below_drew _ _
        have QA := Lib.hid (show Blk u9.drew (w.heap.size + 0) 48 #[vk0, vr0] from GA.out.below hbd)
        have QX := Lib.hid (show Blk u9.drew gx 27 #[kx, rx] from Gx.out.below hbd)
        have QM := Lib.hid (show MoOwn u9.drew bx z0 kx rx from Ox.out.m.below hbd)
        have HB := Lib.hid (B0.out.trans (hbd.mono B0.out.size))
        have HBW := Lib.hid hbd
        clear hbd B0 GA GO Tw Gw Ox Gx Tg Gg
        refine wp_region_held_drew (S := fun X : World => Blk X (w.heap.size + 0) 48 #[vk0, vr0] ∧ Blk X gx 27 #[kx, rx]) (by kernel_rfl) ⟨QA.out, QX.out⟩ (fun hHeld => ?_)
        clear hHeld
        generalize u9.drew = X0 at *
        refine' wpAnyH_take (i := 0) (v := .agg #[kx, rx]) rfl (by kernel_rfl) (by kernel_rfl) (by kernel_rfl) (fun _ _ _ h => h) (yieldsIf_load_mid (by rfl) 27 _ rfl (gx) 0 rfl (#[kx, rx] : Array Value).toList _ (fun w' h => Blk.rangeM h.2) hulI rfl (by kernel_rfl)) ⟨QA.out, QX.out⟩ ?_
        try simp only [Act.put, List.getElem_toArray, List.getElem_cons_succ, List.getElem_cons_zero, List.setIfInBounds_toArray, List.set_cons_zero, List.set_cons_succ]
        refine' wpAnyH_take (i := 1) (v := .agg #[vk0, vr0]) rfl (by kernel_rfl) (by kernel_rfl) (by kernel_rfl) (fun _ _ _ h => h) (yieldsIf_load_mid (by rfl) 48 _ rfl (w.heap.size + 0) 0 rfl (#[vk0, vr0] : Array Value).toList _ (fun w' h => Blk.rangeM h.1) hulL rfl (by kernel_rfl)) ⟨QA.out, QX.out⟩ ?_
        try simp only [Act.put, List.getElem_toArray, List.getElem_cons_succ, List.getElem_cons_zero, List.setIfInBounds_toArray, List.set_cons_zero, List.set_cons_succ]
        refine wpAnyH_ready (rs := [2]) (by kernel_rfl) (by simp) ?_
        refine AllReadyH.cons rfl (fun K hK => ?_) AllReadyH.nil
        go_simp
        refine (HT _ (HIN.out.below HB.out)).out.mono ?_
        rintro e X1 ⟨sk, sr, rfl, ho, hb⟩
        replace QA := Lib.hid (QA.out.below hb); replace QX := Lib.hid (QX.out.below hb); replace QM := Lib.hid (QM.out.below hb); replace HB := Lib.hid (HB.out.trans (hb.mono HB.out.size)); replace HBW := Lib.hid (HBW.out.trans (hb.mono HBW.out.size))
        have QY := Lib.hid ho.win
        clear ho
        refine hK.out _ _ ⟨QA.out, QX.out⟩ (fun hHeld => ?_)
        clear hK K hHeld hb
        try simp only [Act.put, List.getElem_toArray, List.getElem_cons_succ, List.getElem_cons_zero, List.setIfInBounds_toArray, List.set_cons_zero, List.set_cons_succ]
        refine wpAnyH_ready (rs := [3]) (by kernel_rfl) (by simp) ?_
        refine AllReadyH.cons rfl (fun K hK => ?_) AllReadyH.nil
        go_simp
        refine (HEZ _ _ _ _ _ QM.out.win QY.out).out.mono ?_
        rintro e X2 ⟨rfl, hb⟩
        replace QA := Lib.hid (QA.out.below hb); replace QX := Lib.hid (QX.out.below hb); replace QM := Lib.hid (QM.out.below hb); replace HB := Lib.hid (HB.out.trans (hb.mono HB.out.size)); replace HBW := Lib.hid (HBW.out.trans (hb.mono HBW.out.size))
        clear QY
        refine hK.out _ _ ⟨QA.out, QX.out⟩ (fun hHeld => ?_)
        clear hK K hHeld hb
        try simp only [Act.put, List.getElem_toArray, List.getElem_cons_succ, List.getElem_cons_zero, List.setIfInBounds_toArray, List.set_cons_zero, List.set_cons_succ]
        refine' wpAnyH_take (i := 4) (v := .bool false) rfl (by kernel_rfl) (by kernel_rfl) (by kernel_rfl) (fun _ _ _ h => h) (Or.inl ⟨by rfl, fun W h => by go_simp⟩) ⟨QA.out, QX.out⟩ ?_
        try simp only [Act.put, List.getElem_toArray, List.getElem_cons_succ, List.getElem_cons_zero, List.setIfInBounds_toArray, List.set_cons_zero, List.set_cons_succ]
        refine wpAnyH_done (by kernel_rfl) ?_ _
        go_wp2_with fail
        go_meet
        exact ⟨rfl, HBW.out⟩
      case rest =>
        obtain ⟨rfl, hb⟩ := hcut
        obtain ⟨u10, hU⟩ : ∃ Y, Y = wc := ⟨_, rfl⟩
        subst hU
        replace GA := Lib.hid (GA.out.below hb)
        replace GO := Lib.hid (GO.out.below hb)
        replace Tw := Lib.hid (Tw.out.below hb)
        replace Gw := Lib.hid (Gw.out.below hb)
        replace Ox := Lib.hid (Ox.out.below hb)
        replace Gx := Lib.hid (Gx.out.below hb)
        replace Tg := Lib.hid (Tg.out.below hb)
        replace Gg := Lib.hid (Gg.out.below hb)
        replace B0 := Lib.hid (B0.out.trans (hb.mono B0.out.size))
        replace HSZ := Lib.hid (Nat.le_trans HSZ.out hb.size)
        replace HEw := Lib.hid (Nat.le_trans HEw.out hb.size)
        replace HEx := Lib.hid (Nat.le_trans HEx.out hb.size)
        replace HLx := Lib.hid (Nat.le_trans HLx.out hb.size)
        replace HEg := Lib.hid (Nat.le_trans HEg.out hb.size)
        clear hb
        go_wp2_with ((with_reducible show wpList _ _ _ _ _ _); first | refine wpList_load_row rfl 27 _ rfl (gx) rfl 27 #[kx, rx] (0, 0) _ Gx.out hulI rfl (by kernel_rfl) ?_)
        refine (HMX _ _ _ _ _ Ox.out).out.mono ?_
        rintro e u11 ⟨rfl, hm, hc⟩
        replace GA := Lib.hid (GA.out.chgM Ox.out.m (by decide) (by decide) hc)
        replace GO := Lib.hid (GO.out.chgM Ox.out.m (by decide) (by decide) hc)
        replace Gw := Lib.hid (Gw.out.chgM Ox.out.m (by decide) (by decide) hc)
        replace Gx := Lib.hid (Gx.out.chgM Ox.out.m (by decide) (by decide) hc)
        replace Gg := Lib.hid (Gg.out.chgM Ox.out.m (by decide) (by decide) hc)
        replace Tw := Lib.hid (Tw.out.chg hc (fun i s => .inr (Nat.le_trans HWX.out (Ox.out.m.bl_ge i s))))
        replace Tg := Lib.hid (Tg.out.chg hc (fun i s => .inl (Nat.lt_of_lt_of_le (Ox.out.lt i s) HBg.out)))
        replace B0 := Lib.hid (Chg.to_below B0.out hc B0.out.size (fun i s => Nat.le_trans HWB.out (Ox.out.m.bl_ge i s)))
        replace HSZ := Lib.hid (Nat.le_trans HSZ.out hc.size)
        replace HEw := Lib.hid (Nat.le_trans HEw.out hc.size)
        replace HEx := Lib.hid (Nat.le_trans HEx.out hc.size)
        replace HLx := Lib.hid (Nat.le_trans HLx.out hc.size)
        replace HEg := Lib.hid (Nat.le_trans HEg.out hc.size)
        clear hm hc
        clear Ox Gx HLx HEx
        have HWG := Lib.hid (show ew ≤ bg from Nat.le_trans HWX.out (Nat.le_trans HXX.out HBg.out))
        have HGB := Lib.hid (show w.heap.size ≤ bg from Nat.le_trans HWB.out (Nat.le_trans HXX.out HBg.out))
        go_wp2_with ((with_reducible show wpList _ _ _ _ _ _); first | refine wpList_load_row rfl 27 _ rfl (gg) rfl 27 #[kg, rg] (0, 0) _ Gg.out hulI rfl (by kernel_rfl) ?_ | refine wpList_load_row rfl 27 _ rfl (gw) rfl 27 #[kw, rw] (0, 0) _ Gw.out hulI rfl (by kernel_rfl) ?_ | refine wpList_load_rowM 27 _ rfl (gg) rfl 27 #[kg, rg] (0, 0) _ Gg.out hulI rfl (by kernel_rfl) rfl ?_ | refine wpList_load_rowM 27 _ rfl (gw) rfl 27 #[kw, rw] (0, 0) _ Gw.out hulI rfl (by kernel_rfl) rfl ?_)
        refine ((HEP _ _ _ _ _ Tg.out.m.win Tw.out.m.win).out).mono ?_
        rintro e u12 ⟨rfl, hb⟩
        replace GA := Lib.hid (GA.out.below hb)
        replace GO := Lib.hid (GO.out.below hb)
        replace Tw := Lib.hid (Tw.out.below hb)
        replace Gw := Lib.hid (Gw.out.below hb)
        replace Tg := Lib.hid (Tg.out.below hb)
        replace Gg := Lib.hid (Gg.out.below hb)
        replace B0 := Lib.hid (B0.out.trans (hb.mono B0.out.size))
        replace HSZ := Lib.hid (Nat.le_trans HSZ.out hb.size)
        replace HEw := Lib.hid (Nat.le_trans HEw.out hb.size)
        replace HEg := Lib.hid (Nat.le_trans HEg.out hb.size)
        clear hb
        go_wp2_with fail
        refine ((HER _ _ _ Tg.out.r.arg Tw.out.r.arg).out).mono ?_
        rintro e u13 ⟨rfl, hb⟩
        replace GA := Lib.hid (GA.out.below hb)
        replace GO := Lib.hid (GO.out.below hb)
        replace Tw := Lib.hid (Tw.out.below hb)
        replace Gw := Lib.hid (Gw.out.below hb)
        replace Tg := Lib.hid (Tg.out.below hb)
        replace Gg := Lib.hid (Gg.out.below hb)
        replace B0 := Lib.hid (B0.out.trans (hb.mono B0.out.size))
        replace HSZ := Lib.hid (Nat.le_trans HSZ.out hb.size)
        replace HEw := Lib.hid (Nat.le_trans HEw.out hb.size)
        replace HEg := Lib.hid (Nat.le_trans HEg.out hb.size)
        clear hb
        go_wp2_with ((with_reducible show wpList _ _ _ _ _ _); first | refine wpList_load_row rfl 27 _ rfl (gg) rfl 27 #[kg, rg] (0, 0) _ Gg.out hulI rfl (by kernel_rfl) ?_)
        refine (HMG _ _ _ _ _ ⟨Tg.out.m, fun k hk => Tg.out.lt k (.inl hk)⟩).out.mono ?_
        rintro e u14 ⟨rfl, hm, hc⟩
        replace GA := Lib.hid (GA.out.chgM Tg.out.m (by decide) (by decide) hc)
        replace GO := Lib.hid (GO.out.chgM Tg.out.m (by decide) (by decide) hc)
        replace Gw := Lib.hid (Gw.out.chgM Tg.out.m (by decide) (by decide) hc)
        replace Gg := Lib.hid (Gg.out.chgM Tg.out.m (by decide) (by decide) hc)
        replace Tw := Lib.hid (Tw.out.chg hc (fun i s => .inr (Nat.le_trans HWG.out (Tg.out.in_m i s).1)))
        replace B0 := Lib.hid (Chg.to_below B0.out hc B0.out.size (fun i s => Nat.le_trans HGB.out (Tg.out.in_m i s).1))
        replace HSZ := Lib.hid (Nat.le_trans HSZ.out hc.size)
        replace HEw := Lib.hid (Nat.le_trans HEw.out hc.size)
        replace HEg := Lib.hid (Nat.le_trans HEg.out hc.size)
        replace Tg := Lib.hid (Tg.out.marked hm.m hc)
        clear hm hc
        go_wp2_with fail
        refine (HMR _ _ _ Tg.out.r).out.mono ?_
        rintro e u15 ⟨rfl, hm, hg⟩
        replace GA := Lib.hid (GA.out.grownR Tg.out.r (by decide) hg)
        replace GO := Lib.hid (GO.out.grownR Tg.out.r (by decide) hg)
        replace Gw := Lib.hid (Gw.out.grownR Tg.out.r (by decide) hg)
        replace Gg := Lib.hid (Gg.out.grownR Tg.out.r (by decide) hg)
        have hc := Chg.of_grown hg (fun i h => h)
        replace Tw := Lib.hid (Tw.out.chg hc (fun i s => .inr (Nat.le_trans HWG.out (Tg.out.in_r i s).1)))
        replace B0 := Lib.hid (Chg.to_below B0.out hc B0.out.size (fun i s => Nat.le_trans HGB.out (Tg.out.in_r i s).1))
        replace HSZ := Lib.hid (Nat.le_trans HSZ.out hc.size)
        replace HEw := Lib.hid (Nat.le_trans HEw.out hc.size)
        replace HEg := Lib.hid (Nat.le_trans HEg.out hc.size)
        replace Tg := Lib.hid (Tg.out.markedR hm hg)
        clear hm hg hc
        go_wp2_with ((with_reducible show wpList _ _ _ _ _ _); first | refine wpList_load_row rfl 27 _ rfl (gg) rfl 27 #[kg, rg] (0, 0) _ Gg.out hulI rfl (by kernel_rfl) ?_)
        refine ((HHG _ _ _ _ Tg.out.m).out).mono ?_
        rintro e u16 ⟨rfl, hb⟩
        replace GA := Lib.hid (GA.out.below hb)
        replace GO := Lib.hid (GO.out.below hb)
        replace Tw := Lib.hid (Tw.out.below hb)
        replace Gw := Lib.hid (Gw.out.below hb)
        replace Tg := Lib.hid (Tg.out.below hb)
        replace Gg := Lib.hid (Gg.out.below hb)
        replace B0 := Lib.hid (B0.out.trans (hb.mono B0.out.size))
        replace HSZ := Lib.hid (Nat.le_trans HSZ.out hb.size)
        replace HEw := Lib.hid (Nat.le_trans HEw.out hb.size)
        replace HEg := Lib.hid (Nat.le_trans HEg.out hb.size)
        clear hb
        go_wp2_with fail
        refine ((HHR _ _ _ Tg.out.r).out).mono ?_
        rintro e u17 ⟨rfl, hb⟩
        replace GA := Lib.hid (GA.out.below hb)
        replace GO := Lib.hid (GO.out.below hb)
        replace Tw := Lib.hid (Tw.out.below hb)
        replace Gw := Lib.hid (Gw.out.below hb)
        replace Tg := Lib.hid (Tg.out.below hb)
        replace Gg := Lib.hid (Gg.out.below hb)
        replace B0 := Lib.hid (B0.out.trans (hb.mono B0.out.size))
        replace HSZ := Lib.hid (Nat.le_trans HSZ.out hb.size)
        replace HEw := Lib.hid (Nat.le_trans HEw.out hb.size)
        replace HEg := Lib.hid (Nat.le_trans HEg.out hb.size)
        clear hb
        go_upto_region 31 with fail
        go_cut [16, 17, 18] from 110 to 117 (fun x y z wx => ∃ g k r o, x = .pointer (some ⟨g, 0, none⟩) ∧ y = .int .i64 p.2.1 ∧ z = o ∧ TriE wx u17.heap.size wx.heap.size p k r o ∧ Blk wx g 27 #[k, r] ∧ Below u17.heap.size u17 wx)
        case first =>
          have hbd : Below u17.heap.size u17 u17.drew := below_drew _ _
          have QA := Lib.hid (show Blk u17.drew (w.heap.size + 0) 48 #[vk0, vr0] from GA.out.below hbd)
          have QO := Lib.hid (show Blk u17.drew (w.heap.size + 1) 49 #[.int .i64 a1.kind, .string a1.key, .int .i64 a1.what, .int .i64 a1.val] from GO.out.below hbd)
          have HB := Lib.hid (B0.out.trans (hbd.mono B0.out.size))
          have HBW := Lib.hid hbd
          clear hbd B0 GA GO Tw Gw Tg Gg
          refine wp_region_held_drew (S := fun X : World => Blk X (w.heap.size + 0) 48 #[vk0, vr0] ∧ Blk X (w.heap.size + 1) 49 #[.int .i64 a1.kind, .string a1.key, .int .i64 a1.what, .int .i64 a1.val]) (by kernel_rfl) ⟨QA.out, QO.out⟩ (fun hHeld => ?_)
          clear hHeld
          generalize u17.drew = X0 at *
          refine' wpAnyH_take (i := 0) (v := .agg #[vk0, vr0]) rfl (by kernel_rfl) (by kernel_rfl) (by kernel_rfl) (fun _ _ _ h => h) (yieldsIf_load_mid (by rfl) 48 _ rfl (w.heap.size + 0) 0 rfl (#[vk0, vr0] : Array Value).toList _ (fun w' h => Blk.rangeM h.1) hulL rfl (by kernel_rfl)) ⟨QA.out, QO.out⟩ ?_
          try simp only [Act.put, List.getElem_toArray, List.getElem_cons_succ, List.getElem_cons_zero, List.setIfInBounds_toArray, List.set_cons_zero, List.set_cons_succ]
          refine' wpAnyH_take (i := 2) (v := .agg #[.int .i64 a1.kind, .string a1.key, .int .i64 a1.what, .int .i64 a1.val]) rfl (by kernel_rfl) (by kernel_rfl) (by kernel_rfl) (fun _ _ _ h => h) (yieldsIf_load_mid (by rfl) 49 _ rfl (w.heap.size + 1) 0 rfl (#[.int .i64 a1.kind, .string a1.key, .int .i64 a1.what, .int .i64 a1.val] : Array Value).toList _ (fun w' h => Blk.rangeM h.2) hulO rfl (by kernel_rfl)) ⟨QA.out, QO.out⟩ ?_
          try simp only [Act.put, List.getElem_toArray, List.getElem_cons_succ, List.getElem_cons_zero, List.setIfInBounds_toArray, List.set_cons_zero, List.set_cons_succ]
          refine wpAnyH_ready (rs := [1, 9]) (by kernel_rfl) (by simp) ?_
          refine AllReadyH.cons rfl (fun K hK => ?_) (AllReadyH.cons rfl (fun K hK => ?_) AllReadyH.nil)
          · skip
            go_simp
            refine (HT _ (HIN.out.below HB.out)).out.mono ?_
            rintro e X1 ⟨sk, sr, rfl, ho, hb⟩
            replace QA := Lib.hid (QA.out.below hb); replace QO := Lib.hid (QO.out.below hb); replace HB := Lib.hid (HB.out.trans (hb.mono HB.out.size)); replace HBW := Lib.hid (HBW.out.trans (hb.mono HBW.out.size))
            have QM := Lib.hid ho
            have HQ9 := Lib.hid hb.size
            clear ho
            refine hK.out _ _ ⟨QA.out, QO.out⟩ (fun hHeld => ?_)
            clear hK K hHeld hb
            try simp only [Act.put, List.getElem_toArray, List.getElem_cons_succ, List.getElem_cons_zero, List.setIfInBounds_toArray, List.set_cons_zero, List.set_cons_succ]
            refine wpAnyH_ready (rs := [3, 9]) (by kernel_rfl) (by simp) ?_
            refine AllReadyH.cons rfl (fun K hK => ?_) (AllReadyH.cons rfl (fun K hK => ?_) AllReadyH.nil)
            · skip
              go_simp
              refine (HTO _).out.mono ?_
              rintro e X2 ⟨rfl, hb⟩
              replace QA := Lib.hid (QA.out.below hb); replace QO := Lib.hid (QO.out.below hb); replace HB := Lib.hid (HB.out.trans (hb.mono HB.out.size)); replace HBW := Lib.hid (HBW.out.trans (hb.mono HBW.out.size)); replace QM := Lib.hid (QM.out.below hb); replace HQ9 := Lib.hid (Nat.le_trans HQ9.out hb.size)
              refine hK.out _ _ ⟨QA.out, QO.out⟩ (fun hHeld => ?_)
              clear hK K hHeld hb
              try simp only [Act.put, List.getElem_toArray, List.getElem_cons_succ, List.getElem_cons_zero, List.setIfInBounds_toArray, List.set_cons_zero, List.set_cons_succ]
              refine wpAnyH_ready (rs := [4, 9]) (by kernel_rfl) (by simp) ?_
              refine AllReadyH.cons rfl (fun K hK => ?_) (AllReadyH.cons rfl (fun K hK => ?_) AllReadyH.nil)
              · skip
                go_simp
                refine (HID _ _ _ _ QM.out HQ9.out).out.mono ?_
                rintro e X3 ⟨k, r, o, rfl, hm, hr, ha, hb⟩
                have QT := Lib.hid ((TriE.made hm hr ha).wide HBW.out.size (Nat.le_refl _))
                replace QA := Lib.hid (QA.out.below hb); replace QO := Lib.hid (QO.out.below hb); replace HB := Lib.hid (HB.out.trans (hb.mono HB.out.size)); replace HBW := Lib.hid (HBW.out.trans (hb.mono HBW.out.size)); replace QM := Lib.hid (QM.out.below hb); replace HQ9 := Lib.hid (Nat.le_trans HQ9.out hb.size)
                have HE9 := Lib.hid (Nat.le_refl X3.heap.size)
                clear hm hr ha QM HQ9
                refine hK.out _ _ ⟨QA.out, QO.out⟩ (fun hHeld => ?_)
                clear hK K hHeld hb
                try simp only [Act.put, List.getElem_toArray, List.getElem_cons_succ, List.getElem_cons_zero, List.setIfInBounds_toArray, List.set_cons_zero, List.set_cons_succ]
                refine' wpAnyH_take (i := 5) (v := .tuple #[.agg #[k, r], .int .i64 p.2.1, o]) rfl (by kernel_rfl) (by kernel_rfl) (by kernel_rfl) (fun _ _ _ h => h) (Or.inl ⟨by rfl, fun W h => by go_simp⟩) ⟨QA.out, QO.out⟩ ?_
                try simp only [Act.put, List.getElem_toArray, List.getElem_cons_succ, List.getElem_cons_zero, List.setIfInBounds_toArray, List.set_cons_zero, List.set_cons_succ]
                refine' wpAnyH_take (i := 6) (v := .agg #[k, r]) rfl (by kernel_rfl) (by kernel_rfl) (by kernel_rfl) (fun _ _ _ h => h) (Or.inl ⟨by rfl, fun W h => by go_simp⟩) ⟨QA.out, QO.out⟩ ?_
                try simp only [Act.put, List.getElem_toArray, List.getElem_cons_succ, List.getElem_cons_zero, List.setIfInBounds_toArray, List.set_cons_zero, List.set_cons_succ]
                refine' wpAnyH_take (i := 7) (v := .int .i64 p.2.1) rfl (by kernel_rfl) (by kernel_rfl) (by kernel_rfl) (fun _ _ _ h => h) (Or.inl ⟨by rfl, fun W h => by go_simp⟩) ⟨QA.out, QO.out⟩ ?_
                try simp only [Act.put, List.getElem_toArray, List.getElem_cons_succ, List.getElem_cons_zero, List.setIfInBounds_toArray, List.set_cons_zero, List.set_cons_succ]
                refine' wpAnyH_take (i := 8) (v := o) rfl (by kernel_rfl) (by kernel_rfl) (by kernel_rfl) (fun _ _ _ h => h) (Or.inl ⟨by rfl, fun W h => by go_simp⟩) ⟨QA.out, QO.out⟩ ?_
                try simp only [Act.put, List.getElem_toArray, List.getElem_cons_succ, List.getElem_cons_zero, List.setIfInBounds_toArray, List.set_cons_zero, List.set_cons_succ]
                refine wpAnyH_ready (rs := [9]) (by kernel_rfl) (by simp) ?_
                refine AllReadyH.cons rfl (fun K hK => ?_) AllReadyH.nil
                go_simp
                have hb := below_oneM X3 (.cells #[.slice none 0 0, .slice none 0 0] 27)
                have hn := Blk.new X3 X3.heap.size 27 #[.slice none 0 0, .slice none 0 0] rfl
                obtain ⟨g7, hg⟩ : ∃ g, g = X3.heap.size := ⟨_, rfl⟩
                rw [← hg] at hn
                have HZ7 := Lib.hid (show u17.heap.size ≤ g7 from by rw [hg]; exact HBW.out.size)
                replace QA := Lib.hid (QA.out.below hb); replace QO := Lib.hid (QO.out.below hb); replace HB := Lib.hid (HB.out.trans (hb.mono HB.out.size)); replace HBW := Lib.hid (HBW.out.trans (hb.mono HBW.out.size)); replace QT := Lib.hid (QT.out.below hb); replace HE9 := Lib.hid (Nat.le_trans HE9.out hb.size)
                have Q7 := Lib.hid hn
                clear hn
                refine hK.out _ _ ⟨QA.out, QO.out⟩ (fun hHeld => ?_)
                clear hK K hHeld hb
                try simp only [Act.put, List.getElem_toArray, List.getElem_cons_succ, List.getElem_cons_zero, List.setIfInBounds_toArray, List.set_cons_zero, List.set_cons_succ]
                rw [← hg]
                clear hg
                obtain ⟨X4, hX⟩ : ∃ Y, Y = X3.alloc (.cells #[.slice none 0 0, .slice none 0 0] 27) := ⟨_, rfl⟩
                rw [← hX] at QA QO HB HBW Q7 HE9 QT ⊢
                clear hX
                refine wpAnyH_ready (rs := [10]) (by kernel_rfl) (by simp) ?_
                refine AllReadyH.cons rfl (fun K hK => ?_) AllReadyH.nil
                rw [if_pos (by rfl)]
                have hoc := mo_one2 QT.out.m
                refine wp_store_row 27 _ _ rfl g7 #[k, r] rfl rfl 27 _ Q7.out (by kernel_rfl) rfl hoc ?_
                have H7 := Lib.hid (show Blk (World.setRow _ g7 #[k, r]) g7 27 #[k, r] from setRow_heap _ _ _ _ _ _ Q7.out)
                have hge := HZ7.out
                have QT9 := Lib.hid (QT.out.farT Q7.out (setRow_grown _ g7 #[k, r]))
                have QA9 := Lib.hid (show Blk (World.setRow _ g7 #[k, r]) (w.heap.size + 0) 48 #[vk0, vr0] from (setRow_other _ g7 (w.heap.size + 0) _ (by have := HSZ.out; omega)).trans QA.out)
                have QO9 := Lib.hid (show Blk (World.setRow _ g7 #[k, r]) (w.heap.size + 1) 49 #[.int .i64 a1.kind, .string a1.key, .int .i64 a1.what, .int .i64 a1.val] from (setRow_other _ g7 (w.heap.size + 1) _ (by have := HSZ.out; omega)).trans QO.out)
                have HB9 := Lib.hid (below_setRow' HBW.out hge #[k, r])
                have HS9 := Lib.hid (Nat.le_of_eq (setRow_size X4 g7 #[k, r]).symm)
                refine hK.out _ _ ⟨QA9.out, QO9.out⟩ (fun hHeld => ?_)
                clear hK K hHeld QA QO Q7 QT HB HBW hoc hge
                try simp only [Act.put, List.getElem_toArray, List.getElem_cons_succ, List.getElem_cons_zero, List.setIfInBounds_toArray, List.set_cons_zero, List.set_cons_succ]
                refine' wpAnyH_take (i := 11) (v := .int .i64 p.2.1) rfl (by kernel_rfl) (by kernel_rfl) (by kernel_rfl) (fun _ _ _ h => h) (Or.inl ⟨by rfl, fun W h => by go_simp⟩) ⟨QA9.out, QO9.out⟩ ?_
                try simp only [Act.put, List.getElem_toArray, List.getElem_cons_succ, List.getElem_cons_zero, List.setIfInBounds_toArray, List.set_cons_zero, List.set_cons_succ]
                refine' wpAnyH_take (i := 12) (v := o) rfl (by kernel_rfl) (by kernel_rfl) (by kernel_rfl) (fun _ _ _ h => h) (Or.inl ⟨by rfl, fun W h => by go_simp⟩) ⟨QA9.out, QO9.out⟩ ?_
                try simp only [Act.put, List.getElem_toArray, List.getElem_cons_succ, List.getElem_cons_zero, List.setIfInBounds_toArray, List.set_cons_zero, List.set_cons_succ]
                refine wpAnyH_done (by kernel_rfl) ?_ _
                go_wp2_with fail
                go_meet
                exact ⟨g7, k, r, o, rfl, rfl, rfl, QT9.out.wide (Nat.le_refl _) (Nat.le_trans HE9.out HS9.out), H7.out, HB9.out⟩
              · skip
                go_simp
                have hb := below_oneM X2 (.cells #[.slice none 0 0, .slice none 0 0] 27)
                have hn := Blk.new X2 X2.heap.size 27 #[.slice none 0 0, .slice none 0 0] rfl
                obtain ⟨g7, hg⟩ : ∃ g, g = X2.heap.size := ⟨_, rfl⟩
                rw [← hg] at hn
                have HZ7 := Lib.hid (show u17.heap.size ≤ g7 from by rw [hg]; exact HBW.out.size)
                replace QA := Lib.hid (QA.out.below hb); replace QO := Lib.hid (QO.out.below hb); replace HB := Lib.hid (HB.out.trans (hb.mono HB.out.size)); replace HBW := Lib.hid (HBW.out.trans (hb.mono HBW.out.size)); replace QM := Lib.hid (QM.out.below hb); replace HQ9 := Lib.hid (Nat.le_trans HQ9.out hb.size)
                have Q7 := Lib.hid hn
                clear hn
                refine hK.out _ _ ⟨QA.out, QO.out⟩ (fun hHeld => ?_)
                clear hK K hHeld hb
                try simp only [Act.put, List.getElem_toArray, List.getElem_cons_succ, List.getElem_cons_zero, List.setIfInBounds_toArray, List.set_cons_zero, List.set_cons_succ]
                rw [← hg]
                clear hg
                obtain ⟨X5, hX⟩ : ∃ Y, Y = X2.alloc (.cells #[.slice none 0 0, .slice none 0 0] 27) := ⟨_, rfl⟩
                rw [← hX] at QA QO HB HBW Q7 HQ9 QM ⊢
                clear hX
                refine wpAnyH_ready (rs := [4]) (by kernel_rfl) (by simp) ?_
                refine AllReadyH.cons rfl (fun K hK => ?_) AllReadyH.nil
                go_simp
                refine (HID _ _ _ _ QM.out HQ9.out).out.mono ?_
                rintro e X6 ⟨k, r, o, rfl, hm, hr, ha, hb⟩
                have QT := Lib.hid ((TriE.made hm hr ha).wide HBW.out.size (Nat.le_refl _))
                replace QA := Lib.hid (QA.out.below hb); replace QO := Lib.hid (QO.out.below hb); replace HB := Lib.hid (HB.out.trans (hb.mono HB.out.size)); replace HBW := Lib.hid (HBW.out.trans (hb.mono HBW.out.size)); replace QM := Lib.hid (QM.out.below hb); replace Q7 := Lib.hid (Q7.out.below hb); replace HQ9 := Lib.hid (Nat.le_trans HQ9.out hb.size)
                have HE9 := Lib.hid (Nat.le_refl X6.heap.size)
                clear hm hr ha QM HQ9
                refine hK.out _ _ ⟨QA.out, QO.out⟩ (fun hHeld => ?_)
                clear hK K hHeld hb
                try simp only [Act.put, List.getElem_toArray, List.getElem_cons_succ, List.getElem_cons_zero, List.setIfInBounds_toArray, List.set_cons_zero, List.set_cons_succ]
                refine' wpAnyH_take (i := 5) (v := .tuple #[.agg #[k, r], .int .i64 p.2.1, o]) rfl (by kernel_rfl) (by kernel_rfl) (by kernel_rfl) (fun _ _ _ h => h) (Or.inl ⟨by rfl, fun W h => by go_simp⟩) ⟨QA.out, QO.out⟩ ?_
                try simp only [Act.put, List.getElem_toArray, List.getElem_cons_succ, List.getElem_cons_zero, List.setIfInBounds_toArray, List.set_cons_zero, List.set_cons_succ]
                refine' wpAnyH_take (i := 6) (v := .agg #[k, r]) rfl (by kernel_rfl) (by kernel_rfl) (by kernel_rfl) (fun _ _ _ h => h) (Or.inl ⟨by rfl, fun W h => by go_simp⟩) ⟨QA.out, QO.out⟩ ?_
                try simp only [Act.put, List.getElem_toArray, List.getElem_cons_succ, List.getElem_cons_zero, List.setIfInBounds_toArray, List.set_cons_zero, List.set_cons_succ]
                refine' wpAnyH_take (i := 7) (v := .int .i64 p.2.1) rfl (by kernel_rfl) (by kernel_rfl) (by kernel_rfl) (fun _ _ _ h => h) (Or.inl ⟨by rfl, fun W h => by go_simp⟩) ⟨QA.out, QO.out⟩ ?_
                try simp only [Act.put, List.getElem_toArray, List.getElem_cons_succ, List.getElem_cons_zero, List.setIfInBounds_toArray, List.set_cons_zero, List.set_cons_succ]
                refine' wpAnyH_take (i := 8) (v := o) rfl (by kernel_rfl) (by kernel_rfl) (by kernel_rfl) (fun _ _ _ h => h) (Or.inl ⟨by rfl, fun W h => by go_simp⟩) ⟨QA.out, QO.out⟩ ?_
                try simp only [Act.put, List.getElem_toArray, List.getElem_cons_succ, List.getElem_cons_zero, List.setIfInBounds_toArray, List.set_cons_zero, List.set_cons_succ]
                refine wpAnyH_ready (rs := [10]) (by kernel_rfl) (by simp) ?_
                refine AllReadyH.cons rfl (fun K hK => ?_) AllReadyH.nil
                rw [if_pos (by rfl)]
                have hoc := mo_one2 QT.out.m
                refine wp_store_row 27 _ _ rfl g7 #[k, r] rfl rfl 27 _ Q7.out (by kernel_rfl) rfl hoc ?_
                have H7 := Lib.hid (show Blk (World.setRow _ g7 #[k, r]) g7 27 #[k, r] from setRow_heap _ _ _ _ _ _ Q7.out)
                have hge := HZ7.out
                have QT9 := Lib.hid (QT.out.farT Q7.out (setRow_grown _ g7 #[k, r]))
                have QA9 := Lib.hid (show Blk (World.setRow _ g7 #[k, r]) (w.heap.size + 0) 48 #[vk0, vr0] from (setRow_other _ g7 (w.heap.size + 0) _ (by have := HSZ.out; omega)).trans QA.out)
                have QO9 := Lib.hid (show Blk (World.setRow _ g7 #[k, r]) (w.heap.size + 1) 49 #[.int .i64 a1.kind, .string a1.key, .int .i64 a1.what, .int .i64 a1.val] from (setRow_other _ g7 (w.heap.size + 1) _ (by have := HSZ.out; omega)).trans QO.out)
                have HB9 := Lib.hid (below_setRow' HBW.out hge #[k, r])
                have HS9 := Lib.hid (Nat.le_of_eq (setRow_size X6 g7 #[k, r]).symm)
                refine hK.out _ _ ⟨QA9.out, QO9.out⟩ (fun hHeld => ?_)
                clear hK K hHeld QA QO Q7 QT HB HBW hoc hge
                try simp only [Act.put, List.getElem_toArray, List.getElem_cons_succ, List.getElem_cons_zero, List.setIfInBounds_toArray, List.set_cons_zero, List.set_cons_succ]
                refine' wpAnyH_take (i := 11) (v := .int .i64 p.2.1) rfl (by kernel_rfl) (by kernel_rfl) (by kernel_rfl) (fun _ _ _ h => h) (Or.inl ⟨by rfl, fun W h => by go_simp⟩) ⟨QA9.out, QO9.out⟩ ?_
                try simp only [Act.put, List.getElem_toArray, List.getElem_cons_succ, List.getElem_cons_zero, List.setIfInBounds_toArray, List.set_cons_zero, List.set_cons_succ]
                refine' wpAnyH_take (i := 12) (v := o) rfl (by kernel_rfl) (by kernel_rfl) (by kernel_rfl) (fun _ _ _ h => h) (Or.inl ⟨by rfl, fun W h => by go_simp⟩) ⟨QA9.out, QO9.out⟩ ?_
                try simp only [Act.put, List.getElem_toArray, List.getElem_cons_succ, List.getElem_cons_zero, List.setIfInBounds_toArray, List.set_cons_zero, List.set_cons_succ]
                refine wpAnyH_done (by kernel_rfl) ?_ _
                go_wp2_with fail
                go_meet
                exact ⟨g7, k, r, o, rfl, rfl, rfl, QT9.out.wide (Nat.le_refl _) (Nat.le_trans HE9.out HS9.out), H7.out, HB9.out⟩
            · skip
              go_simp
              have hb := below_oneM X1 (.cells #[.slice none 0 0, .slice none 0 0] 27)
              have hn := Blk.new X1 X1.heap.size 27 #[.slice none 0 0, .slice none 0 0] rfl
              obtain ⟨g7, hg⟩ : ∃ g, g = X1.heap.size := ⟨_, rfl⟩
              rw [← hg] at hn
              have HZ7 := Lib.hid (show u17.heap.size ≤ g7 from by rw [hg]; exact HBW.out.size)
              replace QA := Lib.hid (QA.out.below hb); replace QO := Lib.hid (QO.out.below hb); replace HB := Lib.hid (HB.out.trans (hb.mono HB.out.size)); replace HBW := Lib.hid (HBW.out.trans (hb.mono HBW.out.size)); replace QM := Lib.hid (QM.out.below hb); replace HQ9 := Lib.hid (Nat.le_trans HQ9.out hb.size)
              have Q7 := Lib.hid hn
              clear hn
              refine hK.out _ _ ⟨QA.out, QO.out⟩ (fun hHeld => ?_)
              clear hK K hHeld hb
              try simp only [Act.put, List.getElem_toArray, List.getElem_cons_succ, List.getElem_cons_zero, List.setIfInBounds_toArray, List.set_cons_zero, List.set_cons_succ]
              rw [← hg]
              clear hg
              obtain ⟨X7, hX⟩ : ∃ Y, Y = X1.alloc (.cells #[.slice none 0 0, .slice none 0 0] 27) := ⟨_, rfl⟩
              rw [← hX] at QA QO HB HBW Q7 HQ9 QM ⊢
              clear hX
              refine wpAnyH_ready (rs := [3]) (by kernel_rfl) (by simp) ?_
              refine AllReadyH.cons rfl (fun K hK => ?_) AllReadyH.nil
              go_simp
              refine (HTO _).out.mono ?_
              rintro e X8 ⟨rfl, hb⟩
              replace QA := Lib.hid (QA.out.below hb); replace QO := Lib.hid (QO.out.below hb); replace HB := Lib.hid (HB.out.trans (hb.mono HB.out.size)); replace HBW := Lib.hid (HBW.out.trans (hb.mono HBW.out.size)); replace QM := Lib.hid (QM.out.below hb); replace Q7 := Lib.hid (Q7.out.below hb); replace HQ9 := Lib.hid (Nat.le_trans HQ9.out hb.size)
              refine hK.out _ _ ⟨QA.out, QO.out⟩ (fun hHeld => ?_)
              clear hK K hHeld hb
              try simp only [Act.put, List.getElem_toArray, List.getElem_cons_succ, List.getElem_cons_zero, List.setIfInBounds_toArray, List.set_cons_zero, List.set_cons_succ]
              refine wpAnyH_ready (rs := [4]) (by kernel_rfl) (by simp) ?_
              refine AllReadyH.cons rfl (fun K hK => ?_) AllReadyH.nil
              go_simp
              refine (HID _ _ _ _ QM.out HQ9.out).out.mono ?_
              rintro e X9 ⟨k, r, o, rfl, hm, hr, ha, hb⟩
              have QT := Lib.hid ((TriE.made hm hr ha).wide HBW.out.size (Nat.le_refl _))
              replace QA := Lib.hid (QA.out.below hb); replace QO := Lib.hid (QO.out.below hb); replace HB := Lib.hid (HB.out.trans (hb.mono HB.out.size)); replace HBW := Lib.hid (HBW.out.trans (hb.mono HBW.out.size)); replace QM := Lib.hid (QM.out.below hb); replace Q7 := Lib.hid (Q7.out.below hb); replace HQ9 := Lib.hid (Nat.le_trans HQ9.out hb.size)
              have HE9 := Lib.hid (Nat.le_refl X9.heap.size)
              clear hm hr ha QM HQ9
              refine hK.out _ _ ⟨QA.out, QO.out⟩ (fun hHeld => ?_)
              clear hK K hHeld hb
              try simp only [Act.put, List.getElem_toArray, List.getElem_cons_succ, List.getElem_cons_zero, List.setIfInBounds_toArray, List.set_cons_zero, List.set_cons_succ]
              refine' wpAnyH_take (i := 5) (v := .tuple #[.agg #[k, r], .int .i64 p.2.1, o]) rfl (by kernel_rfl) (by kernel_rfl) (by kernel_rfl) (fun _ _ _ h => h) (Or.inl ⟨by rfl, fun W h => by go_simp⟩) ⟨QA.out, QO.out⟩ ?_
              try simp only [Act.put, List.getElem_toArray, List.getElem_cons_succ, List.getElem_cons_zero, List.setIfInBounds_toArray, List.set_cons_zero, List.set_cons_succ]
              refine' wpAnyH_take (i := 6) (v := .agg #[k, r]) rfl (by kernel_rfl) (by kernel_rfl) (by kernel_rfl) (fun _ _ _ h => h) (Or.inl ⟨by rfl, fun W h => by go_simp⟩) ⟨QA.out, QO.out⟩ ?_
              try simp only [Act.put, List.getElem_toArray, List.getElem_cons_succ, List.getElem_cons_zero, List.setIfInBounds_toArray, List.set_cons_zero, List.set_cons_succ]
              refine' wpAnyH_take (i := 7) (v := .int .i64 p.2.1) rfl (by kernel_rfl) (by kernel_rfl) (by kernel_rfl) (fun _ _ _ h => h) (Or.inl ⟨by rfl, fun W h => by go_simp⟩) ⟨QA.out, QO.out⟩ ?_
              try simp only [Act.put, List.getElem_toArray, List.getElem_cons_succ, List.getElem_cons_zero, List.setIfInBounds_toArray, List.set_cons_zero, List.set_cons_succ]
              refine' wpAnyH_take (i := 8) (v := o) rfl (by kernel_rfl) (by kernel_rfl) (by kernel_rfl) (fun _ _ _ h => h) (Or.inl ⟨by rfl, fun W h => by go_simp⟩) ⟨QA.out, QO.out⟩ ?_
              try simp only [Act.put, List.getElem_toArray, List.getElem_cons_succ, List.getElem_cons_zero, List.setIfInBounds_toArray, List.set_cons_zero, List.set_cons_succ]
              refine wpAnyH_ready (rs := [10]) (by kernel_rfl) (by simp) ?_
              refine AllReadyH.cons rfl (fun K hK => ?_) AllReadyH.nil
              rw [if_pos (by rfl)]
              have hoc := mo_one2 QT.out.m
              refine wp_store_row 27 _ _ rfl g7 #[k, r] rfl rfl 27 _ Q7.out (by kernel_rfl) rfl hoc ?_
              have H7 := Lib.hid (show Blk (World.setRow _ g7 #[k, r]) g7 27 #[k, r] from setRow_heap _ _ _ _ _ _ Q7.out)
              have hge := HZ7.out
              have QT9 := Lib.hid (QT.out.farT Q7.out (setRow_grown _ g7 #[k, r]))
              have QA9 := Lib.hid (show Blk (World.setRow _ g7 #[k, r]) (w.heap.size + 0) 48 #[vk0, vr0] from (setRow_other _ g7 (w.heap.size + 0) _ (by have := HSZ.out; omega)).trans QA.out)
              have QO9 := Lib.hid (show Blk (World.setRow _ g7 #[k, r]) (w.heap.size + 1) 49 #[.int .i64 a1.kind, .string a1.key, .int .i64 a1.what, .int .i64 a1.val] from (setRow_other _ g7 (w.heap.size + 1) _ (by have := HSZ.out; omega)).trans QO.out)
              have HB9 := Lib.hid (below_setRow' HBW.out hge #[k, r])
              have HS9 := Lib.hid (Nat.le_of_eq (setRow_size X9 g7 #[k, r]).symm)
              refine hK.out _ _ ⟨QA9.out, QO9.out⟩ (fun hHeld => ?_)
              clear hK K hHeld QA QO Q7 QT HB HBW hoc hge
              try simp only [Act.put, List.getElem_toArray, List.getElem_cons_succ, List.getElem_cons_zero, List.setIfInBounds_toArray, List.set_cons_zero, List.set_cons_succ]
              refine' wpAnyH_take (i := 11) (v := .int .i64 p.2.1) rfl (by kernel_rfl) (by kernel_rfl) (by kernel_rfl) (fun _ _ _ h => h) (Or.inl ⟨by rfl, fun W h => by go_simp⟩) ⟨QA9.out, QO9.out⟩ ?_
              try simp only [Act.put, List.getElem_toArray, List.getElem_cons_succ, List.getElem_cons_zero, List.setIfInBounds_toArray, List.set_cons_zero, List.set_cons_succ]
              refine' wpAnyH_take (i := 12) (v := o) rfl (by kernel_rfl) (by kernel_rfl) (by kernel_rfl) (fun _ _ _ h => h) (Or.inl ⟨by rfl, fun W h => by go_simp⟩) ⟨QA9.out, QO9.out⟩ ?_
              try simp only [Act.put, List.getElem_toArray, List.getElem_cons_succ, List.getElem_cons_zero, List.setIfInBounds_toArray, List.set_cons_zero, List.set_cons_succ]
              refine wpAnyH_done (by kernel_rfl) ?_ _
              go_wp2_with fail
              go_meet
              exact ⟨g7, k, r, o, rfl, rfl, rfl, QT9.out.wide (Nat.le_refl _) (Nat.le_trans HE9.out HS9.out), H7.out, HB9.out⟩
          · skip
            go_simp
            have hb := below_oneM X0 (.cells #[.slice none 0 0, .slice none 0 0] 27)
            have hn := Blk.new X0 X0.heap.size 27 #[.slice none 0 0, .slice none 0 0] rfl
            obtain ⟨g7, hg⟩ : ∃ g, g = X0.heap.size := ⟨_, rfl⟩
            rw [← hg] at hn
            have HZ7 := Lib.hid (show u17.heap.size ≤ g7 from by rw [hg]; exact HBW.out.size)
            replace QA := Lib.hid (QA.out.below hb); replace QO := Lib.hid (QO.out.below hb); replace HB := Lib.hid (HB.out.trans (hb.mono HB.out.size)); replace HBW := Lib.hid (HBW.out.trans (hb.mono HBW.out.size))
            have Q7 := Lib.hid hn
            clear hn
            refine hK.out _ _ ⟨QA.out, QO.out⟩ (fun hHeld => ?_)
            clear hK K hHeld hb
            try simp only [Act.put, List.getElem_toArray, List.getElem_cons_succ, List.getElem_cons_zero, List.setIfInBounds_toArray, List.set_cons_zero, List.set_cons_succ]
            rw [← hg]
            clear hg
            obtain ⟨X10, hX⟩ : ∃ Y, Y = X0.alloc (.cells #[.slice none 0 0, .slice none 0 0] 27) := ⟨_, rfl⟩
            rw [← hX] at QA QO HB HBW Q7 ⊢
            clear hX
            refine wpAnyH_ready (rs := [1]) (by kernel_rfl) (by simp) ?_
            refine AllReadyH.cons rfl (fun K hK => ?_) AllReadyH.nil
            go_simp
            refine (HT _ (HIN.out.below HB.out)).out.mono ?_
            rintro e X11 ⟨sk, sr, rfl, ho, hb⟩
            replace QA := Lib.hid (QA.out.below hb); replace QO := Lib.hid (QO.out.below hb); replace HB := Lib.hid (HB.out.trans (hb.mono HB.out.size)); replace HBW := Lib.hid (HBW.out.trans (hb.mono HBW.out.size)); replace Q7 := Lib.hid (Q7.out.below hb)
            have QM := Lib.hid ho
            have HQ9 := Lib.hid hb.size
            clear ho
            refine hK.out _ _ ⟨QA.out, QO.out⟩ (fun hHeld => ?_)
            clear hK K hHeld hb
            try simp only [Act.put, List.getElem_toArray, List.getElem_cons_succ, List.getElem_cons_zero, List.setIfInBounds_toArray, List.set_cons_zero, List.set_cons_succ]
            refine wpAnyH_ready (rs := [3]) (by kernel_rfl) (by simp) ?_
            refine AllReadyH.cons rfl (fun K hK => ?_) AllReadyH.nil
            go_simp
            refine (HTO _).out.mono ?_
            rintro e X12 ⟨rfl, hb⟩
            replace QA := Lib.hid (QA.out.below hb); replace QO := Lib.hid (QO.out.below hb); replace HB := Lib.hid (HB.out.trans (hb.mono HB.out.size)); replace HBW := Lib.hid (HBW.out.trans (hb.mono HBW.out.size)); replace QM := Lib.hid (QM.out.below hb); replace Q7 := Lib.hid (Q7.out.below hb); replace HQ9 := Lib.hid (Nat.le_trans HQ9.out hb.size)
            refine hK.out _ _ ⟨QA.out, QO.out⟩ (fun hHeld => ?_)
            clear hK K hHeld hb
            try simp only [Act.put, List.getElem_toArray, List.getElem_cons_succ, List.getElem_cons_zero, List.setIfInBounds_toArray, List.set_cons_zero, List.set_cons_succ]
            refine wpAnyH_ready (rs := [4]) (by kernel_rfl) (by simp) ?_
            refine AllReadyH.cons rfl (fun K hK => ?_) AllReadyH.nil
            go_simp
            refine (HID _ _ _ _ QM.out HQ9.out).out.mono ?_
            rintro e X13 ⟨k, r, o, rfl, hm, hr, ha, hb⟩
            have QT := Lib.hid ((TriE.made hm hr ha).wide HBW.out.size (Nat.le_refl _))
            replace QA := Lib.hid (QA.out.below hb); replace QO := Lib.hid (QO.out.below hb); replace HB := Lib.hid (HB.out.trans (hb.mono HB.out.size)); replace HBW := Lib.hid (HBW.out.trans (hb.mono HBW.out.size)); replace QM := Lib.hid (QM.out.below hb); replace Q7 := Lib.hid (Q7.out.below hb); replace HQ9 := Lib.hid (Nat.le_trans HQ9.out hb.size)
            have HE9 := Lib.hid (Nat.le_refl X13.heap.size)
            clear hm hr ha QM HQ9
            refine hK.out _ _ ⟨QA.out, QO.out⟩ (fun hHeld => ?_)
            clear hK K hHeld hb
            try simp only [Act.put, List.getElem_toArray, List.getElem_cons_succ, List.getElem_cons_zero, List.setIfInBounds_toArray, List.set_cons_zero, List.set_cons_succ]
            refine' wpAnyH_take (i := 5) (v := .tuple #[.agg #[k, r], .int .i64 p.2.1, o]) rfl (by kernel_rfl) (by kernel_rfl) (by kernel_rfl) (fun _ _ _ h => h) (Or.inl ⟨by rfl, fun W h => by go_simp⟩) ⟨QA.out, QO.out⟩ ?_
            try simp only [Act.put, List.getElem_toArray, List.getElem_cons_succ, List.getElem_cons_zero, List.setIfInBounds_toArray, List.set_cons_zero, List.set_cons_succ]
            refine' wpAnyH_take (i := 6) (v := .agg #[k, r]) rfl (by kernel_rfl) (by kernel_rfl) (by kernel_rfl) (fun _ _ _ h => h) (Or.inl ⟨by rfl, fun W h => by go_simp⟩) ⟨QA.out, QO.out⟩ ?_
            try simp only [Act.put, List.getElem_toArray, List.getElem_cons_succ, List.getElem_cons_zero, List.setIfInBounds_toArray, List.set_cons_zero, List.set_cons_succ]
            refine' wpAnyH_take (i := 7) (v := .int .i64 p.2.1) rfl (by kernel_rfl) (by kernel_rfl) (by kernel_rfl) (fun _ _ _ h => h) (Or.inl ⟨by rfl, fun W h => by go_simp⟩) ⟨QA.out, QO.out⟩ ?_
            try simp only [Act.put, List.getElem_toArray, List.getElem_cons_succ, List.getElem_cons_zero, List.setIfInBounds_toArray, List.set_cons_zero, List.set_cons_succ]
            refine' wpAnyH_take (i := 8) (v := o) rfl (by kernel_rfl) (by kernel_rfl) (by kernel_rfl) (fun _ _ _ h => h) (Or.inl ⟨by rfl, fun W h => by go_simp⟩) ⟨QA.out, QO.out⟩ ?_
            try simp only [Act.put, List.getElem_toArray, List.getElem_cons_succ, List.getElem_cons_zero, List.setIfInBounds_toArray, List.set_cons_zero, List.set_cons_succ]
            refine wpAnyH_ready (rs := [10]) (by kernel_rfl) (by simp) ?_
            refine AllReadyH.cons rfl (fun K hK => ?_) AllReadyH.nil
            rw [if_pos (by rfl)]
            have hoc := mo_one2 QT.out.m
            refine wp_store_row 27 _ _ rfl g7 #[k, r] rfl rfl 27 _ Q7.out (by kernel_rfl) rfl hoc ?_
            have H7 := Lib.hid (show Blk (World.setRow _ g7 #[k, r]) g7 27 #[k, r] from setRow_heap _ _ _ _ _ _ Q7.out)
            have hge := HZ7.out
            have QT9 := Lib.hid (QT.out.farT Q7.out (setRow_grown _ g7 #[k, r]))
            have QA9 := Lib.hid (show Blk (World.setRow _ g7 #[k, r]) (w.heap.size + 0) 48 #[vk0, vr0] from (setRow_other _ g7 (w.heap.size + 0) _ (by have := HSZ.out; omega)).trans QA.out)
            have QO9 := Lib.hid (show Blk (World.setRow _ g7 #[k, r]) (w.heap.size + 1) 49 #[.int .i64 a1.kind, .string a1.key, .int .i64 a1.what, .int .i64 a1.val] from (setRow_other _ g7 (w.heap.size + 1) _ (by have := HSZ.out; omega)).trans QO.out)
            have HB9 := Lib.hid (below_setRow' HBW.out hge #[k, r])
            have HS9 := Lib.hid (Nat.le_of_eq (setRow_size X13 g7 #[k, r]).symm)
            refine hK.out _ _ ⟨QA9.out, QO9.out⟩ (fun hHeld => ?_)
            clear hK K hHeld QA QO Q7 QT HB HBW hoc hge
            try simp only [Act.put, List.getElem_toArray, List.getElem_cons_succ, List.getElem_cons_zero, List.setIfInBounds_toArray, List.set_cons_zero, List.set_cons_succ]
            refine' wpAnyH_take (i := 11) (v := .int .i64 p.2.1) rfl (by kernel_rfl) (by kernel_rfl) (by kernel_rfl) (fun _ _ _ h => h) (Or.inl ⟨by rfl, fun W h => by go_simp⟩) ⟨QA9.out, QO9.out⟩ ?_
            try simp only [Act.put, List.getElem_toArray, List.getElem_cons_succ, List.getElem_cons_zero, List.setIfInBounds_toArray, List.set_cons_zero, List.set_cons_succ]
            refine' wpAnyH_take (i := 12) (v := o) rfl (by kernel_rfl) (by kernel_rfl) (by kernel_rfl) (fun _ _ _ h => h) (Or.inl ⟨by rfl, fun W h => by go_simp⟩) ⟨QA9.out, QO9.out⟩ ?_
            try simp only [Act.put, List.getElem_toArray, List.getElem_cons_succ, List.getElem_cons_zero, List.setIfInBounds_toArray, List.set_cons_zero, List.set_cons_succ]
            refine wpAnyH_done (by kernel_rfl) ?_ _
            go_wp2_with fail
            go_meet
            exact ⟨g7, k, r, o, rfl, rfl, rfl, QT9.out.wide (Nat.le_refl _) (Nat.le_trans HE9.out HS9.out), H7.out, HB9.out⟩
        case rest =>
          obtain ⟨gh, kh, rh, oh, rfl, rfl, rfl, ht, hg, hb⟩ := hcut
          obtain ⟨u18, hU⟩ : ∃ Y, Y = wc := ⟨_, rfl⟩
          subst hU
          replace GA := Lib.hid (GA.out.below hb)
          replace GO := Lib.hid (GO.out.below hb)
          replace Tw := Lib.hid (Tw.out.below hb)
          replace Gw := Lib.hid (Gw.out.below hb)
          replace Tg := Lib.hid (Tg.out.below hb)
          replace Gg := Lib.hid (Gg.out.below hb)
          replace B0 := Lib.hid (B0.out.trans (hb.mono B0.out.size))
          replace HSZ := Lib.hid (Nat.le_trans HSZ.out hb.size)
          replace HEw := Lib.hid (Nat.le_trans HEw.out hb.size)
          replace HEg := Lib.hid (Nat.le_trans HEg.out hb.size)
          obtain ⟨bh, hbh⟩ : ∃ b, b = u17.heap.size := ⟨_, rfl⟩
          rw [← hbh] at ht
          obtain ⟨eh, heh⟩ : ∃ b, b = u18.heap.size := ⟨_, rfl⟩
          rw [← heh] at ht
          have HEh := Lib.hid (Nat.le_of_eq heh)
          have Th := Lib.hid ht
          have Gh := Lib.hid hg
          clear ht hg hb hbh heh
          go_wp2_with ((with_reducible show wpList _ _ _ _ _ _); first | refine wpList_load_row rfl 27 _ rfl (gh) rfl 27 #[kh, rh] (0, 0) _ Gh.out hulI rfl (by kernel_rfl) ?_ | refine wpList_load_row rfl 27 _ rfl (gw) rfl 27 #[kw, rw] (0, 0) _ Gw.out hulI rfl (by kernel_rfl) ?_ | refine wpList_load_rowM 27 _ rfl (gh) rfl 27 #[kh, rh] (0, 0) _ Gh.out hulI rfl (by kernel_rfl) rfl ?_ | refine wpList_load_rowM 27 _ rfl (gw) rfl 27 #[kw, rw] (0, 0) _ Gw.out hulI rfl (by kernel_rfl) rfl ?_)
          refine ((HEP _ _ _ _ _ Th.out.m.win Tw.out.m.win).out).mono ?_
          rintro e u19 ⟨rfl, hb⟩
          replace GA := Lib.hid (GA.out.below hb)
          replace GO := Lib.hid (GO.out.below hb)
          replace Tw := Lib.hid (Tw.out.below hb)
          replace Gw := Lib.hid (Gw.out.below hb)
          replace Tg := Lib.hid (Tg.out.below hb)
          replace Gg := Lib.hid (Gg.out.below hb)
          replace Th := Lib.hid (Th.out.below hb)
          replace Gh := Lib.hid (Gh.out.below hb)
          replace B0 := Lib.hid (B0.out.trans (hb.mono B0.out.size))
          replace HSZ := Lib.hid (Nat.le_trans HSZ.out hb.size)
          replace HEw := Lib.hid (Nat.le_trans HEw.out hb.size)
          replace HEg := Lib.hid (Nat.le_trans HEg.out hb.size)
          replace HEh := Lib.hid (Nat.le_trans HEh.out hb.size)
          clear hb
          go_wp2_with fail
          refine ((HER _ _ _ Th.out.r.arg Tw.out.r.arg).out).mono ?_
          rintro e u20 ⟨rfl, hb⟩
          replace GA := Lib.hid (GA.out.below hb)
          replace GO := Lib.hid (GO.out.below hb)
          replace Tw := Lib.hid (Tw.out.below hb)
          replace Gw := Lib.hid (Gw.out.below hb)
          replace Tg := Lib.hid (Tg.out.below hb)
          replace Gg := Lib.hid (Gg.out.below hb)
          replace Th := Lib.hid (Th.out.below hb)
          replace Gh := Lib.hid (Gh.out.below hb)
          replace B0 := Lib.hid (B0.out.trans (hb.mono B0.out.size))
          replace HSZ := Lib.hid (Nat.le_trans HSZ.out hb.size)
          replace HEw := Lib.hid (Nat.le_trans HEw.out hb.size)
          replace HEg := Lib.hid (Nat.le_trans HEg.out hb.size)
          replace HEh := Lib.hid (Nat.le_trans HEh.out hb.size)
          clear hb
          clear Tw Gw Th Gh
          go_wp2_with ((with_reducible show wpList _ _ _ _ _ _); first | refine wpList_load_row rfl 27 _ rfl (gg) rfl 27 #[kg, rg] (0, 0) _ Gg.out hulI rfl (by kernel_rfl) ?_)
          refine ((HHG _ _ _ _ Tg.out.m).out).mono ?_
          rintro e u21 ⟨rfl, hb⟩
          replace GA := Lib.hid (GA.out.below hb)
          replace GO := Lib.hid (GO.out.below hb)
          replace Tg := Lib.hid (Tg.out.below hb)
          replace Gg := Lib.hid (Gg.out.below hb)
          replace B0 := Lib.hid (B0.out.trans (hb.mono B0.out.size))
          replace HSZ := Lib.hid (Nat.le_trans HSZ.out hb.size)
          replace HEw := Lib.hid (Nat.le_trans HEw.out hb.size)
          replace HEg := Lib.hid (Nat.le_trans HEg.out hb.size)
          replace HEh := Lib.hid (Nat.le_trans HEh.out hb.size)
          clear hb
          go_wp2_with fail
          refine ((HHR _ _ _ Tg.out.r).out).mono ?_
          rintro e u22 ⟨rfl, hb⟩
          replace GA := Lib.hid (GA.out.below hb)
          replace GO := Lib.hid (GO.out.below hb)
          replace Tg := Lib.hid (Tg.out.below hb)
          replace Gg := Lib.hid (Gg.out.below hb)
          replace B0 := Lib.hid (B0.out.trans (hb.mono B0.out.size))
          replace HSZ := Lib.hid (Nat.le_trans HSZ.out hb.size)
          replace HEw := Lib.hid (Nat.le_trans HEw.out hb.size)
          replace HEg := Lib.hid (Nat.le_trans HEg.out hb.size)
          replace HEh := Lib.hid (Nat.le_trans HEh.out hb.size)
          clear hb
          go_wp2_with fail
          go_ret
          exact ⟨rfl, B0.out⟩

set_option maxRecDepth 100000 in
theorem lifted (os : Os) (started : os.Started) (H : Type) (enc : TypeId × Value → H) :
    ReturnsInHanded {} Tryz.checked os 5 .any (Rows.fnExactModelDoSpec.pre6 enc Tryz.prog Tryz.f5 Rows.fnExactModelDoRow.domain false) (Rows.fnExactModelDoSpec.post enc Tryz.prog Tryz.f5 false true false false) := by
  refine returnsInHanded_of_change (C := Tryz.checked) own started (by kernel_rfl) Tryz.func5
    (ChangeSpec.witness6 (enc := enc) (C := Tryz.checked) false ⟨#[], #[.agg #[.slice none 0 0, .slice none 0 0], .agg #[.int .i64 0, .string ByteArray.empty, .int .i64 0, .int .i64 0]], []⟩ 8 (by kernel_rfl) (by kernel_rfl) (by kernel_rfl) (by kernel_rfl)) ?_
  intro W base args ds gs before hval0 hW hcnd _
  have hval : ∀ (j : Nat) t v, Tryz.f5.params[j]? = some t → args[j]? = some v → Value.okWide Tryz.prog W .any base t v := hval0
  have hW' := hW
  obtain ⟨p, q, hA0, hV, rfl, hfz, hnd⟩ := hW
  have hA : DataW.TrodAll enc Tryz.prog W 0 (fun _ => true) true Tryz.f5.params.toList args.toList ds p := hA0
  rw [Tryz.params5] at hA hval
  obtain ⟨v0, vs0, d0, ds0, p0, q0, hargs, rfl, rfl, h0, r0⟩ := trodAll_cons hA
  obtain ⟨v1, vs1, d1, ds1, p1, q1, rfl, rfl, rfl, h1, r1⟩ := trodAll_cons r0
  obtain ⟨rfl, rfl, rfl⟩ := trodAll_nil r1
  obtain rfl : args = #[v0, v1] := by cases args; simp_all
  obtain ⟨rfl, rfl⟩ := trodVars_none hV
  have k0 := h0
  have lt0 : ∀ x ∈ p0, x.block < W.heap.size := by obtain ⟨m, hm⟩ := k0; exact DataW.trod_lt m _ _ _ hm
  obtain ⟨z0, vk0, vr0, rfl, w0, f0⟩ := open_model (hval 0 48 v0 rfl rfl) h0
  have k1 := h1
  have lt1 : ∀ x ∈ p1, x.block < W.heap.size := by obtain ⟨m, hm⟩ := k1; exact DataW.trod_lt m _ _ _ hm
  obtain ⟨a1, rfl, w1⟩ := open_op (hval 1 49 v1 rfl rfl) h1
  clear hA0 hval0
  refine (walk W z0 vk0 vr0 w0 f0 a1 w1).mono fun e W' ⟨he, bel⟩ => ?_
  subst he
  exact ⟨_, rfl, _, _, _, [], _, [], hW', trodAll_mk1 (shut_bool Tryz.underlying4 _), (trodAll_cons_mk (Below.trod laidOut (by kernel_rfl) (of_decide_eq_true (by kernel_rfl)) k0 bel lt0) (trodAll_cons_mk (Below.trod laidOut (by kernel_rfl) (of_decide_eq_true (by kernel_rfl)) k1 bel lt1) trodAll_mk0)), rfl, bel.frame _, fun h => by cases h⟩

theorem over : Rows.fnExactModelDoRow.holds Tryz.pinned (OpenSpec.ofChange Rows.fnExactModelDoSpec) :=
  OpenClaim.holds_of_wide 5 Tryz.f5 rfl rfl rfl rfl rfl rfl rfl ⟨rfl, rfl, rfl, rfl, rfl⟩ rfl rfl rfl rfl rfl (by kernel_rfl) Tryz.func5 (by kernel_rfl)
    (of_decide_eq_true (by kernel_rfl)) (by unfold Func.isWrapper; first | (rw [if_pos (by decide +kernel)]; kernel_rfl) | (rw [if_neg (by decide +kernel)]; exact ⟨rfl, rfl⟩))
    (fun os started H enc _ => lifted os started H enc)

end Go.Proofs.YtbhhhakfjmaglaaGreat.fnExactModelDo
namespace Go.Proofs.YtbhhhakfjmaglaaGreat
theorem fnExactModelDo_holds : Rows.FnExactModelDoSaid := fnExactModelDo.over
end Go.Proofs.YtbhhhakfjmaglaaGreat
