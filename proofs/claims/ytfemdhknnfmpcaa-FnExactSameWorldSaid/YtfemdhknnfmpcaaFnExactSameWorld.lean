/-
  FnExactSameWorld: what the function answers is what its model answers, at every argument: the law's call returns true and each argument reads afterwards as before, without any condition on the arguments.
-/
import Derived.Test.YtfemdhknnfmpcaaRows
import Derived.Test.YtfemdhknnfmpcaaSamM
import Derived.Test.YtfemdhknnfmpcaaSamW
import Derived.Test.YtfemdhknnfmpcaaSamL
import Derived.Test.YtfemdhknnfmpcaaWorE
import Derived.Test.YtfemdhknnfmpcaaWorZ
import Derived.Test.YtfemdhknnfmpcaaOpen
import Derived.Test.YtfemdhknnfmpcaaSysL
import Derived.Test.YtfemdhknnfmpcaaJobA
import Derived.WalkKit
import Derived.ProofKit
import Derived.OpenShut
import Derived.ShutString
import Derived.ChangeOld
import Derived.Below
namespace Go.Proofs.Ytfemdhknnfmpcaa.fnExactSameWorld
open Go.ChangeShapes Go.WideShapes Go.ChangeAt Go.RowKit Go.Proofs.Ytfemdhknnfmpcaa.M
open Go.ChangeMaps (open_string shut_string)
set_option linter.unusedVariables false
set_option linter.unusedSimpArgs false

theorem own : ownKnob Try.prog.godebug = none := by kernel_rfl
theorem laidOut : laidOutB Try.prog = true := by kernel_rfl

set_option maxRecDepth 100000 in
set_option maxHeartbeats 4000000 in
theorem walk (w : World) (z0 : S) (vc0 vj0 vt0 vl0 : Value) (w0 : WorIn w z0 vc0 vj0 vt0 vl0) (f0 : z0.Fit) (z1 : S) (vc1 vj1 vt1 vl1 : Value) (w1 : WorIn w z1 vc1 vj1 vt1 vl1) (f1 : z1.Fit) :
    Calls Try.prog 10 #[.agg (worVals z0 vc0 vj0 vt0 vl0), .agg (worVals z1 vc1 vj1 vt1 vl1)] w fun e w' => e = .returned (.bool true) ∧ Below w.heap.size w w' := by
  have HIN0 := Lib.hid w0
  have HIN1 := Lib.hid w1
  have HZ0 := fun W (h : WorIn W z0 vc0 vj0 vt0 vl0) => Lib.hid (szWorld_any W z0 vc0 vj0 vt0 vl0 1048576 h (fitS_w f0) (by decide) (by decide))
  have H1 := fun W a b c d a' b' c' d' h k => Lib.hid (sSameWorld_any W z0 z1 a b c d a' b' c' d' h k)
  have H2 := fun W a b c d a' b' c' d' h k => Lib.hid (iSameWorld_any W z0 z1 a b c d a' b' c' d' h k f0 f1)
  generalize sameSV z0 z1 = r at *
  have HE0 := fun W a b c d a' b' c' d' h k => Lib.hid (eqWorld_same W z0 a b c d a' b' c' d' h k)
  have HE1 := fun W a b c d a' b' c' d' h k => Lib.hid (eqWorld_same W z1 a b c d a' b' c' d' h k)
  have hulL := Try.underlying57
  have hulI := Try.underlying49
  have hb00 : Below w.heap.size w ((w.alloc (.cells (worVals z0 vc0 vj0 vt0 vl0) 57)).alloc (.cells (worVals z1 vc1 vj1 vt1 vl1) 57)) := ((Below.refl _ _).alloc (Nat.le_refl _) _).alloc (by simp [go_sem]) _
  have HL0 := Lib.hid (show Law2 w w.heap.size (w.heap.size + 1) z0 z1 vc0 vj0 vt0 vl0 vc1 vj1 vt1 vl1 ((w.alloc (.cells (worVals z0 vc0 vj0 vt0 vl0) 57)).alloc (.cells (worVals z1 vc1 vj1 vt1 vl1) 57)) from ⟨(Blk.new w _ _ _ rfl).alloc _, Blk.new _ _ _ _ (by simp [go_sem]), HIN0.out.below hb00, HIN1.out.below hb00, hb00⟩)
  clear hb00
  by_cases hneg0 : szWorV z0 1048576 < 0
  · have d0 : decide (szWorV z0 1048576 < 0) = true := decide_eq_true hneg0
    clear w0 w1
    go_enter Try.func10, Try.ntmps10
    have HL := HL0
    go_wp2_with ((with_reducible show wpList _ _ _ _ _ _); refine wpList_load_row rfl 57 _ rfl w.heap.size rfl 57 (worVals z0 vc0 vj0 vt0 vl0) (0, 0) _ HL.out.g0 hulL rfl (by kernel_rfl) ?_)
    refine ((HZ0 _ HL.out.a0).out).mono ?_
    rintro e U ⟨rfl, hb⟩
    replace HL := Lib.hid (HL.out.next hb)
    clear hb
    go_wp2_with fail
    go_ret
    exact ⟨rfl, HL.out.b⟩
  · have d0 : decide (szWorV z0 1048576 < 0) = false := decide_eq_false hneg0
    have hsm0 := (szWor_small (s := z0) (l := 1048576) (by omega) (by decide)).1
    have hle0 := (szWor_small (s := z0) (l := 1048576) (by omega) (by decide)).2
    generalize szWorV z0 1048576 = sz0 at *
    have HZ1 := fun W (h : WorIn W z1 vc1 vj1 vt1 vl1) => Lib.hid (szWorld_any W z1 vc1 vj1 vt1 vl1 sz0 h (fitS_w f1) (by omega) (by omega))
    by_cases hneg1 : szWorV z1 sz0 < 0
    · have d1 : decide (szWorV z1 sz0 < 0) = true := decide_eq_true hneg1
      clear w0 w1
      go_enter Try.func10, Try.ntmps10
      have HL := HL0
      go_wp2_with ((with_reducible show wpList _ _ _ _ _ _); refine wpList_load_row rfl 57 _ rfl w.heap.size rfl 57 (worVals z0 vc0 vj0 vt0 vl0) (0, 0) _ HL.out.g0 hulL rfl (by kernel_rfl) ?_)
      refine ((HZ0 _ HL.out.a0).out).mono ?_
      rintro e U ⟨rfl, hb⟩
      replace HL := Lib.hid (HL.out.next hb)
      clear hb
      go_wp2_with ((with_reducible show wpList _ _ _ _ _ _); refine wpList_load_row rfl 57 _ rfl (w.heap.size + 1) rfl 57 (worVals z1 vc1 vj1 vt1 vl1) (0, 0) _ HL.out.g1 hulL rfl (by kernel_rfl) ?_)
      refine ((HZ1 _ HL.out.a1).out).mono ?_
      rintro e U ⟨rfl, hb⟩
      replace HL := Lib.hid (HL.out.next hb)
      clear hb
      go_wp2_with fail
      go_ret
      exact ⟨rfl, HL.out.b⟩
    · have d1 : decide (szWorV z1 sz0 < 0) = false := decide_eq_false hneg1
      have hsm1 := (szWor_small (s := z1) (l := sz0) (by omega) (by omega)).1
      clear w0 w1 hle0
      generalize szWorV z1 sz0 = sz1 at *
      go_enter Try.func10, Try.ntmps10
      have HL := HL0
      go_wp2_with ((with_reducible show wpList _ _ _ _ _ _); refine wpList_load_row rfl 57 _ rfl w.heap.size rfl 57 (worVals z0 vc0 vj0 vt0 vl0) (0, 0) _ HL.out.g0 hulL rfl (by kernel_rfl) ?_)
      refine ((HZ0 _ HL.out.a0).out).mono ?_
      rintro e U ⟨rfl, hb⟩
      replace HL := Lib.hid (HL.out.next hb)
      clear hb
      go_wp2_with ((with_reducible show wpList _ _ _ _ _ _); refine wpList_load_row rfl 57 _ rfl (w.heap.size + 1) rfl 57 (worVals z1 vc1 vj1 vt1 vl1) (0, 0) _ HL.out.g1 hulL rfl (by kernel_rfl) ?_)
      refine ((HZ1 _ HL.out.a1).out).mono ?_
      rintro e U ⟨rfl, hb⟩
      replace HL := Lib.hid (HL.out.next hb)
      clear hb
      go_upto_region 8 with fail
      refine wp_region_held_drew (S := fun w' => Law2 w w.heap.size (w.heap.size + 1) z0 z1 vc0 vj0 vt0 vl0 vc1 vj1 vt1 vl1 w') (by kernel_rfl) (HL.out.next (below_drew _ _)) (fun hHeld => ?_)
      refine' wpAnyH_take (i := 0) (v := _) rfl (by kernel_rfl) (by kernel_rfl) (by kernel_rfl) (fun _ _ _ h => h) (yieldsIf_load_mid (by rfl) 57 _ rfl w.heap.size 0 rfl ((worVals z0 vc0 vj0 vt0 vl0)).toList _ (fun w h => h.g0.range) hulL rfl (by kernel_rfl)) hHeld ?_
      try simp only [Act.put, List.setIfInBounds_toArray, List.set_cons_zero, List.set_cons_succ]
      refine' wpAnyH_take (i := 2) (v := _) rfl (by kernel_rfl) (by kernel_rfl) (by kernel_rfl) (fun _ _ _ h => h) (yieldsIf_load_mid (by rfl) 57 _ rfl (w.heap.size + 1) 0 rfl ((worVals z1 vc1 vj1 vt1 vl1)).toList _ (fun w h => h.g1.range) hulL rfl (by kernel_rfl)) hHeld ?_
      try simp only [Act.put, List.setIfInBounds_toArray, List.set_cons_zero, List.set_cons_succ]
      refine wpAnyH_ready (rs := [1]) (by kernel_rfl) (by simp) ?_
      refine AllReadyH.cons rfl (fun K hK => ?_) AllReadyH.nil
      go_simp
      refine (toWorld_any _ z0 vc0 vj0 vt0 vl0 hHeld.a0 hsm0).mono ?_
      rintro e V ⟨s0c, s0j, s0t, s0l, E1, E2, E3, rfl, ho, hb⟩
      refine hK.out _ _ (hHeld.next hb) (fun hHeld2 => ?_)
      have O0 := Lib.hid (worOwn_in ho)
      clear ho hb
      clear hK K hHeld
      have hHeld := hHeld2
      clear hHeld2
      try simp only [Act.put, List.setIfInBounds_toArray, List.set_cons_zero, List.set_cons_succ]
      refine wpAnyH_ready (rs := [3]) (by kernel_rfl) (by simp) ?_
      refine AllReadyH.cons rfl (fun K hK => ?_) AllReadyH.nil
      go_simp
      refine (toWorld_any _ z1 vc1 vj1 vt1 vl1 hHeld.a1 hsm1).mono ?_
      rintro e V ⟨s1c, s1j, s1t, s1l, E1, E2, E3, rfl, ho, hb⟩
      refine hK.out _ _ (hHeld.next hb) (fun hHeld2 => ?_)
      replace O0 := Lib.hid (O0.out.below hb)
      have O1 := Lib.hid (worOwn_in ho)
      clear ho hb
      clear hK K hHeld
      have hHeld := hHeld2
      clear hHeld2
      try simp only [Act.put, List.setIfInBounds_toArray, List.set_cons_zero, List.set_cons_succ]
      refine wpAnyH_ready (rs := [4]) (by kernel_rfl) (by simp) ?_
      refine AllReadyH.cons rfl (fun K hK => ?_) AllReadyH.nil
      go_simp
      refine ((H1 _ _ _ _ _ _ _ _ _ O0.out O1.out).out).mono ?_
      rintro e V ⟨rfl, hb⟩
      refine hK.out _ _ (hHeld.next hb) (fun hHeld2 => ?_)
      clear O0 O1 hb
      clear hK K hHeld
      have hHeld := hHeld2
      clear hHeld2
      try simp only [Act.put, List.setIfInBounds_toArray, List.set_cons_zero, List.set_cons_succ]
      refine wpAnyH_ready (rs := [5]) (by kernel_rfl) (by simp) ?_
      refine AllReadyH.cons rfl (fun K hK => ?_) AllReadyH.nil
      go_simp
      refine hK.out _ _ hHeld (fun hHeld2 => ?_)
      clear hK K
      try simp only [Act.put, List.setIfInBounds_toArray, List.set_cons_zero, List.set_cons_succ]
      refine wpAnyH_done (by kernel_rfl) ?_ _
      have HL := Lib.hid hHeld
      clear hHeld hHeld2
      go_wp2_with ((with_reducible show wpList _ _ _ _ _ _); refine wpList_load_row rfl 57 _ rfl w.heap.size rfl 57 (worVals z0 vc0 vj0 vt0 vl0) (0, 0) _ HL.out.g0 hulL rfl (by kernel_rfl) ?_)
      refine (toWorld_any _ z0 vc0 vj0 vt0 vl0 HL.out.a0 hsm0).mono ?_
      rintro e U ⟨x0c, x0j, x0t, x0l, E1, E2, E3, rfl, ho, hb⟩
      replace HL := Lib.hid (HL.out.next hb)
      have hx := worOwn_in ho
      have hoc := wor_one U z0 _ _ _ _ hx
      have HX := Lib.hid hx
      clear hx ho
      clear hb
      go_upto_region 10 with ((with_reducible show wpList _ _ _ _ _ _); refine wpList_store_row rfl 49 _ _ rfl U.heap.size (worVals z0 x0c x0j x0t x0l) rfl rfl 49 _ (Blk.new U U.heap.size 49 #[.slice none 0 0, .slice none 0 0, .slice none 0 0, .slice none 0 0, .int .i64 0, .int .i64 0] rfl) (by kernel_rfl) rfl hoc ?_)
      obtain ⟨gx, hg⟩ : ∃ g, g = U.heap.size := ⟨_, rfl⟩
      refine wp_gen (fun X => Law2 w w.heap.size (w.heap.size + 1) z0 z1 vc0 vj0 vt0 vl0 vc1 vj1 vt1 vl1 X ∧ LawX gx z0 x0c x0j x0t x0l X) ?_ ?_
      · have hbx := below_setRow' (below_oneL U (.cells #[.slice none 0 0, .slice none 0 0, .slice none 0 0, .slice none 0 0, .int .i64 0, .int .i64 0] 49)) (Nat.le_refl U.heap.size) (worVals z0 x0c x0j x0t x0l)
        subst hg
        exact ⟨HL.out.next hbx, ⟨setRow_heap _ _ _ _ _ _ (Blk.new U U.heap.size 49 #[.slice none 0 0, .slice none 0 0, .slice none 0 0, .slice none 0 0, .int .i64 0, .int .i64 0] rfl), HX.out.below hbx⟩⟩
      rintro X ⟨hl, hx⟩
      replace HL := Lib.hid hl
      have HX0 := Lib.hid hx
      clear hl hx HX hoc
      rw [← hg]
      clear hg
      clear U
      go_wp2_with ((with_reducible show wpList _ _ _ _ _ _); refine wpList_load_row rfl 57 _ rfl (w.heap.size + 1) rfl 57 (worVals z1 vc1 vj1 vt1 vl1) (0, 0) _ HL.out.g1 hulL rfl (by kernel_rfl) ?_)
      refine (toWorld_any _ z1 vc1 vj1 vt1 vl1 HL.out.a1 hsm1).mono ?_
      rintro e U ⟨x1c, x1j, x1t, x1l, E1, E2, E3, rfl, ho, hb⟩
      replace HL := Lib.hid (HL.out.next hb)
      have hx := worOwn_in ho
      have hoc := wor_one U z1 _ _ _ _ hx
      have HX := Lib.hid hx
      clear hx ho
      replace HX0 := Lib.hid (HX0.out.next hb)
      clear hb
      go_upto_region 11 with ((with_reducible show wpList _ _ _ _ _ _); refine wpList_store_row rfl 49 _ _ rfl U.heap.size (worVals z1 x1c x1j x1t x1l) rfl rfl 49 _ (Blk.new U U.heap.size 49 #[.slice none 0 0, .slice none 0 0, .slice none 0 0, .slice none 0 0, .int .i64 0, .int .i64 0] rfl) (by kernel_rfl) rfl hoc ?_)
      obtain ⟨gy, hg⟩ : ∃ g, g = U.heap.size := ⟨_, rfl⟩
      refine wp_gen (fun X => Law2 w w.heap.size (w.heap.size + 1) z0 z1 vc0 vj0 vt0 vl0 vc1 vj1 vt1 vl1 X ∧ LawX gy z1 x1c x1j x1t x1l X ∧ LawX gx z0 x0c x0j x0t x0l X) ?_ ?_
      · have hbx := below_setRow' (below_oneL U (.cells #[.slice none 0 0, .slice none 0 0, .slice none 0 0, .slice none 0 0, .int .i64 0, .int .i64 0] 49)) (Nat.le_refl U.heap.size) (worVals z1 x1c x1j x1t x1l)
        subst hg
        exact ⟨HL.out.next hbx, ⟨setRow_heap _ _ _ _ _ _ (Blk.new U U.heap.size 49 #[.slice none 0 0, .slice none 0 0, .slice none 0 0, .slice none 0 0, .int .i64 0, .int .i64 0] rfl), HX.out.below hbx⟩, HX0.out.next hbx⟩
      rintro X ⟨hl, hx, hx0⟩
      replace HL := Lib.hid hl
      have HX1 := Lib.hid hx
      replace HX0 := Lib.hid hx0
      clear hl hx HX hoc hx0
      rw [← hg]
      clear hg
      clear U
      go_wp2_with ((with_reducible show wpList _ _ _ _ _ _); first | refine wpList_load_row rfl 49 _ rfl gx rfl 49 (worVals z0 x0c x0j x0t x0l) (0, 0) _ HX0.out.y hulI rfl (by kernel_rfl) ?_ | refine wpList_load_row rfl 49 _ rfl gy rfl 49 (worVals z1 x1c x1j x1t x1l) (0, 0) _ HX1.out.y hulI rfl (by kernel_rfl) ?_)
      refine (H2 _ _ _ _ _ _ _ _ _ HX0.out.x HX1.out.x).out.mono ?_
      rintro e U ⟨rfl, hb⟩
      replace HL := Lib.hid (HL.out.next hb)
      replace HX0 := Lib.hid (HX0.out.next hb)
      replace HX1 := Lib.hid (HX1.out.next hb)
      clear hb
      go_upto_region 14 with fail
      refine wp_region_held_drew (S := (fun w' => Law2 w w.heap.size (w.heap.size + 1) z0 z1 vc0 vj0 vt0 vl0 vc1 vj1 vt1 vl1 w' ∧ LawX gx z0 x0c x0j x0t x0l w' ∧ LawX gy z1 x1c x1j x1t x1l w')) (by kernel_rfl) ⟨HL.out.next (below_drew _ _), HX0.out.next (below_drew _ _), HX1.out.next (below_drew _ _)⟩ (fun hHeld => ?_)
      clear HL HX0 HX1
      refine' wpAnyH_take (i := 0) (v := _) rfl (by kernel_rfl) (by kernel_rfl) (by kernel_rfl) (fun _ _ _ h => h) (yieldsIf_load_mid (by rfl) 49 _ rfl gx 0 rfl ((worVals z0 x0c x0j x0t x0l)).toList _ (fun w h => h.2.1.y.range) hulI rfl (by kernel_rfl)) hHeld ?_
      try simp only [Act.put, List.setIfInBounds_toArray, List.set_cons_zero, List.set_cons_succ]
      refine' wpAnyH_take (i := 1) (v := _) rfl (by kernel_rfl) (by kernel_rfl) (by kernel_rfl) (fun _ _ _ h => h) (yieldsIf_load_mid (by rfl) 57 _ rfl w.heap.size 0 rfl ((worVals z0 vc0 vj0 vt0 vl0)).toList _ (fun w h => h.1.g0.range) hulL rfl (by kernel_rfl)) hHeld ?_
      try simp only [Act.put, List.setIfInBounds_toArray, List.set_cons_zero, List.set_cons_succ]
      refine wpAnyH_ready (rs := [2]) (by kernel_rfl) (by simp) ?_
      refine AllReadyH.cons rfl (fun K hK => ?_) AllReadyH.nil
      go_simp
      refine (toWorld_any _ z0 vc0 vj0 vt0 vl0 hHeld.1.a0 hsm0).mono ?_
      rintro e V ⟨yc, yj, yt, yl, E1, E2, E3, rfl, ho, hb⟩
      refine hK.out _ _ ⟨hHeld.1.next hb, hHeld.2.1.next hb, hHeld.2.2.next hb⟩ (fun hHeld2 => ?_)
      have Oy := Lib.hid (worOwn_in ho)
      clear hK K hHeld hb ho
      have hHeld := hHeld2
      clear hHeld2
      try simp only [Act.put, List.setIfInBounds_toArray, List.set_cons_zero, List.set_cons_succ]
      refine wpAnyH_ready (rs := [3]) (by kernel_rfl) (by simp) ?_
      refine AllReadyH.cons rfl (fun K hK => ?_) AllReadyH.nil
      go_simp
      refine (HE0 _ _ _ _ _ _ _ _ _ hHeld.2.1.x Oy.out).out.mono ?_
      rintro e V3 ⟨rfl, hb⟩
      refine hK.out _ _ ⟨hHeld.1.next hb, hHeld.2.1.next hb, hHeld.2.2.next hb⟩ (fun hHeld2 => ?_)
      clear hK K hHeld hb Oy
      have hHeld := hHeld2
      clear hHeld2
      try simp only [Act.put, List.setIfInBounds_toArray, List.set_cons_zero, List.set_cons_succ]
      refine wpAnyH_ready (rs := [4]) (by kernel_rfl) (by simp) ?_
      refine AllReadyH.cons rfl (fun K hK => ?_) AllReadyH.nil
      go_simp
      refine hK.out _ _ hHeld (fun hHeld2 => ?_)
      clear hK K hHeld2
      try simp only [Act.put, List.setIfInBounds_toArray, List.set_cons_zero, List.set_cons_succ]
      refine wpAnyH_done (by kernel_rfl) ?_ _
      have HL := Lib.hid hHeld.1
      have HX0 := Lib.hid hHeld.2.1
      have HX1 := Lib.hid hHeld.2.2
      clear hHeld
      go_upto_region 16 with fail
      refine wp_region_held_drew (S := (fun w' => Law2 w w.heap.size (w.heap.size + 1) z0 z1 vc0 vj0 vt0 vl0 vc1 vj1 vt1 vl1 w' ∧ LawX gx z0 x0c x0j x0t x0l w' ∧ LawX gy z1 x1c x1j x1t x1l w')) (by kernel_rfl) ⟨HL.out.next (below_drew _ _), HX0.out.next (below_drew _ _), HX1.out.next (below_drew _ _)⟩ (fun hHeld => ?_)
      clear HL HX0 HX1
      refine' wpAnyH_take (i := 0) (v := _) rfl (by kernel_rfl) (by kernel_rfl) (by kernel_rfl) (fun _ _ _ h => h) (yieldsIf_load_mid (by rfl) 49 _ rfl gy 0 rfl ((worVals z1 x1c x1j x1t x1l)).toList _ (fun w h => h.2.2.y.range) hulI rfl (by kernel_rfl)) hHeld ?_
      try simp only [Act.put, List.setIfInBounds_toArray, List.set_cons_zero, List.set_cons_succ]
      refine' wpAnyH_take (i := 1) (v := _) rfl (by kernel_rfl) (by kernel_rfl) (by kernel_rfl) (fun _ _ _ h => h) (yieldsIf_load_mid (by rfl) 57 _ rfl (w.heap.size + 1) 0 rfl ((worVals z1 vc1 vj1 vt1 vl1)).toList _ (fun w h => h.1.g1.range) hulL rfl (by kernel_rfl)) hHeld ?_
      try simp only [Act.put, List.setIfInBounds_toArray, List.set_cons_zero, List.set_cons_succ]
      refine wpAnyH_ready (rs := [2]) (by kernel_rfl) (by simp) ?_
      refine AllReadyH.cons rfl (fun K hK => ?_) AllReadyH.nil
      go_simp
      refine (toWorld_any _ z1 vc1 vj1 vt1 vl1 hHeld.1.a1 hsm1).mono ?_
      rintro e V ⟨yc, yj, yt, yl, E1, E2, E3, rfl, ho, hb⟩
      refine hK.out _ _ ⟨hHeld.1.next hb, hHeld.2.1.next hb, hHeld.2.2.next hb⟩ (fun hHeld2 => ?_)
      have Oy := Lib.hid (worOwn_in ho)
      clear hK K hHeld hb ho
      have hHeld := hHeld2
      clear hHeld2
      try simp only [Act.put, List.setIfInBounds_toArray, List.set_cons_zero, List.set_cons_succ]
      refine wpAnyH_ready (rs := [3]) (by kernel_rfl) (by simp) ?_
      refine AllReadyH.cons rfl (fun K hK => ?_) AllReadyH.nil
      go_simp
      refine (HE1 _ _ _ _ _ _ _ _ _ hHeld.2.2.x Oy.out).out.mono ?_
      rintro e V3 ⟨rfl, hb⟩
      refine hK.out _ _ ⟨hHeld.1.next hb, hHeld.2.1.next hb, hHeld.2.2.next hb⟩ (fun hHeld2 => ?_)
      clear hK K hHeld hb Oy
      have hHeld := hHeld2
      clear hHeld2
      try simp only [Act.put, List.setIfInBounds_toArray, List.set_cons_zero, List.set_cons_succ]
      refine wpAnyH_ready (rs := [4]) (by kernel_rfl) (by simp) ?_
      refine AllReadyH.cons rfl (fun K hK => ?_) AllReadyH.nil
      go_simp
      refine hK.out _ _ hHeld (fun hHeld2 => ?_)
      clear hK K hHeld2
      try simp only [Act.put, List.setIfInBounds_toArray, List.set_cons_zero, List.set_cons_succ]
      refine wpAnyH_done (by kernel_rfl) ?_ _
      have HL := Lib.hid hHeld.1
      have HX0 := Lib.hid hHeld.2.1
      have HX1 := Lib.hid hHeld.2.2
      clear hHeld
      go_wp2_with fail
      go_ret
      exact ⟨rfl, HL.out.b⟩

set_option maxRecDepth 100000 in
theorem lifted (os : Os) (started : os.Started) (H : Type) (enc : TypeId × Value → H) :
    ReturnsInHanded {} Try.checked os 10 .any (Rows.fnExactSameWorldSpec.pre6 enc Try.prog Try.f10 Rows.fnExactSameWorldRow.domain false) (Rows.fnExactSameWorldSpec.post enc Try.prog Try.f10 false true false false) := by
  refine returnsInHanded_of_change (C := Try.checked) own started (by kernel_rfl) Try.func10
    (ChangeSpec.witness6 (enc := enc) (C := Try.checked) false ⟨#[], #[.agg #[.slice none 0 0, .slice none 0 0, .slice none 0 0, .slice none 0 0, .int .i64 0, .int .i64 0], .agg #[.slice none 0 0, .slice none 0 0, .slice none 0 0, .slice none 0 0, .int .i64 0, .int .i64 0]], []⟩ 8 (by kernel_rfl) (by kernel_rfl) (by kernel_rfl) (by kernel_rfl)) ?_
  intro W base args ds gs before hval0 hW hcnd _
  have hval : ∀ (j : Nat) t v, Try.f10.params[j]? = some t → args[j]? = some v → Value.okWide Try.prog W .any base t v := hval0
  have hW' := hW
  obtain ⟨p, q, hA0, hV, rfl, hfz, hnd⟩ := hW
  have hA : DataW.TrodAll enc Try.prog W 0 (fun _ => true) true Try.f10.params.toList args.toList ds p := hA0
  rw [Try.params10] at hA hval
  obtain ⟨v0, vs0, d0, ds0, p0, q0, hargs, rfl, rfl, h0, r0⟩ := trodAll_cons hA
  obtain ⟨v1, vs1, d1, ds1, p1, q1, rfl, rfl, rfl, h1, r1⟩ := trodAll_cons r0
  obtain ⟨rfl, rfl, rfl⟩ := trodAll_nil r1
  obtain rfl : args = #[v0, v1] := by cases args; simp_all
  obtain ⟨rfl, rfl⟩ := trodVars_none hV
  have k0 := h0
  have lt0 : ∀ x ∈ p0, x.block < W.heap.size := by obtain ⟨m, hm⟩ := k0; exact DataW.trod_lt m _ _ _ hm
  obtain ⟨z0, vc0, vj0, vt0, vl0, rfl, w0, f0⟩ := open_world (hval 0 57 v0 rfl rfl) h0
  have k1 := h1
  have lt1 : ∀ x ∈ p1, x.block < W.heap.size := by obtain ⟨m, hm⟩ := k1; exact DataW.trod_lt m _ _ _ hm
  obtain ⟨z1, vc1, vj1, vt1, vl1, rfl, w1, f1⟩ := open_world (hval 1 57 v1 rfl rfl) h1
  clear hA0 hval0
  refine (walk W z0 vc0 vj0 vt0 vl0 w0 f0 z1 vc1 vj1 vt1 vl1 w1 f1).mono fun e W' ⟨he, bel⟩ => ?_
  subst he
  exact ⟨_, rfl, _, _, _, [], _, [], hW', trodAll_mk1 (shut_bool Try.underlying4 _), (trodAll_cons_mk (Below.trod laidOut (by kernel_rfl) (of_decide_eq_true (by kernel_rfl)) k0 bel lt0) (trodAll_cons_mk (Below.trod laidOut (by kernel_rfl) (of_decide_eq_true (by kernel_rfl)) k1 bel lt1) trodAll_mk0)), rfl, bel.frame _, fun h => by cases h⟩

theorem over : Rows.fnExactSameWorldRow.holds Try.pinned (OpenSpec.ofChange Rows.fnExactSameWorldSpec) :=
  OpenClaim.holds_of_wide 10 Try.f10 rfl rfl rfl rfl rfl rfl rfl ⟨rfl, rfl, rfl, rfl, rfl⟩ rfl rfl rfl rfl rfl (by kernel_rfl) Try.func10 (by kernel_rfl)
    (of_decide_eq_true (by kernel_rfl)) (by unfold Func.isWrapper; first | (rw [if_pos (by decide +kernel)]; kernel_rfl) | (rw [if_neg (by decide +kernel)]; exact ⟨rfl, rfl⟩))
    (fun os started H enc _ => lifted os started H enc)

end Go.Proofs.Ytfemdhknnfmpcaa.fnExactSameWorld
namespace Go.Proofs.Ytfemdhknnfmpcaa
theorem fnExactSameWorld_holds : Rows.FnExactSameWorldSaid := fnExactSameWorld.over
end Go.Proofs.Ytfemdhknnfmpcaa
