/-
  FnExactSameModel: what the function answers is what its model answers, at every argument: the law's call returns true and each argument reads afterwards as before, without any condition on the arguments.
-/
import Derived.Test.YtfhkfhpbalbgkabRows
import Derived.Test.YtfhkfhpbalbgkabModQ
import Derived.Test.YtfhkfhpbalbgkabModL
import Derived.Test.YtfhkfhpbalbgkabModT
import Derived.WalkKit
import Derived.ProofKit
import Derived.OpenShut
import Derived.ShutString
import Derived.ChangeOld
import Derived.Below
namespace Go.Proofs.Ytfhkfhpbalbgkab.fnExactSameModel
open Go.ChangeShapes Go.WideShapes Go.ChangeAt Go.RowKit Go.Proofs.Ytfhkfhpbalbgkab.M
open Go.ChangeMaps (open_string shut_string)
set_option linter.unusedVariables false
set_option linter.unusedSimpArgs false

theorem own : ownKnob Try.prog.godebug = none := by kernel_rfl
theorem laidOut : laidOutB Try.prog = true := by kernel_rfl

set_option maxRecDepth 100000 in
set_option maxHeartbeats 4000000 in
theorem walk (w : World) (z0 : Mo) (vk0 vr0 : Value) (w0 : MoIn w z0 vk0 vr0) (f0 : z0.Fit) (z1 : Mo) (vk1 vr1 : Value) (w1 : MoIn w z1 vk1 vr1) (f1 : z1.Fit) :
    Calls Try.prog 5 #[.agg #[vk0, vr0], .agg #[vk1, vr1]] w fun e w' => e = .returned (.bool true) ∧ Below w.heap.size w w' := by
  have hulL := Try.underlying25
  have hulI := Try.underlying31
  have HIN0 := Lib.hid w0
  have HIN1 := Lib.hid w1
  have H1 := fun W a b c d (h : MoIn W z0 a b) (q : MoIn W z1 c d) => Lib.hid (sSameModel_any W z0 z1 a b c d h q)
  have H2 := fun W a b c d (h : MoIn W z0 a b) (q : MoIn W z1 c d) => Lib.hid (iSameModel_any W z0 z1 a b c d h q f0 f1)
  have HZ0 := fun W (h : MoIn W z0 vk0 vr0) => Lib.hid (szModel_any W z0 vk0 vr0 (1048576) h f0 (by omega) (by omega))
  by_cases hneg0 : szMoV z0 (1048576) < 0
  · have d0 : decide (szMoV z0 (1048576) < 0) = true := decide_eq_true hneg0
    clear w0 w1
    go_enter Try.func5, Try.ntmps5
    go_upto_region 1 with fail
    refine wp_gen (fun W => Blk W (w.heap.size + 0) 25 #[vk0, vr0] ∧ Blk W (w.heap.size + 1) 25 #[vk1, vr1] ∧ Below w.heap.size w W) ⟨(Blk.new w _ _ _ rfl).alloc _, Blk.new _ _ _ _ (by simp [go_sem]), ((Below.refl w.heap.size w).alloc (by simp [go_sem]; try omega) _).alloc (by simp [go_sem]; try omega) _⟩ ?_
    rintro u1 ⟨ga0, ga1, hb⟩
    have GA0 := Lib.hid ga0
    have GA1 := Lib.hid ga1
    have B0 := Lib.hid hb
    clear hb ga0 ga1
    have HSZ := Lib.hid (show w.heap.size + 2 ≤ u1.heap.size from GA1.out.lt)
    go_wp2_with ((with_reducible show wpList _ _ _ _ _ _); first | refine wpList_load_row rfl 25 _ rfl (w.heap.size + 0) rfl 25 #[vk0, vr0] (0, 0) _ GA0.out hulL rfl (by kernel_rfl) ?_)
    refine ((HZ0 _ (HIN0.out.below B0.out)).out).mono ?_
    rintro e u2 ⟨rfl, hb⟩
    replace GA0 := Lib.hid (GA0.out.below hb)
    replace GA1 := Lib.hid (GA1.out.below hb)
    replace B0 := Lib.hid (B0.out.trans (hb.mono B0.out.size))
    replace HSZ := Lib.hid (Nat.le_trans HSZ.out hb.size)
    clear hb
    go_wp2_with fail
    go_ret
    exact ⟨rfl, B0.out⟩
  · have d0 : decide (szMoV z0 (1048576) < 0) = false := decide_eq_false hneg0
    have hsl0 := szMo_le (m := z0) (left := 1048576) (by omega)
    have HT0 := fun W (h : MoIn W z0 vk0 vr0) => Lib.hid (toModel_any W z0 vk0 vr0 h (by omega) (by omega))
    have HEQ0 := fun W a b c d h k => Lib.hid (eqModel_same W z0 a b c d h k)
    have HZ1 := fun W (h : MoIn W z1 vk1 vr1) => Lib.hid (szModel_any W z1 vk1 vr1 (szMoV z0 (1048576)) h f1 (by omega) (by omega))
    by_cases hneg1 : szMoV z1 (szMoV z0 (1048576)) < 0
    · have d1 : decide (szMoV z1 (szMoV z0 (1048576)) < 0) = true := decide_eq_true hneg1
      clear w0 w1
      go_enter Try.func5, Try.ntmps5
      go_upto_region 1 with fail
      refine wp_gen (fun W => Blk W (w.heap.size + 0) 25 #[vk0, vr0] ∧ Blk W (w.heap.size + 1) 25 #[vk1, vr1] ∧ Below w.heap.size w W) ⟨(Blk.new w _ _ _ rfl).alloc _, Blk.new _ _ _ _ (by simp [go_sem]), ((Below.refl w.heap.size w).alloc (by simp [go_sem]; try omega) _).alloc (by simp [go_sem]; try omega) _⟩ ?_
      rintro u1 ⟨ga0, ga1, hb⟩
      have GA0 := Lib.hid ga0
      have GA1 := Lib.hid ga1
      have B0 := Lib.hid hb
      clear hb ga0 ga1
      have HSZ := Lib.hid (show w.heap.size + 2 ≤ u1.heap.size from GA1.out.lt)
      go_wp2_with ((with_reducible show wpList _ _ _ _ _ _); first | refine wpList_load_row rfl 25 _ rfl (w.heap.size + 0) rfl 25 #[vk0, vr0] (0, 0) _ GA0.out hulL rfl (by kernel_rfl) ?_)
      refine ((HZ0 _ (HIN0.out.below B0.out)).out).mono ?_
      rintro e u2 ⟨rfl, hb⟩
      replace GA0 := Lib.hid (GA0.out.below hb)
      replace GA1 := Lib.hid (GA1.out.below hb)
      replace B0 := Lib.hid (B0.out.trans (hb.mono B0.out.size))
      replace HSZ := Lib.hid (Nat.le_trans HSZ.out hb.size)
      clear hb
      go_wp2_with ((with_reducible show wpList _ _ _ _ _ _); first | refine wpList_load_row rfl 25 _ rfl (w.heap.size + 1) rfl 25 #[vk1, vr1] (0, 0) _ GA1.out hulL rfl (by kernel_rfl) ?_)
      refine ((HZ1 _ (HIN1.out.below B0.out)).out).mono ?_
      rintro e u3 ⟨rfl, hb⟩
      replace GA0 := Lib.hid (GA0.out.below hb)
      replace GA1 := Lib.hid (GA1.out.below hb)
      replace B0 := Lib.hid (B0.out.trans (hb.mono B0.out.size))
      replace HSZ := Lib.hid (Nat.le_trans HSZ.out hb.size)
      clear hb
      go_wp2_with fail
      go_ret
      exact ⟨rfl, B0.out⟩
    · have d1 : decide (szMoV z1 (szMoV z0 (1048576)) < 0) = false := decide_eq_false hneg1
      have hsl1 := szMo_le (m := z1) (left := szMoV z0 (1048576)) (by omega)
      have HT1 := fun W (h : MoIn W z1 vk1 vr1) => Lib.hid (toModel_any W z1 vk1 vr1 h (by omega) (by omega))
      have HEQ1 := fun W a b c d h k => Lib.hid (eqModel_same W z1 a b c d h k)
      clear w0 w1
      generalize sameMV z0 z1 = res at *
      go_enter Try.func5, Try.ntmps5
      go_upto_region 1 with fail
      refine wp_gen (fun W => Blk W (w.heap.size + 0) 25 #[vk0, vr0] ∧ Blk W (w.heap.size + 1) 25 #[vk1, vr1] ∧ Below w.heap.size w W) ⟨(Blk.new w _ _ _ rfl).alloc _, Blk.new _ _ _ _ (by simp [go_sem]), ((Below.refl w.heap.size w).alloc (by simp [go_sem]; try omega) _).alloc (by simp [go_sem]; try omega) _⟩ ?_
      rintro u1 ⟨ga0, ga1, hb⟩
      have GA0 := Lib.hid ga0
      have GA1 := Lib.hid ga1
      have B0 := Lib.hid hb
      clear hb ga0 ga1
      have HSZ := Lib.hid (show w.heap.size + 2 ≤ u1.heap.size from GA1.out.lt)
      go_wp2_with ((with_reducible show wpList _ _ _ _ _ _); first | refine wpList_load_row rfl 25 _ rfl (w.heap.size + 0) rfl 25 #[vk0, vr0] (0, 0) _ GA0.out hulL rfl (by kernel_rfl) ?_)
      refine ((HZ0 _ (HIN0.out.below B0.out)).out).mono ?_
      rintro e u2 ⟨rfl, hb⟩
      replace GA0 := Lib.hid (GA0.out.below hb)
      replace GA1 := Lib.hid (GA1.out.below hb)
      replace B0 := Lib.hid (B0.out.trans (hb.mono B0.out.size))
      replace HSZ := Lib.hid (Nat.le_trans HSZ.out hb.size)
      clear hb
      go_wp2_with ((with_reducible show wpList _ _ _ _ _ _); first | refine wpList_load_row rfl 25 _ rfl (w.heap.size + 1) rfl 25 #[vk1, vr1] (0, 0) _ GA1.out hulL rfl (by kernel_rfl) ?_)
      refine ((HZ1 _ (HIN1.out.below B0.out)).out).mono ?_
      rintro e u3 ⟨rfl, hb⟩
      replace GA0 := Lib.hid (GA0.out.below hb)
      replace GA1 := Lib.hid (GA1.out.below hb)
      replace B0 := Lib.hid (B0.out.trans (hb.mono B0.out.size))
      replace HSZ := Lib.hid (Nat.le_trans HSZ.out hb.size)
      clear hb
      have HS := Lib.hid (show (fun W : World => Blk W (w.heap.size + 0) 25 #[vk0, vr0] ∧ Blk W (w.heap.size + 1) 25 #[vk1, vr1] ∧ Below w.heap.size w W) u3.drew from ⟨GA0.out.below (below_drew _ _), GA1.out.below (below_drew _ _), B0.out.trans (below_drew _ _)⟩)
      have hsz1 : u3.heap.size ≤ u3.drew.heap.size := Nat.le_refl _
      replace HSZ := Lib.hid (Nat.le_trans HSZ.out hsz1)
      clear hsz1 GA0 GA1 B0
      go_upto_region 8 with fail
      refine wp_region_held_drew (S := fun W : World => Blk W (w.heap.size + 0) 25 #[vk0, vr0] ∧ Blk W (w.heap.size + 1) 25 #[vk1, vr1] ∧ Below w.heap.size w W) (by kernel_rfl) HS.out (fun hHeld => ?_)
      refine' wpAnyH_take (i := 0) (v := _) rfl (by kernel_rfl) (by kernel_rfl) (by kernel_rfl) (fun _ _ _ h => h) (yieldsIf_load_mid (by rfl) 25 _ rfl (w.heap.size + 0) 0 rfl (#[vk0, vr0]).toList _ (fun w h => h.1.rangeM) hulL rfl (by kernel_rfl)) hHeld ?_
      simp only [Act.put, List.setIfInBounds_toArray, List.set_cons_zero, List.set_cons_succ, List.getElem_toArray, List.getElem_cons_succ, List.getElem_cons_zero]
      refine' wpAnyH_take (i := 2) (v := _) rfl (by kernel_rfl) (by kernel_rfl) (by kernel_rfl) (fun _ _ _ h => h) (yieldsIf_load_mid (by rfl) 25 _ rfl (w.heap.size + 1) 0 rfl (#[vk1, vr1]).toList _ (fun w h => h.2.1.rangeM) hulL rfl (by kernel_rfl)) hHeld ?_
      simp only [Act.put, List.setIfInBounds_toArray, List.set_cons_zero, List.set_cons_succ, List.getElem_toArray, List.getElem_cons_succ, List.getElem_cons_zero]
      refine wpAnyH_ready (rs := [1]) (by kernel_rfl) (by simp) ?_
      refine AllReadyH.cons rfl (fun K hK => ?_) AllReadyH.nil
      go_simp
      refine (HT0 _ (HIN0.out.below hHeld.2.2)).out.mono ?_
      rintro e u4 ⟨sk, sr, rfl, ho, hb⟩
      refine hK.out _ _ ⟨hHeld.1.below hb, hHeld.2.1.below hb, hHeld.2.2.trans (hb.mono hHeld.2.2.size)⟩ (fun hHeld2 => ?_)
      have Os := Lib.hid ho
      replace HSZ := Lib.hid (Nat.le_trans HSZ.out hb.size)
      clear hK K hHeld hb ho
      try simp only [Act.put, List.setIfInBounds_toArray, List.set_cons_zero, List.set_cons_succ, List.getElem_toArray, List.getElem_cons_succ, List.getElem_cons_zero]
      refine wpAnyH_ready (rs := [3]) (by kernel_rfl) (by simp) ?_
      refine AllReadyH.cons rfl (fun K hK => ?_) AllReadyH.nil
      go_simp
      refine (HT1 _ (HIN1.out.below hHeld2.2.2)).out.mono ?_
      rintro e u5 ⟨tk, tr, rfl, ho, hb⟩
      refine hK.out _ _ ⟨hHeld2.1.below hb, hHeld2.2.1.below hb, hHeld2.2.2.trans (hb.mono hHeld2.2.2.size)⟩ (fun hHeld => ?_)
      replace Os := Lib.hid (Os.out.below hb)
      have Ot := Lib.hid ho
      replace HSZ := Lib.hid (Nat.le_trans HSZ.out hb.size)
      clear hK K hHeld2 hb ho
      try simp only [Act.put, List.setIfInBounds_toArray, List.set_cons_zero, List.set_cons_succ, List.getElem_toArray, List.getElem_cons_succ, List.getElem_cons_zero]
      refine wpAnyH_ready (rs := [4]) (by kernel_rfl) (by simp) ?_
      refine AllReadyH.cons rfl (fun K hK => ?_) AllReadyH.nil
      go_simp
      refine (H1 _ _ _ _ _ Os.out.win Ot.out.win).out.mono ?_
      rintro e u6 ⟨rfl, hb⟩
      refine hK.out _ _ ⟨hHeld.1.below hb, hHeld.2.1.below hb, hHeld.2.2.trans (hb.mono hHeld.2.2.size)⟩ (fun hHeld2 => ?_)
      replace HSZ := Lib.hid (Nat.le_trans HSZ.out hb.size)
      clear hK K hHeld hb Os Ot
      try simp only [Act.put, List.setIfInBounds_toArray, List.set_cons_zero, List.set_cons_succ, List.getElem_toArray, List.getElem_cons_succ, List.getElem_cons_zero]
      refine wpAnyH_ready (rs := [5]) (by kernel_rfl) (by simp) ?_
      refine AllReadyH.cons rfl (fun K hK => ?_) AllReadyH.nil
      go_simp
      refine hK.out _ _ hHeld2 (fun hHeld => ?_)
      clear hK K
      try simp only [Act.put, List.setIfInBounds_toArray, List.set_cons_zero, List.set_cons_succ, List.getElem_toArray, List.getElem_cons_succ, List.getElem_cons_zero]
      refine wpAnyH_done (by kernel_rfl) ?_ _
      have GA0 := Lib.hid hHeld.1
      have GA1 := Lib.hid hHeld.2.1
      have B0 := Lib.hid hHeld.2.2
      clear hHeld hHeld2 HS
      go_wp2_with ((with_reducible show wpList _ _ _ _ _ _); first | refine wpList_load_row rfl 25 _ rfl (w.heap.size + 0) rfl 25 #[vk0, vr0] (0, 0) _ GA0.out hulL rfl (by kernel_rfl) ?_)
      refine (HT0 _ (HIN0.out.below B0.out)).out.mono ?_
      rintro e u7 ⟨xk, xr, rfl, ho, hb⟩
      replace GA0 := Lib.hid (GA0.out.below hb)
      replace GA1 := Lib.hid (GA1.out.below hb)
      replace B0 := Lib.hid (B0.out.trans (hb.mono B0.out.size))
      replace HSZ := Lib.hid (Nat.le_trans HSZ.out hb.size)
      have Ox := Lib.hid ho
      clear ho hb
      have hoc := mo_one Ox.out.win
      go_upto_region 10 with ((with_reducible show wpList _ _ _ _ _ _); refine wpList_store_row rfl 31 _ _ rfl u7.heap.size #[xk, xr] rfl rfl 31 _ (Blk.new u7 u7.heap.size 31 #[.slice none 0 0, .slice none 0 0] rfl) (by kernel_rfl) rfl hoc ?_)
      refine wp_gen (fun X => Blk X u7.heap.size 31 #[xk, xr] ∧ Below u7.heap.size u7 X) ⟨setRow_heap _ _ _ _ _ _ (Blk.new u7 u7.heap.size 31 #[.slice none 0 0, .slice none 0 0] rfl), below_setRow' (below_oneM u7 _) (Nat.le_refl _) _⟩ ?_
      rintro u8 ⟨hx, hb⟩
      replace GA0 := Lib.hid (GA0.out.below hb)
      replace GA1 := Lib.hid (GA1.out.below hb)
      replace Ox := Lib.hid (Ox.out.below hb)
      replace B0 := Lib.hid (B0.out.trans (hb.mono B0.out.size))
      replace HSZ := Lib.hid (Nat.le_trans HSZ.out hb.size)
      have Gx := Lib.hid hx
      clear hx hb hoc
      go_wp2_with ((with_reducible show wpList _ _ _ _ _ _); first | refine wpList_load_row rfl 25 _ rfl (w.heap.size + 1) rfl 25 #[vk1, vr1] (0, 0) _ GA1.out hulL rfl (by kernel_rfl) ?_)
      refine (HT1 _ (HIN1.out.below B0.out)).out.mono ?_
      rintro e u9 ⟨qk, qr, rfl, ho, hb⟩
      replace GA0 := Lib.hid (GA0.out.below hb)
      replace GA1 := Lib.hid (GA1.out.below hb)
      replace Ox := Lib.hid (Ox.out.below hb)
      replace Gx := Lib.hid (Gx.out.below hb)
      replace B0 := Lib.hid (B0.out.trans (hb.mono B0.out.size))
      replace HSZ := Lib.hid (Nat.le_trans HSZ.out hb.size)
      have Oq := Lib.hid ho
      clear ho hb
      have hoc := mo_one Oq.out.win
      go_upto_region 11 with ((with_reducible show wpList _ _ _ _ _ _); refine wpList_store_row rfl 31 _ _ rfl u9.heap.size #[qk, qr] rfl rfl 31 _ (Blk.new u9 u9.heap.size 31 #[.slice none 0 0, .slice none 0 0] rfl) (by kernel_rfl) rfl hoc ?_)
      refine wp_gen (fun X => Blk X u9.heap.size 31 #[qk, qr] ∧ Below u9.heap.size u9 X) ⟨setRow_heap _ _ _ _ _ _ (Blk.new u9 u9.heap.size 31 #[.slice none 0 0, .slice none 0 0] rfl), below_setRow' (below_oneM u9 _) (Nat.le_refl _) _⟩ ?_
      rintro u10 ⟨hx, hb⟩
      replace GA0 := Lib.hid (GA0.out.below hb)
      replace GA1 := Lib.hid (GA1.out.below hb)
      replace Ox := Lib.hid (Ox.out.below hb)
      replace Gx := Lib.hid (Gx.out.below hb)
      replace Oq := Lib.hid (Oq.out.below hb)
      replace B0 := Lib.hid (B0.out.trans (hb.mono B0.out.size))
      replace HSZ := Lib.hid (Nat.le_trans HSZ.out hb.size)
      have Gq := Lib.hid hx
      clear hx hb hoc
      go_wp2_with ((with_reducible show wpList _ _ _ _ _ _); first | refine wpList_load_row rfl 31 _ rfl (u7.heap.size) rfl 31 #[xk, xr] (0, 0) _ Gx.out hulI rfl (by kernel_rfl) ?_ | refine wpList_load_row rfl 31 _ rfl (u9.heap.size) rfl 31 #[qk, qr] (0, 0) _ Gq.out hulI rfl (by kernel_rfl) ?_)
      refine ((H2 _ _ _ _ _ Ox.out.win Oq.out.win).out).mono ?_
      rintro e u11 ⟨rfl, hb⟩
      replace GA0 := Lib.hid (GA0.out.below hb)
      replace GA1 := Lib.hid (GA1.out.below hb)
      replace Ox := Lib.hid (Ox.out.below hb)
      replace Gx := Lib.hid (Gx.out.below hb)
      replace Oq := Lib.hid (Oq.out.below hb)
      replace Gq := Lib.hid (Gq.out.below hb)
      replace B0 := Lib.hid (B0.out.trans (hb.mono B0.out.size))
      replace HSZ := Lib.hid (Nat.le_trans HSZ.out hb.size)
      clear hb
      have HF := Lib.hid (show ∀ a b : World, Below a.heap.size a b → (fun W' => Blk W' (w.heap.size + 1) 25 #[vk1, vr1] ∧ MoOwn W' u8.heap.size z1 qk qr ∧ Blk W' (u9.heap.size) 31 #[qk, qr]) a → (fun W' => Blk W' (w.heap.size + 1) 25 #[vk1, vr1] ∧ MoOwn W' u8.heap.size z1 qk qr ∧ Blk W' (u9.heap.size) 31 #[qk, qr]) b from fun a b hb h => ⟨h.1.below hb, h.2.1.below hb, h.2.2.below hb⟩)
      have HS := Lib.hid (show LawM (fun W' => Blk W' (w.heap.size + 1) 25 #[vk1, vr1] ∧ MoOwn W' u8.heap.size z1 qk qr ∧ Blk W' (u9.heap.size) 31 #[qk, qr]) w (w.heap.size + 0) (u7.heap.size) z0 vk0 vr0 xk xr u6.heap.size u11.drew from LawM.next HF.out ⟨GA0.out, Gx.out, HIN0.out.below B0.out, Ox.out, B0.out, ⟨GA1.out, Oq.out, Gq.out⟩⟩ (below_drew _ _))
      have hsz1 : u11.heap.size ≤ u11.drew.heap.size := Nat.le_refl _
      replace HSZ := Lib.hid (Nat.le_trans HSZ.out hsz1)
      clear hsz1
      clear GA0 Gx Ox B0 GA1 Oq Gq
      go_upto_region 14 with fail
      refine wp_region_held_drew (S := fun w' => LawM (fun W' => Blk W' (w.heap.size + 1) 25 #[vk1, vr1] ∧ MoOwn W' u8.heap.size z1 qk qr ∧ Blk W' (u9.heap.size) 31 #[qk, qr]) w (w.heap.size + 0) (u7.heap.size) z0 vk0 vr0 xk xr u6.heap.size w') (by kernel_rfl) HS.out (fun hHeld => ?_)
      refine' wpAnyH_take (i := 0) (v := _) rfl (by kernel_rfl) (by kernel_rfl) (by kernel_rfl) (fun _ _ _ h => h) (yieldsIf_load_mid (by rfl) 31 _ rfl (u7.heap.size) 0 rfl (#[xk, xr]).toList _ (fun w h => h.y.rangeM) hulI rfl (by kernel_rfl)) hHeld ?_
      simp only [Act.put, List.setIfInBounds_toArray, List.set_cons_zero, List.set_cons_succ, List.getElem_toArray, List.getElem_cons_succ, List.getElem_cons_zero]
      refine' wpAnyH_take (i := 1) (v := _) rfl (by kernel_rfl) (by kernel_rfl) (by kernel_rfl) (fun _ _ _ h => h) (yieldsIf_load_mid (by rfl) 25 _ rfl (w.heap.size + 0) 0 rfl (#[vk0, vr0]).toList _ (fun w h => h.g.rangeM) hulL rfl (by kernel_rfl)) hHeld ?_
      simp only [Act.put, List.setIfInBounds_toArray, List.set_cons_zero, List.set_cons_succ, List.getElem_toArray, List.getElem_cons_succ, List.getElem_cons_zero]
      refine wpAnyH_ready (rs := [2]) (by kernel_rfl) (by simp) ?_
      refine AllReadyH.cons rfl (fun K hK => ?_) AllReadyH.nil
      go_simp
      refine (HT0 _ hHeld.a).out.mono ?_
      rintro e u12 ⟨yk, yr, rfl, ho, hb⟩
      refine hK.out _ _ (hHeld.next HF.out hb) (fun hHeld2 => ?_)
      have Oy := Lib.hid ho.win
      replace HSZ := Lib.hid (Nat.le_trans HSZ.out hb.size)
      clear hK K hHeld hb ho
      try simp only [Act.put, List.setIfInBounds_toArray, List.set_cons_zero, List.set_cons_succ, List.getElem_toArray, List.getElem_cons_succ, List.getElem_cons_zero]
      refine wpAnyH_ready (rs := [3]) (by kernel_rfl) (by simp) ?_
      refine AllReadyH.cons rfl (fun K hK => ?_) AllReadyH.nil
      go_simp
      refine (HEQ0 _ _ _ _ _ hHeld2.x.win Oy.out).out.mono ?_
      rintro e u13 ⟨rfl, hb⟩
      refine hK.out _ _ (hHeld2.next HF.out hb) (fun hHeld => ?_)
      replace HSZ := Lib.hid (Nat.le_trans HSZ.out hb.size)
      clear hK K hHeld2 hb Oy
      try simp only [Act.put, List.setIfInBounds_toArray, List.set_cons_zero, List.set_cons_succ, List.getElem_toArray, List.getElem_cons_succ, List.getElem_cons_zero]
      refine wpAnyH_ready (rs := [4]) (by kernel_rfl) (by simp) ?_
      refine AllReadyH.cons rfl (fun K hK => ?_) AllReadyH.nil
      go_simp
      refine hK.out _ _ hHeld (fun hHeld => ?_)
      clear hK K
      try simp only [Act.put, List.setIfInBounds_toArray, List.set_cons_zero, List.set_cons_succ, List.getElem_toArray, List.getElem_cons_succ, List.getElem_cons_zero]
      refine wpAnyH_done (by kernel_rfl) ?_ _
      have GA0 := Lib.hid hHeld.g
      have Gx := Lib.hid hHeld.y
      have Ox := Lib.hid hHeld.x
      have B0 := Lib.hid hHeld.b
      have GA1 := Lib.hid hHeld.f.1
      have Oq := Lib.hid hHeld.f.2.1
      have Gq := Lib.hid hHeld.f.2.2
      clear hHeld HS HF
      clear Ox Gx GA0
      have HF := Lib.hid (show ∀ a b : World, Below a.heap.size a b → (fun W' => True) a → (fun W' => True) b from fun a b hb h => trivial)
      have HS := Lib.hid (show LawM (fun W' => True) w (w.heap.size + 1) (u9.heap.size) z1 vk1 vr1 qk qr u8.heap.size u13.drew from LawM.next HF.out ⟨GA1.out, Gq.out, HIN1.out.below B0.out, Oq.out, B0.out, trivial⟩ (below_drew _ _))
      have hsz1 : u13.heap.size ≤ u13.drew.heap.size := Nat.le_refl _
      replace HSZ := Lib.hid (Nat.le_trans HSZ.out hsz1)
      clear hsz1
      clear GA1 Gq Oq B0 
      go_upto_region 16 with fail
      refine wp_region_held_drew (S := fun w' => LawM (fun W' => True) w (w.heap.size + 1) (u9.heap.size) z1 vk1 vr1 qk qr u8.heap.size w') (by kernel_rfl) HS.out (fun hHeld => ?_)
      refine' wpAnyH_take (i := 0) (v := _) rfl (by kernel_rfl) (by kernel_rfl) (by kernel_rfl) (fun _ _ _ h => h) (yieldsIf_load_mid (by rfl) 31 _ rfl (u9.heap.size) 0 rfl (#[qk, qr]).toList _ (fun w h => h.y.rangeM) hulI rfl (by kernel_rfl)) hHeld ?_
      simp only [Act.put, List.setIfInBounds_toArray, List.set_cons_zero, List.set_cons_succ, List.getElem_toArray, List.getElem_cons_succ, List.getElem_cons_zero]
      refine' wpAnyH_take (i := 1) (v := _) rfl (by kernel_rfl) (by kernel_rfl) (by kernel_rfl) (fun _ _ _ h => h) (yieldsIf_load_mid (by rfl) 25 _ rfl (w.heap.size + 1) 0 rfl (#[vk1, vr1]).toList _ (fun w h => h.g.rangeM) hulL rfl (by kernel_rfl)) hHeld ?_
      simp only [Act.put, List.setIfInBounds_toArray, List.set_cons_zero, List.set_cons_succ, List.getElem_toArray, List.getElem_cons_succ, List.getElem_cons_zero]
      refine wpAnyH_ready (rs := [2]) (by kernel_rfl) (by simp) ?_
      refine AllReadyH.cons rfl (fun K hK => ?_) AllReadyH.nil
      go_simp
      refine (HT1 _ hHeld.a).out.mono ?_
      rintro e u14 ⟨yk, yr, rfl, ho, hb⟩
      refine hK.out _ _ (hHeld.next HF.out hb) (fun hHeld2 => ?_)
      have Oy := Lib.hid ho.win
      replace HSZ := Lib.hid (Nat.le_trans HSZ.out hb.size)
      clear hK K hHeld hb ho
      try simp only [Act.put, List.setIfInBounds_toArray, List.set_cons_zero, List.set_cons_succ, List.getElem_toArray, List.getElem_cons_succ, List.getElem_cons_zero]
      refine wpAnyH_ready (rs := [3]) (by kernel_rfl) (by simp) ?_
      refine AllReadyH.cons rfl (fun K hK => ?_) AllReadyH.nil
      go_simp
      refine (HEQ1 _ _ _ _ _ hHeld2.x.win Oy.out).out.mono ?_
      rintro e u15 ⟨rfl, hb⟩
      refine hK.out _ _ (hHeld2.next HF.out hb) (fun hHeld => ?_)
      replace HSZ := Lib.hid (Nat.le_trans HSZ.out hb.size)
      clear hK K hHeld2 hb Oy
      try simp only [Act.put, List.setIfInBounds_toArray, List.set_cons_zero, List.set_cons_succ, List.getElem_toArray, List.getElem_cons_succ, List.getElem_cons_zero]
      refine wpAnyH_ready (rs := [4]) (by kernel_rfl) (by simp) ?_
      refine AllReadyH.cons rfl (fun K hK => ?_) AllReadyH.nil
      go_simp
      refine hK.out _ _ hHeld (fun hHeld => ?_)
      clear hK K
      try simp only [Act.put, List.setIfInBounds_toArray, List.set_cons_zero, List.set_cons_succ, List.getElem_toArray, List.getElem_cons_succ, List.getElem_cons_zero]
      refine wpAnyH_done (by kernel_rfl) ?_ _
      have GA1 := Lib.hid hHeld.g
      have Gq := Lib.hid hHeld.y
      have Oq := Lib.hid hHeld.x
      have B0 := Lib.hid hHeld.b
      clear hHeld HS HF
      go_wp2_with fail
      go_ret
      exact ⟨rfl, B0.out⟩

set_option maxRecDepth 100000 in
theorem lifted (os : Os) (started : os.Started) (H : Type) (enc : TypeId × Value → H) :
    ReturnsInHanded {} Try.checked os 5 .any (Rows.fnExactSameModelSpec.pre6 enc Try.prog Try.f5 Rows.fnExactSameModelRow.domain false) (Rows.fnExactSameModelSpec.post enc Try.prog Try.f5 false true false false) := by
  refine returnsInHanded_of_change (C := Try.checked) own started (by kernel_rfl) Try.func5
    (ChangeSpec.witness6 (enc := enc) (C := Try.checked) false ⟨#[], #[.agg #[.slice none 0 0, .slice none 0 0], .agg #[.slice none 0 0, .slice none 0 0]], []⟩ 8 (by kernel_rfl) (by kernel_rfl) (by kernel_rfl) (by kernel_rfl)) ?_
  intro W base args ds gs before hval0 hW hcnd _
  have hval : ∀ (j : Nat) t v, Try.f5.params[j]? = some t → args[j]? = some v → Value.okWide Try.prog W .any base t v := hval0
  have hW' := hW
  obtain ⟨p, q, hA0, hV, rfl, hfz, hnd⟩ := hW
  have hA : DataW.TrodAll enc Try.prog W 0 (fun _ => true) true Try.f5.params.toList args.toList ds p := hA0
  rw [Try.params5] at hA hval
  obtain ⟨v0, vs0, d0, ds0, p0, q0, hargs, rfl, rfl, h0, r0⟩ := trodAll_cons hA
  obtain ⟨v1, vs1, d1, ds1, p1, q1, rfl, rfl, rfl, h1, r1⟩ := trodAll_cons r0
  obtain ⟨rfl, rfl, rfl⟩ := trodAll_nil r1
  obtain rfl : args = #[v0, v1] := by cases args; simp_all
  obtain ⟨rfl, rfl⟩ := trodVars_none hV
  have k0 := h0
  have lt0 : ∀ x ∈ p0, x.block < W.heap.size := by obtain ⟨m, hm⟩ := k0; exact DataW.trod_lt m _ _ _ hm
  obtain ⟨z0, vk0, vr0, rfl, w0, f0⟩ := open_model (hval 0 25 v0 rfl rfl) h0
  have k1 := h1
  have lt1 : ∀ x ∈ p1, x.block < W.heap.size := by obtain ⟨m, hm⟩ := k1; exact DataW.trod_lt m _ _ _ hm
  obtain ⟨z1, vk1, vr1, rfl, w1, f1⟩ := open_model (hval 1 25 v1 rfl rfl) h1
  clear hA0 hval0
  refine (walk W z0 vk0 vr0 w0 f0 z1 vk1 vr1 w1 f1).mono fun e W' ⟨he, bel⟩ => ?_
  subst he
  exact ⟨_, rfl, _, _, _, [], _, [], hW', trodAll_mk1 (shut_bool Try.underlying4 _), (trodAll_cons_mk (Below.trod laidOut (by kernel_rfl) (of_decide_eq_true (by kernel_rfl)) k0 bel lt0) (trodAll_cons_mk (Below.trod laidOut (by kernel_rfl) (of_decide_eq_true (by kernel_rfl)) k1 bel lt1) trodAll_mk0)), rfl, bel.frame _, fun h => by cases h⟩

theorem over : Rows.fnExactSameModelRow.holds Try.pinned (OpenSpec.ofChange Rows.fnExactSameModelSpec) :=
  OpenClaim.holds_of_wide 5 Try.f5 rfl rfl rfl rfl rfl rfl rfl ⟨rfl, rfl, rfl, rfl, rfl⟩ rfl rfl rfl rfl rfl (by kernel_rfl) Try.func5 (by kernel_rfl)
    (of_decide_eq_true (by kernel_rfl)) (by unfold Func.isWrapper; first | (rw [if_pos (by decide +kernel)]; kernel_rfl) | (rw [if_neg (by decide +kernel)]; exact ⟨rfl, rfl⟩))
    (fun os started H enc _ => lifted os started H enc)

end Go.Proofs.Ytfhkfhpbalbgkab.fnExactSameModel
namespace Go.Proofs.Ytfhkfhpbalbgkab
theorem fnExactSameModel_holds : Rows.FnExactSameModelSaid := fnExactSameModel.over
end Go.Proofs.Ytfhkfhpbalbgkab
