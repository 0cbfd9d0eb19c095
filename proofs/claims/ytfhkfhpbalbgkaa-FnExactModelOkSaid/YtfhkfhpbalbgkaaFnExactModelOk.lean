/-
  FnExactModelOk: what the function answers is what its model answers, at every argument: the law's call returns true and each argument reads afterwards as before, without any condition on the arguments.
-/
import Derived.Test.YtfhkfhpbalbgkaaRows
import Derived.Test.YtfhkfhpbalbgkaaModP
import Derived.Test.YtfhkfhpbalbgkaaModL
import Derived.Test.YtfhkfhpbalbgkaaModT
import Derived.WalkKit
import Derived.ProofKit
import Derived.OpenShut
import Derived.ShutString
import Derived.ChangeOld
import Derived.Below
namespace Go.Proofs.Ytfhkfhpbalbgkaa.fnExactModelOk
open Go.ChangeShapes Go.WideShapes Go.ChangeAt Go.RowKit Go.Proofs.Ytfhkfhpbalbgkaa.M
open Go.ChangeMaps (open_string shut_string)
set_option linter.unusedVariables false
set_option linter.unusedSimpArgs false

theorem own : ownKnob Try.prog.godebug = none := by kernel_rfl
theorem laidOut : laidOutB Try.prog = true := by kernel_rfl

set_option maxRecDepth 100000 in
set_option maxHeartbeats 4000000 in
theorem walk (w : World) (z0 : Mo) (vk0 vr0 : Value) (w0 : MoIn w z0 vk0 vr0) (f0 : z0.Fit) :
    Calls Try.prog 3 #[.agg #[vk0, vr0]] w fun e w' => e = .returned (.bool true) ∧ Below w.heap.size w w' := by
  have hulL := Try.underlying25
  have hulI := Try.underlying31
  have HIN0 := Lib.hid w0
  have H1 := fun W B a b (h : MoOwn W B z0 a b) => Lib.hid (sModelOk_any W z0 a b h.win f0)
  have H2 := fun W B a b (h : MoOwn W B z0 a b) => Lib.hid (iModelOk_any W z0 a b h.win f0)
  have HZ0 := fun W (h : MoIn W z0 vk0 vr0) => Lib.hid (szModel_any W z0 vk0 vr0 (1048576) h f0 (by omega) (by omega))
  by_cases hneg0 : szMoV z0 (1048576) < 0
  · have d0 : decide (szMoV z0 (1048576) < 0) = true := decide_eq_true hneg0
    clear w0
    go_enter Try.func3, Try.ntmps3
    go_upto_region 1 with fail
    refine wp_gen (fun W => Blk W (w.heap.size + 0) 25 #[vk0, vr0] ∧ Below w.heap.size w W) ⟨Blk.new w _ _ _ rfl, (Below.refl w.heap.size w).alloc (by simp [go_sem]; try omega) _⟩ ?_
    rintro u1 ⟨ga0, hb⟩
    have GA0 := Lib.hid ga0
    have B0 := Lib.hid hb
    clear hb ga0
    have HSZ := Lib.hid (show w.heap.size + 1 ≤ u1.heap.size from GA0.out.lt)
    go_wp2_with ((with_reducible show wpList _ _ _ _ _ _); first | refine wpList_load_row rfl 25 _ rfl (w.heap.size + 0) rfl 25 #[vk0, vr0] (0, 0) _ GA0.out hulL rfl (by kernel_rfl) ?_)
    refine ((HZ0 _ (HIN0.out.below B0.out)).out).mono ?_
    rintro e u2 ⟨rfl, hb⟩
    replace GA0 := Lib.hid (GA0.out.below hb)
    replace B0 := Lib.hid (B0.out.trans (hb.mono B0.out.size))
    replace HSZ := Lib.hid (Nat.le_trans HSZ.out hb.size)
    clear hb
    go_wp2_with fail
    go_ret
    exact ⟨rfl, B0.out⟩
  · have d0 : decide (szMoV z0 (1048576) < 0) = false := decide_eq_false hneg0
    have hsl0 := szMo_le (m := z0) (left := 1048576) (by omega)
    have HT0 := fun W (h : MoIn W z0 vk0 vr0) => Lib.hid (toModel_any W z0 vk0 vr0 h (by omega) (by omega))
    have HEQ0 := fun W a b c d h k => Lib.hid (eqModel_same W z0 a b c d h k)
    clear w0
    generalize modelOkV z0 = res at *
    go_enter Try.func3, Try.ntmps3
    go_upto_region 1 with fail
    refine wp_gen (fun W => Blk W (w.heap.size + 0) 25 #[vk0, vr0] ∧ Below w.heap.size w W) ⟨Blk.new w _ _ _ rfl, (Below.refl w.heap.size w).alloc (by simp [go_sem]; try omega) _⟩ ?_
    rintro u1 ⟨ga0, hb⟩
    have GA0 := Lib.hid ga0
    have B0 := Lib.hid hb
    clear hb ga0
    have HSZ := Lib.hid (show w.heap.size + 1 ≤ u1.heap.size from GA0.out.lt)
    go_wp2_with ((with_reducible show wpList _ _ _ _ _ _); first | refine wpList_load_row rfl 25 _ rfl (w.heap.size + 0) rfl 25 #[vk0, vr0] (0, 0) _ GA0.out hulL rfl (by kernel_rfl) ?_)
    refine ((HZ0 _ (HIN0.out.below B0.out)).out).mono ?_
    rintro e u2 ⟨rfl, hb⟩
    replace GA0 := Lib.hid (GA0.out.below hb)
    replace B0 := Lib.hid (B0.out.trans (hb.mono B0.out.size))
    replace HSZ := Lib.hid (Nat.le_trans HSZ.out hb.size)
    clear hb
    go_wp2_with ((with_reducible show wpList _ _ _ _ _ _); first | refine wpList_load_row rfl 25 _ rfl (w.heap.size + 0) rfl 25 #[vk0, vr0] (0, 0) _ GA0.out hulL rfl (by kernel_rfl) ?_)
    refine (HT0 _ (HIN0.out.below B0.out)).out.mono ?_
    rintro e u3 ⟨sk, sr, rfl, ho, hb⟩
    replace GA0 := Lib.hid (GA0.out.below hb)
    replace B0 := Lib.hid (B0.out.trans (hb.mono B0.out.size))
    replace HSZ := Lib.hid (Nat.le_trans HSZ.out hb.size)
    have Os := Lib.hid ho
    clear ho hb
    go_wp2_with fail
    refine ((H1 _ _ _ _ Os.out).out).mono ?_
    rintro e u4 ⟨rfl, hb⟩
    replace GA0 := Lib.hid (GA0.out.below hb)
    replace Os := Lib.hid (Os.out.below hb)
    replace B0 := Lib.hid (B0.out.trans (hb.mono B0.out.size))
    replace HSZ := Lib.hid (Nat.le_trans HSZ.out hb.size)
    clear hb
    clear Os
    go_wp2_with ((with_reducible show wpList _ _ _ _ _ _); first | refine wpList_load_row rfl 25 _ rfl (w.heap.size + 0) rfl 25 #[vk0, vr0] (0, 0) _ GA0.out hulL rfl (by kernel_rfl) ?_)
    refine (HT0 _ (HIN0.out.below B0.out)).out.mono ?_
    rintro e u5 ⟨xk, xr, rfl, ho, hb⟩
    replace GA0 := Lib.hid (GA0.out.below hb)
    replace B0 := Lib.hid (B0.out.trans (hb.mono B0.out.size))
    replace HSZ := Lib.hid (Nat.le_trans HSZ.out hb.size)
    have Ox := Lib.hid ho
    clear ho hb
    have hoc := mo_one Ox.out.win
    go_upto_region 7 with ((with_reducible show wpList _ _ _ _ _ _); refine wpList_store_row rfl 31 _ _ rfl u5.heap.size #[xk, xr] rfl rfl 31 _ (Blk.new u5 u5.heap.size 31 #[.slice none 0 0, .slice none 0 0] rfl) (by kernel_rfl) rfl hoc ?_)
    refine wp_gen (fun X => Blk X u5.heap.size 31 #[xk, xr] ∧ Below u5.heap.size u5 X) ⟨setRow_heap _ _ _ _ _ _ (Blk.new u5 u5.heap.size 31 #[.slice none 0 0, .slice none 0 0] rfl), below_setRow' (below_oneM u5 _) (Nat.le_refl _) _⟩ ?_
    rintro u6 ⟨hx, hb⟩
    replace GA0 := Lib.hid (GA0.out.below hb)
    replace Ox := Lib.hid (Ox.out.below hb)
    replace B0 := Lib.hid (B0.out.trans (hb.mono B0.out.size))
    replace HSZ := Lib.hid (Nat.le_trans HSZ.out hb.size)
    have Gx := Lib.hid hx
    clear hx hb hoc
    go_wp2_with ((with_reducible show wpList _ _ _ _ _ _); first | refine wpList_load_row rfl 31 _ rfl (u5.heap.size) rfl 31 #[xk, xr] (0, 0) _ Gx.out hulI rfl (by kernel_rfl) ?_)
    refine ((H2 _ _ _ _ Ox.out).out).mono ?_
    rintro e u7 ⟨rfl, hb⟩
    replace GA0 := Lib.hid (GA0.out.below hb)
    replace Ox := Lib.hid (Ox.out.below hb)
    replace Gx := Lib.hid (Gx.out.below hb)
    replace B0 := Lib.hid (B0.out.trans (hb.mono B0.out.size))
    replace HSZ := Lib.hid (Nat.le_trans HSZ.out hb.size)
    clear hb
    have HF := Lib.hid (show ∀ a b : World, Below a.heap.size a b → (fun W' => True) a → (fun W' => True) b from fun a b hb h => trivial)
    have HS := Lib.hid (show LawM (fun W' => True) w (w.heap.size + 0) (u5.heap.size) z0 vk0 vr0 xk xr u4.heap.size u7.drew from LawM.next HF.out ⟨GA0.out, Gx.out, HIN0.out.below B0.out, Ox.out, B0.out, trivial⟩ (below_drew _ _))
    have hsz1 : u7.heap.size ≤ u7.drew.heap.size := Nat.le_refl _
    replace HSZ := Lib.hid (Nat.le_trans HSZ.out hsz1)
    clear hsz1
    clear GA0 Gx Ox B0 
    go_upto_region 10 with fail
    refine wp_region_held_drew (S := fun w' => LawM (fun W' => True) w (w.heap.size + 0) (u5.heap.size) z0 vk0 vr0 xk xr u4.heap.size w') (by kernel_rfl) HS.out (fun hHeld => ?_)
    refine' wpAnyH_take (i := 0) (v := _) rfl (by kernel_rfl) (by kernel_rfl) (by kernel_rfl) (fun _ _ _ h => h) (yieldsIf_load_mid (by rfl) 31 _ rfl (u5.heap.size) 0 rfl (#[xk, xr]).toList _ (fun w h => h.y.rangeM) hulI rfl (by kernel_rfl)) hHeld ?_
    simp only [Act.put, List.setIfInBounds_toArray, List.set_cons_zero, List.set_cons_succ, List.getElem_toArray, List.getElem_cons_succ, List.getElem_cons_zero]
    refine' wpAnyH_take (i := 1) (v := _) rfl (by kernel_rfl) (by kernel_rfl) (by kernel_rfl) (fun _ _ _ h => h) (yieldsIf_load_mid (by rfl) 25 _ rfl (w.heap.size + 0) 0 rfl (#[vk0, vr0]).toList _ (fun w h => h.g.rangeM) hulL rfl (by kernel_rfl)) hHeld ?_
    simp only [Act.put, List.setIfInBounds_toArray, List.set_cons_zero, List.set_cons_succ, List.getElem_toArray, List.getElem_cons_succ, List.getElem_cons_zero]
    refine wpAnyH_ready (rs := [2]) (by kernel_rfl) (by simp) ?_
    refine AllReadyH.cons rfl (fun K hK => ?_) AllReadyH.nil
    go_simp
    refine (HT0 _ hHeld.a).out.mono ?_
    rintro e u8 ⟨yk, yr, rfl, ho, hb⟩
    refine hK.out _ _ (hHeld.next HF.out hb) (fun hHeld2 => ?_)
    have Oy := Lib.hid ho.win
    replace HSZ := Lib.hid (Nat.le_trans HSZ.out hb.size)
    clear hK K hHeld hb ho
    try simp only [Act.put, List.setIfInBounds_toArray, List.set_cons_zero, List.set_cons_succ, List.getElem_toArray, List.getElem_cons_succ, List.getElem_cons_zero]
    refine wpAnyH_ready (rs := [3]) (by kernel_rfl) (by simp) ?_
    refine AllReadyH.cons rfl (fun K hK => ?_) AllReadyH.nil
    go_simp
    refine (HEQ0 _ _ _ _ _ hHeld2.x.win Oy.out).out.mono ?_
    rintro e u9 ⟨rfl, hb⟩
    refine hK.out _ _ (hHeld2.next HF.out hb) (fun hHeld => ?_)
    replace HSZ := Lib.hid (Nat.le_trans HSZ.out hb.size)
    clear hK K hHeld2 hb Oy
    try simp only [Act.put, List.setIfInBounds_toArray, List.set_cons_zero, List.set_cons_succ, List.getElem_toArray, List.getElem_cons_succ, List.getElem_cons_zero]
    refine wpAnyH_ready (rs := [4]) (by kernel_rfl) (by simp) ?_
    refine AllReadyH.cons rfl (fun K hK => ?_) AllReadyH.nil
    go_simp
    refine hK.out _ _ hHeld (fun hHeld => ?_)
    clear hK K
    try simp only [Act.put, List.setIfInBounds_toArray, List.set_cons_zero, List.set_cons_succ, List.getElem_toArray, List.getElem_cons_succ, List.getElem_cons_zero]
    refine wpAnyH_done (by kernel_rfl) ?_ _
    have GA0 := Lib.hid hHeld.g
    have Gx := Lib.hid hHeld.y
    have Ox := Lib.hid hHeld.x
    have B0 := Lib.hid hHeld.b
    clear hHeld HS HF
    go_wp2_with fail
    go_ret
    exact ⟨rfl, B0.out⟩

set_option maxRecDepth 100000 in
theorem lifted (os : Os) (started : os.Started) (H : Type) (enc : TypeId × Value → H) :
    ReturnsInHanded {} Try.checked os 3 .any (Rows.fnExactModelOkSpec.pre6 enc Try.prog Try.f3 Rows.fnExactModelOkRow.domain false) (Rows.fnExactModelOkSpec.post enc Try.prog Try.f3 false true false false) := by
  refine returnsInHanded_of_change (C := Try.checked) own started (by kernel_rfl) Try.func3
    (ChangeSpec.witness6 (enc := enc) (C := Try.checked) false ⟨#[], #[.agg #[.slice none 0 0, .slice none 0 0]], []⟩ 8 (by kernel_rfl) (by kernel_rfl) (by kernel_rfl) (by kernel_rfl)) ?_
  intro W base args ds gs before hval0 hW hcnd _
  have hval : ∀ (j : Nat) t v, Try.f3.params[j]? = some t → args[j]? = some v → Value.okWide Try.prog W .any base t v := hval0
  have hW' := hW
  obtain ⟨p, q, hA0, hV, rfl, hfz, hnd⟩ := hW
  have hA : DataW.TrodAll enc Try.prog W 0 (fun _ => true) true Try.f3.params.toList args.toList ds p := hA0
  rw [Try.params3] at hA hval
  obtain ⟨v0, vs0, d0, ds0, p0, q0, hargs, rfl, rfl, h0, r0⟩ := trodAll_cons hA
  obtain ⟨rfl, rfl, rfl⟩ := trodAll_nil r0
  obtain rfl : args = #[v0] := by cases args; simp_all
  obtain ⟨rfl, rfl⟩ := trodVars_none hV
  have k0 := h0
  have lt0 : ∀ x ∈ p0, x.block < W.heap.size := by obtain ⟨m, hm⟩ := k0; exact DataW.trod_lt m _ _ _ hm
  obtain ⟨z0, vk0, vr0, rfl, w0, f0⟩ := open_model (hval 0 25 v0 rfl rfl) h0
  clear hA0 hval0
  refine (walk W z0 vk0 vr0 w0 f0).mono fun e W' ⟨he, bel⟩ => ?_
  subst he
  exact ⟨_, rfl, _, _, _, [], _, [], hW', trodAll_mk1 (shut_bool Try.underlying4 _), (trodAll_cons_mk (Below.trod laidOut (by kernel_rfl) (of_decide_eq_true (by kernel_rfl)) k0 bel lt0) trodAll_mk0), rfl, bel.frame _, fun h => by cases h⟩

theorem over : Rows.fnExactModelOkRow.holds Try.pinned (OpenSpec.ofChange Rows.fnExactModelOkSpec) :=
  OpenClaim.holds_of_wide 3 Try.f3 rfl rfl rfl rfl rfl rfl rfl ⟨rfl, rfl, rfl, rfl, rfl⟩ rfl rfl rfl rfl rfl (by kernel_rfl) Try.func3 (by kernel_rfl)
    (of_decide_eq_true (by kernel_rfl)) (by unfold Func.isWrapper; first | (rw [if_pos (by decide +kernel)]; kernel_rfl) | (rw [if_neg (by decide +kernel)]; exact ⟨rfl, rfl⟩))
    (fun os started H enc _ => lifted os started H enc)

end Go.Proofs.Ytfhkfhpbalbgkaa.fnExactModelOk
namespace Go.Proofs.Ytfhkfhpbalbgkaa
theorem fnExactModelOk_holds : Rows.FnExactModelOkSaid := fnExactModelOk.over
end Go.Proofs.Ytfhkfhpbalbgkaa
