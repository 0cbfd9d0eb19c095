/-
  FnExactJobOk: what the function answers is what its model answers, at every argument: the law's call returns true and each argument reads afterwards as before, without any condition on the arguments.
-/
import Derived.Test.YtfemdhknnfmpcaaRows
import Derived.Test.YtfemdhknnfmpcaaJobI
import Derived.Test.YtfemdhknnfmpcaaJobA
import Derived.Test.YtfemdhknnfmpcaaJobS
import Derived.Test.YtfemdhknnfmpcaaJobC
import Derived.Test.YtfemdhknnfmpcaaJobE
import Derived.Test.YtfemdhknnfmpcaaJobZ
import Derived.Test.YtfemdhknnfmpcaaOpen
import Derived.Test.YtfemdhknnfmpcaaSysL
import Derived.WalkKit
import Derived.ProofKit
import Derived.OpenShut
import Derived.ShutString
import Derived.ChangeOld
import Derived.Below
namespace Go.Proofs.Ytfemdhknnfmpcaa.fnExactJobOk
open Go.ChangeShapes Go.WideShapes Go.ChangeAt Go.RowKit Go.Proofs.Ytfemdhknnfmpcaa.M
open Go.ChangeMaps (open_string shut_string)
set_option linter.unusedVariables false
set_option linter.unusedSimpArgs false

theorem own : ownKnob Try.prog.godebug = none := by kernel_rfl
theorem laidOut : laidOutB Try.prog = true := by kernel_rfl

set_option maxRecDepth 100000 in
set_option maxHeartbeats 1600000 in
theorem walk (w : World) (z0 : J) (vk0 vr0 : Value) (w0 : jobIn w z0 vk0 vr0) (f0 : z0.Fit) :
    Calls Try.prog 5 #[.agg (jobVals z0 vk0 vr0)] w fun e w' => e = .returned (.bool true) ∧ Below w.heap.size w w' := by
  have HIN0 := Lib.hid w0
  have HZ := fun W (h : jobIn W z0 vk0 vr0) => Lib.hid (szJob_any W z0 vk0 vr0 1048576 h f0.op.key (by decide) (by decide))
  have H1 := fun W a b (h : jobIn W z0 a b) => Lib.hid (sJobOk_any W z0 a b h f0.op.key)
  have H2 := fun W a b (h : jobIn W z0 a b) => Lib.hid (iJobOk_any W z0 a b h f0.op)
  generalize jobOkV z0 = r at *
  have HE := fun W a b c d (h : jobIn W z0 a b) (k : jobIn W z0 c d) => Lib.hid (eqJob_same W z0 a b c d h k)
  have hulL := Try.underlying38
  have hulI := Try.underlying42
  by_cases hneg0 : szJobV z0 1048576 < 0
  · have d0 : decide (szJobV z0 1048576 < 0) = true := decide_eq_true hneg0
    clear w0
    go_enter Try.func5, Try.ntmps5
    have B0 := Lib.hid (below_oneL w (.cells (jobVals z0 vk0 vr0) 38))
    have HG := Lib.hid (Blk.new w w.heap.size 38 (jobVals z0 vk0 vr0) rfl)
    go_wp2_with ((with_reducible show wpList _ _ _ _ _ _); refine wpList_load_row rfl 38 _ rfl w.heap.size rfl 38 (jobVals z0 vk0 vr0) (0, 0) _ HG.out hulL rfl (by kernel_rfl) ?_)
    refine ((HZ _ (jobIn_below HIN0.out B0.out)).out).mono ?_
    rintro e u1 ⟨rfl, hb⟩
    replace HG := Lib.hid (HG.out.below hb)
    replace B0 := Lib.hid (B0.out.trans (hb.mono B0.out.size))
    clear hb
    go_wp2_with fail
    go_ret
    exact ⟨rfl, B0.out⟩
  · have d0 : decide (szJobV z0 1048576 < 0) = false := decide_eq_false hneg0
    have hsm := szJobV_le (r := z0) (l := 1048576) (by omega)
    have hlk : z0.keys.length ≤ 1048576 := by omega
    have hlr : z0.raw.length ≤ 1048576 := by omega
    clear w0 hsm
    generalize szJobV z0 1048576 = sz at *
    go_enter Try.func5, Try.ntmps5
    have B0 := Lib.hid (below_oneL w (.cells (jobVals z0 vk0 vr0) 38))
    have HG := Lib.hid (Blk.new w w.heap.size 38 (jobVals z0 vk0 vr0) rfl)
    go_wp2_with ((with_reducible show wpList _ _ _ _ _ _); refine wpList_load_row rfl 38 _ rfl w.heap.size rfl 38 (jobVals z0 vk0 vr0) (0, 0) _ HG.out hulL rfl (by kernel_rfl) ?_)
    refine ((HZ _ (jobIn_below HIN0.out B0.out)).out).mono ?_
    rintro e u1 ⟨rfl, hb⟩
    replace HG := Lib.hid (HG.out.below hb)
    replace B0 := Lib.hid (B0.out.trans (hb.mono B0.out.size))
    clear hb
    go_wp2_with ((with_reducible show wpList _ _ _ _ _ _); refine wpList_load_row rfl 38 _ rfl w.heap.size rfl 38 (jobVals z0 vk0 vr0) (0, 0) _ HG.out hulL rfl (by kernel_rfl) ?_)
    refine (toJob_any _ z0 vk0 vr0 (jobIn_below HIN0.out B0.out) hlk hlr).mono ?_
    rintro e u2 ⟨sk, sr, rfl, ho, hb⟩
    replace HG := Lib.hid (HG.out.below hb)
    replace B0 := Lib.hid (B0.out.trans (hb.mono B0.out.size))
    have Os := Lib.hid (heap_job ho)
    clear ho
    clear hb
    go_wp2_with fail
    refine ((H1 _ _ _ Os.out).out).mono ?_
    rintro e u3 ⟨rfl, hb⟩
    replace HG := Lib.hid (HG.out.below hb)
    replace B0 := Lib.hid (B0.out.trans (hb.mono B0.out.size))
    replace Os := Lib.hid (jobIn_below Os.out hb)
    clear hb
    go_wp2_with ((with_reducible show wpList _ _ _ _ _ _); refine wpList_load_row rfl 38 _ rfl w.heap.size rfl 38 (jobVals z0 vk0 vr0) (0, 0) _ HG.out hulL rfl (by kernel_rfl) ?_)
    refine (toJob_any _ z0 vk0 vr0 (jobIn_below HIN0.out B0.out) hlk hlr).mono ?_
    rintro e u4 ⟨xk, xr, rfl, ho, hb⟩
    replace HG := Lib.hid (HG.out.below hb)
    replace B0 := Lib.hid (B0.out.trans (hb.mono B0.out.size))
    replace Os := Lib.hid (jobIn_below Os.out hb)
    have Ox := Lib.hid (heap_job ho)
    clear ho
    clear hb
    have hoc : Array.all (jobVals z0 xk xr) (·.oneCell') = true := by
      obtain ⟨⟨A1, c1, rfl, _⟩, A2, c2, rfl, _⟩ := Ox.out
      simp [jobVals, Value.oneCell']
    go_upto_region 7 with ((with_reducible show wpList _ _ _ _ _ _); refine wpList_store_row rfl 42 _ _ rfl u4.heap.size (jobVals z0 xk xr) rfl rfl 42 _ (Blk.new u4 u4.heap.size 42 #[.bool false, .int .i64 0, .string ⟨#[]⟩, .int .i64 0, .int .i64 0, .int .i64 0, .int .i64 0, .int .i64 0, .int .i64 0, .int .i64 0, .int .i64 0, .int .i64 0, .int .i64 0, .int .i64 0, .int .i64 0, .int .i64 0, .slice none 0 0, .slice none 0 0] rfl) (by kernel_rfl) rfl hoc ?_)
    obtain ⟨gx, hgx⟩ : ∃ g, g = u4.heap.size := ⟨_, rfl⟩
    refine wp_gen (fun X => LawJ w w.heap.size gx z0 vk0 vr0 xk xr X) ?_ ?_
    · have hbx := below_setRow' (below_oneL u4 (.cells #[.bool false, .int .i64 0, .string ⟨#[]⟩, .int .i64 0, .int .i64 0, .int .i64 0, .int .i64 0, .int .i64 0, .int .i64 0, .int .i64 0, .int .i64 0, .int .i64 0, .int .i64 0, .int .i64 0, .int .i64 0, .int .i64 0, .slice none 0 0, .slice none 0 0] 42)) (Nat.le_refl u4.heap.size) (jobVals z0 xk xr)
      subst hgx
      exact ⟨HG.out.below hbx, setRow_heap _ _ _ _ _ _ (Blk.new u4 u4.heap.size 42 #[.bool false, .int .i64 0, .string ⟨#[]⟩, .int .i64 0, .int .i64 0, .int .i64 0, .int .i64 0, .int .i64 0, .int .i64 0, .int .i64 0, .int .i64 0, .int .i64 0, .int .i64 0, .int .i64 0, .int .i64 0, .int .i64 0, .slice none 0 0, .slice none 0 0] rfl), jobIn_below (jobIn_below HIN0.out B0.out) hbx, jobIn_below Ox.out hbx, B0.out.trans (hbx.mono B0.out.size)⟩
    rintro X hl
    have HG := Lib.hid hl.g
    have HY := Lib.hid hl.y
    have HIN := Lib.hid hl.a
    have Ox := Lib.hid hl.x
    have B0 := Lib.hid hl.b
    clear hl Os hoc HZ H1
    rw [← hgx]
    clear hgx
    go_wp2_with ((with_reducible show wpList _ _ _ _ _ _); refine wpList_load_row rfl 42 _ rfl gx rfl 42 (jobVals z0 xk xr) (0, 0) _ HY.out hulI rfl (by kernel_rfl) ?_)
    refine (H2 _ _ _ Ox.out).out.mono ?_
    rintro e V ⟨rfl, hb⟩
    have HS := Lib.hid (show LawJ w w.heap.size gx z0 vk0 vr0 xk xr V.drew from LawJ.next (LawJ.next ⟨HG.out, HY.out, HIN.out, Ox.out, B0.out⟩ hb) (below_drew _ _))
    clear hb HG HY HIN Ox B0
    go_upto_region 10 with fail
    refine wp_region_held_drew (S := fun w' => LawJ w w.heap.size gx z0 vk0 vr0 xk xr w') (by kernel_rfl) HS.out (fun hHeld => ?_)
    refine' wpAnyH_take (i := 0) (v := _) rfl (by kernel_rfl) (by kernel_rfl) (by kernel_rfl) (fun _ _ _ h => h) (yieldsIf_load_mid (by rfl) 42 _ rfl gx 0 rfl ((jobVals z0 xk xr)).toList _ (fun w h => h.y.range) hulI rfl (by kernel_rfl)) hHeld ?_
    simp only [Act.put, List.setIfInBounds_toArray, List.set_cons_zero, List.set_cons_succ]
    refine' wpAnyH_take (i := 1) (v := _) rfl (by kernel_rfl) (by kernel_rfl) (by kernel_rfl) (fun _ _ _ h => h) (yieldsIf_load_mid (by rfl) 38 _ rfl w.heap.size 0 rfl ((jobVals z0 vk0 vr0)).toList _ (fun w h => h.g.range) hulL rfl (by kernel_rfl)) hHeld ?_
    simp only [Act.put, List.setIfInBounds_toArray, List.set_cons_zero, List.set_cons_succ]
    refine wpAnyH_ready (rs := [2]) (by kernel_rfl) (by simp) ?_
    refine AllReadyH.cons rfl (fun K hK => ?_) AllReadyH.nil
    go_simp
    refine (toJob_any _ z0 vk0 vr0 hHeld.a hlk hlr).mono ?_
    rintro e V2 ⟨yk, yr, rfl, ho, hb⟩
    refine hK.out _ _ (hHeld.next hb) (fun hHeld2 => ?_)
    have Oy := Lib.hid (heap_job ho)
    clear hK K hHeld hb ho
    try simp only [Act.put, List.setIfInBounds_toArray, List.set_cons_zero, List.set_cons_succ]
    refine wpAnyH_ready (rs := [3]) (by kernel_rfl) (by simp) ?_
    refine AllReadyH.cons rfl (fun K hK => ?_) AllReadyH.nil
    go_simp
    refine (HE _ _ _ _ _ hHeld2.x Oy.out).out.mono ?_
    rintro e V3 ⟨rfl, hb⟩
    refine hK.out _ _ (hHeld2.next hb) (fun hHeld => ?_)
    clear hK K hHeld2 hb Oy
    try simp only [Act.put, List.setIfInBounds_toArray, List.set_cons_zero, List.set_cons_succ]
    refine wpAnyH_ready (rs := [4]) (by kernel_rfl) (by simp) ?_
    refine AllReadyH.cons rfl (fun K hK => ?_) AllReadyH.nil
    go_simp
    refine hK.out _ _ hHeld (fun hHeld => ?_)
    clear hK K
    try simp only [Act.put, List.setIfInBounds_toArray, List.set_cons_zero, List.set_cons_succ]
    refine wpAnyH_done (by kernel_rfl) ?_ _
    go_wp2_with fail
    go_ret
    exact ⟨rfl, hHeld.b⟩

set_option maxRecDepth 100000 in
theorem lifted (os : Os) (started : os.Started) (H : Type) (enc : TypeId × Value → H) :
    ReturnsInHanded {} Try.checked os 5 .any (Rows.fnExactJobOkSpec.pre6 enc Try.prog Try.f5 Rows.fnExactJobOkRow.domain false) (Rows.fnExactJobOkSpec.post enc Try.prog Try.f5 false true false false) := by
  refine returnsInHanded_of_change (C := Try.checked) own started (by kernel_rfl) Try.func5
    (ChangeSpec.witness6 (enc := enc) (C := Try.checked) false ⟨#[], #[.agg #[.bool false, .int .i64 0, .string ByteArray.empty, .int .i64 0, .int .i64 0, .int .i64 0, .int .i64 0, .int .i64 0, .int .i64 0, .int .i64 0, .int .i64 0, .int .i64 0, .int .i64 0, .int .i64 0, .int .i64 0, .int .i64 0, .slice none 0 0, .slice none 0 0]], []⟩ 8 (by kernel_rfl) (by kernel_rfl) (by kernel_rfl) (by kernel_rfl)) ?_
  intro W base args ds gs before hval0 hW hcnd _
  have hval : ∀ (j : Nat) t v, Try.f5.params[j]? = some t → args[j]? = some v → Value.okWide Try.prog W .any base t v := hval0
  have hW' := hW
  obtain ⟨p, q, hA0, hV, rfl, hfz, hnd⟩ := hW
  have hA : DataW.TrodAll enc Try.prog W 0 (fun _ => true) true Try.f5.params.toList args.toList ds p := hA0
  rw [Try.params5] at hA hval
  obtain ⟨v0, vs0, d0, ds0, p0, q0, hargs, rfl, rfl, h0, r0⟩ := trodAll_cons hA
  obtain ⟨rfl, rfl, rfl⟩ := trodAll_nil r0
  obtain rfl : args = #[v0] := by cases args; simp_all
  obtain ⟨rfl, rfl⟩ := trodVars_none hV
  have k0 := h0
  have lt0 : ∀ x ∈ p0, x.block < W.heap.size := by obtain ⟨m, hm⟩ := k0; exact DataW.trod_lt m _ _ _ hm
  obtain ⟨z0, vk0, vr0, rfl, w0, f0⟩ := open_job (hval 0 38 v0 rfl rfl) h0
  clear hA0 hval0
  refine (walk W z0 vk0 vr0 w0 f0).mono fun e W' ⟨he, bel⟩ => ?_
  subst he
  exact ⟨_, rfl, _, _, _, [], _, [], hW', trodAll_mk1 (shut_bool Try.underlying4 _), (trodAll_cons_mk (Below.trod laidOut (by kernel_rfl) (of_decide_eq_true (by kernel_rfl)) k0 bel lt0) trodAll_mk0), rfl, bel.frame _, fun h => by cases h⟩

theorem over : Rows.fnExactJobOkRow.holds Try.pinned (OpenSpec.ofChange Rows.fnExactJobOkSpec) :=
  OpenClaim.holds_of_wide 5 Try.f5 rfl rfl rfl rfl rfl rfl rfl ⟨rfl, rfl, rfl, rfl, rfl⟩ rfl rfl rfl rfl rfl (by kernel_rfl) Try.func5 (by kernel_rfl)
    (of_decide_eq_true (by kernel_rfl)) (by unfold Func.isWrapper; first | (rw [if_pos (by decide +kernel)]; kernel_rfl) | (rw [if_neg (by decide +kernel)]; exact ⟨rfl, rfl⟩))
    (fun os started H enc _ => lifted os started H enc)

end Go.Proofs.Ytfemdhknnfmpcaa.fnExactJobOk
namespace Go.Proofs.Ytfemdhknnfmpcaa
theorem fnExactJobOk_holds : Rows.FnExactJobOkSaid := fnExactJobOk.over
end Go.Proofs.Ytfemdhknnfmpcaa
