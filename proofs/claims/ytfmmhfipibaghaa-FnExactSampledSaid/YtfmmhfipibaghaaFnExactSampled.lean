/-
  FnExactSampled: what the function answers is what its model answers, at every argument: the law's call returns true and each argument reads afterwards as before, without any condition on the arguments.
-/
import Derived.Test.YtfmmhfipibaghaaRows
import Derived.Test.YtfmmhfipibaghaaRowI
import Derived.Test.YtfmmhfipibaghaaRowM
import Derived.Test.YtfmmhfipibaghaaRowA
import Derived.Test.YtfmmhfipibaghaaRowC
import Derived.Test.YtfmmhfipibaghaaRowL
import Derived.WalkKit
import Derived.ProofKit
import Derived.OpenShut
import Derived.ShutString
import Derived.ChangeOld
import Derived.Below
namespace Go.Proofs.Ytfmmhfipibaghaa.fnExactSampled
open Go.ChangeShapes Go.WideShapes Go.ChangeAt Go.RowKit Go.Proofs.Ytfmmhfipibaghaa.M
open Go.ChangeMaps (open_string shut_string)
set_option linter.unusedVariables false

theorem own : ownKnob Try.prog.godebug = none := by kernel_rfl
theorem laidOut : laidOutB Try.prog = true := by kernel_rfl

set_option maxRecDepth 100000 in
set_option maxHeartbeats 1600000 in
theorem walk (w : World) (a0 : R) (w0 : a0.Fit) (a1 : Int) (w1 : (Lit.int .i64 a1).wf = true) :
    Calls Try.prog 6 #[a0.v, .int .i64 a1] w fun e w' => e = .returned (.bool true) ∧ Below w.heap.size w w' := by
  obtain ⟨lo, hi⟩ := bounds_i64 w1
  have HZ := fun W => Lib.hid (szRow_any W a0 1048576 w0.key (by decide) (by decide))
  have HT := fun W => Lib.hid (toRow_any W a0)
  have H1 := fun W => Lib.hid (sSampled_any W a0 a1 w0.key)
  have H2 := fun W => Lib.hid (iSampled_any W a0 a1 w0 lo hi)
  have H3 := fun W => Lib.hid (eqRow_same W (sampledV a0 a1))
  generalize sampledV a0 a1 = r at *
  clear w0
  obtain ⟨key, kind, sum, st, last, n, mn, mx, total, dropped⟩ := a0
  obtain ⟨rkey, rkind, rsum, rst, rlast, rn, rmn, rmx, rtotal, rdropped⟩ := r
  unfold R.v at *
  simp only at *
  by_cases hneg : 1048576 - (key.size : Int) < 0
  · rw [if_pos hneg] at HZ
    go_enter Try.func6, Try.ntmps6
    go_wp2_with fail
    refine (HZ _).out.mono ?_
    rintro e u1 ⟨rfl, hb⟩
    have HX := Lib.hid (show RowL u1 w.heap.size ⟨key, kind, sum, st, last, n, mn, mx, total, dropped⟩ from (rowL_new w ⟨key, kind, sum, st, last, n, mn, mx, total, dropped⟩).below hb)
    have B0 := Lib.hid (((Below.refl _ _).alloc (Nat.le_refl _) _).trans (hb.mono (by simp [go_sem])) : Below w.heap.size w u1)
    clear hb
    obtain ⟨x0, x1, x2, x3, x4, x5, x6, x7, x8, x9⟩ := HX.out.get
    have lx := HX.out.lt
    go_wp2_with fail
    go_ret
    exact ⟨rfl, B0.out⟩
  · rw [if_neg hneg] at HZ
    have d : decide (1048576 - (key.size : Int) < 0) = false := decide_eq_false hneg
    generalize (key.size : Int) = sz at *
    go_enter Try.func6, Try.ntmps6
    go_wp2_with fail
    refine (HZ _).out.mono ?_
    rintro e u1 ⟨rfl, hb⟩
    have HX := Lib.hid (show RowL u1 w.heap.size ⟨key, kind, sum, st, last, n, mn, mx, total, dropped⟩ from (rowL_new w ⟨key, kind, sum, st, last, n, mn, mx, total, dropped⟩).below hb)
    have B0 := Lib.hid (((Below.refl _ _).alloc (Nat.le_refl _) _).trans (hb.mono (by simp [go_sem])) : Below w.heap.size w u1)
    clear hb
    obtain ⟨x0, x1, x2, x3, x4, x5, x6, x7, x8, x9⟩ := HX.out.get
    have lx := HX.out.lt
    go_wp2_with fail
    refine (HT _).out.mono ?_
    rintro e u2 ⟨rfl, hb⟩
    clear x0 x1 x2 x3 x4 x5 x6 x7 x8 x9 lx
    replace HX := Lib.hid (HX.out.below hb)
    replace B0 := Lib.hid (B0.out.trans (hb.mono B0.out.size))
    clear hb
    obtain ⟨x0, x1, x2, x3, x4, x5, x6, x7, x8, x9⟩ := HX.out.get
    have lx := HX.out.lt
    go_wp2_with fail
    refine (H1 _).out.mono ?_
    rintro e u3 ⟨rfl, hb⟩
    clear x0 x1 x2 x3 x4 x5 x6 x7 x8 x9 lx
    replace HX := Lib.hid (HX.out.below hb)
    replace B0 := Lib.hid (B0.out.trans (hb.mono B0.out.size))
    clear hb
    obtain ⟨x0, x1, x2, x3, x4, x5, x6, x7, x8, x9⟩ := HX.out.get
    have lx := HX.out.lt
    go_wp2_with fail
    refine (HT _).out.mono ?_
    rintro e u4 ⟨rfl, hb⟩
    clear x0 x1 x2 x3 x4 x5 x6 x7 x8 x9 lx
    replace HX := Lib.hid ((HX.out.alloc (.cells (rowCells ⟨rkey, rkind, rsum, rst, rlast, rn, rmn, rmx, rtotal, rdropped⟩) 25)).below hb)
    have HY := Lib.hid (show RowAt u4 u3.heap.size ⟨rkey, rkind, rsum, rst, rlast, rn, rmn, rmx, rtotal, rdropped⟩ from (rowAt_new u3 _ ⟨rkey, rkind, rsum, rst, rlast, rn, rmn, rmx, rtotal, rdropped⟩ rfl).below hb)
    replace B0 := Lib.hid ((B0.out.alloc B0.out.size _).trans (hb.mono (by simp [go_sem]; have := B0.out.size; omega)) : Below w.heap.size w u4)
    clear hb
    obtain ⟨x0, x1, x2, x3, x4, x5, x6, x7, x8, x9⟩ := HX.out.get
    have lx := HX.out.lt
    obtain ⟨y0, y1, y2, y3, y4, y5, y6, y7, y8, y9, yf⟩ := HY.out.get
    clear yf
    have ly := HY.out.lt
    go_wp2_with fail
    refine (H2 _).out.mono ?_
    rintro e u5 ⟨rfl, hb⟩
    clear x0 x1 x2 x3 x4 x5 x6 x7 x8 x9 lx y0 y1 y2 y3 y4 y5 y6 y7 y8 y9 ly
    replace HX := Lib.hid (HX.out.below hb)
    replace HY := Lib.hid (HY.out.below hb)
    replace B0 := Lib.hid (B0.out.trans (hb.mono B0.out.size))
    clear hb
    obtain ⟨x0, x1, x2, x3, x4, x5, x6, x7, x8, x9⟩ := HX.out.get
    have lx := HX.out.lt
    obtain ⟨y0, y1, y2, y3, y4, y5, y6, y7, y8, y9, yf⟩ := HY.out.get
    clear yf
    have ly := HY.out.lt
    go_wp2_with fail
    refine (H3 _).out.mono ?_
    rintro e u6 ⟨rfl, hb⟩
    clear x0 x1 x2 x3 x4 x5 x6 x7 x8 x9 lx y0 y1 y2 y3 y4 y5 y6 y7 y8 y9 ly
    replace HX := Lib.hid ((HX.out.alloc (.cells (rowCells ⟨rkey, rkind, rsum, rst, rlast, rn, rmn, rmx, rtotal, rdropped⟩) 25)).below hb)
    replace HY := Lib.hid ((HY.out.alloc (.cells (rowCells ⟨rkey, rkind, rsum, rst, rlast, rn, rmn, rmx, rtotal, rdropped⟩) 25)).below hb)
    replace B0 := Lib.hid ((B0.out.alloc B0.out.size _).trans (hb.mono (by simp [go_sem]; have := B0.out.size; omega)) : Below w.heap.size w u6)
    clear hb
    obtain ⟨x0, x1, x2, x3, x4, x5, x6, x7, x8, x9⟩ := HX.out.get
    have lx := HX.out.lt
    obtain ⟨y0, y1, y2, y3, y4, y5, y6, y7, y8, y9, yf⟩ := HY.out.get
    clear yf
    have ly := HY.out.lt
    go_wp2_with fail
    go_ret
    exact ⟨rfl, B0.out⟩

set_option maxRecDepth 100000 in
theorem lifted (os : Os) (started : os.Started) (H : Type) (enc : TypeId × Value → H) :
    ReturnsInHanded {} Try.checked os 6 .any (Rows.fnExactSampledSpec.pre6 enc Try.prog Try.f6 Rows.fnExactSampledRow.domain false) (Rows.fnExactSampledSpec.post enc Try.prog Try.f6 false true false false) := by
  refine returnsInHanded_of_change (C := Try.checked) own started (by kernel_rfl) Try.func6
    (ChangeSpec.witness6 (enc := enc) (C := Try.checked) false ⟨#[], #[.agg #[.string ByteArray.empty, .int .i64 0, .int .i64 0, .bool false, .int .i64 0, .int .i64 0, .int .i64 0, .int .i64 0, .int .i64 0, .int .i64 0], .int .i64 0], []⟩ 8 (by kernel_rfl) (by kernel_rfl) (by kernel_rfl) (by kernel_rfl)) ?_
  intro W base args ds gs before hval0 hW hcnd _
  have hval : ∀ (j : Nat) t v, Try.f6.params[j]? = some t → args[j]? = some v → Value.okWide Try.prog W .any base t v := hval0
  have hW' := hW
  obtain ⟨p, q, hA0, hV, rfl, hfz, hnd⟩ := hW
  have hA : DataW.TrodAll enc Try.prog W 0 (fun _ => true) true Try.f6.params.toList args.toList ds p := hA0
  rw [Try.params6] at hA hval
  obtain ⟨v0, vs0, d0, ds0, p0, q0, hargs, rfl, rfl, h0, r0⟩ := trodAll_cons hA
  obtain ⟨v1, vs1, d1, ds1, p1, q1, rfl, rfl, rfl, h1, r1⟩ := trodAll_cons r0
  obtain ⟨rfl, rfl, rfl⟩ := trodAll_nil r1
  obtain rfl : args = #[v0, v1] := by cases args; simp_all
  obtain ⟨rfl, rfl⟩ := trodVars_none hV
  have k0 := h0
  have lt0 : ∀ x ∈ p0, x.block < W.heap.size := by obtain ⟨m, hm⟩ := k0; exact DataW.trod_lt m _ _ _ hm
  obtain ⟨a0, rfl, w0⟩ := open_row (hval 0 30 v0 rfl rfl) h0
  obtain ⟨a1, rfl, rfl, rfl, w1⟩ := open_int Try.underlying3 (hval 1 3 v1 rfl rfl) h1
  clear hA0 hval0
  refine (walk W a0 w0 a1 w1).mono fun e W' ⟨he, bel⟩ => ?_
  subst he
  exact ⟨_, rfl, _, _, _, [], _, [], hW', trodAll_mk1 (shut_bool Try.underlying4 _), (trodAll_cons_mk (Below.trod laidOut (by kernel_rfl) (of_decide_eq_true (by kernel_rfl)) k0 bel lt0) (trodAll_cons_mk (shut_int Try.underlying3 w1) trodAll_mk0)), rfl, bel.frame _, fun h => by cases h⟩

theorem over : Rows.fnExactSampledRow.holds Try.pinned (OpenSpec.ofChange Rows.fnExactSampledSpec) :=
  OpenClaim.holds_of_wide 6 Try.f6 rfl rfl rfl rfl rfl rfl rfl ⟨rfl, rfl, rfl, rfl, rfl⟩ rfl rfl rfl rfl rfl (by kernel_rfl) Try.func6 (by kernel_rfl)
    (of_decide_eq_true (by kernel_rfl)) (by unfold Func.isWrapper; first | (rw [if_pos (by decide +kernel)]; kernel_rfl) | (rw [if_neg (by decide +kernel)]; exact ⟨rfl, rfl⟩))
    (fun os started H enc _ => lifted os started H enc)

end Go.Proofs.Ytfmmhfipibaghaa.fnExactSampled
namespace Go.Proofs.Ytfmmhfipibaghaa
theorem fnExactSampled_holds : Rows.FnExactSampledSaid := fnExactSampled.over
end Go.Proofs.Ytfmmhfipibaghaa
