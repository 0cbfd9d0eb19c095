/-
  FnExactPlaceOf: what the function answers is what its model answers, at every argument; it writes into no argument: the law's call returns true and each argument reads afterwards as before, without any condition on the arguments.
-/
import Derived.Test.YtjiaogbkmpjciaaRows
import Derived.Test.YtjiaogbkmpjciaaOrdS
import Derived.Test.YtjiaogbkmpjciaaOrdI
import Derived.Test.YtjiaogbkmpjciaaZd
import Derived.Test.YtjiaogbkmpjciaaZc
import Derived.Test.YtjiaogbkmpjciaaEvE
import Derived.Test.YtjiaogbkmpjciaaWorZ
import Derived.WalkKit
import Derived.ProofKit
import Derived.OpenShut
import Derived.ShutString
import Derived.ChangeOld
import Derived.Below
namespace Go.Proofs.Ytjiaogbkmpjciaa.fnExactPlaceOf
open Go.ChangeShapes Go.WideShapes Go.ChangeAt Go.RowKit Go.Proofs.Ytjiaogbkmpjciaa.M
open Go.ChangeMaps (open_string shut_string)
set_option linter.unusedVariables false
set_option linter.unusedSimpArgs false

theorem own : ownKnob Try.prog.godebug = none := by kernel_rfl
theorem laidOut : laidOutB Try.prog = true := by kernel_rfl

set_option maxRecDepth 100000 in
set_option maxHeartbeats 1600000 in
theorem walk (w : World) (a0 : Option Addr) (len0 cap0 : Nat) (z0 : List M.E) (w0 : ArgT 13 evDat zeroE w (.slice a0 len0 cap0) z0) (f0 : ∀ j, j < z0.length → (z0.getD j zeroE).Fit) (a1 : Int) (w1 : (Lit.int .i64 a1).wf = true) (a2 : Int) (w2 : (Lit.int .i64 a2).wf = true) :
    Calls Try.prog 3 #[.slice a0 len0 cap0, .int .i64 a1, .int .i64 a2] w fun e w' => e = .returned (.bool true) ∧ Below w.heap.size w w' := by
  have HIN0 := Lib.hid w0
  have HZ0 := fun W (h : ArgT 13 evDat zeroE W (.slice a0 len0 cap0) z0) => Lib.hid (szEvS_any W _ z0 1048576 h (fun j hj => ⟨(f0 j hj).op.key, (f0 j hj).rows.key⟩) (by decide) (by decide))
  have H1 := fun W v h => Lib.hid (sPlaceOf_any W v z0 a1 a2 h)
  have H2 := fun W v h => Lib.hid (iPlaceOf_any W v z0 a1 a2 h)
  generalize placeV z0 a1 a2 = r at *
  by_cases hneg0 : szEvSV z0 1048576 < 0
  · have d0 : decide (szEvSV z0 1048576 < 0) = true := decide_eq_true hneg0
    clear w0
    have B0 := Lib.hid (Below.refl w.heap.size w)
    go_enter Try.func3, Try.ntmps3
    go_wp2_with fail
    refine ((HZ0 w (HIN0.out.below B0.out)).out).mono ?_
    rintro e u1 ⟨rfl, hb⟩
    replace B0 := Lib.hid (B0.out.trans (hb.mono B0.out.size))
    clear hb
    go_wp2_with fail
    go_ret
    exact ⟨rfl, B0.out⟩
  · have d0 : decide (szEvSV z0 1048576 < 0) = false := decide_eq_false hneg0
    have htot := szEvSV_le (ls := z0) (l := 1048576) (by omega)
    have hl0 : z0.length ≤ 1048576 := by omega
    have hl1 : ∀ j, j < z0.length → (z0.getD j zeroE).rows.length ≤ 1048576 := fun j hj => by have := htot.2.2 j hj; omega
    clear htot w0
    have B0 := Lib.hid (Below.refl w.heap.size w)
    go_enter Try.func3, Try.ntmps3
    go_wp2_with fail
    refine ((HZ0 w (HIN0.out.below B0.out)).out).mono ?_
    rintro e u1 ⟨rfl, hb⟩
    replace B0 := Lib.hid (B0.out.trans (hb.mono B0.out.size))
    clear hb
    go_wp2_with fail
    refine (toEvS_any u1 _ z0 (HIN0.out.below B0.out) hl0 hl1).mono ?_
    rintro e u2 ⟨s0, rfl, ho, hb⟩
    have Os0 := Lib.hid (OwnY.arg ho evDat_len evDat_wf zeroE)
    clear ho
    replace B0 := Lib.hid (B0.out.trans (hb.mono B0.out.size))
    clear hb
    go_wp2_with fail
    refine ((H1 u2 _ Os0.out).out).mono ?_
    rintro e u3 ⟨rfl, hb⟩
    replace Os0 := Lib.hid (Os0.out.below hb)
    replace B0 := Lib.hid (B0.out.trans (hb.mono B0.out.size))
    clear hb
    go_wp2_with fail
    refine (toEvS_any u3 _ z0 (HIN0.out.below B0.out) hl0 hl1).mono ?_
    rintro e u4 ⟨x0, rfl, ho, hb⟩
    replace Os0 := Lib.hid (Os0.out.below hb)
    have Ox0 := Lib.hid (OwnY.arg ho evDat_len evDat_wf zeroE)
    clear ho
    replace B0 := Lib.hid (B0.out.trans (hb.mono B0.out.size))
    clear hb
    go_wp2_with fail
    refine ((H2 u4 _ Ox0.out).out).mono ?_
    rintro e u5 ⟨rfl, hb⟩
    replace Os0 := Lib.hid (Os0.out.below hb)
    replace Ox0 := Lib.hid (Ox0.out.below hb)
    replace B0 := Lib.hid (B0.out.trans (hb.mono B0.out.size))
    clear hb
    go_wp2_with fail
    refine (toEvS_any u5 _ z0 (HIN0.out.below B0.out) hl0 hl1).mono ?_
    rintro e u6 ⟨y0, rfl, ho, hb⟩
    replace Os0 := Lib.hid (Os0.out.below hb)
    replace Ox0 := Lib.hid (Ox0.out.below hb)
    have Oy0 := Lib.hid (OwnY.arg ho evDat_len evDat_wf zeroE)
    clear ho
    replace B0 := Lib.hid (B0.out.trans (hb.mono B0.out.size))
    clear hb
    go_wp2_with fail
    refine (eqEvS_same u6 _ _ z0 Ox0.out Oy0.out).mono ?_
    rintro e u7 ⟨rfl, hb⟩
    replace Os0 := Lib.hid (Os0.out.below hb)
    replace Ox0 := Lib.hid (Ox0.out.below hb)
    replace Oy0 := Lib.hid (Oy0.out.below hb)
    replace B0 := Lib.hid (B0.out.trans (hb.mono B0.out.size))
    clear hb
    go_wp2_with fail
    go_ret
    exact ⟨rfl, B0.out⟩

set_option maxRecDepth 100000 in
theorem lifted (os : Os) (started : os.Started) (H : Type) (enc : TypeId × Value → H) :
    ReturnsInHanded {} Try.checked os 3 .any (Rows.fnExactPlaceOfSpec.pre6 enc Try.prog Try.f3 Rows.fnExactPlaceOfRow.domain false) (Rows.fnExactPlaceOfSpec.post enc Try.prog Try.f3 false true false false) := by
  refine returnsInHanded_of_change (C := Try.checked) own started (by kernel_rfl) Try.func3
    (ChangeSpec.witness6 (enc := enc) (C := Try.checked) false ⟨#[], #[.slice none 0 0, .int .i64 0, .int .i64 0], []⟩ 8 (by kernel_rfl) (by kernel_rfl) (by kernel_rfl) (by kernel_rfl)) ?_
  intro W base args ds gs before hval0 hW hcnd _
  have hval : ∀ (j : Nat) t v, Try.f3.params[j]? = some t → args[j]? = some v → Value.okWide Try.prog W .any base t v := hval0
  have hW' := hW
  obtain ⟨p, q, hA0, hV, rfl, hfz, hnd⟩ := hW
  have hA : DataW.TrodAll enc Try.prog W 0 (fun _ => true) true Try.f3.params.toList args.toList ds p := hA0
  rw [Try.params3] at hA hval
  obtain ⟨v0, vs0, d0, ds0, p0, q0, hargs, rfl, rfl, h0, r0⟩ := trodAll_cons hA
  obtain ⟨v1, vs1, d1, ds1, p1, q1, rfl, rfl, rfl, h1, r1⟩ := trodAll_cons r0
  obtain ⟨v2, vs2, d2, ds2, p2, q2, rfl, rfl, rfl, h2, r2⟩ := trodAll_cons r1
  obtain ⟨rfl, rfl, rfl⟩ := trodAll_nil r2
  obtain rfl : args = #[v0, v1, v2] := by cases args; simp_all
  obtain ⟨rfl, rfl⟩ := trodVars_none hV
  obtain ⟨a0, len0, cap0, rfl⟩ := okWide_slice Try.underlying22 (hval 0 22 v0 rfl rfl)
  have k0 := h0
  have lt0 : ∀ x ∈ p0, x.block < W.heap.size := by obtain ⟨m, hm⟩ := k0; exact DataW.trod_lt m _ _ _ hm
  obtain ⟨z0, w0, f0⟩ : ∃ zs : List M.E, ArgT 13 evDat zeroE W (.slice a0 len0 cap0) zs ∧ ∀ j, j < zs.length → (zs.getD j zeroE).Fit := by
    obtain ⟨fuel, hf⟩ := h0
    exact rd_evs (by simpa [Value.cells] using hf)
  obtain ⟨a1, rfl, rfl, rfl, w1⟩ := open_int Try.underlying3 (hval 1 3 v1 rfl rfl) h1
  obtain ⟨a2, rfl, rfl, rfl, w2⟩ := open_int Try.underlying3 (hval 2 3 v2 rfl rfl) h2
  clear hA0 hval0
  refine (walk W a0 len0 cap0 z0 w0 f0 a1 w1 a2 w2).mono fun e W' ⟨he, bel⟩ => ?_
  subst he
  exact ⟨_, rfl, _, _, _, [], _, [], hW', trodAll_mk1 (shut_bool Try.underlying4 _), (trodAll_cons_mk (Below.trod laidOut (by kernel_rfl) (of_decide_eq_true (by kernel_rfl)) k0 bel lt0) (trodAll_cons_mk (shut_int Try.underlying3 w1) (trodAll_cons_mk (shut_int Try.underlying3 w2) trodAll_mk0))), rfl, bel.frame _, fun h => by cases h⟩

theorem over : Rows.fnExactPlaceOfRow.holds Try.pinned (OpenSpec.ofChange Rows.fnExactPlaceOfSpec) :=
  OpenClaim.holds_of_wide 3 Try.f3 rfl rfl rfl rfl rfl rfl rfl ⟨rfl, rfl, rfl, rfl, rfl⟩ rfl rfl rfl rfl rfl (by kernel_rfl) Try.func3 (by kernel_rfl)
    (of_decide_eq_true (by kernel_rfl)) (by unfold Func.isWrapper; first | (rw [if_pos (by decide +kernel)]; kernel_rfl) | (rw [if_neg (by decide +kernel)]; exact ⟨rfl, rfl⟩))
    (fun os started H enc _ => lifted os started H enc)

end Go.Proofs.Ytjiaogbkmpjciaa.fnExactPlaceOf
namespace Go.Proofs.Ytjiaogbkmpjciaa
theorem fnExactPlaceOf_holds : Rows.FnExactPlaceOfSaid := fnExactPlaceOf.over
end Go.Proofs.Ytjiaogbkmpjciaa
