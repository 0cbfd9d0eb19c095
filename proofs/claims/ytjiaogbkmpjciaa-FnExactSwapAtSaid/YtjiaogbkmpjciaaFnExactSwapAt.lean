/-
  FnExactSwapAt: what the function answers is what its model answers, at every argument; it writes into no argument: the law's call returns true and each argument reads afterwards as before, without any condition on the arguments.
-/
import Derived.Test.YtjiaogbkmpjciaaRows
import Derived.Test.YtjiaogbkmpjciaaOrdS
import Derived.Test.YtjiaogbkmpjciaaOrdI
import Derived.Test.YtjiaogbkmpjciaaZd
import Derived.Test.YtjiaogbkmpjciaaZc
import Derived.Test.YtjiaogbkmpjciaaEvE
import Derived.Test.YtjiaogbkmpjciaaWorZ
import Derived.WalkKit
import Derived.ProofKit
import Derived.OpenShut
import Derived.ShutString
import Derived.ChangeOld
import Derived.Below
namespace Go.Proofs.Ytjiaogbkmpjciaa.fnExactSwapAt
open Go.ChangeShapes Go.WideShapes Go.ChangeAt Go.RowKit Go.Proofs.Ytjiaogbkmpjciaa.M
open Go.ChangeMaps (open_string shut_string)
set_option linter.unusedVariables false
set_option linter.unusedSimpArgs false

theorem own : ownKnob Try.prog.godebug = none := by kernel_rfl
theorem laidOut : laidOutB Try.prog = true := by kernel_rfl

set_option maxRecDepth 100000 in
set_option maxHeartbeats 1600000 in
theorem walk (w : World) (a0 : Option Addr) (len0 cap0 : Nat) (z0 : List M.E) (w0 : ArgT 13 evDat zeroE w (.slice a0 len0 cap0) z0) (f0 : ∀ j, j < z0.length → (z0.getD j zeroE).Fit) (a1 : Int) (w1 : (Lit.int .i64 a1).wf = true) :
    Calls Try.prog 4 #[.slice a0 len0 cap0, .int .i64 a1] w fun e w' => e = .returned (.bool true) ∧ Below w.heap.size w w' := by
  have HIN0 := Lib.hid w0
  have HZ0 := fun W (h : ArgT 13 evDat zeroE W (.slice a0 len0 cap0) z0) => Lib.hid (szEvS_any W _ z0 1048576 h (fun j hj => ⟨(f0 j hj).op.key, (f0 j hj).rows.key⟩) (by decide) (by decide))
  have H1 := fun W v h => Lib.hid (sSwapAt_any W v z0 a1 h)
  have H2 := fun W v h => Lib.hid (iSwapAt_any W v z0 a1 h f0 (w1))
  generalize swapV z0 a1 = r at *
  by_cases hneg0 : szEvSV z0 1048576 < 0
  · have d0 : decide (szEvSV z0 1048576 < 0) = true := decide_eq_true hneg0
    clear w0
    have B0 := Lib.hid (Below.refl w.heap.size w)
    go_enter Try.func4, Try.ntmps4
    go_wp2_with fail
    refine ((HZ0 w (HIN0.out.below B0.out)).out).mono ?_
    rintro e u1 ⟨rfl, hb⟩
    replace B0 := Lib.hid (B0.out.trans (hb.mono B0.out.size))
    clear hb
    go_wp2_with fail
    go_ret
    exact ⟨rfl, B0.out⟩
  · have d0 : decide (szEvSV z0 1048576 < 0) = false := decide_eq_false hneg0
    have htot := szEvSV_le (ls := z0) (l := 1048576) (by omega)
    have hl0 : z0.length ≤ 1048576 := by omega
    have hl1 : ∀ j, j < z0.length → (z0.getD j zeroE).rows.length ≤ 1048576 := fun j hj => by have := htot.2.2 j hj; omega
    clear htot w0
    have B0 := Lib.hid (Below.refl w.heap.size w)
    go_enter Try.func4, Try.ntmps4
    go_wp2_with fail
    refine ((HZ0 w (HIN0.out.below B0.out)).out).mono ?_
    rintro e u1 ⟨rfl, hb⟩
    replace B0 := Lib.hid (B0.out.trans (hb.mono B0.out.size))
    clear hb
    go_wp2_with fail
    refine (toEvS_any u1 _ z0 (HIN0.out.below B0.out) hl0 hl1).mono ?_
    rintro e u2 ⟨s0, rfl, ho, hb⟩
    have Os0 := Lib.hid (OwnY.arg ho evDat_len evDat_wf zeroE)
    clear ho
    replace B0 := Lib.hid (B0.out.trans (hb.mono B0.out.size))
    clear hb
    go_wp2_with fail
    refine ((H1 u2 _ Os0.out).out).mono ?_
    rintro e u3 ⟨rfl, hb⟩
    replace Os0 := Lib.hid (Os0.out.below hb)
    replace B0 := Lib.hid (B0.out.trans (hb.mono B0.out.size))
    clear hb
    go_wp2_with fail
    refine (toEvS_any u3 _ z0 (HIN0.out.below B0.out) hl0 hl1).mono ?_
    rintro e u4 ⟨x0, rfl, ho, hb⟩
    replace Os0 := Lib.hid (Os0.out.below hb)
    have Ox0 := Lib.hid (OwnY.arg ho evDat_len evDat_wf zeroE)
    clear ho
    replace B0 := Lib.hid (B0.out.trans (hb.mono B0.out.size))
    clear hb
    go_wp2_with fail
    refine ((H2 u4 _ Ox0.out).out).mono ?_
    rintro e u5 ⟨rfl, hb⟩
    replace Os0 := Lib.hid (Os0.out.below hb)
    replace Ox0 := Lib.hid (Ox0.out.below hb)
    replace B0 := Lib.hid (B0.out.trans (hb.mono B0.out.size))
    clear hb
    go_wp2_with fail
    refine (toEvS_any u5 _ z0 (HIN0.out.below B0.out) hl0 hl1).mono ?_
    rintro e u6 ⟨y0, rfl, ho, hb⟩
    replace Os0 := Lib.hid (Os0.out.below hb)
    replace Ox0 := Lib.hid (Ox0.out.below hb)
    have Oy0 := Lib.hid (OwnY.arg ho evDat_len evDat_wf zeroE)
    clear ho
    replace B0 := Lib.hid (B0.out.trans (hb.mono B0.out.size))
    clear hb
    go_wp2_with fail
    refine (eqEvS_same u6 _ _ z0 Ox0.out Oy0.out).mono ?_
    rintro e u7 ⟨rfl, hb⟩
    replace Os0 := Lib.hid (Os0.out.below hb)
    replace Ox0 := Lib.hid (Ox0.out.below hb)
    replace Oy0 := Lib.hid (Oy0.out.below hb)
    replace B0 := Lib.hid (B0.out.trans (hb.mono B0.out.size))
    clear hb
    go_wp2_with fail
    go_ret
    exact ⟨rfl, B0.out⟩

set_option maxRecDepth 100000 in
theorem lifted (os : Os) (started : os.Started) (H : Type) (enc : TypeId × Value → H) :
    ReturnsInHanded {} Try.checked os 4 .any (Rows.fnExactSwapAtSpec.pre6 enc Try.prog Try.f4 Rows.fnExactSwapAtRow.domain false) (Rows.fnExactSwapAtSpec.post enc Try.prog Try.f4 false true false false) := by
  refine returnsInHanded_of_change (C := Try.checked) own started (by kernel_rfl) Try.func4
    (ChangeSpec.witness6 (enc := enc) (C := Try.checked) false ⟨#[], #[.slice none 0 0, .int .i64 0], []⟩ 8 (by kernel_rfl) (by kernel_rfl) (by kernel_rfl) (by kernel_rfl)) ?_
  intro W base args ds gs before hval0 hW hcnd _
  have hval : ∀ (j : Nat) t v, Try.f4.params[j]? = some t → args[j]? = some v → Value.okWide Try.prog W .any base t v := hval0
  have hW' := hW
  obtain ⟨p, q, hA0, hV, rfl, hfz, hnd⟩ := hW
  have hA : DataW.TrodAll enc Try.prog W 0 (fun _ => true) true Try.f4.params.toList args.toList ds p := hA0
  rw [Try.params4] at hA hval
  obtain ⟨v0, vs0, d0, ds0, p0, q0, hargs, rfl, rfl, h0, r0⟩ := trodAll_cons hA
  obtain ⟨v1, vs1, d1, ds1, p1, q1, rfl, rfl, rfl, h1, r1⟩ := trodAll_cons r0
  obtain ⟨rfl, rfl, rfl⟩ := trodAll_nil r1
  obtain rfl : args = #[v0, v1] := by cases args; simp_all
  obtain ⟨rfl, rfl⟩ := trodVars_none hV
  obtain ⟨a0, len0, cap0, rfl⟩ := okWide_slice Try.underlying22 (hval 0 22 v0 rfl rfl)
  have k0 := h0
  have lt0 : ∀ x ∈ p0, x.block < W.heap.size := by obtain ⟨m, hm⟩ := k0; exact DataW.trod_lt m _ _ _ hm
  obtain ⟨z0, w0, f0⟩ : ∃ zs : List M.E, ArgT 13 evDat zeroE W (.slice a0 len0 cap0) zs ∧ ∀ j, j < zs.length → (zs.getD j zeroE).Fit := by
    obtain ⟨fuel, hf⟩ := h0
    exact rd_evs (by simpa [Value.cells] using hf)
  obtain ⟨a1, rfl, rfl, rfl, w1⟩ := open_int Try.underlying3 (hval 1 3 v1 rfl rfl) h1
  clear hA0 hval0
  refine (walk W a0 len0 cap0 z0 w0 f0 a1 w1).mono fun e W' ⟨he, bel⟩ => ?_
  subst he
  exact ⟨_, rfl, _, _, _, [], _, [], hW', trodAll_mk1 (shut_bool Try.underlying4 _), (trodAll_cons_mk (Below.trod laidOut (by kernel_rfl) (of_decide_eq_true (by kernel_rfl)) k0 bel lt0) (trodAll_cons_mk (shut_int Try.underlying3 w1) trodAll_mk0)), rfl, bel.frame _, fun h => by cases h⟩

theorem over : Rows.fnExactSwapAtRow.holds Try.pinned (OpenSpec.ofChange Rows.fnExactSwapAtSpec) :=
  OpenClaim.holds_of_wide 4 Try.f4 rfl rfl rfl rfl rfl rfl rfl ⟨rfl, rfl, rfl, rfl, rfl⟩ rfl rfl rfl rfl rfl (by kernel_rfl) Try.func4 (by kernel_rfl)
    (of_decide_eq_true (by kernel_rfl)) (by unfold Func.isWrapper; first | (rw [if_pos (by decide +kernel)]; kernel_rfl) | (rw [if_neg (by decide +kernel)]; exact ⟨rfl, rfl⟩))
    (fun os started H enc _ => lifted os started H enc)

end Go.Proofs.Ytjiaogbkmpjciaa.fnExactSwapAt
namespace Go.Proofs.Ytjiaogbkmpjciaa
theorem fnExactSwapAt_holds : Rows.FnExactSwapAtSaid := fnExactSwapAt.over
end Go.Proofs.Ytjiaogbkmpjciaa
