/-
  FnExactSameReport: what the function answers is what its model answers, at every argument: the law's call returns true and each argument reads afterwards as before, without any condition on the arguments.
-/
import Derived.Test.YtfmmhfipibaghaaRows
import Derived.Test.YtfmmhfipibaghaaRpI
import Derived.Test.YtfmmhfipibaghaaRpS
import Derived.Test.YtfmmhfipibaghaaRwsA
import Derived.Test.YtfmmhfipibaghaaRwsC
import Derived.WalkKit
import Derived.ProofKit
import Derived.OpenShut
import Derived.ShutString
import Derived.ChangeOld
import Derived.Below
namespace Go.Proofs.Ytfmmhfipibaghaa.fnExactSameReport
open Go.ChangeShapes Go.WideShapes Go.ChangeAt Go.RowKit Go.Proofs.Ytfmmhfipibaghaa.M
open Go.ChangeMaps (open_string shut_string)
set_option linter.unusedVariables false

theorem own : ownKnob Try.prog.godebug = none := by kernel_rfl
theorem laidOut : laidOutB Try.prog = true := by kernel_rfl

set_option maxRecDepth 100000 in
set_option maxHeartbeats 1600000 in
theorem walk (w : World) (a0 : Option Addr) (len0 cap0 : Nat) (z0 : List R) (w0 : RowsArg w (.slice a0 len0 cap0) z0) (f0 : FitR z0) (a1 : Option Addr) (len1 cap1 : Nat) (z1 : List R) (w1 : RowsArg w (.slice a1 len1 cap1) z1) (f1 : FitR z1) :
    Calls Try.prog 9 #[.slice a0 len0 cap0, .slice a1 len1 cap1] w fun e w' => e = .returned (.bool true) ∧ Below w.heap.size w w' := by
  have HIN0 := Lib.hid w0
  have HIN1 := Lib.hid w1
  have HZ0 := fun W (h : RowsArg W (.slice a0 len0 cap0) z0) => Lib.hid (szRowS_any W _ z0 1048576 h f0.key (by decide) (by decide))
  have H1 := fun W v u h k => Lib.hid (sSameReport_any W v u z0 z1 h k)
  have H2 := fun W v u h k => Lib.hid (iSameReport_any W v u z0 z1 h k f0 f1)
  generalize sameRV z0 z1 = r at *
  by_cases hneg0 : szV z0 1048576 < 0
  · have d0 : decide (szV z0 1048576 < 0) = true := decide_eq_true hneg0
    clear w0 w1
    have B0 := Lib.hid (Below.refl w.heap.size w)
    go_enter Try.func9, Try.ntmps9
    go_wp2_with fail
    refine ((HZ0 w (HIN0.out.below B0.out)).out).mono ?_
    rintro e u1 ⟨rfl, hb⟩
    replace B0 := Lib.hid (B0.out.trans (hb.mono B0.out.size))
    clear hb
    go_wp2_with fail
    go_ret
    exact ⟨rfl, B0.out⟩
  · have d0 : decide (szV z0 1048576 < 0) = false := decide_eq_false hneg0
    have hl0 : z0.length ≤ 1048576 := by have := (szV_le (rs := z0) (l := 1048576) (by omega)).1; omega
    have hs0 := (szV_le (rs := z0) (l := 1048576) (by omega)).2
    have HZ1 := fun W (h : RowsArg W (.slice a1 len1 cap1) z1) => Lib.hid (szRowS_any W _ z1 (szV z0 1048576) h f1.key (by omega) (by omega))
    by_cases hneg1 : szV z1 (szV z0 1048576) < 0
    · have d1 : decide (szV z1 (szV z0 1048576) < 0) = true := decide_eq_true hneg1
      clear w0 w1
      have B0 := Lib.hid (Below.refl w.heap.size w)
      go_enter Try.func9, Try.ntmps9
      go_wp2_with fail
      refine ((HZ0 w (HIN0.out.below B0.out)).out).mono ?_
      rintro e u1 ⟨rfl, hb⟩
      replace B0 := Lib.hid (B0.out.trans (hb.mono B0.out.size))
      clear hb
      go_wp2_with fail
      refine ((HZ1 u1 (HIN1.out.below B0.out)).out).mono ?_
      rintro e u2 ⟨rfl, hb⟩
      replace B0 := Lib.hid (B0.out.trans (hb.mono B0.out.size))
      clear hb
      go_wp2_with fail
      go_ret
      exact ⟨rfl, B0.out⟩
    · have d1 : decide (szV z1 (szV z0 1048576) < 0) = false := decide_eq_false hneg1
      have hl1 : z1.length ≤ 1048576 := by have := (szV_le (rs := z1) (l := szV z0 1048576) (by omega)).1; omega
      clear w0 w1
      have B0 := Lib.hid (Below.refl w.heap.size w)
      go_enter Try.func9, Try.ntmps9
      go_wp2_with fail
      refine ((HZ0 w (HIN0.out.below B0.out)).out).mono ?_
      rintro e u1 ⟨rfl, hb⟩
      replace B0 := Lib.hid (B0.out.trans (hb.mono B0.out.size))
      clear hb
      go_wp2_with fail
      refine ((HZ1 u1 (HIN1.out.below B0.out)).out).mono ?_
      rintro e u2 ⟨rfl, hb⟩
      replace B0 := Lib.hid (B0.out.trans (hb.mono B0.out.size))
      clear hb
      go_wp2_with fail
      refine (toRowS_any u2 _ z0 (HIN0.out.below B0.out) hl0).mono ?_
      rintro e u3 ⟨s0, rfl, ho, hb⟩
      have Os0 := Lib.hid ho
      clear ho
      replace B0 := Lib.hid (B0.out.trans (hb.mono B0.out.size))
      clear hb
      go_wp2_with fail
      refine (toRowS_any u3 _ z1 (HIN1.out.below B0.out) hl1).mono ?_
      rintro e u4 ⟨s1, rfl, ho, hb⟩
      replace Os0 := Lib.hid (Os0.out.below hb)
      have Os1 := Lib.hid ho
      clear ho
      replace B0 := Lib.hid (B0.out.trans (hb.mono B0.out.size))
      clear hb
      go_wp2_with fail
      refine ((H1 u4 _ _ Os0.out.arg Os1.out.arg).out).mono ?_
      rintro e u5 ⟨rfl, hb⟩
      replace Os0 := Lib.hid (Os0.out.below hb)
      replace Os1 := Lib.hid (Os1.out.below hb)
      replace B0 := Lib.hid (B0.out.trans (hb.mono B0.out.size))
      clear hb
      go_wp2_with fail
      refine (toRowS_any u5 _ z0 (HIN0.out.below B0.out) hl0).mono ?_
      rintro e u6 ⟨x0, rfl, ho, hb⟩
      replace Os0 := Lib.hid (Os0.out.below hb)
      replace Os1 := Lib.hid (Os1.out.below hb)
      have Ox0 := Lib.hid ho
      clear ho
      replace B0 := Lib.hid (B0.out.trans (hb.mono B0.out.size))
      clear hb
      go_wp2_with fail
      refine (toRowS_any u6 _ z1 (HIN1.out.below B0.out) hl1).mono ?_
      rintro e u7 ⟨x1, rfl, ho, hb⟩
      replace Os0 := Lib.hid (Os0.out.below hb)
      replace Os1 := Lib.hid (Os1.out.below hb)
      replace Ox0 := Lib.hid (Ox0.out.below hb)
      have Ox1 := Lib.hid ho
      clear ho
      replace B0 := Lib.hid (B0.out.trans (hb.mono B0.out.size))
      clear hb
      go_wp2_with fail
      refine ((H2 u7 _ _ Ox0.out.arg Ox1.out.arg).out).mono ?_
      rintro e u8 ⟨rfl, hb⟩
      replace Os0 := Lib.hid (Os0.out.below hb)
      replace Os1 := Lib.hid (Os1.out.below hb)
      replace Ox0 := Lib.hid (Ox0.out.below hb)
      replace Ox1 := Lib.hid (Ox1.out.below hb)
      replace B0 := Lib.hid (B0.out.trans (hb.mono B0.out.size))
      clear hb
      go_wp2_with fail
      refine (toRowS_any u8 _ z0 (HIN0.out.below B0.out) hl0).mono ?_
      rintro e u9 ⟨y0, rfl, ho, hb⟩
      replace Os0 := Lib.hid (Os0.out.below hb)
      replace Os1 := Lib.hid (Os1.out.below hb)
      replace Ox0 := Lib.hid (Ox0.out.below hb)
      replace Ox1 := Lib.hid (Ox1.out.below hb)
      have Oy0 := Lib.hid ho
      clear ho
      replace B0 := Lib.hid (B0.out.trans (hb.mono B0.out.size))
      clear hb
      go_wp2_with fail
      refine (eqRowS_same u9 _ _ z0 Ox0.out.arg Oy0.out.arg).mono ?_
      rintro e u10 ⟨rfl, hb⟩
      replace Os0 := Lib.hid (Os0.out.below hb)
      replace Os1 := Lib.hid (Os1.out.below hb)
      replace Ox0 := Lib.hid (Ox0.out.below hb)
      replace Ox1 := Lib.hid (Ox1.out.below hb)
      replace Oy0 := Lib.hid (Oy0.out.below hb)
      replace B0 := Lib.hid (B0.out.trans (hb.mono B0.out.size))
      clear hb
      go_wp2_with fail
      refine (toRowS_any u10 _ z1 (HIN1.out.below B0.out) hl1).mono ?_
      rintro e u11 ⟨y1, rfl, ho, hb⟩
      replace Os0 := Lib.hid (Os0.out.below hb)
      replace Os1 := Lib.hid (Os1.out.below hb)
      replace Ox0 := Lib.hid (Ox0.out.below hb)
      replace Ox1 := Lib.hid (Ox1.out.below hb)
      replace Oy0 := Lib.hid (Oy0.out.below hb)
      have Oy1 := Lib.hid ho
      clear ho
      replace B0 := Lib.hid (B0.out.trans (hb.mono B0.out.size))
      clear hb
      go_wp2_with fail
      refine (eqRowS_same u11 _ _ z1 Ox1.out.arg Oy1.out.arg).mono ?_
      rintro e u12 ⟨rfl, hb⟩
      replace Os0 := Lib.hid (Os0.out.below hb)
      replace Os1 := Lib.hid (Os1.out.below hb)
      replace Ox0 := Lib.hid (Ox0.out.below hb)
      replace Ox1 := Lib.hid (Ox1.out.below hb)
      replace Oy0 := Lib.hid (Oy0.out.below hb)
      replace Oy1 := Lib.hid (Oy1.out.below hb)
      replace B0 := Lib.hid (B0.out.trans (hb.mono B0.out.size))
      clear hb
      go_wp2_with fail
      go_ret
      exact ⟨rfl, B0.out⟩

set_option maxRecDepth 100000 in
theorem lifted (os : Os) (started : os.Started) (H : Type) (enc : TypeId × Value → H) :
    ReturnsInHanded {} Try.checked os 9 .any (Rows.fnExactSameReportSpec.pre6 enc Try.prog Try.f9 Rows.fnExactSameReportRow.domain false) (Rows.fnExactSameReportSpec.post enc Try.prog Try.f9 false true false false) := by
  refine returnsInHanded_of_change (C := Try.checked) own started (by kernel_rfl) Try.func9
    (ChangeSpec.witness6 (enc := enc) (C := Try.checked) false ⟨#[], #[.slice none 0 0, .slice none 0 0], []⟩ 8 (by kernel_rfl) (by kernel_rfl) (by kernel_rfl) (by kernel_rfl)) ?_
  intro W base args ds gs before hval0 hW hcnd _
  have hval : ∀ (j : Nat) t v, Try.f9.params[j]? = some t → args[j]? = some v → Value.okWide Try.prog W .any base t v := hval0
  have hW' := hW
  obtain ⟨p, q, hA0, hV, rfl, hfz, hnd⟩ := hW
  have hA : DataW.TrodAll enc Try.prog W 0 (fun _ => true) true Try.f9.params.toList args.toList ds p := hA0
  rw [Try.params9] at hA hval
  obtain ⟨v0, vs0, d0, ds0, p0, q0, hargs, rfl, rfl, h0, r0⟩ := trodAll_cons hA
  obtain ⟨v1, vs1, d1, ds1, p1, q1, rfl, rfl, rfl, h1, r1⟩ := trodAll_cons r0
  obtain ⟨rfl, rfl, rfl⟩ := trodAll_nil r1
  obtain rfl : args = #[v0, v1] := by cases args; simp_all
  obtain ⟨rfl, rfl⟩ := trodVars_none hV
  obtain ⟨a0, len0, cap0, rfl⟩ := okWide_slice Try.underlying36 (hval 0 36 v0 rfl rfl)
  have k0 := h0
  have lt0 : ∀ x ∈ p0, x.block < W.heap.size := by obtain ⟨m, hm⟩ := k0; exact DataW.trod_lt m _ _ _ hm
  obtain ⟨z0, w0, f0⟩ : ∃ zs, RowsArg W (.slice a0 len0 cap0) zs ∧ FitR zs := by
    obtain ⟨fuel, hf⟩ := h0
    exact open_rows (by simpa [Value.cells] using hf)
  obtain ⟨a1, len1, cap1, rfl⟩ := okWide_slice Try.underlying36 (hval 1 36 v1 rfl rfl)
  have k1 := h1
  have lt1 : ∀ x ∈ p1, x.block < W.heap.size := by obtain ⟨m, hm⟩ := k1; exact DataW.trod_lt m _ _ _ hm
  obtain ⟨z1, w1, f1⟩ : ∃ zs, RowsArg W (.slice a1 len1 cap1) zs ∧ FitR zs := by
    obtain ⟨fuel, hf⟩ := h1
    exact open_rows (by simpa [Value.cells] using hf)
  clear hA0 hval0
  refine (walk W a0 len0 cap0 z0 w0 f0 a1 len1 cap1 z1 w1 f1).mono fun e W' ⟨he, bel⟩ => ?_
  subst he
  exact ⟨_, rfl, _, _, _, [], _, [], hW', trodAll_mk1 (shut_bool Try.underlying4 _), (trodAll_cons_mk (Below.trod laidOut (by kernel_rfl) (of_decide_eq_true (by kernel_rfl)) k0 bel lt0) (trodAll_cons_mk (Below.trod laidOut (by kernel_rfl) (of_decide_eq_true (by kernel_rfl)) k1 bel lt1) trodAll_mk0)), rfl, bel.frame _, fun h => by cases h⟩

theorem over : Rows.fnExactSameReportRow.holds Try.pinned (OpenSpec.ofChange Rows.fnExactSameReportSpec) :=
  OpenClaim.holds_of_wide 9 Try.f9 rfl rfl rfl rfl rfl rfl rfl ⟨rfl, rfl, rfl, rfl, rfl⟩ rfl rfl rfl rfl rfl (by kernel_rfl) Try.func9 (by kernel_rfl)
    (of_decide_eq_true (by kernel_rfl)) (by unfold Func.isWrapper; first | (rw [if_pos (by decide +kernel)]; kernel_rfl) | (rw [if_neg (by decide +kernel)]; exact ⟨rfl, rfl⟩))
    (fun os started H enc _ => lifted os started H enc)

end Go.Proofs.Ytfmmhfipibaghaa.fnExactSameReport
namespace Go.Proofs.Ytfmmhfipibaghaa
theorem fnExactSameReport_holds : Rows.FnExactSameReportSaid := fnExactSameReport.over
end Go.Proofs.Ytfmmhfipibaghaa
