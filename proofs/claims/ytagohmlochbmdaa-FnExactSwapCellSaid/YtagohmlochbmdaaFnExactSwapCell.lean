/-
  FnExactSwapCell: what the function answers is what its model answers, at every argument: the law's call returns true and each argument reads afterwards as before, without any condition on the arguments.
-/
import Derived.Test.YtagohmlochbmdaaRows
import Derived.Test.YtagohmlochbmdaaCellZ
import Derived.WalkKit
import Derived.ProofKit
import Derived.OpenShut
import Derived.ShutString
import Derived.ChangeOld
import Derived.Below
namespace Go.Proofs.Ytagohmlochbmdaa.fnExactSwapCell
open Go.ChangeShapes Go.WideShapes Go.ChangeAt Go.RowKit Go.Proofs.Ytagohmlochbmdaa.M
open Go.ChangeMaps (open_string shut_string)
set_option linter.unusedVariables false

theorem own : ownKnob Try.prog.godebug = none := by kernel_rfl
theorem laidOut : laidOutB Try.prog = true := by kernel_rfl

set_option maxRecDepth 100000 in
theorem walk (w : World) (a0 : Option Addr) (len0 cap0 : Nat) (z0 : List Int) (w0 : IntsArg w (.slice a0 len0 cap0) z0) (f0 : Fit z0) (a1 : Int) (w1 : (Lit.int .i64 a1).wf = true) (a2 : Int) (w2 : (Lit.int .i64 a2).wf = true) :
    Calls Try.prog 9 #[.slice a0 len0 cap0, .int .i64 a1, .int .i64 a2] w fun e w' => e = .returned (.bool true) ∧ Below w.heap.size w w' := by
  have hlen : z0.length = len0 := by obtain ⟨A, c, e, _⟩ := w0; injection e with _ e2; exact e2.symm
  by_cases hb : (1048576 : Int) < (len0 : Int)
  · have hbig : decide ((1048576 : Int) < (len0 : Int)) = true := by rw [decide_eq_true]; omega
    clear w0 hlen
    go_enter Try.func9, Try.ntmps9
    go_wp2_with fail
    go_ret
    exact ⟨rfl, Below.refl _ _⟩
  · have hbig : decide ((1048576 : Int) < (len0 : Int)) = false := by rw [decide_eq_false]; omega
    have hl : z0.length ≤ 1048576 := by omega
    obtain ⟨lo, hi⟩ := bounds_i64 w2
    have H1 := fun W v k => Lib.hid (sSwap_any W v z0 a1 a2 k hl)
    have H2 := fun W v k => Lib.hid (iSwap_any W v z0 a1 a2 k hl)
    have hy := storeC_length z0 a1 a2
    generalize storeC z0 a1 a2 = ys at *
    generalize swapR z0 a1 a2 = r at *
    have HIN := Lib.hid w0
    have hk1 : decide (1 + (z0.length : Int) < 0) = false := by rw [decide_eq_false]; omega
    have hk2 : decide (1 + (ys.length : Int) < 0) = false := by rw [decide_eq_false]; omega
    have hyl : ys.length ≤ 1048576 := by omega
    have B0 := Lib.hid (Below.refl w.heap.size w)
    clear w0 hlen hy
    go_enter Try.func9, Try.ntmps9
    go_wp2_with fail
    refine (toIntS_any w _ z0 (HIN.out.below B0.out) hl).mono ?_
    rintro e u1 ⟨s1, rfl, ho, hb⟩
    have Os1 := Lib.hid ho
    replace B0 := Lib.hid (B0.out.trans (hb.mono B0.out.size))
    clear ho hb
    go_wp2_with fail
    refine ((H1 u1 _ Os1.out.ints).out).mono ?_
    rintro e u2 ⟨s2, rfl, ho, hb⟩
    have Os2 := Lib.hid ho
    replace B0 := Lib.hid (B0.out.trans (hb.mono B0.out.size))
    clear ho hb
    clear Os1
    go_wp2_with fail
    have Hs2 := Lib.hid B0.out.size
    refine (toIntS_any u2 _ z0 (HIN.out.below B0.out) hl).mono ?_
    rintro e u3 ⟨x0, rfl, ho, hb⟩
    have As2x0 := Lib.hid (OwnI.apart Os2.out ho (Nat.le_refl _))
    replace Os2 := Lib.hid (Os2.out.below hb)
    have Ox0 := Lib.hid ho
    replace B0 := Lib.hid (B0.out.trans (hb.mono B0.out.size))
    clear ho hb
    have Lx0 := Lib.hid (show ∀ k, x0.ownBlock = some k → w.heap.size ≤ k by intro k hk; obtain ⟨g, hg, h1, h2⟩ := Ox0.out.block; rw [hg] at hk; cases hk; have := Hs2.out; omega)
    go_wp2_with fail
    have Hx0 := Lib.hid B0.out.size
    refine ((H2 u3 _ Ox0.out.ints).out).mono ?_
    rintro e u4 ⟨g0, rfl, ho, hb⟩
    have As2g0 := Lib.hid (OwnI.apart Os2.out ho (Nat.le_refl _))
    have Ax0g0 := Lib.hid (OwnI.apart Ox0.out ho (Nat.le_refl _))
    replace Os2 := Lib.hid (Os2.out.below hb)
    replace Ox0 := Lib.hid (Ox0.out.below hb)
    have Og0 := Lib.hid ho
    replace B0 := Lib.hid (B0.out.trans (hb.mono B0.out.size))
    clear ho hb
    have Lg0 := Lib.hid (show ∀ k, g0.ownBlock = some k → w.heap.size ≤ k by intro k hk; obtain ⟨g, hg, h1, h2⟩ := Og0.out.block; rw [hg] at hk; cases hk; have := Hx0.out; omega)
    go_wp2_with fail
    refine (eqIntS_same u4 _ _ ys Og0.out.ints Os2.out.ints).mono ?_
    rintro e u5 hq
    obtain ⟨rfl, hb⟩ := hq.below
    replace Os2 := Lib.hid (Os2.out.below hb)
    replace Ox0 := Lib.hid (Ox0.out.below hb)
    replace Og0 := Lib.hid (Og0.out.below hb)
    replace B0 := Lib.hid (B0.out.trans (hb.mono B0.out.size))
    clear hq hb
    go_wp2_with fail
    refine (toIntS_any u5 _ z0 (HIN.out.below B0.out) hl).mono ?_
    rintro e u6 ⟨s6, rfl, ho, hb⟩
    replace Os2 := Lib.hid (Os2.out.below hb)
    replace Ox0 := Lib.hid (Ox0.out.below hb)
    replace Og0 := Lib.hid (Og0.out.below hb)
    have Os6 := Lib.hid ho
    replace B0 := Lib.hid (B0.out.trans (hb.mono B0.out.size))
    clear ho hb
    go_wp2_with fail
    refine (eqIntS_same u6 _ _ z0 Ox0.out.ints Os6.out.ints).mono ?_
    rintro e u7 hq
    obtain ⟨rfl, hb⟩ := hq.below
    replace Os2 := Lib.hid (Os2.out.below hb)
    replace Ox0 := Lib.hid (Ox0.out.below hb)
    replace Og0 := Lib.hid (Og0.out.below hb)
    replace B0 := Lib.hid (B0.out.trans (hb.mono B0.out.size))
    clear hq hb
    clear Os6
    go_wp2_with fail
    refine (markIntS_any u7 _ _ _ 1 Ox0.out hl (by decide) (by decide)).mono ?_
    rintro e u8 ⟨rfl, ho, hg⟩
    replace Os2 := Lib.hid (Os2.out.kept hg As2x0.out)
    replace Og0 := Lib.hid (Og0.out.kept hg (fun h => Ax0g0.out h.symm))
    replace B0 := Lib.hid (B0.out.grown hg B0.out.size (fun k hk => Lx0.out k hk))
    replace Ox0 := Lib.hid ho
    clear ho hg
    go_wp2_with fail
    refine (eqIntS_same u8 _ _ ys Og0.out.ints Os2.out.ints).mono ?_
    rintro e u9 hq
    obtain ⟨rfl, hb⟩ := hq.below
    replace Os2 := Lib.hid (Os2.out.below hb)
    replace Og0 := Lib.hid (Og0.out.below hb)
    replace B0 := Lib.hid (B0.out.trans (hb.mono B0.out.size))
    clear hq hb
    go_wp2_with fail
    refine (markIntS_any u9 _ _ _ 1 Og0.out hyl (by decide) (by decide)).mono ?_
    rintro e u10 ⟨rfl, ho, hg⟩
    replace Os2 := Lib.hid (Os2.out.kept hg As2g0.out)
    replace B0 := Lib.hid (B0.out.grown hg B0.out.size (fun k hk => Lg0.out k hk))
    replace Og0 := Lib.hid ho
    clear ho hg
    go_wp2_with fail
    refine (heldIntS_any _ _ 1 _ Og0.out.ints (by decide) (by decide) hyl).mono ?_
    rintro e w' ⟨rfl, rfl⟩
    go_wp2_with fail
    refine (toIntS_any u10 _ z0 (HIN.out.below B0.out) hl).mono ?_
    rintro e u11 ⟨s11, rfl, ho, hb⟩
    replace Os2 := Lib.hid (Os2.out.below hb)
    replace Og0 := Lib.hid (Og0.out.below hb)
    have Os11 := Lib.hid ho
    replace B0 := Lib.hid (B0.out.trans (hb.mono B0.out.size))
    clear ho hb
    go_wp2_with fail
    refine ((H2 u11 _ Os11.out.ints).out).mono ?_
    rintro e u12 ⟨h0, rfl, ho, hb⟩
    replace Os2 := Lib.hid (Os2.out.below hb)
    replace Og0 := Lib.hid (Og0.out.below hb)
    have Oh0 := Lib.hid ho
    replace B0 := Lib.hid (B0.out.trans (hb.mono B0.out.size))
    clear ho hb
    go_wp2_with fail
    refine (eqIntS_same u12 _ _ ys Oh0.out.ints Os2.out.ints).mono ?_
    rintro e u13 hq
    obtain ⟨rfl, hb⟩ := hq.below
    replace Os2 := Lib.hid (Os2.out.below hb)
    replace Og0 := Lib.hid (Og0.out.below hb)
    replace B0 := Lib.hid (B0.out.trans (hb.mono B0.out.size))
    clear hq hb
    go_wp2_with fail
    refine (heldIntS_any _ _ 1 _ Og0.out.ints (by decide) (by decide) hyl).mono ?_
    rintro e w' ⟨rfl, rfl⟩
    go_wp2_with fail
    go_ret
    exact ⟨rfl, B0.out⟩

set_option maxRecDepth 100000 in
theorem lifted (os : Os) (started : os.Started) (H : Type) (enc : TypeId × Value → H) :
    ReturnsInHanded {} Try.checked os 9 .any (Rows.fnExactSwapCellSpec.pre6 enc Try.prog Try.f9 Rows.fnExactSwapCellRow.domain false) (Rows.fnExactSwapCellSpec.post enc Try.prog Try.f9 false true false false) := by
  refine returnsInHanded_of_change (C := Try.checked) own started (by kernel_rfl) Try.func9
    (ChangeSpec.witness6 (enc := enc) (C := Try.checked) false ⟨#[], #[.slice none 0 0, .int .i64 0, .int .i64 0], []⟩ 8 (by kernel_rfl) (by kernel_rfl) (by kernel_rfl) (by kernel_rfl)) ?_
  intro W base args ds gs before hval0 hW hcnd _
  have hval : ∀ (j : Nat) t v, Try.f9.params[j]? = some t → args[j]? = some v → Value.okWide Try.prog W .any base t v := hval0
  have hW' := hW
  obtain ⟨p, q, hA0, hV, rfl, hfz, hnd⟩ := hW
  have hA : DataW.TrodAll enc Try.prog W 0 (fun _ => true) true Try.f9.params.toList args.toList ds p := hA0
  rw [Try.params9] at hA hval
  obtain ⟨v0, vs0, d0, ds0, p0, q0, hargs, rfl, rfl, h0, r0⟩ := trodAll_cons hA
  obtain ⟨v1, vs1, d1, ds1, p1, q1, rfl, rfl, rfl, h1, r1⟩ := trodAll_cons r0
  obtain ⟨v2, vs2, d2, ds2, p2, q2, rfl, rfl, rfl, h2, r2⟩ := trodAll_cons r1
  obtain ⟨rfl, rfl, rfl⟩ := trodAll_nil r2
  obtain rfl : args = #[v0, v1, v2] := by cases args; simp_all
  obtain ⟨rfl, rfl⟩ := trodVars_none hV
  obtain ⟨a0, len0, cap0, rfl⟩ := okWide_slice Try.underlying24 (hval 0 24 v0 rfl rfl)
  have k0 := h0
  have lt0 : ∀ x ∈ p0, x.block < W.heap.size := by obtain ⟨m, hm⟩ := k0; exact DataW.trod_lt m _ _ _ hm
  obtain ⟨z0, w0, f0⟩ : ∃ zs, IntsArg W (.slice a0 len0 cap0) zs ∧ Fit zs := by
    obtain ⟨fuel, hf⟩ := h0
    rcases open_ints Try.underlying24 Try.underlying3 (by kernel_rfl) hf with ⟨hcs, _⟩ | ⟨x, l, c, zs, hcs, _, hl, hm, hz, _, hcell, hwz⟩
    · simp [Value.cells] at hcs
      obtain ⟨rfl, rfl, rfl⟩ := hcs
      exact ⟨[], IntsArg.nil _, fun z hz => by cases hz⟩
    · simp [Value.cells] at hcs
      obtain ⟨rfl, rfl, rfl⟩ := hcs
      exact ⟨_, IntsArg.of_cells hl hm (by simpa using hz) hcell, Fit.of_wf hwz⟩
  obtain ⟨a1, rfl, rfl, rfl, w1⟩ := open_int Try.underlying3 (hval 1 3 v1 rfl rfl) h1
  obtain ⟨a2, rfl, rfl, rfl, w2⟩ := open_int Try.underlying3 (hval 2 3 v2 rfl rfl) h2
  clear hA0 hval0
  refine (walk W a0 len0 cap0 z0 w0 f0 a1 w1 a2 w2).mono fun e W' ⟨he, bel⟩ => ?_
  subst he
  exact ⟨_, rfl, _, _, _, [], _, [], hW', trodAll_mk1 (shut_bool Try.underlying4 _), (trodAll_cons_mk (Below.trod laidOut (by kernel_rfl) (of_decide_eq_true (by kernel_rfl)) k0 bel lt0) (trodAll_cons_mk (shut_int Try.underlying3 w1) (trodAll_cons_mk (shut_int Try.underlying3 w2) trodAll_mk0))), rfl, bel.frame _, fun h => by cases h⟩

theorem over : Rows.fnExactSwapCellRow.holds Try.pinned (OpenSpec.ofChange Rows.fnExactSwapCellSpec) :=
  OpenClaim.holds_of_wide 9 Try.f9 rfl rfl rfl rfl rfl rfl rfl ⟨rfl, rfl, rfl, rfl, rfl⟩ rfl rfl rfl rfl rfl (by kernel_rfl) Try.func9 (by kernel_rfl)
    (of_decide_eq_true (by kernel_rfl)) (by unfold Func.isWrapper; first | (rw [if_pos (by decide +kernel)]; kernel_rfl) | (rw [if_neg (by decide +kernel)]; exact ⟨rfl, rfl⟩))
    (fun os started H enc _ => lifted os started H enc)

end Go.Proofs.Ytagohmlochbmdaa.fnExactSwapCell
namespace Go.Proofs.Ytagohmlochbmdaa
theorem fnExactSwapCell_holds : Rows.FnExactSwapCellSaid := fnExactSwapCell.over
end Go.Proofs.Ytagohmlochbmdaa
