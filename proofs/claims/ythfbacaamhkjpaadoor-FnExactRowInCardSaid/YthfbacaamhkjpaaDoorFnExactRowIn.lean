/-
  FnExactRowIn: what the function answers is what its model answers, at every argument: the law's call returns true and each argument reads afterwards as before. The library's own variables begin as the program's text lays them, which the card ties.
-/
import Derived.Test.YthfbacaamhkjpaaDoorCards
import Derived.Test.YthfbacaamhkjpaaDoorTie
import Derived.Test.YthfbacaamhkjpaaDoorDrG
import Derived.Test.YthfbacaamhkjpaaDoorDrC
import Derived.Test.YthfbacaamhkjpaaDoorZa
import Derived.WalkKit
import Derived.ProofKit
import Derived.OpenShut
import Derived.ShutString
import Derived.ChangeOld
import Derived.Below
namespace Go.Proofs.YthfbacaamhkjpaaDoor.fnExactRowIn
open Go.ChangeShapes Go.WideShapes Go.ChangeAt Go.RowKit Go.Proofs.YthfbacaamhkjpaaDoor.M
open Go.ChangeMaps (open_string shut_string)
set_option linter.unusedVariables false
theorem laidOut : laidOutB Tryd.prog = true := by kernel_rfl

set_option maxRecDepth 100000 in
set_option maxHeartbeats 1600000 in
theorem walk (w : World) (a0 : Option Addr) (len0 cap0 : Nat) (z0 : List Int) (w0 : IntsArg w (.slice a0 len0 cap0) z0) (f0 : Fit z0) (a1 : Int) (w1 : (Lit.int .i64 a1).wf = true) (a2 : Int) (w2 : (Lit.int .i64 a2).wf = true)  :
    Calls Tryd.prog 4 #[.slice a0 len0 cap0, .int .i64 a1, .int .i64 a2] w fun e w' => e = .returned (.bool true) ∧ Below w.heap.size w w' := by
  have hlen0 : z0.length = len0 := by obtain ⟨A, c, e, _⟩ := w0; injection e with _ e2; exact e2.symm
  by_cases hb0 : (1048576 : Int) < (len0 : Int)
  · have hbig : decide ((1048576 : Int) < (len0 : Int)) = true := by rw [decide_eq_true]; omega
    clear w0 hlen0
    go_enter Tryd.func4, Tryd.ntmps4
    go_wp2_with fail
    go_ret
    exact ⟨rfl, Below.refl _ _⟩
  · have hbig0 : decide ((1048576 : Int) < (len0 : Int)) = false := by rw [decide_eq_false]; omega
    have hl0 : z0.length ≤ 1048576 := by omega
    obtain ⟨lo1, hi1⟩ := bounds_i64 w1
    obtain ⟨lo2, hi2⟩ := bounds_i64 w2
    have HIN0 := Lib.hid w0
    have H1 := fun W v h => Lib.hid (sRowIn_any W v z0 a1 a2 h)
    have H2 := fun W v h => Lib.hid (iRowIn_any W v z0 a1 a2 h lo1 hi1 lo2 hi2)
    have H3 := fun W => Lib.hid (eqRow_same W (rowInV z0 a1 a2))
    generalize rowInV z0 a1 a2 = r at *
    obtain ⟨rkey, rkind, rsum, rst, rlast, rn, rmn, rmx, rtotal, rdropped⟩ := r
    unfold R.v at H1 H2 H3
    simp only at H1 H2 H3
    have B0 := Lib.hid (Below.refl w.heap.size w)
    clear w0 hlen0
    go_enter Tryd.func4, Tryd.ntmps4
    have HS0 := Lib.hid B0.out.size
    go_wp2_with fail
    refine (toIntS_any w _ z0 (HIN0.out.below B0.out) hl0).mono ?_
    rintro e u1 ⟨s1, rfl, ho0, hb⟩
    have Ls1 := Lib.hid (show ∀ k, s1.ownBlock = some k → w.heap.size ≤ k from fun k hk => Nat.le_trans HS0.out (ho0.base_le k hk))
    have Os1 := Lib.hid ho0
    replace B0 := Lib.hid (B0.out.trans (hb.mono B0.out.size))
    clear ho0 hb
    go_wp2_with fail
    refine ((H1 u1 _ Os1.out.ints).out).mono ?_
    rintro e u2 ⟨rfl, hb⟩
    replace Os1 := Lib.hid (Os1.out.below hb)
    replace B0 := Lib.hid (B0.out.trans (hb.mono B0.out.size))
    clear hb
    clear Os1
    go_wp2_with fail
    refine (toIntS_any _ _ z0 (HIN0.out.below (B0.out.alloc B0.out.size (.cells (rowCells ⟨rkey, rkind, rsum, rst, rlast, rn, rmn, rmx, rtotal, rdropped⟩) 24))) hl0).mono ?_
    rintro e u3 ⟨x0, rfl, ho, hb⟩
    have HY := Lib.hid (show RowAt u3 u2.heap.size ⟨rkey, rkind, rsum, rst, rlast, rn, rmn, rmx, rtotal, rdropped⟩ from (rowAt_new u2 _ ⟨rkey, rkind, rsum, rst, rlast, rn, rmn, rmx, rtotal, rdropped⟩ rfl).below hb)
    replace B0 := Lib.hid ((B0.out.alloc B0.out.size (.cells (rowCells ⟨rkey, rkind, rsum, rst, rlast, rn, rmn, rmx, rtotal, rdropped⟩) 24)).trans (hb.mono (by simp [go_sem]; have := B0.out.size; omega)) : Below w.heap.size w u3)
    have Ox0 := Lib.hid ho
    clear ho hb
    go_wp2_with fail
    refine ((H2 u3 _ Ox0.out.ints).out).mono ?_
    rintro e u4 ⟨rfl, hb⟩
    replace Ox0 := Lib.hid (Ox0.out.below hb)
    replace HY := Lib.hid (HY.out.below hb)
    replace B0 := Lib.hid (B0.out.trans (hb.mono B0.out.size))
    clear hb
    obtain ⟨x0, x1, x2, x3, x4, x5, x6, x7, x8, x9, xf⟩ := HY.out.get
    have ly := HY.out.lt
    simp only at x0 x1 x2 x3 x4 x5 x6 x7 x8 x9
    go_wp2_with fail
    refine (H3 _).out.mono ?_
    rintro e u5 ⟨rfl, hb⟩
    clear x0 x1 x2 x3 x4 x5 x6 x7 x8 x9 xf ly HY
    replace Ox0 := Lib.hid ((Ox0.out.alloc (.cells (rowCells ⟨rkey, rkind, rsum, rst, rlast, rn, rmn, rmx, rtotal, rdropped⟩) 24)).below hb)
    replace B0 := Lib.hid ((B0.out.alloc B0.out.size (.cells (rowCells ⟨rkey, rkind, rsum, rst, rlast, rn, rmn, rmx, rtotal, rdropped⟩) 24)).trans (hb.mono (by simp [go_sem]; have := B0.out.size; omega)) : Below w.heap.size w u5)
    clear hb
    have HS5 := Lib.hid B0.out.size
    go_wp2_with fail
    refine (toIntS_any u5 _ z0 (HIN0.out.below B0.out) hl0).mono ?_
    rintro e u6 ⟨s3, rfl, ho0, hb⟩
    have Ax0_s3 := Lib.hid (Ap.of Ox0.out.lt (fun k hk => ho0.base_le k hk))
    replace Ox0 := Lib.hid (Ox0.out.below hb)
    have Ls3 := Lib.hid (show ∀ k, s3.ownBlock = some k → w.heap.size ≤ k from fun k hk => Nat.le_trans HS5.out (ho0.base_le k hk))
    have Os3 := Lib.hid ho0
    replace B0 := Lib.hid (B0.out.trans (hb.mono B0.out.size))
    clear ho0 hb
    go_wp2_with fail
    refine (eqIntS_same u6 _ _ z0 Ox0.out.ints Os3.out.ints).mono ?_
    rintro e u7 hq
    obtain ⟨rfl, hb⟩ := hq.below
    replace Ox0 := Lib.hid (Ox0.out.below hb)
    replace Os3 := Lib.hid (Os3.out.below hb)
    replace B0 := Lib.hid (B0.out.trans (hb.mono B0.out.size))
    clear hb hq
    go_wp2_with fail
    go_ret
    exact ⟨rfl, B0.out⟩

theorem contract (H : Type) (enc : TypeId × Value → H) (W : World) (base : Nat) (args : Array Value) (ds gs : List (DataW H)) (before : List MemPlace)
    (hval : ∀ (j : Nat) t v, Tryd.f4.params[j]? = some t → args[j]? = some v → Value.okWide Tryd.prog W .any base t v)
    (hW : DataW.Whole enc Tryd.prog Tryd.f4.params.toList Rows.fnExactRowInSpec.vars false W args.toList ds gs before) (hL : laidMetH Tryd.prog Rows.fnExactRowInRow.laid W) :
    Calls Tryd.prog 4 args W fun e W' => ∃ v, e = .returned v ∧ Rows.fnExactRowInSpec.post enc Tryd.prog Tryd.f4 false true false false W args v W' := by
  have hW' := hW
  obtain ⟨p, q, hA0, hV, rfl, hfz, hnd⟩ := hW
  have hA : DataW.TrodAll enc Tryd.prog W 0 (fun _ => true) true Tryd.f4.params.toList args.toList ds p := hA0
  rw [Tryd.params4] at hA hval
  obtain ⟨v0, vs0, d0, ds0, p0, q0, hargs, rfl, rfl, h0, r0⟩ := trodAll_cons hA
  obtain ⟨v1, vs1, d1, ds1, p1, q1, rfl, rfl, rfl, h1, r1⟩ := trodAll_cons r0
  obtain ⟨v2, vs2, d2, ds2, p2, q2, rfl, rfl, rfl, h2, r2⟩ := trodAll_cons r1
  obtain ⟨rfl, rfl, rfl⟩ := trodAll_nil r2
  obtain rfl : args = #[v0, v1, v2] := by cases args; simp_all
  obtain ⟨rfl, rfl⟩ := trodVars_none hV
  obtain ⟨a0, len0, cap0, rfl⟩ := okWide_slice Tryd.underlying22 (hval 0 22 v0 rfl rfl)
  have k0 := h0
  have lt0 : ∀ x ∈ p0, x.block < W.heap.size := by obtain ⟨m, hm⟩ := k0; exact DataW.trod_lt m _ _ _ hm
  obtain ⟨z0, w0, f0⟩ : ∃ zs, IntsArg W (.slice a0 len0 cap0) zs ∧ Fit zs := by
    obtain ⟨fuel, hf⟩ := h0
    rcases open_ints Tryd.underlying22 Tryd.underlying3 (by kernel_rfl) hf with ⟨hcs, _⟩ | ⟨x, l, c, zs, hcs, _, hl, hm, hz, _, hcell, hwz⟩
    · simp [Value.cells] at hcs
      obtain ⟨rfl, rfl, rfl⟩ := hcs
      exact ⟨[], IntsArg.nil _, fun z hz => by cases hz⟩
    · simp [Value.cells] at hcs
      obtain ⟨rfl, rfl, rfl⟩ := hcs
      exact ⟨_, IntsArg.of_cells hl hm (by simpa using hz) hcell, Fit.of_wf hwz⟩
  obtain ⟨a1, rfl, rfl, rfl, w1⟩ := open_int Tryd.underlying3 (hval 1 3 v1 rfl rfl) h1
  obtain ⟨a2, rfl, rfl, rfl, w2⟩ := open_int Tryd.underlying3 (hval 2 3 v2 rfl rfl) h2
  clear hA0
  refine (walk W a0 len0 cap0 z0 w0 f0 a1 w1 a2 w2 ).mono fun e W' ⟨he, bel⟩ => ?_
  subst he
  exact ⟨_, rfl, _, _, _, [], _, [], hW', trodAll_mk1 (shut_bool Tryd.underlying4 _), (trodAll_cons_mk (Below.trod laidOut (by kernel_rfl) (of_decide_eq_true (by kernel_rfl)) k0 bel lt0) (trodAll_cons_mk (shut_int Tryd.underlying3 w1) (trodAll_cons_mk (shut_int Tryd.underlying3 w2) trodAll_mk0))), rfl, bel.frame _, fun h => by cases h⟩

theorem laid_met (os : Os) : laidMet Tryd.prog Rows.fnExactRowInRow.laid ((laidWorld os).forCall (fun _ _ => 0) ⟨#[], #[.slice none 0 0, .int .i64 0, .int .i64 0], []⟩).memory :=
  laidMet_of_run' 8 (by kernel_rfl) (by kernel_rfl)
theorem reads (os : Os) {H : Type} (enc : TypeId × Value → H) : ∃ places, DataW.whole enc Tryd.prog ((laidWorld os).forCall (fun _ _ => 0) ⟨#[], #[.slice none 0 0, .int .i64 0, .int .i64 0], []⟩).memory Tryd.f4.params.toList Rows.fnExactRowInSpec.vars false #[Value.slice none 0 0, Value.int .i64 0, Value.int .i64 0].toList 8 = some ([.nil, .lit (.int .i64 0), .lit (.int .i64 0)], [], places) :=
  ⟨[], by kernel_rfl⟩

set_option maxRecDepth 100000 in
theorem lifted (os : Os) (started : os.Started) (H : Type) (enc : TypeId × Value → H) (F : Stop.Interp) :
    ReturnsInHanded {} Tryd.checked os 4 .any ((OpenSpec.ofChange Rows.fnExactRowInSpec).preRow enc Tryd.prog Tryd.f4 Rows.fnExactRowInRow.domain false Rows.fnExactRowInRow.laid) (((OpenSpec.ofChange Rows.fnExactRowInSpec).at F).post enc Tryd.prog Tryd.f4 false true false false) := by
  obtain ⟨places, hx⟩ := reads os enc
  refine returnsInHanded_of_row (C := Tryd.checked) (s := OpenSpec.ofChange Rows.fnExactRowInSpec) own started (by kernel_rfl) Tryd.func4
    (witness_row_at (enc := enc) (C := Tryd.checked) false (laidWorld os) #[.slice none 0 0, .int .i64 0, .int .i64 0] rfl (by kernel_rfl) (by kernel_rfl) (by kernel_rfl)
      (OpenSpec.preRow_of_cond 8 hx (by kernel_rfl) (fun k hk => by cases hk) (by kernel_rfl) (laid_met os))) ?_
  intro W base args ds gs before hval hW _ _ _ hL _ _
  exact contract H enc W base args ds gs before hval hW hL

theorem said : Rows.FnExactRowInSaid :=
  OpenClaim.holds_of_cond 4 Tryd.f4 rfl rfl rfl rfl rfl rfl rfl ⟨rfl, rfl, rfl, rfl, rfl⟩ rfl rfl rfl rfl rfl (by kernel_rfl) Tryd.func4 (by kernel_rfl)
    (of_decide_eq_true (by kernel_rfl)) (by unfold Func.isWrapper; first | (rw [if_pos (by decide +kernel)]; kernel_rfl) | (rw [if_neg (by decide +kernel)]; exact ⟨rfl, rfl⟩))
    (fun os started H enc _ F => by rw [OpenClaim.pre_eq_preRow]; exact lifted os started H enc F)

theorem plain (f : FuncId) (fn : Func) (hf : Tryd.pinned.checked.prog.funcNamed Rows.fnExactRowInRow.func = some f) (hfn : Tryd.pinned.checked.prog.funcs[f]? = some fn) :
    Rows.fnExactRowInCard.stood.looks = Tryd.pinned.checked.prog.looks [] ∧ ∀ (j : Nat) t, fn.params[j]? = some t → Tryd.pinned.checked.prog.wantsStandIn t = false := by
  obtain rfl : f = 4 := Option.some.inj ((show Tryd.prog.funcNamed Rows.fnExactRowInRow.func = some 4 by kernel_rfl).symm.trans hf) |>.symm
  obtain rfl : fn = Tryd.f4 := (Option.some.inj (Tryd.func4.symm.trans hfn)).symm
  refine ⟨by kernel_rfl, fun j t ht => ?_⟩
  rw [Tryd.params4] at ht
  have hm : t = 22 ∨ t = 3 := by simpa using Array.mem_of_getElem? ht
  rcases hm with rfl | rfl
  · exact (show Tryd.prog.wantsStandIn 22 = false by kernel_rfl)
  · exact (show Tryd.prog.wantsStandIn 3 = false by kernel_rfl)

end Go.Proofs.YthfbacaamhkjpaaDoor.fnExactRowIn
namespace Go.Proofs.YthfbacaamhkjpaaDoor
theorem fnExactRowIn_holds : Rows.FnExactRowInCardSaid :=
  Claim7.holds_tied_plain_at .later [] _ _ _ _ fnExactRowIn.said (fun _ h => by cases h) (by kernel_rfl) (fun _ h => by cases h) fnExactRowIn_row_tie rfl ⟨rfl, rfl⟩ (by kernel_rfl) rfl fnExactRowIn.plain (by kernel_rfl)
end Go.Proofs.YthfbacaamhkjpaaDoor
