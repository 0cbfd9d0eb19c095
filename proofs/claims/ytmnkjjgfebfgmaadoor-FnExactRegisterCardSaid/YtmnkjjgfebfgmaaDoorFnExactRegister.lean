/-
  FnExactRegister: what the function answers is what its model answers, at every argument: the law's call returns true and each argument reads afterwards as before. The library's own variables begin as the program's text lays them, which the card ties.
-/
import Derived.Test.YtmnkjjgfebfgmaaDoorCards
import Derived.Test.YtmnkjjgfebfgmaaDoorTie
import Derived.Test.YtmnkjjgfebfgmaaDoorTblI
import Derived.Test.YtmnkjjgfebfgmaaDoorLaidU
import Derived.WalkKit
import Derived.ProofKit
import Derived.OpenShut
import Derived.ShutString
import Derived.ChangeOld
import Derived.Below
namespace Go.Proofs.YtmnkjjgfebfgmaaDoor.fnExactRegister
open Go.ChangeShapes Go.WideShapes Go.ChangeAt Go.RowKit Go.Proofs.YtmnkjjgfebfgmaaDoor.M
open Go.ChangeMaps (open_string shut_string)
set_option linter.unusedVariables false
theorem laidOut : laidOutB Tryd.prog = true := by kernel_rfl

set_option maxRecDepth 100000 in
theorem walk (w : World) (a0 : Option Addr) (len0 cap0 : Nat) (z0 : List Int) (w0 : IntsArg w (.slice a0 len0 cap0) z0) (f0 : Fit z0) (a1 : ByteArray) (w1 : a1.size ≤ maxLen) (a2 : Int) (w2 : (Lit.int .i64 a2).wf = true)  :
    Calls Tryd.prog 4 #[.slice a0 len0 cap0, .string a1, .int .i64 a2] w fun e w' => e = .returned (.bool true) ∧ Below w.heap.size w w' := by
  have hlen0 : z0.length = len0 := by obtain ⟨A, c, e, _⟩ := w0; injection e with _ e2; exact e2.symm
  by_cases hb0 : (1048576 : Int) < (len0 : Int)
  · have hbig : decide ((1048576 : Int) < (len0 : Int)) = true := by rw [decide_eq_true]; omega
    clear w0 hlen0
    go_enter Tryd.func4, Tryd.ntmps4
    go_wp2_with fail
    go_ret
    exact ⟨rfl, Below.refl _ _⟩
  · have hbig0 : decide ((1048576 : Int) < (len0 : Int)) = false := by rw [decide_eq_false]; omega
    by_cases hb1 : (1048576 : Int) < (a1.size : Int)
    · have hbig : decide ((1048576 : Int) < (a1.size : Int)) = true := by rw [decide_eq_true]; omega
      clear w0 hlen0
      go_enter Tryd.func4, Tryd.ntmps4
      go_wp2_with fail
      go_ret
      exact ⟨rfl, Below.refl _ _⟩
    · have hbig1 : decide ((1048576 : Int) < (a1.size : Int)) = false := by rw [decide_eq_false]; omega
      have hl0 : z0.length ≤ 1048576 := by omega
      obtain ⟨lo2, hi2⟩ := bounds_i64 w2
      have HIN0 := Lib.hid w0
      have H1 := fun W v h => Lib.hid (sRegister_any W v z0 a1 a2 h hl0 w1)
      have H2 := fun W v h => Lib.hid (iRegister_any W v z0 a1 a2 h hl0 w1 lo2 hi2)
      have hy := regC_length z0 a1 a2
      generalize regC z0 a1 a2 = ys at *
      generalize regS z0 a1 a2 = r at *
      generalize regD z0 a1 a2 = r2 at *
      have hk1 : decide (1 + (z0.length : Int) < 0) = false := by rw [decide_eq_false]; omega
      have hk2 : decide (1 + (ys.length : Int) < 0) = false := by rw [decide_eq_false]; omega
      have hyl : ys.length ≤ 1048576 := by omega
      clear hy
      have B0 := Lib.hid (Below.refl w.heap.size w)
      clear w0 hlen0
      go_enter Tryd.func4, Tryd.ntmps4
      go_wp2_with fail
      refine (toIntS_any w _ z0 (HIN0.out.below B0.out) hl0).mono ?_
      rintro e u1 ⟨s1, rfl, ho, hb⟩
      have Os1 := Lib.hid ho
      replace B0 := Lib.hid (B0.out.trans (hb.mono B0.out.size))
      clear ho hb
      go_wp2_with fail
      refine ((H1 u1 _ Os1.out.ints).out).mono ?_
      rintro e u2 ⟨s2, rfl, ho, hb⟩
      replace Os1 := Lib.hid (Os1.out.below hb)
      have Os2 := Lib.hid ho
      replace B0 := Lib.hid (B0.out.trans (hb.mono B0.out.size))
      clear ho hb
      clear Os1
      have Hx0 := Lib.hid B0.out.size
      go_wp2_with fail
      refine (toIntS_any u2 _ z0 (HIN0.out.below B0.out) hl0).mono ?_
      rintro e u3 ⟨x0, rfl, ho, hb⟩
      have As2x0 := Lib.hid (OwnI.apart Os2.out ho (Nat.le_refl _))
      replace Os2 := Lib.hid (Os2.out.below hb)
      have Ox0 := Lib.hid ho
      replace B0 := Lib.hid (B0.out.trans (hb.mono B0.out.size))
      clear ho hb
      have Lx0 := Lib.hid (show ∀ k, x0.ownBlock = some k → w.heap.size ≤ k from fun k hk => by obtain ⟨g, hg, h1, h2⟩ := Ox0.out.block; rw [hg] at hk; cases hk; have := Hx0.out; omega)
      have Hg0 := Lib.hid B0.out.size
      go_wp2_with fail
      refine ((H2 u3 _ Ox0.out.ints).out).mono ?_
      rintro e u4 ⟨g0, rfl, ho, hb⟩
      have As2g0 := Lib.hid (OwnI.apart Os2.out ho (Nat.le_refl _))
      have Ax0g0 := Lib.hid (OwnI.apart Ox0.out ho (Nat.le_refl _))
      replace Os2 := Lib.hid (Os2.out.below hb)
      replace Ox0 := Lib.hid (Ox0.out.below hb)
      have Og0 := Lib.hid ho
      replace B0 := Lib.hid (B0.out.trans (hb.mono B0.out.size))
      clear ho hb
      have Lg0 := Lib.hid (show ∀ k, g0.ownBlock = some k → w.heap.size ≤ k from fun k hk => by obtain ⟨g, hg, h1, h2⟩ := Og0.out.block; rw [hg] at hk; cases hk; have := Hg0.out; omega)
      go_wp2_with fail
      refine (eqIntS_same u4 _ _ ys Og0.out.ints Os2.out.ints).mono ?_
      rintro e u5 hq
      obtain ⟨rfl, hb⟩ := hq.below
      replace Os2 := Lib.hid (Os2.out.below hb)
      replace Ox0 := Lib.hid (Ox0.out.below hb)
      replace Og0 := Lib.hid (Og0.out.below hb)
      replace B0 := Lib.hid (B0.out.trans (hb.mono B0.out.size))
      clear hq hb
      go_wp2_with fail
      refine (toIntS_any u5 _ z0 (HIN0.out.below B0.out) hl0).mono ?_
      rintro e u6 ⟨s6, rfl, ho, hb⟩
      replace Os2 := Lib.hid (Os2.out.below hb)
      replace Ox0 := Lib.hid (Ox0.out.below hb)
      replace Og0 := Lib.hid (Og0.out.below hb)
      have Os6 := Lib.hid ho
      replace B0 := Lib.hid (B0.out.trans (hb.mono B0.out.size))
      clear ho hb
      go_wp2_with fail
      refine (eqIntS_same u6 _ _ z0 Ox0.out.ints Os6.out.ints).mono ?_
      rintro e u7 hq
      obtain ⟨rfl, hb⟩ := hq.below
      replace Os2 := Lib.hid (Os2.out.below hb)
      replace Ox0 := Lib.hid (Ox0.out.below hb)
      replace Og0 := Lib.hid (Og0.out.below hb)
      replace Os6 := Lib.hid (Os6.out.below hb)
      replace B0 := Lib.hid (B0.out.trans (hb.mono B0.out.size))
      clear hq hb
      clear Os6
      go_wp2_with fail
      refine (markIntS_any u7 _ _ _ 1 Ox0.out hl0 (by decide) (by decide)).mono ?_
      rintro e u8 ⟨rfl, ho, hg⟩
      replace Os2 := Lib.hid (Os2.out.kept hg As2x0.out)
      replace Og0 := Lib.hid (Og0.out.kept hg (fun h => Ax0g0.out h.symm))
      replace B0 := Lib.hid (B0.out.grown hg B0.out.size (fun k hk => Lx0.out k hk))
      replace Ox0 := Lib.hid ho
      clear ho hg
      clear Ox0
      go_wp2_with fail
      refine (eqIntS_same u8 _ _ ys Og0.out.ints Os2.out.ints).mono ?_
      rintro e u9 hq
      obtain ⟨rfl, hb⟩ := hq.below
      replace Os2 := Lib.hid (Os2.out.below hb)
      replace Og0 := Lib.hid (Og0.out.below hb)
      replace B0 := Lib.hid (B0.out.trans (hb.mono B0.out.size))
      clear hq hb
      go_wp2_with fail
      refine (markIntS_any u9 _ _ _ 1 Og0.out hyl (by decide) (by decide)).mono ?_
      rintro e u10 ⟨rfl, ho, hg⟩
      replace Os2 := Lib.hid (Os2.out.kept hg As2g0.out)
      replace B0 := Lib.hid (B0.out.grown hg B0.out.size (fun k hk => Lg0.out k hk))
      replace Og0 := Lib.hid ho
      clear ho hg
      go_wp2_with fail
      refine (heldIntS_any _ _ 1 _ Og0.out.ints (by decide) (by decide) hyl).mono ?_
      rintro e w' ⟨rfl, rfl⟩
      go_wp2_with fail
      refine (toIntS_any u10 _ z0 (HIN0.out.below B0.out) hl0).mono ?_
      rintro e u11 ⟨s11, rfl, ho, hb⟩
      replace Os2 := Lib.hid (Os2.out.below hb)
      replace Og0 := Lib.hid (Og0.out.below hb)
      have Os11 := Lib.hid ho
      replace B0 := Lib.hid (B0.out.trans (hb.mono B0.out.size))
      clear ho hb
      go_wp2_with fail
      refine ((H2 u11 _ Os11.out.ints).out).mono ?_
      rintro e u12 ⟨h0, rfl, ho, hb⟩
      replace Os2 := Lib.hid (Os2.out.below hb)
      replace Og0 := Lib.hid (Og0.out.below hb)
      replace Os11 := Lib.hid (Os11.out.below hb)
      have Oh0 := Lib.hid ho
      replace B0 := Lib.hid (B0.out.trans (hb.mono B0.out.size))
      clear ho hb
      go_wp2_with fail
      refine (eqIntS_same u12 _ _ ys Oh0.out.ints Os2.out.ints).mono ?_
      rintro e u13 hq
      obtain ⟨rfl, hb⟩ := hq.below
      replace Os2 := Lib.hid (Os2.out.below hb)
      replace Og0 := Lib.hid (Og0.out.below hb)
      replace Os11 := Lib.hid (Os11.out.below hb)
      replace Oh0 := Lib.hid (Oh0.out.below hb)
      replace B0 := Lib.hid (B0.out.trans (hb.mono B0.out.size))
      clear hq hb
      go_wp2_with fail
      refine (heldIntS_any _ _ 1 _ Og0.out.ints (by decide) (by decide) hyl).mono ?_
      rintro e w' ⟨rfl, rfl⟩
      go_wp2_with fail
      go_ret
      exact ⟨rfl, B0.out⟩

theorem contract (H : Type) (enc : TypeId × Value → H) (W : World) (base : Nat) (args : Array Value) (ds gs : List (DataW H)) (before : List MemPlace)
    (hval : ∀ (j : Nat) t v, Tryd.f4.params[j]? = some t → args[j]? = some v → Value.okWide Tryd.prog W .any base t v)
    (hW : DataW.Whole enc Tryd.prog Tryd.f4.params.toList Rows.fnExactRegisterSpec.vars false W args.toList ds gs before) (hL : laidMetH Tryd.prog Rows.fnExactRegisterRow.laid W) :
    Calls Tryd.prog 4 args W fun e W' => ∃ v, e = .returned v ∧ Rows.fnExactRegisterSpec.post enc Tryd.prog Tryd.f4 false true false false W args v W' := by
  have hW' := hW
  obtain ⟨p, q, hA0, hV, rfl, hfz, hnd⟩ := hW
  have hA : DataW.TrodAll enc Tryd.prog W 0 (fun _ => true) true Tryd.f4.params.toList args.toList ds p := hA0
  rw [Tryd.params4] at hA hval
  obtain ⟨v0, vs0, d0, ds0, p0, q0, hargs, rfl, rfl, h0, r0⟩ := trodAll_cons hA
  obtain ⟨v1, vs1, d1, ds1, p1, q1, rfl, rfl, rfl, h1, r1⟩ := trodAll_cons r0
  obtain ⟨v2, vs2, d2, ds2, p2, q2, rfl, rfl, rfl, h2, r2⟩ := trodAll_cons r1
  obtain ⟨rfl, rfl, rfl⟩ := trodAll_nil r2
  obtain rfl : args = #[v0, v1, v2] := by cases args; simp_all
  obtain ⟨rfl, rfl⟩ := trodVars_none hV
  obtain ⟨a0, len0, cap0, rfl⟩ := okWide_slice Tryd.underlying22 (hval 0 22 v0 rfl rfl)
  have k0 := h0
  have lt0 : ∀ x ∈ p0, x.block < W.heap.size := by obtain ⟨m, hm⟩ := k0; exact DataW.trod_lt m _ _ _ hm
  obtain ⟨z0, w0, f0⟩ : ∃ zs, IntsArg W (.slice a0 len0 cap0) zs ∧ Fit zs := by
    obtain ⟨fuel, hf⟩ := h0
    rcases open_ints Tryd.underlying22 Tryd.underlying3 (by kernel_rfl) hf with ⟨hcs, _⟩ | ⟨x, l, c, zs, hcs, _, hl, hm, hz, _, hcell, hwz⟩
    · simp [Value.cells] at hcs
      obtain ⟨rfl, rfl, rfl⟩ := hcs
      exact ⟨[], IntsArg.nil _, fun z hz => by cases hz⟩
    · simp [Value.cells] at hcs
      obtain ⟨rfl, rfl, rfl⟩ := hcs
      exact ⟨_, IntsArg.of_cells hl hm (by simpa using hz) hcell, Fit.of_wf hwz⟩
  obtain ⟨a1, rfl, rfl, rfl, w1⟩ := open_string Tryd.underlying9 (hval 1 9 v1 rfl rfl) h1
  obtain ⟨a2, rfl, rfl, rfl, w2⟩ := open_int Tryd.underlying3 (hval 2 3 v2 rfl rfl) h2
  clear hA0
  refine (walk W a0 len0 cap0 z0 w0 f0 a1 w1 a2 w2 ).mono fun e W' ⟨he, bel⟩ => ?_
  subst he
  exact ⟨_, rfl, _, _, _, [], _, [], hW', trodAll_mk1 (shut_bool Tryd.underlying4 _), (trodAll_cons_mk (Below.trod laidOut (by kernel_rfl) (of_decide_eq_true (by kernel_rfl)) k0 bel lt0) (trodAll_cons_mk (shut_string Tryd.underlying9 w1) (trodAll_cons_mk (shut_int Tryd.underlying3 w2) trodAll_mk0))), rfl, bel.frame _, fun h => by cases h⟩

theorem laid_met (os : Os) : laidMet Tryd.prog Rows.fnExactRegisterRow.laid ((laidWorld os).forCall (fun _ _ => 0) ⟨#[], #[.slice none 0 0, .string ByteArray.empty, .int .i64 0], []⟩).memory :=
  laidMet_of_run' 8 (by kernel_rfl) (by kernel_rfl)
theorem reads (os : Os) {H : Type} (enc : TypeId × Value → H) : ∃ places, DataW.whole enc Tryd.prog ((laidWorld os).forCall (fun _ _ => 0) ⟨#[], #[.slice none 0 0, .string ByteArray.empty, .int .i64 0], []⟩).memory Tryd.f4.params.toList Rows.fnExactRegisterSpec.vars false #[Value.slice none 0 0, Value.string ByteArray.empty, Value.int .i64 0].toList 8 = some ([.nil, .lit (.string []), .lit (.int .i64 0)], [], places) :=
  ⟨[], by kernel_rfl⟩

set_option maxRecDepth 100000 in
theorem lifted (os : Os) (started : os.Started) (H : Type) (enc : TypeId × Value → H) (F : Stop.Interp) :
    ReturnsInHanded {} Tryd.checked os 4 .any ((OpenSpec.ofChange Rows.fnExactRegisterSpec).preRow enc Tryd.prog Tryd.f4 Rows.fnExactRegisterRow.domain false Rows.fnExactRegisterRow.laid) (((OpenSpec.ofChange Rows.fnExactRegisterSpec).at F).post enc Tryd.prog Tryd.f4 false true false false) := by
  obtain ⟨places, hx⟩ := reads os enc
  refine returnsInHanded_of_row (C := Tryd.checked) (s := OpenSpec.ofChange Rows.fnExactRegisterSpec) own started (by kernel_rfl) Tryd.func4
    (witness_row_at (enc := enc) (C := Tryd.checked) false (laidWorld os) #[.slice none 0 0, .string ByteArray.empty, .int .i64 0] rfl (by kernel_rfl) (by kernel_rfl) (by kernel_rfl)
      (OpenSpec.preRow_of_cond 8 hx (by kernel_rfl) (fun k hk => by cases hk) (by kernel_rfl) (laid_met os))) ?_
  intro W base args ds gs before hval hW _ _ _ hL _ _
  exact contract H enc W base args ds gs before hval hW hL

theorem said : Rows.FnExactRegisterSaid :=
  OpenClaim.holds_of_cond 4 Tryd.f4 rfl rfl rfl rfl rfl rfl rfl ⟨rfl, rfl, rfl, rfl, rfl⟩ rfl rfl rfl rfl rfl (by kernel_rfl) Tryd.func4 (by kernel_rfl)
    (of_decide_eq_true (by kernel_rfl)) (by unfold Func.isWrapper; first | (rw [if_pos (by decide +kernel)]; kernel_rfl) | (rw [if_neg (by decide +kernel)]; exact ⟨rfl, rfl⟩))
    (fun os started H enc _ F => by rw [OpenClaim.pre_eq_preRow]; exact lifted os started H enc F)

theorem plain (f : FuncId) (fn : Func) (hf : Tryd.pinned.checked.prog.funcNamed Rows.fnExactRegisterRow.func = some f) (hfn : Tryd.pinned.checked.prog.funcs[f]? = some fn) :
    Rows.fnExactRegisterCard.stood.looks = Tryd.pinned.checked.prog.looks [] ∧ ∀ (j : Nat) t, fn.params[j]? = some t → Tryd.pinned.checked.prog.wantsStandIn t = false := by
  obtain rfl : f = 4 := Option.some.inj ((show Tryd.prog.funcNamed Rows.fnExactRegisterRow.func = some 4 by kernel_rfl).symm.trans hf) |>.symm
  obtain rfl : fn = Tryd.f4 := (Option.some.inj (Tryd.func4.symm.trans hfn)).symm
  refine ⟨by kernel_rfl, fun j t ht => ?_⟩
  rw [Tryd.params4] at ht
  have hm : t = 22 ∨ t = 9 ∨ t = 3 := by simpa using Array.mem_of_getElem? ht
  rcases hm with rfl | rfl | rfl
  · exact (show Tryd.prog.wantsStandIn 22 = false by kernel_rfl)
  · exact (show Tryd.prog.wantsStandIn 9 = false by kernel_rfl)
  · exact (show Tryd.prog.wantsStandIn 3 = false by kernel_rfl)

end Go.Proofs.YtmnkjjgfebfgmaaDoor.fnExactRegister
namespace Go.Proofs.YtmnkjjgfebfgmaaDoor
theorem fnExactRegister_holds : Rows.FnExactRegisterCardSaid :=
  Claim7.holds_tied_plain_at .later [] _ _ _ _ fnExactRegister.said (fun _ h => by cases h) (by kernel_rfl) (fun _ h => by cases h) fnExactRegister_row_tie rfl ⟨rfl, rfl⟩ (by kernel_rfl) rfl fnExactRegister.plain (by kernel_rfl)
end Go.Proofs.YtmnkjjgfebfgmaaDoor
