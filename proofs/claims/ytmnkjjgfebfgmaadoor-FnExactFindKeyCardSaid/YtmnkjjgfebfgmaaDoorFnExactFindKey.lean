/-
  FnExactFindKey: what the function answers is what its model answers, at every argument: the law's call returns true and each argument reads afterwards as before. The library's own variables begin as the program's text lays them, which the card ties.
-/
import Derived.Test.YtmnkjjgfebfgmaaDoorCards
import Derived.Test.YtmnkjjgfebfgmaaDoorTie
import Derived.Test.YtmnkjjgfebfgmaaDoorTblI
import Derived.Test.YtmnkjjgfebfgmaaDoorLaidU
import Derived.WalkKit
import Derived.ProofKit
import Derived.OpenShut
import Derived.ShutString
import Derived.ChangeOld
import Derived.Below
namespace Go.Proofs.YtmnkjjgfebfgmaaDoor.fnExactFindKey
open Go.ChangeShapes Go.WideShapes Go.ChangeAt Go.RowKit Go.Proofs.YtmnkjjgfebfgmaaDoor.M
open Go.ChangeMaps (open_string shut_string)
set_option linter.unusedVariables false
theorem laidOut : laidOutB Tryd.prog = true := by kernel_rfl

set_option maxRecDepth 100000 in
theorem walk (w : World) (a0 : Option Addr) (len0 cap0 : Nat) (z0 : List Int) (w0 : IntsArg w (.slice a0 len0 cap0) z0) (f0 : Fit z0) (a1 : ByteArray) (w1 : a1.size ≤ maxLen)  :
    Calls Tryd.prog 3 #[.slice a0 len0 cap0, .string a1] w fun e w' => e = .returned (.bool true) ∧ Below w.heap.size w w' := by
  have hlen0 : z0.length = len0 := by obtain ⟨A, c, e, _⟩ := w0; injection e with _ e2; exact e2.symm
  by_cases hb0 : (1048576 : Int) < (len0 : Int)
  · have hbig : decide ((1048576 : Int) < (len0 : Int)) = true := by rw [decide_eq_true]; omega
    clear w0 hlen0
    go_enter Tryd.func3, Tryd.ntmps3
    go_wp2_with fail
    go_ret
    exact ⟨rfl, Below.refl _ _⟩
  · have hbig0 : decide ((1048576 : Int) < (len0 : Int)) = false := by rw [decide_eq_false]; omega
    by_cases hb1 : (1048576 : Int) < (a1.size : Int)
    · have hbig : decide ((1048576 : Int) < (a1.size : Int)) = true := by rw [decide_eq_true]; omega
      clear w0 hlen0
      go_enter Tryd.func3, Tryd.ntmps3
      go_wp2_with fail
      go_ret
      exact ⟨rfl, Below.refl _ _⟩
    · have hbig1 : decide ((1048576 : Int) < (a1.size : Int)) = false := by rw [decide_eq_false]; omega
      have hl0 : z0.length ≤ 1048576 := by omega
      have HIN0 := Lib.hid w0
      have H1 := fun W v h => Lib.hid (sFindKey_any W v z0 a1 h w1)
      have H2 := fun W v h => Lib.hid (iFindKey_any W v z0 a1 h w1)
      generalize fkS z0 a1 = r at *
      generalize fkK z0 a1 = r2 at *
      have B0 := Lib.hid (Below.refl w.heap.size w)
      clear w0 hlen0
      go_enter Tryd.func3, Tryd.ntmps3
      go_wp2_with fail
      refine (toIntS_any w _ z0 (HIN0.out.below B0.out) hl0).mono ?_
      rintro e u1 ⟨s1, rfl, ho, hb⟩
      have Os1 := Lib.hid ho
      replace B0 := Lib.hid (B0.out.trans (hb.mono B0.out.size))
      clear ho hb
      go_wp2_with fail
      refine ((H1 u1 _ Os1.out.ints).out).mono ?_
      rintro e u2 ⟨rfl, hb⟩
      replace Os1 := Lib.hid (Os1.out.below hb)
      replace B0 := Lib.hid (B0.out.trans (hb.mono B0.out.size))
      clear hb
      clear Os1
      go_wp2_with fail
      refine (toIntS_any u2 _ z0 (HIN0.out.below B0.out) hl0).mono ?_
      rintro e u3 ⟨x0, rfl, ho, hb⟩
      have Ox0 := Lib.hid ho
      replace B0 := Lib.hid (B0.out.trans (hb.mono B0.out.size))
      clear ho hb
      go_wp2_with fail
      refine ((H2 u3 _ Ox0.out.ints).out).mono ?_
      rintro e u4 ⟨rfl, hb⟩
      replace Ox0 := Lib.hid (Ox0.out.below hb)
      replace B0 := Lib.hid (B0.out.trans (hb.mono B0.out.size))
      clear hb
      go_wp2_with fail
      refine (toIntS_any u4 _ z0 (HIN0.out.below B0.out) hl0).mono ?_
      rintro e u5 ⟨s3, rfl, ho, hb⟩
      replace Ox0 := Lib.hid (Ox0.out.below hb)
      have Os3 := Lib.hid ho
      replace B0 := Lib.hid (B0.out.trans (hb.mono B0.out.size))
      clear ho hb
      go_wp2_with fail
      refine (eqIntS_same u5 _ _ z0 Ox0.out.ints Os3.out.ints).mono ?_
      rintro e u6 hq
      obtain ⟨rfl, hb⟩ := hq.below
      replace Ox0 := Lib.hid (Ox0.out.below hb)
      replace Os3 := Lib.hid (Os3.out.below hb)
      replace B0 := Lib.hid (B0.out.trans (hb.mono B0.out.size))
      clear hq hb
      go_wp2_with fail
      go_ret
      exact ⟨rfl, B0.out⟩

theorem contract (H : Type) (enc : TypeId × Value → H) (W : World) (base : Nat) (args : Array Value) (ds gs : List (DataW H)) (before : List MemPlace)
    (hval : ∀ (j : Nat) t v, Tryd.f3.params[j]? = some t → args[j]? = some v → Value.okWide Tryd.prog W .any base t v)
    (hW : DataW.Whole enc Tryd.prog Tryd.f3.params.toList Rows.fnExactFindKeySpec.vars false W args.toList ds gs before) (hL : laidMetH Tryd.prog Rows.fnExactFindKeyRow.laid W) :
    Calls Tryd.prog 3 args W fun e W' => ∃ v, e = .returned v ∧ Rows.fnExactFindKeySpec.post enc Tryd.prog Tryd.f3 false true false false W args v W' := by
  have hW' := hW
  obtain ⟨p, q, hA0, hV, rfl, hfz, hnd⟩ := hW
  have hA : DataW.TrodAll enc Tryd.prog W 0 (fun _ => true) true Tryd.f3.params.toList args.toList ds p := hA0
  rw [Tryd.params3] at hA hval
  obtain ⟨v0, vs0, d0, ds0, p0, q0, hargs, rfl, rfl, h0, r0⟩ := trodAll_cons hA
  obtain ⟨v1, vs1, d1, ds1, p1, q1, rfl, rfl, rfl, h1, r1⟩ := trodAll_cons r0
  obtain ⟨rfl, rfl, rfl⟩ := trodAll_nil r1
  obtain rfl : args = #[v0, v1] := by cases args; simp_all
  obtain ⟨rfl, rfl⟩ := trodVars_none hV
  obtain ⟨a0, len0, cap0, rfl⟩ := okWide_slice Tryd.underlying22 (hval 0 22 v0 rfl rfl)
  have k0 := h0
  have lt0 : ∀ x ∈ p0, x.block < W.heap.size := by obtain ⟨m, hm⟩ := k0; exact DataW.trod_lt m _ _ _ hm
  obtain ⟨z0, w0, f0⟩ : ∃ zs, IntsArg W (.slice a0 len0 cap0) zs ∧ Fit zs := by
    obtain ⟨fuel, hf⟩ := h0
    rcases open_ints Tryd.underlying22 Tryd.underlying3 (by kernel_rfl) hf with ⟨hcs, _⟩ | ⟨x, l, c, zs, hcs, _, hl, hm, hz, _, hcell, hwz⟩
    · simp [Value.cells] at hcs
      obtain ⟨rfl, rfl, rfl⟩ := hcs
      exact ⟨[], IntsArg.nil _, fun z hz => by cases hz⟩
    · simp [Value.cells] at hcs
      obtain ⟨rfl, rfl, rfl⟩ := hcs
      exact ⟨_, IntsArg.of_cells hl hm (by simpa using hz) hcell, Fit.of_wf hwz⟩
  obtain ⟨a1, rfl, rfl, rfl, w1⟩ := open_string Tryd.underlying9 (hval 1 9 v1 rfl rfl) h1
  clear hA0
  refine (walk W a0 len0 cap0 z0 w0 f0 a1 w1 ).mono fun e W' ⟨he, bel⟩ => ?_
  subst he
  exact ⟨_, rfl, _, _, _, [], _, [], hW', trodAll_mk1 (shut_bool Tryd.underlying4 _), (trodAll_cons_mk (Below.trod laidOut (by kernel_rfl) (of_decide_eq_true (by kernel_rfl)) k0 bel lt0) (trodAll_cons_mk (shut_string Tryd.underlying9 w1) trodAll_mk0)), rfl, bel.frame _, fun h => by cases h⟩

theorem laid_met (os : Os) : laidMet Tryd.prog Rows.fnExactFindKeyRow.laid ((laidWorld os).forCall (fun _ _ => 0) ⟨#[], #[.slice none 0 0, .string ByteArray.empty], []⟩).memory :=
  laidMet_of_run' 8 (by kernel_rfl) (by kernel_rfl)
theorem reads (os : Os) {H : Type} (enc : TypeId × Value → H) : ∃ places, DataW.whole enc Tryd.prog ((laidWorld os).forCall (fun _ _ => 0) ⟨#[], #[.slice none 0 0, .string ByteArray.empty], []⟩).memory Tryd.f3.params.toList Rows.fnExactFindKeySpec.vars false #[Value.slice none 0 0, Value.string ByteArray.empty].toList 8 = some ([.nil, .lit (.string [])], [], places) :=
  ⟨[], by kernel_rfl⟩

set_option maxRecDepth 100000 in
theorem lifted (os : Os) (started : os.Started) (H : Type) (enc : TypeId × Value → H) (F : Stop.Interp) :
    ReturnsInHanded {} Tryd.checked os 3 .any ((OpenSpec.ofChange Rows.fnExactFindKeySpec).preRow enc Tryd.prog Tryd.f3 Rows.fnExactFindKeyRow.domain false Rows.fnExactFindKeyRow.laid) (((OpenSpec.ofChange Rows.fnExactFindKeySpec).at F).post enc Tryd.prog Tryd.f3 false true false false) := by
  obtain ⟨places, hx⟩ := reads os enc
  refine returnsInHanded_of_row (C := Tryd.checked) (s := OpenSpec.ofChange Rows.fnExactFindKeySpec) own started (by kernel_rfl) Tryd.func3
    (witness_row_at (enc := enc) (C := Tryd.checked) false (laidWorld os) #[.slice none 0 0, .string ByteArray.empty] rfl (by kernel_rfl) (by kernel_rfl) (by kernel_rfl)
      (OpenSpec.preRow_of_cond 8 hx (by kernel_rfl) (fun k hk => by cases hk) (by kernel_rfl) (laid_met os))) ?_
  intro W base args ds gs before hval hW _ _ _ hL _ _
  exact contract H enc W base args ds gs before hval hW hL

theorem said : Rows.FnExactFindKeySaid :=
  OpenClaim.holds_of_cond 3 Tryd.f3 rfl rfl rfl rfl rfl rfl rfl ⟨rfl, rfl, rfl, rfl, rfl⟩ rfl rfl rfl rfl rfl (by kernel_rfl) Tryd.func3 (by kernel_rfl)
    (of_decide_eq_true (by kernel_rfl)) (by unfold Func.isWrapper; first | (rw [if_pos (by decide +kernel)]; kernel_rfl) | (rw [if_neg (by decide +kernel)]; exact ⟨rfl, rfl⟩))
    (fun os started H enc _ F => by rw [OpenClaim.pre_eq_preRow]; exact lifted os started H enc F)

theorem plain (f : FuncId) (fn : Func) (hf : Tryd.pinned.checked.prog.funcNamed Rows.fnExactFindKeyRow.func = some f) (hfn : Tryd.pinned.checked.prog.funcs[f]? = some fn) :
    Rows.fnExactFindKeyCard.stood.looks = Tryd.pinned.checked.prog.looks [] ∧ ∀ (j : Nat) t, fn.params[j]? = some t → Tryd.pinned.checked.prog.wantsStandIn t = false := by
  obtain rfl : f = 3 := Option.some.inj ((show Tryd.prog.funcNamed Rows.fnExactFindKeyRow.func = some 3 by kernel_rfl).symm.trans hf) |>.symm
  obtain rfl : fn = Tryd.f3 := (Option.some.inj (Tryd.func3.symm.trans hfn)).symm
  refine ⟨by kernel_rfl, fun j t ht => ?_⟩
  rw [Tryd.params3] at ht
  have hm : t = 22 ∨ t = 9 := by simpa using Array.mem_of_getElem? ht
  rcases hm with rfl | rfl
  · exact (show Tryd.prog.wantsStandIn 22 = false by kernel_rfl)
  · exact (show Tryd.prog.wantsStandIn 9 = false by kernel_rfl)

end Go.Proofs.YtmnkjjgfebfgmaaDoor.fnExactFindKey
namespace Go.Proofs.YtmnkjjgfebfgmaaDoor
theorem fnExactFindKey_holds : Rows.FnExactFindKeyCardSaid :=
  Claim7.holds_tied_plain_at .later [] _ _ _ _ fnExactFindKey.said (fun _ h => by cases h) (by kernel_rfl) (fun _ h => by cases h) fnExactFindKey_row_tie rfl ⟨rfl, rfl⟩ (by kernel_rfl) rfl fnExactFindKey.plain (by kernel_rfl)
end Go.Proofs.YtmnkjjgfebfgmaaDoor
