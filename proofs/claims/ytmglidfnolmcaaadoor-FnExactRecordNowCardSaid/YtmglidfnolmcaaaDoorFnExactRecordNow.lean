/-
  FnExactRecordNow: what the function answers is what its model answers, at every argument: the law's call returns true and each argument reads afterwards as before. The library's own variables begin as the program's text lays them, which the card ties.
-/
import Derived.Test.YtmglidfnolmcaaaDoorCards
import Derived.Test.YtmglidfnolmcaaaDoorTie
import Derived.Test.YtmglidfnolmcaaaDoorNowI
import Derived.Test.YtmglidfnolmcaaaDoorZb
import Derived.WalkKit
import Derived.ProofKit
import Derived.OpenShut
import Derived.ShutString
import Derived.ChangeOld
import Derived.Below
namespace Go.Proofs.YtmglidfnolmcaaaDoor.fnExactRecordNow
open Go.ChangeShapes Go.WideShapes Go.ChangeAt Go.RowKit Go.Proofs.YtmglidfnolmcaaaDoor.M
open Go.ChangeMaps (open_string shut_string)
set_option linter.unusedVariables false
theorem laidOut : laidOutB Tryd.prog = true := by kernel_rfl

set_option maxRecDepth 100000 in
set_option maxHeartbeats 1600000 in
theorem walk (w : World) (a0 : Option Addr) (len0 cap0 : Nat) (z0 : List Int) (w0 : IntsArg w (.slice a0 len0 cap0) z0) (f0 : Fit z0) (a1 : Int) (w1 : (Lit.int .i64 a1).wf = true) (a2 : ByteArray) (w2 : a2.size ≤ maxLen) (a3 : Int) (w3 : (Lit.int .i64 a3).wf = true)  :
    Calls Tryd.prog 3 #[.slice a0 len0 cap0, .int .i64 a1, .string a2, .int .i64 a3] w fun e w' => e = .returned (.bool true) ∧ Below w.heap.size w w' := by
  have hlen0 : z0.length = len0 := by obtain ⟨A, c, e, _⟩ := w0; injection e with _ e2; exact e2.symm
  by_cases hb0 : (1048576 : Int) < (len0 : Int)
  · have hbig : decide ((1048576 : Int) < (len0 : Int)) = true := by rw [decide_eq_true]; omega
    clear w0 hlen0
    go_enter Tryd.func3, Tryd.ntmps3
    go_wp2_with fail
    go_ret
    exact ⟨rfl, Below.refl _ _⟩
  · have hbig0 : decide ((1048576 : Int) < (len0 : Int)) = false := by rw [decide_eq_false]; omega
    by_cases hb2 : (1048576 : Int) < (a2.size : Int)
    · have hbig : decide ((1048576 : Int) < (a2.size : Int)) = true := by rw [decide_eq_true]; omega
      clear w0 hlen0
      go_enter Tryd.func3, Tryd.ntmps3
      go_wp2_with fail
      go_ret
      exact ⟨rfl, Below.refl _ _⟩
    · have hbig2 : decide ((1048576 : Int) < (a2.size : Int)) = false := by rw [decide_eq_false]; omega
      have hl0 : z0.length ≤ 1048576 := by omega
      obtain ⟨lo1, hi1⟩ := bounds_i64 w1
      obtain ⟨lo3, hi3⟩ := bounds_i64 w3
      have HIN0 := Lib.hid w0
      have H1 := fun W v h => Lib.hid (sRecordNow_any W v z0 a1 a2 a3 h hl0 w2)
      have H2 := fun W v h => Lib.hid (iRecordNow_any W v z0 a1 a2 a3 h hl0 w2 lo1 hi1 lo3 hi3)
      have hy := recC_len z0 a1 a2 a3
      generalize recC z0 a1 a2 a3 = ys at *
      generalize recD z0 a1 a2 a3 = rd at *
      have hk0 : decide (1 + (z0.length : Int) < 0) = false := by rw [decide_eq_false]; omega
      have hk_ys : decide (1 + (ys.length : Int) < 0) = false := by rw [decide_eq_false]; omega
      have hl_ys : ys.length ≤ 1048576 := by omega
      clear hy
      have B0 := Lib.hid (Below.refl w.heap.size w)
      clear w0 hlen0
      go_enter Tryd.func3, Tryd.ntmps3
      have HS0 := Lib.hid B0.out.size
      go_wp2_with fail
      refine (toIntS_any w _ z0 (HIN0.out.below B0.out) hl0).mono ?_
      rintro e u1 ⟨s1, rfl, ho0, hb⟩
      have Ls1 := Lib.hid (show ∀ k, s1.ownBlock = some k → w.heap.size ≤ k from fun k hk => Nat.le_trans HS0.out (ho0.base_le k hk))
      have Os1 := Lib.hid ho0
      replace B0 := Lib.hid (B0.out.trans (hb.mono B0.out.size))
      clear ho0 hb
      have HS1 := Lib.hid B0.out.size
      go_wp2_with fail
      refine ((H1 u1 _ Os1.out.ints).out).mono ?_
      rintro e u2 ⟨v0, rfl, ho0, hb⟩
      have As1_v0 := Lib.hid (Ap.of Os1.out.lt (fun k hk => ho0.base_le k hk))
      replace Os1 := Lib.hid (Os1.out.below hb)
      have Lv0 := Lib.hid (show ∀ k, v0.ownBlock = some k → w.heap.size ≤ k from fun k hk => Nat.le_trans HS1.out (ho0.base_le k hk))
      have Ov0 := Lib.hid ho0
      replace B0 := Lib.hid (B0.out.trans (hb.mono B0.out.size))
      clear ho0 hb
      clear Os1
      have HS2 := Lib.hid B0.out.size
      go_wp2_with fail
      refine (toIntS_any u2 _ z0 (HIN0.out.below B0.out) hl0).mono ?_
      rintro e u3 ⟨x0, rfl, ho0, hb⟩
      have Av0_x0 := Lib.hid (Ap.of Ov0.out.lt (fun k hk => ho0.base_le k hk))
      replace Ov0 := Lib.hid (Ov0.out.below hb)
      have Lx0 := Lib.hid (show ∀ k, x0.ownBlock = some k → w.heap.size ≤ k from fun k hk => Nat.le_trans HS2.out (ho0.base_le k hk))
      have Ox0 := Lib.hid ho0
      replace B0 := Lib.hid (B0.out.trans (hb.mono B0.out.size))
      clear ho0 hb
      have HS3 := Lib.hid B0.out.size
      go_wp2_with fail
      refine ((H2 u3 _ Ox0.out.ints).out).mono ?_
      rintro e u4 ⟨g0, rfl, ho0, hb⟩
      have Av0_g0 := Lib.hid (Ap.of Ov0.out.lt (fun k hk => ho0.base_le k hk))
      have Ax0_g0 := Lib.hid (Ap.of Ox0.out.lt (fun k hk => ho0.base_le k hk))
      replace Ov0 := Lib.hid (Ov0.out.below hb)
      replace Ox0 := Lib.hid (Ox0.out.below hb)
      have Lg0 := Lib.hid (show ∀ k, g0.ownBlock = some k → w.heap.size ≤ k from fun k hk => Nat.le_trans HS3.out (ho0.base_le k hk))
      have Og0 := Lib.hid ho0
      replace B0 := Lib.hid (B0.out.trans (hb.mono B0.out.size))
      clear ho0 hb
      go_wp2_with fail
      refine (eqIntS_same u4 _ _ ys Og0.out.ints Ov0.out.ints).mono ?_
      rintro e u5 hq
      obtain ⟨rfl, hb⟩ := hq.below
      replace Ov0 := Lib.hid (Ov0.out.below hb)
      replace Ox0 := Lib.hid (Ox0.out.below hb)
      replace Og0 := Lib.hid (Og0.out.below hb)
      replace B0 := Lib.hid (B0.out.trans (hb.mono B0.out.size))
      clear hb hq
      have HS5 := Lib.hid B0.out.size
      go_wp2_with fail
      refine (toIntS_any u5 _ z0 (HIN0.out.below B0.out) hl0).mono ?_
      rintro e u6 ⟨s6, rfl, ho0, hb⟩
      have Av0_s6 := Lib.hid (Ap.of Ov0.out.lt (fun k hk => ho0.base_le k hk))
      have Ax0_s6 := Lib.hid (Ap.of Ox0.out.lt (fun k hk => ho0.base_le k hk))
      have Ag0_s6 := Lib.hid (Ap.of Og0.out.lt (fun k hk => ho0.base_le k hk))
      replace Ov0 := Lib.hid (Ov0.out.below hb)
      replace Ox0 := Lib.hid (Ox0.out.below hb)
      replace Og0 := Lib.hid (Og0.out.below hb)
      have Ls6 := Lib.hid (show ∀ k, s6.ownBlock = some k → w.heap.size ≤ k from fun k hk => Nat.le_trans HS5.out (ho0.base_le k hk))
      have Os6 := Lib.hid ho0
      replace B0 := Lib.hid (B0.out.trans (hb.mono B0.out.size))
      clear ho0 hb
      go_wp2_with fail
      refine (eqIntS_same u6 _ _ z0 Ox0.out.ints Os6.out.ints).mono ?_
      rintro e u7 hq
      obtain ⟨rfl, hb⟩ := hq.below
      replace Ov0 := Lib.hid (Ov0.out.below hb)
      replace Ox0 := Lib.hid (Ox0.out.below hb)
      replace Og0 := Lib.hid (Og0.out.below hb)
      replace Os6 := Lib.hid (Os6.out.below hb)
      replace B0 := Lib.hid (B0.out.trans (hb.mono B0.out.size))
      clear hb hq
      clear Os6
      go_wp2_with fail
      refine (markIntS_any u7 _ _ z0 1 Ox0.out (by omega) (by omega) (by omega)).mono ?_
      rintro e u8 ⟨rfl, ho, hg⟩
      replace Ov0 := Lib.hid (Ov0.out.keptA hg Av0_x0.out.1)
      replace Og0 := Lib.hid (Og0.out.keptA hg Ax0_g0.out.2)
      replace B0 := Lib.hid (B0.out.grown hg B0.out.size (fun k hk => Lx0.out k hk))
      replace Ox0 := Lib.hid ho
      clear ho hg
      clear Ox0
      go_wp2_with fail
      refine (eqIntS_same u8 _ _ ys Og0.out.ints Ov0.out.ints).mono ?_
      rintro e u9 hq
      obtain ⟨rfl, hb⟩ := hq.below
      replace Ov0 := Lib.hid (Ov0.out.below hb)
      replace Og0 := Lib.hid (Og0.out.below hb)
      replace B0 := Lib.hid (B0.out.trans (hb.mono B0.out.size))
      clear hb hq
      go_wp2_with fail
      refine (markIntS_any u9 _ _ ys 1 Og0.out (by omega) (by omega) (by omega)).mono ?_
      rintro e u10 ⟨rfl, ho, hg⟩
      replace Ov0 := Lib.hid (Ov0.out.keptA hg Av0_g0.out.1)
      replace B0 := Lib.hid (B0.out.grown hg B0.out.size (fun k hk => Lg0.out k hk))
      replace Og0 := Lib.hid ho
      clear ho hg
      go_wp2_with fail
      refine (heldIntS_any _ _ (1) ys.length Og0.out.ints (by omega) (by omega) (by omega)).mono ?_
      rintro e w' ⟨rfl, rfl⟩
      have HS10 := Lib.hid B0.out.size
      go_wp2_with fail
      refine (toIntS_any u10 _ z0 (HIN0.out.below B0.out) hl0).mono ?_
      rintro e u11 ⟨s11, rfl, ho0, hb⟩
      have Av0_s11 := Lib.hid (Ap.of Ov0.out.lt (fun k hk => ho0.base_le k hk))
      have Ag0_s11 := Lib.hid (Ap.of Og0.out.lt (fun k hk => ho0.base_le k hk))
      replace Ov0 := Lib.hid (Ov0.out.below hb)
      replace Og0 := Lib.hid (Og0.out.below hb)
      have Ls11 := Lib.hid (show ∀ k, s11.ownBlock = some k → w.heap.size ≤ k from fun k hk => Nat.le_trans HS10.out (ho0.base_le k hk))
      have Os11 := Lib.hid ho0
      replace B0 := Lib.hid (B0.out.trans (hb.mono B0.out.size))
      clear ho0 hb
      have HS11 := Lib.hid B0.out.size
      go_wp2_with fail
      refine ((H2 u11 _ Os11.out.ints).out).mono ?_
      rintro e u12 ⟨h0, rfl, ho0, hb⟩
      have Av0_h0 := Lib.hid (Ap.of Ov0.out.lt (fun k hk => ho0.base_le k hk))
      have Ag0_h0 := Lib.hid (Ap.of Og0.out.lt (fun k hk => ho0.base_le k hk))
      have As11_h0 := Lib.hid (Ap.of Os11.out.lt (fun k hk => ho0.base_le k hk))
      replace Ov0 := Lib.hid (Ov0.out.below hb)
      replace Og0 := Lib.hid (Og0.out.below hb)
      replace Os11 := Lib.hid (Os11.out.below hb)
      have Lh0 := Lib.hid (show ∀ k, h0.ownBlock = some k → w.heap.size ≤ k from fun k hk => Nat.le_trans HS11.out (ho0.base_le k hk))
      have Oh0 := Lib.hid ho0
      replace B0 := Lib.hid (B0.out.trans (hb.mono B0.out.size))
      clear ho0 hb
      go_wp2_with fail
      refine (eqIntS_same u12 _ _ ys Oh0.out.ints Ov0.out.ints).mono ?_
      rintro e u13 hq
      obtain ⟨rfl, hb⟩ := hq.below
      replace Ov0 := Lib.hid (Ov0.out.below hb)
      replace Og0 := Lib.hid (Og0.out.below hb)
      replace Os11 := Lib.hid (Os11.out.below hb)
      replace Oh0 := Lib.hid (Oh0.out.below hb)
      replace B0 := Lib.hid (B0.out.trans (hb.mono B0.out.size))
      clear hb hq
      go_wp2_with fail
      refine (heldIntS_any _ _ (1) ys.length Og0.out.ints (by omega) (by omega) (by omega)).mono ?_
      rintro e w' ⟨rfl, rfl⟩
      go_wp2_with fail
      go_ret
      exact ⟨rfl, B0.out⟩

set_option maxRecDepth 100000 in
theorem contract (H : Type) (enc : TypeId × Value → H) (W : World) (base : Nat) (args : Array Value) (ds gs : List (DataW H)) (before : List MemPlace)
    (hval : ∀ (j : Nat) t v, Tryd.f3.params[j]? = some t → args[j]? = some v → Value.okWide Tryd.prog W .any base t v)
    (hW : DataW.Whole enc Tryd.prog Tryd.f3.params.toList Rows.fnExactRecordNowSpec.vars false W args.toList ds gs before) (hL : laidMetH Tryd.prog Rows.fnExactRecordNowRow.laid W) :
    Calls Tryd.prog 3 args W fun e W' => ∃ v, e = .returned v ∧ Rows.fnExactRecordNowSpec.post enc Tryd.prog Tryd.f3 false true false false W args v W' := by
  have hW' := hW
  obtain ⟨p, q, hA0, hV, rfl, hfz, hnd⟩ := hW
  have hA : DataW.TrodAll enc Tryd.prog W 0 (fun _ => true) true Tryd.f3.params.toList args.toList ds p := hA0
  rw [Tryd.params3] at hA hval
  obtain ⟨v0, vs0, d0, ds0, p0, q0, hargs, rfl, rfl, h0, r0⟩ := trodAll_cons hA
  obtain ⟨v1, vs1, d1, ds1, p1, q1, rfl, rfl, rfl, h1, r1⟩ := trodAll_cons r0
  obtain ⟨v2, vs2, d2, ds2, p2, q2, rfl, rfl, rfl, h2, r2⟩ := trodAll_cons r1
  obtain ⟨v3, vs3, d3, ds3, p3, q3, rfl, rfl, rfl, h3, r3⟩ := trodAll_cons r2
  obtain ⟨rfl, rfl, rfl⟩ := trodAll_nil r3
  obtain rfl : args = #[v0, v1, v2, v3] := by cases args; simp_all
  obtain ⟨rfl, rfl⟩ := trodVars_none hV
  obtain ⟨a0, len0, cap0, rfl⟩ := okWide_slice Tryd.underlying22 (hval 0 22 v0 rfl rfl)
  have k0 := h0
  have lt0 : ∀ x ∈ p0, x.block < W.heap.size := by obtain ⟨m, hm⟩ := k0; exact DataW.trod_lt m _ _ _ hm
  obtain ⟨z0, w0, f0⟩ : ∃ zs, IntsArg W (.slice a0 len0 cap0) zs ∧ Fit zs := by
    obtain ⟨fuel, hf⟩ := h0
    rcases open_ints Tryd.underlying22 Tryd.underlying3 (by kernel_rfl) hf with ⟨hcs, _⟩ | ⟨x, l, c, zs, hcs, _, hl, hm, hz, _, hcell, hwz⟩
    · simp [Value.cells] at hcs
      obtain ⟨rfl, rfl, rfl⟩ := hcs
      exact ⟨[], IntsArg.nil _, fun z hz => by cases hz⟩
    · simp [Value.cells] at hcs
      obtain ⟨rfl, rfl, rfl⟩ := hcs
      exact ⟨_, IntsArg.of_cells hl hm (by simpa using hz) hcell, Fit.of_wf hwz⟩
  obtain ⟨a1, rfl, rfl, rfl, w1⟩ := open_int Tryd.underlying3 (hval 1 3 v1 rfl rfl) h1
  obtain ⟨a2, rfl, rfl, rfl, w2⟩ := open_string Tryd.underlying9 (hval 2 9 v2 rfl rfl) h2
  obtain ⟨a3, rfl, rfl, rfl, w3⟩ := open_int Tryd.underlying3 (hval 3 3 v3 rfl rfl) h3
  clear hA0
  refine (walk W a0 len0 cap0 z0 w0 f0 a1 w1 a2 w2 a3 w3 ).mono fun e W' ⟨he, bel⟩ => ?_
  subst he
  exact ⟨_, rfl, _, _, _, [], _, [], hW', trodAll_mk1 (shut_bool Tryd.underlying4 _), (trodAll_cons_mk (Below.trod laidOut (by kernel_rfl) (of_decide_eq_true (by kernel_rfl)) k0 bel lt0) (trodAll_cons_mk (shut_int Tryd.underlying3 w1) (trodAll_cons_mk (shut_string Tryd.underlying9 w2) (trodAll_cons_mk (shut_int Tryd.underlying3 w3) trodAll_mk0)))), rfl, bel.frame _, fun h => by cases h⟩

theorem laid_met (os : Os) : laidMet Tryd.prog Rows.fnExactRecordNowRow.laid ((laidWorld os).forCall (fun _ _ => 0) ⟨#[], #[.slice none 0 0, .int .i64 0, .string ByteArray.empty, .int .i64 0], []⟩).memory :=
  laidMet_of_run' 8 (by kernel_rfl) (by kernel_rfl)
theorem reads (os : Os) {H : Type} (enc : TypeId × Value → H) : ∃ places, DataW.whole enc Tryd.prog ((laidWorld os).forCall (fun _ _ => 0) ⟨#[], #[.slice none 0 0, .int .i64 0, .string ByteArray.empty, .int .i64 0], []⟩).memory Tryd.f3.params.toList Rows.fnExactRecordNowSpec.vars false #[Value.slice none 0 0, Value.int .i64 0, Value.string ByteArray.empty, Value.int .i64 0].toList 8 = some ([.nil, .lit (.int .i64 0), .lit (.string []), .lit (.int .i64 0)], [], places) :=
  ⟨[], by kernel_rfl⟩

set_option maxRecDepth 100000 in
theorem lifted (os : Os) (started : os.Started) (H : Type) (enc : TypeId × Value → H) (F : Stop.Interp) :
    ReturnsInHanded {} Tryd.checked os 3 .any ((OpenSpec.ofChange Rows.fnExactRecordNowSpec).preRow enc Tryd.prog Tryd.f3 Rows.fnExactRecordNowRow.domain false Rows.fnExactRecordNowRow.laid) (((OpenSpec.ofChange Rows.fnExactRecordNowSpec).at F).post enc Tryd.prog Tryd.f3 false true false false) := by
  obtain ⟨places, hx⟩ := reads os enc
  refine returnsInHanded_of_row (C := Tryd.checked) (s := OpenSpec.ofChange Rows.fnExactRecordNowSpec) own started (by kernel_rfl) Tryd.func3
    (witness_row_at (enc := enc) (C := Tryd.checked) false (laidWorld os) #[.slice none 0 0, .int .i64 0, .string ByteArray.empty, .int .i64 0] rfl (by kernel_rfl) (by kernel_rfl) (by kernel_rfl)
      (OpenSpec.preRow_of_cond 8 hx (by kernel_rfl) (fun k hk => by cases hk) (by kernel_rfl) (laid_met os))) ?_
  intro W base args ds gs before hval hW _ _ _ hL _ _
  exact contract H enc W base args ds gs before hval hW hL

theorem said : Rows.FnExactRecordNowSaid :=
  OpenClaim.holds_of_cond 3 Tryd.f3 rfl rfl rfl rfl rfl rfl rfl ⟨rfl, rfl, rfl, rfl, rfl⟩ rfl rfl rfl rfl rfl (by kernel_rfl) Tryd.func3 (by kernel_rfl)
    (of_decide_eq_true (by kernel_rfl)) (by unfold Func.isWrapper; first | (rw [if_pos (by decide +kernel)]; kernel_rfl) | (rw [if_neg (by decide +kernel)]; exact ⟨rfl, rfl⟩))
    (fun os started H enc _ F => by rw [OpenClaim.pre_eq_preRow]; exact lifted os started H enc F)

theorem plain (f : FuncId) (fn : Func) (hf : Tryd.pinned.checked.prog.funcNamed Rows.fnExactRecordNowRow.func = some f) (hfn : Tryd.pinned.checked.prog.funcs[f]? = some fn) :
    Rows.fnExactRecordNowCard.stood.looks = Tryd.pinned.checked.prog.looks [] ∧ ∀ (j : Nat) t, fn.params[j]? = some t → Tryd.pinned.checked.prog.wantsStandIn t = false := by
  obtain rfl : f = 3 := Option.some.inj ((show Tryd.prog.funcNamed Rows.fnExactRecordNowRow.func = some 3 by kernel_rfl).symm.trans hf) |>.symm
  obtain rfl : fn = Tryd.f3 := (Option.some.inj (Tryd.func3.symm.trans hfn)).symm
  refine ⟨by kernel_rfl, fun j t ht => ?_⟩
  rw [Tryd.params3] at ht
  have hm : t = 22 ∨ t = 3 ∨ t = 9 := by first | simpa using Array.mem_of_getElem? ht | (have h := Array.mem_of_getElem? ht; clear ht; simp at h; rcases h with h | h | h | h <;> subst h <;> simp)
  rcases hm with rfl | rfl | rfl
  · exact (show Tryd.prog.wantsStandIn 22 = false by kernel_rfl)
  · exact (show Tryd.prog.wantsStandIn 3 = false by kernel_rfl)
  · exact (show Tryd.prog.wantsStandIn 9 = false by kernel_rfl)

end Go.Proofs.YtmglidfnolmcaaaDoor.fnExactRecordNow
namespace Go.Proofs.YtmglidfnolmcaaaDoor
theorem fnExactRecordNow_holds : Rows.FnExactRecordNowCardSaid :=
  Claim7.holds_tied_plain_at .later [] _ _ _ _ fnExactRecordNow.said (fun _ h => by cases h) (by kernel_rfl) (fun _ h => by cases h) fnExactRecordNow_row_tie rfl ⟨rfl, rfl⟩ (by kernel_rfl) rfl fnExactRecordNow.plain (by kernel_rfl)
end Go.Proofs.YtmglidfnolmcaaaDoor
