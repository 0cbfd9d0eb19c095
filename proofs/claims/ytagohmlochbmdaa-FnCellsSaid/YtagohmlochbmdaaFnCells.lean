/-
  FnCells: what the function answers is what its model answers, at every argument: the law's call returns true and each argument reads afterwards as before, without any condition on the arguments.
-/
import Derived.Test.YtagohmlochbmdaaRows
import Derived.Test.YtagohmlochbmdaaBig
import Derived.Test.YtagohmlochbmdaaCellM
import Derived.Test.YtagohmlochbmdaaDrawCells
import Derived.WalkKit
import Derived.ProofKit
import Derived.OpenShut
import Derived.ShutString
import Derived.ChangeOld
import Derived.Below
namespace Go.Proofs.Ytagohmlochbmdaa.fnCells
open Go.ChangeShapes Go.WideShapes Go.ChangeAt Go.RowKit Go.Proofs.Ytagohmlochbmdaa.M
open Go.ChangeMaps (open_string shut_string)
set_option linter.unusedVariables false

theorem own : ownKnob Try.prog.godebug = none := by kernel_rfl
theorem laidOut : laidOutB Try.prog = true := by kernel_rfl

set_option maxRecDepth 100000 in
set_option maxHeartbeats 1600000 in
theorem walk (w : World) (a0 : Option Addr) (len0 cap0 : Nat) (z0 : List Int) (w0 : IsRow w a0 len0 cap0 z0) :
    Calls Try.prog 3 #[.slice a0 len0 cap0] w fun e w' => e = .returned (.bool true) ∧ Below w.heap.size w w' := by
  have hk := CodeIn.of_row w0
  by_cases hb : (1048576 : Int) < (len0 : Int)
  · have hbig : decide ((1048576 : Int) < (len0 : Int)) = true := by rw [decide_eq_true]; omega
    clear hk w0
    go_enter Try.func3, Try.ntmps3
    go_wp2_with fail
    refine (nBig _ _ _ w).mono ?_
    rintro e w1 ⟨rfl, hb1⟩
    have B1 := Lib.hid hb1
    clear hb1
    go_wp2_with fail
    go_ret
    exact ⟨rfl, B1.out⟩
  · have hbig : decide ((1048576 : Int) < (len0 : Int)) = false := by rw [decide_eq_false]; omega
    have hl : len0 ≤ 1048576 := by omega
    have HK := Lib.hid hk
    have B0 := Lib.hid (Below.refl w.heap.size w)
    clear hk w0
    go_enter Try.func3, Try.ntmps3
    go_wp2_with fail
    refine (nBig _ _ _ w).mono ?_
    rintro e w1 ⟨rfl, hb1⟩
    have B1 := Lib.hid (B0.out.trans (hb1.mono B0.out.size))
    clear hb1
    go_wp2_with fail
    refine (drawStore_some w1 ⟨a0, len0, cap0, z0⟩ (HK.out.below B1.out) hl).mono ?_
    rintro e w2 ⟨v, zs, i, n, rfl, hv, hl2, hb2⟩
    have B2 := Lib.hid (B1.out.trans (hb2.mono B1.out.size))
    have V := Lib.hid hv.1
    have hzl : zs.length ≤ 1048576 := by omega
    clear hv hb2
    cases hr : storeOk zs i n with
    | false =>
      have HX := Lib.hid (store_no hr)
      have H1 := fun W k => Lib.hid (iStore_any W v zs i n k hzl false hr)
      have H2 := fun W k => Lib.hid (sStore_any W v zs i n k hzl false hr)
      rw [HX.out] at H1 H2
      clear hr HX
      go_wp2_with fail
      refine (H1 w2 V.out).out.mono ?_
      rintro e w3 ⟨x, rfl, ho, hb⟩
      have V3 := Lib.hid (V.out.below hb)
      have X := Lib.hid ho
      have B3 := Lib.hid (B2.out.trans (hb.mono B2.out.size))
      clear ho hb
      go_wp2_with fail
      refine (H2 w3 V3.out).out.mono ?_
      rintro e w4 ⟨y, rfl, ho, hb⟩
      have V4 := Lib.hid (V3.out.below hb)
      have X4 := Lib.hid (X.out.below hb)
      have Y4 := Lib.hid ho
      have B4 := Lib.hid (B3.out.trans (hb.mono B3.out.size))
      clear ho hb
      go_wp2_with fail
      refine (same_yes w4 x y zs X4.out.ints Y4.out.ints).mono ?_
      rintro e w5 hq
      obtain ⟨rfl, hb⟩ := hq.below
      have V5 := Lib.hid (V4.out.below hb)
      have X5 := Lib.hid (X4.out.below hb)
      have B5 := Lib.hid (B4.out.trans (hb.mono B4.out.size))
      clear hq hb
      go_wp2_with fail
      refine (same_yes w5 x v zs X5.out.ints V5.out).mono ?_
      rintro e w6 hq
      obtain ⟨rfl, hb⟩ := hq.below
      have B6 := Lib.hid (B5.out.trans (hb.mono B5.out.size))
      clear hq hb
      go_wp2_with fail
      go_ret
      exact ⟨rfl, B6.out⟩
    | true =>
      have HC := Lib.hid (chain_of hr)
      have H1 := fun W k => Lib.hid (iStore_any W v zs i n k hzl true hr)
      have H2 := fun W k => Lib.hid (sStore_any W v zs i n k hzl true hr)
      generalize (storeC zs i n).set i.toNat 7 = zz at *
      generalize (storeC zs i n).set i.toNat (addV n 281474976710655) = dd at *
      generalize storeC zs i n = xs at *
      have H3 := fun W x k => Lib.hid (iLoad_yes W x xs i k HC.out.at_)
      rw [HC.out.load] at H3
      have H4 := fun W x k => Lib.hid (iSwap_any W x xs i 7 k (by have := HC.out.len; omega))
      rw [HC.out.swap, HC.out.old] at H4
      have H5 := fun W x k => Lib.hid (iCas_any W x zz i 7 n k (by have := HC.out.len; omega))
      rw [HC.out.cas, HC.out.good] at H5
      have H6 := fun W x k => Lib.hid (iCas_any W x zz i 8 n k (by have := HC.out.len; omega))
      rw [HC.out.bad] at H6
      have H7 := fun W x k => Lib.hid (iAdd_any W x xs i 281474976710655 k (by have := HC.out.len; omega) (by decide) (by decide))
      rw [HC.out.add, HC.out.was] at H7
      have H8 := fun W x k => Lib.hid (iAdd_any W x dd i 1 k (by have := HC.out.len; omega) (by decide) (by decide))
      rw [HC.out.back] at H8
      have H9 := fun W x k => Lib.hid (iOk_b W x dd k true HC.out.fine)
      clear hr
      go_wp2_with fail
      refine (H1 w2 V.out).out.mono ?_
      rintro e w3 ⟨x, rfl, ho, hb⟩
      have V3 := Lib.hid (V.out.below hb)
      have X := Lib.hid ho
      replace B0 := Lib.hid (B2.out.trans (hb.mono B2.out.size))
      clear ho hb B1 B2
      go_wp2_with fail
      refine (H2 w3 V3.out).out.mono ?_
      rintro e w4 ⟨y, rfl, ho, hb⟩
      replace X := Lib.hid (X.out.below hb)
      have Y := Lib.hid ho
      replace B0 := Lib.hid (B0.out.trans (hb.mono B0.out.size))
      clear ho hb V3 V
      go_wp2_with fail
      refine (same_yes w4 x y xs X.out.ints Y.out.ints).mono ?_
      rintro e w5 hq
      obtain ⟨rfl, hb⟩ := hq.below
      replace X := Lib.hid (X.out.below hb)
      replace B0 := Lib.hid (B0.out.trans (hb.mono B0.out.size))
      clear hq hb Y
      go_wp2_with fail
      refine (H3 w5 x X.out.ints).out.mono ?_
      rintro e w' ⟨rfl, rfl⟩
      go_wp2_with fail
      refine (H4 w5 x X.out.ints).out.mono ?_
      rintro e w6 ⟨z, rfl, ho, hb⟩
      replace X := Lib.hid (X.out.below hb)
      have Z := Lib.hid ho
      replace B0 := Lib.hid (B0.out.trans (hb.mono B0.out.size))
      clear ho hb
      go_wp2_with fail
      refine (H5 w6 z Z.out.ints).out.mono ?_
      rintro e w7 ⟨c, rfl, ho, hb⟩
      replace X := Lib.hid (X.out.below hb)
      replace Z := Lib.hid (Z.out.below hb)
      have C := Lib.hid ho
      replace B0 := Lib.hid (B0.out.trans (hb.mono B0.out.size))
      clear ho hb
      go_wp2_with fail
      refine (H6 w7 z Z.out.ints).out.mono ?_
      rintro e w8 ⟨c', rfl, ho, hb⟩
      replace X := Lib.hid (X.out.below hb)
      replace C := Lib.hid (C.out.below hb)
      replace B0 := Lib.hid (B0.out.trans (hb.mono B0.out.size))
      clear ho hb Z
      go_wp2_with fail
      refine (H7 w8 x X.out.ints).out.mono ?_
      rintro e w9 ⟨d, rfl, ho, hb⟩
      replace X := Lib.hid (X.out.below hb)
      replace C := Lib.hid (C.out.below hb)
      have D := Lib.hid ho
      replace B0 := Lib.hid (B0.out.trans (hb.mono B0.out.size))
      clear ho hb
      go_wp2_with fail
      refine (H8 w9 d D.out.ints).out.mono ?_
      rintro e w10 ⟨y2, rfl, ho, hb⟩
      replace X := Lib.hid (X.out.below hb)
      replace C := Lib.hid (C.out.below hb)
      replace D := Lib.hid (D.out.below hb)
      have E := Lib.hid ho
      replace B0 := Lib.hid (B0.out.trans (hb.mono B0.out.size))
      clear ho hb
      go_wp2_with fail
      refine (same_yes w10 c x xs C.out.ints X.out.ints).mono ?_
      rintro e w11 hq
      obtain ⟨rfl, hb⟩ := hq.below
      replace X := Lib.hid (X.out.below hb)
      replace D := Lib.hid (D.out.below hb)
      replace E := Lib.hid (E.out.below hb)
      replace B0 := Lib.hid (B0.out.trans (hb.mono B0.out.size))
      clear hq hb C
      go_wp2_with fail
      refine (same_yes w11 y2 x xs E.out.ints X.out.ints).mono ?_
      rintro e w12 hq
      obtain ⟨rfl, hb⟩ := hq.below
      replace X := Lib.hid (X.out.below hb)
      replace D := Lib.hid (D.out.below hb)
      replace E := Lib.hid (E.out.below hb)
      replace B0 := Lib.hid (B0.out.trans (hb.mono B0.out.size))
      clear hq hb
      go_wp2_with fail
      refine (isame_yes w12 y2 x xs E.out.ints X.out.ints).mono ?_
      rintro e w13 hq
      obtain ⟨rfl, hb⟩ := hq.below
      replace D := Lib.hid (D.out.below hb)
      replace B0 := Lib.hid (B0.out.trans (hb.mono B0.out.size))
      clear hq hb
      go_wp2_with fail
      refine (H9 w13 d D.out.ints).out.mono ?_
      rintro e w' ⟨rfl, rfl⟩
      go_wp2_with fail
      go_ret
      exact ⟨rfl, B0.out⟩

set_option maxRecDepth 100000 in
theorem lifted (os : Os) (started : os.Started) (H : Type) (enc : TypeId × Value → H) :
    ReturnsInHanded {} Try.checked os 3 .any (Rows.fnCellsSpec.pre6 enc Try.prog Try.f3 Rows.fnCellsRow.domain false) (Rows.fnCellsSpec.post enc Try.prog Try.f3 false true false false) := by
  refine returnsInHanded_of_change (C := Try.checked) own started (by kernel_rfl) Try.func3
    (ChangeSpec.witness6 (enc := enc) (C := Try.checked) false ⟨#[], #[.slice none 0 0], []⟩ 8 (by kernel_rfl) (by kernel_rfl) (by kernel_rfl) (by kernel_rfl)) ?_
  intro W base args ds gs before hval0 hW hcnd _
  have hval : ∀ (j : Nat) t v, Try.f3.params[j]? = some t → args[j]? = some v → Value.okWide Try.prog W .any base t v := hval0
  have hW' := hW
  obtain ⟨p, q, hA0, hV, rfl, hfz, hnd⟩ := hW
  have hA : DataW.TrodAll enc Try.prog W 0 (fun _ => true) true Try.f3.params.toList args.toList ds p := hA0
  rw [Try.params3] at hA hval
  obtain ⟨v0, vs0, d0, ds0, p0, q0, hargs, rfl, rfl, h0, r0⟩ := trodAll_cons hA
  obtain ⟨rfl, rfl, rfl⟩ := trodAll_nil r0
  obtain rfl : args = #[v0] := by cases args; simp_all
  obtain ⟨rfl, rfl⟩ := trodVars_none hV
  obtain ⟨a0, len0, cap0, rfl⟩ := okWide_slice Try.underlying22 (hval 0 22 v0 rfl rfl)
  have k0 := h0
  have lt0 : ∀ x ∈ p0, x.block < W.heap.size := by obtain ⟨m, hm⟩ := k0; exact DataW.trod_lt m _ _ _ hm
  obtain ⟨z0, w0⟩ : ∃ zs, IsRow W a0 len0 cap0 zs := by
    obtain ⟨fuel, hf⟩ := h0
    rcases open_ints Try.underlying22 Try.underlying5 (by kernel_rfl) hf with ⟨hcs, _⟩ | ⟨x, l, c, zs, hcs, _, hl, hm, hz, _, hcell, hwz⟩
    · simp [Value.cells] at hcs
      obtain ⟨rfl, rfl, rfl⟩ := hcs
      exact ⟨[], .inl ⟨rfl, rfl, rfl, rfl⟩⟩
    · simp [Value.cells] at hcs
      obtain ⟨rfl, rfl, rfl⟩ := hcs
      exact ⟨zs, .inr ⟨_, rfl, hl, hm, by simpa using hz, hcell, hwz⟩⟩
  clear hA0 hval0
  refine (walk W a0 len0 cap0 z0 w0).mono fun e W' ⟨he, bel⟩ => ?_
  subst he
  exact ⟨_, rfl, _, _, _, [], _, [], hW', trodAll_mk1 (shut_bool Try.underlying4 _), (trodAll_cons_mk (Below.trod laidOut (by kernel_rfl) (of_decide_eq_true (by kernel_rfl)) k0 bel lt0) trodAll_mk0), rfl, bel.frame _, fun h => by cases h⟩

theorem over : Rows.fnCellsRow.holds Try.pinned (OpenSpec.ofChange Rows.fnCellsSpec) :=
  OpenClaim.holds_of_wide 3 Try.f3 rfl rfl rfl rfl rfl rfl rfl ⟨rfl, rfl, rfl, rfl, rfl⟩ rfl rfl rfl rfl rfl (by kernel_rfl) Try.func3 (by kernel_rfl)
    (of_decide_eq_true (by kernel_rfl)) (by unfold Func.isWrapper; first | (rw [if_pos (by decide +kernel)]; kernel_rfl) | (rw [if_neg (by decide +kernel)]; exact ⟨rfl, rfl⟩))
    (fun os started H enc _ => lifted os started H enc)

end Go.Proofs.Ytagohmlochbmdaa.fnCells
namespace Go.Proofs.Ytagohmlochbmdaa
theorem fnCells_holds : Rows.FnCellsSaid := fnCells.over
end Go.Proofs.Ytagohmlochbmdaa
