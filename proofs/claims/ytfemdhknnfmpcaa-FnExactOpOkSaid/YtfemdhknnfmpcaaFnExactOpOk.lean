/-
  FnExactOpOk: what the function answers is what its model answers, at every argument: the law's call returns true and each argument reads afterwards as before, without any condition on the arguments.
-/
import Derived.Test.YtfemdhknnfmpcaaRows
import Derived.Test.YtfemdhknnfmpcaaOpI
import Derived.Test.YtfemdhknnfmpcaaOpS
import Derived.Test.YtfemdhknnfmpcaaOpC
import Derived.Test.YtfemdhknnfmpcaaZa
import Derived.Test.YtfemdhknnfmpcaaOpen
import Derived.Test.YtfemdhknnfmpcaaSysL
import Derived.WalkKit
import Derived.ProofKit
import Derived.OpenShut
import Derived.ShutString
import Derived.ChangeOld
import Derived.Below
namespace Go.Proofs.Ytfemdhknnfmpcaa.fnExactOpOk
open Go.ChangeShapes Go.WideShapes Go.ChangeAt Go.RowKit Go.Proofs.Ytfemdhknnfmpcaa.M
open Go.ChangeMaps (open_string shut_string)
set_option linter.unusedVariables false

theorem own : ownKnob Try.prog.godebug = none := by kernel_rfl
theorem laidOut : laidOutB Try.prog = true := by kernel_rfl

set_option maxRecDepth 100000 in
set_option maxHeartbeats 1600000 in
theorem walk (w : World) (a0 : O) (w0 : a0.Fit) :
    Calls Try.prog 3 #[a0.v] w fun e w' => e = .returned (.bool true) ∧ Below w.heap.size w w' := by
  have HZ := fun W => Lib.hid (szOp_any W a0 1048576 w0.key (by decide) (by decide))
  have HT := fun W => Lib.hid (toOp_any W a0)
  have H1 := fun W => Lib.hid (sOpOk_any W a0 w0.key)
  have H2 := fun W => Lib.hid (iOpOk_any W a0 w0)
  generalize opOkV a0 = r at *
  clear w0
  obtain ⟨kind, key, what, val⟩ := a0
  unfold O.v at *
  simp only at *
  by_cases hneg : 1048576 - (key.size : Int) < 0
  · rw [if_pos hneg] at HZ
    go_enter Try.func3, Try.ntmps3
    go_wp2_with fail
    refine (HZ _).out.mono ?_
    rintro e u1 ⟨rfl, hb⟩
    have HX := Lib.hid ((Blk.new w w.heap.size 23 #[.int .i64 kind, .string key, .int .i64 what, .int .i64 val] rfl).below hb)
    have B0 := Lib.hid ((below_oneL w _).trans (hb.mono (by simp [go_sem])) : Below w.heap.size w u1)
    clear hb
    have x0 : u1.cell? ⟨w.heap.size, 0, none⟩ = some (.int .i64 kind) := HX.out.get 0
    have x1 : u1.cell? ⟨w.heap.size, 1, none⟩ = some (.string key) := HX.out.get 1
    have x2 : u1.cell? ⟨w.heap.size, 2, none⟩ = some (.int .i64 what) := HX.out.get 2
    have x3 : u1.cell? ⟨w.heap.size, 3, none⟩ = some (.int .i64 val) := HX.out.get 3
    go_wp2_with fail
    go_ret
    exact ⟨rfl, B0.out⟩
  · rw [if_neg hneg] at HZ
    have d : decide (1048576 - (key.size : Int) < 0) = false := decide_eq_false hneg
    generalize (key.size : Int) = sz at *
    go_enter Try.func3, Try.ntmps3
    go_wp2_with fail
    refine (HZ _).out.mono ?_
    rintro e u1 ⟨rfl, hb⟩
    have HX := Lib.hid ((Blk.new w w.heap.size 23 #[.int .i64 kind, .string key, .int .i64 what, .int .i64 val] rfl).below hb)
    have B0 := Lib.hid ((below_oneL w _).trans (hb.mono (by simp [go_sem])) : Below w.heap.size w u1)
    clear hb
    have x0 : u1.cell? ⟨w.heap.size, 0, none⟩ = some (.int .i64 kind) := HX.out.get 0
    have x1 : u1.cell? ⟨w.heap.size, 1, none⟩ = some (.string key) := HX.out.get 1
    have x2 : u1.cell? ⟨w.heap.size, 2, none⟩ = some (.int .i64 what) := HX.out.get 2
    have x3 : u1.cell? ⟨w.heap.size, 3, none⟩ = some (.int .i64 val) := HX.out.get 3
    go_wp2_with fail
    refine (HT _).out.mono ?_
    rintro e u2 ⟨rfl, hb⟩
    clear x0 x1 x2 x3
    replace HX := Lib.hid (HX.out.below hb)
    replace B0 := Lib.hid (B0.out.trans (hb.mono B0.out.size))
    clear hb
    have x0 : u2.cell? ⟨w.heap.size, 0, none⟩ = some (.int .i64 kind) := HX.out.get 0
    have x1 : u2.cell? ⟨w.heap.size, 1, none⟩ = some (.string key) := HX.out.get 1
    have x2 : u2.cell? ⟨w.heap.size, 2, none⟩ = some (.int .i64 what) := HX.out.get 2
    have x3 : u2.cell? ⟨w.heap.size, 3, none⟩ = some (.int .i64 val) := HX.out.get 3
    go_wp2_with fail
    refine (H1 _).out.mono ?_
    rintro e u3 ⟨rfl, hb⟩
    clear x0 x1 x2 x3
    replace HX := Lib.hid (HX.out.below hb)
    replace B0 := Lib.hid (B0.out.trans (hb.mono B0.out.size))
    clear hb
    have x0 : u3.cell? ⟨w.heap.size, 0, none⟩ = some (.int .i64 kind) := HX.out.get 0
    have x1 : u3.cell? ⟨w.heap.size, 1, none⟩ = some (.string key) := HX.out.get 1
    have x2 : u3.cell? ⟨w.heap.size, 2, none⟩ = some (.int .i64 what) := HX.out.get 2
    have x3 : u3.cell? ⟨w.heap.size, 3, none⟩ = some (.int .i64 val) := HX.out.get 3
    go_wp2_with fail
    refine (HT _).out.mono ?_
    rintro e u4 ⟨rfl, hb⟩
    clear x0 x1 x2 x3
    replace HX := Lib.hid (HX.out.below hb)
    replace B0 := Lib.hid (B0.out.trans (hb.mono B0.out.size))
    clear hb
    have x0 : u4.cell? ⟨w.heap.size, 0, none⟩ = some (.int .i64 kind) := HX.out.get 0
    have x1 : u4.cell? ⟨w.heap.size, 1, none⟩ = some (.string key) := HX.out.get 1
    have x2 : u4.cell? ⟨w.heap.size, 2, none⟩ = some (.int .i64 what) := HX.out.get 2
    have x3 : u4.cell? ⟨w.heap.size, 3, none⟩ = some (.int .i64 val) := HX.out.get 3
    go_wp2_with fail
    refine (H2 _).out.mono ?_
    rintro e u5 ⟨rfl, hb⟩
    clear x0 x1 x2 x3
    replace HX := Lib.hid (HX.out.below hb)
    replace B0 := Lib.hid (B0.out.trans (hb.mono B0.out.size))
    clear hb
    have x0 : u5.cell? ⟨w.heap.size, 0, none⟩ = some (.int .i64 kind) := HX.out.get 0
    have x1 : u5.cell? ⟨w.heap.size, 1, none⟩ = some (.string key) := HX.out.get 1
    have x2 : u5.cell? ⟨w.heap.size, 2, none⟩ = some (.int .i64 what) := HX.out.get 2
    have x3 : u5.cell? ⟨w.heap.size, 3, none⟩ = some (.int .i64 val) := HX.out.get 3
    go_wp2_with fail
    go_ret
    exact ⟨rfl, B0.out⟩

set_option maxRecDepth 100000 in
theorem lifted (os : Os) (started : os.Started) (H : Type) (enc : TypeId × Value → H) :
    ReturnsInHanded {} Try.checked os 3 .any (Rows.fnExactOpOkSpec.pre6 enc Try.prog Try.f3 Rows.fnExactOpOkRow.domain false) (Rows.fnExactOpOkSpec.post enc Try.prog Try.f3 false true false false) := by
  refine returnsInHanded_of_change (C := Try.checked) own started (by kernel_rfl) Try.func3
    (ChangeSpec.witness6 (enc := enc) (C := Try.checked) false ⟨#[], #[.agg #[.int .i64 0, .string ByteArray.empty, .int .i64 0, .int .i64 0]], []⟩ 8 (by kernel_rfl) (by kernel_rfl) (by kernel_rfl) (by kernel_rfl)) ?_
  intro W base args ds gs before hval0 hW hcnd _
  have hval : ∀ (j : Nat) t v, Try.f3.params[j]? = some t → args[j]? = some v → Value.okWide Try.prog W .any base t v := hval0
  have hW' := hW
  obtain ⟨p, q, hA0, hV, rfl, hfz, hnd⟩ := hW
  have hA : DataW.TrodAll enc Try.prog W 0 (fun _ => true) true Try.f3.params.toList args.toList ds p := hA0
  rw [Try.params3] at hA hval
  obtain ⟨v0, vs0, d0, ds0, p0, q0, hargs, rfl, rfl, h0, r0⟩ := trodAll_cons hA
  obtain ⟨rfl, rfl, rfl⟩ := trodAll_nil r0
  obtain rfl : args = #[v0] := by cases args; simp_all
  obtain ⟨rfl, rfl⟩ := trodVars_none hV
  have k0 := h0
  have lt0 : ∀ x ∈ p0, x.block < W.heap.size := by obtain ⟨m, hm⟩ := k0; exact DataW.trod_lt m _ _ _ hm
  obtain ⟨a0, rfl, w0⟩ := open_op (hval 0 23 v0 rfl rfl) h0
  clear hA0 hval0
  refine (walk W a0 w0).mono fun e W' ⟨he, bel⟩ => ?_
  subst he
  exact ⟨_, rfl, _, _, _, [], _, [], hW', trodAll_mk1 (shut_bool Try.underlying4 _), (trodAll_cons_mk (Below.trod laidOut (by kernel_rfl) (of_decide_eq_true (by kernel_rfl)) k0 bel lt0) trodAll_mk0), rfl, bel.frame _, fun h => by cases h⟩

theorem over : Rows.fnExactOpOkRow.holds Try.pinned (OpenSpec.ofChange Rows.fnExactOpOkSpec) :=
  OpenClaim.holds_of_wide 3 Try.f3 rfl rfl rfl rfl rfl rfl rfl ⟨rfl, rfl, rfl, rfl, rfl⟩ rfl rfl rfl rfl rfl (by kernel_rfl) Try.func3 (by kernel_rfl)
    (of_decide_eq_true (by kernel_rfl)) (by unfold Func.isWrapper; first | (rw [if_pos (by decide +kernel)]; kernel_rfl) | (rw [if_neg (by decide +kernel)]; exact ⟨rfl, rfl⟩))
    (fun os started H enc _ => lifted os started H enc)

end Go.Proofs.Ytfemdhknnfmpcaa.fnExactOpOk
namespace Go.Proofs.Ytfemdhknnfmpcaa
theorem fnExactOpOk_holds : Rows.FnExactOpOkSaid := fnExactOpOk.over
end Go.Proofs.Ytfemdhknnfmpcaa
