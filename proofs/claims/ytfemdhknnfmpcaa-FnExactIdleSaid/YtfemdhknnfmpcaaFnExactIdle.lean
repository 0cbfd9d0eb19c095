/-
  FnExactIdle: what the function answers is what its model answers, at every argument: the law's call returns true and each argument reads afterwards as before, without any condition on the arguments.
-/
import Derived.Test.YtfemdhknnfmpcaaRows
import Derived.Test.YtfemdhknnfmpcaaIdleI
import Derived.Test.YtfemdhknnfmpcaaIdleS
import Derived.Test.YtfemdhknnfmpcaaOpen
import Derived.Test.YtfemdhknnfmpcaaSysL
import Derived.Test.YtfemdhknnfmpcaaWorE
import Derived.Test.YtfemdhknnfmpcaaZa
import Derived.WalkKit
import Derived.ProofKit
import Derived.OpenShut
import Derived.ShutString
import Derived.ChangeOld
import Derived.Below
namespace Go.Proofs.Ytfemdhknnfmpcaa.fnExactIdle
open Go.ChangeShapes Go.WideShapes Go.ChangeAt Go.RowKit Go.Proofs.Ytfemdhknnfmpcaa.M
open Go.ChangeMaps (open_string shut_string)
set_option linter.unusedVariables false

theorem own : ownKnob Try.prog.godebug = none := by kernel_rfl
theorem laidOut : laidOutB Try.prog = true := by kernel_rfl

set_option maxRecDepth 100000 in
set_option maxHeartbeats 1600000 in
theorem walk (w : World) (z0 : S) (vc0 vj0 vt0 vl0 : Value) (w0 : WorIn w z0 vc0 vj0 vt0 vl0) (f0 : z0.Fit) :
    Calls Try.prog 8 #[.agg (worVals z0 vc0 vj0 vt0 vl0)] w fun e w' => e = .returned (.bool true) ∧ Below w.heap.size w w' := by
  obtain ⟨cells, jobs, todo, log, serial, now⟩ := z0
  have HIN0 := Lib.hid w0
  have HZ0 := fun W (h : WorIn W ⟨cells, jobs, todo, log, serial, now⟩ vc0 vj0 vt0 vl0) => Lib.hid (szWorld_any W ⟨cells, jobs, todo, log, serial, now⟩ vc0 vj0 vt0 vl0 1048576 h (fitS_w f0) (by decide) (by decide))
  have H1 := fun W a b c d h => Lib.hid (sIdle_any W ⟨cells, jobs, todo, log, serial, now⟩ a b c d h)
  have H2 := fun W a b c d h => Lib.hid (iIdle_any W ⟨cells, jobs, todo, log, serial, now⟩ a b c d h f0)
  generalize idleV ⟨cells, jobs, todo, log, serial, now⟩ = r at *
  have HE := fun W a b c d a' b' c' d' h k => Lib.hid (eqWorld_same W ⟨cells, jobs, todo, log, serial, now⟩ a b c d a' b' c' d' h k)
  unfold worVals at HZ0 H1 H2 HE
  simp only at HZ0 H1 H2 HE
  by_cases hneg0 : szWorV ⟨cells, jobs, todo, log, serial, now⟩ 1048576 < 0
  · have d0 : decide (szWorV ⟨cells, jobs, todo, log, serial, now⟩ 1048576 < 0) = true := decide_eq_true hneg0
    clear w0
    have B0 := Lib.hid (Below.refl w.heap.size w)
    unfold worVals
    simp only
    go_enter Try.func8, Try.ntmps8
    go_wp2_with fail
    refine ((HZ0 _ (HIN0.out.below (B0.out.alloc B0.out.size (.cells #[vc0, vj0, vt0, vl0, .int .i64 serial, .int .i64 now] 57)))).out).mono ?_
    rintro e u1 ⟨rfl, hb⟩
    have HG := Lib.hid ((Blk.new w w.heap.size 57 #[vc0, vj0, vt0, vl0, .int .i64 serial, .int .i64 now] rfl).below hb)
    replace B0 := Lib.hid ((below_oneL w (.cells #[vc0, vj0, vt0, vl0, .int .i64 serial, .int .i64 now] 57)).trans (hb.mono (by simp [go_sem])))
    clear hb
    have g0 : u1.cell? ⟨w.heap.size, 0, none⟩ = some (vc0) := HG.out.get 0
    have g1 : u1.cell? ⟨w.heap.size, 1, none⟩ = some (vj0) := HG.out.get 1
    have g2 : u1.cell? ⟨w.heap.size, 2, none⟩ = some (vt0) := HG.out.get 2
    have g3 : u1.cell? ⟨w.heap.size, 3, none⟩ = some (vl0) := HG.out.get 3
    have g4 : u1.cell? ⟨w.heap.size, 4, none⟩ = some (.int .i64 serial) := HG.out.get 4
    have g5 : u1.cell? ⟨w.heap.size, 5, none⟩ = some (.int .i64 now) := HG.out.get 5
    go_wp2_with fail
    go_ret
    exact ⟨rfl, B0.out⟩
  · have d0 : decide (szWorV ⟨cells, jobs, todo, log, serial, now⟩ 1048576 < 0) = false := decide_eq_false hneg0
    have hsm := (szWor_small (s := ⟨cells, jobs, todo, log, serial, now⟩) (l := 1048576) (by omega) (by decide)).1
    clear w0
    generalize szWorV ⟨cells, jobs, todo, log, serial, now⟩ 1048576 = sz at *
    have B0 := Lib.hid (Below.refl w.heap.size w)
    unfold worVals
    simp only
    go_enter Try.func8, Try.ntmps8
    go_wp2_with fail
    refine ((HZ0 _ (HIN0.out.below (B0.out.alloc B0.out.size (.cells #[vc0, vj0, vt0, vl0, .int .i64 serial, .int .i64 now] 57)))).out).mono ?_
    rintro e u1 ⟨rfl, hb⟩
    have HG := Lib.hid ((Blk.new w w.heap.size 57 #[vc0, vj0, vt0, vl0, .int .i64 serial, .int .i64 now] rfl).below hb)
    replace B0 := Lib.hid ((below_oneL w (.cells #[vc0, vj0, vt0, vl0, .int .i64 serial, .int .i64 now] 57)).trans (hb.mono (by simp [go_sem])))
    clear hb
    have g0 : u1.cell? ⟨w.heap.size, 0, none⟩ = some (vc0) := HG.out.get 0
    have g1 : u1.cell? ⟨w.heap.size, 1, none⟩ = some (vj0) := HG.out.get 1
    have g2 : u1.cell? ⟨w.heap.size, 2, none⟩ = some (vt0) := HG.out.get 2
    have g3 : u1.cell? ⟨w.heap.size, 3, none⟩ = some (vl0) := HG.out.get 3
    have g4 : u1.cell? ⟨w.heap.size, 4, none⟩ = some (.int .i64 serial) := HG.out.get 4
    have g5 : u1.cell? ⟨w.heap.size, 5, none⟩ = some (.int .i64 now) := HG.out.get 5
    go_wp2_with fail
    refine (toWorld_any u1 ⟨cells, jobs, todo, log, serial, now⟩ vc0 vj0 vt0 vl0 (HIN0.out.below B0.out) hsm).mono ?_
    rintro e u2 ⟨s0c, s0j, s0t, s0l, E1, E2, E3, rfl, ho, hb⟩
    clear g0 g1 g2 g3 g4 g5
    replace HG := Lib.hid (HG.out.below hb)
    replace B0 := Lib.hid (B0.out.trans (hb.mono B0.out.size))
    have hin := worOwn_in ho
    clear ho
    have Os0 := Lib.hid hin
    clear hin
    unfold worVals
    dsimp only
    clear hb
    have g0 : u2.cell? ⟨w.heap.size, 0, none⟩ = some (vc0) := HG.out.get 0
    have g1 : u2.cell? ⟨w.heap.size, 1, none⟩ = some (vj0) := HG.out.get 1
    have g2 : u2.cell? ⟨w.heap.size, 2, none⟩ = some (vt0) := HG.out.get 2
    have g3 : u2.cell? ⟨w.heap.size, 3, none⟩ = some (vl0) := HG.out.get 3
    have g4 : u2.cell? ⟨w.heap.size, 4, none⟩ = some (.int .i64 serial) := HG.out.get 4
    have g5 : u2.cell? ⟨w.heap.size, 5, none⟩ = some (.int .i64 now) := HG.out.get 5
    go_wp2_with fail
    refine ((H1 u2 _ _ _ _ Os0.out).out).mono ?_
    rintro e u3 ⟨rfl, hb⟩
    clear g0 g1 g2 g3 g4 g5
    replace HG := Lib.hid (HG.out.below hb)
    replace B0 := Lib.hid (B0.out.trans (hb.mono B0.out.size))
    replace Os0 := Lib.hid (Os0.out.below hb)
    clear hb
    have g0 : u3.cell? ⟨w.heap.size, 0, none⟩ = some (vc0) := HG.out.get 0
    have g1 : u3.cell? ⟨w.heap.size, 1, none⟩ = some (vj0) := HG.out.get 1
    have g2 : u3.cell? ⟨w.heap.size, 2, none⟩ = some (vt0) := HG.out.get 2
    have g3 : u3.cell? ⟨w.heap.size, 3, none⟩ = some (vl0) := HG.out.get 3
    have g4 : u3.cell? ⟨w.heap.size, 4, none⟩ = some (.int .i64 serial) := HG.out.get 4
    have g5 : u3.cell? ⟨w.heap.size, 5, none⟩ = some (.int .i64 now) := HG.out.get 5
    go_wp2_with fail
    refine (toWorld_any u3 ⟨cells, jobs, todo, log, serial, now⟩ vc0 vj0 vt0 vl0 (HIN0.out.below B0.out) hsm).mono ?_
    rintro e u4 ⟨x0c, x0j, x0t, x0l, E1, E2, E3, rfl, ho, hb⟩
    clear g0 g1 g2 g3 g4 g5
    replace HG := Lib.hid (HG.out.below hb)
    replace B0 := Lib.hid (B0.out.trans (hb.mono B0.out.size))
    replace Os0 := Lib.hid (Os0.out.below hb)
    have hin := worOwn_in ho
    clear ho
    have hin2 := hin
    obtain ⟨⟨Xc, Dc, rfl, _⟩, ⟨Xj, Dj, rfl, _⟩, ⟨Xt, Dt, rfl, _⟩, ⟨Xl, Dl, rfl, _⟩⟩ := hin2
    have Ox0 := Lib.hid hin
    clear hin
    unfold worVals
    dsimp only
    clear hb
    have g0 : u4.cell? ⟨w.heap.size, 0, none⟩ = some (vc0) := HG.out.get 0
    have g1 : u4.cell? ⟨w.heap.size, 1, none⟩ = some (vj0) := HG.out.get 1
    have g2 : u4.cell? ⟨w.heap.size, 2, none⟩ = some (vt0) := HG.out.get 2
    have g3 : u4.cell? ⟨w.heap.size, 3, none⟩ = some (vl0) := HG.out.get 3
    have g4 : u4.cell? ⟨w.heap.size, 4, none⟩ = some (.int .i64 serial) := HG.out.get 4
    have g5 : u4.cell? ⟨w.heap.size, 5, none⟩ = some (.int .i64 now) := HG.out.get 5
    clear g0 g1 g2 g3 g4 g5
    have HY := Lib.hid (Blk.new u4 u4.heap.size 49 #[.slice Xc cells.length Dc, .slice Xj jobs.length Dj, .slice Xt todo.length Dt, .slice Xl log.length Dl, .int .i64 serial, .int .i64 now] rfl)
    replace HG := Lib.hid (HG.out.alloc (.cells #[.slice Xc cells.length Dc, .slice Xj jobs.length Dj, .slice Xt todo.length Dt, .slice Xl log.length Dl, .int .i64 serial, .int .i64 now] 49))
    have BX := Lib.hid (B0.out.alloc B0.out.size (.cells #[.slice Xc cells.length Dc, .slice Xj jobs.length Dj, .slice Xt todo.length Dt, .slice Xl log.length Dl, .int .i64 serial, .int .i64 now] 49))
    have OX := Lib.hid (Ox0.out.below (below_oneL u4 (.cells #[.slice Xc cells.length Dc, .slice Xj jobs.length Dj, .slice Xt todo.length Dt, .slice Xl log.length Dl, .int .i64 serial, .int .i64 now] 49)))
    have g0 : (u4.alloc (.cells #[.slice Xc cells.length Dc, .slice Xj jobs.length Dj, .slice Xt todo.length Dt, .slice Xl log.length Dl, .int .i64 serial, .int .i64 now] 49)).cell? ⟨w.heap.size, 0, none⟩ = some (vc0) := HG.out.get 0
    have g1 : (u4.alloc (.cells #[.slice Xc cells.length Dc, .slice Xj jobs.length Dj, .slice Xt todo.length Dt, .slice Xl log.length Dl, .int .i64 serial, .int .i64 now] 49)).cell? ⟨w.heap.size, 1, none⟩ = some (vj0) := HG.out.get 1
    have g2 : (u4.alloc (.cells #[.slice Xc cells.length Dc, .slice Xj jobs.length Dj, .slice Xt todo.length Dt, .slice Xl log.length Dl, .int .i64 serial, .int .i64 now] 49)).cell? ⟨w.heap.size, 2, none⟩ = some (vt0) := HG.out.get 2
    have g3 : (u4.alloc (.cells #[.slice Xc cells.length Dc, .slice Xj jobs.length Dj, .slice Xt todo.length Dt, .slice Xl log.length Dl, .int .i64 serial, .int .i64 now] 49)).cell? ⟨w.heap.size, 3, none⟩ = some (vl0) := HG.out.get 3
    have g4 : (u4.alloc (.cells #[.slice Xc cells.length Dc, .slice Xj jobs.length Dj, .slice Xt todo.length Dt, .slice Xl log.length Dl, .int .i64 serial, .int .i64 now] 49)).cell? ⟨w.heap.size, 4, none⟩ = some (.int .i64 serial) := HG.out.get 4
    have g5 : (u4.alloc (.cells #[.slice Xc cells.length Dc, .slice Xj jobs.length Dj, .slice Xt todo.length Dt, .slice Xl log.length Dl, .int .i64 serial, .int .i64 now] 49)).cell? ⟨w.heap.size, 5, none⟩ = some (.int .i64 now) := HG.out.get 5
    go_wp2_with fail
    refine ((H2 _ _ _ _ _ OX.out).out).mono ?_
    rintro e u5 ⟨rfl, hb⟩
    clear g0 g1 g2 g3 g4 g5
    replace HG := Lib.hid (HG.out.below hb)
    replace HY := Lib.hid (HY.out.below hb)
    replace Ox0 := Lib.hid (OX.out.below hb)
    replace B0 := Lib.hid (BX.out.trans (hb.mono BX.out.size))
    clear hb BX OX Os0
    generalize u4.heap.size = gx at *
    have hdone := True.intro
    have HTL := fun W (h : WorIn W ⟨cells, jobs, todo, log, serial, now⟩ vc0 vj0 vt0 vl0) => Lib.hid (show Calls Try.prog 33 #[.agg #[vc0, vj0, vt0, vl0, .int .i64 serial, .int .i64 now]] W (fun e w' => ∃ a b c d, e = .returned (.agg #[a, b, c, d, .int .i64 serial, .int .i64 now]) ∧ WorIn w' ⟨cells, jobs, todo, log, serial, now⟩ a b c d ∧ Below W.heap.size W w') from (toWorld_any W ⟨cells, jobs, todo, log, serial, now⟩ vc0 vj0 vt0 vl0 h hsm).mono (fun e w' ⟨a, b, c, d, E1, E2, E3, h1, h2, h3⟩ => ⟨a, b, c, d, h1, worOwn_in h2, h3⟩))
    have HS := Lib.hid (LawW.all (show LawW w w.heap.size gx ⟨cells, jobs, todo, log, serial, now⟩ vc0 vj0 vt0 vl0 (.slice Xc cells.length Dc) (.slice Xj jobs.length Dj) (.slice Xt todo.length Dt) (.slice Xl log.length Dl) u5.drew from LawW.next ⟨HG.out, HY.out, HIN0.out.below B0.out, Ox0.out, B0.out⟩ (below_drew _ _)))
    have HNX := Lib.hid (show ∀ W W', Below W.heap.size W W' → (fun w' => (w'.cell? ⟨w.heap.size, 0, none⟩ = some vc0 ∧ w'.cell? ⟨w.heap.size, 1, none⟩ = some vj0 ∧ w'.cell? ⟨w.heap.size, 2, none⟩ = some vt0 ∧ w'.cell? ⟨w.heap.size, 3, none⟩ = some vl0 ∧ w'.cell? ⟨w.heap.size, 4, none⟩ = some (.int .i64 serial) ∧ w'.cell? ⟨w.heap.size, 5, none⟩ = some (.int .i64 now) ∧ w'.cell? ⟨gx, 0, none⟩ = some (.slice Xc cells.length Dc) ∧ w'.cell? ⟨gx, 1, none⟩ = some (.slice Xj jobs.length Dj) ∧ w'.cell? ⟨gx, 2, none⟩ = some (.slice Xt todo.length Dt) ∧ w'.cell? ⟨gx, 3, none⟩ = some (.slice Xl log.length Dl) ∧ w'.cell? ⟨gx, 4, none⟩ = some (.int .i64 serial) ∧ w'.cell? ⟨gx, 5, none⟩ = some (.int .i64 now)) ∧ LawW w w.heap.size gx ⟨cells, jobs, todo, log, serial, now⟩ vc0 vj0 vt0 vl0 (.slice Xc cells.length Dc) (.slice Xj jobs.length Dj) (.slice Xt todo.length Dt) (.slice Xl log.length Dl) w') W → (fun w' => (w'.cell? ⟨w.heap.size, 0, none⟩ = some vc0 ∧ w'.cell? ⟨w.heap.size, 1, none⟩ = some vj0 ∧ w'.cell? ⟨w.heap.size, 2, none⟩ = some vt0 ∧ w'.cell? ⟨w.heap.size, 3, none⟩ = some vl0 ∧ w'.cell? ⟨w.heap.size, 4, none⟩ = some (.int .i64 serial) ∧ w'.cell? ⟨w.heap.size, 5, none⟩ = some (.int .i64 now) ∧ w'.cell? ⟨gx, 0, none⟩ = some (.slice Xc cells.length Dc) ∧ w'.cell? ⟨gx, 1, none⟩ = some (.slice Xj jobs.length Dj) ∧ w'.cell? ⟨gx, 2, none⟩ = some (.slice Xt todo.length Dt) ∧ w'.cell? ⟨gx, 3, none⟩ = some (.slice Xl log.length Dl) ∧ w'.cell? ⟨gx, 4, none⟩ = some (.int .i64 serial) ∧ w'.cell? ⟨gx, 5, none⟩ = some (.int .i64 now)) ∧ LawW w w.heap.size gx ⟨cells, jobs, todo, log, serial, now⟩ vc0 vj0 vt0 vl0 (.slice Xc cells.length Dc) (.slice Xj jobs.length Dj) (.slice Xt todo.length Dt) (.slice Xl log.length Dl) w') W' from fun W W' hb h => lawS_next hb (show LawS w w.heap.size gx ⟨cells, jobs, todo, log, serial, now⟩ vc0 vj0 vt0 vl0 (.slice Xc cells.length Dc) (.slice Xj jobs.length Dj) (.slice Xt todo.length Dt) (.slice Xl log.length Dl) W from h))
    have HAX := Lib.hid (show ∀ W, (fun w' => (w'.cell? ⟨w.heap.size, 0, none⟩ = some vc0 ∧ w'.cell? ⟨w.heap.size, 1, none⟩ = some vj0 ∧ w'.cell? ⟨w.heap.size, 2, none⟩ = some vt0 ∧ w'.cell? ⟨w.heap.size, 3, none⟩ = some vl0 ∧ w'.cell? ⟨w.heap.size, 4, none⟩ = some (.int .i64 serial) ∧ w'.cell? ⟨w.heap.size, 5, none⟩ = some (.int .i64 now) ∧ w'.cell? ⟨gx, 0, none⟩ = some (.slice Xc cells.length Dc) ∧ w'.cell? ⟨gx, 1, none⟩ = some (.slice Xj jobs.length Dj) ∧ w'.cell? ⟨gx, 2, none⟩ = some (.slice Xt todo.length Dt) ∧ w'.cell? ⟨gx, 3, none⟩ = some (.slice Xl log.length Dl) ∧ w'.cell? ⟨gx, 4, none⟩ = some (.int .i64 serial) ∧ w'.cell? ⟨gx, 5, none⟩ = some (.int .i64 now)) ∧ LawW w w.heap.size gx ⟨cells, jobs, todo, log, serial, now⟩ vc0 vj0 vt0 vl0 (.slice Xc cells.length Dc) (.slice Xj jobs.length Dj) (.slice Xt todo.length Dt) (.slice Xl log.length Dl) w') W → WorIn W ⟨cells, jobs, todo, log, serial, now⟩ vc0 vj0 vt0 vl0 from fun W h => h.2.a)
    have HXX := Lib.hid (show ∀ W, (fun w' => (w'.cell? ⟨w.heap.size, 0, none⟩ = some vc0 ∧ w'.cell? ⟨w.heap.size, 1, none⟩ = some vj0 ∧ w'.cell? ⟨w.heap.size, 2, none⟩ = some vt0 ∧ w'.cell? ⟨w.heap.size, 3, none⟩ = some vl0 ∧ w'.cell? ⟨w.heap.size, 4, none⟩ = some (.int .i64 serial) ∧ w'.cell? ⟨w.heap.size, 5, none⟩ = some (.int .i64 now) ∧ w'.cell? ⟨gx, 0, none⟩ = some (.slice Xc cells.length Dc) ∧ w'.cell? ⟨gx, 1, none⟩ = some (.slice Xj jobs.length Dj) ∧ w'.cell? ⟨gx, 2, none⟩ = some (.slice Xt todo.length Dt) ∧ w'.cell? ⟨gx, 3, none⟩ = some (.slice Xl log.length Dl) ∧ w'.cell? ⟨gx, 4, none⟩ = some (.int .i64 serial) ∧ w'.cell? ⟨gx, 5, none⟩ = some (.int .i64 now)) ∧ LawW w w.heap.size gx ⟨cells, jobs, todo, log, serial, now⟩ vc0 vj0 vt0 vl0 (.slice Xc cells.length Dc) (.slice Xj jobs.length Dj) (.slice Xt todo.length Dt) (.slice Xl log.length Dl) w') W → WorIn W ⟨cells, jobs, todo, log, serial, now⟩ (.slice Xc cells.length Dc) (.slice Xj jobs.length Dj) (.slice Xt todo.length Dt) (.slice Xl log.length Dl) from fun W h => h.2.x)
    have HBX := Lib.hid (show ∀ W, (fun w' => (w'.cell? ⟨w.heap.size, 0, none⟩ = some vc0 ∧ w'.cell? ⟨w.heap.size, 1, none⟩ = some vj0 ∧ w'.cell? ⟨w.heap.size, 2, none⟩ = some vt0 ∧ w'.cell? ⟨w.heap.size, 3, none⟩ = some vl0 ∧ w'.cell? ⟨w.heap.size, 4, none⟩ = some (.int .i64 serial) ∧ w'.cell? ⟨w.heap.size, 5, none⟩ = some (.int .i64 now) ∧ w'.cell? ⟨gx, 0, none⟩ = some (.slice Xc cells.length Dc) ∧ w'.cell? ⟨gx, 1, none⟩ = some (.slice Xj jobs.length Dj) ∧ w'.cell? ⟨gx, 2, none⟩ = some (.slice Xt todo.length Dt) ∧ w'.cell? ⟨gx, 3, none⟩ = some (.slice Xl log.length Dl) ∧ w'.cell? ⟨gx, 4, none⟩ = some (.int .i64 serial) ∧ w'.cell? ⟨gx, 5, none⟩ = some (.int .i64 now)) ∧ LawW w w.heap.size gx ⟨cells, jobs, todo, log, serial, now⟩ vc0 vj0 vt0 vl0 (.slice Xc cells.length Dc) (.slice Xj jobs.length Dj) (.slice Xt todo.length Dt) (.slice Xl log.length Dl) w') W → Below w.heap.size w W from fun W h => h.2.b)
    go_upto_region 10 with fail
    go_region_held3 (fun w' => (w'.cell? ⟨w.heap.size, 0, none⟩ = some vc0 ∧ w'.cell? ⟨w.heap.size, 1, none⟩ = some vj0 ∧ w'.cell? ⟨w.heap.size, 2, none⟩ = some vt0 ∧ w'.cell? ⟨w.heap.size, 3, none⟩ = some vl0 ∧ w'.cell? ⟨w.heap.size, 4, none⟩ = some (.int .i64 serial) ∧ w'.cell? ⟨w.heap.size, 5, none⟩ = some (.int .i64 now) ∧ w'.cell? ⟨gx, 0, none⟩ = some (.slice Xc cells.length Dc) ∧ w'.cell? ⟨gx, 1, none⟩ = some (.slice Xj jobs.length Dj) ∧ w'.cell? ⟨gx, 2, none⟩ = some (.slice Xt todo.length Dt) ∧ w'.cell? ⟨gx, 3, none⟩ = some (.slice Xl log.length Dl) ∧ w'.cell? ⟨gx, 4, none⟩ = some (.int .i64 serial) ∧ w'.cell? ⟨gx, 5, none⟩ = some (.int .i64 now)) ∧ LawW w w.heap.size gx ⟨cells, jobs, todo, log, serial, now⟩ vc0 vj0 vt0 vl0 (.slice Xc cells.length Dc) (.slice Xj jobs.length Dj) (.slice Xt todo.length Dt) (.slice Xl log.length Dl) w')
      (first | (with_reducible exact HS.out) | exact HS.out | assumption | (apply HNX.out; assumption; assumption))
      (first | (go_at_call 33; (with_reducible refine Calls.mono (Hid.out (HTL _ ?_)) ?_); (exact HAX.out _ (by assumption)); rintro e w' ⟨yc, yj, yt, yl, rfl, ho, hb⟩) | (go_at_call 27; (with_reducible refine Calls.mono (Hid.out (HE _ _ _ _ _ _ _ _ _ ?_ ?_)) ?_); (exact HXX.out _ (by assumption)); (assumption); rintro e w' ⟨rfl, hb⟩))
    all_goals (go_wp2_with fail; go_ret; exact ⟨rfl, HBX.out _ (by assumption)⟩)

set_option maxRecDepth 100000 in
theorem lifted (os : Os) (started : os.Started) (H : Type) (enc : TypeId × Value → H) :
    ReturnsInHanded {} Try.checked os 8 .any (Rows.fnExactIdleSpec.pre6 enc Try.prog Try.f8 Rows.fnExactIdleRow.domain false) (Rows.fnExactIdleSpec.post enc Try.prog Try.f8 false true false false) := by
  refine returnsInHanded_of_change (C := Try.checked) own started (by kernel_rfl) Try.func8
    (ChangeSpec.witness6 (enc := enc) (C := Try.checked) false ⟨#[], #[.agg #[.slice none 0 0, .slice none 0 0, .slice none 0 0, .slice none 0 0, .int .i64 0, .int .i64 0]], []⟩ 8 (by kernel_rfl) (by kernel_rfl) (by kernel_rfl) (by kernel_rfl)) ?_
  intro W base args ds gs before hval0 hW hcnd _
  have hval : ∀ (j : Nat) t v, Try.f8.params[j]? = some t → args[j]? = some v → Value.okWide Try.prog W .any base t v := hval0
  have hW' := hW
  obtain ⟨p, q, hA0, hV, rfl, hfz, hnd⟩ := hW
  have hA : DataW.TrodAll enc Try.prog W 0 (fun _ => true) true Try.f8.params.toList args.toList ds p := hA0
  rw [Try.params8] at hA hval
  obtain ⟨v0, vs0, d0, ds0, p0, q0, hargs, rfl, rfl, h0, r0⟩ := trodAll_cons hA
  obtain ⟨rfl, rfl, rfl⟩ := trodAll_nil r0
  obtain rfl : args = #[v0] := by cases args; simp_all
  obtain ⟨rfl, rfl⟩ := trodVars_none hV
  have k0 := h0
  have lt0 : ∀ x ∈ p0, x.block < W.heap.size := by obtain ⟨m, hm⟩ := k0; exact DataW.trod_lt m _ _ _ hm
  obtain ⟨z0, vc0, vj0, vt0, vl0, rfl, w0, f0⟩ := open_world (hval 0 57 v0 rfl rfl) h0
  clear hA0 hval0
  refine (walk W z0 vc0 vj0 vt0 vl0 w0 f0).mono fun e W' ⟨he, bel⟩ => ?_
  subst he
  exact ⟨_, rfl, _, _, _, [], _, [], hW', trodAll_mk1 (shut_bool Try.underlying4 _), (trodAll_cons_mk (Below.trod laidOut (by kernel_rfl) (of_decide_eq_true (by kernel_rfl)) k0 bel lt0) trodAll_mk0), rfl, bel.frame _, fun h => by cases h⟩

theorem over : Rows.fnExactIdleRow.holds Try.pinned (OpenSpec.ofChange Rows.fnExactIdleSpec) :=
  OpenClaim.holds_of_wide 8 Try.f8 rfl rfl rfl rfl rfl rfl rfl ⟨rfl, rfl, rfl, rfl, rfl⟩ rfl rfl rfl rfl rfl (by kernel_rfl) Try.func8 (by kernel_rfl)
    (of_decide_eq_true (by kernel_rfl)) (by unfold Func.isWrapper; first | (rw [if_pos (by decide +kernel)]; kernel_rfl) | (rw [if_neg (by decide +kernel)]; exact ⟨rfl, rfl⟩))
    (fun os started H enc _ => lifted os started H enc)

end Go.Proofs.Ytfemdhknnfmpcaa.fnExactIdle
namespace Go.Proofs.Ytfemdhknnfmpcaa
theorem fnExactIdle_holds : Rows.FnExactIdleSaid := fnExactIdle.over
end Go.Proofs.Ytfemdhknnfmpcaa
