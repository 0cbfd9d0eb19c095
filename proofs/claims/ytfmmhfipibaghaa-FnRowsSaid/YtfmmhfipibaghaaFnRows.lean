/-
  FnRows: a sample more and a count more are as promised, for what is drawn from any code: the law's call returns true and each argument reads afterwards as before, without any condition on the arguments.
-/
import Derived.Test.YtfmmhfipibaghaaRows
import Derived.Test.YtfmmhfipibaghaaRowI
import Derived.Test.YtfmmhfipibaghaaRowF
import Derived.Test.YtfmmhfipibaghaaDrawS7
import Derived.Test.YtfmmhfipibaghaaBig
import Derived.Test.YtfmmhfipibaghaaCode
import Derived.Test.YtfmmhfipibaghaaF7
import Derived.WalkKit
import Derived.ProofKit
import Derived.OpenShut
import Derived.ShutString
import Derived.ChangeOld
import Derived.Below
namespace Go.Proofs.Ytfmmhfipibaghaa.fnRows
open Go.ChangeShapes Go.WideShapes Go.ChangeAt Go.RowKit Go.Proofs.Ytfmmhfipibaghaa.M
open Go.ChangeMaps (open_string shut_string)
set_option linter.unusedVariables false

theorem own : ownKnob Try.prog.godebug = none := by kernel_rfl
theorem laidOut : laidOutB Try.prog = true := by kernel_rfl

set_option maxRecDepth 100000 in
set_option maxHeartbeats 16000000 in
theorem walk (w : World) (a0 : Option Addr) (len0 cap0 : Nat) (z0 : List Int) (w0 : IsRow w a0 len0 cap0 z0) :
    Calls Try.prog 3 #[.slice a0 len0 cap0] w fun e w' => e = .returned (.bool true) ∧ Below w.heap.size w w' := by
  have hk := CodeIn.of_row w0
  by_cases hb : (1048576 : Int) < (len0 : Int)
  · have hbig : decide ((1048576 : Int) < (len0 : Int)) = true := by rw [decide_eq_true]; omega
    clear hk w0
    go_enter Try.func3, Try.ntmps3
    go_wp2_with fail
    refine (nBig _ _ _ w).mono ?_
    rintro e w1 ⟨rfl, hb1⟩
    have B1 := Lib.hid hb1
    clear hb1
    go_wp2_with fail
    go_ret
    exact ⟨rfl, B1.out⟩
  · have hbig : decide ((1048576 : Int) < (len0 : Int)) = false := by rw [decide_eq_false]; omega
    have hl : len0 ≤ 1048576 := by omega
    have HK := Lib.hid hk
    clear hk w0
    go_enter Try.func3, Try.ntmps3
    go_wp2_with fail
    refine (nBig _ _ _ w).mono ?_
    rintro e w1 ⟨rfl, hb1⟩
    have B0 := Lib.hid hb1
    have HK1 := Lib.hid (HK.out.below hb1)
    clear hb1
    go_wp2_with fail
    refine (drawSampled_some w1 ⟨a0, len0, cap0, z0⟩ HK1.out hl).mono ?_
    rintro e w2 ⟨r, v, hs, ⟨hv0, hv1⟩, rfl, hb2⟩
    replace B0 := Lib.hid (B0.out.trans (hb2.mono B0.out.size))
    clear hb2 HK1
    have HS := Lib.hid hs
    have I1 := fun W => Lib.hid (iSampled_any W r v hs.fit (by omega) (by omega))
    have S1 := fun W => Lib.hid (sSampled_any W r v hs.fit.key)
    have HKEY := Lib.hid hs.fit.key
    have S2 := fun W => Lib.hid (sRowOk_any W r hs.fit.key)
    have HE := Lib.hid (show sampledV r v = sampledV r v from rfl)
    have HXF := Lib.hid (Small.sampled hs v)
    have HNO := Lib.hid (fun h => sampled_no (r := r) (v := v) h)
    have HF3 := Lib.hid (fun h k => sampled_full (r := r) (v := v) h k)
    have HRM := Lib.hid (fun h k => sampled_room (r := r) (v := v) h k)
    have hrn := hs.n
    have hrd := hs.dropped
    have hrt := hs.total
    clear hs
    generalize sampledV r v = x at *
    obtain ⟨rkey, rkind, rsum, rst, rlast, rn, rmn, rmx, rtotal, rdropped⟩ := r
    obtain ⟨xkey, xkind, xsum, xst, xlast, xn, xmn, xmx, xtotal, xdropped⟩ := x
    simp only at hrn hrd hrt
    unfold R.v at I1 S1 S2 ⊢
    simp only at I1 S1 S2 ⊢
    go_wp2_with fail
    refine (I1 _).out.mono ?_
    rintro e w3 ⟨rfl, hb3⟩
    have HR3 := Lib.hid (show RowAt w3 w2.heap.size ⟨rkey, rkind, rsum, rst, rlast, rn, rmn, rmx, rtotal, rdropped⟩ from (rowAt_new w2 _ _ rfl).below hb3)
    have B3 := Lib.hid (show Below w.heap.size w w3 from (B0.out.alloc B0.out.size _).trans (hb3.mono (by simp [go_sem]; have := B0.out.size; omega)))
    have hg1 := B0.out.size
    have hg2 := B3.out.size
    have hg3 := HR3.out.lt
    clear hb3
    go_upto_region 5 with fail
    refine wp_f7_new ⟨xkey, xkind, xsum, xst, xlast, xn, xmn, xmx, xtotal, xdropped⟩ B3.out hg1 HR3.out ?_
    generalize w3.heap.size = gx at *
    generalize w2.heap.size = gr at *
    clear B3 HR3 B0
    clear w3 w2
    intro u hF
    have HF := Lib.hid hF
    clear hF
    obtain ⟨hr1, hr2⟩ := HF.out.get
    obtain ⟨p0, p1, p2, p3, p4, p5, p6, p7, p8, p9, pf⟩ := hr1.get
    obtain ⟨q0, q1, q2, q3, q4, q5, q6, q7, q8, q9, qf⟩ := hr2.get
    have lp := hr1.lt
    have lq := hr2.lt
    simp only at p0 p1 p2 p3 p4 p5 p6 p7 p8 p9 q0 q1 q2 q3 q4 q5 q6 q7 q8 q9
    clear hr1 hr2
    clear p0 p1 p2 p3 p4 p5 p6 p7 p8 p9 pf q0 q1 q2 q3 q4 q5 q6 q7 q8 q9 qf lp lq
    have HFd := Lib.hid (HF.out.below (below_drew _ _))
    have hall : ∀ p : Prop, (∀ W, F7 w gr gx ⟨rkey, rkind, rsum, rst, rlast, rn, rmn, rmx, rtotal, rdropped⟩ ⟨xkey, xkind, xsum, xst, xlast, xn, xmn, xmx, xtotal, xdropped⟩ W → p) ↔ p := fun p => ⟨fun h => h _ HFd.out, fun h _ _ => h⟩
    go_wp2_with fail
    refine wp_region_wq (C := F7 w gr gx ⟨rkey, rkind, rsum, rst, rlast, rn, rmn, rmx, rtotal, rdropped⟩ ⟨xkey, xkind, xsum, xst, xlast, xn, xmn, xmx, xtotal, xdropped⟩) (by kernel_rfl) (by kernel_rfl) HFd.out ?_
    repeat (refine WQ.step (fun K hK => ?_); go_simp; first | (refine hK _ ?_; clear hK K) | (apply Exists.intro; refine ⟨fun W hW => ?_, hK _ ?_⟩; (focus (first | (go_at_call 13; refine (S1 W).out.mono ?_; rintro e w' ⟨rfl, hb'⟩; exact ⟨rfl, hW.below hb'⟩) | exact rfl | (obtain ⟨hr1, hr2⟩ := hW.get; obtain ⟨m0, m1, m2, m3, m4, m5, m6, m7, m8, m9, mf⟩ := hr1.get; obtain ⟨k0, k1, k2, k3, k4, k5, k6, k7, k8, k9, kf⟩ := hr2.get; simp only at m0 m1 m2 m3 m4 m5 m6 m7 m8 m9 k0 k1 k2 k3 k4 k5 k6 k7 k8 k9; go_simp; rfl))); clear hK K))
    refine WQ.nil ?_
    intro ua hF'
    replace HF := Lib.hid hF'
    clear hF' HFd hall
    obtain ⟨hr1, hr2⟩ := HF.out.get
    obtain ⟨p0, p1, p2, p3, p4, p5, p6, p7, p8, p9, pf⟩ := hr1.get
    obtain ⟨q0, q1, q2, q3, q4, q5, q6, q7, q8, q9, qf⟩ := hr2.get
    have lp := hr1.lt
    have lq := hr2.lt
    simp only at p0 p1 p2 p3 p4 p5 p6 p7 p8 p9 q0 q1 q2 q3 q4 q5 q6 q7 q8 q9
    clear hr1 hr2
    clear S1 I1
    clear HE
    obtain ⟨cnd, hcnd⟩ : ∃ c : Bool, c = (rowOkV ⟨rkey, rkind, rsum, rst, rlast, rn, rmn, rmx, rtotal, rdropped⟩ && ((rkind == 3) && (decide ((0 : Int) ≤ v) && decide (v ≤ (65535 : Int))))) := ⟨_, rfl⟩
    go_upto_region 7 with fail
    go_cut [38] from 24 to 38 (fun c wx => c = .bool cnd ∧ F7 w gr gx ⟨rkey, rkind, rsum, rst, rlast, rn, rmn, rmx, rtotal, rdropped⟩ ⟨xkey, xkind, xsum, xst, xlast, xn, xmn, xmx, xtotal, xdropped⟩ wx)
    case first =>
      cases hok : rowOkV ⟨rkey, rkind, rsum, rst, rlast, rn, rmn, rmx, rtotal, rdropped⟩ with
      | false =>
        rw [hok] at S2 hcnd
        go_wp2_with fail
        refine (S2 _).out.mono ?_
        rintro e v1 ⟨rfl, hb⟩
        clear p0 p1 p2 p3 p4 p5 p6 p7 p8 p9 pf q0 q1 q2 q3 q4 q5 q6 q7 q8 q9 qf lp lq
        replace HF := Lib.hid (HF.out.below hb)
        clear hb
        obtain ⟨hr1, hr2⟩ := HF.out.get
        obtain ⟨p0, p1, p2, p3, p4, p5, p6, p7, p8, p9, pf⟩ := hr1.get
        obtain ⟨q0, q1, q2, q3, q4, q5, q6, q7, q8, q9, qf⟩ := hr2.get
        have lp := hr1.lt
        have lq := hr2.lt
        simp only at p0 p1 p2 p3 p4 p5 p6 p7 p8 p9 q0 q1 q2 q3 q4 q5 q6 q7 q8 q9
        clear hr1 hr2
        go_wp2_with fail
        go_meet
        exact ⟨by rw [hcnd]; rfl, HF.out⟩
      | true =>
        rw [hok] at S2 hcnd
        cases b1 : (rkind == 3) with
        | false =>
          rw [b1] at hcnd
          go_wp2_with fail
          refine (S2 _).out.mono ?_
          rintro e v1 ⟨rfl, hb⟩
          clear p0 p1 p2 p3 p4 p5 p6 p7 p8 p9 pf q0 q1 q2 q3 q4 q5 q6 q7 q8 q9 qf lp lq
          replace HF := Lib.hid (HF.out.below hb)
          clear hb
          obtain ⟨hr1, hr2⟩ := HF.out.get
          obtain ⟨p0, p1, p2, p3, p4, p5, p6, p7, p8, p9, pf⟩ := hr1.get
          obtain ⟨q0, q1, q2, q3, q4, q5, q6, q7, q8, q9, qf⟩ := hr2.get
          have lp := hr1.lt
          have lq := hr2.lt
          simp only at p0 p1 p2 p3 p4 p5 p6 p7 p8 p9 q0 q1 q2 q3 q4 q5 q6 q7 q8 q9
          clear hr1 hr2
          go_wp2_with fail
          go_meet
          exact ⟨by rw [hcnd]; rfl, HF.out⟩
        | true =>
          rw [b1] at hcnd
          cases b2 : decide ((0 : Int) ≤ v) with
          | false =>
            rw [b2] at hcnd
            go_wp2_with fail
            refine (S2 _).out.mono ?_
            rintro e v1 ⟨rfl, hb⟩
            clear p0 p1 p2 p3 p4 p5 p6 p7 p8 p9 pf q0 q1 q2 q3 q4 q5 q6 q7 q8 q9 qf lp lq
            replace HF := Lib.hid (HF.out.below hb)
            clear hb
            obtain ⟨hr1, hr2⟩ := HF.out.get
            obtain ⟨p0, p1, p2, p3, p4, p5, p6, p7, p8, p9, pf⟩ := hr1.get
            obtain ⟨q0, q1, q2, q3, q4, q5, q6, q7, q8, q9, qf⟩ := hr2.get
            have lp := hr1.lt
            have lq := hr2.lt
            simp only at p0 p1 p2 p3 p4 p5 p6 p7 p8 p9 q0 q1 q2 q3 q4 q5 q6 q7 q8 q9
            clear hr1 hr2
            go_wp2_with fail
            go_meet
            exact ⟨by rw [hcnd]; rfl, HF.out⟩
          | true =>
            rw [b2] at hcnd
            cases b3 : decide (v ≤ (65535 : Int)) with
            | false =>
              rw [b3] at hcnd
              go_wp2_with fail
              refine (S2 _).out.mono ?_
              rintro e v1 ⟨rfl, hb⟩
              clear p0 p1 p2 p3 p4 p5 p6 p7 p8 p9 pf q0 q1 q2 q3 q4 q5 q6 q7 q8 q9 qf lp lq
              replace HF := Lib.hid (HF.out.below hb)
              clear hb
              obtain ⟨hr1, hr2⟩ := HF.out.get
              obtain ⟨p0, p1, p2, p3, p4, p5, p6, p7, p8, p9, pf⟩ := hr1.get
              obtain ⟨q0, q1, q2, q3, q4, q5, q6, q7, q8, q9, qf⟩ := hr2.get
              have lp := hr1.lt
              have lq := hr2.lt
              simp only at p0 p1 p2 p3 p4 p5 p6 p7 p8 p9 q0 q1 q2 q3 q4 q5 q6 q7 q8 q9
              clear hr1 hr2
              go_wp2_with fail
              go_meet
              exact ⟨by rw [hcnd]; rfl, HF.out⟩
            | true =>
              rw [b3] at hcnd
              go_wp2_with fail
              refine (S2 _).out.mono ?_
              rintro e v1 ⟨rfl, hb⟩
              clear p0 p1 p2 p3 p4 p5 p6 p7 p8 p9 pf q0 q1 q2 q3 q4 q5 q6 q7 q8 q9 qf lp lq
              replace HF := Lib.hid (HF.out.below hb)
              clear hb
              obtain ⟨hr1, hr2⟩ := HF.out.get
              obtain ⟨p0, p1, p2, p3, p4, p5, p6, p7, p8, p9, pf⟩ := hr1.get
              obtain ⟨q0, q1, q2, q3, q4, q5, q6, q7, q8, q9, qf⟩ := hr2.get
              have lp := hr1.lt
              have lq := hr2.lt
              simp only at p0 p1 p2 p3 p4 p5 p6 p7 p8 p9 q0 q1 q2 q3 q4 q5 q6 q7 q8 q9
              clear hr1 hr2
              go_wp2_with fail
              go_meet
              exact ⟨by rw [hcnd]; rfl, HF.out⟩
    case rest =>
      obtain ⟨h38, hF⟩ := hcut
      subst h38
      clear S2 HF p0 p1 p2 p3 p4 p5 p6 p7 p8 p9 pf q0 q1 q2 q3 q4 q5 q6 q7 q8 q9 qf lp lq
      have HF := Lib.hid hF
      clear hF
      go_upto_if 38 with fail
      go_cut [] from 39 to 87 (fun wx => F7 w gr gx ⟨rkey, rkind, rsum, rst, rlast, rn, rmn, rmx, rtotal, rdropped⟩ ⟨xkey, xkind, xsum, xst, xlast, xn, xmn, xmx, xtotal, xdropped⟩ wx)
      case first =>
        cases cnd with
        | false =>
          have hnot : ¬ (rowOkV ⟨rkey, rkind, rsum, rst, rlast, rn, rmn, rmx, rtotal, rdropped⟩ = true ∧ rkind = 3 ∧ (0 ≤ v ∧ v ≤ 65535)) := fun h => by rw [h.1, decide_eq_true h.2.2.1, decide_eq_true h.2.2.2, show (rkind == 3) = true from beq_iff_eq.2 h.2.1] at hcnd; cases hcnd
          have hxr := HNO.out hnot
          clear hnot hcnd HNO HF3 HRM HXF
          injection hxr with e0 e1 e2 e3 e4 e5 e6 e7 e8 e9
          subst e0
          subst e1
          subst e2
          subst e3
          subst e4
          subst e5
          subst e6
          subst e7
          subst e8
          subst e9
          obtain ⟨hr1, hr2⟩ := HF.out.get
          obtain ⟨p0, p1, p2, p3, p4, p5, p6, p7, p8, p9, pf⟩ := hr1.get
          obtain ⟨q0, q1, q2, q3, q4, q5, q6, q7, q8, q9, qf⟩ := hr2.get
          have lp := hr1.lt
          have lq := hr2.lt
          simp only at p0 p1 p2 p3 p4 p5 p6 p7 p8 p9 q0 q1 q2 q3 q4 q5 q6 q7 q8 q9
          clear hr1 hr2
          go_wp2_with fail
          go_meet
          exact HF.out
        | true =>
          have hall4 := hcnd.symm
          rw [Bool.and_eq_true, Bool.and_eq_true, Bool.and_eq_true] at hall4
          obtain ⟨hok, hk3, h0, h1⟩ := hall4
          replace hk3 := beq_iff_eq.1 hk3
          replace h0 := of_decide_eq_true h0
          replace h1 := of_decide_eq_true h1
          clear hcnd
          have X1 := fun W => Lib.hid (iRowOk_any W ⟨xkey, xkind, xsum, xst, xlast, xn, xmn, xmx, xtotal, xdropped⟩ HXF.out.fit)
          by_cases hn3 : rn = 3
          · skip
            obtain ⟨g1, g2, g3⟩ := HF3.out ⟨hok, hk3, h0, h1⟩ hn3
            try simp only at g2 g3
            have e2 : decide (rn < xn) = false := by rw [decide_eq_false_iff_not]; omega
            have tf := timer_facts hok hk3
            try simp only at tf
            have e1 : ((xn + xdropped) != (if (65538 : Int) < rn + rdropped + 1 then 65538 else rn + rdropped + 1)) = false := by rw [bne_eq_false_iff_eq]; split <;> omega
            have m1 : xn + xdropped = (if (65538 : Int) < rn + rdropped + 1 then 65538 else rn + rdropped + 1) := by split <;> omega
            have M1 := Lib.hid m1
            clear m1
            have w1 : IntKind.i64.wrap (xn + xdropped) = xn + xdropped := by rw [IntKind.wrap_i64]; omega
            have w2 : IntKind.i64.wrap (rn + rdropped) = rn + rdropped := by rw [IntKind.wrap_i64]; omega
            have w3 : IntKind.i64.wrap (rn + rdropped + 1) = rn + rdropped + 1 := by rw [IntKind.wrap_i64]; omega
            rw [g1] at X1
            unfold R.v at X1
            simp only at X1
            clear HNO HF3 HRM HXF tf g1 g2 g3 hok hk3 h0 h1 hrn hrd hrt HS HKEY hn3
            obtain ⟨hr1, hr2⟩ := HF.out.get
            obtain ⟨p0, p1, p2, p3, p4, p5, p6, p7, p8, p9, pf⟩ := hr1.get
            obtain ⟨q0, q1, q2, q3, q4, q5, q6, q7, q8, q9, qf⟩ := hr2.get
            have lp := hr1.lt
            have lq := hr2.lt
            simp only at p0 p1 p2 p3 p4 p5 p6 p7 p8 p9 q0 q1 q2 q3 q4 q5 q6 q7 q8 q9
            clear hr1 hr2
            go_wp2_with fail
            refine (X1 _).out.mono ?_
            rintro e v1 ⟨rfl, hb⟩
            clear p0 p1 p2 p3 p4 p5 p6 p7 p8 p9 pf q0 q1 q2 q3 q4 q5 q6 q7 q8 q9 qf lp lq
            replace HF := Lib.hid (HF.out.below hb)
            clear hb
            obtain ⟨hr1, hr2⟩ := HF.out.get
            obtain ⟨p0, p1, p2, p3, p4, p5, p6, p7, p8, p9, pf⟩ := hr1.get
            obtain ⟨q0, q1, q2, q3, q4, q5, q6, q7, q8, q9, qf⟩ := hr2.get
            have lp := hr1.lt
            have lq := hr2.lt
            simp only at p0 p1 p2 p3 p4 p5 p6 p7 p8 p9 q0 q1 q2 q3 q4 q5 q6 q7 q8 q9
            clear hr1 hr2
            go_wp2_with fail
            all_goals first | (exfalso; exact absurd M1.out (by assumption)) | (go_meet; exact HF.out)
          · skip
            obtain ⟨g1, ⟨g2, g3, g4⟩, g5, g6, g7⟩ := HRM.out ⟨hok, hk3, h0, h1⟩ hn3
            try simp only at g2 g3 g4 g5 g6 g7
            have e2 : decide (rn < xn) = true := by rw [decide_eq_true_eq]; omega
            have e3 : decide (v < xmn) = false := by rw [decide_eq_false_iff_not]; omega
            have e4 : decide (xmx < v) = false := by rw [decide_eq_false_iff_not]; omega
            have e5 : (xtotal != rtotal + v) = false := by rw [bne_eq_false_iff_eq]; exact g7
            have w4 : IntKind.i64.wrap (rtotal + v) = rtotal + v := by rw [IntKind.wrap_i64]; omega
            have tf := timer_facts hok hk3
            try simp only at tf
            have e1 : ((xn + xdropped) != (if (65538 : Int) < rn + rdropped + 1 then 65538 else rn + rdropped + 1)) = false := by rw [bne_eq_false_iff_eq]; split <;> omega
            have m1 : xn + xdropped = (if (65538 : Int) < rn + rdropped + 1 then 65538 else rn + rdropped + 1) := by split <;> omega
            have M1 := Lib.hid m1
            clear m1
            have w1 : IntKind.i64.wrap (xn + xdropped) = xn + xdropped := by rw [IntKind.wrap_i64]; omega
            have w2 : IntKind.i64.wrap (rn + rdropped) = rn + rdropped := by rw [IntKind.wrap_i64]; omega
            have w3 : IntKind.i64.wrap (rn + rdropped + 1) = rn + rdropped + 1 := by rw [IntKind.wrap_i64]; omega
            rw [g1] at X1
            unfold R.v at X1
            simp only at X1
            clear HNO HF3 HRM HXF tf g1 g2 g3 hok hk3 h0 h1 hrn hrd hrt HS HKEY hn3 g4 g5 g6 g7
            obtain ⟨hr1, hr2⟩ := HF.out.get
            obtain ⟨p0, p1, p2, p3, p4, p5, p6, p7, p8, p9, pf⟩ := hr1.get
            obtain ⟨q0, q1, q2, q3, q4, q5, q6, q7, q8, q9, qf⟩ := hr2.get
            have lp := hr1.lt
            have lq := hr2.lt
            simp only at p0 p1 p2 p3 p4 p5 p6 p7 p8 p9 q0 q1 q2 q3 q4 q5 q6 q7 q8 q9
            clear hr1 hr2
            go_wp2_with fail
            refine (X1 _).out.mono ?_
            rintro e v1 ⟨rfl, hb⟩
            clear p0 p1 p2 p3 p4 p5 p6 p7 p8 p9 pf q0 q1 q2 q3 q4 q5 q6 q7 q8 q9 qf lp lq
            replace HF := Lib.hid (HF.out.below hb)
            clear hb
            obtain ⟨hr1, hr2⟩ := HF.out.get
            obtain ⟨p0, p1, p2, p3, p4, p5, p6, p7, p8, p9, pf⟩ := hr1.get
            obtain ⟨q0, q1, q2, q3, q4, q5, q6, q7, q8, q9, qf⟩ := hr2.get
            have lp := hr1.lt
            have lq := hr2.lt
            simp only at p0 p1 p2 p3 p4 p5 p6 p7 p8 p9 q0 q1 q2 q3 q4 q5 q6 q7 q8 q9
            clear hr1 hr2
            go_wp2_with fail
            all_goals first | (exfalso; exact absurd M1.out (by assumption)) | (go_meet; exact HF.out)
      case rest =>
        clear HF HNO HF3 HRM HXF HS HKEY hcnd hrn hrd hrt
        have HF := Lib.hid hcut
        clear hcut
        have B4 := Lib.hid HF.out.bel
        have HK4 := Lib.hid (HK.out.below_of HF.out.bel)
        clear HF
        go_wp2_with fail
        refine (drawCounted_some _ ⟨a0, len0, cap0, z0⟩ HK4.out hl).mono ?_
        rintro e w5 ⟨s, t, hs, ⟨ht0, ht1⟩, rfl, hb5⟩
        have B5 := Lib.hid (B4.out.trans (hb5.mono B4.out.size))
        clear hb5 HK4 B4
        have I1 := fun W => Lib.hid (iCounted_any W s t hs.fit (by omega) (by omega))
        have S1 := fun W => Lib.hid (sCounted_any W s t hs.fit.key)
        have S3 := fun W h => Lib.hid (iRowOk_any W (countedV s t) h)
        have HYF := Lib.hid (Small.counted hs t)
        have HOK := Lib.hid (fun h => counted_ok (r := s) (v := t) h)
        have hss := hs.sum
        have hsk := hs.fit
        clear hs
        generalize countedV s t = y at *
        obtain ⟨skey, skind, ssum, sst, slast, sn, smn, smx, stotal, sdropped⟩ := s
        obtain ⟨ykey, ykind, ysum, yst, ylast, yn, ymn, ymx, ytotal, ydropped⟩ := y
        have Q0 := fun W => Lib.hid (iQuiet_any W ⟨skey, skind, 0, false, 0, 0, 0, 0, 0, 0⟩ (Fit.zero hsk.key hsk.kind))
        simp only at hss
        clear hsk
        unfold R.v at I1 S1 Q0 ⊢
        simp only at I1 S1 Q0 ⊢
        go_wp2_with fail
        refine (I1 _).out.mono ?_
        rintro e w6 ⟨rfl, hb6⟩
        have HR6 := Lib.hid (show RowAt w6 w5.heap.size ⟨skey, skind, ssum, sst, slast, sn, smn, smx, stotal, sdropped⟩ from (rowAt_new w5 _ _ rfl).below hb6)
        have B6 := Lib.hid (show Below w.heap.size w w6 from (B5.out.alloc B5.out.size _).trans (hb6.mono (by simp [go_sem]; have := B5.out.size; omega)))
        have hh1 := B5.out.size
        clear hb6
        go_upto_region 14 with fail
        refine wp_f7_new ⟨ykey, ykind, ysum, yst, ylast, yn, ymn, ymx, ytotal, ydropped⟩ B6.out hh1 HR6.out ?_
        generalize w6.heap.size = gy
        generalize w5.heap.size = gs at *
        clear B6 HR6 B5 I1
        clear w6 w5
        intro u9 hF
        have HF := Lib.hid hF
        clear hF
        by_cases hy : (⟨ykey, ykind, ysum, yst, ylast, yn, ymn, ymx, ytotal, ydropped⟩ : R) = ⟨skey, skind, ssum, sst, slast, sn, smn, smx, stotal, sdropped⟩
        · have heq := fun W => eq_row W ⟨ykey, ykind, ysum, yst, ylast, yn, ymn, ymx, ytotal, ydropped⟩ ⟨skey, skind, ssum, sst, slast, sn, smn, smx, stotal, sdropped⟩
          rw [decide_eq_true hy] at heq
          have hee := fun W => eq_row W ⟨ykey, ykind, ysum, yst, ylast, yn, ymn, ymx, ytotal, ydropped⟩ ⟨ykey, ykind, ysum, yst, ylast, yn, ymn, ymx, ytotal, ydropped⟩
          rw [decide_eq_true rfl] at hee
          unfold R.v at heq hee
          simp only at heq hee
          clear hy
          have HFd := Lib.hid (HF.out.below (below_drew _ _))
          have hall : ∀ p : Prop, (∀ W, F7 w gs gy ⟨skey, skind, ssum, sst, slast, sn, smn, smx, stotal, sdropped⟩ ⟨ykey, ykind, ysum, yst, ylast, yn, ymn, ymx, ytotal, ydropped⟩ W → p) ↔ p := fun p => ⟨fun h => h _ HFd.out, fun h _ _ => h⟩
          go_wp2_with fail
          refine wp_region_wq (C := F7 w gs gy ⟨skey, skind, ssum, sst, slast, sn, smn, smx, stotal, sdropped⟩ ⟨ykey, ykind, ysum, yst, ylast, yn, ymn, ymx, ytotal, ydropped⟩) (by kernel_rfl) (by kernel_rfl) HFd.out ?_
          repeat (refine WQ.step (fun K hK => ?_); go_simp; first | (refine hK _ ?_; clear hK K) | (apply Exists.intro; refine ⟨fun W hW => ?_, hK _ ?_⟩; (focus (first | (go_at_call 18; refine (S1 W).out.mono ?_; rintro e w' ⟨rfl, hb'⟩; exact ⟨rfl, hW.below hb'⟩) | (go_at_call 19; refine (Q0 W).out.mono ?_; rintro e w' ⟨rfl, hb'⟩; exact ⟨rfl, hW.below hb'⟩) | exact rfl | (obtain ⟨hr1, hr2⟩ := hW.get; obtain ⟨m0, m1, m2, m3, m4, m5, m6, m7, m8, m9, mf⟩ := hr1.get; obtain ⟨k0, k1, k2, k3, k4, k5, k6, k7, k8, k9, kf⟩ := hr2.get; simp only at m0 m1 m2 m3 m4 m5 m6 m7 m8 m9 k0 k1 k2 k3 k4 k5 k6 k7 k8 k9; go_simp; rfl))); clear hK K))
          refine WQ.nil ?_
          intro ub hF'
          replace HF := Lib.hid hF'
          clear hF' HFd hall
          have BF := Lib.hid HF.out.bel
          clear HF
          go_wp2_with fail
          go_ret
          exact ⟨rfl, BF.out⟩
        · have heq := fun W => eq_row W ⟨ykey, ykind, ysum, yst, ylast, yn, ymn, ymx, ytotal, ydropped⟩ ⟨skey, skind, ssum, sst, slast, sn, smn, smx, stotal, sdropped⟩
          rw [decide_eq_false hy] at heq
          have hee := fun W => eq_row W ⟨ykey, ykind, ysum, yst, ylast, yn, ymn, ymx, ytotal, ydropped⟩ ⟨ykey, ykind, ysum, yst, ylast, yn, ymn, ymx, ytotal, ydropped⟩
          rw [decide_eq_true rfl] at hee
          obtain ⟨hy1, hy2, hy3, hy4⟩ := HOK.out hy
          have S4 := fun W => S3 W HYF.out.fit
          rw [hy1] at S4
          try simp only at hy2 hy3
          have hye : (ysum == (ssum + t) % 281474976710656) = true := by rw [beq_iff_eq]; exact hy2
          have hm0 : 0 ≤ ssum + t := by omega
          have hmt : (ssum + t).tmod 281474976710656 = (ssum + t) % 281474976710656 := Int.tmod_eq_emod_of_nonneg hm0
          have hyt : (ysum == (ssum + t).tmod 281474976710656) = true := by rw [beq_iff_eq, hmt]; exact hy2
          have hw : IntKind.i64.wrap (ssum + t) = ssum + t := by rw [IntKind.wrap_i64]; omega
          have hw2 : IntKind.i64.wrap ((ssum + t).tmod 281474976710656) = (ssum + t).tmod 281474976710656 := by rw [IntKind.wrap_i64, hmt]; omega
          unfold R.v at heq hee S4
          simp only at heq hee S4
          clear hy hy1 hy2 hm0 hmt S3
          have HFd := Lib.hid (HF.out.below (below_drew _ _))
          have hall : ∀ p : Prop, (∀ W, F7 w gs gy ⟨skey, skind, ssum, sst, slast, sn, smn, smx, stotal, sdropped⟩ ⟨ykey, ykind, ysum, yst, ylast, yn, ymn, ymx, ytotal, ydropped⟩ W → p) ↔ p := fun p => ⟨fun h => h _ HFd.out, fun h _ _ => h⟩
          go_wp2_with fail
          refine wp_region_wq (C := F7 w gs gy ⟨skey, skind, ssum, sst, slast, sn, smn, smx, stotal, sdropped⟩ ⟨ykey, ykind, ysum, yst, ylast, yn, ymn, ymx, ytotal, ydropped⟩) (by kernel_rfl) (by kernel_rfl) HFd.out ?_
          repeat (refine WQ.step (fun K hK => ?_); go_simp; first | (refine hK _ ?_; clear hK K) | (apply Exists.intro; refine ⟨fun W hW => ?_, hK _ ?_⟩; (focus (first | (go_at_call 18; refine (S1 W).out.mono ?_; rintro e w' ⟨rfl, hb'⟩; exact ⟨rfl, hW.below hb'⟩) | (go_at_call 19; refine (Q0 W).out.mono ?_; rintro e w' ⟨rfl, hb'⟩; exact ⟨rfl, hW.below hb'⟩) | (go_at_call 15; refine (S4 W).out.mono ?_; rintro e w' ⟨rfl, hb'⟩; exact ⟨rfl, hW.below hb'⟩) | exact rfl | (obtain ⟨hr1, hr2⟩ := hW.get; obtain ⟨m0, m1, m2, m3, m4, m5, m6, m7, m8, m9, mf⟩ := hr1.get; obtain ⟨k0, k1, k2, k3, k4, k5, k6, k7, k8, k9, kf⟩ := hr2.get; simp only at m0 m1 m2 m3 m4 m5 m6 m7 m8 m9 k0 k1 k2 k3 k4 k5 k6 k7 k8 k9; go_simp; rfl))); clear hK K))
          refine WQ.nil ?_
          intro uc hF'
          replace HF := Lib.hid hF'
          clear hF' HFd hall
          have BF := Lib.hid HF.out.bel
          clear HF
          go_wp2_with fail
          go_ret
          exact ⟨rfl, BF.out⟩

set_option maxRecDepth 100000 in
theorem lifted (os : Os) (started : os.Started) (H : Type) (enc : TypeId × Value → H) :
    ReturnsInHanded {} Try.checked os 3 .any (Rows.fnRowsSpec.pre6 enc Try.prog Try.f3 Rows.fnRowsRow.domain false) (Rows.fnRowsSpec.post enc Try.prog Try.f3 false true false false) := by
  refine returnsInHanded_of_change (C := Try.checked) own started (by kernel_rfl) Try.func3
    (ChangeSpec.witness6 (enc := enc) (C := Try.checked) false ⟨#[], #[.slice none 0 0], []⟩ 8 (by kernel_rfl) (by kernel_rfl) (by kernel_rfl) (by kernel_rfl)) ?_
  intro W base args ds gs before hval0 hW hcnd _
  have hval : ∀ (j : Nat) t v, Try.f3.params[j]? = some t → args[j]? = some v → Value.okWide Try.prog W .any base t v := hval0
  have hW' := hW
  obtain ⟨p, q, hA0, hV, rfl, hfz, hnd⟩ := hW
  have hA : DataW.TrodAll enc Try.prog W 0 (fun _ => true) true Try.f3.params.toList args.toList ds p := hA0
  rw [Try.params3] at hA hval
  obtain ⟨v0, vs0, d0, ds0, p0, q0, hargs, rfl, rfl, h0, r0⟩ := trodAll_cons hA
  obtain ⟨rfl, rfl, rfl⟩ := trodAll_nil r0
  obtain rfl : args = #[v0] := by cases args; simp_all
  obtain ⟨rfl, rfl⟩ := trodVars_none hV
  obtain ⟨a0, len0, cap0, rfl⟩ := okWide_slice Try.underlying22 (hval 0 22 v0 rfl rfl)
  have k0 := h0
  have lt0 : ∀ x ∈ p0, x.block < W.heap.size := by obtain ⟨m, hm⟩ := k0; exact DataW.trod_lt m _ _ _ hm
  obtain ⟨z0, w0⟩ : ∃ zs, IsRow W a0 len0 cap0 zs := by
    obtain ⟨fuel, hf⟩ := h0
    rcases open_ints Try.underlying22 Try.underlying5 (by kernel_rfl) hf with ⟨hcs, _⟩ | ⟨x, l, c, zs, hcs, _, hl, hm, hz, _, hcell, hwz⟩
    · simp [Value.cells] at hcs
      obtain ⟨rfl, rfl, rfl⟩ := hcs
      exact ⟨[], .inl ⟨rfl, rfl, rfl, rfl⟩⟩
    · simp [Value.cells] at hcs
      obtain ⟨rfl, rfl, rfl⟩ := hcs
      exact ⟨zs, .inr ⟨_, rfl, hl, hm, by simpa using hz, hcell, hwz⟩⟩
  clear hA0 hval0
  refine (walk W a0 len0 cap0 z0 w0).mono fun e W' ⟨he, bel⟩ => ?_
  subst he
  exact ⟨_, rfl, _, _, _, [], _, [], hW', trodAll_mk1 (shut_bool Try.underlying4 _), (trodAll_cons_mk (Below.trod laidOut (by kernel_rfl) (of_decide_eq_true (by kernel_rfl)) k0 bel lt0) trodAll_mk0), rfl, bel.frame _, fun h => by cases h⟩

theorem over : Rows.fnRowsRow.holds Try.pinned (OpenSpec.ofChange Rows.fnRowsSpec) :=
  OpenClaim.holds_of_wide 3 Try.f3 rfl rfl rfl rfl rfl rfl rfl ⟨rfl, rfl, rfl, rfl, rfl⟩ rfl rfl rfl rfl rfl (by kernel_rfl) Try.func3 (by kernel_rfl)
    (of_decide_eq_true (by kernel_rfl)) (by unfold Func.isWrapper; first | (rw [if_pos (by decide +kernel)]; kernel_rfl) | (rw [if_neg (by decide +kernel)]; exact ⟨rfl, rfl⟩))
    (fun os started H enc _ => lifted os started H enc)

end Go.Proofs.Ytfmmhfipibaghaa.fnRows
namespace Go.Proofs.Ytfmmhfipibaghaa
theorem fnRows_holds : Rows.FnRowsSaid := fnRows.over
end Go.Proofs.Ytfmmhfipibaghaa
