/-
  FnDrained: what a buffer drains to, its clearing and its rows are as the model tells, for what is drawn from any code: the law's call returns true and each argument reads afterwards as before. The library's own variables begin as the program's text lays them, which the card ties.
-/
import Derived.Test.YthfbacaamhkjpaaGreatDoorCards
import Derived.Test.YthfbacaamhkjpaaGreatDoorTie
import Derived.Test.YthfbacaamhkjpaaGreatDoorZd
import Derived.Test.YthfbacaamhkjpaaGreatDoorZc
import Derived.Test.YthfbacaamhkjpaaGreatDoorZb
import Derived.Test.YthfbacaamhkjpaaGreatDoorRpS
import Derived.Test.YthfbacaamhkjpaaGreatDoorZa
import Derived.WalkKit
import Derived.ProofKit
import Derived.OpenShut
import Derived.ShutString
import Derived.ChangeOld
import Derived.Below
namespace Go.Proofs.YthfbacaamhkjpaaGreatDoor.fnDrained
open Go.ChangeShapes Go.WideShapes Go.ChangeAt Go.RowKit Go.Proofs.YthfbacaamhkjpaaGreatDoor.M
open Go.ChangeMaps (open_string shut_string)
set_option linter.unusedVariables false
theorem laidOut : laidOutB Tryz.prog = true := by kernel_rfl

set_option maxRecDepth 100000 in
set_option maxHeartbeats 16000000 in
theorem walk (w : World) (a0 : Option Addr) (len0 cap0 : Nat) (z0 : List Int) (w0 : IsRow w a0 len0 cap0 z0)  :
    Calls Tryz.prog 3 #[.slice a0 len0 cap0] w fun e w' => e = .returned (.bool true) ∧ Below w.heap.size w w' := by
  have hk := CodeIn.of_row w0
  by_cases hb : (1048576 : Int) < (len0 : Int)
  · have hbig : decide ((1048576 : Int) < (len0 : Int)) = true := by rw [decide_eq_true]; omega
    clear hk w0
    go_enter Tryz.func3, Tryz.ntmps3
    go_wp2_with fail
    refine (nBig _ _ _ w).mono ?_
    rintro e w1 ⟨rfl, hb1⟩
    have B1 := Lib.hid hb1
    clear hb1
    go_wp2_with fail
    go_ret
    exact ⟨rfl, B1.out⟩
  · have hbig : decide ((1048576 : Int) < (len0 : Int)) = false := by rw [decide_eq_false]; omega
    have hl : len0 ≤ 1048576 := by omega
    have HK := Lib.hid hk
    clear hk w0
    go_enter Tryz.func3, Tryz.ntmps3
    go_wp2_with fail
    refine (nBig _ _ _ w).mono ?_
    rintro e w1 ⟨rfl, hb1⟩
    have B1 := Lib.hid hb1
    have HK1 := Lib.hid (HK.out.below hb1)
    clear hb1 HK
    go_wp2_with fail
    refine (drawReport_some w1 ⟨a0, len0, cap0, z0⟩ HK1.out hl).mono ?_
    rintro e w2 ⟨v, zs, b, rfl, hv, hzl, hbb, hb2⟩
    have B := Lib.hid (B1.out.trans (hb2.mono B1.out.size))
    have V := Lib.hid hv.1
    have hz1 : zs.length ≤ 1048576 := by omega
    obtain ⟨bb0, bb1⟩ := hbb
    have I1 := fun W h => Lib.hid (iReportIn_any W v zs b h (by omega) (by omega))
    have I2 := fun W h => Lib.hid (iClearBuf_any W v zs b h hz1 (by omega) (by omega))
    have I3 := fun W h => Lib.hid (sOk_any W v zs h)
    clear hv hb2 HK1 B1
    by_cases hok : okC zs = true ∧ (0 ≤ b ∧ b ≤ 1)
    · obtain ⟨hc, hb0, hb1⟩ := hok
      have hb01 : 0 ≤ b ∧ b ≤ 1 := ⟨hb0, hb1⟩
      have HC := Lib.hid hc
      have S1 := fun W h => Lib.hid (sReportIn_any W v zs b h)
      have S2 := fun W h => Lib.hid (sReportIn_any W v zs (1 - b) h)
      have J1 := fun W u h => Lib.hid (iBufClear_any W u (clearV zs b) b h (by omega) (by omega))
      have J2 := fun W u h => Lib.hid (iReportIn_any W u (clearV zs b) b h (by omega) (by omega))
      have J3 := fun W u h => Lib.hid (iReportIn_any W u (clearV zs b) (1 - b) h (by omega) (by omega))
      have HL2 := Lib.hid (okC_len (clearV_ok hc hb01))
      have HHD := Lib.hid (clear_head hc hb01)
      rw [bufClear_clear hc hb01] at J1
      rw [report_clear hc hb01] at J2
      rw [report_other hc hb01] at J3
      rw [hc] at I3
      have hn0 : decide (b < 0) = false := by rw [decide_eq_false]; omega
      have hn1 : decide (1 < b) = false := by rw [decide_eq_false]; omega
      have hw1 : IntKind.i64.wrap (1 - b) = 1 - b := by rw [IntKind.wrap_i64]; omega
      have HLZ := Lib.hid (okC_len hc)
      have hrl := reportIn_len zs b
      have hrl2 := reportIn_len zs (1 - b)
      clear hc
      generalize clearV zs b = xs at *
      have HRT := Lib.hid (show ∀ s : Nat, s < 4 → rowInV zs b s = rowFromV (cellK zs s) (slotRaw zs b s) from fun s hs => rowIn_raw HC.out hb01 hs)
      generalize reportInV zs b = rs at *
      generalize reportInV zs (1 - b) = rs2 at *
      go_wp2_with fail
      refine (I1 w2 V.out).out.mono ?_
      rintro e w3 ⟨l, rfl, ho, hb⟩
      have HR := Lib.hid ho.arg
      have V3 := Lib.hid (V.out.below hb)
      have B3 := Lib.hid (B.out.trans (hb.mono B.out.size))
      clear ho hb V B
      go_wp2_with fail
      refine (I2 w3 V3.out).out.mono ?_
      rintro e w4 ⟨x, rfl, ho, hb⟩
      have X := Lib.hid ho.ints
      replace HR := Lib.hid (HR.out.below hb)
      have V4 := Lib.hid (V3.out.below hb)
      have B4 := Lib.hid (B3.out.trans (hb.mono B3.out.size))
      clear ho hb V3 B3 I1 I2
      obtain ⟨xb, xo, xc, rfl, hx1, hx2, hx3, hx4⟩ := X.out
      have hxl := HL2.out
      rw [hxl] at hx1 ⊢
      have X' := X
      rw [hxl] at X'
      clear X hx4 hxl
      go_wp2_with fail
      refine (I3 w4 V4.out).out.mono ?_
      rintro e w' ⟨rfl, rfl⟩
      go_upto_region 8 with fail
      go_wp2_with fail
      refine (S1 w4 V4.out).out.mono ?_
      rintro e w5 ⟨l5, rfl, ho, hb⟩
      have HR5 := Lib.hid ho.arg
      replace HR := Lib.hid (HR.out.below hb)
      have V5 := Lib.hid (V4.out.below hb)
      have X5 := Lib.hid (X'.out.below hb)
      have B5 := Lib.hid (B4.out.trans (hb.mono B4.out.size))
      clear ho hb V4 B4 X' S1
      have E1 := Lib.hid (sSameReport_any w5 l l5 rs rs HR.out HR5.out)
      rw [show sameRV rs rs = true from decide_eq_true rfl] at E1
      clear HR HR5
      go_wp2_with fail
      refine E1.out.mono ?_
      rintro e w6 ⟨rfl, hb⟩
      have V6 := Lib.hid (V5.out.below hb)
      have X6 := Lib.hid (X5.out.below hb)
      have B6 := Lib.hid (B5.out.trans (hb.mono B5.out.size))
      clear hb V5 B5 X5 E1
      go_wp2_with fail
      refine (J1 w6 _ X6.out).out.mono ?_
      rintro e w7 ⟨rfl, hb⟩
      have V7 := Lib.hid (V6.out.below hb)
      have X7 := Lib.hid (X6.out.below hb)
      have B7 := Lib.hid (B6.out.trans (hb.mono B6.out.size))
      clear hb V6 B6 X6 J1
      go_wp2_with fail
      refine (J2 w7 _ X7.out).out.mono ?_
      rintro e w8 ⟨l8, rfl, ho, hb⟩
      have V8 := Lib.hid (V7.out.below hb)
      have X8 := Lib.hid (X7.out.below hb)
      have B8 := Lib.hid (B7.out.trans (hb.mono B7.out.size))
      obtain ⟨A8, c8, rfl, _, _, _⟩ := ho.arg
      clear ho hb V7 B7 X7 J2
      go_wp2_with fail
      refine (J3 w8 _ X8.out).out.mono ?_
      rintro e w9 ⟨l9, rfl, ho, hb⟩
      have HR9 := Lib.hid ho.arg
      have V9 := Lib.hid (V8.out.below hb)
      have X9 := Lib.hid (X8.out.below hb)
      have B9 := Lib.hid (B8.out.trans (hb.mono B8.out.size))
      clear ho hb V8 B8 X8 J3
      go_wp2_with fail
      refine (S2 w9 V9.out).out.mono ?_
      rintro e wa ⟨la, rfl, ho, hb⟩
      have HRa := Lib.hid ho.arg
      replace HR9 := Lib.hid (HR9.out.below hb)
      have Va := Lib.hid (V9.out.below hb)
      have Xa := Lib.hid (X9.out.below hb)
      have Ba := Lib.hid (B9.out.trans (hb.mono B9.out.size))
      clear ho hb V9 B9 X9 S2
      have E2 := Lib.hid (sSameReport_any wa l9 la rs2 rs2 HR9.out HRa.out)
      rw [show sameRV rs2 rs2 = true from decide_eq_true rfl] at E2
      clear HR9 HRa
      go_wp2_with fail
      refine E2.out.mono ?_
      rintro e wl ⟨rfl, hb⟩
      have VL := Lib.hid (Va.out.below hb)
      have XL := Lib.hid (Xa.out.below hb)
      have BL := Lib.hid (Ba.out.trans (hb.mono Ba.out.size))
      clear hb Va Ba Xa E2 hrl hrl2
      obtain ⟨vb, vo, vc, rfl, hv1, hv2, hv3, hv4⟩ := VL.out
      have hzl71 := HLZ.out
      have VL' := VL
      rw [hzl71] at hv1 VL' ⊢
      clear hv4 VL hzl71
      go_wp2_with fail
      go_loopw [7] (fun i wr => ∃ s : Nat, s ≤ 4 ∧ i = .int .i64 s ∧ Below wl.heap.size wl wr) (fun i _ => 4 - (intOf i).toNat)
      case atStart => exact ⟨0, Nat.zero_le _, rfl, Below.refl _ _⟩
      case round =>
        obtain ⟨s, hs, rfl, hb⟩ := hrel
        have HB := Lib.hid hb
        clear hb
        by_cases hlt : s < 4
        · have K1 := fun W h => Lib.hid (iRowIn_any W (.slice (some ⟨vb, vo, none⟩) 71 vc) zs b (s : Int) h (by omega) (by omega) (by omega) (by omega))
          have K2 := fun W h => Lib.hid (sRowIn_any W (.slice (some ⟨vb, vo, none⟩) 71 vc) zs b (s : Int) h)
          have K3 := fun W => Lib.hid (sKey_any (s : Int) W)
          rw [keyV_yes ⟨by omega, by omega⟩] at K3
          have K4 := fun W => Lib.hid (sBase_any b (s : Int) W)
          obtain ⟨m, hm, hm8⟩ := slot_idx (b := b) (s := (s : Int)) hb01 ⟨by omega, by omega⟩
          rw [cellV_yes hb01 ⟨by omega, by omega⟩, hm, Int.add_zero] at K4
          obtain ⟨c0, c1⟩ := okC_at HC.out (3 + s) (by omega)
          have K5 := fun W vr (h : IntsArg W vr (slotRaw zs b s)) => Lib.hid (iRowFrom_any W (cellK zs s) vr (slotRaw zs b s) h (slotRaw_fit (okC_fit HC.out)) (by show -9223372036854775808 ≤ zs.getD (3 + (s : Int)).toNat 0; rw [show (3 + (s : Int)).toNat = 3 + s by omega]; omega) (by show zs.getD (3 + (s : Int)).toNat 0 ≤ 9223372036854775807; rw [show (3 + (s : Int)).toNat = 3 + s by omega]; omega))
          rw [← HRT.out s hlt] at K5
          have K5' := fun W (hW : Below wl.heap.size wl W) => K5 W (.slice (some ⟨vb, vo + m, none⟩) 8 (vc - m)) (by have := ((VL'.out.below hW).part m 8 (by omega)).arg; rw [show slotRaw zs b s = (zs.drop m).take 8 by unfold slotRaw; rw [hm]; rfl]; exact this)
          have HCE := Lib.hid (fun W (hW : Below wl.heap.size wl W) => ints_cell VL'.out hW (3 + s) (by have := HLZ.out; omega))
          have HZ0 := Lib.hid (show cellK zs s = zs.getD (3 + s) 0 by unfold cellK; rw [show (3 + (s : Int)).toNat = 3 + s by omega])
          rw [HZ0.out] at K5'
          generalize zs.getD (3 + s) 0 = tag at *
          generalize rowInV zs b s = r at *
          clear K5
          obtain ⟨rkey, rkind, rsum, rst, rlast, rn, rmn, rmx, rtotal, rdropped⟩ := r
          have hne := fun W => neq_same W ⟨rkey, rkind, rsum, rst, rlast, rn, rmn, rmx, rtotal, rdropped⟩
          unfold R.v at K1 K2 K5' hne
          simp only at K1 K2 K5' hne
          go_wp2_with fail
          refine (K1 wr (VL'.out.below HB.out)).out.mono ?_
          rintro e u1 ⟨rfl, hb⟩
          have HB1 := Lib.hid (HB.out.trans (hb.mono HB.out.size))
          clear hb HB
          go_upto_region 14 with fail
          refine wp_row_new ⟨rkey, rkind, rsum, rst, rlast, rn, rmn, rmx, rtotal, rdropped⟩ HB1.out ?_
          generalize u1.heap.size = gr
          clear HB1 K1
          clear u1
          intro u2 hb2 hr2
          have hmw : IntKind.i64.wrap ((m : Int) + 8) = (m : Int) + 8 := by rw [IntKind.wrap_i64]; omega
          have hp71 : 3 + (s : Int) < 71 := by omega
          have hp0 : (0 : Int) ≤ 3 + (s : Int) := by omega
          have hptn : (3 + (s : Int)).toNat = 3 + s := by omega
          have hm0 : (0 : Int) ≤ (m : Int) + 8 := by omega
          have hm1 : (m : Int) + 8 ≤ (vc : Int) := by omega
          have hm2 : m ≤ m + 8 := by omega
          have hm3 : ((m : Int) + 8).toNat = m + 8 := by omega
          have hm5 : ¬ vc = m := by omega
          have hm4 : m + 8 - m = 8 := by omega
          go_wp2_with fail
          have HCL := (⟨⟨hb2.trans (below_drew _ _), hr2.below (below_drew _ _)⟩⟩ : HoldsC (fun W => Below wl.heap.size wl W ∧ RowAt W gr ⟨rkey, rkind, rsum, rst, rlast, rn, rmn, rmx, rtotal, rdropped⟩) _)
          have hall : ∀ p : Prop, (∀ W, HoldsC (fun W => Below wl.heap.size wl W ∧ RowAt W gr ⟨rkey, rkind, rsum, rst, rlast, rn, rmn, rmx, rtotal, rdropped⟩) W → p) ↔ p := fun p => ⟨fun h => h _ HCL, fun h _ _ => h⟩
          refine wp_region_wq (C := HoldsC (fun W => Below wl.heap.size wl W ∧ RowAt W gr ⟨rkey, rkind, rsum, rst, rlast, rn, rmn, rmx, rtotal, rdropped⟩)) (by kernel_rfl) (by kernel_rfl) HCL ?_
          repeat (refine WQ.step (fun K hK => ?_); go_simp; first | (refine hK _ ?_; clear hK K) | (apply Exists.intro; refine ⟨fun W hW => ?_, hK _ ?_⟩; (focus (first | (go_at_call 14; (with_reducible refine Calls.mono (K2 W (VL'.out.below hW.out.1)).out ?_); rintro e w' ⟨rfl, hb'⟩; exact ⟨rfl, ⟨hW.out.1.trans (hb'.mono hW.out.1.size), hW.out.2.below hb'⟩⟩) | (go_at_call 16; (with_reducible refine Calls.mono (K3 W).out ?_); rintro e w' ⟨rfl, rfl⟩; exact ⟨rfl, hW⟩) | (go_at_call 17; (with_reducible refine Calls.mono (K4 W).out ?_); rintro e w' ⟨rfl, rfl⟩; exact ⟨rfl, hW⟩) | (go_at_call 15; (with_reducible refine Calls.mono (K5' W hW.out.1).out ?_); rintro e w' ⟨rfl, hb'⟩; exact ⟨rfl, ⟨hW.out.1.trans (hb'.mono hW.out.1.size), hW.out.2.below hb'⟩⟩) | exact rfl | (obtain ⟨hWb, hWr⟩ := hW.out; obtain ⟨m0, m1, m2, m3, m4, m5, m6, m7, m8, m9, mf⟩ := hWr.get; simp only at m0 m1 m2 m3 m4 m5 m6 m7 m8 m9; have hcell := HCE.out W hWb; go_simp; rfl))); clear hK K))
          refine WQ.nil ?_
          intro W hW
          obtain ⟨hWb, hWr⟩ := hW.out; obtain ⟨m0, m1, m2, m3, m4, m5, m6, m7, m8, m9, mf⟩ := hWr.get; simp only at m0 m1 m2 m3 m4 m5 m6 m7 m8 m9; have hcell := HCE.out W hWb
          clear hall HCL
          have HW := Lib.hid hWb
          go_wp2_with fail
          go_roundw
          case rel => exact ⟨s + 1, by omega, by go_num, HW.out⟩
          case measure => simp [intOf]; omega
        · have hs4 : decide ((s : Int) < 4) = false := by rw [decide_eq_false_iff_not]; omega
          have KS := fun W (hW : Below wl.heap.size wl W) => Lib.hid (quiet_gives (sameInts_same W (.slice (some ⟨xb, xo, none⟩) 7 xc) (.slice (some ⟨vb, vo, none⟩) 7 vc) (zs.take 7) (by rw [← HHD.out]; exact (XL.out.below hW).head 7 (by omega)) ((VL'.out.below hW).head 7 (by omega))))
          have hx7 : (7 : Int) ≤ (xc : Int) := by omega
          have hv7 : (7 : Int) ≤ (vc : Int) := by omega
          have hx0 : ¬ xc = 0 := by omega
          have hv0 : ¬ vc = 0 := by omega
          have hbB := HB.out
          go_wp2_with fail
          have HCL := (⟨hbB.trans ((below_drew _ _).mono hbB.size)⟩ : HoldsC (fun W => Below wl.heap.size wl W) _)
          have hall : ∀ p : Prop, (∀ W, HoldsC (fun W => Below wl.heap.size wl W) W → p) ↔ p := fun p => ⟨fun h => h _ HCL, fun h _ _ => h⟩
          refine wp_region_wq (C := HoldsC (fun W => Below wl.heap.size wl W)) (by kernel_rfl) (by kernel_rfl) HCL ?_
          repeat (refine WQ.step (fun K hK => ?_); go_simp; first | (refine hK _ ?_; clear hK K) | (apply Exists.intro; refine ⟨fun W hW => ?_, hK _ ?_⟩; (focus (first | (go_at_call 18; (with_reducible refine Calls.mono (KS W hW.out).out ?_); rintro e w' ⟨rfl, hb'⟩; exact ⟨rfl, ⟨hW.out.trans (hb'.mono hW.out.size)⟩⟩) | exact rfl | (obtain hWb := hW.out; go_simp; rfl))); clear hK K))
          refine WQ.nil ?_
          intro W hW
          obtain hWb := hW.out
          clear hall HCL
          have HW := Lib.hid hWb
          go_wp2_with fail
          go_ret
          exact ⟨rfl, BL.out.trans (HW.out.mono BL.out.size)⟩
    · obtain ⟨d1, d2, d3⟩ := drained_no hok
      have J1 := fun W h => Lib.hid (iBufClear_any W v zs b h (by omega) (by omega))
      have S1 := fun W u h h' => Lib.hid (sSame_any W u v zs zs h h')
      rw [show (zs == zs) = true from beq_self_eq_true zs] at S1
      rw [d1] at I1
      rw [d2] at I2
      rw [d3] at J1
      clear d1 d2 d3
      cases hc : okC zs with
      | false =>
        rw [hc] at I3
        clear hc
        clear hok
        go_wp2_with fail
        refine (I1 w2 V.out).out.mono ?_
        rintro e w3 ⟨l, rfl, ho, hb⟩
        obtain ⟨A8, c8, rfl, _, _, _⟩ := ho.arg
        have V3 := Lib.hid (V.out.below hb)
        have B3 := Lib.hid (B.out.trans (hb.mono B.out.size))
        clear ho hb V B
        go_wp2_with fail
        refine (I2 w3 V3.out).out.mono ?_
        rintro e w4 ⟨x, rfl, ho, hb⟩
        have X := Lib.hid ho.ints
        have V4 := Lib.hid (V3.out.below hb)
        have B4 := Lib.hid (B3.out.trans (hb.mono B3.out.size))
        clear ho hb V3 B3 I1 I2
        go_wp2_with fail
        refine (I3 w4 V4.out).out.mono ?_
        rintro e w' ⟨rfl, rfl⟩
        go_upto_region 7 with fail
        go_wp2_with fail
        refine (quiet_gives (S1 w4 x X.out V4.out).out).mono ?_
        rintro e w5 ⟨rfl, hb⟩
        have V5 := Lib.hid (V4.out.below hb)
        have B5 := Lib.hid (B4.out.trans (hb.mono B4.out.size))
        clear hb V4 B4 X
        go_wp2_with fail
        refine (J1 w5 V5.out).out.mono ?_
        rintro e w6 ⟨rfl, hb⟩
        have B6 := Lib.hid (B5.out.trans (hb.mono B5.out.size))
        clear hb V5 B5
        go_wp2_with fail
        go_ret
        exact ⟨rfl, B6.out⟩
      | true =>
        rw [hc] at I3
        by_cases hn : b < 0
        · have hn0 : decide (b < 0) = true := decide_eq_true hn
          clear hc
          clear hok
          go_wp2_with fail
          refine (I1 w2 V.out).out.mono ?_
          rintro e w3 ⟨l, rfl, ho, hb⟩
          obtain ⟨A8, c8, rfl, _, _, _⟩ := ho.arg
          have V3 := Lib.hid (V.out.below hb)
          have B3 := Lib.hid (B.out.trans (hb.mono B.out.size))
          clear ho hb V B
          go_wp2_with fail
          refine (I2 w3 V3.out).out.mono ?_
          rintro e w4 ⟨x, rfl, ho, hb⟩
          have X := Lib.hid ho.ints
          have V4 := Lib.hid (V3.out.below hb)
          have B4 := Lib.hid (B3.out.trans (hb.mono B3.out.size))
          clear ho hb V3 B3 I1 I2
          go_wp2_with fail
          refine (I3 w4 V4.out).out.mono ?_
          rintro e w' ⟨rfl, rfl⟩
          go_upto_region 7 with fail
          go_wp2_with fail
          refine (quiet_gives (S1 w4 x X.out V4.out).out).mono ?_
          rintro e w5 ⟨rfl, hb⟩
          have V5 := Lib.hid (V4.out.below hb)
          have B5 := Lib.hid (B4.out.trans (hb.mono B4.out.size))
          clear hb V4 B4 X
          go_wp2_with fail
          refine (J1 w5 V5.out).out.mono ?_
          rintro e w6 ⟨rfl, hb⟩
          have B6 := Lib.hid (B5.out.trans (hb.mono B5.out.size))
          clear hb V5 B5
          go_wp2_with fail
          go_ret
          exact ⟨rfl, B6.out⟩
        · have hn0 : decide (b < 0) = false := decide_eq_false hn
          have hn1 : decide (1 < b) = true := decide_eq_true (Decidable.byContradiction fun h => hok ⟨hc, by omega, by omega⟩)
          clear hc
          clear hok
          go_wp2_with fail
          refine (I1 w2 V.out).out.mono ?_
          rintro e w3 ⟨l, rfl, ho, hb⟩
          obtain ⟨A8, c8, rfl, _, _, _⟩ := ho.arg
          have V3 := Lib.hid (V.out.below hb)
          have B3 := Lib.hid (B.out.trans (hb.mono B.out.size))
          clear ho hb V B
          go_wp2_with fail
          refine (I2 w3 V3.out).out.mono ?_
          rintro e w4 ⟨x, rfl, ho, hb⟩
          have X := Lib.hid ho.ints
          have V4 := Lib.hid (V3.out.below hb)
          have B4 := Lib.hid (B3.out.trans (hb.mono B3.out.size))
          clear ho hb V3 B3 I1 I2
          go_wp2_with fail
          refine (I3 w4 V4.out).out.mono ?_
          rintro e w' ⟨rfl, rfl⟩
          go_upto_region 7 with fail
          go_wp2_with fail
          refine (quiet_gives (S1 w4 x X.out V4.out).out).mono ?_
          rintro e w5 ⟨rfl, hb⟩
          have V5 := Lib.hid (V4.out.below hb)
          have B5 := Lib.hid (B4.out.trans (hb.mono B4.out.size))
          clear hb V4 B4 X
          go_wp2_with fail
          refine (J1 w5 V5.out).out.mono ?_
          rintro e w6 ⟨rfl, hb⟩
          have B6 := Lib.hid (B5.out.trans (hb.mono B5.out.size))
          clear hb V5 B5
          go_wp2_with fail
          go_ret
          exact ⟨rfl, B6.out⟩

set_option maxRecDepth 100000 in
theorem contract (H : Type) (enc : TypeId × Value → H) (W : World) (base : Nat) (args : Array Value) (ds gs : List (DataW H)) (before : List MemPlace)
    (hval : ∀ (j : Nat) t v, Tryz.f3.params[j]? = some t → args[j]? = some v → Value.okWide Tryz.prog W .any base t v)
    (hW : DataW.Whole enc Tryz.prog Tryz.f3.params.toList Rows.fnDrainedSpec.vars false W args.toList ds gs before) (hL : laidMetH Tryz.prog Rows.fnDrainedRow.laid W) :
    Calls Tryz.prog 3 args W fun e W' => ∃ v, e = .returned v ∧ Rows.fnDrainedSpec.post enc Tryz.prog Tryz.f3 false true false false W args v W' := by
  have hW' := hW
  obtain ⟨p, q, hA0, hV, rfl, hfz, hnd⟩ := hW
  have hA : DataW.TrodAll enc Tryz.prog W 0 (fun _ => true) true Tryz.f3.params.toList args.toList ds p := hA0
  rw [Tryz.params3] at hA hval
  obtain ⟨v0, vs0, d0, ds0, p0, q0, hargs, rfl, rfl, h0, r0⟩ := trodAll_cons hA
  obtain ⟨rfl, rfl, rfl⟩ := trodAll_nil r0
  obtain rfl : args = #[v0] := by cases args; simp_all
  obtain ⟨rfl, rfl⟩ := trodVars_none hV
  obtain ⟨a0, len0, cap0, rfl⟩ := okWide_slice Tryz.underlying22 (hval 0 22 v0 rfl rfl)
  have k0 := h0
  have lt0 : ∀ x ∈ p0, x.block < W.heap.size := by obtain ⟨m, hm⟩ := k0; exact DataW.trod_lt m _ _ _ hm
  obtain ⟨z0, w0⟩ : ∃ zs, IsRow W a0 len0 cap0 zs := by
    obtain ⟨fuel, hf⟩ := h0
    rcases open_ints Tryz.underlying22 Tryz.underlying5 (by kernel_rfl) hf with ⟨hcs, _⟩ | ⟨x, l, c, zs, hcs, _, hl, hm, hz, _, hcell, hwz⟩
    · simp [Value.cells] at hcs
      obtain ⟨rfl, rfl, rfl⟩ := hcs
      exact ⟨[], .inl ⟨rfl, rfl, rfl, rfl⟩⟩
    · simp [Value.cells] at hcs
      obtain ⟨rfl, rfl, rfl⟩ := hcs
      exact ⟨zs, .inr ⟨_, rfl, hl, hm, by simpa using hz, hcell, hwz⟩⟩
  clear hA0
  refine (walk W a0 len0 cap0 z0 w0 ).mono fun e W' ⟨he, bel⟩ => ?_
  subst he
  exact ⟨_, rfl, _, _, _, [], _, [], hW', trodAll_mk1 (shut_bool Tryz.underlying4 _), (trodAll_cons_mk (Below.trod laidOut (by kernel_rfl) (of_decide_eq_true (by kernel_rfl)) k0 bel lt0) trodAll_mk0), rfl, bel.frame _, fun h => by cases h⟩

theorem laid_met (os : Os) : laidMet Tryz.prog Rows.fnDrainedRow.laid ((laidWorld os).forCall (fun _ _ => 0) ⟨#[], #[.slice none 0 0], []⟩).memory :=
  laidMet_of_run' 8 (by kernel_rfl) (by kernel_rfl)
theorem reads (os : Os) {H : Type} (enc : TypeId × Value → H) : ∃ places, DataW.whole enc Tryz.prog ((laidWorld os).forCall (fun _ _ => 0) ⟨#[], #[.slice none 0 0], []⟩).memory Tryz.f3.params.toList Rows.fnDrainedSpec.vars false #[Value.slice none 0 0].toList 8 = some ([.nil], [], places) :=
  ⟨[], by kernel_rfl⟩

set_option maxRecDepth 100000 in
theorem lifted (os : Os) (started : os.Started) (H : Type) (enc : TypeId × Value → H) (F : Stop.Interp) :
    ReturnsInHanded {} Tryz.checked os 3 .any ((OpenSpec.ofChange Rows.fnDrainedSpec).preRow enc Tryz.prog Tryz.f3 Rows.fnDrainedRow.domain false Rows.fnDrainedRow.laid) (((OpenSpec.ofChange Rows.fnDrainedSpec).at F).post enc Tryz.prog Tryz.f3 false true false false) := by
  obtain ⟨places, hx⟩ := reads os enc
  refine returnsInHanded_of_row (C := Tryz.checked) (s := OpenSpec.ofChange Rows.fnDrainedSpec) own started (by kernel_rfl) Tryz.func3
    (witness_row_at (enc := enc) (C := Tryz.checked) false (laidWorld os) #[.slice none 0 0] rfl (by kernel_rfl) (by kernel_rfl) (by kernel_rfl)
      (OpenSpec.preRow_of_cond 8 hx (by kernel_rfl) (fun k hk => by cases hk) (by kernel_rfl) (laid_met os))) ?_
  intro W base args ds gs before hval hW _ _ _ hL _ _
  exact contract H enc W base args ds gs before hval hW hL

theorem said : Rows.FnDrainedSaid :=
  OpenClaim.holds_of_cond 3 Tryz.f3 rfl rfl rfl rfl rfl rfl rfl ⟨rfl, rfl, rfl, rfl, rfl⟩ rfl rfl rfl rfl rfl (by kernel_rfl) Tryz.func3 (by kernel_rfl)
    (of_decide_eq_true (by kernel_rfl)) (by unfold Func.isWrapper; first | (rw [if_pos (by decide +kernel)]; kernel_rfl) | (rw [if_neg (by decide +kernel)]; exact ⟨rfl, rfl⟩))
    (fun os started H enc _ F => by rw [OpenClaim.pre_eq_preRow]; exact lifted os started H enc F)

theorem plain (f : FuncId) (fn : Func) (hf : Tryz.pinned.checked.prog.funcNamed Rows.fnDrainedRow.func = some f) (hfn : Tryz.pinned.checked.prog.funcs[f]? = some fn) :
    Rows.fnDrainedCard.stood.looks = Tryz.pinned.checked.prog.looks [] ∧ ∀ (j : Nat) t, fn.params[j]? = some t → Tryz.pinned.checked.prog.wantsStandIn t = false := by
  obtain rfl : f = 3 := Option.some.inj ((show Tryz.prog.funcNamed Rows.fnDrainedRow.func = some 3 by kernel_rfl).symm.trans hf) |>.symm
  obtain rfl : fn = Tryz.f3 := (Option.some.inj (Tryz.func3.symm.trans hfn)).symm
  refine ⟨by kernel_rfl, fun j t ht => ?_⟩
  rw [Tryz.params3] at ht
  have hm : t = 22 := by simpa using Array.mem_of_getElem? ht
  rcases hm with rfl
  · exact (show Tryz.prog.wantsStandIn 22 = false by kernel_rfl)

end Go.Proofs.YthfbacaamhkjpaaGreatDoor.fnDrained
namespace Go.Proofs.YthfbacaamhkjpaaGreatDoor
theorem fnDrained_holds : Rows.FnDrainedCardSaid :=
  Claim7.holds_tied_plain_at .later [] _ _ _ _ fnDrained.said (fun _ h => by cases h) (by kernel_rfl) (fun _ h => by cases h) fnDrained_row_tie rfl ⟨rfl, rfl⟩ (by kernel_rfl) rfl fnDrained.plain (by kernel_rfl)
end Go.Proofs.YthfbacaamhkjpaaGreatDoor
