/-
  FnNow: what is recorded at once and flushed is as the model tells, for what is drawn from any code: the law's call returns true and each argument reads afterwards as before. The library's own variables begin as the program's text lays them, which the card ties.
-/
import Derived.Test.YtmglidfnolmcaaaGreatDoorCards
import Derived.Test.YtmglidfnolmcaaaGreatDoorTie
import Derived.Test.YtmglidfnolmcaaaGreatDoorNowI
import Derived.Test.YtmglidfnolmcaaaGreatDoorZc
import Derived.Test.YtmglidfnolmcaaaGreatDoorZb
import Derived.Test.YtmglidfnolmcaaaGreatDoorDrawZ
import Derived.Test.YtmglidfnolmcaaaGreatDoorZa
import Derived.WalkKit
import Derived.ProofKit
import Derived.OpenShut
import Derived.ShutString
import Derived.ChangeOld
import Derived.Below
namespace Go.Proofs.YtmglidfnolmcaaaGreatDoor.fnNow
open Go.ChangeShapes Go.WideShapes Go.ChangeAt Go.RowKit Go.Proofs.YtmglidfnolmcaaaGreatDoor.M
open Go.ChangeMaps (open_string shut_string)
set_option linter.unusedVariables false
theorem laidOut : laidOutB Tryz.prog = true := by kernel_rfl

set_option maxRecDepth 100000 in
set_option maxHeartbeats 16000000 in
theorem walk (w : World) (a0 : Option Addr) (len0 cap0 : Nat) (z0 : List Int) (w0 : IsRow w a0 len0 cap0 z0)  :
    Calls Tryz.prog 3 #[.slice a0 len0 cap0] w fun e w' => e = .returned (.bool true) ∧ Below w.heap.size w w' := by
  have hk := CodeIn.of_row w0
  by_cases hb : (1048576 : Int) < (len0 : Int)
  · have hbig : decide ((1048576 : Int) < (len0 : Int)) = true := by rw [decide_eq_true]; omega
    clear hk w0
    go_enter Tryz.func3, Tryz.ntmps3
    go_wp2_with fail
    refine (nBig _ _ _ w).mono ?_
    rintro e w1 ⟨rfl, hb1⟩
    have B1 := Lib.hid hb1
    clear hb1
    go_wp2_with fail
    go_ret
    exact ⟨rfl, B1.out⟩
  · have hbig : decide ((1048576 : Int) < (len0 : Int)) = false := by rw [decide_eq_false]; omega
    have hl : len0 ≤ 1048576 := by omega
    have HK := Lib.hid hk
    clear hk w0
    go_enter Tryz.func3, Tryz.ntmps3
    go_wp2_with fail
    refine (nBig _ _ _ w).mono ?_
    rintro e w1 ⟨rfl, hb1⟩
    have B1 := Lib.hid hb1
    have HK1 := Lib.hid (HK.out.below hb1)
    clear hb1 HK
    go_wp2_with fail
    refine (drawRecord_some w1 ⟨a0, len0, cap0, z0⟩ HK1.out hl).mono ?_
    rintro e w2 ⟨v, zs, t, key, x, rfl, hv, hzl, ⟨t0, t1⟩, hkey, ⟨x0, x1⟩, hb2⟩
    have B := Lib.hid (B1.out.trans (hb2.mono B1.out.size))
    have V := Lib.hid hv.1
    have hz1 : zs.length ≤ 1048576 := by omega
    have hks : key.size ≤ maxLen := by unfold maxLen; omega
    have I1 := Lib.hid (iRecordNow_any w2 v zs t key x V.out hz1 hks (by omega) (by omega) (by omega) (by omega))
    have I2 := fun W h => Lib.hid (sRecordNow_any W v zs t key x h hz1 hks)
    have HD := Lib.hid (recD_done (a := zs) (w := t) (key := key) (v := x))
    have HN := Lib.hid (fun (h : ¬ (recArgs zs t key x = true ∧ 0 ≤ fkS zs key)) => (show recC zs t key x = zs from if_neg h))
    have HR := Lib.hid (fun h h0 => rec_done (a := zs) (w := t) (key := key) (v := x) h h0)
    have HKS := Lib.hid hks
    clear hv hb2 HK1 B1 hzl hz1 hks
    generalize recC zs t key x = xs at *
    generalize recD zs t key x = d at *
    go_wp2_with fail
    refine I1.out.mono ?_
    rintro e w3 ⟨q, rfl, ho, hb⟩
    have X := Lib.hid ho.ints
    have V3 := Lib.hid (V.out.below hb)
    have B3 := Lib.hid (B.out.trans (hb.mono B.out.size))
    clear ho hb V B I1
    go_wp2_with fail
    refine (I2 w3 V3.out).out.mono ?_
    rintro e w4 ⟨y, rfl, ho, hb⟩
    have Y := Lib.hid ho.ints
    have X4 := Lib.hid (X.out.below hb)
    have V4 := Lib.hid (V3.out.below hb)
    have B4 := Lib.hid (B3.out.trans (hb.mono B3.out.size))
    clear ho hb V3 B3 X I2
    go_wp2_with fail
    have E1 := Lib.hid (sSame_any w4 q y xs xs X4.out Y.out)
    rw [show (xs == xs) = true from beq_self_eq_true xs] at E1
    clear Y
    refine (quiet_gives E1.out).mono ?_
    rintro e w5 ⟨rfl, hb⟩
    have X5 := Lib.hid (X4.out.below hb)
    have V5 := Lib.hid (V4.out.below hb)
    have B5 := Lib.hid (B4.out.trans (hb.mono B4.out.size))
    clear hb V4 B4 X4 E1
    by_cases hd : recArgs zs t key x = true ∧ 0 ≤ fkS zs key
    case neg =>
      have hx := HN.out hd
      subst hx
      have hd1 : (d != 0) = true := by rw [bne_iff_ne]; exact fun e => hd (HD.out.1 (Or.inl e))
      have hd2 : (d != 5) = true := by rw [bne_iff_ne]; exact fun e => hd (HD.out.1 (Or.inr e))
      clear hd HD HN HR
      have E1 := Lib.hid (sSame_any w5 q v xs xs X5.out V5.out)
      rw [show (xs == xs) = true from beq_self_eq_true xs] at E1
      go_wp2_with fail
      refine (quiet_gives E1.out).mono ?_
      rintro e w6 ⟨rfl, hb⟩
      have B6 := Lib.hid (B5.out.trans (hb.mono B5.out.size))
      clear hb V5 B5 X5 E1
      go_wp2_with fail
      go_ret
      exact ⟨rfl, B6.out⟩
    have hdd := HD.out.2 hd
    obtain ⟨hc, hcx, he0, hrows⟩ := HR.out hd.1 hd.2
    have HC := Lib.hid hc
    have HCX := Lib.hid hcx
    have HLZ := Lib.hid (okC_len hc)
    have HLX := Lib.hid (okC_len hcx)
    have HE0 := Lib.hid he0
    have HROW := Lib.hid hrows
    have HB := Lib.hid (epoch_bit hc)
    have HFD := Lib.hid (flush_done hcx)
    obtain ⟨z0', _⟩ := okC_at hc 0 (by omega)
    have HTM := Lib.hid (show Int.tmod (zs.getD 0 0) 2 = zs.getD 0 0 % 2 from Int.tmod_eq_emod_of_nonneg z0')
    obtain ⟨e0, e1⟩ := okC_at hcx 0 (by omega)
    have HX0 := Lib.hid (⟨e0, e1⟩ : 0 ≤ xs.getD 0 0 ∧ xs.getD 0 0 ≤ 281474976710655)
    clear HD HN HR hd hc hcx he0 hrows z0' e0 e1
    obtain ⟨vb, vo, vc, rfl, hv1, hv2, hv3, hv4⟩ := V5.out
    have V5' := V5
    have hv71 := HLZ.out
    rw [hv71] at hv1 V5' ⊢
    have hc0 := hv4 0 (by omega)
    simp only [Nat.add_zero] at hc0
    clear hv4 V5 hv71
    obtain ⟨xb, xo, xc, rfl, hx1, hx2, hx3, hx4⟩ := X5.out
    have X5' := X5
    have hx71 := HLX.out
    rw [hx71] at hx1 X5' ⊢
    clear hx4 X5 hx71
    have htm := HTM.out
    have HF := fun W h => Lib.hid (sFindKey_any W (.slice (some ⟨vb, vo, none⟩) 71 vc) zs key h HKS.out)
    generalize hb0 : zs.getD 0 0 % 2 = b at *
    generalize zs.getD 0 0 = z00 at *
    obtain ⟨hb00, hb01⟩ := HB.out
    have hd0 : (d == 0 || d == 5) = true := by rcases hdd with rfl | rfl <;> rfl
    have hv71' : (0 : Int) < 71 := by decide
    clear HTM HB
    rcases hdd with rfl | rfl
    · skip
      clear hd0
      go_upto_region 11 with fail
      go_wp2_with fail
      refine (HF w5 V5'.out).out.mono ?_
      rintro e w6 ⟨rfl, hb⟩
      have X6 := Lib.hid (X5'.out.below hb)
      have V6 := Lib.hid (V5'.out.below hb)
      have B6 := Lib.hid (B5.out.trans (hb.mono B5.out.size))
      clear hb V5' B5 X5' HF hc0
      generalize fkS zs key = slot at *
      generalize fkK zs key = kk at *
      go_wp2_with fail
      go_loopw [14] (fun i wr => ∃ s : Nat, s ≤ 4 ∧ i = .int .i64 s ∧ Below w6.heap.size w6 wr) (fun i _ => 4 - (intOf i).toNat)
      case atStart => exact ⟨0, Nat.zero_le _, rfl, Below.refl _ _⟩
      case round =>
        obtain ⟨s, hs, rfl, hb⟩ := hrel
        have HBR := Lib.hid hb
        clear hb
        by_cases hlt : s < 4
        · by_cases hne : (s : Int) = slot
          · have hne' : ((s : Int) != slot) = false := by rw [bne_eq_false_iff_eq]; exact hne
            clear hne
            go_wp2_with fail
            go_roundw
            case rel => exact ⟨s + 1, by omega, by go_num, HBR.out⟩
            case measure => simp [intOf]; omega
          · have hne' : ((s : Int) != slot) = true := by rw [bne_iff_ne]; exact hne
            have K1 := fun W h => Lib.hid (iRowIn_any W (.slice (some ⟨xb, xo, none⟩) 71 xc) xs b (s : Int) h (by omega) (by omega) (by omega) (by omega))
            have K2 := fun W h => Lib.hid (sRowIn_any W (.slice (some ⟨vb, vo, none⟩) 71 vc) zs b (s : Int) h)
            rw [HROW.out s hlt hne] at K1
            clear hne
            generalize rowInV zs b s = r at *
            have hq := fun W => neq_same W r
            obtain ⟨rkey, rkind, rsum, rst, rlast, rn, rmn, rmx, rtotal, rdropped⟩ := r
            unfold R.v at K1 K2 hq
            simp only at K1 K2 hq
            go_wp2_with fail
            refine (K1 wr (X6.out.below HBR.out)).out.mono ?_
            rintro e u1 ⟨rfl, hb⟩
            have HB1 := Lib.hid (HBR.out.trans (hb.mono HBR.out.size))
            clear hb HBR
            go_wp2_with fail
            refine (K2 u1 (V6.out.below HB1.out)).out.mono ?_
            rintro e u2 ⟨rfl, hb⟩
            have HB2 := Lib.hid (HB1.out.trans (hb.mono HB1.out.size))
            clear hb HB1
            go_wp2_with fail
            go_roundw
            case rel => exact ⟨s + 1, by omega, by go_num, HB2.out⟩
            case measure => simp [intOf]; omega
        · have hs4 : decide ((s : Int) < 4) = false := by rw [decide_eq_false_iff_not]; omega
          have X7 := Lib.hid (X6.out.below HBR.out)
          have B7 := Lib.hid (B6.out.trans (HBR.out.mono B6.out.size))
          clear HBR V6 X6 B6
          obtain ⟨f1, f2, f3, f4⟩ := HFD.out
          have I3 := Lib.hid (iFlushNow_any wr (.slice (some ⟨xb, xo, none⟩) 71 xc) xs X7.out (by have := HLX.out; omega))
          have he := HE0.out
          rw [he, hb0] at f2 f3
          have HX1 := HX0.out
          rw [he] at f4 HX1
          have HF1 := Lib.hid f1
          have HF3 := Lib.hid f3
          have hf4 : flushC xs ≠ [] := by intro e; rw [e] at f1; simp at f1
          have HF4 := Lib.hid f4
          rw [f2] at I3
          have S1 := fun W h => Lib.hid (sReportIn_any W (.slice (some ⟨xb, xo, none⟩) 71 xc) xs b h)
          have J1 := fun W u h => Lib.hid (iBufClear_any W u (flushC xs) b h (by omega) (by omega))
          rw [HF3.out] at J1
          clear f1 f2 f3 f4 HF3 HFD hf4
          generalize flushC xs = fs at *
          generalize reportInV xs b = rs at *
          go_wp2_with fail
          refine I3.out.mono ?_
          rintro e w8 ⟨z, l, rfl, hoz, hol, _, hb⟩
          have Z := Lib.hid hoz.ints
          have X8 := Lib.hid (X7.out.below hb)
          have B8 := Lib.hid (B7.out.trans (hb.mono B7.out.size))
          have HL := Lib.hid hol.arg
          clear hoz hol hb X7 B7 I3
          obtain ⟨zb, zo, zc, rfl, hy1, hy2, hy3, hy4⟩ := Z.out
          have Z' := Z
          have hz71 := HF1.out
          rw [hz71] at hy1 Z' ⊢
          clear hy4 Z hz71
          have E1 := fun W u h h' => Lib.hid (sSameReport_any W l u rs rs h h')
          rw [show sameRV rs rs = true from decide_eq_true rfl] at E1
          have cz := ints_cell Z'.out (Below.drew (Below.refl w8.heap.size w8)) 0 (by have := HF1.out; omega)
          have cx := ints_cell X8.out (Below.drew (Below.refl w8.heap.size w8)) 0 (by have := HLX.out; omega)
          rw [HF4.out] at cz
          rw [HE0.out] at cx
          have hw1 : IntKind.i64.wrap (z00 + 1) = z00 + 1 := by rw [IntKind.wrap_i64]; omega
          have hw2 : Int.tmod (z00 + 1) 281474976710656 = modW (z00 + 1) := Int.tmod_eq_emod_of_nonneg (by omega)
          generalize modW (z00 + 1) = zn at *
          have HS := Lib.hid (show w8.drew.cell? ⟨zb, zo, none⟩ = some (.int .i64 zn) ∧ w8.drew.cell? ⟨xb, xo, none⟩ = some (.int .i64 z00) ∧ NowH w8 ⟨zb, zo, none⟩ ⟨xb, xo, none⟩ zc xc fs xs l rs w8.drew from ⟨cz, cx, ⟨Z'.out.below (below_drew _ _), X8.out.below (below_drew _ _), HL.out.below (below_drew _ _), below_drew _ _⟩⟩)
          clear cz cx Z' X8 HL
          go_upto_region 18 with fail
          go_region_held3 (fun w' => w'.cell? ⟨zb, zo, none⟩ = some (.int .i64 zn) ∧ w'.cell? ⟨xb, xo, none⟩ = some (.int .i64 z00) ∧ NowH w8 ⟨zb, zo, none⟩ ⟨xb, xo, none⟩ zc xc fs xs l rs w')
            (first | (with_reducible exact HS.out) | assumption | (apply nowS_next; assumption; assumption))
            (first | (go_at_call 14; (with_reducible refine Calls.mono (Hid.out (S1 _ ?_)) ?_); (exact nowS_x (by assumption)); rintro e w' ⟨l5, rfl, ho, hb⟩) | (go_at_call 13; (with_reducible refine Calls.mono (Hid.out (E1 _ _ ?_ ?_)) ?_); (exact nowS_l (by assumption)); (exact OwnR.arg (by assumption)); rintro e w' ⟨rfl, hb⟩) | (go_at_call 15; (with_reducible refine Calls.mono (Hid.out (J1 _ _ ?_)) ?_); (exact nowS_z (by assumption)); rintro e w' ⟨rfl, hb⟩))
          all_goals (go_wp2_with fail; go_ret; exact ⟨rfl, B8.out.trans ((nowS_bel (by assumption)).mono B8.out.size)⟩)
    · skip
      clear hd0
      go_upto_region 11 with fail
      go_wp2_with fail
      refine (HF w5 V5'.out).out.mono ?_
      rintro e w6 ⟨rfl, hb⟩
      have X6 := Lib.hid (X5'.out.below hb)
      have V6 := Lib.hid (V5'.out.below hb)
      have B6 := Lib.hid (B5.out.trans (hb.mono B5.out.size))
      clear hb V5' B5 X5' HF hc0
      generalize fkS zs key = slot at *
      generalize fkK zs key = kk at *
      go_wp2_with fail
      go_loopw [14] (fun i wr => ∃ s : Nat, s ≤ 4 ∧ i = .int .i64 s ∧ Below w6.heap.size w6 wr) (fun i _ => 4 - (intOf i).toNat)
      case atStart => exact ⟨0, Nat.zero_le _, rfl, Below.refl _ _⟩
      case round =>
        obtain ⟨s, hs, rfl, hb⟩ := hrel
        have HBR := Lib.hid hb
        clear hb
        by_cases hlt : s < 4
        · by_cases hne : (s : Int) = slot
          · have hne' : ((s : Int) != slot) = false := by rw [bne_eq_false_iff_eq]; exact hne
            clear hne
            go_wp2_with fail
            go_roundw
            case rel => exact ⟨s + 1, by omega, by go_num, HBR.out⟩
            case measure => simp [intOf]; omega
          · have hne' : ((s : Int) != slot) = true := by rw [bne_iff_ne]; exact hne
            have K1 := fun W h => Lib.hid (iRowIn_any W (.slice (some ⟨xb, xo, none⟩) 71 xc) xs b (s : Int) h (by omega) (by omega) (by omega) (by omega))
            have K2 := fun W h => Lib.hid (sRowIn_any W (.slice (some ⟨vb, vo, none⟩) 71 vc) zs b (s : Int) h)
            rw [HROW.out s hlt hne] at K1
            clear hne
            generalize rowInV zs b s = r at *
            have hq := fun W => neq_same W r
            obtain ⟨rkey, rkind, rsum, rst, rlast, rn, rmn, rmx, rtotal, rdropped⟩ := r
            unfold R.v at K1 K2 hq
            simp only at K1 K2 hq
            go_wp2_with fail
            refine (K1 wr (X6.out.below HBR.out)).out.mono ?_
            rintro e u1 ⟨rfl, hb⟩
            have HB1 := Lib.hid (HBR.out.trans (hb.mono HBR.out.size))
            clear hb HBR
            go_wp2_with fail
            refine (K2 u1 (V6.out.below HB1.out)).out.mono ?_
            rintro e u2 ⟨rfl, hb⟩
            have HB2 := Lib.hid (HB1.out.trans (hb.mono HB1.out.size))
            clear hb HB1
            go_wp2_with fail
            go_roundw
            case rel => exact ⟨s + 1, by omega, by go_num, HB2.out⟩
            case measure => simp [intOf]; omega
        · have hs4 : decide ((s : Int) < 4) = false := by rw [decide_eq_false_iff_not]; omega
          have X7 := Lib.hid (X6.out.below HBR.out)
          have B7 := Lib.hid (B6.out.trans (HBR.out.mono B6.out.size))
          clear HBR V6 X6 B6
          obtain ⟨f1, f2, f3, f4⟩ := HFD.out
          have I3 := Lib.hid (iFlushNow_any wr (.slice (some ⟨xb, xo, none⟩) 71 xc) xs X7.out (by have := HLX.out; omega))
          have he := HE0.out
          rw [he, hb0] at f2 f3
          have HX1 := HX0.out
          rw [he] at f4 HX1
          have HF1 := Lib.hid f1
          have HF3 := Lib.hid f3
          have hf4 : flushC xs ≠ [] := by intro e; rw [e] at f1; simp at f1
          have HF4 := Lib.hid f4
          rw [f2] at I3
          have S1 := fun W h => Lib.hid (sReportIn_any W (.slice (some ⟨xb, xo, none⟩) 71 xc) xs b h)
          have J1 := fun W u h => Lib.hid (iBufClear_any W u (flushC xs) b h (by omega) (by omega))
          rw [HF3.out] at J1
          clear f1 f2 f3 f4 HF3 HFD hf4
          generalize flushC xs = fs at *
          generalize reportInV xs b = rs at *
          go_wp2_with fail
          refine I3.out.mono ?_
          rintro e w8 ⟨z, l, rfl, hoz, hol, _, hb⟩
          have Z := Lib.hid hoz.ints
          have X8 := Lib.hid (X7.out.below hb)
          have B8 := Lib.hid (B7.out.trans (hb.mono B7.out.size))
          have HL := Lib.hid hol.arg
          clear hoz hol hb X7 B7 I3
          obtain ⟨zb, zo, zc, rfl, hy1, hy2, hy3, hy4⟩ := Z.out
          have Z' := Z
          have hz71 := HF1.out
          rw [hz71] at hy1 Z' ⊢
          clear hy4 Z hz71
          have E1 := fun W u h h' => Lib.hid (sSameReport_any W l u rs rs h h')
          rw [show sameRV rs rs = true from decide_eq_true rfl] at E1
          have cz := ints_cell Z'.out (Below.drew (Below.refl w8.heap.size w8)) 0 (by have := HF1.out; omega)
          have cx := ints_cell X8.out (Below.drew (Below.refl w8.heap.size w8)) 0 (by have := HLX.out; omega)
          rw [HF4.out] at cz
          rw [HE0.out] at cx
          have hw1 : IntKind.i64.wrap (z00 + 1) = z00 + 1 := by rw [IntKind.wrap_i64]; omega
          have hw2 : Int.tmod (z00 + 1) 281474976710656 = modW (z00 + 1) := Int.tmod_eq_emod_of_nonneg (by omega)
          generalize modW (z00 + 1) = zn at *
          have HS := Lib.hid (show w8.drew.cell? ⟨zb, zo, none⟩ = some (.int .i64 zn) ∧ w8.drew.cell? ⟨xb, xo, none⟩ = some (.int .i64 z00) ∧ NowH w8 ⟨zb, zo, none⟩ ⟨xb, xo, none⟩ zc xc fs xs l rs w8.drew from ⟨cz, cx, ⟨Z'.out.below (below_drew _ _), X8.out.below (below_drew _ _), HL.out.below (below_drew _ _), below_drew _ _⟩⟩)
          clear cz cx Z' X8 HL
          go_upto_region 18 with fail
          go_region_held3 (fun w' => w'.cell? ⟨zb, zo, none⟩ = some (.int .i64 zn) ∧ w'.cell? ⟨xb, xo, none⟩ = some (.int .i64 z00) ∧ NowH w8 ⟨zb, zo, none⟩ ⟨xb, xo, none⟩ zc xc fs xs l rs w')
            (first | (with_reducible exact HS.out) | assumption | (apply nowS_next; assumption; assumption))
            (first | (go_at_call 14; (with_reducible refine Calls.mono (Hid.out (S1 _ ?_)) ?_); (exact nowS_x (by assumption)); rintro e w' ⟨l5, rfl, ho, hb⟩) | (go_at_call 13; (with_reducible refine Calls.mono (Hid.out (E1 _ _ ?_ ?_)) ?_); (exact nowS_l (by assumption)); (exact OwnR.arg (by assumption)); rintro e w' ⟨rfl, hb⟩) | (go_at_call 15; (with_reducible refine Calls.mono (Hid.out (J1 _ _ ?_)) ?_); (exact nowS_z (by assumption)); rintro e w' ⟨rfl, hb⟩))
          all_goals (go_wp2_with fail; go_ret; exact ⟨rfl, B8.out.trans ((nowS_bel (by assumption)).mono B8.out.size)⟩)

set_option maxRecDepth 100000 in
theorem contract (H : Type) (enc : TypeId × Value → H) (W : World) (base : Nat) (args : Array Value) (ds gs : List (DataW H)) (before : List MemPlace)
    (hval : ∀ (j : Nat) t v, Tryz.f3.params[j]? = some t → args[j]? = some v → Value.okWide Tryz.prog W .any base t v)
    (hW : DataW.Whole enc Tryz.prog Tryz.f3.params.toList Rows.fnNowSpec.vars false W args.toList ds gs before) (hL : laidMetH Tryz.prog Rows.fnNowRow.laid W) :
    Calls Tryz.prog 3 args W fun e W' => ∃ v, e = .returned v ∧ Rows.fnNowSpec.post enc Tryz.prog Tryz.f3 false true false false W args v W' := by
  have hW' := hW
  obtain ⟨p, q, hA0, hV, rfl, hfz, hnd⟩ := hW
  have hA : DataW.TrodAll enc Tryz.prog W 0 (fun _ => true) true Tryz.f3.params.toList args.toList ds p := hA0
  rw [Tryz.params3] at hA hval
  obtain ⟨v0, vs0, d0, ds0, p0, q0, hargs, rfl, rfl, h0, r0⟩ := trodAll_cons hA
  obtain ⟨rfl, rfl, rfl⟩ := trodAll_nil r0
  obtain rfl : args = #[v0] := by cases args; simp_all
  obtain ⟨rfl, rfl⟩ := trodVars_none hV
  obtain ⟨a0, len0, cap0, rfl⟩ := okWide_slice Tryz.underlying22 (hval 0 22 v0 rfl rfl)
  have k0 := h0
  have lt0 : ∀ x ∈ p0, x.block < W.heap.size := by obtain ⟨m, hm⟩ := k0; exact DataW.trod_lt m _ _ _ hm
  obtain ⟨z0, w0⟩ : ∃ zs, IsRow W a0 len0 cap0 zs := by
    obtain ⟨fuel, hf⟩ := h0
    rcases open_ints Tryz.underlying22 Tryz.underlying5 (by kernel_rfl) hf with ⟨hcs, _⟩ | ⟨x, l, c, zs, hcs, _, hl, hm, hz, _, hcell, hwz⟩
    · simp [Value.cells] at hcs
      obtain ⟨rfl, rfl, rfl⟩ := hcs
      exact ⟨[], .inl ⟨rfl, rfl, rfl, rfl⟩⟩
    · simp [Value.cells] at hcs
      obtain ⟨rfl, rfl, rfl⟩ := hcs
      exact ⟨zs, .inr ⟨_, rfl, hl, hm, by simpa using hz, hcell, hwz⟩⟩
  clear hA0
  refine (walk W a0 len0 cap0 z0 w0 ).mono fun e W' ⟨he, bel⟩ => ?_
  subst he
  exact ⟨_, rfl, _, _, _, [], _, [], hW', trodAll_mk1 (shut_bool Tryz.underlying4 _), (trodAll_cons_mk (Below.trod laidOut (by kernel_rfl) (of_decide_eq_true (by kernel_rfl)) k0 bel lt0) trodAll_mk0), rfl, bel.frame _, fun h => by cases h⟩

theorem laid_met (os : Os) : laidMet Tryz.prog Rows.fnNowRow.laid ((laidWorld os).forCall (fun _ _ => 0) ⟨#[], #[.slice none 0 0], []⟩).memory :=
  laidMet_of_run' 8 (by kernel_rfl) (by kernel_rfl)
theorem reads (os : Os) {H : Type} (enc : TypeId × Value → H) : ∃ places, DataW.whole enc Tryz.prog ((laidWorld os).forCall (fun _ _ => 0) ⟨#[], #[.slice none 0 0], []⟩).memory Tryz.f3.params.toList Rows.fnNowSpec.vars false #[Value.slice none 0 0].toList 8 = some ([.nil], [], places) :=
  ⟨[], by kernel_rfl⟩

set_option maxRecDepth 100000 in
theorem lifted (os : Os) (started : os.Started) (H : Type) (enc : TypeId × Value → H) (F : Stop.Interp) :
    ReturnsInHanded {} Tryz.checked os 3 .any ((OpenSpec.ofChange Rows.fnNowSpec).preRow enc Tryz.prog Tryz.f3 Rows.fnNowRow.domain false Rows.fnNowRow.laid) (((OpenSpec.ofChange Rows.fnNowSpec).at F).post enc Tryz.prog Tryz.f3 false true false false) := by
  obtain ⟨places, hx⟩ := reads os enc
  refine returnsInHanded_of_row (C := Tryz.checked) (s := OpenSpec.ofChange Rows.fnNowSpec) own started (by kernel_rfl) Tryz.func3
    (witness_row_at (enc := enc) (C := Tryz.checked) false (laidWorld os) #[.slice none 0 0] rfl (by kernel_rfl) (by kernel_rfl) (by kernel_rfl)
      (OpenSpec.preRow_of_cond 8 hx (by kernel_rfl) (fun k hk => by cases hk) (by kernel_rfl) (laid_met os))) ?_
  intro W base args ds gs before hval hW _ _ _ hL _ _
  exact contract H enc W base args ds gs before hval hW hL

theorem said : Rows.FnNowSaid :=
  OpenClaim.holds_of_cond 3 Tryz.f3 rfl rfl rfl rfl rfl rfl rfl ⟨rfl, rfl, rfl, rfl, rfl⟩ rfl rfl rfl rfl rfl (by kernel_rfl) Tryz.func3 (by kernel_rfl)
    (of_decide_eq_true (by kernel_rfl)) (by unfold Func.isWrapper; first | (rw [if_pos (by decide +kernel)]; kernel_rfl) | (rw [if_neg (by decide +kernel)]; exact ⟨rfl, rfl⟩))
    (fun os started H enc _ F => by rw [OpenClaim.pre_eq_preRow]; exact lifted os started H enc F)

theorem plain (f : FuncId) (fn : Func) (hf : Tryz.pinned.checked.prog.funcNamed Rows.fnNowRow.func = some f) (hfn : Tryz.pinned.checked.prog.funcs[f]? = some fn) :
    Rows.fnNowCard.stood.looks = Tryz.pinned.checked.prog.looks [] ∧ ∀ (j : Nat) t, fn.params[j]? = some t → Tryz.pinned.checked.prog.wantsStandIn t = false := by
  obtain rfl : f = 3 := Option.some.inj ((show Tryz.prog.funcNamed Rows.fnNowRow.func = some 3 by kernel_rfl).symm.trans hf) |>.symm
  obtain rfl : fn = Tryz.f3 := (Option.some.inj (Tryz.func3.symm.trans hfn)).symm
  refine ⟨by kernel_rfl, fun j t ht => ?_⟩
  rw [Tryz.params3] at ht
  have hm : t = 22 := by first | simpa using Array.mem_of_getElem? ht | (have h := Array.mem_of_getElem? ht; clear ht; simp at h; rcases h with h <;> subst h <;> simp)
  rcases hm with rfl
  · exact (show Tryz.prog.wantsStandIn 22 = false by kernel_rfl)

end Go.Proofs.YtmglidfnolmcaaaGreatDoor.fnNow
namespace Go.Proofs.YtmglidfnolmcaaaGreatDoor
theorem fnNow_holds : Rows.FnNowCardSaid :=
  Claim7.holds_tied_plain_at .later [] _ _ _ _ fnNow.said (fun _ h => by cases h) (by kernel_rfl) (fun _ h => by cases h) fnNow_row_tie rfl ⟨rfl, rfl⟩ (by kernel_rfl) rfl fnNow.plain (by kernel_rfl)
end Go.Proofs.YtmglidfnolmcaaaGreatDoor
