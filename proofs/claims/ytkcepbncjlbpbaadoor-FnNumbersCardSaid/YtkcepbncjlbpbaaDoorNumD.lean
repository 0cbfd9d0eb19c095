/-
  A case of the law on the encodings: the number drawn is at least 2^56.
-/
import Derived.Test.YtkcepbncjlbpbaaDoorNumK
namespace Go.Proofs.YtkcepbncjlbpbaaDoor
open Go.RowKit M
set_option linter.unusedVariables false
set_option maxRecDepth 100000 in
set_option maxHeartbeats 1600000 in
theorem num_D (w : World) (K : Code) (hk : CodeIn w K) (hl : K.len ≤ 1048576) (he : ErrsLaid w) (ht : Lib.TabIs Tryd.prog w "internal/strconv.uint64pow10" .u64 Lib.pow10Tab) (h0 : 72057594037927936 ≤ drawVarV K) :
    Calls Tryd.prog 3 #[.slice K.A K.len K.cap] w (Gives (.bool true) w) := by
  have HK := Lib.hid hk
  have HE := Lib.hid he
  have HT := Lib.hid ht
  have HL := Lib.hid hl
  have hbig : decide ((1048576 : Int) < (K.len : Int)) = false := by rw [decide_eq_false]; omega
  have B0 := Lib.hid (Below.refl w.heap.size w)
  have hts := drawHex_size K
  have hrs := Lib.hid (drawReadVar_size K)
  clear hk he ht hl
  generalize htail : drawHexV K = tail at *
  generalize hrv : drawReadVarV K = rv at *
  have HTAIL := Lib.hid htail
  have HRV := Lib.hid hrv
  clear htail hrv
  obtain ⟨n0, n1⟩ := numV_bd K (newS K)
  have hn : drawVarV K = numV K (newS K) := rfl
  rw [← hn] at n0 n1
  clear hn
  generalize hn : drawVarV K = n at *
  have HN0 := Lib.hid hn
  clear hn
  have C4 := fun W => Lib.hid (nVar_out n W (by omega))
  have C6 := fun W => Lib.hid (mFx_out n W n1 (by omega))
  have C9 := fun W h1 h2 => Lib.hid (nRd_out n W n0 n1 (by omega) h1 h2)
  go_enter Tryd.func3, Tryd.ntmps3
  go_wp2_with fail
  refine (nBig _ _ _ w).mono ?_
  rintro e w0 ⟨rfl, hb⟩
  have B1 := Lib.hid (B0.out.trans (hb.mono B0.out.size))
  clear hb
  go_wp2_with fail
  refine (drawVar_any w0 K (HK.out.below B1.out) HL.out).mono ?_
  rintro e w2 ⟨rfl, hb⟩
  have B2 := Lib.hid (B1.out.trans (hb.mono B1.out.size))
  clear hb
  go_wp2_with fail
  refine (drawHex_any w2 K (HK.out.below B2.out) HL.out).mono ?_
  rintro e w3 ⟨rfl, hb⟩
  have B3 := Lib.hid (B2.out.trans (hb.mono B2.out.size))
  clear hb
  rw [HTAIL.out]
  rw [HN0.out]
  have x0 : decide (0 ≤ n) = true := by rw [decide_eq_true]; omega
  have xp0 : 0 ≤ n := by omega
  have x1 : decide (n ≤ 562949953421311) = false := by rw [decide_eq_false]; omega
  have xp1 : ¬ (n ≤ 562949953421311) := by omega
  go_wp2_with fail
  refine ((C4 w3).out).mono ?_
  rintro e w4 ⟨rfl, hb⟩
  have B4 := Lib.hid (B3.out.trans (hb.mono B3.out.size))
  clear hb
  go_wp2_with fail
  refine (nRv_any _ w4 (empty_size hts)).mono ?_
  rintro e w5 ⟨rfl, hb⟩
  have B5 := Lib.hid (B4.out.trans (hb.mono B4.out.size))
  clear hb
  go_wp2_with fail
  refine ((C6 w5).out).mono ?_
  rintro e w6 ⟨rfl, hb⟩
  have B6 := Lib.hid (B5.out.trans (hb.mono B5.out.size))
  clear hb
  clear x0 xp0 x1 xp1
  have y0 : decide (n < 0) = false := by rw [decide_eq_false]; omega
  have yp0 : ¬ (n < 0) := by omega
  have y1 : decide ((72057594037927936 : Int) ≤ n) = true := by rw [decide_eq_true]; omega
  have yp1 : (72057594037927936 : Int) ≤ n := by omega
  go_wp2_with fail
  refine (nRf_any _ w6 hts).mono ?_
  rintro e w7 ⟨y, b, rfl, hb⟩
  have B7 := Lib.hid (B6.out.trans (hb.mono B6.out.size))
  clear hb
  go_wp2_with fail
  refine (nDec _ w7 n0 n1 (tab_below B7.out HT.out)).mono ?_
  rintro e w8 ⟨rfl, hb⟩
  have B8 := Lib.hid (B7.out.trans (hb.mono B7.out.size))
  clear hb
  clear y0 yp0 y1 yp1
  have z0 : decide ((-1000000000 : Int) < n) = true := by rw [decide_eq_true]; omega
  have zp0 : (-1000000000 : Int) < n := by omega
  have z1 : decide (n < 1000000000) = false := by rw [decide_eq_false]; omega
  have zp1 : ¬ (n < 1000000000) := by omega
  go_wp2_with fail
  refine ((C9 w8 (errs_below B8.out HE.out) (tab_below B8.out HT.out)).out).mono ?_
  rintro e w9 ⟨rfl, hb⟩
  have B9 := Lib.hid (B8.out.trans (hb.mono B8.out.size))
  clear hb
  go_wp2_with fail
  refine (nHex tail w9 hts).mono ?_
  rintro e w10 ⟨rfl, hb⟩
  have B10 := Lib.hid (B9.out.trans (hb.mono B9.out.size))
  clear hb
  clear z0 zp0 z1 zp1
  go_wp2_with fail
  refine (nUnhex tail w10 hts).mono ?_
  rintro e w11 ⟨rfl, hb⟩
  have B11 := Lib.hid (B10.out.trans (hb.mono B10.out.size))
  clear hb
  go_wp2_with fail
  refine (drawReadVar_any w11 K (HK.out.below B11.out) HL.out).mono ?_
  rintro e w12 ⟨rfl, hb⟩
  have B12 := Lib.hid (B11.out.trans (hb.mono B11.out.size))
  clear hb
  rw [HRV.out]
  go_wp2_with fail
  refine (nRv_any rv w12 hrs.out).mono ?_
  rintro e w13 ⟨rfl, hb⟩
  have B13 := Lib.hid (B12.out.trans (hb.mono B12.out.size))
  clear hb
  by_cases hk0 : rvK rv.data.toList = 0
  · have hk1 : ((rvK rv.data.toList : Int) == 0) = true := by rw [beq_iff_eq]; omega
    have hk2 : (rvK rv.data.toList : Int) = 0 := by omega
    clear hk0
    go_wp2_with fail
    go_ret
    exact ⟨rfl, B13.out⟩
  · have hk1 : ((rvK rv.data.toList : Int) == 0) = false := by rw [beq_eq_false_iff_ne]; omega
    obtain ⟨g1, g7, gl, gg⟩ := rv_good hk0
    have HN := Lib.hid (rvN_of (l := rv.data.toList) rfl hk0)
    rw [len_data] at gl
    have hpos : (0 : Int) < (rvK rv.data.toList : Int) := by omega
    have hle : (rvK rv.data.toList : Int) ≤ (rv.size : Int) := by omega
    have hk2 : ¬ (rvK rv.data.toList : Int) = 0 := by omega
    have hle2 : decide (rvK rv.data.toList ≤ rv.size) = true := by simp; omega
    have HG := Lib.hid ((good_eq rv (rvK rv.data.toList)).trans gg)
    have HM := Lib.hid (val_take_le rv.data.toList (rvK rv.data.toList) g7)
    have hp2 : decide (0 < rvK rv.data.toList) = true := by simp; omega
    clear hk0 gg g7
    go_wp2_with fail
    refine (drawReadVar_any w13 K (HK.out.below B13.out) HL.out).mono ?_
    rintro e w14 ⟨rfl, hb⟩
    have B14 := Lib.hid (B13.out.trans (hb.mono B13.out.size))
    clear hb
    rw [HRV.out]
    go_wp2_with fail
    refine (drawReadVar_any w14 K (HK.out.below B14.out) HL.out).mono ?_
    rintro e w15 ⟨rfl, hb⟩
    have B15 := Lib.hid (B14.out.trans (hb.mono B14.out.size))
    clear hb
    rw [HRV.out]
    rw [HN.out]
    go_wp2_with fail
    refine (nVar_in _ w15 HM.out).mono ?_
    rintro e w16 ⟨rfl, hb⟩
    have B16 := Lib.hid (B15.out.trans (hb.mono B15.out.size))
    clear hb
    go_wp2_with fail
    refine (drawReadVar_any w16 K (HK.out.below B16.out) HL.out).mono ?_
    rintro e w17 ⟨rfl, hb⟩
    have B17 := Lib.hid (B16.out.trans (hb.mono B16.out.size))
    clear hb
    rw [HRV.out]
    have hgg := HG.out
    go_wp2_with fail
    go_ret
    exact ⟨ret_bool (by first | rfl | exact HG.out), B17.out⟩
end Go.Proofs.YtkcepbncjlbpbaaDoor
