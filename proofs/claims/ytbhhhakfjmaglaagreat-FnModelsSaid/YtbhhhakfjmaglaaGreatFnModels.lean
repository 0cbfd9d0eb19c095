/-
  FnModels: what ModelDo makes of a drawn model is what its model makes, and the promises of chapter 13 hold of it: the law's call returns true and each argument reads afterwards as before, without any condition on the arguments.
-/
import Derived.Test.YtbhhhakfjmaglaaGreatRows
import Derived.Test.YtbhhhakfjmaglaaGreatModU
import Derived.Test.YtbhhhakfjmaglaaGreatZm
import Derived.WalkKit
import Derived.ProofKit
import Derived.OpenShut
import Derived.ShutString
import Derived.ChangeOld
import Derived.Below
namespace Go.Proofs.YtbhhhakfjmaglaaGreat.fnModels
open Go.ChangeShapes Go.WideShapes Go.ChangeAt Go.RowKit Go.Proofs.YtbhhhakfjmaglaaGreat.M
open Go.ChangeMaps (open_string shut_string)
set_option linter.unusedVariables false
set_option linter.unusedSimpArgs false

theorem own : ownKnob Tryz.prog.godebug = none := by kernel_rfl
theorem laidOut : laidOutB Tryz.prog = true := by kernel_rfl

set_option maxRecDepth 100000 in
set_option maxHeartbeats 4000000 in
theorem walk (w : World) (a0 : Option Addr) (len0 cap0 : Nat) (z0 : List Int) (w0 : IsRow w a0 len0 cap0 z0) :
    Calls Tryz.prog 3 #[.slice a0 len0 cap0] w fun e w' => e = .returned (.bool true) ∧ Below w.heap.size w w' := by
  have hk := CodeIn.of_row w0
  have hu := Tryz.underlying27
  have huo := Tryz.underlying29
  by_cases hb : (1048576 : Int) < (len0 : Int)
  · have hbig : decide ((1048576 : Int) < (len0 : Int)) = true := by rw [decide_eq_true]; omega
    clear hk w0
    go_enter Tryz.func3, Tryz.ntmps3
    go_wp2_with fail
    refine (nBig _ _ _ w).mono ?_
    rintro e w1 ⟨rfl, hb1⟩
    have B1 := Lib.hid hb1
    clear hb1
    go_wp2_with fail
    go_ret
    exact ⟨rfl, B1.out⟩
  have hbig : decide ((1048576 : Int) < (len0 : Int)) = false := by rw [decide_eq_false]; omega
  have hl : len0 ≤ 1048576 := by omega
  have HK := Lib.hid hk
  clear hk w0
  go_enter Tryz.func3, Tryz.ntmps3
  go_wp2_with fail
  refine (nBig _ _ _ w).mono ?_
  rintro e w1 ⟨rfl, hb1⟩
  have B1 := Lib.hid hb1
  have HK1 := Lib.hid (HK.out.below hb1)
  clear hb1 HK
  go_wp2_with fail
  refine (drawModelDo_some w1 ⟨a0, len0, cap0, z0⟩ HK1.out hl).mono ?_
  rintro e w2 ⟨m, k, r, o, hf, hln, ho, rfl, hm, hb2⟩
  have B := Lib.hid (B1.out.trans (hb2.mono B1.out.size))
  have hks : m.keys.length ≤ 1048576 := by omega
  have hrs : m.rows.length ≤ 1048576 := by omega
  have HI := fun W B k r (h : MoOwn W B m k r) (hB : B ≤ W.heap.size) => Lib.hid (iModelDo_any W B m o k r h hB hks hrs hf ho)
  have HS := fun W B k r (h : MoOwn W B m k r) (hB : B ≤ W.heap.size) => Lib.hid (sModelDo_any W B m o k r h hB hks hrs hf ho.key)
  have HOM := fun W k r (h : MoIn W m k r) => Lib.hid (sModelOk_any W m k r h hf)
  have HIM := fun W k r (h : MoIn W m k r) => Lib.hid (iModelOk_any W m k r h hf)
  have HOO := fun W => Lib.hid (sOpOk_any W o ho.key)
  have hl2 := mDo_100 o 200 (by decide) (show m.keys.length ≤ 200 by omega) (show m.rows.length ≤ 200 by omega)
  have hfp := mDo_fit hf ho
  have HXF := fun W B k r (h : MoOwn W B (mDoV m o).1 k r) (hB : B ≤ W.heap.size) => Lib.hid (iModelDo_any W B (mDoV m o).1 flushOp k r h hB (by omega) (by omega) hfp ⟨inW_i (by decide), by show (0 : Nat) ≤ maxLen; exact Nat.zero_le _, inW_i (by decide), inW_i (by decide)⟩)
  have HXO := fun W k r (h : MoIn W (mDoV m o).1 k r) => Lib.hid (sModelOk_any W (mDoV m o).1 k r h hfp)
  have HXI := fun W k r (h : MoIn W (mDoV m o).1 k r) => Lib.hid (iModelOk_any W (mDoV m o).1 k r h hfp)
  have HRI := fun W k r (h : MoIn W (mDoV m o).1 k r) => Lib.hid (iModelRow_any W (mDoV m o).1 k r o.key h)
  have HRS := fun W k r (h : MoIn W (mDoV m o).1 k r) => Lib.hid (sModelRow_any W (mDoV m o).1 k r o.key h)
  have HKI := fun W k r s (h : MoIn W (mDoV m o).1 k r) => Lib.hid (iModelKind_any W (mDoV m o).1 k r s h)
  have HNO := Lib.hid (fun h => mDo_no (m := m) (o := o) h)
  have HOK := Lib.hid (fun h => mDo_ok (m := m) (o := o) h)
  have HFL := Lib.hid (fun h => mDo_flush (m := (mDoV m o).1) h)
  have HTO := Lib.hid (fun h h2 h3 => mDo_told (m := m) (o := o) h h2 h3)
  have hoc := mo_one2 hm
  have HM := Lib.hid hm
  have HB12 := Lib.hid hb2.size
  have HKL := Lib.hid hks
  clear hm hb2 HK1 B1 hl2 hfp hks hrs hf hln ho
  generalize mDoV m o = pw at *
  generalize hmo : modelOkV m = mo at *
  have HMO := Lib.hid hmo
  clear hmo
  generalize hoo : opOkV o = oo at *
  have HOOV := Lib.hid hoo
  clear hoo
  unfold O.v at HI HS HOO HXF ⊢
  simp only at *
  go_upto_region 4 with ((with_reducible show wpList _ _ _ _ _ _); first | refine wpList_store_row rfl 27 _ _ rfl (w2.heap.size) #[k, r] rfl rfl 27 _ ((Blk.new w2 w2.heap.size 27 #[.slice none 0 0, .slice none 0 0] rfl).alloc (.cells #[.int .i64 0, .string ⟨#[]⟩, .int .i64 0, .int .i64 0] 29)) (by kernel_rfl) rfl hoc ?_ | refine wpList_store_row rfl 29 _ _ rfl (w2.heap.size + 1) #[.int .i64 o.kind, .string o.key, .int .i64 o.what, .int .i64 o.val] rfl rfl 29 _ (show Blk _ (w2.heap.size + 1) 29 #[.int .i64 0, .string ⟨#[]⟩, .int .i64 0, .int .i64 0] from (setRow_other _ w2.heap.size (w2.heap.size + 1) _ (by omega)).trans (Blk.new _ _ _ _ (by simp [go_sem]))) (by kernel_rfl) rfl (by simp [Value.oneCell']) ?_)
  refine wp_gen (fun X => ∃ gm go, (gm = w2.heap.size ∧ go = w2.heap.size + 1) ∧ Blk X gm 27 #[k, r] ∧ Blk X go 29 #[.int .i64 o.kind, .string o.key, .int .i64 o.what, .int .i64 o.val] ∧ MoOwn X w1.heap.size m k r ∧ Below w.heap.size w X) ?h0 ?_
  case h0 =>
    have hn := (Blk.new w2 w2.heap.size 27 #[.slice none 0 0, .slice none 0 0] rfl).alloc (.cells #[.int .i64 0, .string ⟨#[]⟩, .int .i64 0, .int .i64 0] 29)
    have hn2 : Blk ((w2.alloc (.cells #[.slice none 0 0, .slice none 0 0] 27)).alloc (.cells #[.int .i64 0, .string ⟨#[]⟩, .int .i64 0, .int .i64 0] 29)) (w2.heap.size + 1) 29 #[.int .i64 0, .string ⟨#[]⟩, .int .i64 0, .int .i64 0] := Blk.new _ _ _ _ (by simp [go_sem])
    have hn3 := (setRow_other _ w2.heap.size (w2.heap.size + 1) #[k, r] (by omega)).trans hn2
    have hbb := (below_oneM w2 (.cells #[.slice none 0 0, .slice none 0 0] 27)).alloc (by simp [go_sem]) (.cells #[.int .i64 0, .string ⟨#[]⟩, .int .i64 0, .int .i64 0] 29)
    exact ⟨_, _, ⟨rfl, rfl⟩, (setRow_other _ (w2.heap.size + 1) w2.heap.size _ (by omega)).trans (setRow_heap _ _ _ _ _ _ hn), setRow_heap _ _ _ _ _ _ hn3, ((HM.out.below hbb).farT hn (setRow_grown _ _ _)).farB hn3 (by decide) (by decide) (setRow_grown _ _ _), below_setRow' (below_setRow' (B.out.trans (hbb.mono B.out.size)) B.out.size _) (Nat.le_trans B.out.size (Nat.le_succ _)) _⟩
  rintro w3 ⟨gm, go, ⟨hgm, hgo⟩, b1, b2, hm, hb⟩
  rw [← hgo, ← hgm]
  have HB1 := Lib.hid (show w1.heap.size ≤ w3.heap.size from by have := b2.lt; have := HB12.out; omega)
  clear HB12
  clear hgm hgo B HM hoc
  have G1 := Lib.hid b1; have G2 := Lib.hid b2; have HM := Lib.hid hm; have B := Lib.hid hb
  clear b1 b2 hm hb
  go_wp2_with ((with_reducible show wpList _ _ _ _ _ _); first | refine wpList_load_row rfl 27 _ rfl (gm) rfl 27 #[k, r] (0, 0) _ G1.out hu rfl (by kernel_rfl) ?_ | refine wpList_load_row rfl 29 _ rfl (go) rfl 29 #[.int .i64 o.kind, .string o.key, .int .i64 o.what, .int .i64 o.val] (0, 0) _ G2.out huo rfl (by kernel_rfl) ?_)
  refine (HI _ _ _ _ HM.out HB1.out).out.mono ?_
  rintro e w4 ⟨kx, rx, ox, rfl, hm, hr, ha, hb⟩
  have hoc := mo_one2 hm
  have HP := Lib.hid (show Blk w4 gm 27 #[k, r] ∧ Blk w4 go 29 #[.int .i64 o.kind, .string o.key, .int .i64 o.what, .int .i64 o.val] ∧ MoOwn w4 w1.heap.size m k r ∧ Below w.heap.size w w4 from ⟨G1.out.below hb, G2.out.below hb, HM.out.below hb, B.out.trans (hb.mono B.out.size)⟩)
  have HX := Lib.hid (show MoOwn w4 w3.heap.size pw.1 kx rx ∧ OwnR w4 w3.heap.size ox pw.2.2 from ⟨hm, hr⟩)
  have HB3 := Lib.hid hb.size
  clear hm hr ha hb G1 G2 HM B
  go_upto_region 5 with ((with_reducible show wpList _ _ _ _ _ _); first | refine wpList_store_row rfl 27 _ _ rfl (w4.heap.size) #[kx, rx] rfl rfl 27 _ (Blk.new w4 w4.heap.size 27 #[.slice none 0 0, .slice none 0 0] rfl) (by kernel_rfl) rfl hoc ?_)
  refine wp_gen (fun X => ∃ gx, gx = w4.heap.size ∧ ModW w gm go gx w1.heap.size w3.heap.size m o pw k r kx rx ox X ∧ w4.heap.size ≤ X.heap.size) ?h0 ?_
  case h0 =>
    have hb := below_oneM w4 (.cells #[.slice none 0 0, .slice none 0 0] 27)
    have hn := Blk.new w4 w4.heap.size 27 #[.slice none 0 0, .slice none 0 0] rfl
    have h1 := HP.out.1.lt
    have h2 := HP.out.2.1.lt
    exact ⟨_, rfl, ⟨(setRow_other _ w4.heap.size gm _ (by omega)).trans (HP.out.1.below hb), (setRow_other _ w4.heap.size go _ (by omega)).trans (HP.out.2.1.below hb), setRow_heap _ _ _ _ _ _ hn, (HP.out.2.2.1.below hb).farT hn (setRow_grown _ _ _), (HX.out.1.below hb).farT hn (setRow_grown _ _ _), (HX.out.2.below hb).kept (setRow_grown _ _ _) (own_ne (HX.out.2.below hb) hn (by decide)), below_setRow' (HP.out.2.2.2.trans (hb.mono HP.out.2.2.2.size)) HP.out.2.2.2.size _⟩, by rw [setRow_size]; exact hb.size⟩
  rintro w5 ⟨gx, hgx, h, hsz⟩
  rw [← hgx]
  have H := Lib.hid h
  have HB5 := Lib.hid (show w1.heap.size ≤ w5.heap.size ∧ w3.heap.size ≤ w5.heap.size from ⟨Nat.le_trans HB1.out (Nat.le_trans HB3.out hsz), Nat.le_trans HB3.out hsz⟩)
  clear hgx h hsz HP HX hoc HI HB1 HB3
  go_wp2_with ((with_reducible show wpList _ _ _ _ _ _); first | refine wpList_load_row rfl 27 _ rfl (gm) rfl 27 #[k, r] (0, 0) _ H.out.bm hu rfl (by kernel_rfl) ?_ | refine wpList_load_row rfl 29 _ rfl (go) rfl 29 #[.int .i64 o.kind, .string o.key, .int .i64 o.what, .int .i64 o.val] (0, 0) _ H.out.bo huo rfl (by kernel_rfl) ?_)
  refine (HS _ _ _ _ H.out.mm HB5.out.1).out.mono ?_
  rintro e w6 ⟨ky, ry, oy, rfl, hm, hr, ha, hb⟩
  have hoc := mo_one2 hm
  replace H := Lib.hid (H.out.below hb)
  have HY := Lib.hid (show MoOwn w6 w5.heap.size pw.1 ky ry ∧ OwnR w6 w5.heap.size oy pw.2.2 from ⟨hm, hr⟩)
  have HS6 := Lib.hid (show w3.heap.size ≤ w6.heap.size from Nat.le_trans HB5.out.2 hb.size)
  clear hm hr ha hb HB5 HS
  go_upto_region 6 with ((with_reducible show wpList _ _ _ _ _ _); first | refine wpList_store_row rfl 27 _ _ rfl (w6.heap.size) #[ky, ry] rfl rfl 27 _ (Blk.new w6 w6.heap.size 27 #[.slice none 0 0, .slice none 0 0] rfl) (by kernel_rfl) rfl hoc ?_)
  refine wp_gen (fun X => ∃ gy, gy = w6.heap.size ∧ ModW w gm go gx w1.heap.size w3.heap.size m o pw k r kx rx ox X ∧ (Blk X gy 27 #[ky, ry] ∧ MoOwn X w5.heap.size pw.1 ky ry ∧ OwnR X w5.heap.size oy pw.2.2) ∧ w6.heap.size ≤ X.heap.size) ?h0 ?_
  case h0 =>
    have hb := below_oneM w6 (.cells #[.slice none 0 0, .slice none 0 0] 27)
    have hn := Blk.new w6 w6.heap.size 27 #[.slice none 0 0, .slice none 0 0] rfl
    have h1 := H.out.bm.lt
    have h2 := H.out.bo.lt
    have h3 := H.out.bx.lt
    have H2 := H.out.below hb
    exact ⟨_, rfl, ⟨(setRow_other _ w6.heap.size gm _ (by omega)).trans H2.bm, (setRow_other _ w6.heap.size go _ (by omega)).trans H2.bo, (setRow_other _ w6.heap.size gx _ (by omega)).trans H2.bx, H2.mm.farT hn (setRow_grown _ _ _), H2.mx.farT hn (setRow_grown _ _ _), H2.rx.kept (setRow_grown _ _ _) (own_ne H2.rx hn (by decide)), below_setRow' H2.b H.out.b.size _⟩, ⟨setRow_heap _ _ _ _ _ _ hn, (HY.out.1.below hb).farT hn (setRow_grown _ _ _), (HY.out.2.below hb).kept (setRow_grown _ _ _) (own_ne (HY.out.2.below hb) hn (by decide))⟩, by rw [setRow_size]; exact hb.size⟩
  rintro w7 ⟨gy, hgy, h, ⟨y1, y2, y3⟩, hsz⟩
  rw [← hgy]
  clear HY H hoc
  have H := Lib.hid h
  have GY := Lib.hid y1; have MY := Lib.hid y2; have RY := Lib.hid y3
  have HB3 := Lib.hid (show w3.heap.size ≤ w7.heap.size from Nat.le_trans HS6.out hsz)
  clear hgy h hsz y1 y2 y3 HS6
  go_wp2_with ((with_reducible show wpList _ _ _ _ _ _); first | refine wpList_load_rowU 27 _ rfl (gx) rfl 27 #[kx, rx] (0, 0) _ H.out.bx hu rfl (by kernel_rfl) rfl ?_ | refine wpList_load_rowU 27 _ rfl (gy) rfl 27 #[ky, ry] (0, 0) _ GY.out hu rfl (by kernel_rfl) rfl ?_ | refine wpList_load_row rfl 27 _ rfl (gx) rfl 27 #[kx, rx] (0, 0) _ H.out.bx hu rfl (by kernel_rfl) ?_ | refine wpList_load_row rfl 27 _ rfl (gy) rfl 27 #[ky, ry] (0, 0) _ GY.out hu rfl (by kernel_rfl) ?_)
  refine (same_mo _ pw.1 kx rx ky ry H.out.mx.win MY.out.win).mono ?_
  rintro e w8 ⟨rfl, hb⟩
  replace H := Lib.hid (H.out.below hb); replace RY := Lib.hid (RY.out.below hb); replace HB3 := Lib.hid (Nat.le_trans HB3.out hb.size)
  clear hb GY MY
  go_wp2_with fail
  refine (same_rows _ ox oy pw.2.2 H.out.rx.arg RY.out.arg).mono ?_
  rintro e w9 ⟨rfl, hb⟩
  replace H := Lib.hid (H.out.below hb); replace HB3 := Lib.hid (Nat.le_trans HB3.out hb.size)
  clear hb RY
  go_wp2_with ((with_reducible show wpList _ _ _ _ _ _); first | refine wpList_load_row rfl 27 _ rfl (gm) rfl 27 #[k, r] (0, 0) _ H.out.bm hu rfl (by kernel_rfl) ?_)
  refine (HOM _ _ _ H.out.mm.win).out.mono ?_
  rintro e w10 ⟨rfl, hb⟩
  replace H := Lib.hid (H.out.below hb); replace HB3 := Lib.hid (Nat.le_trans HB3.out hb.size)
  clear hb
  cases mo with
  | false =>
    have HC := Lib.hid (HNO.out (fun q => by cases q.1))
    have hc1 : (pw.2.1 == 1) = true := by rw [HC.out]; rfl
    have hbb : (false == false) = true := rfl
    go_upto_region 9 with fail
    have HSD := Lib.hid (show ModW w gm go gx w1.heap.size w3.heap.size m o pw k r kx rx ox w10.drew from H.out.below (below_drew _ _))
    have HCL := (⟨HSD.out⟩ : HoldsC (fun W => ModW w gm go gx w1.heap.size w3.heap.size m o pw k r kx rx ox W) _)
    have hall : ∀ p : Prop, (∀ W, HoldsC (fun W => ModW w gm go gx w1.heap.size w3.heap.size m o pw k r kx rx ox W) W → p) ↔ p := fun p => ⟨fun h => h _ HCL, fun h _ _ => h⟩
    refine wp_region_wq (C := HoldsC (fun W => ModW w gm go gx w1.heap.size w3.heap.size m o pw k r kx rx ox W)) (by kernel_rfl) (by kernel_rfl) HCL ?_
    repeat (refine WQ.step (fun K hK => ?_); go_simp; first | (refine hK _ ?_; clear hK K) | (apply Exists.intro; refine ⟨fun W hW => ?_, hK _ ?_⟩; (focus (first | (go_at_call 14; (with_reducible refine Calls.mono (Hid.out (HIM _ _ _ hW.out.mm.win)) ?_); rintro e w' ⟨rfl, hb'⟩; exact ⟨rfl, ⟨hW.out.below hb'⟩⟩) | (go_at_call 12; (with_reducible refine Calls.mono (Hid.out (HOM _ _ _ hW.out.mm.win)) ?_); rintro e w' ⟨rfl, hb'⟩; exact ⟨rfl, ⟨hW.out.below hb'⟩⟩) | exact rfl | (obtain hMW := hW.out; have p0 := hMW.bm.get 0; have p1 := hMW.bm.get 1; simp at p0 p1; go_simp; rfl))); clear hK K))
    refine WQ.nil ?_
    intro W hW
    obtain hMW := hW.out; have p0 := hMW.bm.get 0; have p1 := hMW.bm.get 1; simp at p0 p1
    clear hall HCL
    have HE := Lib.hid hMW.b
    clear hMW hW HSD H p0 p1
    go_wp2_with fail
    go_ret
    exact ⟨rfl, HE.out⟩
  | true =>
    go_wp2_with ((with_reducible show wpList _ _ _ _ _ _); first | refine wpList_load_rowU 29 _ rfl (go) rfl 29 #[.int .i64 o.kind, .string o.key, .int .i64 o.what, .int .i64 o.val] (0, 0) _ H.out.bo huo rfl (by kernel_rfl) rfl ?_ | refine wpList_load_row rfl 29 _ rfl (go) rfl 29 #[.int .i64 o.kind, .string o.key, .int .i64 o.what, .int .i64 o.val] (0, 0) _ H.out.bo huo rfl (by kernel_rfl) ?_)
    refine (HOO _).out.mono ?_
    rintro e w11 ⟨rfl, hb⟩
    replace H := Lib.hid (H.out.below hb); replace HB3 := Lib.hid (Nat.le_trans HB3.out hb.size)
    clear hb
    cases oo with
    | false =>
      have HC := Lib.hid (HNO.out (fun q => by cases q.2))
      have hc1 : (pw.2.1 == 1) = true := by rw [HC.out]; rfl
      have hbb : (true == true) = true := rfl
      go_upto_region 9 with fail
      have HSD := Lib.hid (show ModW w gm go gx w1.heap.size w3.heap.size m o pw k r kx rx ox w11.drew from H.out.below (below_drew _ _))
      have HCL := (⟨HSD.out⟩ : HoldsC (fun W => ModW w gm go gx w1.heap.size w3.heap.size m o pw k r kx rx ox W) _)
      have hall : ∀ p : Prop, (∀ W, HoldsC (fun W => ModW w gm go gx w1.heap.size w3.heap.size m o pw k r kx rx ox W) W → p) ↔ p := fun p => ⟨fun h => h _ HCL, fun h _ _ => h⟩
      refine wp_region_wq (C := HoldsC (fun W => ModW w gm go gx w1.heap.size w3.heap.size m o pw k r kx rx ox W)) (by kernel_rfl) (by kernel_rfl) HCL ?_
      repeat (refine WQ.step (fun K hK => ?_); go_simp; first | (refine hK _ ?_; clear hK K) | (apply Exists.intro; refine ⟨fun W hW => ?_, hK _ ?_⟩; (focus (first | (go_at_call 14; (with_reducible refine Calls.mono (Hid.out (HIM _ _ _ hW.out.mm.win)) ?_); rintro e w' ⟨rfl, hb'⟩; exact ⟨rfl, ⟨hW.out.below hb'⟩⟩) | (go_at_call 12; (with_reducible refine Calls.mono (Hid.out (HOM _ _ _ hW.out.mm.win)) ?_); rintro e w' ⟨rfl, hb'⟩; exact ⟨rfl, ⟨hW.out.below hb'⟩⟩) | exact rfl | (obtain hMW := hW.out; have p0 := hMW.bm.get 0; have p1 := hMW.bm.get 1; simp at p0 p1; go_simp; rfl))); clear hK K))
      refine WQ.nil ?_
      intro W hW
      obtain hMW := hW.out; have p0 := hMW.bm.get 0; have p1 := hMW.bm.get 1; simp at p0 p1
      clear hall HCL
      have HE := Lib.hid hMW.b
      clear hMW hW HSD H p0 p1
      go_wp2_with fail
      go_ret
      exact ⟨rfl, HE.out⟩
    | true =>
      have HV := Lib.hid (HOK.out trivial)
      obtain ⟨A, ca, rfl⟩ := OwnF.shape H.out.mm.keys
      obtain ⟨Ar, nr, cr, rfl⟩ := own_slice H.out.mm.rows
      obtain ⟨Ax, nx, cx, rfl⟩ := own_slice H.out.mx.keys
      obtain ⟨Ay, hln, cy, hsy⟩ : ∃ A n c, rx = .slice A n c := own_slice H.out.mx.rows
      subst hsy
      clear HNO HOM HIM HOO HOK
      go_wp2_with fail
      go_loopw [11] (fun i wr => ∃ j : Nat, i = .int .i64 j ∧ j ≤ m.keys.length ∧ ModW w gm go gx w1.heap.size w3.heap.size m o pw (.slice A m.keys.length ca) (.slice Ar nr cr) (.slice Ax nx cx) (.slice Ay hln cy) ox wr ∧ w3.heap.size ≤ wr.heap.size) (fun i _ => m.keys.length - (intOf i).toNat)
      case atStart => exact ⟨0, rfl, Nat.zero_le _, H.out, HB3.out⟩
      case round =>
        obtain ⟨j, rfl, hj, h, hsz⟩ := hrel
        clear H HB3
        have H := Lib.hid h
        have q0 := h.bm.get 0
        simp at q0
        clear h
        by_cases hlt : j < m.keys.length
        · have hltz : (j : Int) < (m.keys.length : Int) := by omega
          have HLT := Lib.hid hlt
          have hkl := HKL.out
          obtain ⟨b, off, e, hbl, hc⟩ := recs_cells (OwnF.arg H.out.mm.keys sizeKRow zeroKR) (by omega)
          replace hc := hc j hlt
          subst e
          have HKJ := Lib.hid (show mKindV (m.keys.getD j zeroKR).key pw.1.keys = (m.keys.getD j zeroKR).kind from HV.out.2 _ (getD_memK hlt))
          have HCJ := Lib.hid hc
          have HBJ := Lib.hid hbl
          have HKK := fun W k r (h : MoIn W pw.1 k r) => Lib.hid (show Calls Tryz.prog 15 #[.agg #[k, r], .string (m.keys.getD j zeroKR).key] W (Gives (.int .i64 (m.keys.getD j zeroKR).kind) W) from by rw [← HKJ.out]; exact (HKI W k r _ h).out)
          clear hc hbl HKJ
          generalize m.keys.getD j zeroKR = kj at *
          obtain ⟨kkey, kkind⟩ := kj
          simp only at *
          go_upto_region 13 with fail
          have HSD := Lib.hid (show Below wr.heap.size wr wr.drew ∧ ModW w gm go gx w1.heap.size w3.heap.size m o pw (.slice (some ⟨b, off, none⟩) m.keys.length ca) (.slice Ar nr cr) (.slice Ax nx cx) (.slice Ay hln cy) ox wr.drew from ⟨below_drew _ _, H.out.below (below_drew _ _)⟩)
          have HCL := (⟨HSD.out⟩ : HoldsC (fun W => Below wr.heap.size wr W ∧ ModW w gm go gx w1.heap.size w3.heap.size m o pw (.slice (some ⟨b, off, none⟩) m.keys.length ca) (.slice Ar nr cr) (.slice Ax nx cx) (.slice Ay hln cy) ox W) _)
          have hall : ∀ p : Prop, (∀ W, HoldsC (fun W => Below wr.heap.size wr W ∧ ModW w gm go gx w1.heap.size w3.heap.size m o pw (.slice (some ⟨b, off, none⟩) m.keys.length ca) (.slice Ar nr cr) (.slice Ax nx cx) (.slice Ay hln cy) ox W) W → p) ↔ p := fun p => ⟨fun h => h _ HCL, fun h _ _ => h⟩
          refine wp_region_wq (C := HoldsC (fun W => Below wr.heap.size wr W ∧ ModW w gm go gx w1.heap.size w3.heap.size m o pw (.slice (some ⟨b, off, none⟩) m.keys.length ca) (.slice Ar nr cr) (.slice Ax nx cx) (.slice Ay hln cy) ox W)) (by kernel_rfl) (by kernel_rfl) HCL ?_
          repeat (refine WQ.step (fun K hK => ?_); go_simp; first | (refine hK _ ?_; clear hK K) | (apply Exists.intro; refine ⟨fun W hW => ?_, hK _ ?_⟩; (focus (first | (go_at_call 15; (with_reducible refine Calls.mono (Hid.out (HKK _ _ _ hW.out.2.mx.win)) ?_); rintro e w' ⟨rfl, hb'⟩; exact ⟨rfl, ⟨hW.out.1.trans (hb'.mono hW.out.1.size), hW.out.2.below hb'⟩⟩) | exact rfl | (obtain ⟨hBW, hMW⟩ := hW.out; have p0 := hMW.bm.get 0; have p1 := hMW.bx.get 0; have p2 := hMW.bx.get 1; simp at p0 p1 p2; obtain ⟨x0, x1⟩ := atKRow (HCJ.out.below HBJ.out hBW); simp only at x0 x1; go_simp; rfl))); clear hK K))
          refine WQ.nil ?_
          intro W hW
          obtain ⟨hBW, hMW⟩ := hW.out; have p0 := hMW.bm.get 0; have p1 := hMW.bx.get 0; have p2 := hMW.bx.get 1; simp at p0 p1 p2; obtain ⟨x0, x1⟩ := atKRow (HCJ.out.below HBJ.out hBW); simp only at x0 x1
          clear hall HCL
          have H2 := Lib.hid hMW
          have hs2 := Nat.le_trans hsz hBW.size
          clear hMW hW hBW HSD H p0 p1 p2 x0 x1 HKK HCJ HBJ q0
          go_wp2_with fail
          go_roundw
          case rel => exact ⟨j + 1, by go_num, HLT.out, H2.out, hs2⟩
          case measure => have := HLT.out; simp [intOf]; omega
        · have hltz : ¬ (j : Int) < (m.keys.length : Int) := by omega
          have HOK2 := HV.out.1
          have HQ := Lib.hid (HFL.out HOK2)
          have HTD := Lib.hid (fun h3 => HTO.out trivial trivial h3)
          rw [HOK2] at HXO HXI
          clear hlt HKI HFL HTO HOK2 HMO HOOV
          go_wp2_with ((with_reducible show wpList _ _ _ _ _ _); first | refine wpList_load_row rfl 27 _ rfl (gx) rfl 27 #[.slice Ax nx cx, .slice Ay hln cy] (0, 0) _ H.out.bx hu rfl (by kernel_rfl) ?_)
          refine (HXF _ _ _ _ H.out.mx hsz).out.mono ?_
          rintro e w12 ⟨ke, re, oe, rfl, hm, hr, ha, hb⟩
          rw [HQ.out] at hm hr
          have hoc := mo_one2 hm
          replace H := Lib.hid (H.out.below hb)
          have HE := Lib.hid (show MoOwn w12 wr.heap.size ⟨pw.1.keys, []⟩ ke re ∧ OwnR w12 wr.heap.size oe pw.1.rows from ⟨hm, hr⟩)
          clear hm hr ha hb HXF q0
          go_upto_region 16 with ((with_reducible show wpList _ _ _ _ _ _); first | refine wpList_store_row rfl 27 _ _ rfl (w12.heap.size) #[ke, re] rfl rfl 27 _ (Blk.new w12 w12.heap.size 27 #[.slice none 0 0, .slice none 0 0] rfl) (by kernel_rfl) rfl hoc ?_)
          refine wp_gen (fun X => ∃ ge, ge = w12.heap.size ∧ ModW w gm go gx w1.heap.size w3.heap.size m o pw (.slice A m.keys.length ca) (.slice Ar nr cr) (.slice Ax nx cx) (.slice Ay hln cy) ox X ∧ ModV ge wr.heap.size (⟨pw.1.keys, []⟩, 0, pw.1.rows) ke re oe X) ?h0 ?_
          case h0 =>
            have hb := below_oneM w12 (.cells #[.slice none 0 0, .slice none 0 0] 27)
            have hn := Blk.new w12 w12.heap.size 27 #[.slice none 0 0, .slice none 0 0] rfl
            have h1 := H.out.bm.lt
            have h2 := H.out.bo.lt
            have h3 := H.out.bx.lt
            have H2 := H.out.below hb
            exact ⟨_, rfl, ⟨(setRow_other _ w12.heap.size gm _ (by omega)).trans H2.bm, (setRow_other _ w12.heap.size go _ (by omega)).trans H2.bo, (setRow_other _ w12.heap.size gx _ (by omega)).trans H2.bx, H2.mm.farT hn (setRow_grown _ _ _), H2.mx.farT hn (setRow_grown _ _ _), H2.rx.kept (setRow_grown _ _ _) (own_ne H2.rx hn (by decide)), below_setRow' H2.b H.out.b.size _⟩, ⟨setRow_heap _ _ _ _ _ _ hn, (HE.out.1.below hb).farT hn (setRow_grown _ _ _), (HE.out.2.below hb).kept (setRow_grown _ _ _) (own_ne (HE.out.2.below hb) hn (by decide))⟩⟩
          rintro w13 ⟨ge, hge, h, hv⟩
          rw [← hge]
          clear hge H HE hoc
          have HSD := Lib.hid (show ModW w gm go gx w1.heap.size w3.heap.size m o pw (.slice A m.keys.length ca) (.slice Ar nr cr) (.slice Ax nx cx) (.slice Ay hln cy) ox w13.drew ∧ ModV ge wr.heap.size (⟨pw.1.keys, []⟩, 0, pw.1.rows) ke re oe w13.drew from ⟨h.below (below_drew _ _), hv.below (below_drew _ _)⟩)
          have hre : ∃ A c, re = .slice A 0 c := by obtain ⟨A, c, e, _⟩ := hv.me.rows.arg; exact ⟨A, c, e⟩
          obtain ⟨Ae, ce, rfl⟩ := hre
          obtain ⟨Aq, nq, cq, rfl⟩ := own_slice hv.me.keys
          have heq := fun W => eqr_row W (mRowV pw.1 o.key)
          unfold R.v at heq HRI HRS
          (try simp only at heq HRI HRS)
          generalize mRowV pw.1 o.key = rr at *
          clear h hv
          by_cases k3 : o.kind = 3
          · have d3 : (o.kind != 3) = false := by rw [k3]; rfl
            have HT3 := Lib.hid (HTD.out k3)
            clear k3
            have HCL := (⟨HSD.out⟩ : HoldsC (fun W => ModW w gm go gx w1.heap.size w3.heap.size m o pw (.slice A m.keys.length ca) (.slice Ar nr cr) (.slice Ax nx cx) (.slice Ay hln cy) ox W ∧ ModV ge wr.heap.size (⟨pw.1.keys, []⟩, 0, pw.1.rows) (.slice Aq nq cq) (.slice Ae 0 ce) oe W) _)
            have hall : ∀ p : Prop, (∀ W, HoldsC (fun W => ModW w gm go gx w1.heap.size w3.heap.size m o pw (.slice A m.keys.length ca) (.slice Ar nr cr) (.slice Ax nx cx) (.slice Ay hln cy) ox W ∧ ModV ge wr.heap.size (⟨pw.1.keys, []⟩, 0, pw.1.rows) (.slice Aq nq cq) (.slice Ae 0 ce) oe W) W → p) ↔ p := fun p => ⟨fun h => h _ HCL, fun h _ _ => h⟩
            refine wp_region_wq (C := HoldsC (fun W => ModW w gm go gx w1.heap.size w3.heap.size m o pw (.slice A m.keys.length ca) (.slice Ar nr cr) (.slice Ax nx cx) (.slice Ay hln cy) ox W ∧ ModV ge wr.heap.size (⟨pw.1.keys, []⟩, 0, pw.1.rows) (.slice Aq nq cq) (.slice Ae 0 ce) oe W)) (by kernel_rfl) (by kernel_rfl) HCL ?_
            repeat (refine WQ.step (fun K hK => ?_); go_simp; first | (refine hK _ ?_; clear hK K) | (apply Exists.intro; refine ⟨fun W hW => ?_, hK _ ?_⟩; (focus (first | (go_at_call 12; (with_reducible refine Calls.mono (Hid.out (HXO _ _ _ hW.out.1.mx.win)) ?_); rintro e w' ⟨rfl, hb'⟩; exact ⟨rfl, ⟨hW.out.1.below hb', hW.out.2.below hb'⟩⟩) | (go_at_call 14; (with_reducible refine Calls.mono (Hid.out (HXI _ _ _ hW.out.1.mx.win)) ?_); rintro e w' ⟨rfl, hb'⟩; exact ⟨rfl, ⟨hW.out.1.below hb', hW.out.2.below hb'⟩⟩) | (go_at_call 11; (with_reducible refine Calls.mono (same_rows _ _ _ pw.1.rows hW.out.2.oe.arg hW.out.1.mx.rows.arg) ?_); rintro e w' ⟨rfl, hb'⟩; exact ⟨rfl, ⟨hW.out.1.below hb', hW.out.2.below hb'⟩⟩) | (go_at_call 11; (with_reducible refine Calls.mono (same_rows _ _ _ m.rows (by have := hW.out.1.rx.arg; rwa [HT3.out] at this) hW.out.1.mm.rows.arg) ?_); rintro e w' ⟨rfl, hb'⟩; exact ⟨rfl, ⟨hW.out.1.below hb', hW.out.2.below hb'⟩⟩) | (go_at_call 16; (with_reducible refine Calls.mono (Hid.out (HRI _ _ _ hW.out.1.mx.win)) ?_); rintro e w' ⟨rfl, hb'⟩; exact ⟨rfl, ⟨hW.out.1.below hb', hW.out.2.below hb'⟩⟩) | (go_at_call 17; (with_reducible refine Calls.mono (Hid.out (HRS _ _ _ hW.out.1.mx.win)) ?_); rintro e w' ⟨rfl, hb'⟩; exact ⟨rfl, ⟨hW.out.1.below hb', hW.out.2.below hb'⟩⟩) | exact rfl | (obtain ⟨hMW, hMV⟩ := hW.out; have p0 := hMW.bm.get 0; have p1 := hMW.bm.get 1; have p2 := hMW.bx.get 0; have p3 := hMW.bx.get 1; have p4 := hMV.be.get 1; have p5 := hMW.bo.get 0; have p6 := hMW.bo.get 1; simp at p0 p1 p2 p3 p4 p5 p6; go_simp; rfl))); clear hK K))
            refine WQ.nil ?_
            intro W hW
            obtain ⟨hMW, hMV⟩ := hW.out; have p0 := hMW.bm.get 0; have p1 := hMW.bm.get 1; have p2 := hMW.bx.get 0; have p3 := hMW.bx.get 1; have p4 := hMV.be.get 1; have p5 := hMW.bo.get 0; have p6 := hMW.bo.get 1; simp at p0 p1 p2 p3 p4 p5 p6
            clear hall HCL
            have HE := Lib.hid hMW.b
            clear hMW hMV hW HSD p0 p1 p2 p3 p4 p5 p6
            go_wp2_with fail
            go_ret
            exact ⟨rfl, HE.out⟩
          · have d3 : (o.kind != 3) = true := by rw [bne_iff_ne]; exact k3
            clear k3
            have HCL := (⟨HSD.out⟩ : HoldsC (fun W => ModW w gm go gx w1.heap.size w3.heap.size m o pw (.slice A m.keys.length ca) (.slice Ar nr cr) (.slice Ax nx cx) (.slice Ay hln cy) ox W ∧ ModV ge wr.heap.size (⟨pw.1.keys, []⟩, 0, pw.1.rows) (.slice Aq nq cq) (.slice Ae 0 ce) oe W) _)
            have hall : ∀ p : Prop, (∀ W, HoldsC (fun W => ModW w gm go gx w1.heap.size w3.heap.size m o pw (.slice A m.keys.length ca) (.slice Ar nr cr) (.slice Ax nx cx) (.slice Ay hln cy) ox W ∧ ModV ge wr.heap.size (⟨pw.1.keys, []⟩, 0, pw.1.rows) (.slice Aq nq cq) (.slice Ae 0 ce) oe W) W → p) ↔ p := fun p => ⟨fun h => h _ HCL, fun h _ _ => h⟩
            refine wp_region_wq (C := HoldsC (fun W => ModW w gm go gx w1.heap.size w3.heap.size m o pw (.slice A m.keys.length ca) (.slice Ar nr cr) (.slice Ax nx cx) (.slice Ay hln cy) ox W ∧ ModV ge wr.heap.size (⟨pw.1.keys, []⟩, 0, pw.1.rows) (.slice Aq nq cq) (.slice Ae 0 ce) oe W)) (by kernel_rfl) (by kernel_rfl) HCL ?_
            repeat (refine WQ.step (fun K hK => ?_); go_simp; first | (refine hK _ ?_; clear hK K) | (apply Exists.intro; refine ⟨fun W hW => ?_, hK _ ?_⟩; (focus (first | (go_at_call 12; (with_reducible refine Calls.mono (Hid.out (HXO _ _ _ hW.out.1.mx.win)) ?_); rintro e w' ⟨rfl, hb'⟩; exact ⟨rfl, ⟨hW.out.1.below hb', hW.out.2.below hb'⟩⟩) | (go_at_call 14; (with_reducible refine Calls.mono (Hid.out (HXI _ _ _ hW.out.1.mx.win)) ?_); rintro e w' ⟨rfl, hb'⟩; exact ⟨rfl, ⟨hW.out.1.below hb', hW.out.2.below hb'⟩⟩) | (go_at_call 11; (with_reducible refine Calls.mono (same_rows _ _ _ pw.1.rows hW.out.2.oe.arg hW.out.1.mx.rows.arg) ?_); rintro e w' ⟨rfl, hb'⟩; exact ⟨rfl, ⟨hW.out.1.below hb', hW.out.2.below hb'⟩⟩) | (go_at_call 16; (with_reducible refine Calls.mono (Hid.out (HRI _ _ _ hW.out.1.mx.win)) ?_); rintro e w' ⟨rfl, hb'⟩; exact ⟨rfl, ⟨hW.out.1.below hb', hW.out.2.below hb'⟩⟩) | (go_at_call 17; (with_reducible refine Calls.mono (Hid.out (HRS _ _ _ hW.out.1.mx.win)) ?_); rintro e w' ⟨rfl, hb'⟩; exact ⟨rfl, ⟨hW.out.1.below hb', hW.out.2.below hb'⟩⟩) | exact rfl | (obtain ⟨hMW, hMV⟩ := hW.out; have p0 := hMW.bm.get 0; have p1 := hMW.bm.get 1; have p2 := hMW.bx.get 0; have p3 := hMW.bx.get 1; have p4 := hMV.be.get 1; have p5 := hMW.bo.get 0; have p6 := hMW.bo.get 1; simp at p0 p1 p2 p3 p4 p5 p6; go_simp; rfl))); clear hK K))
            refine WQ.nil ?_
            intro W hW
            obtain ⟨hMW, hMV⟩ := hW.out; have p0 := hMW.bm.get 0; have p1 := hMW.bm.get 1; have p2 := hMW.bx.get 0; have p3 := hMW.bx.get 1; have p4 := hMV.be.get 1; have p5 := hMW.bo.get 0; have p6 := hMW.bo.get 1; simp at p0 p1 p2 p3 p4 p5 p6
            clear hall HCL
            have HE := Lib.hid hMW.b
            clear hMW hMV hW HSD p0 p1 p2 p3 p4 p5 p6
            go_wp2_with fail
            go_ret
            exact ⟨rfl, HE.out⟩

set_option maxRecDepth 100000 in
theorem lifted (os : Os) (started : os.Started) (H : Type) (enc : TypeId × Value → H) :
    ReturnsInHanded {} Tryz.checked os 3 .any (Rows.fnModelsSpec.pre6 enc Tryz.prog Tryz.f3 Rows.fnModelsRow.domain false) (Rows.fnModelsSpec.post enc Tryz.prog Tryz.f3 false true false false) := by
  refine returnsInHanded_of_change (C := Tryz.checked) own started (by kernel_rfl) Tryz.func3
    (ChangeSpec.witness6 (enc := enc) (C := Tryz.checked) false ⟨#[], #[.slice none 0 0], []⟩ 8 (by kernel_rfl) (by kernel_rfl) (by kernel_rfl) (by kernel_rfl)) ?_
  intro W base args ds gs before hval0 hW hcnd _
  have hval : ∀ (j : Nat) t v, Tryz.f3.params[j]? = some t → args[j]? = some v → Value.okWide Tryz.prog W .any base t v := hval0
  have hW' := hW
  obtain ⟨p, q, hA0, hV, rfl, hfz, hnd⟩ := hW
  have hA : DataW.TrodAll enc Tryz.prog W 0 (fun _ => true) true Tryz.f3.params.toList args.toList ds p := hA0
  rw [Tryz.params3] at hA hval
  obtain ⟨v0, vs0, d0, ds0, p0, q0, hargs, rfl, rfl, h0, r0⟩ := trodAll_cons hA
  obtain ⟨rfl, rfl, rfl⟩ := trodAll_nil r0
  obtain rfl : args = #[v0] := by cases args; simp_all
  obtain ⟨rfl, rfl⟩ := trodVars_none hV
  obtain ⟨a0, len0, cap0, rfl⟩ := okWide_slice Tryz.underlying22 (hval 0 22 v0 rfl rfl)
  have k0 := h0
  have lt0 : ∀ x ∈ p0, x.block < W.heap.size := by obtain ⟨m, hm⟩ := k0; exact DataW.trod_lt m _ _ _ hm
  obtain ⟨z0, w0⟩ : ∃ zs, IsRow W a0 len0 cap0 zs := by
    obtain ⟨fuel, hf⟩ := h0
    rcases open_ints Tryz.underlying22 Tryz.underlying5 (by kernel_rfl) hf with ⟨hcs, _⟩ | ⟨x, l, c, zs, hcs, _, hl, hm, hz, _, hcell, hwz⟩
    · simp [Value.cells] at hcs
      obtain ⟨rfl, rfl, rfl⟩ := hcs
      exact ⟨[], .inl ⟨rfl, rfl, rfl, rfl⟩⟩
    · simp [Value.cells] at hcs
      obtain ⟨rfl, rfl, rfl⟩ := hcs
      exact ⟨zs, .inr ⟨_, rfl, hl, hm, by simpa using hz, hcell, hwz⟩⟩
  clear hA0 hval0
  refine (walk W a0 len0 cap0 z0 w0).mono fun e W' ⟨he, bel⟩ => ?_
  subst he
  exact ⟨_, rfl, _, _, _, [], _, [], hW', trodAll_mk1 (shut_bool Tryz.underlying4 _), (trodAll_cons_mk (Below.trod laidOut (by kernel_rfl) (of_decide_eq_true (by kernel_rfl)) k0 bel lt0) trodAll_mk0), rfl, bel.frame _, fun h => by cases h⟩

theorem over : Rows.fnModelsRow.holds Tryz.pinned (OpenSpec.ofChange Rows.fnModelsSpec) :=
  OpenClaim.holds_of_wide 3 Tryz.f3 rfl rfl rfl rfl rfl rfl rfl ⟨rfl, rfl, rfl, rfl, rfl⟩ rfl rfl rfl rfl rfl (by kernel_rfl) Tryz.func3 (by kernel_rfl)
    (of_decide_eq_true (by kernel_rfl)) (by unfold Func.isWrapper; first | (rw [if_pos (by decide +kernel)]; kernel_rfl) | (rw [if_neg (by decide +kernel)]; exact ⟨rfl, rfl⟩))
    (fun os started H enc _ => lifted os started H enc)

end Go.Proofs.YtbhhhakfjmaglaaGreat.fnModels
namespace Go.Proofs.YtbhhhakfjmaglaaGreat
theorem fnModels_holds : Rows.FnModelsSaid := fnModels.over
end Go.Proofs.YtbhhhakfjmaglaaGreat
