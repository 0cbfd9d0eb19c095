/-
  FnSwapped: two records of one key of a drawn model, in either order: the law's call returns true and each argument reads afterwards as before, without any condition on the arguments.
-/
import Derived.Test.YtbhhhakfjmaglaaGreatRows
import Derived.Test.YtbhhhakfjmaglaaGreatModU
import Derived.Test.YtbhhhakfjmaglaaGreatModA
import Derived.Test.YtbhhhakfjmaglaaGreatZm
import Derived.WalkKit
import Derived.ProofKit
import Derived.OpenShut
import Derived.ShutString
import Derived.ChangeOld
import Derived.Below
namespace Go.Proofs.YtbhhhakfjmaglaaGreat.fnSwapped
open Go.ChangeShapes Go.WideShapes Go.ChangeAt Go.RowKit Go.Proofs.YtbhhhakfjmaglaaGreat.M
open Go.ChangeMaps (open_string shut_string)
set_option linter.unusedVariables false
set_option linter.unusedSimpArgs false

theorem own : ownKnob Tryz.prog.godebug = none := by kernel_rfl
theorem laidOut : laidOutB Tryz.prog = true := by kernel_rfl

set_option maxRecDepth 100000 in
set_option maxHeartbeats 4000000 in
theorem walk (w : World) (a0 : Option Addr) (len0 cap0 : Nat) (z0 : List Int) (w0 : IsRow w a0 len0 cap0 z0) :
    Calls Tryz.prog 4 #[.slice a0 len0 cap0] w fun e w' => e = .returned (.bool true) ∧ Below w.heap.size w w' := by
  have hk := CodeIn.of_row w0
  have hu := Tryz.underlying27
  have huo := Tryz.underlying29
  by_cases hb : (1048576 : Int) < (len0 : Int)
  · have hbig : decide ((1048576 : Int) < (len0 : Int)) = true := by rw [decide_eq_true]; omega
    clear hk w0
    go_enter Tryz.func4, Tryz.ntmps4
    go_wp2_with fail
    refine (nBig _ _ _ w).mono ?_
    rintro e w1 ⟨rfl, hb1⟩
    have B1 := Lib.hid hb1
    clear hb1
    go_wp2_with fail
    go_ret
    exact ⟨rfl, B1.out⟩
  have hbig : decide ((1048576 : Int) < (len0 : Int)) = false := by rw [decide_eq_false]; omega
  have hl : len0 ≤ 1048576 := by omega
  have HK := Lib.hid hk
  have hv0 := atV_bd hk 0
  have hv1 := atV_bd hk 1
  have HA0 := fun W (hb : Below w.heap.size w W) => Lib.hid (show Calls Tryz.prog 18 #[.slice a0 len0 cap0, .int .i64 0] W (Same W (.int .i64 (atV ⟨a0, len0, cap0, z0⟩ 0 : Nat))) from at_any W ⟨a0, len0, cap0, z0⟩ (hk.below hb) hl 0 (by decide))
  have HA1 := fun W (hb : Below w.heap.size w W) => Lib.hid (show Calls Tryz.prog 18 #[.slice a0 len0 cap0, .int .i64 1] W (Same W (.int .i64 (atV ⟨a0, len0, cap0, z0⟩ 1 : Nat))) from at_any W ⟨a0, len0, cap0, z0⟩ (hk.below hb) hl 1 (by decide))
  generalize atV ⟨a0, len0, cap0, z0⟩ 0 = va at *
  generalize atV ⟨a0, len0, cap0, z0⟩ 1 = vq at *
  clear hk w0
  go_enter Tryz.func4, Tryz.ntmps4
  go_wp2_with fail
  refine (nBig _ _ _ w).mono ?_
  rintro e w1 ⟨rfl, hb1⟩
  have B1 := Lib.hid hb1
  have HK1 := Lib.hid (HK.out.below hb1)
  clear hb1 HK
  go_wp2_with fail
  refine (drawModelDo_some w1 ⟨a0, len0, cap0, z0⟩ HK1.out hl).mono ?_
  rintro e w2 ⟨m, k, r, o, hf, hln, ho, rfl, hm, hb2⟩
  have B := Lib.hid (B1.out.trans (hb2.mono B1.out.size))
  have HF := Lib.hid hf
  have HLN := Lib.hid hln
  have hkl : m.keys.length ≤ 101 := hln.1
  have HOM := fun W k r (h : MoIn W m k r) => Lib.hid (sModelOk_any W m k r h hf)
  have HIM := fun W k r (h : MoIn W m k r) => Lib.hid (iModelOk_any W m k r h hf)
  have HDO := fun (m : Mo) (hf : m.Fit) (hl : m.keys.length ≤ 200 ∧ m.rows.length ≤ 200) (o : O) (ho : o.Fit) W B k r (h : MoOwn W B m k r) (hB : B ≤ W.heap.size) => Lib.hid (iModelDo_any W B m o k r h hB (by omega) (by omega) hf ho)
  have HB12 := Lib.hid hb2.size
  have hoc := mo_one2 hm
  have HM := Lib.hid hm
  clear hm hb2 HK1 B1 hf hln ho
  unfold O.v
  generalize hmo : modelOkV m = mo at *
  have HMO := Lib.hid hmo
  clear hmo
  go_upto_region 4 with ((with_reducible show wpList _ _ _ _ _ _); first | refine wpList_store_row rfl 27 _ _ rfl (w2.heap.size) #[k, r] rfl rfl 27 _ ((Blk.new w2 w2.heap.size 27 #[.slice none 0 0, .slice none 0 0] rfl).alloc (.cells #[.int .i64 0, .string ⟨#[]⟩, .int .i64 0, .int .i64 0] 29)) (by kernel_rfl) rfl hoc ?_ | refine wpList_store_row rfl 29 _ _ rfl (w2.heap.size + 1) #[.int .i64 o.kind, .string o.key, .int .i64 o.what, .int .i64 o.val] rfl rfl 29 _ (show Blk _ (w2.heap.size + 1) 29 #[.int .i64 0, .string ⟨#[]⟩, .int .i64 0, .int .i64 0] from (setRow_other _ w2.heap.size (w2.heap.size + 1) _ (by omega)).trans (Blk.new _ _ _ _ (by simp [go_sem]))) (by kernel_rfl) rfl (by simp [Value.oneCell']) ?_)
  refine wp_gen (fun X => ∃ gm, (gm = w2.heap.size ∧ gm < X.heap.size) ∧ Blk X gm 27 #[k, r] ∧ MoOwn X w1.heap.size m k r ∧ Below w.heap.size w X) ?h0 ?_
  case h0 =>
    have hn := (Blk.new w2 w2.heap.size 27 #[.slice none 0 0, .slice none 0 0] rfl).alloc (.cells #[.int .i64 0, .string ⟨#[]⟩, .int .i64 0, .int .i64 0] 29)
    have hn2 : Blk ((w2.alloc (.cells #[.slice none 0 0, .slice none 0 0] 27)).alloc (.cells #[.int .i64 0, .string ⟨#[]⟩, .int .i64 0, .int .i64 0] 29)) (w2.heap.size + 1) 29 #[.int .i64 0, .string ⟨#[]⟩, .int .i64 0, .int .i64 0] := Blk.new _ _ _ _ (by simp [go_sem])
    have hn3 := (setRow_other _ w2.heap.size (w2.heap.size + 1) #[k, r] (by omega)).trans hn2
    have hbb := (below_oneM w2 (.cells #[.slice none 0 0, .slice none 0 0] 27)).alloc (by simp [go_sem]) (.cells #[.int .i64 0, .string ⟨#[]⟩, .int .i64 0, .int .i64 0] 29)
    exact ⟨_, ⟨rfl, by rw [setRow_size, setRow_size]; simp [go_sem]⟩, (setRow_other _ (w2.heap.size + 1) w2.heap.size _ (by omega)).trans (setRow_heap _ _ _ _ _ _ hn), ((HM.out.below hbb).farT hn (setRow_grown _ _ _)).farB hn3 (by decide) (by decide) (setRow_grown _ _ _), below_setRow' (below_setRow' (B.out.trans (hbb.mono B.out.size)) B.out.size _) (Nat.le_trans B.out.size (Nat.le_succ _)) _⟩
  rintro w3 ⟨gm, ⟨hgm, hgl⟩, b1, hm, hb⟩
  rw [← hgm]
  have HB1 := Lib.hid (show w1.heap.size ≤ w3.heap.size from by have := HB12.out; omega)
  clear B HM hoc HB12
  have GM := Lib.hid b1; have HM := Lib.hid hm; have B := Lib.hid hb; have HGL := Lib.hid hgl
  clear b1 hm hb hgm hgl
  go_wp2_with ((with_reducible show wpList _ _ _ _ _ _); first | refine wpList_load_row rfl 27 _ rfl (gm) rfl 27 #[k, r] (0, 0) _ GM.out hu rfl (by kernel_rfl) ?_)
  refine (HOM _ _ _ HM.out.win).out.mono ?_
  rintro e w4 ⟨rfl, hb⟩
  replace GM := Lib.hid (GM.out.below hb); replace HM := Lib.hid (HM.out.below hb); replace B := Lib.hid (B.out.trans (hb.mono B.out.size)); replace HB1 := Lib.hid (Nat.le_trans HB1.out hb.size); replace HGL := Lib.hid (Nat.lt_of_lt_of_le HGL.out hb.size)
  clear hb HOM
  cases mo with
  | false =>
    clear HA0 HA1 HDO
    go_wp2_with fail
    go_ret
    exact ⟨rfl, B.out⟩
  | true =>
    obtain ⟨A, ca, rfl⟩ := OwnF.shape HM.out.keys
    obtain ⟨Ar, nr, cr, rfl⟩ := own_slice HM.out.rows
    go_wp2_with fail
    go_loopw [5] (fun i wr => ∃ j : Nat, i = .int .i64 j ∧ j ≤ m.keys.length ∧ Blk wr gm 27 #[.slice A m.keys.length ca, .slice Ar nr cr] ∧ MoOwn wr w1.heap.size m (.slice A m.keys.length ca) (.slice Ar nr cr) ∧ Below w.heap.size w wr ∧ w1.heap.size ≤ wr.heap.size ∧ gm < wr.heap.size) (fun i _ => m.keys.length - (intOf i).toNat)
    case atStart => exact ⟨0, rfl, Nat.zero_le _, GM.out, HM.out, B.out, HB1.out, HGL.out⟩
    case round =>
      obtain ⟨j, rfl, hj, b1, hm, hb, hs1, hgl⟩ := hrel
      clear GM HM B HB1 HGL
      have GM := Lib.hid b1; have HM := Lib.hid hm; have B := Lib.hid hb; have HB1 := Lib.hid hs1; have HGL := Lib.hid hgl
      have q0 := b1.get 0
      simp at q0
      clear b1 hm hb hs1 hgl
      by_cases hlt : j < m.keys.length
      · have hltz : (j : Int) < (m.keys.length : Int) := by omega
        have HLT := Lib.hid hlt
        obtain ⟨b, off, e, hbl, hc⟩ := recs_cells (OwnF.arg HM.out.keys sizeKRow zeroKR) (by omega)
        replace hc := hc j hlt
        subst e
        have hin := getD_memK hlt
        have hmi := modelOk_iff.1 HMO.out
        have ht := tag_ne.1 (keys_tag hmi.2.1 _ hin)
        have hkd := mKind_mem (keys_asc hmi.2.1) hin
        have hv2 : ((vq + 300 : Nat) : Int) = (vq : Int) + 300 := by omega
        have hsw := swap_ok (m := m) (s := (m.keys.getD j zeroKR).key) (v := (va : Int)) (u := (vq : Int) + 300) HMO.out (by omega) ht.1 (by omega) (by omega) (by omega) (by omega)
        have hfa : (recO (m.keys.getD j zeroKR).key (va : Int)).Fit := ⟨show inW (2 : Int) from inW_i (by decide), (HF.out.keys j hlt).key, show inW (0 : Int) from inW_i (by decide), inW_i (by show -1000000 ≤ (va : Int) ∧ (va : Int) ≤ 1000000; omega)⟩
        have hfb : (recO (m.keys.getD j zeroKR).key ((vq : Int) + 300)).Fit := ⟨show inW (2 : Int) from inW_i (by decide), (HF.out.keys j hlt).key, show inW (0 : Int) from inW_i (by decide), inW_i (by show -1000000 ≤ (vq : Int) + 300 ∧ (vq : Int) + 300 ≤ 1000000; omega)⟩
        have hl0 : m.keys.length ≤ 200 ∧ m.rows.length ≤ 200 := by have := HLN.out; omega
        have la := mDo_100 (recO (m.keys.getD j zeroKR).key (va : Int)) 200 (by decide) hl0.1 hl0.2
        have lb := mDo_100 (recO (m.keys.getD j zeroKR).key ((vq : Int) + 300)) 200 (by decide) hl0.1 hl0.2
        have C1 := HDO m HF.out hl0 _ hfa
        have C2 := HDO _ (mDo_fit HF.out hfa) ⟨la.1, la.2.1⟩ _ hfb
        have C3 := HDO m HF.out hl0 _ hfb
        have C4 := HDO _ (mDo_fit HF.out hfb) ⟨lb.1, lb.2.1⟩ _ hfa
        rw [hkd] at hsw
        have HSW := Lib.hid hsw
        have HKD := Lib.hid ht.2
        have HCJ := Lib.hid hc
        have HBJ := Lib.hid hbl
        clear hc hbl hin hmi ht hkd hsw hfa hfb hl0 la lb hv2
        generalize m.keys.getD j zeroKR = kj at *
        obtain ⟨s, kd⟩ := kj
        simp only at *
        generalize mDoV m (recO s (va : Int)) = pa at *
        generalize mDoV m (recO s ((vq : Int) + 300)) = pb at *
        generalize mDoV pa.1 (recO s ((vq : Int) + 300)) = pab at *
        generalize mDoV pb.1 (recO s (va : Int)) = pba at *
        unfold O.v recO at C1 C2 C3 C4
        simp only at C1 C2 C3 C4
        have HBR := Lib.hid (Below.refl wr.heap.size wr)
        go_upto_region 9 with fail
        go_cut [6] from 31 to 39 (fun x wx => ∃ g, x = .pointer (some ⟨g, 0, none⟩) ∧ wr.heap.size ≤ g ∧ Blk wx g 29 #[.int .i64 2, .string s, .int .i64 0, .int .i64 (va : Int)] ∧ Below wr.heap.size wr wx)
        case first =>
          have hbd : Below wr.heap.size wr wr.drew := below_drew _ _
          have QM := Lib.hid (show Blk wr.drew gm 27 #[.slice (some ⟨b, off, none⟩) m.keys.length ca, .slice Ar nr cr] from GM.out.below hbd)
          have QB := Lib.hid (B.out.trans (hbd.mono B.out.size))
          have QW := Lib.hid hbd
          have qc : RecAt 2 krCells wr.drew b (off + j * 2) ⟨s, kd⟩ := HCJ.out.below HBJ.out (HBR.out.trans (hbd.mono HBR.out.size))
          clear hbd
          refine wp_region_held_drew (S := fun X : World => Blk X gm 27 #[.slice (some ⟨b, off, none⟩) m.keys.length ca, .slice Ar nr cr] ∧ RecAt 2 krCells X b (off + j * 2) ⟨s, kd⟩ ∧ b < X.heap.size) (by kernel_rfl) ⟨QM.out, qc, Nat.lt_of_lt_of_le HBJ.out (Nat.le_trans HBR.out.size QW.out.size)⟩ (fun hHeld => ?_)
          clear hHeld qc
          have QC := Lib.hid (show RecAt 2 krCells wr.drew b (off + j * 2) ⟨s, kd⟩ ∧ b < wr.drew.heap.size from ⟨HCJ.out.below HBJ.out (HBR.out.trans (QW.out.mono HBR.out.size)), Nat.lt_of_lt_of_le HBJ.out (Nat.le_trans HBR.out.size QW.out.size)⟩)
          generalize wr.drew = X0 at *
          refine' wpAnyH_take (i := 0) (v := .pointer (some ⟨gm, 0, none⟩)) rfl (by kernel_rfl) (by kernel_rfl) (by kernel_rfl) (fun _ _ _ h => h) (Or.inl ⟨by rfl, fun W h => by go_simp⟩) ⟨QM.out, QC.out.1, QC.out.2⟩ ?_
          try simp only [Act.put, List.getElem_toArray, List.getElem_cons_succ, List.getElem_cons_zero, List.setIfInBounds_toArray, List.set_cons_zero, List.set_cons_succ]
          refine' wpAnyH_take (i := 1) (v := .slice (some ⟨b, off, none⟩) m.keys.length ca) rfl (by kernel_rfl) (by kernel_rfl) (by kernel_rfl) (fun _ _ _ h => h) (Or.inl ⟨by rfl, fun W h => by have q := h.1.get 0; simp at q; go_simp⟩) ⟨QM.out, QC.out.1, QC.out.2⟩ ?_
          try simp only [Act.put, List.getElem_toArray, List.getElem_cons_succ, List.getElem_cons_zero, List.setIfInBounds_toArray, List.set_cons_zero, List.set_cons_succ]
          refine' wpAnyH_take (i := 2) (v := .int .i64 (j : Int)) rfl (by kernel_rfl) (by kernel_rfl) (by kernel_rfl) (fun _ _ _ h => h) (Or.inl ⟨by rfl, fun W h => by go_simp⟩) ⟨QM.out, QC.out.1, QC.out.2⟩ ?_
          try simp only [Act.put, List.getElem_toArray, List.getElem_cons_succ, List.getElem_cons_zero, List.setIfInBounds_toArray, List.set_cons_zero, List.set_cons_succ]
          refine' wpAnyH_take (i := 3) (v := .pointer (some ⟨b, off + j * 2, none⟩)) rfl (by kernel_rfl) (by kernel_rfl) (by kernel_rfl) (fun _ _ _ h => h) (Or.inl ⟨by rfl, fun W h => by go_simp⟩) ⟨QM.out, QC.out.1, QC.out.2⟩ ?_
          try simp only [Act.put, List.getElem_toArray, List.getElem_cons_succ, List.getElem_cons_zero, List.setIfInBounds_toArray, List.set_cons_zero, List.set_cons_succ]
          refine' wpAnyH_take (i := 4) (v := .pointer (some ⟨b, off + j * 2, none⟩)) rfl (by kernel_rfl) (by kernel_rfl) (by kernel_rfl) (fun _ _ _ h => h) (Or.inl ⟨by rfl, fun W h => by go_simp⟩) ⟨QM.out, QC.out.1, QC.out.2⟩ ?_
          try simp only [Act.put, List.getElem_toArray, List.getElem_cons_succ, List.getElem_cons_zero, List.setIfInBounds_toArray, List.set_cons_zero, List.set_cons_succ]
          refine' wpAnyH_take (i := 5) (v := .string s) rfl (by kernel_rfl) (by kernel_rfl) (by kernel_rfl) (fun _ _ _ h => h) (Or.inl ⟨by rfl, fun W h => by have q := (atKRow h.2.1).1; simp at q; go_simp⟩) ⟨QM.out, QC.out.1, QC.out.2⟩ ?_
          try simp only [Act.put, List.getElem_toArray, List.getElem_cons_succ, List.getElem_cons_zero, List.setIfInBounds_toArray, List.set_cons_zero, List.set_cons_succ]
          refine' wpAnyH_take (i := 6) (v := .slice a0 len0 cap0) rfl (by kernel_rfl) (by kernel_rfl) (by kernel_rfl) (fun _ _ _ h => h) (Or.inl ⟨by rfl, fun W h => by go_simp⟩) ⟨QM.out, QC.out.1, QC.out.2⟩ ?_
          try simp only [Act.put, List.getElem_toArray, List.getElem_cons_succ, List.getElem_cons_zero, List.setIfInBounds_toArray, List.set_cons_zero, List.set_cons_succ]
          refine wpAnyH_ready (rs := [7, 9]) (by kernel_rfl) (by simp) ?_
          refine AllReadyH.cons rfl (fun K hK => ?_) (AllReadyH.cons rfl (fun K hK => ?_) AllReadyH.nil)
          · skip
            go_simp
            refine (HA0 _ QB.out).out.mono ?_
            rintro e Y ⟨rfl, hy⟩
            subst hy
            refine hK.out _ _ ⟨QM.out, QC.out.1, QC.out.2⟩ (fun hHeld => ?_)
            clear hK K hHeld
            try simp only [Act.put, List.getElem_toArray, List.getElem_cons_succ, List.getElem_cons_zero, List.setIfInBounds_toArray, List.set_cons_zero, List.set_cons_succ]
            refine' wpAnyH_take (i := 8) (v := .agg #[.int .i64 2, .string s, .int .i64 0, .int .i64 (va : Int)]) rfl (by kernel_rfl) (by kernel_rfl) (by kernel_rfl) (fun _ _ _ h => h) (Or.inl ⟨by rfl, fun W h => by go_simp⟩) ⟨QM.out, QC.out.1, QC.out.2⟩ ?_
            try simp only [Act.put, List.getElem_toArray, List.getElem_cons_succ, List.getElem_cons_zero, List.setIfInBounds_toArray, List.set_cons_zero, List.set_cons_succ]
            refine wpAnyH_ready (rs := [9]) (by kernel_rfl) (by simp) ?_
            refine AllReadyH.cons rfl (fun K hK => ?_) AllReadyH.nil
            go_simp
            have hb := below_oneM X0 (.cells #[.int .i64 0, .string ⟨#[]⟩, .int .i64 0, .int .i64 0] 29)
            have hn := Blk.new X0 X0.heap.size 29 #[.int .i64 0, .string ⟨#[]⟩, .int .i64 0, .int .i64 0] rfl
            obtain ⟨g7, hg⟩ : ∃ g, g = X0.heap.size := ⟨_, rfl⟩
            rw [← hg] at hn
            have HZ := Lib.hid (show wr.heap.size ≤ g7 ∧ gm < g7 ∧ b < g7 from by have h1 := QW.out.size; have h2 := QM.out.lt; have h3 := QC.out.2; rw [hg]; exact ⟨h1, h2, h3⟩)
            replace QM := Lib.hid (QM.out.below hb); replace QB := Lib.hid (QB.out.trans (hb.mono QB.out.size)); replace QW := Lib.hid (QW.out.trans (hb.mono QW.out.size)); replace QC := Lib.hid (show RecAt 2 krCells _ b (off + j * 2) ⟨s, kd⟩ ∧ _ from ⟨QC.out.1.below QC.out.2 hb, Nat.lt_of_lt_of_le QC.out.2 hb.size⟩)
            have Q7 := Lib.hid hn
            clear hn
            refine hK.out _ _ ⟨QM.out, QC.out.1, QC.out.2⟩ (fun hHeld => ?_)
            clear hK K hHeld hb
            try simp only [Act.put, List.getElem_toArray, List.getElem_cons_succ, List.getElem_cons_zero, List.setIfInBounds_toArray, List.set_cons_zero, List.set_cons_succ]
            rw [← hg]
            clear hg
            obtain ⟨X1, hX⟩ : ∃ Y, Y = X0.alloc (.cells #[.int .i64 0, .string ⟨#[]⟩, .int .i64 0, .int .i64 0] 29) := ⟨_, rfl⟩
            rw [← hX] at QM QB QW QC Q7 ⊢
            clear hX
            refine wpAnyH_ready (rs := [10]) (by kernel_rfl) (by simp) ?_
            refine AllReadyH.cons rfl (fun K hK => ?_) AllReadyH.nil
            rw [if_pos (by rfl)]
            refine wp_store_row 29 _ _ rfl g7 #[.int .i64 2, .string s, .int .i64 0, .int .i64 (va : Int)] rfl rfl 29 _ Q7.out (by kernel_rfl) rfl (by simp [Value.oneCell']) ?_
            have hz := HZ.out
            have Q9 := Lib.hid (show Blk (World.setRow _ g7 #[.int .i64 2, .string s, .int .i64 0, .int .i64 (va : Int)]) g7 29 #[.int .i64 2, .string s, .int .i64 0, .int .i64 (va : Int)] from setRow_heap _ _ _ _ _ _ Q7.out)
            have QM9 := Lib.hid (show Blk (World.setRow _ g7 #[.int .i64 2, .string s, .int .i64 0, .int .i64 (va : Int)]) gm 27 #[.slice (some ⟨b, off, none⟩) m.keys.length ca, .slice Ar nr cr] from (setRow_other _ g7 gm _ (by omega)).trans QM.out)
            have QW9 := Lib.hid (below_setRow' QW.out hz.1 #[.int .i64 2, .string s, .int .i64 0, .int .i64 (va : Int)])
            have QC9 := Lib.hid (show RecAt 2 krCells (World.setRow _ g7 #[.int .i64 2, .string s, .int .i64 0, .int .i64 (va : Int)]) b (off + j * 2) ⟨s, kd⟩ ∧ b < (World.setRow _ g7 #[.int .i64 2, .string s, .int .i64 0, .int .i64 (va : Int)]).heap.size from ⟨fun k hk => (World.cell?_of_block (a := ⟨b, off + j * 2 + k, none⟩) (setRow_other _ g7 b _ (by omega))).trans (QC.out.1 k hk), by rw [setRow_size]; exact QC.out.2⟩)
            refine hK.out _ _ ⟨QM9.out, QC9.out.1, QC9.out.2⟩ (fun hHeld => ?_)
            clear hK K hHeld QM QC QW QB Q7
            try simp only [Act.put, List.getElem_toArray, List.getElem_cons_succ, List.getElem_cons_zero, List.setIfInBounds_toArray, List.set_cons_zero, List.set_cons_succ]
            refine wpAnyH_done (by kernel_rfl) ?_ _
            go_wp2_with fail
            go_meet
            exact ⟨g7, rfl, HZ.out.1, Q9.out, QW9.out⟩
          · skip
            go_simp
            have hb := below_oneM X0 (.cells #[.int .i64 0, .string ⟨#[]⟩, .int .i64 0, .int .i64 0] 29)
            have hn := Blk.new X0 X0.heap.size 29 #[.int .i64 0, .string ⟨#[]⟩, .int .i64 0, .int .i64 0] rfl
            obtain ⟨g7, hg⟩ : ∃ g, g = X0.heap.size := ⟨_, rfl⟩
            rw [← hg] at hn
            have HZ := Lib.hid (show wr.heap.size ≤ g7 ∧ gm < g7 ∧ b < g7 from by have h1 := QW.out.size; have h2 := QM.out.lt; have h3 := QC.out.2; rw [hg]; exact ⟨h1, h2, h3⟩)
            replace QM := Lib.hid (QM.out.below hb); replace QB := Lib.hid (QB.out.trans (hb.mono QB.out.size)); replace QW := Lib.hid (QW.out.trans (hb.mono QW.out.size)); replace QC := Lib.hid (show RecAt 2 krCells _ b (off + j * 2) ⟨s, kd⟩ ∧ _ from ⟨QC.out.1.below QC.out.2 hb, Nat.lt_of_lt_of_le QC.out.2 hb.size⟩)
            have Q7 := Lib.hid hn
            clear hn
            refine hK.out _ _ ⟨QM.out, QC.out.1, QC.out.2⟩ (fun hHeld => ?_)
            clear hK K hHeld hb
            try simp only [Act.put, List.getElem_toArray, List.getElem_cons_succ, List.getElem_cons_zero, List.setIfInBounds_toArray, List.set_cons_zero, List.set_cons_succ]
            rw [← hg]
            clear hg
            obtain ⟨X1, hX⟩ : ∃ Y, Y = X0.alloc (.cells #[.int .i64 0, .string ⟨#[]⟩, .int .i64 0, .int .i64 0] 29) := ⟨_, rfl⟩
            rw [← hX] at QM QB QW QC Q7 ⊢
            clear hX
            refine wpAnyH_ready (rs := [7]) (by kernel_rfl) (by simp) ?_
            refine AllReadyH.cons rfl (fun K hK => ?_) AllReadyH.nil
            go_simp
            refine (HA0 _ QB.out).out.mono ?_
            rintro e Y ⟨rfl, hy⟩
            subst hy
            refine hK.out _ _ ⟨QM.out, QC.out.1, QC.out.2⟩ (fun hHeld => ?_)
            clear hK K hHeld
            try simp only [Act.put, List.getElem_toArray, List.getElem_cons_succ, List.getElem_cons_zero, List.setIfInBounds_toArray, List.set_cons_zero, List.set_cons_succ]
            refine' wpAnyH_take (i := 8) (v := .agg #[.int .i64 2, .string s, .int .i64 0, .int .i64 (va : Int)]) rfl (by kernel_rfl) (by kernel_rfl) (by kernel_rfl) (fun _ _ _ h => h) (Or.inl ⟨by rfl, fun W h => by go_simp⟩) ⟨QM.out, QC.out.1, QC.out.2⟩ ?_
            try simp only [Act.put, List.getElem_toArray, List.getElem_cons_succ, List.getElem_cons_zero, List.setIfInBounds_toArray, List.set_cons_zero, List.set_cons_succ]
            refine wpAnyH_ready (rs := [10]) (by kernel_rfl) (by simp) ?_
            refine AllReadyH.cons rfl (fun K hK => ?_) AllReadyH.nil
            rw [if_pos (by rfl)]
            refine wp_store_row 29 _ _ rfl g7 #[.int .i64 2, .string s, .int .i64 0, .int .i64 (va : Int)] rfl rfl 29 _ Q7.out (by kernel_rfl) rfl (by simp [Value.oneCell']) ?_
            have hz := HZ.out
            have Q9 := Lib.hid (show Blk (World.setRow _ g7 #[.int .i64 2, .string s, .int .i64 0, .int .i64 (va : Int)]) g7 29 #[.int .i64 2, .string s, .int .i64 0, .int .i64 (va : Int)] from setRow_heap _ _ _ _ _ _ Q7.out)
            have QM9 := Lib.hid (show Blk (World.setRow _ g7 #[.int .i64 2, .string s, .int .i64 0, .int .i64 (va : Int)]) gm 27 #[.slice (some ⟨b, off, none⟩) m.keys.length ca, .slice Ar nr cr] from (setRow_other _ g7 gm _ (by omega)).trans QM.out)
            have QW9 := Lib.hid (below_setRow' QW.out hz.1 #[.int .i64 2, .string s, .int .i64 0, .int .i64 (va : Int)])
            have QC9 := Lib.hid (show RecAt 2 krCells (World.setRow _ g7 #[.int .i64 2, .string s, .int .i64 0, .int .i64 (va : Int)]) b (off + j * 2) ⟨s, kd⟩ ∧ b < (World.setRow _ g7 #[.int .i64 2, .string s, .int .i64 0, .int .i64 (va : Int)]).heap.size from ⟨fun k hk => (World.cell?_of_block (a := ⟨b, off + j * 2 + k, none⟩) (setRow_other _ g7 b _ (by omega))).trans (QC.out.1 k hk), by rw [setRow_size]; exact QC.out.2⟩)
            refine hK.out _ _ ⟨QM9.out, QC9.out.1, QC9.out.2⟩ (fun hHeld => ?_)
            clear hK K hHeld QM QC QW QB Q7
            try simp only [Act.put, List.getElem_toArray, List.getElem_cons_succ, List.getElem_cons_zero, List.setIfInBounds_toArray, List.set_cons_zero, List.set_cons_succ]
            refine wpAnyH_done (by kernel_rfl) ?_ _
            go_wp2_with fail
            go_meet
            exact ⟨g7, rfl, HZ.out.1, Q9.out, QW9.out⟩
        case rest =>
          obtain ⟨g6, rfl, hz6, h6, hb⟩ := hcut
          obtain ⟨v1, hU⟩ : ∃ Y, Y = wc := ⟨_, rfl⟩
          subst hU
          replace GM := Lib.hid (GM.out.below hb); replace HM := Lib.hid (HM.out.below hb); replace B := Lib.hid (B.out.trans (hb.mono B.out.size)); replace HBR := Lib.hid (HBR.out.trans (hb.mono HBR.out.size))
          have G6 := Lib.hid h6
          clear h6 hb
          go_upto_region 10 with fail
          go_cut [7] from 40 to 49 (fun x wx => ∃ g, x = .pointer (some ⟨g, 0, none⟩) ∧ v1.heap.size ≤ g ∧ Blk wx g 29 #[.int .i64 2, .string s, .int .i64 0, .int .i64 ((vq : Int) + 300)] ∧ Below v1.heap.size v1 wx)
          case first =>
            have hbd : Below v1.heap.size v1 v1.drew := below_drew _ _
            have QM := Lib.hid (show Blk v1.drew gm 27 #[.slice (some ⟨b, off, none⟩) m.keys.length ca, .slice Ar nr cr] from GM.out.below hbd)
            have QB := Lib.hid (B.out.trans (hbd.mono B.out.size))
            have QW := Lib.hid hbd
            have qc : RecAt 2 krCells v1.drew b (off + j * 2) ⟨s, kd⟩ := HCJ.out.below HBJ.out (HBR.out.trans (hbd.mono HBR.out.size))
            clear hbd
            refine wp_region_held_drew (S := fun X : World => Blk X gm 27 #[.slice (some ⟨b, off, none⟩) m.keys.length ca, .slice Ar nr cr] ∧ RecAt 2 krCells X b (off + j * 2) ⟨s, kd⟩ ∧ b < X.heap.size) (by kernel_rfl) ⟨QM.out, qc, Nat.lt_of_lt_of_le HBJ.out (Nat.le_trans HBR.out.size QW.out.size)⟩ (fun hHeld => ?_)
            clear hHeld qc
            have QC := Lib.hid (show RecAt 2 krCells v1.drew b (off + j * 2) ⟨s, kd⟩ ∧ b < v1.drew.heap.size from ⟨HCJ.out.below HBJ.out (HBR.out.trans (QW.out.mono HBR.out.size)), Nat.lt_of_lt_of_le HBJ.out (Nat.le_trans HBR.out.size QW.out.size)⟩)
            generalize v1.drew = X0 at *
            refine' wpAnyH_take (i := 0) (v := .pointer (some ⟨gm, 0, none⟩)) rfl (by kernel_rfl) (by kernel_rfl) (by kernel_rfl) (fun _ _ _ h => h) (Or.inl ⟨by rfl, fun W h => by go_simp⟩) ⟨QM.out, QC.out.1, QC.out.2⟩ ?_
            try simp only [Act.put, List.getElem_toArray, List.getElem_cons_succ, List.getElem_cons_zero, List.setIfInBounds_toArray, List.set_cons_zero, List.set_cons_succ]
            refine' wpAnyH_take (i := 1) (v := .slice (some ⟨b, off, none⟩) m.keys.length ca) rfl (by kernel_rfl) (by kernel_rfl) (by kernel_rfl) (fun _ _ _ h => h) (Or.inl ⟨by rfl, fun W h => by have q := h.1.get 0; simp at q; go_simp⟩) ⟨QM.out, QC.out.1, QC.out.2⟩ ?_
            try simp only [Act.put, List.getElem_toArray, List.getElem_cons_succ, List.getElem_cons_zero, List.setIfInBounds_toArray, List.set_cons_zero, List.set_cons_succ]
            refine' wpAnyH_take (i := 2) (v := .int .i64 (j : Int)) rfl (by kernel_rfl) (by kernel_rfl) (by kernel_rfl) (fun _ _ _ h => h) (Or.inl ⟨by rfl, fun W h => by go_simp⟩) ⟨QM.out, QC.out.1, QC.out.2⟩ ?_
            try simp only [Act.put, List.getElem_toArray, List.getElem_cons_succ, List.getElem_cons_zero, List.setIfInBounds_toArray, List.set_cons_zero, List.set_cons_succ]
            refine' wpAnyH_take (i := 3) (v := .pointer (some ⟨b, off + j * 2, none⟩)) rfl (by kernel_rfl) (by kernel_rfl) (by kernel_rfl) (fun _ _ _ h => h) (Or.inl ⟨by rfl, fun W h => by go_simp⟩) ⟨QM.out, QC.out.1, QC.out.2⟩ ?_
            try simp only [Act.put, List.getElem_toArray, List.getElem_cons_succ, List.getElem_cons_zero, List.setIfInBounds_toArray, List.set_cons_zero, List.set_cons_succ]
            refine' wpAnyH_take (i := 4) (v := .pointer (some ⟨b, off + j * 2, none⟩)) rfl (by kernel_rfl) (by kernel_rfl) (by kernel_rfl) (fun _ _ _ h => h) (Or.inl ⟨by rfl, fun W h => by go_simp⟩) ⟨QM.out, QC.out.1, QC.out.2⟩ ?_
            try simp only [Act.put, List.getElem_toArray, List.getElem_cons_succ, List.getElem_cons_zero, List.setIfInBounds_toArray, List.set_cons_zero, List.set_cons_succ]
            refine' wpAnyH_take (i := 5) (v := .string s) rfl (by kernel_rfl) (by kernel_rfl) (by kernel_rfl) (fun _ _ _ h => h) (Or.inl ⟨by rfl, fun W h => by have q := (atKRow h.2.1).1; simp at q; go_simp⟩) ⟨QM.out, QC.out.1, QC.out.2⟩ ?_
            try simp only [Act.put, List.getElem_toArray, List.getElem_cons_succ, List.getElem_cons_zero, List.setIfInBounds_toArray, List.set_cons_zero, List.set_cons_succ]
            refine' wpAnyH_take (i := 6) (v := .slice a0 len0 cap0) rfl (by kernel_rfl) (by kernel_rfl) (by kernel_rfl) (fun _ _ _ h => h) (Or.inl ⟨by rfl, fun W h => by go_simp⟩) ⟨QM.out, QC.out.1, QC.out.2⟩ ?_
            try simp only [Act.put, List.getElem_toArray, List.getElem_cons_succ, List.getElem_cons_zero, List.setIfInBounds_toArray, List.set_cons_zero, List.set_cons_succ]
            refine wpAnyH_ready (rs := [7, 10]) (by kernel_rfl) (by simp) ?_
            refine AllReadyH.cons rfl (fun K hK => ?_) (AllReadyH.cons rfl (fun K hK => ?_) AllReadyH.nil)
            · skip
              go_simp
              refine (HA1 _ QB.out).out.mono ?_
              rintro e Y ⟨rfl, hy⟩
              subst hy
              refine hK.out _ _ ⟨QM.out, QC.out.1, QC.out.2⟩ (fun hHeld => ?_)
              clear hK K hHeld
              try simp only [Act.put, List.getElem_toArray, List.getElem_cons_succ, List.getElem_cons_zero, List.setIfInBounds_toArray, List.set_cons_zero, List.set_cons_succ]
              refine' wpAnyH_take (i := 8) (v := .int .i64 ((vq : Int) + 300)) rfl (by kernel_rfl) (by kernel_rfl) (by kernel_rfl) (fun _ _ _ h => h) (Or.inl ⟨by rfl, fun W h => by go_simp; rw [IntKind.wrap_i64]; omega⟩) ⟨QM.out, QC.out.1, QC.out.2⟩ ?_
              try simp only [Act.put, List.getElem_toArray, List.getElem_cons_succ, List.getElem_cons_zero, List.setIfInBounds_toArray, List.set_cons_zero, List.set_cons_succ]
              refine' wpAnyH_take (i := 9) (v := .agg #[.int .i64 2, .string s, .int .i64 0, .int .i64 ((vq : Int) + 300)]) rfl (by kernel_rfl) (by kernel_rfl) (by kernel_rfl) (fun _ _ _ h => h) (Or.inl ⟨by rfl, fun W h => by go_simp⟩) ⟨QM.out, QC.out.1, QC.out.2⟩ ?_
              try simp only [Act.put, List.getElem_toArray, List.getElem_cons_succ, List.getElem_cons_zero, List.setIfInBounds_toArray, List.set_cons_zero, List.set_cons_succ]
              refine wpAnyH_ready (rs := [10]) (by kernel_rfl) (by simp) ?_
              refine AllReadyH.cons rfl (fun K hK => ?_) AllReadyH.nil
              go_simp
              have hb := below_oneM X0 (.cells #[.int .i64 0, .string ⟨#[]⟩, .int .i64 0, .int .i64 0] 29)
              have hn := Blk.new X0 X0.heap.size 29 #[.int .i64 0, .string ⟨#[]⟩, .int .i64 0, .int .i64 0] rfl
              obtain ⟨g7, hg⟩ : ∃ g, g = X0.heap.size := ⟨_, rfl⟩
              rw [← hg] at hn
              have HZ := Lib.hid (show v1.heap.size ≤ g7 ∧ gm < g7 ∧ b < g7 from by have h1 := QW.out.size; have h2 := QM.out.lt; have h3 := QC.out.2; rw [hg]; exact ⟨h1, h2, h3⟩)
              replace QM := Lib.hid (QM.out.below hb); replace QB := Lib.hid (QB.out.trans (hb.mono QB.out.size)); replace QW := Lib.hid (QW.out.trans (hb.mono QW.out.size)); replace QC := Lib.hid (show RecAt 2 krCells _ b (off + j * 2) ⟨s, kd⟩ ∧ _ from ⟨QC.out.1.below QC.out.2 hb, Nat.lt_of_lt_of_le QC.out.2 hb.size⟩)
              have Q7 := Lib.hid hn
              clear hn
              refine hK.out _ _ ⟨QM.out, QC.out.1, QC.out.2⟩ (fun hHeld => ?_)
              clear hK K hHeld hb
              try simp only [Act.put, List.getElem_toArray, List.getElem_cons_succ, List.getElem_cons_zero, List.setIfInBounds_toArray, List.set_cons_zero, List.set_cons_succ]
              rw [← hg]
              clear hg
              obtain ⟨X1, hX⟩ : ∃ Y, Y = X0.alloc (.cells #[.int .i64 0, .string ⟨#[]⟩, .int .i64 0, .int .i64 0] 29) := ⟨_, rfl⟩
              rw [← hX] at QM QB QW QC Q7 ⊢
              clear hX
              refine wpAnyH_ready (rs := [11]) (by kernel_rfl) (by simp) ?_
              refine AllReadyH.cons rfl (fun K hK => ?_) AllReadyH.nil
              rw [if_pos (by rfl)]
              refine wp_store_row 29 _ _ rfl g7 #[.int .i64 2, .string s, .int .i64 0, .int .i64 ((vq : Int) + 300)] rfl rfl 29 _ Q7.out (by kernel_rfl) rfl (by simp [Value.oneCell']) ?_
              have hz := HZ.out
              have Q9 := Lib.hid (show Blk (World.setRow _ g7 #[.int .i64 2, .string s, .int .i64 0, .int .i64 ((vq : Int) + 300)]) g7 29 #[.int .i64 2, .string s, .int .i64 0, .int .i64 ((vq : Int) + 300)] from setRow_heap _ _ _ _ _ _ Q7.out)
              have QM9 := Lib.hid (show Blk (World.setRow _ g7 #[.int .i64 2, .string s, .int .i64 0, .int .i64 ((vq : Int) + 300)]) gm 27 #[.slice (some ⟨b, off, none⟩) m.keys.length ca, .slice Ar nr cr] from (setRow_other _ g7 gm _ (by omega)).trans QM.out)
              have QW9 := Lib.hid (below_setRow' QW.out hz.1 #[.int .i64 2, .string s, .int .i64 0, .int .i64 ((vq : Int) + 300)])
              have QC9 := Lib.hid (show RecAt 2 krCells (World.setRow _ g7 #[.int .i64 2, .string s, .int .i64 0, .int .i64 ((vq : Int) + 300)]) b (off + j * 2) ⟨s, kd⟩ ∧ b < (World.setRow _ g7 #[.int .i64 2, .string s, .int .i64 0, .int .i64 ((vq : Int) + 300)]).heap.size from ⟨fun k hk => (World.cell?_of_block (a := ⟨b, off + j * 2 + k, none⟩) (setRow_other _ g7 b _ (by omega))).trans (QC.out.1 k hk), by rw [setRow_size]; exact QC.out.2⟩)
              refine hK.out _ _ ⟨QM9.out, QC9.out.1, QC9.out.2⟩ (fun hHeld => ?_)
              clear hK K hHeld QM QC QW QB Q7
              try simp only [Act.put, List.getElem_toArray, List.getElem_cons_succ, List.getElem_cons_zero, List.setIfInBounds_toArray, List.set_cons_zero, List.set_cons_succ]
              refine wpAnyH_done (by kernel_rfl) ?_ _
              go_wp2_with fail
              go_meet
              exact ⟨g7, rfl, HZ.out.1, Q9.out, QW9.out⟩
            · skip
              go_simp
              have hb := below_oneM X0 (.cells #[.int .i64 0, .string ⟨#[]⟩, .int .i64 0, .int .i64 0] 29)
              have hn := Blk.new X0 X0.heap.size 29 #[.int .i64 0, .string ⟨#[]⟩, .int .i64 0, .int .i64 0] rfl
              obtain ⟨g7, hg⟩ : ∃ g, g = X0.heap.size := ⟨_, rfl⟩
              rw [← hg] at hn
              have HZ := Lib.hid (show v1.heap.size ≤ g7 ∧ gm < g7 ∧ b < g7 from by have h1 := QW.out.size; have h2 := QM.out.lt; have h3 := QC.out.2; rw [hg]; exact ⟨h1, h2, h3⟩)
              replace QM := Lib.hid (QM.out.below hb); replace QB := Lib.hid (QB.out.trans (hb.mono QB.out.size)); replace QW := Lib.hid (QW.out.trans (hb.mono QW.out.size)); replace QC := Lib.hid (show RecAt 2 krCells _ b (off + j * 2) ⟨s, kd⟩ ∧ _ from ⟨QC.out.1.below QC.out.2 hb, Nat.lt_of_lt_of_le QC.out.2 hb.size⟩)
              have Q7 := Lib.hid hn
              clear hn
              refine hK.out _ _ ⟨QM.out, QC.out.1, QC.out.2⟩ (fun hHeld => ?_)
              clear hK K hHeld hb
              try simp only [Act.put, List.getElem_toArray, List.getElem_cons_succ, List.getElem_cons_zero, List.setIfInBounds_toArray, List.set_cons_zero, List.set_cons_succ]
              rw [← hg]
              clear hg
              obtain ⟨X1, hX⟩ : ∃ Y, Y = X0.alloc (.cells #[.int .i64 0, .string ⟨#[]⟩, .int .i64 0, .int .i64 0] 29) := ⟨_, rfl⟩
              rw [← hX] at QM QB QW QC Q7 ⊢
              clear hX
              refine wpAnyH_ready (rs := [7]) (by kernel_rfl) (by simp) ?_
              refine AllReadyH.cons rfl (fun K hK => ?_) AllReadyH.nil
              go_simp
              refine (HA1 _ QB.out).out.mono ?_
              rintro e Y ⟨rfl, hy⟩
              subst hy
              refine hK.out _ _ ⟨QM.out, QC.out.1, QC.out.2⟩ (fun hHeld => ?_)
              clear hK K hHeld
              try simp only [Act.put, List.getElem_toArray, List.getElem_cons_succ, List.getElem_cons_zero, List.setIfInBounds_toArray, List.set_cons_zero, List.set_cons_succ]
              refine' wpAnyH_take (i := 8) (v := .int .i64 ((vq : Int) + 300)) rfl (by kernel_rfl) (by kernel_rfl) (by kernel_rfl) (fun _ _ _ h => h) (Or.inl ⟨by rfl, fun W h => by go_simp; rw [IntKind.wrap_i64]; omega⟩) ⟨QM.out, QC.out.1, QC.out.2⟩ ?_
              try simp only [Act.put, List.getElem_toArray, List.getElem_cons_succ, List.getElem_cons_zero, List.setIfInBounds_toArray, List.set_cons_zero, List.set_cons_succ]
              refine' wpAnyH_take (i := 9) (v := .agg #[.int .i64 2, .string s, .int .i64 0, .int .i64 ((vq : Int) + 300)]) rfl (by kernel_rfl) (by kernel_rfl) (by kernel_rfl) (fun _ _ _ h => h) (Or.inl ⟨by rfl, fun W h => by go_simp⟩) ⟨QM.out, QC.out.1, QC.out.2⟩ ?_
              try simp only [Act.put, List.getElem_toArray, List.getElem_cons_succ, List.getElem_cons_zero, List.setIfInBounds_toArray, List.set_cons_zero, List.set_cons_succ]
              refine wpAnyH_ready (rs := [11]) (by kernel_rfl) (by simp) ?_
              refine AllReadyH.cons rfl (fun K hK => ?_) AllReadyH.nil
              rw [if_pos (by rfl)]
              refine wp_store_row 29 _ _ rfl g7 #[.int .i64 2, .string s, .int .i64 0, .int .i64 ((vq : Int) + 300)] rfl rfl 29 _ Q7.out (by kernel_rfl) rfl (by simp [Value.oneCell']) ?_
              have hz := HZ.out
              have Q9 := Lib.hid (show Blk (World.setRow _ g7 #[.int .i64 2, .string s, .int .i64 0, .int .i64 ((vq : Int) + 300)]) g7 29 #[.int .i64 2, .string s, .int .i64 0, .int .i64 ((vq : Int) + 300)] from setRow_heap _ _ _ _ _ _ Q7.out)
              have QM9 := Lib.hid (show Blk (World.setRow _ g7 #[.int .i64 2, .string s, .int .i64 0, .int .i64 ((vq : Int) + 300)]) gm 27 #[.slice (some ⟨b, off, none⟩) m.keys.length ca, .slice Ar nr cr] from (setRow_other _ g7 gm _ (by omega)).trans QM.out)
              have QW9 := Lib.hid (below_setRow' QW.out hz.1 #[.int .i64 2, .string s, .int .i64 0, .int .i64 ((vq : Int) + 300)])
              have QC9 := Lib.hid (show RecAt 2 krCells (World.setRow _ g7 #[.int .i64 2, .string s, .int .i64 0, .int .i64 ((vq : Int) + 300)]) b (off + j * 2) ⟨s, kd⟩ ∧ b < (World.setRow _ g7 #[.int .i64 2, .string s, .int .i64 0, .int .i64 ((vq : Int) + 300)]).heap.size from ⟨fun k hk => (World.cell?_of_block (a := ⟨b, off + j * 2 + k, none⟩) (setRow_other _ g7 b _ (by omega))).trans (QC.out.1 k hk), by rw [setRow_size]; exact QC.out.2⟩)
              refine hK.out _ _ ⟨QM9.out, QC9.out.1, QC9.out.2⟩ (fun hHeld => ?_)
              clear hK K hHeld QM QC QW QB Q7
              try simp only [Act.put, List.getElem_toArray, List.getElem_cons_succ, List.getElem_cons_zero, List.setIfInBounds_toArray, List.set_cons_zero, List.set_cons_succ]
              refine wpAnyH_done (by kernel_rfl) ?_ _
              go_wp2_with fail
              go_meet
              exact ⟨g7, rfl, HZ.out.1, Q9.out, QW9.out⟩
          case rest =>
            have H66 := Lib.hid G6.out.lt
            obtain ⟨g7, rfl, hz7, h7, hb⟩ := hcut
            have h67 : g6 < g7 := Nat.lt_of_lt_of_le H66.out hz7
            obtain ⟨v2, hU⟩ : ∃ Y, Y = wc := ⟨_, rfl⟩
            subst hU
            replace GM := Lib.hid (GM.out.below hb); replace G6 := Lib.hid (G6.out.below hb); replace HM := Lib.hid (HM.out.below hb); replace B := Lib.hid (B.out.trans (hb.mono B.out.size)); replace HBR := Lib.hid (HBR.out.trans (hb.mono HBR.out.size))
            have G7 := Lib.hid h7
            clear h7 hb H66 HA0 HA1 q0
            go_wp2_with ((with_reducible show wpList _ _ _ _ _ _); first | refine wpList_load_row rfl 27 _ rfl (gm) rfl 27 #[.slice (some ⟨b, off, none⟩) m.keys.length ca, .slice Ar nr cr] (0, 0) _ GM.out hu rfl (by kernel_rfl) ?_ | refine wpList_load_row rfl 29 _ rfl (g6) rfl 29 #[.int .i64 2, .string s, .int .i64 0, .int .i64 (va : Int)] (0, 0) _ G6.out huo rfl (by kernel_rfl) ?_)
            refine (C1 _ _ _ _ HM.out (Nat.le_trans HB1.out HBR.out.size)).out.mono ?_
            rintro e v3 ⟨ka, ra, oa, rfl, hm, hr, ha, hb⟩
            replace GM := Lib.hid (GM.out.below hb); replace G6 := Lib.hid (G6.out.below hb); replace G7 := Lib.hid (G7.out.below hb); replace HM := Lib.hid (HM.out.below hb); replace B := Lib.hid (B.out.trans (hb.mono B.out.size)); replace HBR := Lib.hid (HBR.out.trans (hb.mono HBR.out.size))
            obtain ⟨ba, hba⟩ : ∃ b, b = v2.heap.size := ⟨_, rfl⟩
            rw [← hba] at hm
            have HLa := Lib.hid (show ba ≤ v3.heap.size from by rw [hba]; exact hb.size)
            have Ma := Lib.hid hm
            have hoc := mo_one2 hm
            clear hm hr ha hb hba
            go_upto_region 12 with ((with_reducible show wpList _ _ _ _ _ _); first | refine wpList_store_row rfl 27 _ _ rfl (v3.heap.size) #[ka, ra] rfl rfl 27 _ (Blk.new v3 v3.heap.size 27 #[.slice none 0 0, .slice none 0 0] rfl) (by kernel_rfl) rfl hoc ?_)
            refine wp_gen (fun X => ∃ g, g = v3.heap.size ∧ Blk X g 27 #[ka, ra] ∧ Below v3.heap.size v3 X) ⟨_, rfl, setRow_heap _ _ _ _ _ _ (Blk.new v3 v3.heap.size 27 #[.slice none 0 0, .slice none 0 0] rfl), below_setRow' (below_oneM v3 _) (Nat.le_refl _) _⟩ ?_
            rintro v4 ⟨g8, hg, hx, hb⟩
            rw [← hg]
            have hg8 := Lib.hid (show gm < g8 ∧ g6 < g8 ∧ g7 < g8 ∧ wr.heap.size ≤ g8 ∧ w.heap.size ≤ g8 from by have l0 := GM.out.lt; have l1 := G6.out.lt; have l2 := G7.out.lt; have h8 := HBR.out.size; have h9 := B.out.size; omega)
            replace GM := Lib.hid (GM.out.below hb); replace G6 := Lib.hid (G6.out.below hb); replace G7 := Lib.hid (G7.out.below hb); replace HM := Lib.hid (HM.out.below hb); replace Ma := Lib.hid (Ma.out.below hb); replace B := Lib.hid (B.out.trans (hb.mono B.out.size)); replace HBR := Lib.hid (HBR.out.trans (hb.mono HBR.out.size))
            replace HLa := Lib.hid (Nat.le_trans HLa.out hb.size)
            have G8 := Lib.hid hx
            clear hx hb hg hoc
            go_wp2_with ((with_reducible show wpList _ _ _ _ _ _); first | refine wpList_load_row rfl 27 _ rfl (g8) rfl 27 #[ka, ra] (0, 0) _ G8.out hu rfl (by kernel_rfl) ?_ | refine wpList_load_row rfl 29 _ rfl (g7) rfl 29 #[.int .i64 2, .string s, .int .i64 0, .int .i64 ((vq : Int) + 300)] (0, 0) _ G7.out huo rfl (by kernel_rfl) ?_)
            refine (C2 _ _ _ _ Ma.out HLa.out).out.mono ?_
            rintro e v5 ⟨kab, rab, oab, rfl, hm, hr, ha, hb⟩
            replace GM := Lib.hid (GM.out.below hb); replace G6 := Lib.hid (G6.out.below hb); replace G7 := Lib.hid (G7.out.below hb); replace G8 := Lib.hid (G8.out.below hb); replace HM := Lib.hid (HM.out.below hb); replace Ma := Lib.hid (Ma.out.below hb); replace B := Lib.hid (B.out.trans (hb.mono B.out.size)); replace HBR := Lib.hid (HBR.out.trans (hb.mono HBR.out.size))
            replace HLa := Lib.hid (Nat.le_trans HLa.out hb.size)
            obtain ⟨bab, hbab⟩ : ∃ b, b = v4.heap.size := ⟨_, rfl⟩
            rw [← hbab] at hm
            have HLab := Lib.hid (show bab ≤ v5.heap.size from by rw [hbab]; exact hb.size)
            have Mab := Lib.hid hm
            have hoc := mo_one2 hm
            clear hm hr ha hb hbab
            go_upto_region 13 with ((with_reducible show wpList _ _ _ _ _ _); first | refine wpList_store_row rfl 27 _ _ rfl (g8) #[kab, rab] rfl rfl 27 _ (G8.out) (by kernel_rfl) rfl hoc ?_)
            have hgr := Lib.hid (setRow_grown v5 g8 #[kab, rab])
            have hg0 := hg8.out
            refine wp_gen (fun X => Blk X g8 27 #[kab, rab] ∧ v5.grownBy X (some g8)) ⟨setRow_heap _ _ _ _ _ _ G8.out, hgr.out⟩ ?_
            rintro v6 ⟨hx, hg⟩
            replace HM := Lib.hid (HM.out.farT G8.out hg)
            replace Mab := Lib.hid (Mab.out.farT G8.out hg)
            replace GM := Lib.hid (GM.out.grown hg (fun e => by have e := Option.some.inj e; omega))
            replace G6 := Lib.hid (G6.out.grown hg (fun e => by have e := Option.some.inj e; omega))
            replace G7 := Lib.hid (G7.out.grown hg (fun e => by have e := Option.some.inj e; omega))
            replace B := Lib.hid (B.out.grown hg B.out.size (fun k e => by have e := Option.some.inj e; omega))
            replace HLa := Lib.hid (Nat.le_trans HLa.out hg.size); replace HLab := Lib.hid (Nat.le_trans HLab.out hg.size); replace HBR := Lib.hid (HBR.out.grown hg HBR.out.size (fun k e => by have e := Option.some.inj e; omega))
            replace G8 := Lib.hid hx
            clear hx hg hg0 hgr hoc Ma
            go_wp2_with ((with_reducible show wpList _ _ _ _ _ _); first | refine wpList_load_row rfl 27 _ rfl (gm) rfl 27 #[.slice (some ⟨b, off, none⟩) m.keys.length ca, .slice Ar nr cr] (0, 0) _ GM.out hu rfl (by kernel_rfl) ?_ | refine wpList_load_row rfl 29 _ rfl (g7) rfl 29 #[.int .i64 2, .string s, .int .i64 0, .int .i64 ((vq : Int) + 300)] (0, 0) _ G7.out huo rfl (by kernel_rfl) ?_)
            refine (C3 _ _ _ _ HM.out (Nat.le_trans HB1.out HBR.out.size)).out.mono ?_
            rintro e v7 ⟨kc, rc, oc, rfl, hm, hr, ha, hb⟩
            replace GM := Lib.hid (GM.out.below hb); replace G6 := Lib.hid (G6.out.below hb); replace G7 := Lib.hid (G7.out.below hb); replace G8 := Lib.hid (G8.out.below hb); replace HM := Lib.hid (HM.out.below hb); replace Mab := Lib.hid (Mab.out.below hb); replace B := Lib.hid (B.out.trans (hb.mono B.out.size)); replace HBR := Lib.hid (HBR.out.trans (hb.mono HBR.out.size))
            replace HLa := Lib.hid (Nat.le_trans HLa.out hb.size); replace HLab := Lib.hid (Nat.le_trans HLab.out hb.size)
            obtain ⟨bc, hbc⟩ : ∃ b, b = v6.heap.size := ⟨_, rfl⟩
            rw [← hbc] at hm
            have HLc := Lib.hid (show bc ≤ v7.heap.size from by rw [hbc]; exact hb.size)
            have Mc := Lib.hid hm
            have hoc := mo_one2 hm
            clear hm hr ha hb hbc
            go_upto_region 14 with ((with_reducible show wpList _ _ _ _ _ _); first | refine wpList_store_row rfl 27 _ _ rfl (v7.heap.size) #[kc, rc] rfl rfl 27 _ (Blk.new v7 v7.heap.size 27 #[.slice none 0 0, .slice none 0 0] rfl) (by kernel_rfl) rfl hoc ?_)
            refine wp_gen (fun X => ∃ g, g = v7.heap.size ∧ Blk X g 27 #[kc, rc] ∧ Below v7.heap.size v7 X) ⟨_, rfl, setRow_heap _ _ _ _ _ _ (Blk.new v7 v7.heap.size 27 #[.slice none 0 0, .slice none 0 0] rfl), below_setRow' (below_oneM v7 _) (Nat.le_refl _) _⟩ ?_
            rintro v8 ⟨g11, hg, hx, hb⟩
            rw [← hg]
            have hg11 := Lib.hid (show gm < g11 ∧ g6 < g11 ∧ g7 < g11 ∧ g8 < g11 ∧ wr.heap.size ≤ g11 ∧ w.heap.size ≤ g11 from by have l0 := GM.out.lt; have l1 := G6.out.lt; have l2 := G7.out.lt; have l3 := G8.out.lt; have h8 := HBR.out.size; have h9 := B.out.size; omega)
            replace GM := Lib.hid (GM.out.below hb); replace G6 := Lib.hid (G6.out.below hb); replace G7 := Lib.hid (G7.out.below hb); replace G8 := Lib.hid (G8.out.below hb); replace HM := Lib.hid (HM.out.below hb); replace Mab := Lib.hid (Mab.out.below hb); replace Mc := Lib.hid (Mc.out.below hb); replace B := Lib.hid (B.out.trans (hb.mono B.out.size)); replace HBR := Lib.hid (HBR.out.trans (hb.mono HBR.out.size))
            replace HLa := Lib.hid (Nat.le_trans HLa.out hb.size); replace HLab := Lib.hid (Nat.le_trans HLab.out hb.size); replace HLc := Lib.hid (Nat.le_trans HLc.out hb.size)
            have G11 := Lib.hid hx
            clear hx hb hg hoc
            go_wp2_with ((with_reducible show wpList _ _ _ _ _ _); first | refine wpList_load_row rfl 27 _ rfl (g11) rfl 27 #[kc, rc] (0, 0) _ G11.out hu rfl (by kernel_rfl) ?_ | refine wpList_load_row rfl 29 _ rfl (g6) rfl 29 #[.int .i64 2, .string s, .int .i64 0, .int .i64 (va : Int)] (0, 0) _ G6.out huo rfl (by kernel_rfl) ?_)
            refine (C4 _ _ _ _ Mc.out HLc.out).out.mono ?_
            rintro e v9 ⟨kcd, rcd, ocd, rfl, hm, hr, ha, hb⟩
            replace GM := Lib.hid (GM.out.below hb); replace G6 := Lib.hid (G6.out.below hb); replace G7 := Lib.hid (G7.out.below hb); replace G8 := Lib.hid (G8.out.below hb); replace G11 := Lib.hid (G11.out.below hb); replace HM := Lib.hid (HM.out.below hb); replace Mab := Lib.hid (Mab.out.below hb); replace Mc := Lib.hid (Mc.out.below hb); replace B := Lib.hid (B.out.trans (hb.mono B.out.size)); replace HBR := Lib.hid (HBR.out.trans (hb.mono HBR.out.size))
            replace HLa := Lib.hid (Nat.le_trans HLa.out hb.size); replace HLab := Lib.hid (Nat.le_trans HLab.out hb.size); replace HLc := Lib.hid (Nat.le_trans HLc.out hb.size)
            obtain ⟨bcd, hbcd⟩ : ∃ b, b = v8.heap.size := ⟨_, rfl⟩
            rw [← hbcd] at hm
            have HLcd := Lib.hid (show bcd ≤ v9.heap.size from by rw [hbcd]; exact hb.size)
            have Mcd := Lib.hid hm
            have hoc := mo_one2 hm
            clear hm hr ha hb hbcd
            go_upto_region 15 with ((with_reducible show wpList _ _ _ _ _ _); first | refine wpList_store_row rfl 27 _ _ rfl (g11) #[kcd, rcd] rfl rfl 27 _ (G11.out) (by kernel_rfl) rfl hoc ?_)
            have hgr := Lib.hid (setRow_grown v9 g11 #[kcd, rcd])
            have hg0 := hg11.out
            refine wp_gen (fun X => Blk X g11 27 #[kcd, rcd] ∧ v9.grownBy X (some g11)) ⟨setRow_heap _ _ _ _ _ _ G11.out, hgr.out⟩ ?_
            rintro v10 ⟨hx, hg⟩
            replace HM := Lib.hid (HM.out.farT G11.out hg)
            replace Mab := Lib.hid (Mab.out.farT G11.out hg)
            replace Mcd := Lib.hid (Mcd.out.farT G11.out hg)
            replace GM := Lib.hid (GM.out.grown hg (fun e => by have e := Option.some.inj e; omega))
            replace G6 := Lib.hid (G6.out.grown hg (fun e => by have e := Option.some.inj e; omega))
            replace G7 := Lib.hid (G7.out.grown hg (fun e => by have e := Option.some.inj e; omega))
            replace G8 := Lib.hid (G8.out.grown hg (fun e => by have e := Option.some.inj e; omega))
            replace B := Lib.hid (B.out.grown hg B.out.size (fun k e => by have e := Option.some.inj e; omega))
            replace HLa := Lib.hid (Nat.le_trans HLa.out hg.size); replace HLab := Lib.hid (Nat.le_trans HLab.out hg.size); replace HLc := Lib.hid (Nat.le_trans HLc.out hg.size); replace HLcd := Lib.hid (Nat.le_trans HLcd.out hg.size); replace HBR := Lib.hid (HBR.out.grown hg HBR.out.size (fun k e => by have e := Option.some.inj e; omega))
            replace G11 := Lib.hid hx
            clear hx hg hg0 hgr hoc Mc
            have q0 := GM.out.get 0
            simp at q0
            clear C1 C2 C3 C4
            obtain ⟨A1, n1, c1, rfl⟩ := own_slice Mab.out.keys
            obtain ⟨A2, n2, c2, rfl⟩ := own_slice Mab.out.rows
            obtain ⟨A3, n3, c3, rfl⟩ := own_slice Mcd.out.keys
            obtain ⟨A4, n4, c4, rfl⟩ := own_slice Mcd.out.rows
            obtain ⟨y0, y1⟩ := atKRow (HCJ.out.below HBJ.out HBR.out)
            simp only at y0 y1
            have hk3 : kd = 1 ∨ kd = 2 ∨ kd = 3 := by have := HKD.out; omega
            have HEND := Lib.hid HLT.out
            rcases hk3 with rfl | rfl | rfl
            · have hs := (HSW.out).1 rfl
              have HS := Lib.hid hs
              clear hs HSW
              go_wp2_with ((with_reducible show wpList _ _ _ _ _ _); first | refine wpList_load_row rfl 27 _ rfl (g8) rfl 27 #[.slice A1 n1 c1, .slice A2 n2 c2] (0, 0) _ G8.out hu rfl (by kernel_rfl) ?_ | refine wpList_load_row rfl 27 _ rfl (g11) rfl 27 #[.slice A3 n3 c3, .slice A4 n4 c4] (0, 0) _ G11.out hu rfl (by kernel_rfl) ?_)
              refine (same_mo _ pab.1 _ _ _ _ Mab.out.win (by rw [HS.out]; exact Mcd.out.win)).mono ?_
              rintro e vz ⟨rfl, hb⟩
              replace GM := Lib.hid (GM.out.below hb); replace G6 := Lib.hid (G6.out.below hb); replace G7 := Lib.hid (G7.out.below hb); replace G8 := Lib.hid (G8.out.below hb); replace G11 := Lib.hid (G11.out.below hb); replace HM := Lib.hid (HM.out.below hb); replace Mab := Lib.hid (Mab.out.below hb); replace Mcd := Lib.hid (Mcd.out.below hb); replace B := Lib.hid (B.out.trans (hb.mono B.out.size)); replace HBR := Lib.hid (HBR.out.trans (hb.mono HBR.out.size))
              replace HLa := Lib.hid (Nat.le_trans HLa.out hb.size); replace HLab := Lib.hid (Nat.le_trans HLab.out hb.size); replace HLc := Lib.hid (Nat.le_trans HLc.out hb.size); replace HLcd := Lib.hid (Nat.le_trans HLcd.out hb.size)
              clear hb q0 y0 y1
              go_wp2_with fail
              go_roundw
              case rel => exact ⟨j + 1, by go_num, HLT.out, GM.out, HM.out, B.out, Nat.le_trans HB1.out HBR.out.size, Nat.lt_of_lt_of_le HGL.out HBR.out.size⟩
              case measure => have := HLT.out; simp [intOf]; omega
            · skip
              have HRX := fun W (h : MoIn W pab.1 (.slice A1 n1 c1) (.slice A2 n2 c2)) => Lib.hid (iModelRow_any W pab.1 (.slice A1 n1 c1) (.slice A2 n2 c2) s h)
              have HRY := fun W (h : MoIn W pba.1 (.slice A3 n3 c3) (.slice A4 n4 c4)) => Lib.hid (iModelRow_any W pba.1 (.slice A3 n3 c3) (.slice A4 n4 c4) s h)
              have hs := (HSW.out).2.1 rfl
              clear HSW
              generalize mRowV pab.1 s = ra at *
              generalize mRowV pba.1 s = rb at *
              obtain ⟨ka0, ka1, ka2, ka3, ka4, ka5, ka6, ka7, ka8, ka9⟩ := ra
              obtain ⟨kb0, kb1, kb2, kb3, kb4, kb5, kb6, kb7, kb8, kb9⟩ := rb
              simp only at hs
              obtain ⟨h1, h2⟩ := hs
              subst h1
              subst h2
              have hfa : ∀ W, (Instr.field 42 (.agg #[.string ka0, .int .i64 ka1, .int .i64 ka2, .bool ka3, .int .i64 ((vq : Int) + 300), .int .i64 ka5, .int .i64 ka6, .int .i64 ka7, .int .i64 ka8, .int .i64 ka9]) 4).run Tryz.prog W = .ok (.int .i64 ((vq : Int) + 300)) W := fun W => field_row W ⟨ka0, ka1, ka2, ka3, ((vq : Int) + 300), ka5, ka6, ka7, ka8, ka9⟩ 4 (.inl rfl)
              have hfb : ∀ W, (Instr.field 42 (.agg #[.string kb0, .int .i64 kb1, .int .i64 kb2, .bool kb3, .int .i64 ((va : Int)), .int .i64 kb5, .int .i64 kb6, .int .i64 kb7, .int .i64 kb8, .int .i64 kb9]) 4).run Tryz.prog W = .ok (.int .i64 ((va : Int))) W := fun W => field_row W ⟨kb0, kb1, kb2, kb3, ((va : Int)), kb5, kb6, kb7, kb8, kb9⟩ 4 (.inl rfl)
              unfold R.v at HRX HRY
              go_upto_region 22 with fail
              have HSD := Lib.hid (show Below v10.heap.size v10 v10.drew from below_drew _ _)
              have HCL := (⟨HSD.out⟩ : HoldsC (fun W => Below v10.heap.size v10 W) _)
              have hall : ∀ p : Prop, (∀ W, HoldsC (fun W => Below v10.heap.size v10 W) W → p) ↔ p := fun p => ⟨fun h => h _ HCL, fun h _ _ => h⟩
              refine wp_region_wq (C := HoldsC (fun W => Below v10.heap.size v10 W)) (by kernel_rfl) (by kernel_rfl) HCL ?_
              repeat (refine WQ.step (fun K hK => ?_); go_simp; first | (refine hK _ ?_; clear hK K) | (apply Exists.intro; refine ⟨fun W hW => ?_, hK _ ?_⟩; (focus (first | (go_at_call 16; (with_reducible refine Calls.mono (Hid.out (HRX _ (Mab.out.below hW.out).win)) ?_); rintro e w' ⟨rfl, hb'⟩; exact ⟨rfl, ⟨hW.out.trans (hb'.mono hW.out.size)⟩⟩) | (go_at_call 16; (with_reducible refine Calls.mono (Hid.out (HRY _ (Mcd.out.below hW.out).win)) ?_); rintro e w' ⟨rfl, hb'⟩; exact ⟨rfl, ⟨hW.out.trans (hb'.mono hW.out.size)⟩⟩) | exact rfl | (obtain hBW := hW.out; have hBW := hW.out; have p0 := (G8.out.below hBW).get 0; have p1 := (G8.out.below hBW).get 1; have p2 := (G11.out.below hBW).get 0; have p3 := (G11.out.below hBW).get 1; have p4 := (G6.out.below hBW).get 1; have p5 := (G6.out.below hBW).get 3; have p6 := (G7.out.below hBW).get 3; simp at p0 p1 p2 p3 p4 p5 p6; go_simp; rfl))); clear hK K))
              refine WQ.nil ?_
              intro W hW
              obtain hBW := hW.out; have hBW := hW.out; have p0 := (G8.out.below hBW).get 0; have p1 := (G8.out.below hBW).get 1; have p2 := (G11.out.below hBW).get 0; have p3 := (G11.out.below hBW).get 1; have p4 := (G6.out.below hBW).get 1; have p5 := (G6.out.below hBW).get 3; have p6 := (G7.out.below hBW).get 3; simp at p0 p1 p2 p3 p4 p5 p6
              clear hall HCL
              have hb := hBW
              replace GM := Lib.hid (GM.out.below hb); replace G6 := Lib.hid (G6.out.below hb); replace G7 := Lib.hid (G7.out.below hb); replace G8 := Lib.hid (G8.out.below hb); replace G11 := Lib.hid (G11.out.below hb); replace HM := Lib.hid (HM.out.below hb); replace Mab := Lib.hid (Mab.out.below hb); replace Mcd := Lib.hid (Mcd.out.below hb); replace B := Lib.hid (B.out.trans (hb.mono B.out.size)); replace HBR := Lib.hid (HBR.out.trans (hb.mono HBR.out.size))
              replace HLa := Lib.hid (Nat.le_trans HLa.out hb.size); replace HLab := Lib.hid (Nat.le_trans HLab.out hb.size); replace HLc := Lib.hid (Nat.le_trans HLc.out hb.size); replace HLcd := Lib.hid (Nat.le_trans HLcd.out hb.size)
              clear hb hBW hW HSD p0 p1 p2 p3 p4 p5 p6 q0 y0 y1 HRX HRY
              go_wp2_with fail
              go_roundw
              case rel => exact ⟨j + 1, by go_num, HLT.out, GM.out, HM.out, B.out, Nat.le_trans HB1.out HBR.out.size, Nat.lt_of_lt_of_le HGL.out HBR.out.size⟩
              case measure => have := HLT.out; simp [intOf]; omega
            · skip
              have HRX := fun W (h : MoIn W pab.1 (.slice A1 n1 c1) (.slice A2 n2 c2)) => Lib.hid (iModelRow_any W pab.1 (.slice A1 n1 c1) (.slice A2 n2 c2) s h)
              have HRY := fun W (h : MoIn W pba.1 (.slice A3 n3 c3) (.slice A4 n4 c4)) => Lib.hid (iModelRow_any W pba.1 (.slice A3 n3 c3) (.slice A4 n4 c4) s h)
              have hs := (HSW.out).2.2 rfl
              clear HSW
              generalize mRowV pab.1 s = ra at *
              generalize mRowV pba.1 s = rb at *
              obtain ⟨ka0, ka1, ka2, ka3, ka4, ka5, ka6, ka7, ka8, ka9⟩ := ra
              obtain ⟨kb0, kb1, kb2, kb3, kb4, kb5, kb6, kb7, kb8, kb9⟩ := rb
              simp only at hs
              have hs2 : kb5 = ka5 := hs.symm
              subst hs2
              have hfa : ∀ W, (Instr.field 42 (.agg #[.string ka0, .int .i64 ka1, .int .i64 ka2, .bool ka3, .int .i64 ka4, .int .i64 kb5, .int .i64 ka6, .int .i64 ka7, .int .i64 ka8, .int .i64 ka9]) 5).run Tryz.prog W = .ok (.int .i64 kb5) W := fun W => field_row W ⟨ka0, ka1, ka2, ka3, ka4, kb5, ka6, ka7, ka8, ka9⟩ 5 (.inr rfl)
              have hfb : ∀ W, (Instr.field 42 (.agg #[.string kb0, .int .i64 kb1, .int .i64 kb2, .bool kb3, .int .i64 kb4, .int .i64 kb5, .int .i64 kb6, .int .i64 kb7, .int .i64 kb8, .int .i64 kb9]) 5).run Tryz.prog W = .ok (.int .i64 kb5) W := fun W => field_row W ⟨kb0, kb1, kb2, kb3, kb4, kb5, kb6, kb7, kb8, kb9⟩ 5 (.inr rfl)
              unfold R.v at HRX HRY
              go_upto_region 16 with fail
              have HSD := Lib.hid (show Below v10.heap.size v10 v10.drew from below_drew _ _)
              have HCL := (⟨HSD.out⟩ : HoldsC (fun W => Below v10.heap.size v10 W) _)
              have hall : ∀ p : Prop, (∀ W, HoldsC (fun W => Below v10.heap.size v10 W) W → p) ↔ p := fun p => ⟨fun h => h _ HCL, fun h _ _ => h⟩
              refine wp_region_wq (C := HoldsC (fun W => Below v10.heap.size v10 W)) (by kernel_rfl) (by kernel_rfl) HCL ?_
              repeat (refine WQ.step (fun K hK => ?_); go_simp; first | (refine hK _ ?_; clear hK K) | (apply Exists.intro; refine ⟨fun W hW => ?_, hK _ ?_⟩; (focus (first | (go_at_call 16; (with_reducible refine Calls.mono (Hid.out (HRX _ (Mab.out.below hW.out).win)) ?_); rintro e w' ⟨rfl, hb'⟩; exact ⟨rfl, ⟨hW.out.trans (hb'.mono hW.out.size)⟩⟩) | (go_at_call 16; (with_reducible refine Calls.mono (Hid.out (HRY _ (Mcd.out.below hW.out).win)) ?_); rintro e w' ⟨rfl, hb'⟩; exact ⟨rfl, ⟨hW.out.trans (hb'.mono hW.out.size)⟩⟩) | exact rfl | (obtain hBW := hW.out; have hBW := hW.out; have p0 := (G8.out.below hBW).get 0; have p1 := (G8.out.below hBW).get 1; have p2 := (G11.out.below hBW).get 0; have p3 := (G11.out.below hBW).get 1; have p4 := (G6.out.below hBW).get 1; have p5 := (G6.out.below hBW).get 3; have p6 := (G7.out.below hBW).get 3; simp at p0 p1 p2 p3 p4 p5 p6; go_simp; rfl))); clear hK K))
              refine WQ.nil ?_
              intro W hW
              obtain hBW := hW.out; have hBW := hW.out; have p0 := (G8.out.below hBW).get 0; have p1 := (G8.out.below hBW).get 1; have p2 := (G11.out.below hBW).get 0; have p3 := (G11.out.below hBW).get 1; have p4 := (G6.out.below hBW).get 1; have p5 := (G6.out.below hBW).get 3; have p6 := (G7.out.below hBW).get 3; simp at p0 p1 p2 p3 p4 p5 p6
              clear hall HCL
              have hb := hBW
              replace GM := Lib.hid (GM.out.below hb); replace G6 := Lib.hid (G6.out.below hb); replace G7 := Lib.hid (G7.out.below hb); replace G8 := Lib.hid (G8.out.below hb); replace G11 := Lib.hid (G11.out.below hb); replace HM := Lib.hid (HM.out.below hb); replace Mab := Lib.hid (Mab.out.below hb); replace Mcd := Lib.hid (Mcd.out.below hb); replace B := Lib.hid (B.out.trans (hb.mono B.out.size)); replace HBR := Lib.hid (HBR.out.trans (hb.mono HBR.out.size))
              replace HLa := Lib.hid (Nat.le_trans HLa.out hb.size); replace HLab := Lib.hid (Nat.le_trans HLab.out hb.size); replace HLc := Lib.hid (Nat.le_trans HLc.out hb.size); replace HLcd := Lib.hid (Nat.le_trans HLcd.out hb.size)
              clear hb hBW hW HSD p0 p1 p2 p3 p4 p5 p6 q0 y0 y1 HRX HRY
              go_wp2_with fail
              go_roundw
              case rel => exact ⟨j + 1, by go_num, HLT.out, GM.out, HM.out, B.out, Nat.le_trans HB1.out HBR.out.size, Nat.lt_of_lt_of_le HGL.out HBR.out.size⟩
              case measure => have := HLT.out; simp [intOf]; omega
      · have hltz : ¬ (j : Int) < (m.keys.length : Int) := by omega
        clear HA0 HA1 HDO
        go_wp2_with ((with_reducible show wpList _ _ _ _ _ _); first | refine wpList_load_row rfl 27 _ rfl (gm) rfl 27 #[.slice A m.keys.length ca, .slice Ar nr cr] (0, 0) _ GM.out hu rfl (by kernel_rfl) ?_)
        refine (HIM _ _ _ HM.out.win).out.mono ?_
        rintro e w5 ⟨rfl, hb⟩
        replace B := Lib.hid (B.out.trans (hb.mono B.out.size))
        clear hb
        go_wp2_with fail
        go_ret
        exact ⟨rfl, B.out⟩

set_option maxRecDepth 100000 in
theorem lifted (os : Os) (started : os.Started) (H : Type) (enc : TypeId × Value → H) :
    ReturnsInHanded {} Tryz.checked os 4 .any (Rows.fnSwappedSpec.pre6 enc Tryz.prog Tryz.f4 Rows.fnSwappedRow.domain false) (Rows.fnSwappedSpec.post enc Tryz.prog Tryz.f4 false true false false) := by
  refine returnsInHanded_of_change (C := Tryz.checked) own started (by kernel_rfl) Tryz.func4
    (ChangeSpec.witness6 (enc := enc) (C := Tryz.checked) false ⟨#[], #[.slice none 0 0], []⟩ 8 (by kernel_rfl) (by kernel_rfl) (by kernel_rfl) (by kernel_rfl)) ?_
  intro W base args ds gs before hval0 hW hcnd _
  have hval : ∀ (j : Nat) t v, Tryz.f4.params[j]? = some t → args[j]? = some v → Value.okWide Tryz.prog W .any base t v := hval0
  have hW' := hW
  obtain ⟨p, q, hA0, hV, rfl, hfz, hnd⟩ := hW
  have hA : DataW.TrodAll enc Tryz.prog W 0 (fun _ => true) true Tryz.f4.params.toList args.toList ds p := hA0
  rw [Tryz.params4] at hA hval
  obtain ⟨v0, vs0, d0, ds0, p0, q0, hargs, rfl, rfl, h0, r0⟩ := trodAll_cons hA
  obtain ⟨rfl, rfl, rfl⟩ := trodAll_nil r0
  obtain rfl : args = #[v0] := by cases args; simp_all
  obtain ⟨rfl, rfl⟩ := trodVars_none hV
  obtain ⟨a0, len0, cap0, rfl⟩ := okWide_slice Tryz.underlying22 (hval 0 22 v0 rfl rfl)
  have k0 := h0
  have lt0 : ∀ x ∈ p0, x.block < W.heap.size := by obtain ⟨m, hm⟩ := k0; exact DataW.trod_lt m _ _ _ hm
  obtain ⟨z0, w0⟩ : ∃ zs, IsRow W a0 len0 cap0 zs := by
    obtain ⟨fuel, hf⟩ := h0
    rcases open_ints Tryz.underlying22 Tryz.underlying5 (by kernel_rfl) hf with ⟨hcs, _⟩ | ⟨x, l, c, zs, hcs, _, hl, hm, hz, _, hcell, hwz⟩
    · simp [Value.cells] at hcs
      obtain ⟨rfl, rfl, rfl⟩ := hcs
      exact ⟨[], .inl ⟨rfl, rfl, rfl, rfl⟩⟩
    · simp [Value.cells] at hcs
      obtain ⟨rfl, rfl, rfl⟩ := hcs
      exact ⟨zs, .inr ⟨_, rfl, hl, hm, by simpa using hz, hcell, hwz⟩⟩
  clear hA0 hval0
  refine (walk W a0 len0 cap0 z0 w0).mono fun e W' ⟨he, bel⟩ => ?_
  subst he
  exact ⟨_, rfl, _, _, _, [], _, [], hW', trodAll_mk1 (shut_bool Tryz.underlying4 _), (trodAll_cons_mk (Below.trod laidOut (by kernel_rfl) (of_decide_eq_true (by kernel_rfl)) k0 bel lt0) trodAll_mk0), rfl, bel.frame _, fun h => by cases h⟩

theorem over : Rows.fnSwappedRow.holds Tryz.pinned (OpenSpec.ofChange Rows.fnSwappedSpec) :=
  OpenClaim.holds_of_wide 4 Tryz.f4 rfl rfl rfl rfl rfl rfl rfl ⟨rfl, rfl, rfl, rfl, rfl⟩ rfl rfl rfl rfl rfl (by kernel_rfl) Tryz.func4 (by kernel_rfl)
    (of_decide_eq_true (by kernel_rfl)) (by unfold Func.isWrapper; first | (rw [if_pos (by decide +kernel)]; kernel_rfl) | (rw [if_neg (by decide +kernel)]; exact ⟨rfl, rfl⟩))
    (fun os started H enc _ => lifted os started H enc)

end Go.Proofs.YtbhhhakfjmaglaaGreat.fnSwapped
namespace Go.Proofs.YtbhhhakfjmaglaaGreat
theorem fnSwapped_holds : Rows.FnSwappedSaid := fnSwapped.over
end Go.Proofs.YtbhhhakfjmaglaaGreat
