/-
  Texts of this seat, laid together.
-/
import Derived.Test.YtnlepnfdgdbkoaaGreatDoorYZd
import Derived.Test.YtnlepnfdgdbkoaaGreatDoorYMbh
import Derived.Test.YtnlepnfdgdbkoaaGreatDoorYZc
namespace Go.Proofs.YtnlepnfdgdbkoaaGreatDoor
open Go.RowKit M
set_option linter.unusedVariables false
set_option linter.unusedSimpArgs false
set_option maxRecDepth 100000 in
set_option maxHeartbeats 8000000 in
theorem iWorldNew_any (w : World) (B : Nat) (v : Value) (ls : List (List O)) (h : OwnQ w B v ls) (hf : FitQ ls) : Calls Tryz.prog 14 #[v] w (NewW w (worldNewV ls)) := by
  have harg : ArgQ w v ls := OwnD.arg h opCells_size zeroO
  have HT := Lib.hid (fun W (hb : Below w.heap.size w W) => iTodoOk_any W v ls (harg.below hb) hf)
  have HQ := Lib.hid (fun W (hb : Below w.heap.size w W) => OwnD.below h hb)
  have hul := Tryz.underlying33
  have HG0 := Lib.hid (Blk.new w w.heap.size 33 #[.slice none 0 0, .slice none 0 0, .slice none 0 0, .slice none 0 0, .int .i64 0, .int .i64 0] rfl)
  have HB0 := Lib.hid (below_oneL w (.cells #[.slice none 0 0, .slice none 0 0, .slice none 0 0, .slice none 0 0, .int .i64 0, .int .i64 0] 33))
  cases hok : todoOkV ls with
  | false =>
    have HE := Lib.hid (show worldNewV ls = zeroS from by unfold worldNewV; rw [hok]; rfl)
    rw [hok] at HT
    clear h hf harg hok HQ
    go_enter Tryz.func14, Tryz.ntmps14
    go_wp2_with fail
    refine (HT.out _ HB0.out).mono ?_
    rintro e w1 ⟨rfl, hb⟩
    have HG := Lib.hid (HG0.out.below hb)
    have HB := Lib.hid (HB0.out.trans (hb.mono HB0.out.size))
    clear hb HT HG0 HB0
    go_wp2_with ((with_reducible show wpList _ _ _ _ _ _); refine wpList_store_row rfl 33 _ _ rfl w.heap.size #[.slice none 0 0, .slice none 0 0, .slice none 0 0, .slice none 0 0, .int .i64 0, .int .i64 0] rfl rfl 33 _ HG.out (by kernel_rfl) rfl (by simp [Value.oneCell']) ?_)
    refine post_gen (fun X => Blk X w.heap.size 33 #[.slice none 0 0, .slice none 0 0, .slice none 0 0, .slice none 0 0, .int .i64 0, .int .i64 0] ∧ Below w.heap.size w X) ⟨setRow_heap _ _ _ _ _ _ HG.out, below_setRow' HB.out (Nat.le_refl _) _⟩ ?_
    rintro X ⟨hx, hb⟩
    refine bodyPost_ret (v := .agg #[.slice none 0 0, .slice none 0 0, .slice none 0 0, .slice none 0 0, .int .i64 0, .int .i64 0]) (results_cell_row rfl _ _ _ _ _ (0, 0) _ rfl hx hul rfl (by kernel_rfl)) rfl ⟨.slice none 0 0, .slice none 0 0, .slice none 0 0, .slice none 0 0, ?_, ?_, hb⟩
    · rw [HE.out]; rfl
    · rw [HE.out]; exact zero_wor hb.size
  | true =>
    have HE := Lib.hid (show worldNewV ls = ⟨List.replicate 71 0, List.replicate 4 zeroJ, ls, [], 0, 0⟩ from by unfold worldNewV; rw [hok]; rfl)
    have hsz := todoOk_small hok
    rw [hok] at HT
    have HC := Lib.hid (fun W (hb : Below w.heap.size w W) => iCloneTodo_any W B v ls (HQ.out W hb) (by omega) hsz.2)
    obtain ⟨A1, cap1, rfl, _, _⟩ := ownQ_shape h
    have HLN := Lib.hid hsz.1
    clear h hf harg hok HQ hsz
    obtain ⟨ic, hc1, hc2, hc3, hc4⟩ := info_parts info_intN
    obtain ⟨ij, hj1, hj2, hj3, hj4⟩ := info_parts info_Job
    go_enter Tryz.func14, Tryz.ntmps14
    go_wp2_with fail
    refine (HT.out _ HB0.out).mono ?_
    rintro e w1 ⟨rfl, hb⟩
    have HG := Lib.hid (HG0.out.below hb)
    have HB := Lib.hid (HB0.out.trans (hb.mono HB0.out.size))
    clear hb HT HG0 HB0
    go_upto_region 3 with fail
    have HG2 := Lib.hid (show Blk w1.drew w.heap.size 33 #[.slice none 0 0, .slice none 0 0, .slice none 0 0, .slice none 0 0, .int .i64 0, .int .i64 0] from HG.out.below (below_drew _ _))
    have HB2 := Lib.hid (HB.out.trans (below_drew _ _))
    clear HG HB
    refine wp_region_held_drew (S := (fun W' : World => (∃ cs : Array Value, cs.size = 6 ∧ Blk W' w.heap.size 33 cs) ∧ Below w.heap.size w W')) (by kernel_rfl) ⟨⟨_, rfl, HG2.out⟩, HB2.out⟩ (fun hHeld => ?_)
    refine' wpAnyH_take (i := 2) (v := .slice A1 ls.length cap1) rfl (by kernel_rfl) (by kernel_rfl) (by kernel_rfl) (fun _ _ _ h => h) (Or.inl ⟨by rfl, fun w h => by go_simp⟩) hHeld ?_
    try simp only [Act.put, List.getElem_toArray, List.getElem_cons_succ, List.getElem_cons_zero, List.setIfInBounds_toArray, List.set_cons_zero, List.set_cons_succ]
    clear hHeld
    generalize w1.drew = W0 at *
    have hz0 : w.heap.size < W0.heap.size := HG2.out.lt
    refine wpAnyH_ready (rs := [0, 1, 3]) (by kernel_rfl) (by simp) ?_
    refine (AllReadyH.cons rfl (fun K hK => ?_) (AllReadyH.cons rfl (fun K hK => ?_) (AllReadyH.cons rfl (fun K hK => ?_) AllReadyH.nil)))
    · rw [if_pos (by rfl)]
      refine oper_make _ _ _ _ rfl W0.heap.size 3 ic (.int .i64 0) 1 Tryz.underlying25 hc1 hc2 hc3 .i64 .i64 _ _ 71 rfl rfl rfl rfl (by rw [hc4]; decide) (by unfold maxLen; decide) (Nat.le_refl _) ?_
      intro W1 hown hgr
      have hb := below_madeF hgr
      replace HG2 := Lib.hid (HG2.out.below hb)
      replace HB2 := Lib.hid (HB2.out.trans (hb.mono HB2.out.size))
      have HC0 := Lib.hid (made_cells hown)
      have hz1 := hb.size
      refine hK.out _ _ ⟨⟨_, rfl, HG2.out⟩, HB2.out⟩ (fun hHeld => ?_)
      clear hK K hHeld hb hown hgr
      try simp only [Act.put, List.getElem_toArray, List.getElem_cons_succ, List.getElem_cons_zero, List.setIfInBounds_toArray, List.set_cons_zero, List.set_cons_succ]
      refine wpAnyH_ready (rs := [1, 3]) (by kernel_rfl) (by simp) ?_
      refine (AllReadyH.cons rfl (fun K hK => ?_) (AllReadyH.cons rfl (fun K hK => ?_) AllReadyH.nil))
      · rw [if_pos (by rfl)]
        refine oper_make _ _ _ _ rfl W1.heap.size 50 ij _ 18 Tryz.underlying30 hj1 hj2 hj3 .i64 .i64 _ _ 4 rfl rfl rfl rfl (by rw [hj4]; decide) (by unfold maxLen; decide) (Nat.le_refl _) ?_
        intro W2 hown hgr
        have hb := below_madeF hgr
        replace HC0 := Lib.hid (HC0.out.below hb)
        replace HG2 := Lib.hid (HG2.out.below hb)
        replace HB2 := Lib.hid (HB2.out.trans (hb.mono HB2.out.size))
        have HC1 := Lib.hid (made_jobs hown)
        have hz2 := hb.size
        refine hK.out _ _ ⟨⟨_, rfl, HG2.out⟩, HB2.out⟩ (fun hHeld => ?_)
        clear hK K hHeld hb hown hgr
        try simp only [Act.put, List.getElem_toArray, List.getElem_cons_succ, List.getElem_cons_zero, List.setIfInBounds_toArray, List.set_cons_zero, List.set_cons_succ]
        refine wpAnyH_ready (rs := [3]) (by kernel_rfl) (by simp) ?_
        refine (AllReadyH.cons rfl (fun K hK => ?_) AllReadyH.nil)
        · go_simp
          refine (HC.out W2 HB2.out).mono ?_
          rintro e W3 ⟨vt, rfl, hown, hb⟩
          replace HC0 := Lib.hid (HC0.out.below hb)
          replace HC1 := Lib.hid (OwnX.below HC1.out hb)
          replace HG2 := Lib.hid (HG2.out.below hb)
          replace HB2 := Lib.hid (HB2.out.trans (hb.mono HB2.out.size))
          have HC3 := Lib.hid (OwnD.made hown)
          have hz3 := hb.size
          refine hK.out _ _ ⟨⟨_, rfl, HG2.out⟩, HB2.out⟩ (fun hHeld => ?_)
          clear hK K hHeld hb hown
          try simp only [Act.put, List.getElem_toArray, List.getElem_cons_succ, List.getElem_cons_zero, List.setIfInBounds_toArray, List.set_cons_zero, List.set_cons_succ]
          obtain ⟨At, ct, rfl⟩ := HC3.out.slice
          refine' wpAnyH_take (i := 4) (v := .agg #[.slice (some ⟨W0.heap.size, 0, none⟩) 71 71, .slice (some ⟨W1.heap.size, 0, none⟩) 4 4, .slice At ls.length ct, .slice none 0 0, .int .i64 0, .int .i64 0]) rfl (by kernel_rfl) (by kernel_rfl) (by kernel_rfl) (fun _ _ _ h => h) (Or.inl ⟨by rfl, fun w h => by go_simp⟩) ⟨⟨_, rfl, HG2.out⟩, HB2.out⟩ ?_
          try simp only [Act.put, List.getElem_toArray, List.getElem_cons_succ, List.getElem_cons_zero, List.setIfInBounds_toArray, List.set_cons_zero, List.set_cons_succ]
          refine wpAnyH_ready (rs := [5]) (by kernel_rfl) (by simp) ?_
          refine AllReadyH.cons rfl (fun K hK => ?_) AllReadyH.nil
          rw [if_pos (by rfl)]
          refine wp_store_row 33 _ _ rfl w.heap.size #[.slice (some ⟨W0.heap.size, 0, none⟩) 71 71, .slice (some ⟨W1.heap.size, 0, none⟩) 4 4, .slice At ls.length ct, .slice none 0 0, .int .i64 0, .int .i64 0] rfl rfl 33 _ HG2.out (by kernel_rfl) rfl (by simp [Value.oneCell']) ?_
          have hblk : Blk (W3.setRow w.heap.size #[.slice (some ⟨W0.heap.size, 0, none⟩) 71 71, .slice (some ⟨W1.heap.size, 0, none⟩) 4 4, .slice At ls.length ct, .slice none 0 0, .int .i64 0, .int .i64 0]) w.heap.size 33 #[.slice (some ⟨W0.heap.size, 0, none⟩) 71 71, .slice (some ⟨W1.heap.size, 0, none⟩) 4 4, .slice At ls.length ct, .slice none 0 0, .int .i64 0, .int .i64 0] := setRow_heap _ _ _ _ _ _ HG2.out
          have hbl := below_setRow' HB2.out (Nat.le_refl w.heap.size) #[.slice (some ⟨W0.heap.size, 0, none⟩) 71 71, .slice (some ⟨W1.heap.size, 0, none⟩) 4 4, .slice At ls.length ct, .slice none 0 0, .int .i64 0, .int .i64 0]
          have hch := chg_setRow W3 w.heap.size #[.slice (some ⟨W0.heap.size, 0, none⟩) 71 71, .slice (some ⟨W1.heap.size, 0, none⟩) 4 4, .slice At ls.length ct, .slice none 0 0, .int .i64 0, .int .i64 0]
          have hsz : (W3.setRow w.heap.size #[.slice (some ⟨W0.heap.size, 0, none⟩) 71 71, .slice (some ⟨W1.heap.size, 0, none⟩) 4 4, .slice At ls.length ct, .slice none 0 0, .int .i64 0, .int .i64 0]).heap.size = W3.heap.size := setRow_size _ _ _
          refine hK.out _ _ ⟨⟨_, rfl, hblk⟩, hbl⟩ (fun hHeld => ?_)
          clear hK K hHeld
          try simp only [Act.put, List.getElem_toArray, List.getElem_cons_succ, List.getElem_cons_zero, List.setIfInBounds_toArray, List.set_cons_zero, List.set_cons_succ]
          have hwor : WorP (W3.setRow w.heap.size #[.slice (some ⟨W0.heap.size, 0, none⟩) 71 71, .slice (some ⟨W1.heap.size, 0, none⟩) 4 4, .slice At ls.length ct, .slice none 0 0, .int .i64 0, .int .i64 0]) w.heap.size (W3.setRow w.heap.size #[.slice (some ⟨W0.heap.size, 0, none⟩) 71 71, .slice (some ⟨W1.heap.size, 0, none⟩) 4 4, .slice At ls.length ct, .slice none 0 0, .int .i64 0, .int .i64 0]).heap.size ⟨List.replicate 71 0, List.replicate 4 zeroJ, ls, [], 0, 0⟩ (.slice (some ⟨W0.heap.size, 0, none⟩) 71 71) (.slice (some ⟨W1.heap.size, 0, none⟩) 4 4) (.slice At ls.length ct) (.slice none 0 0) :=
            ⟨W0.heap.size, W1.heap.size, W1.heap.size, W2.heap.size, W2.heap.size, W3.heap.size, w.heap.size, w.heap.size, ⟨⟨by omega, by omega, by omega, by omega⟩, ⟨by omega, by omega, by omega, by omega⟩, by unfold Off; omega, by unfold Off; omega, by unfold Off; omega, by unfold Off; omega, by unfold Off; omega, by unfold Off; omega⟩, ⟨HC0.out.far hch (by omega), OwnX.far HC1.out hch (by omega), HC3.out.far hch (by omega), nil_log⟩⟩
          have HWR := Lib.hid hwor
          have HBL := Lib.hid hbl
          have HBK := Lib.hid hblk
          generalize W3.setRow w.heap.size #[.slice (some ⟨W0.heap.size, 0, none⟩) 71 71, .slice (some ⟨W1.heap.size, 0, none⟩) 4 4, .slice At ls.length ct, .slice none 0 0, .int .i64 0, .int .i64 0] = X at HWR HBL HBK ⊢
          refine wpAnyH_done (by kernel_rfl) ?_ _
          clear hwor hbl hblk hch hsz
          go_wp2_with fail
          refine bodyPost_ret (v := .agg #[.slice (some ⟨W0.heap.size, 0, none⟩) 71 71, .slice (some ⟨W1.heap.size, 0, none⟩) 4 4, .slice At ls.length ct, .slice none 0 0, .int .i64 0, .int .i64 0]) (results_cell_row rfl _ _ _ _ _ (0, 0) _ rfl HBK.out hul rfl (by kernel_rfl)) rfl ⟨.slice (some ⟨W0.heap.size, 0, none⟩) 71 71, .slice (some ⟨W1.heap.size, 0, none⟩) 4 4, .slice At ls.length ct, .slice none 0 0, ?_, ?_, HBL.out⟩
          · rw [HE.out]; rfl
          · rw [HE.out]; exact HWR.out
      · go_simp
        refine (HC.out W1 HB2.out).mono ?_
        rintro e W2 ⟨vt, rfl, hown, hb⟩
        replace HC0 := Lib.hid (HC0.out.below hb)
        replace HG2 := Lib.hid (HG2.out.below hb)
        replace HB2 := Lib.hid (HB2.out.trans (hb.mono HB2.out.size))
        have HC3 := Lib.hid (OwnD.made hown)
        have hz2 := hb.size
        refine hK.out _ _ ⟨⟨_, rfl, HG2.out⟩, HB2.out⟩ (fun hHeld => ?_)
        clear hK K hHeld hb hown
        try simp only [Act.put, List.getElem_toArray, List.getElem_cons_succ, List.getElem_cons_zero, List.setIfInBounds_toArray, List.set_cons_zero, List.set_cons_succ]
        refine wpAnyH_ready (rs := [1]) (by kernel_rfl) (by simp) ?_
        refine (AllReadyH.cons rfl (fun K hK => ?_) AllReadyH.nil)
        · rw [if_pos (by rfl)]
          refine oper_make _ _ _ _ rfl W2.heap.size 50 ij _ 18 Tryz.underlying30 hj1 hj2 hj3 .i64 .i64 _ _ 4 rfl rfl rfl rfl (by rw [hj4]; decide) (by unfold maxLen; decide) (Nat.le_refl _) ?_
          intro W3 hown hgr
          have hb := below_madeF hgr
          replace HC0 := Lib.hid (HC0.out.below hb)
          replace HC3 := Lib.hid (HC3.out.below hb)
          replace HG2 := Lib.hid (HG2.out.below hb)
          replace HB2 := Lib.hid (HB2.out.trans (hb.mono HB2.out.size))
          have HC1 := Lib.hid (made_jobs hown)
          have hz3 := hb.size
          refine hK.out _ _ ⟨⟨_, rfl, HG2.out⟩, HB2.out⟩ (fun hHeld => ?_)
          clear hK K hHeld hb hown hgr
          try simp only [Act.put, List.getElem_toArray, List.getElem_cons_succ, List.getElem_cons_zero, List.setIfInBounds_toArray, List.set_cons_zero, List.set_cons_succ]
          obtain ⟨At, ct, rfl⟩ := HC3.out.slice
          refine' wpAnyH_take (i := 4) (v := .agg #[.slice (some ⟨W0.heap.size, 0, none⟩) 71 71, .slice (some ⟨W2.heap.size, 0, none⟩) 4 4, .slice At ls.length ct, .slice none 0 0, .int .i64 0, .int .i64 0]) rfl (by kernel_rfl) (by kernel_rfl) (by kernel_rfl) (fun _ _ _ h => h) (Or.inl ⟨by rfl, fun w h => by go_simp⟩) ⟨⟨_, rfl, HG2.out⟩, HB2.out⟩ ?_
          try simp only [Act.put, List.getElem_toArray, List.getElem_cons_succ, List.getElem_cons_zero, List.setIfInBounds_toArray, List.set_cons_zero, List.set_cons_succ]
          refine wpAnyH_ready (rs := [5]) (by kernel_rfl) (by simp) ?_
          refine AllReadyH.cons rfl (fun K hK => ?_) AllReadyH.nil
          rw [if_pos (by rfl)]
          refine wp_store_row 33 _ _ rfl w.heap.size #[.slice (some ⟨W0.heap.size, 0, none⟩) 71 71, .slice (some ⟨W2.heap.size, 0, none⟩) 4 4, .slice At ls.length ct, .slice none 0 0, .int .i64 0, .int .i64 0] rfl rfl 33 _ HG2.out (by kernel_rfl) rfl (by simp [Value.oneCell']) ?_
          have hblk : Blk (W3.setRow w.heap.size #[.slice (some ⟨W0.heap.size, 0, none⟩) 71 71, .slice (some ⟨W2.heap.size, 0, none⟩) 4 4, .slice At ls.length ct, .slice none 0 0, .int .i64 0, .int .i64 0]) w.heap.size 33 #[.slice (some ⟨W0.heap.size, 0, none⟩) 71 71, .slice (some ⟨W2.heap.size, 0, none⟩) 4 4, .slice At ls.length ct, .slice none 0 0, .int .i64 0, .int .i64 0] := setRow_heap _ _ _ _ _ _ HG2.out
          have hbl := below_setRow' HB2.out (Nat.le_refl w.heap.size) #[.slice (some ⟨W0.heap.size, 0, none⟩) 71 71, .slice (some ⟨W2.heap.size, 0, none⟩) 4 4, .slice At ls.length ct, .slice none 0 0, .int .i64 0, .int .i64 0]
          have hch := chg_setRow W3 w.heap.size #[.slice (some ⟨W0.heap.size, 0, none⟩) 71 71, .slice (some ⟨W2.heap.size, 0, none⟩) 4 4, .slice At ls.length ct, .slice none 0 0, .int .i64 0, .int .i64 0]
          have hsz : (W3.setRow w.heap.size #[.slice (some ⟨W0.heap.size, 0, none⟩) 71 71, .slice (some ⟨W2.heap.size, 0, none⟩) 4 4, .slice At ls.length ct, .slice none 0 0, .int .i64 0, .int .i64 0]).heap.size = W3.heap.size := setRow_size _ _ _
          refine hK.out _ _ ⟨⟨_, rfl, hblk⟩, hbl⟩ (fun hHeld => ?_)
          clear hK K hHeld
          try simp only [Act.put, List.getElem_toArray, List.getElem_cons_succ, List.getElem_cons_zero, List.setIfInBounds_toArray, List.set_cons_zero, List.set_cons_succ]
          have hwor : WorP (W3.setRow w.heap.size #[.slice (some ⟨W0.heap.size, 0, none⟩) 71 71, .slice (some ⟨W2.heap.size, 0, none⟩) 4 4, .slice At ls.length ct, .slice none 0 0, .int .i64 0, .int .i64 0]) w.heap.size (W3.setRow w.heap.size #[.slice (some ⟨W0.heap.size, 0, none⟩) 71 71, .slice (some ⟨W2.heap.size, 0, none⟩) 4 4, .slice At ls.length ct, .slice none 0 0, .int .i64 0, .int .i64 0]).heap.size ⟨List.replicate 71 0, List.replicate 4 zeroJ, ls, [], 0, 0⟩ (.slice (some ⟨W0.heap.size, 0, none⟩) 71 71) (.slice (some ⟨W2.heap.size, 0, none⟩) 4 4) (.slice At ls.length ct) (.slice none 0 0) :=
            ⟨W0.heap.size, W1.heap.size, W2.heap.size, W3.heap.size, W1.heap.size, W2.heap.size, w.heap.size, w.heap.size, ⟨⟨by omega, by omega, by omega, by omega⟩, ⟨by omega, by omega, by omega, by omega⟩, by unfold Off; omega, by unfold Off; omega, by unfold Off; omega, by unfold Off; omega, by unfold Off; omega, by unfold Off; omega⟩, ⟨HC0.out.far hch (by omega), OwnX.far HC1.out hch (by omega), HC3.out.far hch (by omega), nil_log⟩⟩
          have HWR := Lib.hid hwor
          have HBL := Lib.hid hbl
          have HBK := Lib.hid hblk
          generalize W3.setRow w.heap.size #[.slice (some ⟨W0.heap.size, 0, none⟩) 71 71, .slice (some ⟨W2.heap.size, 0, none⟩) 4 4, .slice At ls.length ct, .slice none 0 0, .int .i64 0, .int .i64 0] = X at HWR HBL HBK ⊢
          refine wpAnyH_done (by kernel_rfl) ?_ _
          clear hwor hbl hblk hch hsz
          go_wp2_with fail
          refine bodyPost_ret (v := .agg #[.slice (some ⟨W0.heap.size, 0, none⟩) 71 71, .slice (some ⟨W2.heap.size, 0, none⟩) 4 4, .slice At ls.length ct, .slice none 0 0, .int .i64 0, .int .i64 0]) (results_cell_row rfl _ _ _ _ _ (0, 0) _ rfl HBK.out hul rfl (by kernel_rfl)) rfl ⟨.slice (some ⟨W0.heap.size, 0, none⟩) 71 71, .slice (some ⟨W2.heap.size, 0, none⟩) 4 4, .slice At ls.length ct, .slice none 0 0, ?_, ?_, HBL.out⟩
          · rw [HE.out]; rfl
          · rw [HE.out]; exact HWR.out
    · rw [if_pos (by rfl)]
      refine oper_make _ _ _ _ rfl W0.heap.size 50 ij _ 18 Tryz.underlying30 hj1 hj2 hj3 .i64 .i64 _ _ 4 rfl rfl rfl rfl (by rw [hj4]; decide) (by unfold maxLen; decide) (Nat.le_refl _) ?_
      intro W1 hown hgr
      have hb := below_madeF hgr
      replace HG2 := Lib.hid (HG2.out.below hb)
      replace HB2 := Lib.hid (HB2.out.trans (hb.mono HB2.out.size))
      have HC1 := Lib.hid (made_jobs hown)
      have hz1 := hb.size
      refine hK.out _ _ ⟨⟨_, rfl, HG2.out⟩, HB2.out⟩ (fun hHeld => ?_)
      clear hK K hHeld hb hown hgr
      try simp only [Act.put, List.getElem_toArray, List.getElem_cons_succ, List.getElem_cons_zero, List.setIfInBounds_toArray, List.set_cons_zero, List.set_cons_succ]
      refine wpAnyH_ready (rs := [0, 3]) (by kernel_rfl) (by simp) ?_
      refine (AllReadyH.cons rfl (fun K hK => ?_) (AllReadyH.cons rfl (fun K hK => ?_) AllReadyH.nil))
      · rw [if_pos (by rfl)]
        refine oper_make _ _ _ _ rfl W1.heap.size 3 ic (.int .i64 0) 1 Tryz.underlying25 hc1 hc2 hc3 .i64 .i64 _ _ 71 rfl rfl rfl rfl (by rw [hc4]; decide) (by unfold maxLen; decide) (Nat.le_refl _) ?_
        intro W2 hown hgr
        have hb := below_madeF hgr
        replace HC1 := Lib.hid (OwnX.below HC1.out hb)
        replace HG2 := Lib.hid (HG2.out.below hb)
        replace HB2 := Lib.hid (HB2.out.trans (hb.mono HB2.out.size))
        have HC0 := Lib.hid (made_cells hown)
        have hz2 := hb.size
        refine hK.out _ _ ⟨⟨_, rfl, HG2.out⟩, HB2.out⟩ (fun hHeld => ?_)
        clear hK K hHeld hb hown hgr
        try simp only [Act.put, List.getElem_toArray, List.getElem_cons_succ, List.getElem_cons_zero, List.setIfInBounds_toArray, List.set_cons_zero, List.set_cons_succ]
        refine wpAnyH_ready (rs := [3]) (by kernel_rfl) (by simp) ?_
        refine (AllReadyH.cons rfl (fun K hK => ?_) AllReadyH.nil)
        · go_simp
          refine (HC.out W2 HB2.out).mono ?_
          rintro e W3 ⟨vt, rfl, hown, hb⟩
          replace HC1 := Lib.hid (OwnX.below HC1.out hb)
          replace HC0 := Lib.hid (HC0.out.below hb)
          replace HG2 := Lib.hid (HG2.out.below hb)
          replace HB2 := Lib.hid (HB2.out.trans (hb.mono HB2.out.size))
          have HC3 := Lib.hid (OwnD.made hown)
          have hz3 := hb.size
          refine hK.out _ _ ⟨⟨_, rfl, HG2.out⟩, HB2.out⟩ (fun hHeld => ?_)
          clear hK K hHeld hb hown
          try simp only [Act.put, List.getElem_toArray, List.getElem_cons_succ, List.getElem_cons_zero, List.setIfInBounds_toArray, List.set_cons_zero, List.set_cons_succ]
          obtain ⟨At, ct, rfl⟩ := HC3.out.slice
          refine' wpAnyH_take (i := 4) (v := .agg #[.slice (some ⟨W1.heap.size, 0, none⟩) 71 71, .slice (some ⟨W0.heap.size, 0, none⟩) 4 4, .slice At ls.length ct, .slice none 0 0, .int .i64 0, .int .i64 0]) rfl (by kernel_rfl) (by kernel_rfl) (by kernel_rfl) (fun _ _ _ h => h) (Or.inl ⟨by rfl, fun w h => by go_simp⟩) ⟨⟨_, rfl, HG2.out⟩, HB2.out⟩ ?_
          try simp only [Act.put, List.getElem_toArray, List.getElem_cons_succ, List.getElem_cons_zero, List.setIfInBounds_toArray, List.set_cons_zero, List.set_cons_succ]
          refine wpAnyH_ready (rs := [5]) (by kernel_rfl) (by simp) ?_
          refine AllReadyH.cons rfl (fun K hK => ?_) AllReadyH.nil
          rw [if_pos (by rfl)]
          refine wp_store_row 33 _ _ rfl w.heap.size #[.slice (some ⟨W1.heap.size, 0, none⟩) 71 71, .slice (some ⟨W0.heap.size, 0, none⟩) 4 4, .slice At ls.length ct, .slice none 0 0, .int .i64 0, .int .i64 0] rfl rfl 33 _ HG2.out (by kernel_rfl) rfl (by simp [Value.oneCell']) ?_
          have hblk : Blk (W3.setRow w.heap.size #[.slice (some ⟨W1.heap.size, 0, none⟩) 71 71, .slice (some ⟨W0.heap.size, 0, none⟩) 4 4, .slice At ls.length ct, .slice none 0 0, .int .i64 0, .int .i64 0]) w.heap.size 33 #[.slice (some ⟨W1.heap.size, 0, none⟩) 71 71, .slice (some ⟨W0.heap.size, 0, none⟩) 4 4, .slice At ls.length ct, .slice none 0 0, .int .i64 0, .int .i64 0] := setRow_heap _ _ _ _ _ _ HG2.out
          have hbl := below_setRow' HB2.out (Nat.le_refl w.heap.size) #[.slice (some ⟨W1.heap.size, 0, none⟩) 71 71, .slice (some ⟨W0.heap.size, 0, none⟩) 4 4, .slice At ls.length ct, .slice none 0 0, .int .i64 0, .int .i64 0]
          have hch := chg_setRow W3 w.heap.size #[.slice (some ⟨W1.heap.size, 0, none⟩) 71 71, .slice (some ⟨W0.heap.size, 0, none⟩) 4 4, .slice At ls.length ct, .slice none 0 0, .int .i64 0, .int .i64 0]
          have hsz : (W3.setRow w.heap.size #[.slice (some ⟨W1.heap.size, 0, none⟩) 71 71, .slice (some ⟨W0.heap.size, 0, none⟩) 4 4, .slice At ls.length ct, .slice none 0 0, .int .i64 0, .int .i64 0]).heap.size = W3.heap.size := setRow_size _ _ _
          refine hK.out _ _ ⟨⟨_, rfl, hblk⟩, hbl⟩ (fun hHeld => ?_)
          clear hK K hHeld
          try simp only [Act.put, List.getElem_toArray, List.getElem_cons_succ, List.getElem_cons_zero, List.setIfInBounds_toArray, List.set_cons_zero, List.set_cons_succ]
          have hwor : WorP (W3.setRow w.heap.size #[.slice (some ⟨W1.heap.size, 0, none⟩) 71 71, .slice (some ⟨W0.heap.size, 0, none⟩) 4 4, .slice At ls.length ct, .slice none 0 0, .int .i64 0, .int .i64 0]) w.heap.size (W3.setRow w.heap.size #[.slice (some ⟨W1.heap.size, 0, none⟩) 71 71, .slice (some ⟨W0.heap.size, 0, none⟩) 4 4, .slice At ls.length ct, .slice none 0 0, .int .i64 0, .int .i64 0]).heap.size ⟨List.replicate 71 0, List.replicate 4 zeroJ, ls, [], 0, 0⟩ (.slice (some ⟨W1.heap.size, 0, none⟩) 71 71) (.slice (some ⟨W0.heap.size, 0, none⟩) 4 4) (.slice At ls.length ct) (.slice none 0 0) :=
            ⟨W1.heap.size, W2.heap.size, W0.heap.size, W1.heap.size, W2.heap.size, W3.heap.size, w.heap.size, w.heap.size, ⟨⟨by omega, by omega, by omega, by omega⟩, ⟨by omega, by omega, by omega, by omega⟩, by unfold Off; omega, by unfold Off; omega, by unfold Off; omega, by unfold Off; omega, by unfold Off; omega, by unfold Off; omega⟩, ⟨HC0.out.far hch (by omega), OwnX.far HC1.out hch (by omega), HC3.out.far hch (by omega), nil_log⟩⟩
          have HWR := Lib.hid hwor
          have HBL := Lib.hid hbl
          have HBK := Lib.hid hblk
          generalize W3.setRow w.heap.size #[.slice (some ⟨W1.heap.size, 0, none⟩) 71 71, .slice (some ⟨W0.heap.size, 0, none⟩) 4 4, .slice At ls.length ct, .slice none 0 0, .int .i64 0, .int .i64 0] = X at HWR HBL HBK ⊢
          refine wpAnyH_done (by kernel_rfl) ?_ _
          clear hwor hbl hblk hch hsz
          go_wp2_with fail
          refine bodyPost_ret (v := .agg #[.slice (some ⟨W1.heap.size, 0, none⟩) 71 71, .slice (some ⟨W0.heap.size, 0, none⟩) 4 4, .slice At ls.length ct, .slice none 0 0, .int .i64 0, .int .i64 0]) (results_cell_row rfl _ _ _ _ _ (0, 0) _ rfl HBK.out hul rfl (by kernel_rfl)) rfl ⟨.slice (some ⟨W1.heap.size, 0, none⟩) 71 71, .slice (some ⟨W0.heap.size, 0, none⟩) 4 4, .slice At ls.length ct, .slice none 0 0, ?_, ?_, HBL.out⟩
          · rw [HE.out]; rfl
          · rw [HE.out]; exact HWR.out
      · go_simp
        refine (HC.out W1 HB2.out).mono ?_
        rintro e W2 ⟨vt, rfl, hown, hb⟩
        replace HC1 := Lib.hid (OwnX.below HC1.out hb)
        replace HG2 := Lib.hid (HG2.out.below hb)
        replace HB2 := Lib.hid (HB2.out.trans (hb.mono HB2.out.size))
        have HC3 := Lib.hid (OwnD.made hown)
        have hz2 := hb.size
        refine hK.out _ _ ⟨⟨_, rfl, HG2.out⟩, HB2.out⟩ (fun hHeld => ?_)
        clear hK K hHeld hb hown
        try simp only [Act.put, List.getElem_toArray, List.getElem_cons_succ, List.getElem_cons_zero, List.setIfInBounds_toArray, List.set_cons_zero, List.set_cons_succ]
        refine wpAnyH_ready (rs := [0]) (by kernel_rfl) (by simp) ?_
        refine (AllReadyH.cons rfl (fun K hK => ?_) AllReadyH.nil)
        · rw [if_pos (by rfl)]
          refine oper_make _ _ _ _ rfl W2.heap.size 3 ic (.int .i64 0) 1 Tryz.underlying25 hc1 hc2 hc3 .i64 .i64 _ _ 71 rfl rfl rfl rfl (by rw [hc4]; decide) (by unfold maxLen; decide) (Nat.le_refl _) ?_
          intro W3 hown hgr
          have hb := below_madeF hgr
          replace HC1 := Lib.hid (OwnX.below HC1.out hb)
          replace HC3 := Lib.hid (HC3.out.below hb)
          replace HG2 := Lib.hid (HG2.out.below hb)
          replace HB2 := Lib.hid (HB2.out.trans (hb.mono HB2.out.size))
          have HC0 := Lib.hid (made_cells hown)
          have hz3 := hb.size
          refine hK.out _ _ ⟨⟨_, rfl, HG2.out⟩, HB2.out⟩ (fun hHeld => ?_)
          clear hK K hHeld hb hown hgr
          try simp only [Act.put, List.getElem_toArray, List.getElem_cons_succ, List.getElem_cons_zero, List.setIfInBounds_toArray, List.set_cons_zero, List.set_cons_succ]
          obtain ⟨At, ct, rfl⟩ := HC3.out.slice
          refine' wpAnyH_take (i := 4) (v := .agg #[.slice (some ⟨W2.heap.size, 0, none⟩) 71 71, .slice (some ⟨W0.heap.size, 0, none⟩) 4 4, .slice At ls.length ct, .slice none 0 0, .int .i64 0, .int .i64 0]) rfl (by kernel_rfl) (by kernel_rfl) (by kernel_rfl) (fun _ _ _ h => h) (Or.inl ⟨by rfl, fun w h => by go_simp⟩) ⟨⟨_, rfl, HG2.out⟩, HB2.out⟩ ?_
          try simp only [Act.put, List.getElem_toArray, List.getElem_cons_succ, List.getElem_cons_zero, List.setIfInBounds_toArray, List.set_cons_zero, List.set_cons_succ]
          refine wpAnyH_ready (rs := [5]) (by kernel_rfl) (by simp) ?_
          refine AllReadyH.cons rfl (fun K hK => ?_) AllReadyH.nil
          rw [if_pos (by rfl)]
          refine wp_store_row 33 _ _ rfl w.heap.size #[.slice (some ⟨W2.heap.size, 0, none⟩) 71 71, .slice (some ⟨W0.heap.size, 0, none⟩) 4 4, .slice At ls.length ct, .slice none 0 0, .int .i64 0, .int .i64 0] rfl rfl 33 _ HG2.out (by kernel_rfl) rfl (by simp [Value.oneCell']) ?_
          have hblk : Blk (W3.setRow w.heap.size #[.slice (some ⟨W2.heap.size, 0, none⟩) 71 71, .slice (some ⟨W0.heap.size, 0, none⟩) 4 4, .slice At ls.length ct, .slice none 0 0, .int .i64 0, .int .i64 0]) w.heap.size 33 #[.slice (some ⟨W2.heap.size, 0, none⟩) 71 71, .slice (some ⟨W0.heap.size, 0, none⟩) 4 4, .slice At ls.length ct, .slice none 0 0, .int .i64 0, .int .i64 0] := setRow_heap _ _ _ _ _ _ HG2.out
          have hbl := below_setRow' HB2.out (Nat.le_refl w.heap.size) #[.slice (some ⟨W2.heap.size, 0, none⟩) 71 71, .slice (some ⟨W0.heap.size, 0, none⟩) 4 4, .slice At ls.length ct, .slice none 0 0, .int .i64 0, .int .i64 0]
          have hch := chg_setRow W3 w.heap.size #[.slice (some ⟨W2.heap.size, 0, none⟩) 71 71, .slice (some ⟨W0.heap.size, 0, none⟩) 4 4, .slice At ls.length ct, .slice none 0 0, .int .i64 0, .int .i64 0]
          have hsz : (W3.setRow w.heap.size #[.slice (some ⟨W2.heap.size, 0, none⟩) 71 71, .slice (some ⟨W0.heap.size, 0, none⟩) 4 4, .slice At ls.length ct, .slice none 0 0, .int .i64 0, .int .i64 0]).heap.size = W3.heap.size := setRow_size _ _ _
          refine hK.out _ _ ⟨⟨_, rfl, hblk⟩, hbl⟩ (fun hHeld => ?_)
          clear hK K hHeld
          try simp only [Act.put, List.getElem_toArray, List.getElem_cons_succ, List.getElem_cons_zero, List.setIfInBounds_toArray, List.set_cons_zero, List.set_cons_succ]
          have hwor : WorP (W3.setRow w.heap.size #[.slice (some ⟨W2.heap.size, 0, none⟩) 71 71, .slice (some ⟨W0.heap.size, 0, none⟩) 4 4, .slice At ls.length ct, .slice none 0 0, .int .i64 0, .int .i64 0]) w.heap.size (W3.setRow w.heap.size #[.slice (some ⟨W2.heap.size, 0, none⟩) 71 71, .slice (some ⟨W0.heap.size, 0, none⟩) 4 4, .slice At ls.length ct, .slice none 0 0, .int .i64 0, .int .i64 0]).heap.size ⟨List.replicate 71 0, List.replicate 4 zeroJ, ls, [], 0, 0⟩ (.slice (some ⟨W2.heap.size, 0, none⟩) 71 71) (.slice (some ⟨W0.heap.size, 0, none⟩) 4 4) (.slice At ls.length ct) (.slice none 0 0) :=
            ⟨W2.heap.size, W3.heap.size, W0.heap.size, W1.heap.size, W1.heap.size, W2.heap.size, w.heap.size, w.heap.size, ⟨⟨by omega, by omega, by omega, by omega⟩, ⟨by omega, by omega, by omega, by omega⟩, by unfold Off; omega, by unfold Off; omega, by unfold Off; omega, by unfold Off; omega, by unfold Off; omega, by unfold Off; omega⟩, ⟨HC0.out.far hch (by omega), OwnX.far HC1.out hch (by omega), HC3.out.far hch (by omega), nil_log⟩⟩
          have HWR := Lib.hid hwor
          have HBL := Lib.hid hbl
          have HBK := Lib.hid hblk
          generalize W3.setRow w.heap.size #[.slice (some ⟨W2.heap.size, 0, none⟩) 71 71, .slice (some ⟨W0.heap.size, 0, none⟩) 4 4, .slice At ls.length ct, .slice none 0 0, .int .i64 0, .int .i64 0] = X at HWR HBL HBK ⊢
          refine wpAnyH_done (by kernel_rfl) ?_ _
          clear hwor hbl hblk hch hsz
          go_wp2_with fail
          refine bodyPost_ret (v := .agg #[.slice (some ⟨W2.heap.size, 0, none⟩) 71 71, .slice (some ⟨W0.heap.size, 0, none⟩) 4 4, .slice At ls.length ct, .slice none 0 0, .int .i64 0, .int .i64 0]) (results_cell_row rfl _ _ _ _ _ (0, 0) _ rfl HBK.out hul rfl (by kernel_rfl)) rfl ⟨.slice (some ⟨W2.heap.size, 0, none⟩) 71 71, .slice (some ⟨W0.heap.size, 0, none⟩) 4 4, .slice At ls.length ct, .slice none 0 0, ?_, ?_, HBL.out⟩
          · rw [HE.out]; rfl
          · rw [HE.out]; exact HWR.out
    · go_simp
      refine (HC.out W0 HB2.out).mono ?_
      rintro e W1 ⟨vt, rfl, hown, hb⟩
      replace HG2 := Lib.hid (HG2.out.below hb)
      replace HB2 := Lib.hid (HB2.out.trans (hb.mono HB2.out.size))
      have HC3 := Lib.hid (OwnD.made hown)
      have hz1 := hb.size
      refine hK.out _ _ ⟨⟨_, rfl, HG2.out⟩, HB2.out⟩ (fun hHeld => ?_)
      clear hK K hHeld hb hown
      try simp only [Act.put, List.getElem_toArray, List.getElem_cons_succ, List.getElem_cons_zero, List.setIfInBounds_toArray, List.set_cons_zero, List.set_cons_succ]
      refine wpAnyH_ready (rs := [0, 1]) (by kernel_rfl) (by simp) ?_
      refine (AllReadyH.cons rfl (fun K hK => ?_) (AllReadyH.cons rfl (fun K hK => ?_) AllReadyH.nil))
      · rw [if_pos (by rfl)]
        refine oper_make _ _ _ _ rfl W1.heap.size 3 ic (.int .i64 0) 1 Tryz.underlying25 hc1 hc2 hc3 .i64 .i64 _ _ 71 rfl rfl rfl rfl (by rw [hc4]; decide) (by unfold maxLen; decide) (Nat.le_refl _) ?_
        intro W2 hown hgr
        have hb := below_madeF hgr
        replace HC3 := Lib.hid (HC3.out.below hb)
        replace HG2 := Lib.hid (HG2.out.below hb)
        replace HB2 := Lib.hid (HB2.out.trans (hb.mono HB2.out.size))
        have HC0 := Lib.hid (made_cells hown)
        have hz2 := hb.size
        refine hK.out _ _ ⟨⟨_, rfl, HG2.out⟩, HB2.out⟩ (fun hHeld => ?_)
        clear hK K hHeld hb hown hgr
        try simp only [Act.put, List.getElem_toArray, List.getElem_cons_succ, List.getElem_cons_zero, List.setIfInBounds_toArray, List.set_cons_zero, List.set_cons_succ]
        refine wpAnyH_ready (rs := [1]) (by kernel_rfl) (by simp) ?_
        refine (AllReadyH.cons rfl (fun K hK => ?_) AllReadyH.nil)
        · rw [if_pos (by rfl)]
          refine oper_make _ _ _ _ rfl W2.heap.size 50 ij _ 18 Tryz.underlying30 hj1 hj2 hj3 .i64 .i64 _ _ 4 rfl rfl rfl rfl (by rw [hj4]; decide) (by unfold maxLen; decide) (Nat.le_refl _) ?_
          intro W3 hown hgr
          have hb := below_madeF hgr
          replace HC3 := Lib.hid (HC3.out.below hb)
          replace HC0 := Lib.hid (HC0.out.below hb)
          replace HG2 := Lib.hid (HG2.out.below hb)
          replace HB2 := Lib.hid (HB2.out.trans (hb.mono HB2.out.size))
          have HC1 := Lib.hid (made_jobs hown)
          have hz3 := hb.size
          refine hK.out _ _ ⟨⟨_, rfl, HG2.out⟩, HB2.out⟩ (fun hHeld => ?_)
          clear hK K hHeld hb hown hgr
          try simp only [Act.put, List.getElem_toArray, List.getElem_cons_succ, List.getElem_cons_zero, List.setIfInBounds_toArray, List.set_cons_zero, List.set_cons_succ]
          obtain ⟨At, ct, rfl⟩ := HC3.out.slice
          refine' wpAnyH_take (i := 4) (v := .agg #[.slice (some ⟨W1.heap.size, 0, none⟩) 71 71, .slice (some ⟨W2.heap.size, 0, none⟩) 4 4, .slice At ls.length ct, .slice none 0 0, .int .i64 0, .int .i64 0]) rfl (by kernel_rfl) (by kernel_rfl) (by kernel_rfl) (fun _ _ _ h => h) (Or.inl ⟨by rfl, fun w h => by go_simp⟩) ⟨⟨_, rfl, HG2.out⟩, HB2.out⟩ ?_
          try simp only [Act.put, List.getElem_toArray, List.getElem_cons_succ, List.getElem_cons_zero, List.setIfInBounds_toArray, List.set_cons_zero, List.set_cons_succ]
          refine wpAnyH_ready (rs := [5]) (by kernel_rfl) (by simp) ?_
          refine AllReadyH.cons rfl (fun K hK => ?_) AllReadyH.nil
          rw [if_pos (by rfl)]
          refine wp_store_row 33 _ _ rfl w.heap.size #[.slice (some ⟨W1.heap.size, 0, none⟩) 71 71, .slice (some ⟨W2.heap.size, 0, none⟩) 4 4, .slice At ls.length ct, .slice none 0 0, .int .i64 0, .int .i64 0] rfl rfl 33 _ HG2.out (by kernel_rfl) rfl (by simp [Value.oneCell']) ?_
          have hblk : Blk (W3.setRow w.heap.size #[.slice (some ⟨W1.heap.size, 0, none⟩) 71 71, .slice (some ⟨W2.heap.size, 0, none⟩) 4 4, .slice At ls.length ct, .slice none 0 0, .int .i64 0, .int .i64 0]) w.heap.size 33 #[.slice (some ⟨W1.heap.size, 0, none⟩) 71 71, .slice (some ⟨W2.heap.size, 0, none⟩) 4 4, .slice At ls.length ct, .slice none 0 0, .int .i64 0, .int .i64 0] := setRow_heap _ _ _ _ _ _ HG2.out
          have hbl := below_setRow' HB2.out (Nat.le_refl w.heap.size) #[.slice (some ⟨W1.heap.size, 0, none⟩) 71 71, .slice (some ⟨W2.heap.size, 0, none⟩) 4 4, .slice At ls.length ct, .slice none 0 0, .int .i64 0, .int .i64 0]
          have hch := chg_setRow W3 w.heap.size #[.slice (some ⟨W1.heap.size, 0, none⟩) 71 71, .slice (some ⟨W2.heap.size, 0, none⟩) 4 4, .slice At ls.length ct, .slice none 0 0, .int .i64 0, .int .i64 0]
          have hsz : (W3.setRow w.heap.size #[.slice (some ⟨W1.heap.size, 0, none⟩) 71 71, .slice (some ⟨W2.heap.size, 0, none⟩) 4 4, .slice At ls.length ct, .slice none 0 0, .int .i64 0, .int .i64 0]).heap.size = W3.heap.size := setRow_size _ _ _
          refine hK.out _ _ ⟨⟨_, rfl, hblk⟩, hbl⟩ (fun hHeld => ?_)
          clear hK K hHeld
          try simp only [Act.put, List.getElem_toArray, List.getElem_cons_succ, List.getElem_cons_zero, List.setIfInBounds_toArray, List.set_cons_zero, List.set_cons_succ]
          have hwor : WorP (W3.setRow w.heap.size #[.slice (some ⟨W1.heap.size, 0, none⟩) 71 71, .slice (some ⟨W2.heap.size, 0, none⟩) 4 4, .slice At ls.length ct, .slice none 0 0, .int .i64 0, .int .i64 0]) w.heap.size (W3.setRow w.heap.size #[.slice (some ⟨W1.heap.size, 0, none⟩) 71 71, .slice (some ⟨W2.heap.size, 0, none⟩) 4 4, .slice At ls.length ct, .slice none 0 0, .int .i64 0, .int .i64 0]).heap.size ⟨List.replicate 71 0, List.replicate 4 zeroJ, ls, [], 0, 0⟩ (.slice (some ⟨W1.heap.size, 0, none⟩) 71 71) (.slice (some ⟨W2.heap.size, 0, none⟩) 4 4) (.slice At ls.length ct) (.slice none 0 0) :=
            ⟨W1.heap.size, W2.heap.size, W2.heap.size, W3.heap.size, W0.heap.size, W1.heap.size, w.heap.size, w.heap.size, ⟨⟨by omega, by omega, by omega, by omega⟩, ⟨by omega, by omega, by omega, by omega⟩, by unfold Off; omega, by unfold Off; omega, by unfold Off; omega, by unfold Off; omega, by unfold Off; omega, by unfold Off; omega⟩, ⟨HC0.out.far hch (by omega), OwnX.far HC1.out hch (by omega), HC3.out.far hch (by omega), nil_log⟩⟩
          have HWR := Lib.hid hwor
          have HBL := Lib.hid hbl
          have HBK := Lib.hid hblk
          generalize W3.setRow w.heap.size #[.slice (some ⟨W1.heap.size, 0, none⟩) 71 71, .slice (some ⟨W2.heap.size, 0, none⟩) 4 4, .slice At ls.length ct, .slice none 0 0, .int .i64 0, .int .i64 0] = X at HWR HBL HBK ⊢
          refine wpAnyH_done (by kernel_rfl) ?_ _
          clear hwor hbl hblk hch hsz
          go_wp2_with fail
          refine bodyPost_ret (v := .agg #[.slice (some ⟨W1.heap.size, 0, none⟩) 71 71, .slice (some ⟨W2.heap.size, 0, none⟩) 4 4, .slice At ls.length ct, .slice none 0 0, .int .i64 0, .int .i64 0]) (results_cell_row rfl _ _ _ _ _ (0, 0) _ rfl HBK.out hul rfl (by kernel_rfl)) rfl ⟨.slice (some ⟨W1.heap.size, 0, none⟩) 71 71, .slice (some ⟨W2.heap.size, 0, none⟩) 4 4, .slice At ls.length ct, .slice none 0 0, ?_, ?_, HBL.out⟩
          · rw [HE.out]; rfl
          · rw [HE.out]; exact HWR.out
      · rw [if_pos (by rfl)]
        refine oper_make _ _ _ _ rfl W1.heap.size 50 ij _ 18 Tryz.underlying30 hj1 hj2 hj3 .i64 .i64 _ _ 4 rfl rfl rfl rfl (by rw [hj4]; decide) (by unfold maxLen; decide) (Nat.le_refl _) ?_
        intro W2 hown hgr
        have hb := below_madeF hgr
        replace HC3 := Lib.hid (HC3.out.below hb)
        replace HG2 := Lib.hid (HG2.out.below hb)
        replace HB2 := Lib.hid (HB2.out.trans (hb.mono HB2.out.size))
        have HC1 := Lib.hid (made_jobs hown)
        have hz2 := hb.size
        refine hK.out _ _ ⟨⟨_, rfl, HG2.out⟩, HB2.out⟩ (fun hHeld => ?_)
        clear hK K hHeld hb hown hgr
        try simp only [Act.put, List.getElem_toArray, List.getElem_cons_succ, List.getElem_cons_zero, List.setIfInBounds_toArray, List.set_cons_zero, List.set_cons_succ]
        refine wpAnyH_ready (rs := [0]) (by kernel_rfl) (by simp) ?_
        refine (AllReadyH.cons rfl (fun K hK => ?_) AllReadyH.nil)
        · rw [if_pos (by rfl)]
          refine oper_make _ _ _ _ rfl W2.heap.size 3 ic (.int .i64 0) 1 Tryz.underlying25 hc1 hc2 hc3 .i64 .i64 _ _ 71 rfl rfl rfl rfl (by rw [hc4]; decide) (by unfold maxLen; decide) (Nat.le_refl _) ?_
          intro W3 hown hgr
          have hb := below_madeF hgr
          replace HC3 := Lib.hid (HC3.out.below hb)
          replace HC1 := Lib.hid (OwnX.below HC1.out hb)
          replace HG2 := Lib.hid (HG2.out.below hb)
          replace HB2 := Lib.hid (HB2.out.trans (hb.mono HB2.out.size))
          have HC0 := Lib.hid (made_cells hown)
          have hz3 := hb.size
          refine hK.out _ _ ⟨⟨_, rfl, HG2.out⟩, HB2.out⟩ (fun hHeld => ?_)
          clear hK K hHeld hb hown hgr
          try simp only [Act.put, List.getElem_toArray, List.getElem_cons_succ, List.getElem_cons_zero, List.setIfInBounds_toArray, List.set_cons_zero, List.set_cons_succ]
          obtain ⟨At, ct, rfl⟩ := HC3.out.slice
          refine' wpAnyH_take (i := 4) (v := .agg #[.slice (some ⟨W2.heap.size, 0, none⟩) 71 71, .slice (some ⟨W1.heap.size, 0, none⟩) 4 4, .slice At ls.length ct, .slice none 0 0, .int .i64 0, .int .i64 0]) rfl (by kernel_rfl) (by kernel_rfl) (by kernel_rfl) (fun _ _ _ h => h) (Or.inl ⟨by rfl, fun w h => by go_simp⟩) ⟨⟨_, rfl, HG2.out⟩, HB2.out⟩ ?_
          try simp only [Act.put, List.getElem_toArray, List.getElem_cons_succ, List.getElem_cons_zero, List.setIfInBounds_toArray, List.set_cons_zero, List.set_cons_succ]
          refine wpAnyH_ready (rs := [5]) (by kernel_rfl) (by simp) ?_
          refine AllReadyH.cons rfl (fun K hK => ?_) AllReadyH.nil
          rw [if_pos (by rfl)]
          refine wp_store_row 33 _ _ rfl w.heap.size #[.slice (some ⟨W2.heap.size, 0, none⟩) 71 71, .slice (some ⟨W1.heap.size, 0, none⟩) 4 4, .slice At ls.length ct, .slice none 0 0, .int .i64 0, .int .i64 0] rfl rfl 33 _ HG2.out (by kernel_rfl) rfl (by simp [Value.oneCell']) ?_
          have hblk : Blk (W3.setRow w.heap.size #[.slice (some ⟨W2.heap.size, 0, none⟩) 71 71, .slice (some ⟨W1.heap.size, 0, none⟩) 4 4, .slice At ls.length ct, .slice none 0 0, .int .i64 0, .int .i64 0]) w.heap.size 33 #[.slice (some ⟨W2.heap.size, 0, none⟩) 71 71, .slice (some ⟨W1.heap.size, 0, none⟩) 4 4, .slice At ls.length ct, .slice none 0 0, .int .i64 0, .int .i64 0] := setRow_heap _ _ _ _ _ _ HG2.out
          have hbl := below_setRow' HB2.out (Nat.le_refl w.heap.size) #[.slice (some ⟨W2.heap.size, 0, none⟩) 71 71, .slice (some ⟨W1.heap.size, 0, none⟩) 4 4, .slice At ls.length ct, .slice none 0 0, .int .i64 0, .int .i64 0]
          have hch := chg_setRow W3 w.heap.size #[.slice (some ⟨W2.heap.size, 0, none⟩) 71 71, .slice (some ⟨W1.heap.size, 0, none⟩) 4 4, .slice At ls.length ct, .slice none 0 0, .int .i64 0, .int .i64 0]
          have hsz : (W3.setRow w.heap.size #[.slice (some ⟨W2.heap.size, 0, none⟩) 71 71, .slice (some ⟨W1.heap.size, 0, none⟩) 4 4, .slice At ls.length ct, .slice none 0 0, .int .i64 0, .int .i64 0]).heap.size = W3.heap.size := setRow_size _ _ _
          refine hK.out _ _ ⟨⟨_, rfl, hblk⟩, hbl⟩ (fun hHeld => ?_)
          clear hK K hHeld
          try simp only [Act.put, List.getElem_toArray, List.getElem_cons_succ, List.getElem_cons_zero, List.setIfInBounds_toArray, List.set_cons_zero, List.set_cons_succ]
          have hwor : WorP (W3.setRow w.heap.size #[.slice (some ⟨W2.heap.size, 0, none⟩) 71 71, .slice (some ⟨W1.heap.size, 0, none⟩) 4 4, .slice At ls.length ct, .slice none 0 0, .int .i64 0, .int .i64 0]) w.heap.size (W3.setRow w.heap.size #[.slice (some ⟨W2.heap.size, 0, none⟩) 71 71, .slice (some ⟨W1.heap.size, 0, none⟩) 4 4, .slice At ls.length ct, .slice none 0 0, .int .i64 0, .int .i64 0]).heap.size ⟨List.replicate 71 0, List.replicate 4 zeroJ, ls, [], 0, 0⟩ (.slice (some ⟨W2.heap.size, 0, none⟩) 71 71) (.slice (some ⟨W1.heap.size, 0, none⟩) 4 4) (.slice At ls.length ct) (.slice none 0 0) :=
            ⟨W2.heap.size, W3.heap.size, W1.heap.size, W2.heap.size, W0.heap.size, W1.heap.size, w.heap.size, w.heap.size, ⟨⟨by omega, by omega, by omega, by omega⟩, ⟨by omega, by omega, by omega, by omega⟩, by unfold Off; omega, by unfold Off; omega, by unfold Off; omega, by unfold Off; omega, by unfold Off; omega, by unfold Off; omega⟩, ⟨HC0.out.far hch (by omega), OwnX.far HC1.out hch (by omega), HC3.out.far hch (by omega), nil_log⟩⟩
          have HWR := Lib.hid hwor
          have HBL := Lib.hid hbl
          have HBK := Lib.hid hblk
          generalize W3.setRow w.heap.size #[.slice (some ⟨W2.heap.size, 0, none⟩) 71 71, .slice (some ⟨W1.heap.size, 0, none⟩) 4 4, .slice At ls.length ct, .slice none 0 0, .int .i64 0, .int .i64 0] = X at HWR HBL HBK ⊢
          refine wpAnyH_done (by kernel_rfl) ?_ _
          clear hwor hbl hblk hch hsz
          go_wp2_with fail
          refine bodyPost_ret (v := .agg #[.slice (some ⟨W2.heap.size, 0, none⟩) 71 71, .slice (some ⟨W1.heap.size, 0, none⟩) 4 4, .slice At ls.length ct, .slice none 0 0, .int .i64 0, .int .i64 0]) (results_cell_row rfl _ _ _ _ _ (0, 0) _ rfl HBK.out hul rfl (by kernel_rfl)) rfl ⟨.slice (some ⟨W2.heap.size, 0, none⟩) 71 71, .slice (some ⟨W1.heap.size, 0, none⟩) 4 4, .slice At ls.length ct, .slice none 0 0, ?_, ?_, HBL.out⟩
          · rw [HE.out]; rfl
          · rw [HE.out]; exact HWR.out
end Go.Proofs.YtnlepnfdgdbkoaaGreatDoor
