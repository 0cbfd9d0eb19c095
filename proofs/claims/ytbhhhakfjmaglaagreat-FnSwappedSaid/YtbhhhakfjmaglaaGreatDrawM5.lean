/-
  Chapter 13's draw for ModelDo, told in less.
-/
import Derived.Test.YtbhhhakfjmaglaaGreatDrawM3
namespace Go.Proofs.YtbhhhakfjmaglaaGreat
open Go.RowKit M
set_option linter.unusedVariables false
set_option linter.unusedSimpArgs false
theorem MoOwn.farB {w w' : World} {B g : Nat} {t : TypeId} {m : Mo} {vk vr : Value} {cs : Array Value} (h : MoOwn w B m vk vr) (hb : Blk w g t cs) (h1 : t ≠ 40) (h2 : t ≠ 42) (hg : w.grownBy w' (some g)) : MoOwn w' B m vk vr :=
  ⟨h.keys.kept hg (own_ne h.keys hb (Ne.symm h1)), h.rows.kept hg (own_ne h.rows hb (Ne.symm h2)), h.ap⟩
def GivesMO (w : World) (e : Ending) (w' : World) : Prop := ∃ (m : Mo) (vk vr : Value) (o : O), m.Fit ∧ (m.keys.length ≤ 101 ∧ m.rows.length ≤ 101) ∧ o.Fit ∧ e = .returned (.tuple #[.agg #[vk, vr], o.v]) ∧ MoOwn w' w.heap.size m vk vr ∧ Below w.heap.size w w'
set_option maxRecDepth 100000 in
set_option maxHeartbeats 3000000 in
theorem drawModelDo_some (w : World) (K : Code) (hk : CodeIn w K) (hl : K.len ≤ 1048576) : Calls Tryz.prog 7 #[.slice K.A K.len K.cap] w (GivesMO w) := by
  have HN := fun W (hb : Below w.heap.size w W) => Lib.hid (new_any W K (hk.below hb) hl)
  have HDO := fun W (hb : Below w.heap.size w W) => Lib.hid (drawOpOk_some W K (hk.below hb) hl)
  have hK := CodeB.of_in hk
  have hu := Tryz.underlying27
  have huo := Tryz.underlying29
  clear hk hl
  go_enter Tryz.func7, Tryz.ntmps7
  go_upto_region 1 with fail
  refine wp_gen (fun W => Blk W w.heap.size 27 #[.slice none 0 0, .slice none 0 0] ∧ Blk W (w.heap.size + 1) 29 #[.int .i64 0, .string ⟨#[]⟩, .int .i64 0, .int .i64 0] ∧ Below w.heap.size w W) ⟨(Blk.new w _ _ _ rfl).alloc _, Blk.new _ _ _ _ (by simp [go_sem]), ((Below.refl _ _).alloc (Nat.le_refl _) _).alloc (by simp [go_sem]) _⟩ ?_
  rintro W ⟨g0, gq, hb⟩
  go_wp2_with fail
  refine (HN W hb).out.mono ?_
  rintro e W1 ⟨g, rfl, hg, c1, hb1⟩
  have hlt := gq.lt
  have hgw : w.heap.size + 1 < g := by omega
  have G0 := Lib.hid (g0.below hb1); have GQ := Lib.hid (gq.below hb1)
  have D := Lib.hid (show NW w g K W1 from ⟨⟨_, c1⟩, hb.trans (hb1.mono hb.size), hK, by omega⟩)
  have C1 := Lib.hid c1
  have hcl := c1.lt
  clear HN g0 gq hb hb1 c1 hg hlt W
  go_wp2_with fail
  refine (l13Any_some W1 g K _ C1.out (hK.mono D.out.b.size)).mono ?_
  rintro e W2 ⟨m, vk, vr, s2, hf, hl, rfl, hm, c2, hg⟩
  replace G0 := Lib.hid (G0.out.turnG hg (by omega)); replace GQ := Lib.hid (GQ.out.turnG hg (by omega)); replace D := Lib.hid (D.out.call c2 hg)
  obtain ⟨bM, hbM⟩ : ∃ b, b = W1.heap.size := ⟨_, rfl⟩
  rw [← hbM] at hm hcl
  have HM := Lib.hid hm
  have HF := Lib.hid hf
  have HL := Lib.hid hl
  have HBW := Lib.hid (show w.heap.size + 1 < bM from by omega)
  have hoc := mo_one2 hm
  clear hm hf hl c2 hg C1 hbM
  obtain ⟨Ak, nk, ck, rfl⟩ := own_slice HM.out.keys
  obtain ⟨Ar, nr, cr, rfl⟩ := own_slice HM.out.rows
  go_upto_region 3 with ((with_reducible show wpList _ _ _ _ _ _); refine wpList_store_row rfl 27 _ _ rfl (W2.heap.size) #[.slice Ak nk ck, .slice Ar nr cr] rfl rfl 27 _ (Blk.new W2 W2.heap.size 27 #[.slice none 0 0, .slice none 0 0] rfl) (by kernel_rfl) rfl hoc ?_)
  refine wp_gen (fun X => ∃ gm, (gm = W2.heap.size ∧ g < gm ∧ w.heap.size + 1 < gm) ∧ Blk X gm 27 #[.slice Ak nk ck, .slice Ar nr cr] ∧ Blk X w.heap.size 27 #[.slice none 0 0, .slice none 0 0] ∧ Blk X (w.heap.size + 1) 29 #[.int .i64 0, .string ⟨#[]⟩, .int .i64 0, .int .i64 0] ∧ MoOwn X bM m (.slice Ak nk ck) (.slice Ar nr cr) ∧ NW w g K X) ?h0 ?_
  case h0 =>
    have hb := below_oneM W2 (.cells #[.slice none 0 0, .slice none 0 0] 27)
    have hgl : g < W2.heap.size := by obtain ⟨s, c⟩ := D.out.cur; exact c.lt
    have h0l := GQ.out.lt
    have hn := Blk.new W2 W2.heap.size 27 #[.slice none 0 0, .slice none 0 0] rfl
    exact ⟨_, ⟨rfl, hgl, h0l⟩, setRow_heap _ _ _ _ _ _ hn, (setRow_other _ W2.heap.size w.heap.size _ (by omega)).trans (G0.out.below hb), (setRow_other _ W2.heap.size (w.heap.size + 1) _ (by omega)).trans (GQ.out.below hb), (HM.out.below hb).farT hn (setRow_grown _ _ _), (D.out.below hb).turn (setRow_grown _ W2.heap.size _) (fun k e => by have e := Option.some.inj e; omega)⟩
  rintro W3 ⟨gm, ⟨hgm, hgg, hgw2⟩, h1, h0, hq, hm, d⟩
  rw [← hgm]
  clear hgm G0 GQ D HM hoc
  have G0 := Lib.hid h0; have GQ := Lib.hid hq; have GM := Lib.hid h1; have D := Lib.hid d; have HM := Lib.hid hm
  obtain ⟨s3, c3⟩ := d.cur
  have C3 := Lib.hid c3
  clear h0 hq h1 d hm c3
  go_wp2_with fail
  refine (l10Op_some W3 g K s3 C3.out (hK.mono D.out.b.size)).mono ?_
  rintro e W4 ⟨q, s4, hq, rfl, c4, hg⟩
  replace G0 := Lib.hid (G0.out.turnG hg (by omega)); replace GQ := Lib.hid (GQ.out.turnG hg (by omega)); replace GM := Lib.hid (GM.out.turnG hg (by omega)); replace D := Lib.hid (D.out.call c4 hg); replace HM := Lib.hid (HM.out.turnG hg hcl)
  have HQ := Lib.hid hq
  clear hq c4 hg C3
  obtain ⟨okind, okey, owhat, oval⟩ := q
  unfold O.v
  simp only
  go_upto_region 4 with ((with_reducible show wpList _ _ _ _ _ _); refine wpList_store_row rfl 29 _ _ rfl (W4.heap.size) #[.int .i64 okind, .string okey, .int .i64 owhat, .int .i64 oval] rfl rfl 29 _ (Blk.new W4 W4.heap.size 29 #[.int .i64 0, .string ⟨#[]⟩, .int .i64 0, .int .i64 0] rfl) (by kernel_rfl) rfl (by simp [Value.oneCell']) ?_)
  refine wp_gen (fun X => ∃ gb, (gb = W4.heap.size ∧ g < gb ∧ gm < gb) ∧ Blk X gb 29 #[.int .i64 okind, .string okey, .int .i64 owhat, .int .i64 oval] ∧ Blk X gm 27 #[.slice Ak nk ck, .slice Ar nr cr] ∧ Blk X w.heap.size 27 #[.slice none 0 0, .slice none 0 0] ∧ Blk X (w.heap.size + 1) 29 #[.int .i64 0, .string ⟨#[]⟩, .int .i64 0, .int .i64 0] ∧ MoOwn X bM m (.slice Ak nk ck) (.slice Ar nr cr) ∧ NW w g K X) ?h0 ?_
  case h0 =>
    have hb := below_oneM W4 (.cells #[.int .i64 0, .string ⟨#[]⟩, .int .i64 0, .int .i64 0] 29)
    have hgl : g < W4.heap.size := by obtain ⟨s, c⟩ := D.out.cur; exact c.lt
    have hml := GM.out.lt
    have hn := Blk.new W4 W4.heap.size 29 #[.int .i64 0, .string ⟨#[]⟩, .int .i64 0, .int .i64 0] rfl
    exact ⟨_, ⟨rfl, hgl, hml⟩, setRow_heap _ _ _ _ _ _ hn, (setRow_other _ W4.heap.size gm _ (by omega)).trans (GM.out.below hb), (setRow_other _ W4.heap.size w.heap.size _ (by omega)).trans (G0.out.below hb), (setRow_other _ W4.heap.size (w.heap.size + 1) _ (by omega)).trans (GQ.out.below hb), (HM.out.below hb).farB hn (by decide) (by decide) (setRow_grown _ _ _), (D.out.below hb).turn (setRow_grown _ W4.heap.size _) (fun k e => by have e := Option.some.inj e; omega)⟩
  rintro W5 ⟨gb, ⟨hgb, hgg2, hgm2⟩, hb', h1, h0, hq, hm, d⟩
  rw [← hgb]
  clear hgb G0 GQ GM D HM
  have G0 := Lib.hid h0; have GQ := Lib.hid hq; have GM := Lib.hid h1; have GB := Lib.hid hb'; have D := Lib.hid d; have HM := Lib.hid hm
  obtain ⟨s5, c5⟩ := d.cur
  have C5 := Lib.hid c5
  clear h0 hq h1 hb' d hm c5
  go_wp2_with fail
  refine (below_some W5 g K 8 s5 C5.out (by decide) (by decide)).mono ?_
  rintro e W6 ⟨x, s6, ⟨hx0, hx1⟩, rfl, c6, hg⟩
  replace G0 := Lib.hid (G0.out.turnG hg (by omega)); replace GQ := Lib.hid (GQ.out.turnG hg (by omega)); replace GM := Lib.hid (GM.out.turnG hg (by omega)); replace GB := Lib.hid (GB.out.turnG hg (by omega)); replace HM := Lib.hid (HM.out.turnG hg hcl)
  have HB := Lib.hid (D.out.call c6 hg).b
  clear c6 hg C5 D
  by_cases hx : x = 0
  · have d0 : (x == 0) = true := by rw [beq_iff_eq]; exact hx
    clear hx hx0 hx1 HDO
    go_upto_region 9 with ((with_reducible show wpList _ _ _ _ _ _); refine wpList_store_row rfl 29 _ _ rfl (gb) #[.int .i64 3, .string ⟨#[]⟩, .int .i64 0, .int .i64 0] rfl rfl 29 _ GB.out (by kernel_rfl) rfl (by simp [Value.oneCell']) ?_)
    refine wp_gen (fun X => Blk X gb 29 #[.int .i64 3, .string ⟨#[]⟩, .int .i64 0, .int .i64 0] ∧ Blk X gm 27 #[.slice Ak nk ck, .slice Ar nr cr] ∧ Blk X w.heap.size 27 #[.slice none 0 0, .slice none 0 0] ∧ Blk X (w.heap.size + 1) 29 #[.int .i64 0, .string ⟨#[]⟩, .int .i64 0, .int .i64 0] ∧ MoOwn X bM m (.slice Ak nk ck) (.slice Ar nr cr) ∧ Below w.heap.size w X) ⟨setRow_heap _ _ _ _ _ _ GB.out, (setRow_other _ gb gm _ (by omega)).trans GM.out, (setRow_other _ gb w.heap.size _ (by omega)).trans G0.out, (setRow_other _ gb (w.heap.size + 1) _ (by omega)).trans GQ.out, HM.out.farB GB.out (by decide) (by decide) (setRow_grown _ _ _), below_setRow' HB.out (by omega) _⟩ ?_
    rintro WN ⟨hb', h1, h0, hq, hm, hb⟩
    clear G0 GQ GM GB HM HB
    have G0 := Lib.hid h0; have GQ := Lib.hid hq; have GM := Lib.hid h1; have GB := Lib.hid hb'; have HB := Lib.hid hb; have HM := Lib.hid hm
    clear h0 hq h1 hb' hb hm
    go_upto_region 9 with fail
    have hbd : Below WN.heap.size WN WN.drew := below_drew _ _
    replace G0 := Lib.hid (G0.out.below hbd); replace GQ := Lib.hid (GQ.out.below hbd); replace GM := Lib.hid (GM.out.below hbd); replace GB := Lib.hid (GB.out.below hbd); replace HM := Lib.hid (HM.out.below hbd); replace HB := Lib.hid (HB.out.trans (hbd.mono HB.out.size))
    clear hbd
    refine wp_region_held_drew (S := fun X : World => Blk X gm 27 #[.slice Ak nk ck, .slice Ar nr cr] ∧ Blk X gb 29 #[.int .i64 3, .string ⟨#[]⟩, .int .i64 0, .int .i64 0]) (by kernel_rfl) ⟨GM.out, GB.out⟩ (fun hHeld => ?_)
    clear hHeld
    generalize WN.drew = X0 at *
    refine' wpAnyH_take (i := 0) (v := .agg #[.slice Ak nk ck, .slice Ar nr cr]) rfl (by kernel_rfl) (by kernel_rfl) (by kernel_rfl) (fun _ _ _ h => h) (yieldsIf_load_mid (by rfl) 27 _ rfl gm 0 rfl (#[.slice Ak nk ck, .slice Ar nr cr] : Array Value).toList _ (fun w' h => Blk.rangeM h.1) hu rfl (by kernel_rfl)) ⟨GM.out, GB.out⟩ ?_
    try simp only [Act.put, List.getElem_toArray, List.getElem_cons_succ, List.getElem_cons_zero, List.setIfInBounds_toArray, List.set_cons_zero, List.set_cons_succ]
    refine' wpAnyH_take (i := 1) (v := .agg #[.int .i64 3, .string ⟨#[]⟩, .int .i64 0, .int .i64 0]) rfl (by kernel_rfl) (by kernel_rfl) (by kernel_rfl) (fun _ _ _ h => h) (yieldsIf_load_mid (by rfl) 29 _ rfl gb 0 rfl (#[.int .i64 3, .string ⟨#[]⟩, .int .i64 0, .int .i64 0] : Array Value).toList _ (fun w' h => Blk.rangeM h.2) huo rfl (by kernel_rfl)) ⟨GM.out, GB.out⟩ ?_
    try simp only [Act.put, List.getElem_toArray, List.getElem_cons_succ, List.getElem_cons_zero, List.setIfInBounds_toArray, List.set_cons_zero, List.set_cons_succ]
    refine wpAnyH_ready (rs := [2]) (by kernel_rfl) (by simp) ?_
    refine AllReadyH.cons rfl (fun K hK => ?_) AllReadyH.nil
    rw [if_pos (by rfl)]
    have hoc := mo_one2 HM.out
    refine wp_store_row 27 _ _ rfl w.heap.size #[.slice Ak nk ck, .slice Ar nr cr] rfl rfl 27 _ G0.out (by kernel_rfl) rfl hoc ?_
    replace GM := Lib.hid (show Blk (X0.setRow w.heap.size #[.slice Ak nk ck, .slice Ar nr cr]) gm 27 #[.slice Ak nk ck, .slice Ar nr cr] from (setRow_other _ w.heap.size gm _ (by omega)).trans GM.out)
    replace GB := Lib.hid (show Blk (X0.setRow w.heap.size #[.slice Ak nk ck, .slice Ar nr cr]) gb 29 #[.int .i64 3, .string ⟨#[]⟩, .int .i64 0, .int .i64 0] from (setRow_other _ w.heap.size gb _ (by omega)).trans GB.out)
    replace GQ := Lib.hid (show Blk (X0.setRow w.heap.size #[.slice Ak nk ck, .slice Ar nr cr]) (w.heap.size + 1) 29 #[.int .i64 0, .string ⟨#[]⟩, .int .i64 0, .int .i64 0] from (setRow_other _ w.heap.size (w.heap.size + 1) _ (by omega)).trans GQ.out)
    replace HM := Lib.hid (HM.out.farT G0.out (setRow_grown _ w.heap.size #[.slice Ak nk ck, .slice Ar nr cr]))
    replace HB := Lib.hid (below_setRow' HB.out (Nat.le_refl _) #[.slice Ak nk ck, .slice Ar nr cr])
    replace G0 := Lib.hid (show Blk (X0.setRow w.heap.size #[.slice Ak nk ck, .slice Ar nr cr]) w.heap.size 27 #[.slice Ak nk ck, .slice Ar nr cr] from setRow_heap _ _ _ _ _ _ G0.out)
    refine hK.out _ _ ⟨GM.out, GB.out⟩ (fun hHeld => ?_)
    clear hK K hHeld hoc
    try simp only [Act.put, List.getElem_toArray, List.getElem_cons_succ, List.getElem_cons_zero, List.setIfInBounds_toArray, List.set_cons_zero, List.set_cons_succ]
    generalize X0.setRow w.heap.size #[.slice Ak nk ck, .slice Ar nr cr] = X1 at *
    refine wpAnyH_ready (rs := [3]) (by kernel_rfl) (by simp) ?_
    refine AllReadyH.cons rfl (fun K hK => ?_) AllReadyH.nil
    rw [if_pos (by rfl)]
    refine wp_store_row 29 _ _ rfl (w.heap.size + 1) #[.int .i64 3, .string ⟨#[]⟩, .int .i64 0, .int .i64 0] rfl rfl 29 _ GQ.out (by kernel_rfl) rfl (by simp [Value.oneCell']) ?_
    replace GM := Lib.hid (show Blk (X1.setRow (w.heap.size + 1) #[.int .i64 3, .string ⟨#[]⟩, .int .i64 0, .int .i64 0]) gm 27 #[.slice Ak nk ck, .slice Ar nr cr] from (setRow_other _ (w.heap.size + 1) gm _ (by omega)).trans GM.out)
    replace GB := Lib.hid (show Blk (X1.setRow (w.heap.size + 1) #[.int .i64 3, .string ⟨#[]⟩, .int .i64 0, .int .i64 0]) gb 29 #[.int .i64 3, .string ⟨#[]⟩, .int .i64 0, .int .i64 0] from (setRow_other _ (w.heap.size + 1) gb _ (by omega)).trans GB.out)
    replace G0 := Lib.hid (show Blk (X1.setRow (w.heap.size + 1) #[.int .i64 3, .string ⟨#[]⟩, .int .i64 0, .int .i64 0]) w.heap.size 27 #[.slice Ak nk ck, .slice Ar nr cr] from (setRow_other _ (w.heap.size + 1) w.heap.size _ (by omega)).trans G0.out)
    replace HM := Lib.hid (HM.out.farB GQ.out (by decide) (by decide) (setRow_grown _ (w.heap.size + 1) #[.int .i64 3, .string ⟨#[]⟩, .int .i64 0, .int .i64 0]))
    replace HB := Lib.hid (below_setRow' HB.out (show w.heap.size ≤ w.heap.size + 1 by omega) #[.int .i64 3, .string ⟨#[]⟩, .int .i64 0, .int .i64 0])
    replace GQ := Lib.hid (show Blk (X1.setRow (w.heap.size + 1) #[.int .i64 3, .string ⟨#[]⟩, .int .i64 0, .int .i64 0]) (w.heap.size + 1) 29 #[.int .i64 3, .string ⟨#[]⟩, .int .i64 0, .int .i64 0] from setRow_heap _ _ _ _ _ _ GQ.out)
    refine hK.out _ _ ⟨GM.out, GB.out⟩ (fun hHeld => ?_)
    clear hK K hHeld
    try simp only [Act.put, List.getElem_toArray, List.getElem_cons_succ, List.getElem_cons_zero, List.setIfInBounds_toArray, List.set_cons_zero, List.set_cons_succ]
    generalize X1.setRow (w.heap.size + 1) #[.int .i64 3, .string ⟨#[]⟩, .int .i64 0, .int .i64 0] = X2 at *
    refine wpAnyH_done (by kernel_rfl) ?_ _
    go_wp2_with fail
    exact bodyPost_ret (v := .tuple #[.agg #[.slice Ak nk ck, .slice Ar nr cr], .agg #[.int .i64 3, .string ⟨#[]⟩, .int .i64 0, .int .i64 0]]) (results_cellMO rfl _ _ _ _ _ _ _ _ _ _ rfl G0.out rfl GQ.out hu rfl (by kernel_rfl) huo rfl (by kernel_rfl)) rfl ⟨m, _, _, ⟨3, ⟨#[]⟩, 0, 0⟩, HF.out, HL.out, ⟨inW_i (by decide), by unfold maxLen; decide, inW_i (by decide), inW_i (by decide)⟩, rfl, HM.out.base (by have := HBW.out; omega), HB.out⟩
  have d0 : (x == 0) = false := by rw [beq_eq_false_iff_ne]; exact hx
  by_cases hy : x = 1
  · have d1 : (x == 1) = true := by rw [beq_iff_eq]; exact hy
    clear hx hy hx0 hx1
    go_wp2_with fail
    refine (HDO W6 HB.out).out.mono ?_
    rintro e W7 ⟨q, hq, rfl, hb⟩
    replace G0 := Lib.hid (G0.out.below hb); replace GQ := Lib.hid (GQ.out.below hb); replace GM := Lib.hid (GM.out.below hb); replace GB := Lib.hid (GB.out.below hb); replace HM := Lib.hid (HM.out.below hb); replace HB := Lib.hid (HB.out.trans (hb.mono HB.out.size))
    have HQ2 := Lib.hid hq
    clear hq hb HDO
    obtain ⟨pkind, pkey, pwhat, pval⟩ := q
    unfold O.v
    simp only
    go_upto_region 9 with ((with_reducible show wpList _ _ _ _ _ _); refine wpList_store_row rfl 29 _ _ rfl (gb) #[.int .i64 pkind, .string pkey, .int .i64 pwhat, .int .i64 pval] rfl rfl 29 _ GB.out (by kernel_rfl) rfl (by simp [Value.oneCell']) ?_)
    refine wp_gen (fun X => Blk X gb 29 #[.int .i64 pkind, .string pkey, .int .i64 pwhat, .int .i64 pval] ∧ Blk X gm 27 #[.slice Ak nk ck, .slice Ar nr cr] ∧ Blk X w.heap.size 27 #[.slice none 0 0, .slice none 0 0] ∧ Blk X (w.heap.size + 1) 29 #[.int .i64 0, .string ⟨#[]⟩, .int .i64 0, .int .i64 0] ∧ MoOwn X bM m (.slice Ak nk ck) (.slice Ar nr cr) ∧ Below w.heap.size w X) ⟨setRow_heap _ _ _ _ _ _ GB.out, (setRow_other _ gb gm _ (by omega)).trans GM.out, (setRow_other _ gb w.heap.size _ (by omega)).trans G0.out, (setRow_other _ gb (w.heap.size + 1) _ (by omega)).trans GQ.out, HM.out.farB GB.out (by decide) (by decide) (setRow_grown _ _ _), below_setRow' HB.out (by omega) _⟩ ?_
    rintro WN ⟨hb', h1, h0, hq, hm, hb⟩
    clear G0 GQ GM GB HM HB
    have G0 := Lib.hid h0; have GQ := Lib.hid hq; have GM := Lib.hid h1; have GB := Lib.hid hb'; have HB := Lib.hid hb; have HM := Lib.hid hm
    clear h0 hq h1 hb' hb hm
    go_upto_region 9 with fail
    have hbd : Below WN.heap.size WN WN.drew := below_drew _ _
    replace G0 := Lib.hid (G0.out.below hbd); replace GQ := Lib.hid (GQ.out.below hbd); replace GM := Lib.hid (GM.out.below hbd); replace GB := Lib.hid (GB.out.below hbd); replace HM := Lib.hid (HM.out.below hbd); replace HB := Lib.hid (HB.out.trans (hbd.mono HB.out.size))
    clear hbd
    refine wp_region_held_drew (S := fun X : World => Blk X gm 27 #[.slice Ak nk ck, .slice Ar nr cr] ∧ Blk X gb 29 #[.int .i64 pkind, .string pkey, .int .i64 pwhat, .int .i64 pval]) (by kernel_rfl) ⟨GM.out, GB.out⟩ (fun hHeld => ?_)
    clear hHeld
    generalize WN.drew = X0 at *
    refine' wpAnyH_take (i := 0) (v := .agg #[.slice Ak nk ck, .slice Ar nr cr]) rfl (by kernel_rfl) (by kernel_rfl) (by kernel_rfl) (fun _ _ _ h => h) (yieldsIf_load_mid (by rfl) 27 _ rfl gm 0 rfl (#[.slice Ak nk ck, .slice Ar nr cr] : Array Value).toList _ (fun w' h => Blk.rangeM h.1) hu rfl (by kernel_rfl)) ⟨GM.out, GB.out⟩ ?_
    try simp only [Act.put, List.getElem_toArray, List.getElem_cons_succ, List.getElem_cons_zero, List.setIfInBounds_toArray, List.set_cons_zero, List.set_cons_succ]
    refine' wpAnyH_take (i := 1) (v := .agg #[.int .i64 pkind, .string pkey, .int .i64 pwhat, .int .i64 pval]) rfl (by kernel_rfl) (by kernel_rfl) (by kernel_rfl) (fun _ _ _ h => h) (yieldsIf_load_mid (by rfl) 29 _ rfl gb 0 rfl (#[.int .i64 pkind, .string pkey, .int .i64 pwhat, .int .i64 pval] : Array Value).toList _ (fun w' h => Blk.rangeM h.2) huo rfl (by kernel_rfl)) ⟨GM.out, GB.out⟩ ?_
    try simp only [Act.put, List.getElem_toArray, List.getElem_cons_succ, List.getElem_cons_zero, List.setIfInBounds_toArray, List.set_cons_zero, List.set_cons_succ]
    refine wpAnyH_ready (rs := [2]) (by kernel_rfl) (by simp) ?_
    refine AllReadyH.cons rfl (fun K hK => ?_) AllReadyH.nil
    rw [if_pos (by rfl)]
    have hoc := mo_one2 HM.out
    refine wp_store_row 27 _ _ rfl w.heap.size #[.slice Ak nk ck, .slice Ar nr cr] rfl rfl 27 _ G0.out (by kernel_rfl) rfl hoc ?_
    replace GM := Lib.hid (show Blk (X0.setRow w.heap.size #[.slice Ak nk ck, .slice Ar nr cr]) gm 27 #[.slice Ak nk ck, .slice Ar nr cr] from (setRow_other _ w.heap.size gm _ (by omega)).trans GM.out)
    replace GB := Lib.hid (show Blk (X0.setRow w.heap.size #[.slice Ak nk ck, .slice Ar nr cr]) gb 29 #[.int .i64 pkind, .string pkey, .int .i64 pwhat, .int .i64 pval] from (setRow_other _ w.heap.size gb _ (by omega)).trans GB.out)
    replace GQ := Lib.hid (show Blk (X0.setRow w.heap.size #[.slice Ak nk ck, .slice Ar nr cr]) (w.heap.size + 1) 29 #[.int .i64 0, .string ⟨#[]⟩, .int .i64 0, .int .i64 0] from (setRow_other _ w.heap.size (w.heap.size + 1) _ (by omega)).trans GQ.out)
    replace HM := Lib.hid (HM.out.farT G0.out (setRow_grown _ w.heap.size #[.slice Ak nk ck, .slice Ar nr cr]))
    replace HB := Lib.hid (below_setRow' HB.out (Nat.le_refl _) #[.slice Ak nk ck, .slice Ar nr cr])
    replace G0 := Lib.hid (show Blk (X0.setRow w.heap.size #[.slice Ak nk ck, .slice Ar nr cr]) w.heap.size 27 #[.slice Ak nk ck, .slice Ar nr cr] from setRow_heap _ _ _ _ _ _ G0.out)
    refine hK.out _ _ ⟨GM.out, GB.out⟩ (fun hHeld => ?_)
    clear hK K hHeld hoc
    try simp only [Act.put, List.getElem_toArray, List.getElem_cons_succ, List.getElem_cons_zero, List.setIfInBounds_toArray, List.set_cons_zero, List.set_cons_succ]
    generalize X0.setRow w.heap.size #[.slice Ak nk ck, .slice Ar nr cr] = X1 at *
    refine wpAnyH_ready (rs := [3]) (by kernel_rfl) (by simp) ?_
    refine AllReadyH.cons rfl (fun K hK => ?_) AllReadyH.nil
    rw [if_pos (by rfl)]
    refine wp_store_row 29 _ _ rfl (w.heap.size + 1) #[.int .i64 pkind, .string pkey, .int .i64 pwhat, .int .i64 pval] rfl rfl 29 _ GQ.out (by kernel_rfl) rfl (by simp [Value.oneCell']) ?_
    replace GM := Lib.hid (show Blk (X1.setRow (w.heap.size + 1) #[.int .i64 pkind, .string pkey, .int .i64 pwhat, .int .i64 pval]) gm 27 #[.slice Ak nk ck, .slice Ar nr cr] from (setRow_other _ (w.heap.size + 1) gm _ (by omega)).trans GM.out)
    replace GB := Lib.hid (show Blk (X1.setRow (w.heap.size + 1) #[.int .i64 pkind, .string pkey, .int .i64 pwhat, .int .i64 pval]) gb 29 #[.int .i64 pkind, .string pkey, .int .i64 pwhat, .int .i64 pval] from (setRow_other _ (w.heap.size + 1) gb _ (by omega)).trans GB.out)
    replace G0 := Lib.hid (show Blk (X1.setRow (w.heap.size + 1) #[.int .i64 pkind, .string pkey, .int .i64 pwhat, .int .i64 pval]) w.heap.size 27 #[.slice Ak nk ck, .slice Ar nr cr] from (setRow_other _ (w.heap.size + 1) w.heap.size _ (by omega)).trans G0.out)
    replace HM := Lib.hid (HM.out.farB GQ.out (by decide) (by decide) (setRow_grown _ (w.heap.size + 1) #[.int .i64 pkind, .string pkey, .int .i64 pwhat, .int .i64 pval]))
    replace HB := Lib.hid (below_setRow' HB.out (show w.heap.size ≤ w.heap.size + 1 by omega) #[.int .i64 pkind, .string pkey, .int .i64 pwhat, .int .i64 pval])
    replace GQ := Lib.hid (show Blk (X1.setRow (w.heap.size + 1) #[.int .i64 pkind, .string pkey, .int .i64 pwhat, .int .i64 pval]) (w.heap.size + 1) 29 #[.int .i64 pkind, .string pkey, .int .i64 pwhat, .int .i64 pval] from setRow_heap _ _ _ _ _ _ GQ.out)
    refine hK.out _ _ ⟨GM.out, GB.out⟩ (fun hHeld => ?_)
    clear hK K hHeld
    try simp only [Act.put, List.getElem_toArray, List.getElem_cons_succ, List.getElem_cons_zero, List.setIfInBounds_toArray, List.set_cons_zero, List.set_cons_succ]
    generalize X1.setRow (w.heap.size + 1) #[.int .i64 pkind, .string pkey, .int .i64 pwhat, .int .i64 pval] = X2 at *
    refine wpAnyH_done (by kernel_rfl) ?_ _
    go_wp2_with fail
    exact bodyPost_ret (v := .tuple #[.agg #[.slice Ak nk ck, .slice Ar nr cr], .agg #[.int .i64 pkind, .string pkey, .int .i64 pwhat, .int .i64 pval]]) (results_cellMO rfl _ _ _ _ _ _ _ _ _ _ rfl G0.out rfl GQ.out hu rfl (by kernel_rfl) huo rfl (by kernel_rfl)) rfl ⟨m, _, _, ⟨pkind, pkey, pwhat, pval⟩, HF.out, HL.out, HQ2.out, rfl, HM.out.base (by have := HBW.out; omega), HB.out⟩
  have d1 : (x == 1) = false := by rw [beq_eq_false_iff_ne]; exact hy
  clear hx hy hx0 hx1 HDO
  go_upto_region 9 with fail
  have hbd : Below W6.heap.size W6 W6.drew := below_drew _ _
  replace G0 := Lib.hid (G0.out.below hbd); replace GQ := Lib.hid (GQ.out.below hbd); replace GM := Lib.hid (GM.out.below hbd); replace GB := Lib.hid (GB.out.below hbd); replace HM := Lib.hid (HM.out.below hbd); replace HB := Lib.hid (HB.out.trans (hbd.mono HB.out.size))
  clear hbd
  refine wp_region_held_drew (S := fun X : World => Blk X gm 27 #[.slice Ak nk ck, .slice Ar nr cr] ∧ Blk X gb 29 #[.int .i64 okind, .string okey, .int .i64 owhat, .int .i64 oval]) (by kernel_rfl) ⟨GM.out, GB.out⟩ (fun hHeld => ?_)
  clear hHeld
  generalize W6.drew = X0 at *
  refine' wpAnyH_take (i := 0) (v := .agg #[.slice Ak nk ck, .slice Ar nr cr]) rfl (by kernel_rfl) (by kernel_rfl) (by kernel_rfl) (fun _ _ _ h => h) (yieldsIf_load_mid (by rfl) 27 _ rfl gm 0 rfl (#[.slice Ak nk ck, .slice Ar nr cr] : Array Value).toList _ (fun w' h => Blk.rangeM h.1) hu rfl (by kernel_rfl)) ⟨GM.out, GB.out⟩ ?_
  try simp only [Act.put, List.getElem_toArray, List.getElem_cons_succ, List.getElem_cons_zero, List.setIfInBounds_toArray, List.set_cons_zero, List.set_cons_succ]
  refine' wpAnyH_take (i := 1) (v := .agg #[.int .i64 okind, .string okey, .int .i64 owhat, .int .i64 oval]) rfl (by kernel_rfl) (by kernel_rfl) (by kernel_rfl) (fun _ _ _ h => h) (yieldsIf_load_mid (by rfl) 29 _ rfl gb 0 rfl (#[.int .i64 okind, .string okey, .int .i64 owhat, .int .i64 oval] : Array Value).toList _ (fun w' h => Blk.rangeM h.2) huo rfl (by kernel_rfl)) ⟨GM.out, GB.out⟩ ?_
  try simp only [Act.put, List.getElem_toArray, List.getElem_cons_succ, List.getElem_cons_zero, List.setIfInBounds_toArray, List.set_cons_zero, List.set_cons_succ]
  refine wpAnyH_ready (rs := [2]) (by kernel_rfl) (by simp) ?_
  refine AllReadyH.cons rfl (fun K hK => ?_) AllReadyH.nil
  rw [if_pos (by rfl)]
  have hoc := mo_one2 HM.out
  refine wp_store_row 27 _ _ rfl w.heap.size #[.slice Ak nk ck, .slice Ar nr cr] rfl rfl 27 _ G0.out (by kernel_rfl) rfl hoc ?_
  replace GM := Lib.hid (show Blk (X0.setRow w.heap.size #[.slice Ak nk ck, .slice Ar nr cr]) gm 27 #[.slice Ak nk ck, .slice Ar nr cr] from (setRow_other _ w.heap.size gm _ (by omega)).trans GM.out)
  replace GB := Lib.hid (show Blk (X0.setRow w.heap.size #[.slice Ak nk ck, .slice Ar nr cr]) gb 29 #[.int .i64 okind, .string okey, .int .i64 owhat, .int .i64 oval] from (setRow_other _ w.heap.size gb _ (by omega)).trans GB.out)
  replace GQ := Lib.hid (show Blk (X0.setRow w.heap.size #[.slice Ak nk ck, .slice Ar nr cr]) (w.heap.size + 1) 29 #[.int .i64 0, .string ⟨#[]⟩, .int .i64 0, .int .i64 0] from (setRow_other _ w.heap.size (w.heap.size + 1) _ (by omega)).trans GQ.out)
  replace HM := Lib.hid (HM.out.farT G0.out (setRow_grown _ w.heap.size #[.slice Ak nk ck, .slice Ar nr cr]))
  replace HB := Lib.hid (below_setRow' HB.out (Nat.le_refl _) #[.slice Ak nk ck, .slice Ar nr cr])
  replace G0 := Lib.hid (show Blk (X0.setRow w.heap.size #[.slice Ak nk ck, .slice Ar nr cr]) w.heap.size 27 #[.slice Ak nk ck, .slice Ar nr cr] from setRow_heap _ _ _ _ _ _ G0.out)
  refine hK.out _ _ ⟨GM.out, GB.out⟩ (fun hHeld => ?_)
  clear hK K hHeld hoc
  try simp only [Act.put, List.getElem_toArray, List.getElem_cons_succ, List.getElem_cons_zero, List.setIfInBounds_toArray, List.set_cons_zero, List.set_cons_succ]
  generalize X0.setRow w.heap.size #[.slice Ak nk ck, .slice Ar nr cr] = X1 at *
  refine wpAnyH_ready (rs := [3]) (by kernel_rfl) (by simp) ?_
  refine AllReadyH.cons rfl (fun K hK => ?_) AllReadyH.nil
  rw [if_pos (by rfl)]
  refine wp_store_row 29 _ _ rfl (w.heap.size + 1) #[.int .i64 okind, .string okey, .int .i64 owhat, .int .i64 oval] rfl rfl 29 _ GQ.out (by kernel_rfl) rfl (by simp [Value.oneCell']) ?_
  replace GM := Lib.hid (show Blk (X1.setRow (w.heap.size + 1) #[.int .i64 okind, .string okey, .int .i64 owhat, .int .i64 oval]) gm 27 #[.slice Ak nk ck, .slice Ar nr cr] from (setRow_other _ (w.heap.size + 1) gm _ (by omega)).trans GM.out)
  replace GB := Lib.hid (show Blk (X1.setRow (w.heap.size + 1) #[.int .i64 okind, .string okey, .int .i64 owhat, .int .i64 oval]) gb 29 #[.int .i64 okind, .string okey, .int .i64 owhat, .int .i64 oval] from (setRow_other _ (w.heap.size + 1) gb _ (by omega)).trans GB.out)
  replace G0 := Lib.hid (show Blk (X1.setRow (w.heap.size + 1) #[.int .i64 okind, .string okey, .int .i64 owhat, .int .i64 oval]) w.heap.size 27 #[.slice Ak nk ck, .slice Ar nr cr] from (setRow_other _ (w.heap.size + 1) w.heap.size _ (by omega)).trans G0.out)
  replace HM := Lib.hid (HM.out.farB GQ.out (by decide) (by decide) (setRow_grown _ (w.heap.size + 1) #[.int .i64 okind, .string okey, .int .i64 owhat, .int .i64 oval]))
  replace HB := Lib.hid (below_setRow' HB.out (show w.heap.size ≤ w.heap.size + 1 by omega) #[.int .i64 okind, .string okey, .int .i64 owhat, .int .i64 oval])
  replace GQ := Lib.hid (show Blk (X1.setRow (w.heap.size + 1) #[.int .i64 okind, .string okey, .int .i64 owhat, .int .i64 oval]) (w.heap.size + 1) 29 #[.int .i64 okind, .string okey, .int .i64 owhat, .int .i64 oval] from setRow_heap _ _ _ _ _ _ GQ.out)
  refine hK.out _ _ ⟨GM.out, GB.out⟩ (fun hHeld => ?_)
  clear hK K hHeld
  try simp only [Act.put, List.getElem_toArray, List.getElem_cons_succ, List.getElem_cons_zero, List.setIfInBounds_toArray, List.set_cons_zero, List.set_cons_succ]
  generalize X1.setRow (w.heap.size + 1) #[.int .i64 okind, .string okey, .int .i64 owhat, .int .i64 oval] = X2 at *
  refine wpAnyH_done (by kernel_rfl) ?_ _
  go_wp2_with fail
  exact bodyPost_ret (v := .tuple #[.agg #[.slice Ak nk ck, .slice Ar nr cr], .agg #[.int .i64 okind, .string okey, .int .i64 owhat, .int .i64 oval]]) (results_cellMO rfl _ _ _ _ _ _ _ _ _ _ rfl G0.out rfl GQ.out hu rfl (by kernel_rfl) huo rfl (by kernel_rfl)) rfl ⟨m, _, _, ⟨okind, okey, owhat, oval⟩, HF.out, HL.out, HQ.out, rfl, HM.out.base (by have := HBW.out; omega), HB.out⟩
end Go.Proofs.YtbhhhakfjmaglaaGreat
