/-
  Chapter 13's draws of a model, told in less: some model of the call's own.
-/
import Derived.Test.YtbhhhakfjmaglaaGreatDrawM1
import Derived.Test.YtbhhhakfjmaglaaGreatModC
import Derived.Deep.RegionHeld3
namespace Go.Proofs.YtbhhhakfjmaglaaGreat
open Go.RowKit M
set_option linter.unusedVariables false
set_option linter.unusedSimpArgs false
/-- The world of the draw under way: block o2: the answer's place; block gm: the model. -/
structure DM (w : World) (g : Nat) (K : Code) (n o2 gm : Nat) (m : Mo) (vk vr : Value) (u : World) : Prop where
  z : Blk u o2 27 #[.slice none 0 0, .slice none 0 0]
  b : Blk u gm 27 #[vk, vr]
  mo : MoOwn u w.heap.size m vk vr
  f : m.Fit
  l : m.keys.length ≤ n ∧ m.rows.length ≤ n
  d : DW w g K u
  o : w.heap.size ≤ o2 ∧ w.heap.size ≤ gm ∧ o2 ≠ gm
theorem DM.below {w u u' : World} {g : Nat} {K : Code} {n o2 gm : Nat} {m : Mo} {vk vr : Value} (h : DM w g K n o2 gm m vk vr u) (hb : Below u.heap.size u u') : DM w g K n o2 gm m vk vr u' := ⟨h.z.below hb, h.b.below hb, h.mo.below hb, h.f, h.l, h.d.below hb, h.o⟩
theorem DM.call {w u u' : World} {g : Nat} {K : Code} {s : St} {n o2 gm : Nat} {m : Mo} {vk vr : Value} (h : DM w g K n o2 gm m vk vr u) (c : Cur u' g K s) (hg : u.grownBy u' (some g)) : DM w g K n o2 gm m vk vr u' :=
  ⟨h.z.turnG hg (by have := h.o; have := h.d.glt; omega), h.b.turnG hg (by have := h.o; have := h.d.glt; omega), h.mo.turnG hg h.d.glt, h.f, h.l, h.d.call c hg, h.o⟩
/-- The model stored anew. -/
theorem DM.store {w u : World} {g : Nat} {K : Code} {n o2 gm : Nat} {m m' : Mo} {vk vr uk ur : Value} (h : DM w g K n o2 gm m vk vr u) (hm : MoOwn u w.heap.size m' uk ur) (hf : m'.Fit) (hl : m'.keys.length ≤ n ∧ m'.rows.length ≤ n) : DM w g K n o2 gm m' uk ur (u.setRow gm #[uk, ur]) :=
  ⟨(setRow_other u gm o2 _ h.o.2.2).trans h.z, setRow_heap _ _ _ _ _ _ h.b, hm.farT h.b (setRow_grown _ _ _), hf, hl, h.d.turn (setRow_grown _ gm _) (fun k e => by have e := Option.some.inj e; have := h.o; omega), h.o⟩
theorem DM.more {w u : World} {g : Nat} {K : Code} {n n' o2 gm : Nat} {m : Mo} {vk vr : Value} (h : DM w g K n o2 gm m vk vr u) (hn : n ≤ n') : DM w g K n' o2 gm m vk vr u := ⟨h.z, h.b, h.mo, h.f, ⟨Nat.le_trans h.l.1 hn, Nat.le_trans h.l.2 hn⟩, h.d, h.o⟩
theorem mo_empty (w : World) (B : Nat) : MoOwn w B ⟨[], []⟩ (.slice none 0 0) (.slice none 0 0) := ⟨⟨rfl, .inl ⟨rfl, rfl⟩⟩, ⟨rfl, .inl ⟨rfl, rfl⟩⟩, .inl rfl⟩
theorem fit_empty : (⟨[], []⟩ : Mo).Fit := ⟨fun j hj => absurd hj (Nat.not_lt_zero _), fun j hj => absurd hj (Nat.not_lt_zero _)⟩
set_option maxRecDepth 100000 in
set_option maxHeartbeats 3000000 in
theorem l13Model_some (w : World) (g : Nat) (K : Code) (s : St) (c : Cur w g K s) (hK : CodeB K w.heap.size) : Calls Tryz.prog 59 #[.pointer (some ⟨g, 0, none⟩)] w (SomeMo w g K 100) := by
  have D0 := DW.start c hK
  have hu := Tryz.underlying27
  have HOP := fun W s (c : Cur W g K s) (h : w.heap.size ≤ W.heap.size) => Lib.hid (l10Op_some W g K s c (hK.mono h))
  have HDO := fun W (m : Mo) (o : O) vk vr (h : MoOwn W w.heap.size m vk vr) (hw : w.heap.size ≤ W.heap.size) (hf : m.Fit) (hl : m.keys.length ≤ 100 ∧ m.rows.length ≤ 100) (ho : o.Fit) => Lib.hid (sModelDo_any W w.heap.size m o vk vr h hw (by omega) (by omega) hf ho.key)
  have HFO := Lib.hid (show (⟨3, ⟨#[]⟩, 0, 0⟩ : O).Fit from ⟨show inW 3 from by unfold inW; omega, by unfold maxLen; decide, show inW 0 from by unfold inW; omega, show inW 0 from by unfold inW; omega⟩)
  have hlt := c.lt
  clear c hK
  go_enter Tryz.func59, Tryz.ntmps59
  go_upto_region 2 with ((with_reducible show wpList _ _ _ _ _ _); refine wpList_store_row rfl 27 _ _ rfl ((w.heap.size + 1)) #[.slice none 0 0, .slice none 0 0] rfl rfl 27 _ (Blk.new _ _ _ _ (by simp [go_sem])) (by kernel_rfl) rfl (by simp [Value.oneCell']) ?_)
  refine wp_gen (fun W => DM w g K 100 w.heap.size (w.heap.size + 1) ⟨[], []⟩ (.slice none 0 0) (.slice none 0 0) W) ?h0 ?_
  case h0 =>
    have hbA : Below w.heap.size w ((w.alloc (.cells #[.slice none 0 0, .slice none 0 0] 27)).alloc (.cells #[.slice none 0 0, .slice none 0 0] 27)) := ((Below.refl _ _).alloc (Nat.le_refl _) _).alloc (by simp [go_sem]) _
    have hA : DM w g K 100 w.heap.size (w.heap.size + 1) ⟨[], []⟩ (.slice none 0 0) (.slice none 0 0) ((w.alloc (.cells #[.slice none 0 0, .slice none 0 0] 27)).alloc (.cells #[.slice none 0 0, .slice none 0 0] 27)) := ⟨(Blk.new w _ _ _ rfl).alloc _, Blk.new _ _ _ _ (by simp [go_sem]), mo_empty _ _, fit_empty, ⟨Nat.zero_le _, Nat.zero_le _⟩, D0.below hbA, ⟨Nat.le_refl _, by omega, by omega⟩⟩
    exact hA.store (mo_empty _ _) fit_empty ⟨Nat.zero_le _, Nat.zero_le _⟩
  rintro W hm
  obtain ⟨s0, c0⟩ := hm.d.cur
  have HM := Lib.hid hm; have C0 := Lib.hid c0
  clear hm c0 D0
  go_wp2_with fail
  refine (below_some W g K 16 s0 C0.out (by decide) (by decide)).mono ?_
  rintro e W1 ⟨x, s1, ⟨hx0, hx1⟩, rfl, c1, hg⟩
  replace HM := Lib.hid (HM.out.call c1 hg)
  obtain ⟨n, rfl⟩ := Int.eq_ofNat_of_zero_le hx0
  clear c1 hg C0 hx0
  go_wp2_with fail
  go_loopw [4] (fun i wr => ∃ (j : Nat) (m : Mo) (vk vr : Value), i = .int .i64 j ∧ j ≤ 16 ∧ DM w g K 100 w.heap.size (w.heap.size + 1) m vk vr wr) (fun i _ => (intOf i).toNat)
  case atStart => exact ⟨n, _, _, _, rfl, by omega, HM.out⟩
  case round =>
    obtain ⟨j, m, vk, vr, rfl, hj, hm⟩ := hrel
    clear HM
    have HM := Lib.hid hm
    have hsz := hm.d.grown.size
    obtain ⟨s2, c2⟩ := hm.d.cur
    have C2 := Lib.hid c2
    have hoc := mo_one2 hm.mo
    clear hm c2
    by_cases hj0 : j = 0
    · subst hj0
      have hgt : decide (((0 : Nat) : Int) > 0) = false := rfl
      clear HOP HDO C2
      go_wp2_with ((with_reducible show wpList _ _ _ _ _ _); first | refine wpList_load_row rfl 27 _ rfl ((w.heap.size + 1)) rfl 27 #[vk, vr] (0, 0) _ HM.out.b hu rfl (by kernel_rfl) ?_ | refine wpList_store_row rfl 27 _ _ rfl (w.heap.size) #[vk, vr] rfl rfl 27 _ HM.out.z (by kernel_rfl) rfl hoc ?_)
      refine post_gen (fun X => Blk X w.heap.size 27 #[vk, vr] ∧ DW w g K X ∧ MoOwn X w.heap.size m vk vr) ⟨setRow_heap _ _ _ _ _ _ HM.out.z, HM.out.d.turn (setRow_grown _ w.heap.size _) (fun k e => by have e := Option.some.inj e; omega), HM.out.mo.farT HM.out.z (setRow_grown _ _ _)⟩ ?_
      rintro Z ⟨h1, hd, hm⟩
      obtain ⟨s9, c9⟩ := hd.cur
      exact bodyPost_ret (v := .agg #[vk, vr]) (results_cell_row rfl _ _ _ _ _ (0, 0) _ rfl h1 hu rfl (by kernel_rfl)) rfl ⟨m, vk, vr, s9, HM.out.f, HM.out.l, rfl, hm, c9, hd.grown⟩
    · obtain ⟨jp, rfl⟩ : ∃ jp, j = jp + 1 := ⟨j - 1, by omega⟩
      have hgt : decide (((jp + 1 : Nat) : Int) > 0) = true := by rw [decide_eq_true_eq]; omega
      have hp5 : IntKind.i64.wrap (((jp + 1 : Nat) : Int) - 1) = (jp : Int) := by rw [IntKind.wrap_i64]; omega
      have hp8 : (0 : Int) < ((jp + 1 : Nat) : Int) := by omega
      have hp6 : (((jp + 1 : Nat) : Int)) = (jp : Int) + 1 := by omega
      go_wp2_with fail
      refine (once_some _ g K _ s2 C2.out (by decide)).mono ?_
      rintro e W2 ⟨b, s3, rfl, c3, hg⟩
      replace HM := Lib.hid (HM.out.call c3 hg)
      have C3 := Lib.hid c3
      have hgs := hg.size
      clear c3 hg C2
      cases b with
      | true =>
        have hg0 := Lib.hid hgs
        go_wp2_with ((with_reducible show wpList _ _ _ _ _ _); refine wpList_load_row rfl 27 _ rfl (w.heap.size + 1) rfl 27 #[vk, vr] (0, 0) _ HM.out.b hu rfl (by kernel_rfl) ?_)
        refine (HDO _ m ⟨3, ⟨#[]⟩, 0, 0⟩ vk vr HM.out.mo (Nat.le_trans hsz hg0.out) HM.out.f HM.out.l HFO.out).out.mono ?_
        rintro e W3 ⟨uk, ur, uo, rfl, hm, hr, ha, hb⟩
        replace HM := Lib.hid (HM.out.below hb)
        have HF := Lib.hid (mDo_fit HM.out.f HFO.out)
        have HL := Lib.hid (mDo_100 (⟨3, ⟨#[]⟩, 0, 0⟩ : O) 100 (by decide) HM.out.l.1 HM.out.l.2)
        have HN := Lib.hid (hm.base (Nat.le_trans hsz hg0.out))
        have hg1 := hb.size
        obtain ⟨Au, nu, cu, rfl⟩ := own_slice HN.out.keys
        obtain ⟨Av, nv, cv, rfl⟩ := own_slice HN.out.rows
        have hoc := mo_one2 HN.out
        clear hm hr ha hb C3
        generalize mDoV m ⟨3, ⟨#[]⟩, 0, 0⟩ = p at *
        go_upto_region 7 with ((with_reducible show wpList _ _ _ _ _ _); refine wpList_store_row rfl 27 _ _ rfl ((w.heap.size + 1)) #[.slice Au nu cu, .slice Av nv cv] rfl rfl 27 _ HM.out.b (by kernel_rfl) rfl hoc ?_)
        refine wp_gen (fun X => DM w g K 100 w.heap.size (w.heap.size + 1) p.1 (.slice Au nu cu) (.slice Av nv cv) X) (HM.out.store HN.out HF.out ⟨HL.out.1, HL.out.2.1⟩) ?_
        rintro W4 hm
        clear HM HF HL HN hoc hg1 hg0 hsz
        have HM := Lib.hid hm
        have hsz := hm.d.grown.size
        obtain ⟨s4, c4⟩ := hm.d.cur
        have C4 := Lib.hid c4
        clear hm c4
        go_upto_region 7 with fail
        have hbd : Below W4.heap.size W4 W4.drew := below_drew _ _
        replace HM := Lib.hid (HM.out.below hbd)
        replace C4 := Lib.hid ((show Cur W4.drew g K s4 from by have := C4.out; exact this.kept ⟨hbd.os, hbd.tape, hbd.output, hbd.size, fun i hi _ => hbd.block i hi⟩))
        have hsd : w.heap.size ≤ W4.drew.heap.size := Nat.le_trans hsz hbd.size
        clear hbd
        refine wp_region_held_drew (S := fun X : World => True) (by kernel_rfl) trivial (fun hHeld => ?_)
        clear hHeld
        generalize W4.drew = X0 at *
        refine' wpAnyH_take (i := 1) (v := .pointer (some ⟨g, 0, none⟩)) rfl (by kernel_rfl) (by kernel_rfl) (by kernel_rfl) (fun _ _ _ h => h) (Or.inl ⟨by rfl, fun W h => by go_simp⟩) trivial ?_
        try simp only [Act.put, List.getElem_toArray, List.getElem_cons_succ, List.getElem_cons_zero, List.setIfInBounds_toArray, List.set_cons_zero, List.set_cons_succ]
        refine wpAnyH_ready (rs := [0, 2]) (by kernel_rfl) (by simp) ?_
        refine AllReadyH.cons rfl (fun K hK => ?_) (AllReadyH.cons rfl (fun K hK => ?_) AllReadyH.nil)
        · skip
          rw [if_pos (by rfl)]
          refine wp_load_row 27 _ rfl (w.heap.size + 1) rfl 27 #[.slice Au nu cu, .slice Av nv cv] (0, 0) _ HM.out.b hu rfl (by kernel_rfl) ?_
          refine hK.out _ _ trivial (fun hHeld => ?_)
          clear hK K hHeld
          try simp only [Act.put, List.getElem_toArray, List.getElem_cons_succ, List.getElem_cons_zero, List.setIfInBounds_toArray, List.set_cons_zero, List.set_cons_succ]
          refine wpAnyH_ready (rs := [2]) (by kernel_rfl) (by simp) ?_
          refine AllReadyH.cons rfl (fun K hK => ?_) AllReadyH.nil
          go_simp
          refine (HOP _ s4 C4.out hsd).out.mono ?_
          rintro e X1 ⟨o, s5, ho, rfl, c5, hg⟩
          replace HM := Lib.hid (HM.out.call c5 hg)
          have HO := Lib.hid ho
          have hs1 : w.heap.size ≤ X1.heap.size := Nat.le_trans hsd hg.size
          clear ho c5 hg
          refine hK.out _ _ trivial (fun hHeld => ?_)
          clear hK K hHeld
          try simp only [Act.put, List.getElem_toArray, List.getElem_cons_succ, List.getElem_cons_zero, List.setIfInBounds_toArray, List.set_cons_zero, List.set_cons_succ]
          refine wpAnyH_ready (rs := [3]) (by kernel_rfl) (by simp) ?_
          refine AllReadyH.cons rfl (fun K hK => ?_) AllReadyH.nil
          go_simp
          refine (HDO _ (p.1) o (.slice Au nu cu) (.slice Av nv cv) HM.out.mo hs1 HM.out.f HM.out.l HO.out).out.mono ?_
          rintro e X2 ⟨yk, yr, yo, rfl, hm, hr, ha, hb⟩
          replace HM := Lib.hid (HM.out.below hb)
          have HF := Lib.hid (mDo_fit HM.out.f HO.out)
          have HL := Lib.hid (mDo_100 o 100 (by decide) HM.out.l.1 HM.out.l.2)
          have HN := Lib.hid (hm.base hs1)
          have hoc := mo_one2 HN.out
          clear hm hr ha
          generalize mDoV (p.1) o = q at *
          refine hK.out _ _ trivial (fun hHeld => ?_)
          clear hK K hHeld hb
          try simp only [Act.put, List.getElem_toArray, List.getElem_cons_succ, List.getElem_cons_zero, List.setIfInBounds_toArray, List.set_cons_zero, List.set_cons_succ]
          refine' wpAnyH_take (i := 4) (v := .tuple #[.agg #[yk, yr], .int .i64 q.2.1, yo]) rfl (by kernel_rfl) (by kernel_rfl) (by kernel_rfl) (fun _ _ _ h => h) (Or.inl ⟨by rfl, fun W h => by go_simp⟩) trivial ?_
          try simp only [Act.put, List.getElem_toArray, List.getElem_cons_succ, List.getElem_cons_zero, List.setIfInBounds_toArray, List.set_cons_zero, List.set_cons_succ]
          refine' wpAnyH_take (i := 5) (v := .agg #[yk, yr]) rfl (by kernel_rfl) (by kernel_rfl) (by kernel_rfl) (fun _ _ _ h => h) (Or.inl ⟨by rfl, fun W h => by go_simp⟩) trivial ?_
          try simp only [Act.put, List.getElem_toArray, List.getElem_cons_succ, List.getElem_cons_zero, List.setIfInBounds_toArray, List.set_cons_zero, List.set_cons_succ]
          refine' wpAnyH_take (i := 6) (v := .int .i64 q.2.1) rfl (by kernel_rfl) (by kernel_rfl) (by kernel_rfl) (fun _ _ _ h => h) (Or.inl ⟨by rfl, fun W h => by go_simp⟩) trivial ?_
          try simp only [Act.put, List.getElem_toArray, List.getElem_cons_succ, List.getElem_cons_zero, List.setIfInBounds_toArray, List.set_cons_zero, List.set_cons_succ]
          refine' wpAnyH_take (i := 7) (v := yo) rfl (by kernel_rfl) (by kernel_rfl) (by kernel_rfl) (fun _ _ _ h => h) (Or.inl ⟨by rfl, fun W h => by go_simp⟩) trivial ?_
          try simp only [Act.put, List.getElem_toArray, List.getElem_cons_succ, List.getElem_cons_zero, List.setIfInBounds_toArray, List.set_cons_zero, List.set_cons_succ]
          refine wpAnyH_ready (rs := [8]) (by kernel_rfl) (by simp) ?_
          refine AllReadyH.cons rfl (fun K hK => ?_) AllReadyH.nil
          rw [if_pos (by rfl)]
          refine wp_store_row 27 _ _ rfl (w.heap.size + 1) #[yk, yr] rfl rfl 27 _ HM.out.b (by kernel_rfl) rfl hoc ?_
          have HM9 := Lib.hid (HM.out.store HN.out HF.out ⟨HL.out.1, HL.out.2.1⟩)
          refine hK.out _ _ trivial (fun hHeld => ?_)
          clear hK K hHeld HM HF HL HN hoc
          try simp only [Act.put, List.getElem_toArray, List.getElem_cons_succ, List.getElem_cons_zero, List.setIfInBounds_toArray, List.set_cons_zero, List.set_cons_succ]
          refine wpAnyH_done (by kernel_rfl) ?_ _
          generalize X2.setRow (w.heap.size + 1) #[yk, yr] = X9 at *
          go_wp2_with fail
          go_roundw
          case rel => exact ⟨jp, _, _, _, by go_num, by omega, HM9.out⟩
          case measure => simp [intOf]
        · skip
          go_simp
          refine (HOP _ s4 C4.out hsd).out.mono ?_
          rintro e X1 ⟨o, s5, ho, rfl, c5, hg⟩
          replace HM := Lib.hid (HM.out.call c5 hg)
          have HO := Lib.hid ho
          have hs1 : w.heap.size ≤ X1.heap.size := Nat.le_trans hsd hg.size
          clear ho c5 hg
          refine hK.out _ _ trivial (fun hHeld => ?_)
          clear hK K hHeld
          try simp only [Act.put, List.getElem_toArray, List.getElem_cons_succ, List.getElem_cons_zero, List.setIfInBounds_toArray, List.set_cons_zero, List.set_cons_succ]
          refine wpAnyH_ready (rs := [0]) (by kernel_rfl) (by simp) ?_
          refine AllReadyH.cons rfl (fun K hK => ?_) AllReadyH.nil
          rw [if_pos (by rfl)]
          refine wp_load_row 27 _ rfl (w.heap.size + 1) rfl 27 #[.slice Au nu cu, .slice Av nv cv] (0, 0) _ HM.out.b hu rfl (by kernel_rfl) ?_
          refine hK.out _ _ trivial (fun hHeld => ?_)
          clear hK K hHeld
          try simp only [Act.put, List.getElem_toArray, List.getElem_cons_succ, List.getElem_cons_zero, List.setIfInBounds_toArray, List.set_cons_zero, List.set_cons_succ]
          refine wpAnyH_ready (rs := [3]) (by kernel_rfl) (by simp) ?_
          refine AllReadyH.cons rfl (fun K hK => ?_) AllReadyH.nil
          go_simp
          refine (HDO _ (p.1) o (.slice Au nu cu) (.slice Av nv cv) HM.out.mo hs1 HM.out.f HM.out.l HO.out).out.mono ?_
          rintro e X2 ⟨yk, yr, yo, rfl, hm, hr, ha, hb⟩
          replace HM := Lib.hid (HM.out.below hb)
          have HF := Lib.hid (mDo_fit HM.out.f HO.out)
          have HL := Lib.hid (mDo_100 o 100 (by decide) HM.out.l.1 HM.out.l.2)
          have HN := Lib.hid (hm.base hs1)
          have hoc := mo_one2 HN.out
          clear hm hr ha
          generalize mDoV (p.1) o = q at *
          refine hK.out _ _ trivial (fun hHeld => ?_)
          clear hK K hHeld hb
          try simp only [Act.put, List.getElem_toArray, List.getElem_cons_succ, List.getElem_cons_zero, List.setIfInBounds_toArray, List.set_cons_zero, List.set_cons_succ]
          refine' wpAnyH_take (i := 4) (v := .tuple #[.agg #[yk, yr], .int .i64 q.2.1, yo]) rfl (by kernel_rfl) (by kernel_rfl) (by kernel_rfl) (fun _ _ _ h => h) (Or.inl ⟨by rfl, fun W h => by go_simp⟩) trivial ?_
          try simp only [Act.put, List.getElem_toArray, List.getElem_cons_succ, List.getElem_cons_zero, List.setIfInBounds_toArray, List.set_cons_zero, List.set_cons_succ]
          refine' wpAnyH_take (i := 5) (v := .agg #[yk, yr]) rfl (by kernel_rfl) (by kernel_rfl) (by kernel_rfl) (fun _ _ _ h => h) (Or.inl ⟨by rfl, fun W h => by go_simp⟩) trivial ?_
          try simp only [Act.put, List.getElem_toArray, List.getElem_cons_succ, List.getElem_cons_zero, List.setIfInBounds_toArray, List.set_cons_zero, List.set_cons_succ]
          refine' wpAnyH_take (i := 6) (v := .int .i64 q.2.1) rfl (by kernel_rfl) (by kernel_rfl) (by kernel_rfl) (fun _ _ _ h => h) (Or.inl ⟨by rfl, fun W h => by go_simp⟩) trivial ?_
          try simp only [Act.put, List.getElem_toArray, List.getElem_cons_succ, List.getElem_cons_zero, List.setIfInBounds_toArray, List.set_cons_zero, List.set_cons_succ]
          refine' wpAnyH_take (i := 7) (v := yo) rfl (by kernel_rfl) (by kernel_rfl) (by kernel_rfl) (fun _ _ _ h => h) (Or.inl ⟨by rfl, fun W h => by go_simp⟩) trivial ?_
          try simp only [Act.put, List.getElem_toArray, List.getElem_cons_succ, List.getElem_cons_zero, List.setIfInBounds_toArray, List.set_cons_zero, List.set_cons_succ]
          refine wpAnyH_ready (rs := [8]) (by kernel_rfl) (by simp) ?_
          refine AllReadyH.cons rfl (fun K hK => ?_) AllReadyH.nil
          rw [if_pos (by rfl)]
          refine wp_store_row 27 _ _ rfl (w.heap.size + 1) #[yk, yr] rfl rfl 27 _ HM.out.b (by kernel_rfl) rfl hoc ?_
          have HM9 := Lib.hid (HM.out.store HN.out HF.out ⟨HL.out.1, HL.out.2.1⟩)
          refine hK.out _ _ trivial (fun hHeld => ?_)
          clear hK K hHeld HM HF HL HN hoc
          try simp only [Act.put, List.getElem_toArray, List.getElem_cons_succ, List.getElem_cons_zero, List.setIfInBounds_toArray, List.set_cons_zero, List.set_cons_succ]
          refine wpAnyH_done (by kernel_rfl) ?_ _
          generalize X2.setRow (w.heap.size + 1) #[yk, yr] = X9 at *
          go_wp2_with fail
          go_roundw
          case rel => exact ⟨jp, _, _, _, by go_num, by omega, HM9.out⟩
          case measure => simp [intOf]
      | false =>
        go_upto_region 7 with fail
        have hbd : Below W2.heap.size W2 W2.drew := below_drew _ _
        replace HM := Lib.hid (HM.out.below hbd)
        replace C3 := Lib.hid ((show Cur W2.drew g K s3 from by have := C3.out; exact this.kept ⟨hbd.os, hbd.tape, hbd.output, hbd.size, fun i hi _ => hbd.block i hi⟩))
        have hsd : w.heap.size ≤ W2.drew.heap.size := Nat.le_trans HM.out.d.grown.size hbd.size
        clear hbd
        refine wp_region_held_drew (S := fun X : World => True) (by kernel_rfl) trivial (fun hHeld => ?_)
        clear hHeld
        generalize W2.drew = X0 at *
        refine' wpAnyH_take (i := 1) (v := .pointer (some ⟨g, 0, none⟩)) rfl (by kernel_rfl) (by kernel_rfl) (by kernel_rfl) (fun _ _ _ h => h) (Or.inl ⟨by rfl, fun W h => by go_simp⟩) trivial ?_
        try simp only [Act.put, List.getElem_toArray, List.getElem_cons_succ, List.getElem_cons_zero, List.setIfInBounds_toArray, List.set_cons_zero, List.set_cons_succ]
        refine wpAnyH_ready (rs := [0, 2]) (by kernel_rfl) (by simp) ?_
        refine AllReadyH.cons rfl (fun K hK => ?_) (AllReadyH.cons rfl (fun K hK => ?_) AllReadyH.nil)
        · skip
          rw [if_pos (by rfl)]
          refine wp_load_row 27 _ rfl (w.heap.size + 1) rfl 27 #[vk, vr] (0, 0) _ HM.out.b hu rfl (by kernel_rfl) ?_
          refine hK.out _ _ trivial (fun hHeld => ?_)
          clear hK K hHeld
          try simp only [Act.put, List.getElem_toArray, List.getElem_cons_succ, List.getElem_cons_zero, List.setIfInBounds_toArray, List.set_cons_zero, List.set_cons_succ]
          refine wpAnyH_ready (rs := [2]) (by kernel_rfl) (by simp) ?_
          refine AllReadyH.cons rfl (fun K hK => ?_) AllReadyH.nil
          go_simp
          refine (HOP _ s3 C3.out hsd).out.mono ?_
          rintro e X1 ⟨o, s5, ho, rfl, c5, hg⟩
          replace HM := Lib.hid (HM.out.call c5 hg)
          have HO := Lib.hid ho
          have hs1 : w.heap.size ≤ X1.heap.size := Nat.le_trans hsd hg.size
          clear ho c5 hg
          refine hK.out _ _ trivial (fun hHeld => ?_)
          clear hK K hHeld
          try simp only [Act.put, List.getElem_toArray, List.getElem_cons_succ, List.getElem_cons_zero, List.setIfInBounds_toArray, List.set_cons_zero, List.set_cons_succ]
          refine wpAnyH_ready (rs := [3]) (by kernel_rfl) (by simp) ?_
          refine AllReadyH.cons rfl (fun K hK => ?_) AllReadyH.nil
          go_simp
          refine (HDO _ (m) o (vk) (vr) HM.out.mo hs1 HM.out.f HM.out.l HO.out).out.mono ?_
          rintro e X2 ⟨yk, yr, yo, rfl, hm, hr, ha, hb⟩
          replace HM := Lib.hid (HM.out.below hb)
          have HF := Lib.hid (mDo_fit HM.out.f HO.out)
          have HL := Lib.hid (mDo_100 o 100 (by decide) HM.out.l.1 HM.out.l.2)
          have HN := Lib.hid (hm.base hs1)
          have hoc := mo_one2 HN.out
          clear hm hr ha
          generalize mDoV (m) o = q at *
          refine hK.out _ _ trivial (fun hHeld => ?_)
          clear hK K hHeld hb
          try simp only [Act.put, List.getElem_toArray, List.getElem_cons_succ, List.getElem_cons_zero, List.setIfInBounds_toArray, List.set_cons_zero, List.set_cons_succ]
          refine' wpAnyH_take (i := 4) (v := .tuple #[.agg #[yk, yr], .int .i64 q.2.1, yo]) rfl (by kernel_rfl) (by kernel_rfl) (by kernel_rfl) (fun _ _ _ h => h) (Or.inl ⟨by rfl, fun W h => by go_simp⟩) trivial ?_
          try simp only [Act.put, List.getElem_toArray, List.getElem_cons_succ, List.getElem_cons_zero, List.setIfInBounds_toArray, List.set_cons_zero, List.set_cons_succ]
          refine' wpAnyH_take (i := 5) (v := .agg #[yk, yr]) rfl (by kernel_rfl) (by kernel_rfl) (by kernel_rfl) (fun _ _ _ h => h) (Or.inl ⟨by rfl, fun W h => by go_simp⟩) trivial ?_
          try simp only [Act.put, List.getElem_toArray, List.getElem_cons_succ, List.getElem_cons_zero, List.setIfInBounds_toArray, List.set_cons_zero, List.set_cons_succ]
          refine' wpAnyH_take (i := 6) (v := .int .i64 q.2.1) rfl (by kernel_rfl) (by kernel_rfl) (by kernel_rfl) (fun _ _ _ h => h) (Or.inl ⟨by rfl, fun W h => by go_simp⟩) trivial ?_
          try simp only [Act.put, List.getElem_toArray, List.getElem_cons_succ, List.getElem_cons_zero, List.setIfInBounds_toArray, List.set_cons_zero, List.set_cons_succ]
          refine' wpAnyH_take (i := 7) (v := yo) rfl (by kernel_rfl) (by kernel_rfl) (by kernel_rfl) (fun _ _ _ h => h) (Or.inl ⟨by rfl, fun W h => by go_simp⟩) trivial ?_
          try simp only [Act.put, List.getElem_toArray, List.getElem_cons_succ, List.getElem_cons_zero, List.setIfInBounds_toArray, List.set_cons_zero, List.set_cons_succ]
          refine wpAnyH_ready (rs := [8]) (by kernel_rfl) (by simp) ?_
          refine AllReadyH.cons rfl (fun K hK => ?_) AllReadyH.nil
          rw [if_pos (by rfl)]
          refine wp_store_row 27 _ _ rfl (w.heap.size + 1) #[yk, yr] rfl rfl 27 _ HM.out.b (by kernel_rfl) rfl hoc ?_
          have HM9 := Lib.hid (HM.out.store HN.out HF.out ⟨HL.out.1, HL.out.2.1⟩)
          refine hK.out _ _ trivial (fun hHeld => ?_)
          clear hK K hHeld HM HF HL HN hoc
          try simp only [Act.put, List.getElem_toArray, List.getElem_cons_succ, List.getElem_cons_zero, List.setIfInBounds_toArray, List.set_cons_zero, List.set_cons_succ]
          refine wpAnyH_done (by kernel_rfl) ?_ _
          generalize X2.setRow (w.heap.size + 1) #[yk, yr] = X9 at *
          go_wp2_with fail
          go_roundw
          case rel => exact ⟨jp, _, _, _, by go_num, by omega, HM9.out⟩
          case measure => simp [intOf]
        · skip
          go_simp
          refine (HOP _ s3 C3.out hsd).out.mono ?_
          rintro e X1 ⟨o, s5, ho, rfl, c5, hg⟩
          replace HM := Lib.hid (HM.out.call c5 hg)
          have HO := Lib.hid ho
          have hs1 : w.heap.size ≤ X1.heap.size := Nat.le_trans hsd hg.size
          clear ho c5 hg
          refine hK.out _ _ trivial (fun hHeld => ?_)
          clear hK K hHeld
          try simp only [Act.put, List.getElem_toArray, List.getElem_cons_succ, List.getElem_cons_zero, List.setIfInBounds_toArray, List.set_cons_zero, List.set_cons_succ]
          refine wpAnyH_ready (rs := [0]) (by kernel_rfl) (by simp) ?_
          refine AllReadyH.cons rfl (fun K hK => ?_) AllReadyH.nil
          rw [if_pos (by rfl)]
          refine wp_load_row 27 _ rfl (w.heap.size + 1) rfl 27 #[vk, vr] (0, 0) _ HM.out.b hu rfl (by kernel_rfl) ?_
          refine hK.out _ _ trivial (fun hHeld => ?_)
          clear hK K hHeld
          try simp only [Act.put, List.getElem_toArray, List.getElem_cons_succ, List.getElem_cons_zero, List.setIfInBounds_toArray, List.set_cons_zero, List.set_cons_succ]
          refine wpAnyH_ready (rs := [3]) (by kernel_rfl) (by simp) ?_
          refine AllReadyH.cons rfl (fun K hK => ?_) AllReadyH.nil
          go_simp
          refine (HDO _ (m) o (vk) (vr) HM.out.mo hs1 HM.out.f HM.out.l HO.out).out.mono ?_
          rintro e X2 ⟨yk, yr, yo, rfl, hm, hr, ha, hb⟩
          replace HM := Lib.hid (HM.out.below hb)
          have HF := Lib.hid (mDo_fit HM.out.f HO.out)
          have HL := Lib.hid (mDo_100 o 100 (by decide) HM.out.l.1 HM.out.l.2)
          have HN := Lib.hid (hm.base hs1)
          have hoc := mo_one2 HN.out
          clear hm hr ha
          generalize mDoV (m) o = q at *
          refine hK.out _ _ trivial (fun hHeld => ?_)
          clear hK K hHeld hb
          try simp only [Act.put, List.getElem_toArray, List.getElem_cons_succ, List.getElem_cons_zero, List.setIfInBounds_toArray, List.set_cons_zero, List.set_cons_succ]
          refine' wpAnyH_take (i := 4) (v := .tuple #[.agg #[yk, yr], .int .i64 q.2.1, yo]) rfl (by kernel_rfl) (by kernel_rfl) (by kernel_rfl) (fun _ _ _ h => h) (Or.inl ⟨by rfl, fun W h => by go_simp⟩) trivial ?_
          try simp only [Act.put, List.getElem_toArray, List.getElem_cons_succ, List.getElem_cons_zero, List.setIfInBounds_toArray, List.set_cons_zero, List.set_cons_succ]
          refine' wpAnyH_take (i := 5) (v := .agg #[yk, yr]) rfl (by kernel_rfl) (by kernel_rfl) (by kernel_rfl) (fun _ _ _ h => h) (Or.inl ⟨by rfl, fun W h => by go_simp⟩) trivial ?_
          try simp only [Act.put, List.getElem_toArray, List.getElem_cons_succ, List.getElem_cons_zero, List.setIfInBounds_toArray, List.set_cons_zero, List.set_cons_succ]
          refine' wpAnyH_take (i := 6) (v := .int .i64 q.2.1) rfl (by kernel_rfl) (by kernel_rfl) (by kernel_rfl) (fun _ _ _ h => h) (Or.inl ⟨by rfl, fun W h => by go_simp⟩) trivial ?_
          try simp only [Act.put, List.getElem_toArray, List.getElem_cons_succ, List.getElem_cons_zero, List.setIfInBounds_toArray, List.set_cons_zero, List.set_cons_succ]
          refine' wpAnyH_take (i := 7) (v := yo) rfl (by kernel_rfl) (by kernel_rfl) (by kernel_rfl) (fun _ _ _ h => h) (Or.inl ⟨by rfl, fun W h => by go_simp⟩) trivial ?_
          try simp only [Act.put, List.getElem_toArray, List.getElem_cons_succ, List.getElem_cons_zero, List.setIfInBounds_toArray, List.set_cons_zero, List.set_cons_succ]
          refine wpAnyH_ready (rs := [8]) (by kernel_rfl) (by simp) ?_
          refine AllReadyH.cons rfl (fun K hK => ?_) AllReadyH.nil
          rw [if_pos (by rfl)]
          refine wp_store_row 27 _ _ rfl (w.heap.size + 1) #[yk, yr] rfl rfl 27 _ HM.out.b (by kernel_rfl) rfl hoc ?_
          have HM9 := Lib.hid (HM.out.store HN.out HF.out ⟨HL.out.1, HL.out.2.1⟩)
          refine hK.out _ _ trivial (fun hHeld => ?_)
          clear hK K hHeld HM HF HL HN hoc
          try simp only [Act.put, List.getElem_toArray, List.getElem_cons_succ, List.getElem_cons_zero, List.setIfInBounds_toArray, List.set_cons_zero, List.set_cons_succ]
          refine wpAnyH_done (by kernel_rfl) ?_ _
          generalize X2.setRow (w.heap.size + 1) #[yk, yr] = X9 at *
          go_wp2_with fail
          go_roundw
          case rel => exact ⟨jp, _, _, _, by go_num, by omega, HM9.out⟩
          case measure => simp [intOf]
end Go.Proofs.YtbhhhakfjmaglaaGreat
