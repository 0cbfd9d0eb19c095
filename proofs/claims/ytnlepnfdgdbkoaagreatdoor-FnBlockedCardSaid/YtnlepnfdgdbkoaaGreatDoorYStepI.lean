/-
  Texts of this seat, laid together.
-/
import Derived.Test.YtnlepnfdgdbkoaaGreatDoorYStepQ
import Derived.Test.YtnlepnfdgdbkoaaGreatDoorYRunV
import Derived.Test.YtnlepnfdgdbkoaaGreatDoorYZh
import Derived.Test.YtnlepnfdgdbkoaaGreatDoorYClW
namespace Go.Proofs.YtnlepnfdgdbkoaaGreatDoor
open Go.RowKit M
set_option linter.unusedVariables false
set_option linter.unusedSimpArgs false
def NewC (w : World) (s : S) (e : Ending) (w' : World) : Prop := ∃ κ vc vj vt vl, e = .returned (.agg (worVals s vc vj vt vl)) ∧ WT w' κ s vc vj vt vl ∧ (∀ k, κ k ≠ 0 → w.heap.size ≤ k) ∧ Below w.heap.size w w'
theorem WT.six {w : World} {κ : Nat → Nat} {s : S} {vc vj vt vl : Value} (h : WT w κ s vc vj vt vl) {g : Nat} (hg : κ g = 0) (hl : g < w.heap.size) :
    ∃ κ', WT w κ' s vc vj vt vl ∧ κ' g = 6 ∧ ∀ k, κ' k ≠ 0 → k = g ∨ κ k ≠ 0 := by
  obtain ⟨κ', hk⟩ := repaint κ 6 (fun k => k = g)
  have hne : ∀ i, i ≠ 0 → ∀ k, κ k = i → κ' k = i := fun i hi k hki => ((hk k).2 (fun e => by subst e; omega)).trans hki
  refine ⟨κ', ⟨⟨h.t.c.mono (hne 1 (by omega)), h.t.j.mono (hne 2 (by omega)), h.t.t.mono (hne 3 (by omega)) (hne 4 (by omega)), h.t.l.mono (hne 5 (by omega))⟩, fun k hk0 => ?_⟩, (hk g).1 rfl, fun k hk0 => ?_⟩
  · by_cases e : k = g
    · rw [e]; exact hl
    · exact h.lt k (by rw [← (hk k).2 e]; exact hk0)
  · by_cases e : k = g
    · exact .inl e
    · exact .inr (by rw [← (hk k).2 e]; exact hk0)
theorem set_self (l : List J) (t : Nat) (ht : t < l.length) : l.set t (l.getD t zeroJ) = l := by
  apply List.ext_getElem?
  intro i
  rw [List.getElem?_set]
  by_cases e : t = i
  · subst e; rw [if_pos rfl, if_pos ht, List.getD_eq_getElem?_getD, List.getElem?_eq_getElem ht]; rfl
  · rw [if_neg e]
theorem adv_do (s : S) (t : Nat) (h : restsV s t = false) : { (advS s t (s.jobs.getD t zeroJ)).1 with jobs := (advS s t (s.jobs.getD t zeroJ)).1.jobs.set t (advS s t (s.jobs.getD t zeroJ)).2 } = doV s t := by
  have e : doV s t = (if (s.jobs.getD t zeroJ).busy = false then startS { s with now := s.now + 1 } t else { (workS { s with now := s.now + 1 } t { (s.jobs.getD t zeroJ) with steps := bump (s.jobs.getD t zeroJ).steps }).1 with jobs := (workS { s with now := s.now + 1 } t { (s.jobs.getD t zeroJ) with steps := bump (s.jobs.getD t zeroJ).steps }).1.jobs.set t (workS { s with now := s.now + 1 } t { (s.jobs.getD t zeroJ) with steps := bump (s.jobs.getD t zeroJ).steps }).2 }) := by
    unfold doV
    exact if_neg (by rw [h]; decide)
  rw [e]
  unfold advS
  by_cases hb : (s.jobs.getD t zeroJ).busy = false
  · simp only [if_pos hb] <;> rfl
  · simp only [if_neg hb]
theorem step_yes {s : S} {t : Int} (h : canV s t = true) : worldOkV s = true ∧ (0 ≤ t ∧ t ≤ 3) ∧ restsV s t.toNat = false ∧ stepV s t = doV s t.toNat := by
  unfold canV at h
  simp only [Bool.and_eq_true, decide_eq_true_eq, Bool.not_eq_true'] at h
  refine ⟨h.1, h.2.1, h.2.2, ?_⟩
  unfold stepV threadOk
  rw [if_pos ⟨h.1, decide_eq_true h.2.1⟩]
theorem step_no {s : S} {t : Int} (h : canV s t = false) : stepV s t = s := by
  unfold stepV
  by_cases hc : worldOkV s = true ∧ threadOk t = true
  · rw [if_pos hc]
    unfold canV at h
    rw [hc.1] at h
    have h2 : decide (0 ≤ t ∧ t ≤ 3) = true := hc.2
    rw [h2] at h
    have hr : restsV s t.toNat = true := by simpa using h
    unfold doV
    rw [if_pos hr]
  · rw [if_neg hc]
theorem rests_no {s : S} {t : Nat} (h : restsV s t = false) : s.now ≠ 1000000000 ∧ ((s.jobs.getD t zeroJ).busy = false → 0 < (s.todo.getD t []).length ∧ s.serial ≠ 1000000) := by
  unfold restsV at h
  simp only [Bool.or_eq_false_iff, Bool.and_eq_false_iff, Bool.not_eq_false', decide_eq_false_iff_not] at h
  refine ⟨h.2, fun hb => ?_⟩
  rcases h.1 with h1 | h1
  · rw [hb] at h1; cases h1
  · exact ⟨Nat.pos_of_ne_zero h1.1, h1.2⟩
structure BW (w : World) (κ : Nat → Nat) (g : Nat) (s : S) (vc vj vt vl : Value) : Prop where
  blk : Blk w g 33 (worVals s vc vj vt vl)
  wt : WT w κ s vc vj vt vl
  six : κ g = 6
theorem BW.below {w w' : World} {κ : Nat → Nat} {g : Nat} {s : S} {vc vj vt vl : Value} (h : BW w κ g s vc vj vt vl) (hb : Below w.heap.size w w') : BW w' κ g s vc vj vt vl := ⟨h.blk.below hb, h.wt.below hb, h.six⟩
def BX (w : World) (κ : Nat → Nat) (g : Nat) (s : S) (e : Ending) (w' : World) : Prop := e = .returned (.tuple #[]) ∧ ∃ κ' vc vj vt vl, BW w' κ' g s vc vj vt vl ∧ Mv κ κ' w w'
set_option maxRecDepth 100000 in
set_option maxHeartbeats 8000000 in
theorem iStepIn_any (w : World) (κ : Nat → Nat) (g : Nat) (s : S) (vc vj vt vl : Value) (t : Int) (h : BW w κ g s vc vj vt vl) (hok : worldOkV s = true) (hl : s.log.length ≤ 1048576) (hf : KeepF s) : Calls Tryz.prog 28 #[.pointer (some ⟨g, 0, none⟩), .int .i64 t] w (BX w κ g (stepV s t)) := by
  have hulw := Tryz.underlying33
  have hgood := good_iff.1 hok
  have hjl := hgood.jl
  obtain ⟨bj, capj, hvj⟩ : ∃ b cap, vj = .slice (some ⟨b, 0, none⟩) 4 cap := by
    obtain ⟨b', cap', vk, vr, e, _⟩ := h.wt.job 0 (by omega)
    exact ⟨b', cap', by rw [e, hjl]⟩
  subst hvj
  obtain ⟨r, hr⟩ : ∃ r, canV s t = r := ⟨_, rfl⟩
  have hcs := iCanStep_any w s vc _ vt vl t h.wt.win hok
  rw [hr] at hcs
  have HR := Lib.hid hr
  have HCS := Lib.hid hcs
  have HH := Lib.hid h
  have G2 := Lib.hid h.blk
  have HF := Lib.hid hf
  have HL := Lib.hid hl
  have HOK := Lib.hid hgood
  clear hr hcs h hf hl hgood hok hjl
  go_enter Tryz.func28, Tryz.ntmps28
  go_wp2_with ((with_reducible show wpList _ _ _ _ _ _); refine wpList_load_row rfl 33 _ rfl g rfl 33 (worVals s vc (.slice (some ⟨bj, 0, none⟩) 4 capj) vt vl) (0, 0) _ G2.out hulw rfl (by kernel_rfl) ?_)
  refine HCS.out.mono ?_
  rintro e X ⟨rfl, hb⟩
  have HB := Lib.hid (HH.out.below hb)
  have HM := Lib.hid (Mv.of_below hb : Mv κ κ w X)
  clear HH G2 hb HCS
  cases r with
  | false =>
    have HST := Lib.hid (step_no HR.out)
    go_wp2_with fail
    go_end0
    exact ⟨rfl, κ, vc, _, vt, vl, by rw [HST.out]; exact HB.out, HM.out⟩
  | true =>
    obtain ⟨_, ht03, hrest, hst⟩ := step_yes HR.out
    obtain ⟨n, rfl⟩ : ∃ n : Nat, t = (n : Int) := ⟨t.toNat, by omega⟩
    rw [show ((n : Int)).toNat = n from rfl] at hrest hst
    have hn4 : n < 4 := by omega
    obtain ⟨hnow, hfree⟩ := rests_no hrest
    have hgood := HOK.out
    have hjl := hgood.jl
    have hpj : PJ X κ g bj capj vt n s (s.jobs.getD n zeroJ) vc vl := ⟨HB.out.blk, by rw [set_self _ _ (by omega)]; exact HB.out.wt, HB.out.six, hjl, hn4⟩
    have hjf := HF.out n (by omega)
    have hc := iAdvance_any X κ g bj capj vt n s (s.jobs.getD n zeroJ) vc vl hpj hgood.cells HL.out (todo_iff.1 hgood.todo).1 ⟨hgood.now.1, by have := hgood.now.2; omega⟩ (fun hb => ⟨(jg_iff hb).1 (hgood.jobs n hn4), Nat.le_trans (op_size ((jg_iff hb).1 (hgood.jobs n hn4)).op) (by decide), hjf.1, hjf.2⟩) (fun hb => ⟨(hfree hb).1, hgood.ser.1, by have h1 := (hfree hb).2; have h2 := hgood.ser.2; omega⟩)
    have HC := Lib.hid hc
    have HAD := Lib.hid (adv_do s n hrest)
    have HST := Lib.hid hst
    clear hc hpj hjf hgood hfree hrest hst HB HOK HF HL hnow hjl
    go_wp2_with fail
    refine HC.out.mono ?_
    rintro e Y ⟨rfl, κ3, vc2, vl2, hpj, hmv⟩
    have HPJ := Lib.hid hpj
    have HM := Lib.hid (HM.out.trans hmv)
    clear hpj hmv HC
    generalize advS s n (s.jobs.getD n zeroJ) = p at *
    go_wp2_with fail
    go_end0
    refine ⟨rfl, κ3, vc2, (.slice (some ⟨bj, 0, none⟩) 4 capj), vt, vl2, ?_, HM.out⟩
    rw [HST.out, ← HAD.out]
    exact ⟨HPJ.out.blk, HPJ.out.wt, HPJ.out.six⟩
set_option maxRecDepth 100000 in
set_option maxHeartbeats 8000000 in
theorem iStep_any (w : World) (κ : Nat → Nat) (s : S) (vc vj vt vl : Value) (t : Int) (h : WT w κ s vc vj vt vl) (hs : SmallS s) (hf : s.Fit) : Calls Tryz.prog 15 #[.agg (worVals s vc vj vt vl), .int .i64 t] w (NewC w (stepV s t)) := by
  have hulw := Tryz.underlying33
  have HSRC := Lib.hid (fun W (hb : Below w.heap.size w W) => h.below hb)
  have HS := Lib.hid hs
  have HF := Lib.hid hf
  have HONE := Lib.hid h.one
  clear h hs hf
  go_enter Tryz.func15, Tryz.ntmps15
  go_upto_region 1 with fail
  refine wp_gen (fun W => Blk W w.heap.size 33 (worVals s vc vj vt vl) ∧ Blk W (w.heap.size + 1) 33 #[.slice none 0 0, .slice none 0 0, .slice none 0 0, .slice none 0 0, .int .i64 0, .int .i64 0] ∧ Below w.heap.size w W) ⟨(Blk.new w _ _ _ rfl).alloc _, Blk.new _ _ _ _ (by simp [go_sem]), ((Below.refl _ _).alloc (Nat.le_refl _) _).alloc (by simp [go_sem]) _⟩ ?_
  rintro W ⟨h0, h1, hb⟩
  have G0 := Lib.hid h0
  have G1 := Lib.hid h1
  have HB := Lib.hid hb
  have hgl : w.heap.size + 2 ≤ W.heap.size := h1.lt
  clear h0 h1 hb
  go_wp2_with ((with_reducible show wpList _ _ _ _ _ _); refine wpList_load_row rfl 33 _ rfl w.heap.size rfl 33 (worVals s vc vj vt vl) (0, 0) _ G0.out hulw rfl (by kernel_rfl) ?_)
  refine (iCloneW_any W κ s vc vj vt vl (HSRC.out W HB.out) HS.out).mono ?_
  rintro e V ⟨vc1, vj1, vt1, vl1, rfl, hp, hb1⟩
  obtain ⟨κ1, ht1, hk1⟩ := hp.wt
  have hone := ht1.one
  have HT := Lib.hid ht1
  have G0 := Lib.hid (G0.out.below hb1)
  have G1 := Lib.hid (G1.out.below hb1)
  have HB := Lib.hid (HB.out.trans (hb1.mono HB.out.size))
  have hsz := hb1.size
  clear hp hb1 ht1 HONE
  go_upto_region 2 with ((with_reducible show wpList _ _ _ _ _ _); refine wpList_store_row rfl 33 _ _ rfl V.heap.size (worVals s vc1 vj1 vt1 vl1) rfl rfl 33 _ (Blk.new V V.heap.size 33 #[.slice none 0 0, .slice none 0 0, .slice none 0 0, .slice none 0 0, .int .i64 0, .int .i64 0] rfl) (by kernel_rfl) rfl hone ?_)
  have hbw := below_oneL V (.cells #[.slice none 0 0, .slice none 0 0, .slice none 0 0, .slice none 0 0, .int .i64 0, .int .i64 0] 33)
  have hnew := HT.out.new0 (Nat.le_refl V.heap.size)
  have g1 := grown_setRow (V.alloc (.cells #[.slice none 0 0, .slice none 0 0, .slice none 0 0, .slice none 0 0, .int .i64 0, .int .i64 0] 33)) V.heap.size (worVals s vc1 vj1 vt1 vl1)
  refine wp_gen (fun X => (Blk X w.heap.size 33 (worVals s vc vj vt vl) ∧ Blk X (w.heap.size + 1) 33 #[.slice none 0 0, .slice none 0 0, .slice none 0 0, .slice none 0 0, .int .i64 0, .int .i64 0]) ∧ Blk X V.heap.size 33 (worVals s vc1 vj1 vt1 vl1) ∧ WT X κ1 s vc1 vj1 vt1 vl1 ∧ Below w.heap.size w X) ⟨⟨(G0.out.below hbw).grown g1 (fun e => by injection e with e; omega), (G1.out.below hbw).grown g1 (fun e => by injection e with e; omega)⟩, setRow_heap _ _ _ _ _ _ (Blk.new V V.heap.size 33 #[.slice none 0 0, .slice none 0 0, .slice none 0 0, .slice none 0 0, .int .i64 0, .int .i64 0] rfl), (HT.out.below hbw).setRow (.inl hnew) _, below_setRow' (HB.out.trans (hbw.mono HB.out.size)) (by omega) _⟩ ?_
  clear G0 G1 HB HT hbw g1 hone
  generalize V.heap.size = g at *
  rintro X ⟨⟨h0, h1⟩, h2, ht, hb⟩
  have G0 := Lib.hid h0
  have G1 := Lib.hid h1
  have G2 := Lib.hid h2
  have HT := Lib.hid ht
  have HB := Lib.hid hb
  clear h0 h1 h2 ht hb
  have HHS := Lib.hid (fun W (hb : Below w.heap.size w W) => iWorldOk_any W s vc vj vt vl (HSRC.out W hb).win HF.out)
  go_wp2_with ((with_reducible show wpList _ _ _ _ _ _); refine wpList_load_row rfl 33 _ rfl w.heap.size rfl 33 (worVals s vc vj vt vl) (0, 0) _ G0.out hulw rfl (by kernel_rfl) ?_)
  obtain ⟨r, hr⟩ : ∃ r, worldOkV s = r := ⟨_, rfl⟩
  have hcs := HHS.out X HB.out
  rw [hr] at hcs
  have HR := Lib.hid hr
  clear hr HHS
  refine hcs.mono ?_
  rintro e X' ⟨rfl, hb2⟩
  have G1 := Lib.hid (G1.out.below hb2)
  have G2 := Lib.hid (G2.out.below hb2)
  have HT := Lib.hid (HT.out.below hb2)
  have HB := Lib.hid (HB.out.trans (hb2.mono HB.out.size))
  have hsz2 := HB.out.size
  have hg2 := G2.out.lt
  clear hcs hb2 G0 HSRC
  have HZ := Lib.hid (show κ1 (w.heap.size + 1) = 0 from by by_cases e : κ1 (w.heap.size + 1) = 0; exact e; have := hk1 _ e; omega)
  cases r with
  | false =>
    have HST := Lib.hid (step_no (canV_no (t := t) (.inl HR.out)))
    have HK := Lib.hid (show ∀ k, κ1 k ≠ 0 → w.heap.size ≤ k from fun k hk => by have := hk1 k hk; omega)
    have hone := HT.out.one
    go_wp2_with ((with_reducible show wpList _ _ _ _ _ _); first | refine wpList_load_row rfl 33 _ rfl g rfl 33 (worVals s vc1 vj1 vt1 vl1) (0, 0) _ G2.out hulw rfl (by kernel_rfl) ?_ | refine wpList_store_row rfl 33 _ _ rfl (w.heap.size + 1) (worVals s vc1 vj1 vt1 vl1) rfl rfl 33 _ G1.out (by kernel_rfl) rfl hone ?_)
    have hz : κ1 (w.heap.size + 1) = 0 := HZ.out
    refine post_gen (fun Z => Blk Z (w.heap.size + 1) 33 (worVals s vc1 vj1 vt1 vl1) ∧ WT Z κ1 s vc1 vj1 vt1 vl1 ∧ Below w.heap.size w Z) ⟨setRow_heap _ _ _ _ _ _ G1.out, HT.out.setRow (.inl hz) _, below_setRow' HB.out (Nat.le_succ w.heap.size) _⟩ ?_
    rintro Z ⟨hx, hw, hb⟩
    rw [HST.out]
    exact bodyPost_ret (v := .agg (worVals s vc1 vj1 vt1 vl1)) (results_cell_row rfl _ _ _ _ _ (0, 0) _ rfl hx hulw rfl (by kernel_rfl)) rfl ⟨κ1, _, _, _, _, rfl, hw, HK.out, hb⟩
  | true =>
    obtain ⟨κ2, ht2, hsix, hk2⟩ := HT.out.six hnew hg2
    have HC := Lib.hid (iStepIn_any X' κ2 g s vc1 vj1 vt1 vl1 t ⟨G2.out, ht2, hsix⟩ HR.out HS.out.l (fun j hj => ⟨(HF.out.jobs j hj).keys, (HF.out.jobs j hj).raw⟩))
    clear ht2
    go_wp2_with fail
    refine HC.out.mono ?_
    rintro e Y ⟨rfl, κ3, vc2, vj2, vt2, vl2, hbw, hmv⟩
    obtain ⟨s2, hs2⟩ : ∃ s2 : S, s2 = stepV s t := ⟨_, rfl⟩
    rw [← hs2] at hbw
    have HST := Lib.hid hs2.symm
    have hz2 : κ2 (w.heap.size + 1) = 0 := by by_cases e : κ2 (w.heap.size + 1) = 0; exact e; rcases hk2 _ e with e1 | e1; omega; exact absurd HZ.out e1
    have hk2' : ∀ k, κ2 k ≠ 0 → w.heap.size + 2 ≤ k := fun k hk => by rcases hk2 k hk with e | e; omega; have := hk1 k e; omega
    have HB := Lib.hid (hmv.to_below HB.out hsz2 (fun k hk => by have := hk2' k hk; omega))
    have G1 := Lib.hid (G1.out.mv hmv hz2)
    have HZ := Lib.hid ((hmv.old _ (by omega)).trans hz2 : κ3 (w.heap.size + 1) = 0)
    have HK := Lib.hid (show ∀ k, κ3 k ≠ 0 → w.heap.size ≤ k from fun k hk => by by_cases e : k < X'.heap.size; rw [hmv.old k e] at hk; have := hk2' k hk; omega; omega)
    have hsz3 := hmv.size
    have G2 := Lib.hid hbw.blk
    have HT := Lib.hid hbw.wt
    clear hbw hs2 hmv HC hk2 hk2' hz2
    have hone := HT.out.one
    go_wp2_with ((with_reducible show wpList _ _ _ _ _ _); first | refine wpList_load_row rfl 33 _ rfl g rfl 33 (worVals s2 vc2 vj2 vt2 vl2) (0, 0) _ G2.out hulw rfl (by kernel_rfl) ?_ | refine wpList_store_row rfl 33 _ _ rfl (w.heap.size + 1) (worVals s2 vc2 vj2 vt2 vl2) rfl rfl 33 _ G1.out (by kernel_rfl) rfl hone ?_)
    have hz : κ3 (w.heap.size + 1) = 0 := HZ.out
    refine post_gen (fun Z => Blk Z (w.heap.size + 1) 33 (worVals s2 vc2 vj2 vt2 vl2) ∧ WT Z κ3 s2 vc2 vj2 vt2 vl2 ∧ Below w.heap.size w Z) ⟨setRow_heap _ _ _ _ _ _ G1.out, HT.out.setRow (.inl hz) _, below_setRow' HB.out (Nat.le_succ w.heap.size) _⟩ ?_
    rintro Z ⟨hx, hw, hb⟩
    rw [HST.out]
    exact bodyPost_ret (v := .agg (worVals s2 vc2 vj2 vt2 vl2)) (results_cell_row rfl _ _ _ _ _ (0, 0) _ rfl hx hulw rfl (by kernel_rfl)) rfl ⟨κ3, _, _, _, _, rfl, hw, HK.out, hb⟩
end Go.Proofs.YtnlepnfdgdbkoaaGreatDoor
