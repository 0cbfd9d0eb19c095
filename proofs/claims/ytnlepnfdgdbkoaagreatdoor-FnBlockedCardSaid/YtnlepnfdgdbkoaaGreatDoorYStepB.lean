/-
  Texts of this seat, laid together.
-/
import Derived.Test.YtnlepnfdgdbkoaaGreatDoorYZf
import Derived.BigRegion
namespace Go.Proofs.YtnlepnfdgdbkoaaGreatDoor
open Go.RowKit M
set_option linter.unusedVariables false
set_option linter.unusedSimpArgs false
def NoteX (w : World) (κ : Nat → Nat) (g b cap : Nat) (vt : Value) (t : Nat) (s : S) (r : J) (vc : Value) (R : Nat → Prop) (e : Ending) (w' : World) : Prop :=
  e = .returned (.tuple #[]) ∧ ∃ κ' vl, PJ w' κ' g b cap vt t s r vc vl ∧ MvR R κ κ' w w'
set_option maxRecDepth 100000 in
set_option maxHeartbeats 1600000 in
theorem iNote_any (w : World) (κ : Nat → Nat) (g b cap : Nat) (vt : Value) (t : Nat) (s : S) (r : J) (vc vl : Value) (h : PJ w κ g b cap vt t s r vc vl) (hlen : s.log.length ≤ 1048576)
    (e0 : E) (Ae : Option Addr) (ce : Nat) (R : Nat → Prop) (hrow : HeapS w R [⟨.slice Ae e0.rows.length ce, 55, 10, e0.rows.length, cellsR e0.rows⟩]) (hR : ∀ k, R k → κ k = 0) :
    Calls Tryz.prog 75 #[.pointer (some ⟨g, 0, none⟩), .int .i64 (t : Int), .agg (evVals e0 (.slice Ae e0.rows.length ce))] w
      (NoteX w κ g b cap vt t { s with log := s.log ++ [{ e0 with who := t, serial := r.serial, at_ := s.now, op := r.op }] } r vc R) := by
  obtain ⟨i0, hi0, hz0, hz1, hz2⟩ := info_parts info_Ev
  have hule := Tryz.underlying39
  have htl := h.tl
  have HP0 := Lib.hid h
  go_enter Tryz.func75, Tryz.ntmps75
  go_upto_region 1 with fail
  refine wp_gen (fun W => Blk W w.heap.size 39 (evVals e0 (.slice Ae e0.rows.length ce)) ∧ PJ W κ g b cap vt t s r vc vl ∧ Below w.heap.size w W) ⟨Blk.new w _ _ _ rfl, h.below (below_oneL w _), below_oneL w _⟩ ?_
  rintro W ⟨h0, h1, hb⟩
  obtain ⟨vk, vr, hrg, hvk, hvr, hfz, hb2, hk1, hk2⟩ := h1.cells
  have p1 : W.cell? ⟨g, 1, none⟩ = some (.slice (some ⟨b, 0, none⟩) 4 cap) := h1.blk.get 1
  have p5 : W.cell? ⟨g, 5, none⟩ = some (.int .i64 s.now) := h1.blk.get 5
  have c1 : W.cell? ⟨b, t * 18 + 1, none⟩ = some (.int .i64 r.op.kind) := hrg 1 _ rfl
  have c2 : W.cell? ⟨b, t * 18 + 2, none⟩ = some (.string r.op.key) := hrg 2 _ rfl
  have c3 : W.cell? ⟨b, t * 18 + 3, none⟩ = some (.int .i64 r.op.what) := hrg 3 _ rfl
  have c4 : W.cell? ⟨b, t * 18 + 4, none⟩ = some (.int .i64 r.op.val) := hrg 4 _ rfl
  have c5 : W.cell? ⟨b, t * 18 + 5, none⟩ = some (.int .i64 r.serial) := hrg 5 _ rfl
  have G0 := Lib.hid h0
  have d1 : W.cell? ⟨w.heap.size, 1, none⟩ = some (.int .i64 e0.who) := h0.get 1
  have d2 : W.cell? ⟨w.heap.size, 2, none⟩ = some (.int .i64 e0.serial) := h0.get 2
  have d3 : W.cell? ⟨w.heap.size, 3, none⟩ = some (.int .i64 e0.at_) := h0.get 3
  have d4 : W.cell? ⟨w.heap.size, 4, none⟩ = some (.int .i64 e0.op.kind) := h0.get 4
  have d5 : W.cell? ⟨w.heap.size, 5, none⟩ = some (.string e0.op.key) := h0.get 5
  have d6 : W.cell? ⟨w.heap.size, 6, none⟩ = some (.int .i64 e0.op.what) := h0.get 6
  have d7 : W.cell? ⟨w.heap.size, 7, none⟩ = some (.int .i64 e0.op.val) := h0.get 7
  have z1 := h0.frz 1
  have z2 := h0.frz 2
  have z3 := h0.frz 3
  have z4 := h0.frz 4
  have z5 := h0.frz 5
  have z6 := h0.frz 6
  have z7 := h0.frz 7
  have ht4 : (t : Int) < 4 := by omega
  have hbn : b ≠ w.heap.size := fun e => by
    have h2 := HP0.out.wt.lt b (by omega)
    omega
  have hgn : g ≠ w.heap.size := fun e => by
    have h2 := HP0.out.blk.lt
    omega
  have HP := Lib.hid h1
  have HB := Lib.hid hb
  clear h0 h1 hb hrg hvk hvr hfz hk1 hk2 h
  go_big_region
  go_upto_region 2 with fail
  have k0 : κ w.heap.size = 0 := HP0.out.wt.new0 (Nat.le_refl _)
  have q0 := HP.out
  have b0 := G0.out
  have u0 := HB.out
  have q1 := q0.store b0 k0 1 (.int .i64 (t : Int))
  have b1 := b0.store 1 (.int .i64 (t : Int))
  have u1 := u0.setCell (p := ⟨w.heap.size, 1, none⟩) (Nat.le_refl _) (.int .i64 (t : Int))
  have q2 := q1.store b1 k0 2 (.int .i64 r.serial)
  have b2 := b1.store 2 (.int .i64 r.serial)
  have u2 := u1.setCell (p := ⟨w.heap.size, 2, none⟩) (Nat.le_refl _) (.int .i64 r.serial)
  have q3 := q2.store b2 k0 3 (.int .i64 s.now)
  have b3 := b2.store 3 (.int .i64 s.now)
  have u3 := u2.setCell (p := ⟨w.heap.size, 3, none⟩) (Nat.le_refl _) (.int .i64 s.now)
  have q4 := q3.store b3 k0 4 (.int .i64 r.op.kind)
  have b4 := b3.store 4 (.int .i64 r.op.kind)
  have u4 := u3.setCell (p := ⟨w.heap.size, 4, none⟩) (Nat.le_refl _) (.int .i64 r.op.kind)
  have q5 := q4.store b4 k0 5 (.string r.op.key)
  have b5 := b4.store 5 (.string r.op.key)
  have u5 := u4.setCell (p := ⟨w.heap.size, 5, none⟩) (Nat.le_refl _) (.string r.op.key)
  have q6 := q5.store b5 k0 6 (.int .i64 r.op.what)
  have b6 := b5.store 6 (.int .i64 r.op.what)
  have u6 := u5.setCell (p := ⟨w.heap.size, 6, none⟩) (Nat.le_refl _) (.int .i64 r.op.what)
  have q7 := q6.store b6 k0 7 (.int .i64 r.op.val)
  have b7 := b6.store 7 (.int .i64 r.op.val)
  have u7 := u6.setCell (p := ⟨w.heap.size, 7, none⟩) (Nat.le_refl _) (.int .i64 r.op.val)
  have hE : ∃ e1 : E, e1 = ({ e0 with who := t, serial := r.serial, at_ := s.now, op := r.op } : E) := ⟨_, rfl⟩
  obtain ⟨e1, hE⟩ := hE
  have HE := Lib.hid hE
  rw [← hE]
  have hrl : e1.rows = e0.rows := by rw [hE]
  have b8 := b7.below (below_drew _ _)
  have q8 := q7.below (below_drew _ _)
  have u8 := u7.trans (below_drew _ _)
  refine wp_gen (fun X => Blk X w.heap.size 39 (evVals e1 (.slice Ae e0.rows.length ce)) ∧ PJ X κ g b cap vt t s r vc vl ∧ Below w.heap.size w X) ⟨by rw [hE]; exact b8, q8, u8⟩ ?_
  clear b0 q0 u0 b1 q1 u1 b2 q2 u2 b3 q3 u3 b4 q4 u4 b5 q5 u5 b6 q6 u6 b7 q7 u7 b8 q8 u8 p1 p5 c1 c2 c3 c4 c5 d1 d2 d3 d4 d5 d6 d7 z1 z2 z3 z4 z5 z6 z7 G0 HP HB hE
  clear W
  rintro W ⟨h0, h1, hb⟩
  have G0 := Lib.hid (h0.below (below_drew _ _))
  have HP := Lib.hid (h1.below (below_drew _ _))
  have HB := Lib.hid (hb.trans (below_drew _ _))
  clear h0 h1 hb
  obtain ⟨vlog, hvl⟩ : ∃ v, v = vl := ⟨_, rfl⟩
  have p3 : W.drew.cell? ⟨g, 3, none⟩ = some vl := HP.out.blk.get 3
  refine wp_region_held_drew (S := fun X : World => Blk X w.heap.size 39 (evVals e1 (.slice Ae e0.rows.length ce))) (by kernel_rfl) G0.out (fun hHeld => ?_)
  clear hHeld p3
  generalize W.drew = X0 at *
  refine' wpAnyH_take (i := 0) (v := .pointer (some ⟨g, 0, none⟩)) rfl (by kernel_rfl) (by kernel_rfl) (by kernel_rfl) (fun _ _ _ h => h) (Or.inl ⟨by rfl, fun W h => by go_simp⟩) G0.out ?_
  try simp only [Act.put, List.getElem_toArray, List.getElem_cons_succ, List.getElem_cons_zero, List.setIfInBounds_toArray, List.set_cons_zero, List.set_cons_succ]
  refine' wpAnyH_take (i := 1) (v := .pointer (some ⟨g, 0, none⟩)) rfl (by kernel_rfl) (by kernel_rfl) (by kernel_rfl) (fun _ _ _ h => h) (Or.inl ⟨by rfl, fun W h => by go_simp⟩) G0.out ?_
  try simp only [Act.put, List.getElem_toArray, List.getElem_cons_succ, List.getElem_cons_zero, List.setIfInBounds_toArray, List.set_cons_zero, List.set_cons_succ]
  refine' wpAnyH_take (i := 2) (v := .pointer (some ⟨g, 0, none⟩)) rfl (by kernel_rfl) (by kernel_rfl) (by kernel_rfl) (fun _ _ _ h => h) (Or.inl ⟨by rfl, fun W h => by go_simp⟩) G0.out ?_
  try simp only [Act.put, List.getElem_toArray, List.getElem_cons_succ, List.getElem_cons_zero, List.setIfInBounds_toArray, List.set_cons_zero, List.set_cons_succ]
  refine' wpAnyH_take (i := 3) (v := .pointer (some ⟨g, 3, none⟩)) rfl (by kernel_rfl) (by kernel_rfl) (by kernel_rfl) (fun _ _ _ h => h) (Or.inl ⟨by rfl, fun W h => by go_simp⟩) G0.out ?_
  try simp only [Act.put, List.getElem_toArray, List.getElem_cons_succ, List.getElem_cons_zero, List.setIfInBounds_toArray, List.set_cons_zero, List.set_cons_succ]
  refine' wpAnyH_take (i := 5) (v := .agg (evVals e1 (.slice Ae e0.rows.length ce))) rfl (by kernel_rfl) (by kernel_rfl) (by kernel_rfl) (fun _ _ _ h => h) (yieldsIf_load_mid (by rfl) 39 _ rfl w.heap.size 0 rfl (evVals e1 (.slice Ae e0.rows.length ce)).toList _ (fun w' h => range_blk h) hule rfl (by kernel_rfl)) G0.out ?_
  try simp only [Act.put, List.getElem_toArray, List.getElem_cons_succ, List.getElem_cons_zero, List.setIfInBounds_toArray, List.set_cons_zero, List.set_cons_succ]
  refine wpAnyH_ready (rs := [4, 6]) (by kernel_rfl) (by simp) ?_
  refine AllReadyH.cons rfl (fun K hK => ?_) (AllReadyH.cons rfl (fun K hK => ?_) AllReadyH.nil)
  · have p3 : X0.cell? ⟨g, 3, none⟩ = some vl := HP.out.blk.get 3
    go_simp
    refine hK.out _ _ G0.out (fun hHeld => ?_)
    clear hK K hHeld p3
    try simp only [Act.put, List.getElem_toArray, List.getElem_cons_succ, List.getElem_cons_zero, List.setIfInBounds_toArray, List.set_cons_zero, List.set_cons_succ]
    refine wpAnyH_ready (rs := [6]) (by kernel_rfl) (by simp) ?_
    refine AllReadyH.cons rfl (fun K hK => ?_) AllReadyH.nil
    rw [if_pos (by rfl)]
    refine wp_buildRow1 31 39 _ rfl (evVals e1 (.slice Ae e0.rows.length ce)) rfl i0 _ Tryz.underlying31 hi0 hz0 hz1 (by show 0 < 13; omega) (by show 13 ≤ 1000; omega) ?_
    have hb := below_oneL X0 (.cells (evVals e1 (.slice Ae e0.rows.length ce)) 39)
    have hnew := Blk.new X0 X0.heap.size 39 (evVals e1 (.slice Ae e0.rows.length ce)) rfl
    have hsz1 : (X0.alloc (.cells (evVals e1 (.slice Ae e0.rows.length ce)) 39)).heap.size = X0.heap.size + 1 := by simp [go_sem]
    have hszX : w.heap.size + 1 ≤ X0.heap.size := G0.out.lt
    replace G0 := Lib.hid (G0.out.below hb)
    replace HP := Lib.hid (HP.out.below hb)
    replace HB := Lib.hid (HB.out.trans (hb.mono HB.out.size))
    refine hK.out _ _ G0.out (fun hHeld => ?_)
    clear hK K hHeld hb
    try simp only [Act.put, List.getElem_toArray, List.getElem_cons_succ, List.getElem_cons_zero, List.setIfInBounds_toArray, List.set_cons_zero, List.set_cons_succ]
    generalize X0.alloc (.cells (evVals e1 (.slice Ae e0.rows.length ce)) 39) = X1 at *
    obtain ⟨vs, hv1, hv2⟩ := HP.out.wt.t.l
    have hrl2 : w.heap.size ≤ X1.heap.size := HB.out.size
    have hrow1 := hrow.below HB.out
    have hro : World.ownsRow X1 0 39 13 vl s.log.length vs := hv2.1.own _ List.mem_cons_self
    have hone := ev_one e1 Ae e0.rows.length ce
    refine wpAnyH_ready (rs := [7]) (by kernel_rfl) (by simp) ?_
    refine AllReadyH.cons rfl (fun K hK => ?_) AllReadyH.nil
    rw [if_pos (by rfl)]
    refine wp_append_at _ _ 31 rfl 0 39 i0 _ 13 128 Tryz.underlying31 hi0 hz0 hz1 hz2 rfl (by decide) vl s.log.length vs rfl hro ⟨X0.heap.size, 0, none⟩ 1 1 (evVals e1 (.slice Ae e0.rows.length ce)).toList rfl rfl ?_ ?_ (by unfold maxLen; omega) (by omega) (Nat.zero_le _) ?_
    · intro k u hk; rw [Addr.add_lit, Nat.zero_add, hnew.get k]; simpa using hk
    · intro u hu; exact Array.all_eq_true_iff_forall_mem.1 hone u (by simpa using hu)
    intro v' X2 hown hgrow hblk
    obtain ⟨Av, cv, rfl⟩ := Rw.slice (show (⟨v', 39, 13, s.log.length + 1, vs ++ (evVals e1 (.slice Ae e0.rows.length ce)).toList⟩ : Rw).own X2 0 from hown)
    have hin : innerD (evVals e1 (.slice Ae e0.rows.length ce)).toList (evDat e1) = [⟨(.slice Ae e0.rows.length ce), 55, 10, e0.rows.length, cellsR e0.rows⟩] := by
      rw [← hrl]; rfl
    have hpush := OwnS.push (v' := .slice Av (s.log.length + 1) cv) (w2 := X2) hv1 hv2 (evVals_ok e1 (.slice Ae e0.rows.length ce)) (S' := R) (by rw [hin]; exact hrow1) (fun k h5 hr => by have h6 : κ k = 5 := h5; have := hR k hr; omega) hown hgrow (by rcases hblk with h | h; exact .inl h; exact .inr (fun k hk => by have e := Option.some.inj (h.symm.trans hk); omega))
    have e2 : datL evDat s.log ++ evDat e1 = datL evDat (s.log ++ [e1]) := by rw [datL_append]; simp [datL]
    have hlog : ∃ κ', PJ (X2.setCell ⟨g, 3, none⟩ (.slice Av (s.log.length + 1) cv)) κ' g b cap vt t { s with log := s.log ++ [e1] } r vc (.slice Av (s.log.length + 1) cv) ∧ MvR R κ κ' X1 (X2.setCell ⟨g, 3, none⟩ (.slice Av (s.log.length + 1) cv)) :=
      HP.out.log (es := s.log ++ [e1]) (R := R) hpush.2 (fun k hk => .inl hk) (by rw [List.length_append, ← e2]; exact hpush.1) hR (fun k hk => by
        rcases hk with (h | h) | h
        · exact .inl (.inl h)
        · exact .inr h
        · exact .inl (.inr h))
    have g5 : ∀ k, k = g ∨ k = w.heap.size → vl.ownBlock ≠ some k := fun k hk e => by
      have h5 : κ k = 5 := hv2.2 _ List.mem_cons_self k e
      have h6 := HP.out.six
      rcases hk with rfl | rfl
      · omega
      · omega
    have hgb : Blk X2 g 33 (worVals s vc (.slice (some ⟨b, 0, none⟩) 4 cap) vt vl) := HP.out.blk.grown hgrow (g5 g (.inl rfl))
    replace G0 := Lib.hid (G0.out.grown hgrow (g5 _ (.inr rfl)))
    have HL := Lib.hid hlog
    have HG := Lib.hid hgb
    refine hK.out _ _ G0.out (fun hHeld => ?_)
    clear hK K hHeld hown hgrow hblk hro hv1 hv2 hone hnew hpush hlog hgb hrow1 g5 hin
    try simp only [Act.put, List.getElem_toArray, List.getElem_cons_succ, List.getElem_cons_zero, List.setIfInBounds_toArray, List.set_cons_zero, List.set_cons_succ]
    refine' wpAnyH_take (i := 8) (v := .pointer (some ⟨g, 0, none⟩)) rfl (by kernel_rfl) (by kernel_rfl) (by kernel_rfl) (fun _ _ _ h => h) (Or.inl ⟨by rfl, fun W h => by go_simp⟩) G0.out ?_
    try simp only [Act.put, List.getElem_toArray, List.getElem_cons_succ, List.getElem_cons_zero, List.setIfInBounds_toArray, List.set_cons_zero, List.set_cons_succ]
    refine' wpAnyH_take (i := 9) (v := .pointer (some ⟨g, 3, none⟩)) rfl (by kernel_rfl) (by kernel_rfl) (by kernel_rfl) (fun _ _ _ h => h) (Or.inl ⟨by rfl, fun W h => by go_simp⟩) G0.out ?_
    try simp only [Act.put, List.getElem_toArray, List.getElem_cons_succ, List.getElem_cons_zero, List.setIfInBounds_toArray, List.set_cons_zero, List.set_cons_succ]
    have p3 : X2.cell? ⟨g, 3, none⟩ = some vl := HG.out.get 3
    have f3 := HG.out.frz 3
    refine wpAnyH_ready (rs := [10]) (by kernel_rfl) (by simp) ?_
    refine AllReadyH.cons rfl (fun K hK => ?_) AllReadyH.nil
    go_simp
    refine hK.out _ _ (G0.out.far g 3 _ (Ne.symm hgn)) (fun hHeld => ?_)
    clear hK K hHeld
    try simp only [Act.put, List.getElem_toArray, List.getElem_cons_succ, List.getElem_cons_zero, List.setIfInBounds_toArray, List.set_cons_zero, List.set_cons_succ]
    refine wpAnyH_done (by kernel_rfl) ?_ _
    go_wp2_with fail
    go_end0
    obtain ⟨κ', h2, h3⟩ := HL.out
    exact ⟨rfl, κ', _, h2, fun k hk hr => h3.old k (by omega) hr, (Chg.of_below HB.out).trans h3.chg⟩
  · rw [if_pos (by rfl)]
    refine wp_buildRow1 31 39 _ rfl (evVals e1 (.slice Ae e0.rows.length ce)) rfl i0 _ Tryz.underlying31 hi0 hz0 hz1 (by show 0 < 13; omega) (by show 13 ≤ 1000; omega) ?_
    have hb := below_oneL X0 (.cells (evVals e1 (.slice Ae e0.rows.length ce)) 39)
    have hnew := Blk.new X0 X0.heap.size 39 (evVals e1 (.slice Ae e0.rows.length ce)) rfl
    have hsz1 : (X0.alloc (.cells (evVals e1 (.slice Ae e0.rows.length ce)) 39)).heap.size = X0.heap.size + 1 := by simp [go_sem]
    have hszX : w.heap.size + 1 ≤ X0.heap.size := G0.out.lt
    replace G0 := Lib.hid (G0.out.below hb)
    replace HP := Lib.hid (HP.out.below hb)
    replace HB := Lib.hid (HB.out.trans (hb.mono HB.out.size))
    refine hK.out _ _ G0.out (fun hHeld => ?_)
    clear hK K hHeld hb
    try simp only [Act.put, List.getElem_toArray, List.getElem_cons_succ, List.getElem_cons_zero, List.setIfInBounds_toArray, List.set_cons_zero, List.set_cons_succ]
    generalize X0.alloc (.cells (evVals e1 (.slice Ae e0.rows.length ce)) 39) = X1 at *
    refine wpAnyH_ready (rs := [4]) (by kernel_rfl) (by simp) ?_
    refine AllReadyH.cons rfl (fun K hK => ?_) AllReadyH.nil
    have p3 : X1.cell? ⟨g, 3, none⟩ = some vl := HP.out.blk.get 3
    go_simp
    refine hK.out _ _ G0.out (fun hHeld => ?_)
    clear hK K hHeld p3
    try simp only [Act.put, List.getElem_toArray, List.getElem_cons_succ, List.getElem_cons_zero, List.setIfInBounds_toArray, List.set_cons_zero, List.set_cons_succ]
    obtain ⟨vs, hv1, hv2⟩ := HP.out.wt.t.l
    have hrl2 : w.heap.size ≤ X1.heap.size := HB.out.size
    have hrow1 := hrow.below HB.out
    have hro : World.ownsRow X1 0 39 13 vl s.log.length vs := hv2.1.own _ List.mem_cons_self
    have hone := ev_one e1 Ae e0.rows.length ce
    refine wpAnyH_ready (rs := [7]) (by kernel_rfl) (by simp) ?_
    refine AllReadyH.cons rfl (fun K hK => ?_) AllReadyH.nil
    rw [if_pos (by rfl)]
    refine wp_append_at _ _ 31 rfl 0 39 i0 _ 13 128 Tryz.underlying31 hi0 hz0 hz1 hz2 rfl (by decide) vl s.log.length vs rfl hro ⟨X0.heap.size, 0, none⟩ 1 1 (evVals e1 (.slice Ae e0.rows.length ce)).toList rfl rfl ?_ ?_ (by unfold maxLen; omega) (by omega) (Nat.zero_le _) ?_
    · intro k u hk; rw [Addr.add_lit, Nat.zero_add, hnew.get k]; simpa using hk
    · intro u hu; exact Array.all_eq_true_iff_forall_mem.1 hone u (by simpa using hu)
    intro v' X2 hown hgrow hblk
    obtain ⟨Av, cv, rfl⟩ := Rw.slice (show (⟨v', 39, 13, s.log.length + 1, vs ++ (evVals e1 (.slice Ae e0.rows.length ce)).toList⟩ : Rw).own X2 0 from hown)
    have hin : innerD (evVals e1 (.slice Ae e0.rows.length ce)).toList (evDat e1) = [⟨(.slice Ae e0.rows.length ce), 55, 10, e0.rows.length, cellsR e0.rows⟩] := by
      rw [← hrl]; rfl
    have hpush := OwnS.push (v' := .slice Av (s.log.length + 1) cv) (w2 := X2) hv1 hv2 (evVals_ok e1 (.slice Ae e0.rows.length ce)) (S' := R) (by rw [hin]; exact hrow1) (fun k h5 hr => by have h6 : κ k = 5 := h5; have := hR k hr; omega) hown hgrow (by rcases hblk with h | h; exact .inl h; exact .inr (fun k hk => by have e := Option.some.inj (h.symm.trans hk); omega))
    have e2 : datL evDat s.log ++ evDat e1 = datL evDat (s.log ++ [e1]) := by rw [datL_append]; simp [datL]
    have hlog : ∃ κ', PJ (X2.setCell ⟨g, 3, none⟩ (.slice Av (s.log.length + 1) cv)) κ' g b cap vt t { s with log := s.log ++ [e1] } r vc (.slice Av (s.log.length + 1) cv) ∧ MvR R κ κ' X1 (X2.setCell ⟨g, 3, none⟩ (.slice Av (s.log.length + 1) cv)) :=
      HP.out.log (es := s.log ++ [e1]) (R := R) hpush.2 (fun k hk => .inl hk) (by rw [List.length_append, ← e2]; exact hpush.1) hR (fun k hk => by
        rcases hk with (h | h) | h
        · exact .inl (.inl h)
        · exact .inr h
        · exact .inl (.inr h))
    have g5 : ∀ k, k = g ∨ k = w.heap.size → vl.ownBlock ≠ some k := fun k hk e => by
      have h5 : κ k = 5 := hv2.2 _ List.mem_cons_self k e
      have h6 := HP.out.six
      rcases hk with rfl | rfl
      · omega
      · omega
    have hgb : Blk X2 g 33 (worVals s vc (.slice (some ⟨b, 0, none⟩) 4 cap) vt vl) := HP.out.blk.grown hgrow (g5 g (.inl rfl))
    replace G0 := Lib.hid (G0.out.grown hgrow (g5 _ (.inr rfl)))
    have HL := Lib.hid hlog
    have HG := Lib.hid hgb
    refine hK.out _ _ G0.out (fun hHeld => ?_)
    clear hK K hHeld hown hgrow hblk hro hv1 hv2 hone hnew hpush hlog hgb hrow1 g5 hin
    try simp only [Act.put, List.getElem_toArray, List.getElem_cons_succ, List.getElem_cons_zero, List.setIfInBounds_toArray, List.set_cons_zero, List.set_cons_succ]
    refine' wpAnyH_take (i := 8) (v := .pointer (some ⟨g, 0, none⟩)) rfl (by kernel_rfl) (by kernel_rfl) (by kernel_rfl) (fun _ _ _ h => h) (Or.inl ⟨by rfl, fun W h => by go_simp⟩) G0.out ?_
    try simp only [Act.put, List.getElem_toArray, List.getElem_cons_succ, List.getElem_cons_zero, List.setIfInBounds_toArray, List.set_cons_zero, List.set_cons_succ]
    refine' wpAnyH_take (i := 9) (v := .pointer (some ⟨g, 3, none⟩)) rfl (by kernel_rfl) (by kernel_rfl) (by kernel_rfl) (fun _ _ _ h => h) (Or.inl ⟨by rfl, fun W h => by go_simp⟩) G0.out ?_
    try simp only [Act.put, List.getElem_toArray, List.getElem_cons_succ, List.getElem_cons_zero, List.setIfInBounds_toArray, List.set_cons_zero, List.set_cons_succ]
    have p3 : X2.cell? ⟨g, 3, none⟩ = some vl := HG.out.get 3
    have f3 := HG.out.frz 3
    refine wpAnyH_ready (rs := [10]) (by kernel_rfl) (by simp) ?_
    refine AllReadyH.cons rfl (fun K hK => ?_) AllReadyH.nil
    go_simp
    refine hK.out _ _ (G0.out.far g 3 _ (Ne.symm hgn)) (fun hHeld => ?_)
    clear hK K hHeld
    try simp only [Act.put, List.getElem_toArray, List.getElem_cons_succ, List.getElem_cons_zero, List.setIfInBounds_toArray, List.set_cons_zero, List.set_cons_succ]
    refine wpAnyH_done (by kernel_rfl) ?_ _
    go_wp2_with fail
    go_end0
    obtain ⟨κ', h2, h3⟩ := HL.out
    exact ⟨rfl, κ', _, h2, fun k hk hr => h3.old k (by omega) hr, (Chg.of_below HB.out).trans h3.chg⟩
end Go.Proofs.YtnlepnfdgdbkoaaGreatDoor
