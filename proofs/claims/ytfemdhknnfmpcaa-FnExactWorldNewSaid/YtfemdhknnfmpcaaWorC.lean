/-
  A world as a value, and the exact laws' copy of it.
-/
import Derived.Test.YtfemdhknnfmpcaaJobC
import Derived.Test.YtfemdhknnfmpcaaEvC
import Derived.Test.YtfemdhknnfmpcaaQuC
namespace Go.Proofs.Ytfemdhknnfmpcaa
open Go.RowKit M
set_option linter.unusedVariables false
set_option linter.unusedSimpArgs false
def intRw (v : Value) (zs : List Int) : Rw := ⟨v, 3, 1, zs.length, zs.map (Value.int .i64)⟩
def worVals (s : S) (vc vj vt vl : Value) : Array Value := #[vc, vj, vt, vl, .int .i64 s.serial, .int .i64 s.now]
/-- The world's rows read as they should. -/
structure WorIn (w : World) (s : S) (vc vj vt vl : Value) : Prop where
  c : IntsArg w vc s.cells
  j : ArgT 18 jobDat zeroJ w vj s.jobs
  t : ArgQ w vt s.todo
  l : ArgT 13 evDat zeroE w vl s.log
theorem WorIn.below {w w' : World} {s : S} {vc vj vt vl : Value} (h : WorIn w s vc vj vt vl) (hb : Below w.heap.size w w') : WorIn w' s vc vj vt vl := ⟨h.c.below hb, h.j.below hb, h.t.below hb, h.l.below hb⟩
/-- The world's rows are a call's own, in four stretches of blocks. -/
structure WorOwn (w : World) (B E1 E2 E3 E4 : Nat) (s : S) (vc vj vt vl : Value) : Prop where
  c : HeapE w B E1 [intRw vc s.cells]
  j : OwnY 42 18 jobDat w E1 E2 vj s.jobs
  t : OwnDE 73 26 4 opCells w E2 E3 vt s.todo
  l : OwnY 99 13 evDat w E3 E4 vl s.log
  h1 : B ≤ E1
  h2 : E1 ≤ E2
  h3 : E2 ≤ E3
  h4 : E3 ≤ E4
def MadeW (w : World) (s : S) (e : Ending) (w' : World) : Prop := ∃ vc vj vt vl E1 E2 E3, e = .returned (.agg (worVals s vc vj vt vl)) ∧ WorOwn w' w.heap.size E1 E2 E3 w'.heap.size s vc vj vt vl ∧ Below w.heap.size w w'
/-- No row is longer than a budget allows. -/
structure SmallS (s : S) : Prop where
  c : s.cells.length ≤ 1048576
  j : s.jobs.length ≤ 1048576
  jk : ∀ j, j < s.jobs.length → (s.jobs.getD j zeroJ).keys.length ≤ 1048576 ∧ (s.jobs.getD j zeroJ).raw.length ≤ 1048576
  t : s.todo.length ≤ 1048576
  tk : ∀ j, j < s.todo.length → (s.todo.getD j []).length ≤ 1048576
  l : s.log.length ≤ 1048576
  lk : ∀ j, j < s.log.length → (s.log.getD j zeroE).rows.length ≤ 1048576
theorem intRw_slice {w : World} {B E : Nat} {v : Value} {zs : List Int} (h : HeapE w B E [intRw v zs]) : ∃ A c, v = .slice A zs.length c := Rw.slice (h.1.own _ List.mem_cons_self)
theorem HeapE.far1 {w w' : World} {B E g : Nat} {L : List Rw} (h : HeapE w B E L) (hc : Chg (Within g (g + 1)) w w') (hg : g < B) : HeapE w' B E L := h.far hc (.inr (by omega))
set_option maxRecDepth 100000 in
set_option maxHeartbeats 8000000 in
theorem toWorld_any (w : World) (s : S) (vc vj vt vl : Value) (h : WorIn w s vc vj vt vl) (hs : SmallS s) : Calls Try.prog 33 #[.agg (worVals s vc vj vt vl)] w (MadeW w s) := by
  have Cc := fun W (h : IntsArg W vc s.cells) => Lib.hid (toIntS_any W vc s.cells h hs.c)
  have Hc := Lib.hid h.c
  have Cj := fun W (h : ArgT 18 jobDat zeroJ W vj s.jobs) => Lib.hid (toJobS_any W vj s.jobs h hs.j hs.jk)
  have Hj := Lib.hid h.j
  have Ct := fun W (h : ArgQ W vt s.todo) => Lib.hid (toQueueS_any W vt s.todo h hs.t hs.tk)
  have Ht := Lib.hid h.t
  have Cl := fun W (h : ArgT 13 evDat zeroE W vl s.log) => Lib.hid (toEvS_any W vl s.log h hs.l hs.lk)
  have Hl := Lib.hid h.l
  obtain ⟨⟨Ac, cc, rfl, _, _, _⟩, ⟨Aj, cj, rfl, _, _, _⟩, ⟨At, ct, rfl, _, _, _⟩, ⟨Al, cl, rfl, _, _, _⟩⟩ := h
  clear hs
  obtain ⟨cells, jobs, todo, log, serial, now⟩ := s
  unfold worVals
  simp only at *
  generalize hnc : cells.length = nc at *
  have HNc := Lib.hid hnc
  clear hnc
  generalize hnj : jobs.length = nj at *
  have HNj := Lib.hid hnj
  clear hnj
  generalize hnt : todo.length = nt at *
  have HNt := Lib.hid hnt
  clear hnt
  generalize hnl : log.length = nl at *
  have HNl := Lib.hid hnl
  clear hnl
  go_enter Try.func33, Try.ntmps33
  go_upto_region 2 with fail
  refine wp_gen (fun W => Blk W w.heap.size 57 #[.slice Ac nc cc, .slice Aj nj cj, .slice At nt ct, .slice Al nl cl, .int .i64 serial, .int .i64 now] ∧ Blk W (w.heap.size + 1) 49 #[.slice none 0 0, .slice none 0 0, .slice none 0 0, .slice none 0 0, .int .i64 0, .int .i64 0] ∧ Blk W (w.heap.size + 2) 49 #[.slice none 0 0, .slice none 0 0, .slice none 0 0, .slice none 0 0, .int .i64 0, .int .i64 0] ∧ Below w.heap.size w W ∧ w.heap.size + 3 ≤ W.heap.size)
    ⟨((Blk.new w _ _ _ rfl).alloc _).alloc _, (Blk.new _ _ _ _ (by simp [go_sem])).alloc _, Blk.new _ _ _ _ (by simp [go_sem]), (((Below.refl _ _).alloc (Nat.le_refl _) _).alloc (by simp [go_sem]) _).alloc (by simp [go_sem]; omega) _, by simp [go_sem]⟩ ?_
  rintro W ⟨h0, h1, h2, hb, hz⟩
  have G0 := Lib.hid h0; have G1 := Lib.hid h1; have G2 := Lib.hid h2; have HB := Lib.hid hb; have HZ := Lib.hid hz
  have q := h0.get 0
  simp at q
  have HC := Lib.hid (Cc W (Hc.out.below hb)).out
  clear h0 h1 h2 hb hz
  go_wp2_with fail
  refine HC.out.mono ?_
  rintro e w2 ⟨u, rfl, ho, hb2⟩
  clear HC
  have ho' : HeapE w2 (w.heap.size + 3) w2.heap.size [intRw u cells] := HeapE.made (Heap.one (Rw.own_base (show (intRw u cells).own w2 W.heap.size from ho.1) HZ.out))
  obtain ⟨Bc, dc, rfl⟩ : ∃ A c, u = .slice A cells.length c := by
    exact intRw_slice ho'
  rw [HNc.out] at ho' ⊢
  replace G0 := Lib.hid (G0.out.below hb2); replace G1 := Lib.hid (G1.out.below hb2); replace G2 := Lib.hid (G2.out.below hb2); replace HB := Lib.hid (HB.out.trans (hb2.mono HB.out.size))
  obtain ⟨E1, hE1⟩ : ∃ E, w2.heap.size = E := ⟨_, rfl⟩
  have hsz := hb2.size
  have hz := HZ.out
  rw [hE1] at ho'
  have Oc := Lib.hid (show _ ∧ (w.heap.size + 3) ≤ E1 from ⟨ho', by omega⟩)
  have HE := Lib.hid (Nat.le_of_eq hE1.symm)
  clear ho ho' hb2 q hE1 hsz hz HZ
  have z0 := G2.out.get 0
  simp at z0
  have fz := G2.out.frz 0
  have HCH := Lib.hid (chg_set G2.out 0 (.slice Bc nc dc))
  go_upto_region 3 with fail
  refine wp_gen (fun W => Blk W w.heap.size 57 #[.slice Ac nc cc, .slice Aj nj cj, .slice At nt ct, .slice Al nl cl, .int .i64 serial, .int .i64 now] ∧ Blk W (w.heap.size + 1) 49 #[.slice none 0 0, .slice none 0 0, .slice none 0 0, .slice none 0 0, .int .i64 0, .int .i64 0] ∧ Blk W (w.heap.size + 2) 49 #[.slice Bc nc dc, .slice none 0 0, .slice none 0 0, .slice none 0 0, .int .i64 0, .int .i64 0] ∧ Below w.heap.size w W ∧ E1 ≤ W.heap.size ∧ (HeapE W (w.heap.size + 3) E1 [intRw (.slice Bc nc dc) cells] ∧ w.heap.size + 3 ≤ E1))
    ⟨G0.out.far _ _ _ (by omega), G1.out.far _ _ _ (by omega), G2.out.store 0 _, HB.out.setCell (show w.heap.size ≤ w.heap.size + 2 by omega) _, Nat.le_trans HE.out HCH.out.size, ⟨Oc.out.1.far1 HCH.out (by have := Oc.out.2; omega), Oc.out.2⟩⟩ ?_
  clear z0 fz G0 G1 G2 HB HE HCH Oc
  clear w2
  clear W
  rintro W ⟨h0, h1, h2, hb, hz, oc⟩
  have G0 := Lib.hid h0; have G1 := Lib.hid h1; have G2 := Lib.hid h2; have HB := Lib.hid hb; have HZ := Lib.hid hz
  have Oc := Lib.hid oc
  have q := h0.get 1
  simp at q
  have HC := Lib.hid (Cj W (Hj.out.below hb)).out
  clear h0 h1 h2 hb hz oc
  go_wp2_with fail
  refine HC.out.mono ?_
  rintro e w2 ⟨u, rfl, ho, hb2⟩
  clear HC
  have ho' : OwnY 42 18 jobDat w2 E1 w2.heap.size u jobs := OwnX.base ho HZ.out
  obtain ⟨Bj, dj, rfl⟩ : ∃ A c, u = .slice A jobs.length c := by
    exact OwnY.shape ho'
  rw [HNj.out] at ho' ⊢
  replace G0 := Lib.hid (G0.out.below hb2); replace G1 := Lib.hid (G1.out.below hb2); replace G2 := Lib.hid (G2.out.below hb2); replace HB := Lib.hid (HB.out.trans (hb2.mono HB.out.size))
  replace Oc := Lib.hid (show _ ∧ _ from ⟨Oc.out.1.below hb2, Oc.out.2⟩)
  obtain ⟨E2, hE2⟩ : ∃ E, w2.heap.size = E := ⟨_, rfl⟩
  have hsz := hb2.size
  have hz := HZ.out
  rw [hE2] at ho'
  have Oj := Lib.hid (show _ ∧ E1 ≤ E2 from ⟨ho', by omega⟩)
  have HE := Lib.hid (Nat.le_of_eq hE2.symm)
  clear ho ho' hb2 q hE2 hsz hz HZ
  have z0 := G2.out.get 1
  simp at z0
  have fz := G2.out.frz 1
  have HCH := Lib.hid (chg_set G2.out 1 (.slice Bj nj dj))
  go_upto_region 4 with fail
  refine wp_gen (fun W => Blk W w.heap.size 57 #[.slice Ac nc cc, .slice Aj nj cj, .slice At nt ct, .slice Al nl cl, .int .i64 serial, .int .i64 now] ∧ Blk W (w.heap.size + 1) 49 #[.slice none 0 0, .slice none 0 0, .slice none 0 0, .slice none 0 0, .int .i64 0, .int .i64 0] ∧ Blk W (w.heap.size + 2) 49 #[.slice Bc nc dc, .slice Bj nj dj, .slice none 0 0, .slice none 0 0, .int .i64 0, .int .i64 0] ∧ Below w.heap.size w W ∧ E2 ≤ W.heap.size ∧ (HeapE W (w.heap.size + 3) E1 [intRw (.slice Bc nc dc) cells] ∧ w.heap.size + 3 ≤ E1) ∧ (OwnY 42 18 jobDat W E1 E2 (.slice Bj nj dj) jobs ∧ E1 ≤ E2))
    ⟨G0.out.far _ _ _ (by omega), G1.out.far _ _ _ (by omega), G2.out.store 1 _, HB.out.setCell (show w.heap.size ≤ w.heap.size + 2 by omega) _, Nat.le_trans HE.out HCH.out.size, ⟨Oc.out.1.far1 HCH.out (by have := Oc.out.2; have := Oj.out.2; omega), Oc.out.2⟩, ⟨OwnX.far Oj.out.1 HCH.out (.inr (by have := Oc.out.2; have := Oj.out.2; omega)), Oj.out.2⟩⟩ ?_
  clear z0 fz G0 G1 G2 HB HE HCH Oc Oj
  clear w2
  clear W
  rintro W ⟨h0, h1, h2, hb, hz, oc, oj⟩
  have G0 := Lib.hid h0; have G1 := Lib.hid h1; have G2 := Lib.hid h2; have HB := Lib.hid hb; have HZ := Lib.hid hz
  have Oc := Lib.hid oc
  have Oj := Lib.hid oj
  have q := h0.get 2
  simp at q
  have HC := Lib.hid (Ct W (Ht.out.below hb)).out
  clear h0 h1 h2 hb hz oc oj
  go_wp2_with fail
  refine HC.out.mono ?_
  rintro e w2 ⟨u, rfl, ho, hb2⟩
  clear HC
  have ho' := OwnD.made (OwnD.base ho HZ.out)
  obtain ⟨Bt, dt, rfl⟩ : ∃ A c, u = .slice A todo.length c := by
    exact OwnDE.slice ho'
  rw [HNt.out] at ho' ⊢
  replace G0 := Lib.hid (G0.out.below hb2); replace G1 := Lib.hid (G1.out.below hb2); replace G2 := Lib.hid (G2.out.below hb2); replace HB := Lib.hid (HB.out.trans (hb2.mono HB.out.size))
  replace Oc := Lib.hid (show _ ∧ _ from ⟨Oc.out.1.below hb2, Oc.out.2⟩)
  replace Oj := Lib.hid (show _ ∧ _ from ⟨Oj.out.1.below hb2, Oj.out.2⟩)
  obtain ⟨E3, hE3⟩ : ∃ E, w2.heap.size = E := ⟨_, rfl⟩
  have hsz := hb2.size
  have hz := HZ.out
  rw [hE3] at ho'
  have Ot := Lib.hid (show _ ∧ E2 ≤ E3 from ⟨ho', by omega⟩)
  have HE := Lib.hid (Nat.le_of_eq hE3.symm)
  clear ho ho' hb2 q hE3 hsz hz HZ
  have z0 := G2.out.get 2
  simp at z0
  have fz := G2.out.frz 2
  have HCH := Lib.hid (chg_set G2.out 2 (.slice Bt nt dt))
  go_upto_region 5 with fail
  refine wp_gen (fun W => Blk W w.heap.size 57 #[.slice Ac nc cc, .slice Aj nj cj, .slice At nt ct, .slice Al nl cl, .int .i64 serial, .int .i64 now] ∧ Blk W (w.heap.size + 1) 49 #[.slice none 0 0, .slice none 0 0, .slice none 0 0, .slice none 0 0, .int .i64 0, .int .i64 0] ∧ Blk W (w.heap.size + 2) 49 #[.slice Bc nc dc, .slice Bj nj dj, .slice Bt nt dt, .slice none 0 0, .int .i64 0, .int .i64 0] ∧ Below w.heap.size w W ∧ E3 ≤ W.heap.size ∧ (HeapE W (w.heap.size + 3) E1 [intRw (.slice Bc nc dc) cells] ∧ w.heap.size + 3 ≤ E1) ∧ (OwnY 42 18 jobDat W E1 E2 (.slice Bj nj dj) jobs ∧ E1 ≤ E2) ∧ (OwnDE 73 26 4 opCells W E2 E3 (.slice Bt nt dt) todo ∧ E2 ≤ E3))
    ⟨G0.out.far _ _ _ (by omega), G1.out.far _ _ _ (by omega), G2.out.store 2 _, HB.out.setCell (show w.heap.size ≤ w.heap.size + 2 by omega) _, Nat.le_trans HE.out HCH.out.size, ⟨Oc.out.1.far1 HCH.out (by have := Oc.out.2; have := Oj.out.2; have := Ot.out.2; omega), Oc.out.2⟩, ⟨OwnX.far Oj.out.1 HCH.out (.inr (by have := Oc.out.2; have := Oj.out.2; have := Ot.out.2; omega)), Oj.out.2⟩, ⟨OwnDE.far Ot.out.1 HCH.out (.inr (by have := Oc.out.2; have := Oj.out.2; have := Ot.out.2; omega)), Ot.out.2⟩⟩ ?_
  clear z0 fz G0 G1 G2 HB HE HCH Oc Oj Ot
  clear w2
  clear W
  rintro W ⟨h0, h1, h2, hb, hz, oc, oj, ot⟩
  have G0 := Lib.hid h0; have G1 := Lib.hid h1; have G2 := Lib.hid h2; have HB := Lib.hid hb; have HZ := Lib.hid hz
  have Oc := Lib.hid oc
  have Oj := Lib.hid oj
  have Ot := Lib.hid ot
  have q := h0.get 3
  simp at q
  have HC := Lib.hid (Cl W (Hl.out.below hb)).out
  clear h0 h1 h2 hb hz oc oj ot
  go_wp2_with fail
  refine HC.out.mono ?_
  rintro e w2 ⟨u, rfl, ho, hb2⟩
  clear HC
  have ho' : OwnY 99 13 evDat w2 E3 w2.heap.size u log := OwnX.base ho HZ.out
  obtain ⟨Bl, dl, rfl⟩ : ∃ A c, u = .slice A log.length c := by
    exact OwnY.shape ho'
  rw [HNl.out] at ho' ⊢
  replace G0 := Lib.hid (G0.out.below hb2); replace G1 := Lib.hid (G1.out.below hb2); replace G2 := Lib.hid (G2.out.below hb2); replace HB := Lib.hid (HB.out.trans (hb2.mono HB.out.size))
  replace Oc := Lib.hid (show _ ∧ _ from ⟨Oc.out.1.below hb2, Oc.out.2⟩)
  replace Oj := Lib.hid (show _ ∧ _ from ⟨Oj.out.1.below hb2, Oj.out.2⟩)
  replace Ot := Lib.hid (show _ ∧ _ from ⟨Ot.out.1.below hb2, Ot.out.2⟩)
  obtain ⟨E4, hE4⟩ : ∃ E, w2.heap.size = E := ⟨_, rfl⟩
  have hsz := hb2.size
  have hz := HZ.out
  rw [hE4] at ho'
  have Ol := Lib.hid (show _ ∧ E3 ≤ E4 from ⟨ho', by omega⟩)
  have HE := Lib.hid (Nat.le_of_eq hE4.symm)
  clear ho ho' hb2 q hE4 hsz hz HZ
  have z0 := G2.out.get 3
  simp at z0
  have fz := G2.out.frz 3
  have HCH := Lib.hid (chg_set G2.out 3 (.slice Bl nl dl))
  go_upto_region 6 with fail
  refine wp_gen (fun W => Blk W w.heap.size 57 #[.slice Ac nc cc, .slice Aj nj cj, .slice At nt ct, .slice Al nl cl, .int .i64 serial, .int .i64 now] ∧ Blk W (w.heap.size + 1) 49 #[.slice none 0 0, .slice none 0 0, .slice none 0 0, .slice none 0 0, .int .i64 0, .int .i64 0] ∧ Blk W (w.heap.size + 2) 49 #[.slice Bc nc dc, .slice Bj nj dj, .slice Bt nt dt, .slice Bl nl dl, .int .i64 0, .int .i64 0] ∧ Below w.heap.size w W ∧ E4 ≤ W.heap.size ∧ (HeapE W (w.heap.size + 3) E1 [intRw (.slice Bc nc dc) cells] ∧ w.heap.size + 3 ≤ E1) ∧ (OwnY 42 18 jobDat W E1 E2 (.slice Bj nj dj) jobs ∧ E1 ≤ E2) ∧ (OwnDE 73 26 4 opCells W E2 E3 (.slice Bt nt dt) todo ∧ E2 ≤ E3) ∧ (OwnY 99 13 evDat W E3 E4 (.slice Bl nl dl) log ∧ E3 ≤ E4))
    ⟨G0.out.far _ _ _ (by omega), G1.out.far _ _ _ (by omega), G2.out.store 3 _, HB.out.setCell (show w.heap.size ≤ w.heap.size + 2 by omega) _, Nat.le_trans HE.out HCH.out.size, ⟨Oc.out.1.far1 HCH.out (by have := Oc.out.2; have := Oj.out.2; have := Ot.out.2; have := Ol.out.2; omega), Oc.out.2⟩, ⟨OwnX.far Oj.out.1 HCH.out (.inr (by have := Oc.out.2; have := Oj.out.2; have := Ot.out.2; have := Ol.out.2; omega)), Oj.out.2⟩, ⟨OwnDE.far Ot.out.1 HCH.out (.inr (by have := Oc.out.2; have := Oj.out.2; have := Ot.out.2; have := Ol.out.2; omega)), Ot.out.2⟩, ⟨OwnX.far Ol.out.1 HCH.out (.inr (by have := Oc.out.2; have := Oj.out.2; have := Ot.out.2; have := Ol.out.2; omega)), Ol.out.2⟩⟩ ?_
  clear z0 fz G0 G1 G2 HB HE HCH Oc Oj Ot Ol
  clear w2
  clear W
  rintro W ⟨h0, h1, h2, hb, hz, oc, oj, ot, ol⟩
  have G0 := Lib.hid h0; have G1 := Lib.hid h1; have G2 := Lib.hid h2; have HB := Lib.hid hb; have HZ := Lib.hid hz
  have Oc := Lib.hid oc
  have Oj := Lib.hid oj
  have Ot := Lib.hid ot
  have Ol := Lib.hid ol
  have q := h0.get 4
  have z0 := h2.get 4
  simp at q z0
  have fz := h2.frz 4
  have HCH := Lib.hid (chg_set h2 4 (.int .i64 serial))
  clear h0 h1 h2 hb hz oc oj ot ol
  go_upto_region 7 with fail
  refine wp_gen (fun W => Blk W w.heap.size 57 #[.slice Ac nc cc, .slice Aj nj cj, .slice At nt ct, .slice Al nl cl, .int .i64 serial, .int .i64 now] ∧ Blk W (w.heap.size + 1) 49 #[.slice none 0 0, .slice none 0 0, .slice none 0 0, .slice none 0 0, .int .i64 0, .int .i64 0] ∧ Blk W (w.heap.size + 2) 49 #[.slice Bc nc dc, .slice Bj nj dj, .slice Bt nt dt, .slice Bl nl dl, .int .i64 serial, .int .i64 0] ∧ Below w.heap.size w W ∧ E4 ≤ W.heap.size ∧ (HeapE W (w.heap.size + 3) E1 [intRw (.slice Bc nc dc) cells] ∧ w.heap.size + 3 ≤ E1) ∧ (OwnY 42 18 jobDat W E1 E2 (.slice Bj nj dj) jobs ∧ E1 ≤ E2) ∧ (OwnDE 73 26 4 opCells W E2 E3 (.slice Bt nt dt) todo ∧ E2 ≤ E3) ∧ (OwnY 99 13 evDat W E3 E4 (.slice Bl nl dl) log ∧ E3 ≤ E4))
    ⟨G0.out.far _ _ _ (by omega), G1.out.far _ _ _ (by omega), G2.out.store 4 _, HB.out.setCell (show w.heap.size ≤ w.heap.size + 2 by omega) _, Nat.le_trans HZ.out HCH.out.size, ⟨Oc.out.1.far1 HCH.out (by have := Oc.out.2; have := Oj.out.2; have := Ot.out.2; have := Ol.out.2; omega), Oc.out.2⟩, ⟨OwnX.far Oj.out.1 HCH.out (.inr (by have := Oc.out.2; have := Oj.out.2; have := Ot.out.2; have := Ol.out.2; omega)), Oj.out.2⟩, ⟨OwnDE.far Ot.out.1 HCH.out (.inr (by have := Oc.out.2; have := Oj.out.2; have := Ot.out.2; have := Ol.out.2; omega)), Ot.out.2⟩, ⟨OwnX.far Ol.out.1 HCH.out (.inr (by have := Oc.out.2; have := Oj.out.2; have := Ot.out.2; have := Ol.out.2; omega)), Ol.out.2⟩⟩ ?_
  clear q z0 fz G0 G1 G2 HB HZ HCH Oc Oj Ot Ol
  clear W
  rintro W ⟨h0, h1, h2, hb, hz, oc, oj, ot, ol⟩
  have G0 := Lib.hid h0; have G1 := Lib.hid h1; have G2 := Lib.hid h2; have HB := Lib.hid hb; have HZ := Lib.hid hz
  have Oc := Lib.hid oc
  have Oj := Lib.hid oj
  have Ot := Lib.hid ot
  have Ol := Lib.hid ol
  have q := h0.get 5
  have z0 := h2.get 5
  simp at q z0
  have fz := h2.frz 5
  have HCH := Lib.hid (chg_set h2 5 (.int .i64 now))
  clear h0 h1 h2 hb hz oc oj ot ol
  go_upto_region 8 with fail
  refine wp_gen (fun W => Blk W w.heap.size 57 #[.slice Ac nc cc, .slice Aj nj cj, .slice At nt ct, .slice Al nl cl, .int .i64 serial, .int .i64 now] ∧ Blk W (w.heap.size + 1) 49 #[.slice none 0 0, .slice none 0 0, .slice none 0 0, .slice none 0 0, .int .i64 0, .int .i64 0] ∧ Blk W (w.heap.size + 2) 49 #[.slice Bc nc dc, .slice Bj nj dj, .slice Bt nt dt, .slice Bl nl dl, .int .i64 serial, .int .i64 now] ∧ Below w.heap.size w W ∧ E4 ≤ W.heap.size ∧ (HeapE W (w.heap.size + 3) E1 [intRw (.slice Bc nc dc) cells] ∧ w.heap.size + 3 ≤ E1) ∧ (OwnY 42 18 jobDat W E1 E2 (.slice Bj nj dj) jobs ∧ E1 ≤ E2) ∧ (OwnDE 73 26 4 opCells W E2 E3 (.slice Bt nt dt) todo ∧ E2 ≤ E3) ∧ (OwnY 99 13 evDat W E3 E4 (.slice Bl nl dl) log ∧ E3 ≤ E4))
    ⟨G0.out.far _ _ _ (by omega), G1.out.far _ _ _ (by omega), G2.out.store 5 _, HB.out.setCell (show w.heap.size ≤ w.heap.size + 2 by omega) _, Nat.le_trans HZ.out HCH.out.size, ⟨Oc.out.1.far1 HCH.out (by have := Oc.out.2; have := Oj.out.2; have := Ot.out.2; have := Ol.out.2; omega), Oc.out.2⟩, ⟨OwnX.far Oj.out.1 HCH.out (.inr (by have := Oc.out.2; have := Oj.out.2; have := Ot.out.2; have := Ol.out.2; omega)), Oj.out.2⟩, ⟨OwnDE.far Ot.out.1 HCH.out (.inr (by have := Oc.out.2; have := Oj.out.2; have := Ot.out.2; have := Ol.out.2; omega)), Ot.out.2⟩, ⟨OwnX.far Ol.out.1 HCH.out (.inr (by have := Oc.out.2; have := Oj.out.2; have := Ot.out.2; have := Ol.out.2; omega)), Ol.out.2⟩⟩ ?_
  clear q z0 fz G0 G1 G2 HB HZ HCH Oc Oj Ot Ol
  clear W
  rintro W ⟨h0, h1, h2, hb, hz, oc, oj, ot, ol⟩
  have G1 := Lib.hid h1; have G2 := Lib.hid h2; have HB := Lib.hid hb; have HZ := Lib.hid hz
  have Oc := Lib.hid oc
  have Oj := Lib.hid oj
  have Ot := Lib.hid ot
  have Ol := Lib.hid ol
  have hu := Try.underlying49
  clear h0 h1 h2 hb hz oc oj ot ol
  go_wp2_with (first | refine wpList_load_row rfl 49 _ rfl (w.heap.size + 2) rfl 49 #[.slice Bc nc dc, .slice Bj nj dj, .slice Bt nt dt, .slice Bl nl dl, .int .i64 serial, .int .i64 now] (0, 0) _ G2.out hu rfl (by kernel_rfl) ?_ | refine wpList_store_row rfl 49 _ _ rfl (w.heap.size + 1) #[.slice Bc nc dc, .slice Bj nj dj, .slice Bt nt dt, .slice Bl nl dl, .int .i64 serial, .int .i64 now] rfl rfl 49 _ G1.out (by kernel_rfl) rfl (by simp [Value.oneCell']) ?_)
  have HCH := Lib.hid (chg_setRow W (w.heap.size + 1) #[.slice Bc nc dc, .slice Bj nj dj, .slice Bt nt dt, .slice Bl nl dl, .int .i64 serial, .int .i64 now])
  refine post_gen (fun X => Blk X (w.heap.size + 1) 49 #[.slice Bc nc dc, .slice Bj nj dj, .slice Bt nt dt, .slice Bl nl dl, .int .i64 serial, .int .i64 now] ∧ Below w.heap.size w X ∧ E4 ≤ X.heap.size ∧ (HeapE X (w.heap.size + 3) E1 [intRw (.slice Bc nc dc) cells] ∧ w.heap.size + 3 ≤ E1) ∧ (OwnY 42 18 jobDat X E1 E2 (.slice Bj nj dj) jobs ∧ E1 ≤ E2) ∧ (OwnDE 73 26 4 opCells X E2 E3 (.slice Bt nt dt) todo ∧ E2 ≤ E3) ∧ (OwnY 99 13 evDat X E3 E4 (.slice Bl nl dl) log ∧ E3 ≤ E4)) ⟨setRow_heap _ _ _ _ _ _ G1.out, below_setRow' HB.out (by omega) _, Nat.le_trans HZ.out HCH.out.size, ⟨Oc.out.1.far1 HCH.out (by have := Oc.out.2; have := Oj.out.2; have := Ot.out.2; have := Ol.out.2; omega), Oc.out.2⟩, ⟨OwnX.far Oj.out.1 HCH.out (.inr (by have := Oc.out.2; have := Oj.out.2; have := Ot.out.2; have := Ol.out.2; omega)), Oj.out.2⟩, ⟨OwnDE.far Ot.out.1 HCH.out (.inr (by have := Oc.out.2; have := Oj.out.2; have := Ot.out.2; have := Ol.out.2; omega)), Ot.out.2⟩, ⟨OwnX.far Ol.out.1 HCH.out (.inr (by have := Oc.out.2; have := Oj.out.2; have := Ot.out.2; have := Ol.out.2; omega)), Ol.out.2⟩⟩ ?_
  clear G1 G2 HB HZ HCH Oc Oj Ot Ol
  rintro X ⟨h1, hb, hz, ⟨oc, ec⟩, ⟨oj, ej⟩, ⟨ot, et⟩, ⟨ol, el⟩⟩
  refine bodyPost_ret (v := .agg #[.slice Bc nc dc, .slice Bj nj dj, .slice Bt nt dt, .slice Bl nl dl, .int .i64 serial, .int .i64 now]) (results_cell_row rfl _ _ _ _ _ (0, 0) _ rfl h1 hu rfl (by kernel_rfl)) rfl ⟨.slice Bc nc dc, .slice Bj nj dj, .slice Bt nt dt, .slice Bl nl dl, E1, E2, E3, rfl, ?_, hb⟩
  exact ⟨⟨oc.1.base (by omega), oc.2⟩, oj, ot, OwnX.mono ol hz, by omega, ej, et, by omega⟩
end Go.Proofs.Ytfemdhknnfmpcaa
