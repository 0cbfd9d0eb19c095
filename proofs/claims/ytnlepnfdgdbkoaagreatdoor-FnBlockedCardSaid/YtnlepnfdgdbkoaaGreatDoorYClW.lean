/-
  Texts of this seat, laid together.
-/
import Derived.Test.YtnlepnfdgdbkoaaGreatDoorYZd
import Derived.Test.YtnlepnfdgdbkoaaGreatDoorYZh
import Derived.Test.YtnlepnfdgdbkoaaGreatDoorYZf
namespace Go.Proofs.YtnlepnfdgdbkoaaGreatDoor
open Go.RowKit M
set_option linter.unusedVariables false
set_option linter.unusedSimpArgs false
structure ClB (w wr : World) (g2 : Nat) (s : S) (vc vj vt vl : Value) (cw : Array Value) : Prop where
  b0 : Blk wr w.heap.size 33 (worVals s vc vj vt vl)
  b1 : Blk wr (w.heap.size + 1) 33 #[.slice none 0 0, .slice none 0 0, .slice none 0 0, .slice none 0 0, .int .i64 0, .int .i64 0]
  b2 : Blk wr g2 33 cw
  bel : Below w.heap.size w wr
  lo : w.heap.size + 2 ≤ g2
section
variable {w wr wr' : World} {g2 : Nat} {s : S} {vc vj vt vl : Value} {cw : Array Value}
theorem ClB.lt2 (h : ClB w wr g2 s vc vj vt vl cw) : g2 < wr.heap.size := h.b2.lt
theorem ClB.below (h : ClB w wr g2 s vc vj vt vl cw) (hb : Below wr.heap.size wr wr') : ClB w wr' g2 s vc vj vt vl cw := ⟨h.b0.below hb, h.b1.below hb, h.b2.below hb, h.bel.trans (hb.mono h.bel.size), h.lo⟩
theorem ClB.put (h : ClB w wr g2 s vc vj vt vl cw) (i : Nat) (u : Value) : ClB w (wr.setCell ⟨g2, i, none⟩ u) g2 s vc vj vt vl (cw.setIfInBounds i u) :=
  ⟨h.b0.far _ _ _ (by have := h.lo; omega), h.b1.far _ _ _ (by have := h.lo; omega), h.b2.store i u, h.bel.setCell (p := ⟨g2, i, none⟩) (show w.heap.size ≤ g2 by have := h.lo; omega) u, h.lo⟩
theorem ClB.far (h : ClB w wr g2 s vc vj vt vl cw) (g i : Nat) (u : Value) (hg : g2 < g) : ClB w (wr.setCell ⟨g, i, none⟩ u) g2 s vc vj vt vl cw :=
  ⟨h.b0.far _ _ _ (by have := h.lo; omega), h.b1.far _ _ _ (by have := h.lo; omega), h.b2.far _ _ _ (by omega), h.bel.setCell (p := ⟨g, i, none⟩) (show w.heap.size ≤ g by have := h.lo; omega) u, h.lo⟩
end
theorem mid_two {P M R : List Dat} {o : Nat} (hP : P.length = o) (hM : M.length = 16) (a b c : Dat) : (P ++ (M ++ ([a, b] ++ R)))[o + 16]? = some a ∧ (P ++ (M ++ ([a, b] ++ R)))[o + 17]? = some b ∧ (P ++ (M ++ ([a, b] ++ R))).set (o + 16) c = P ++ (M ++ ([c, b] ++ R)) ∧ (P ++ (M ++ ([a, b] ++ R))).set (o + 17) c = P ++ (M ++ ([a, c] ++ R)) := by
  subst hP
  refine ⟨?_, ?_, ?_, ?_⟩
  · rw [List.getElem?_append_right (by omega), Nat.add_sub_cancel_left, List.getElem?_append_right (by omega), hM]; rfl
  · rw [List.getElem?_append_right (by omega), Nat.add_sub_cancel_left, List.getElem?_append_right (by omega), hM]; rfl
  · rw [List.set_append_right _ _ (by omega), Nat.add_sub_cancel_left, List.set_append_right _ _ (by omega), hM]; rfl
  · rw [List.set_append_right _ _ (by omega), Nat.add_sub_cancel_left, List.set_append_right _ _ (by omega), hM]; rfl
def evPlain (r : E) : List Value := [.int .i64 r.kind, .int .i64 r.who, .int .i64 r.serial, .int .i64 r.at_, .int .i64 r.op.kind, .string r.op.key, .int .i64 r.op.what, .int .i64 r.op.val, .int .i64 r.code, .int .i64 r.win, .int .i64 r.steps, .int .i64 r.flips]
theorem evDat_eq (r : E) : evDat r = (evPlain r).map Dat.val ++ [.row 55 10 r.rows.length (cellsR r.rows)] := rfl
theorem evVals_eq (r : E) (v : Value) : (evVals r v).toList = evPlain r ++ [v] := rfl
theorem evVals_one (r : E) (A : Option Addr) (n cap : Nat) : (evVals r (.slice A n cap)).all (·.oneCell') = true := by
  simp [evVals, Value.oneCell']
theorem mid_oneE {P M R : List Dat} {o : Nat} (hP : P.length = o) (hM : M.length = 12) (a c : Dat) : (P ++ (M ++ ([a] ++ R)))[o + 12]? = some a ∧ (P ++ (M ++ ([a] ++ R))).set (o + 12) c = P ++ (M ++ ([c] ++ R)) := by
  subst hP
  refine ⟨?_, ?_⟩
  · rw [List.getElem?_append_right (by omega), Nat.add_sub_cancel_left, List.getElem?_append_right (by omega), hM]; rfl
  · rw [List.set_append_right _ _ (by omega), Nat.add_sub_cancel_left, List.set_append_right _ _ (by omega), hM]; rfl
theorem cell_farB (w : World) (b i : Nat) (v : Value) (g o : Nat) (h : g ≠ b) : (w.setCell ⟨b, i, none⟩ v).cell? ⟨g, o, none⟩ = w.cell? ⟨g, o, none⟩ := by
  unfold World.cell?
  simp only [heap_setCell_other w ⟨b, i, none⟩ g v h]
theorem ints_one' (l : List Int) : ∀ u ∈ l.map (Value.int .i64), u.oneCell' = true := by
  intro u hu
  obtain ⟨z, _, rfl⟩ := List.mem_map.1 hu
  rfl
set_option maxRecDepth 100000 in
set_option maxHeartbeats 16000000 in
theorem iCloneW_any (w : World) (κ : Nat → Nat) (s : S) (vc vj vt vl : Value) (h : WT w κ s vc vj vt vl) (hs : SmallS s) : Calls Tryz.prog 26 #[.agg (worVals s vc vj vt vl)] w (NewW w s) := by
  have hulw := Tryz.underlying33
  have hulj := Tryz.underlying50
  have hule := Tryz.underlying39
  have HSRC := Lib.hid (fun W (hb : Below w.heap.size w W) => h.below hb)
  have HS := Lib.hid hs
  have HONE := Lib.hid h.one
  obtain ⟨Aj, cj, rfl⟩ := h.t.j.slice
  obtain ⟨Al, cl, rfl⟩ := h.t.l.slice
  obtain ⟨js, hjs, hjo, hj1⟩ := h.t.j.vals job_vals_one
  obtain ⟨es, hes, heo, he1⟩ := h.t.l.vals ev_vals_one
  have HJS := Lib.hid (show valsD js (datL jobDat s.jobs) ∧ w.ownsRow 0 50 18 (.slice Aj s.jobs.length cj) s.jobs.length js ∧ (∀ u ∈ js, u.oneCell' = true) from ⟨hjs, hjo, hj1⟩)
  have HES := Lib.hid (show valsD es (datL evDat s.log) ∧ w.ownsRow 0 39 13 (.slice Al s.log.length cl) s.log.length es ∧ (∀ u ∈ es, u.oneCell' = true) from ⟨hes, heo, he1⟩)
  clear h hs hjs hjo hj1 hes heo he1
  go_enter Tryz.func26, Tryz.ntmps26
  go_upto_region 1 with fail
  refine wp_gen (fun W => Blk W w.heap.size 33 (worVals s vc (.slice Aj s.jobs.length cj) vt (.slice Al s.log.length cl)) ∧ Blk W (w.heap.size + 1) 33 #[.slice none 0 0, .slice none 0 0, .slice none 0 0, .slice none 0 0, .int .i64 0, .int .i64 0] ∧ Below w.heap.size w W) ⟨(Blk.new w _ _ _ rfl).alloc _, Blk.new _ _ _ _ (by simp [go_sem]), ((Below.refl _ _).alloc (Nat.le_refl _) _).alloc (by simp [go_sem]) _⟩ ?_
  rintro W ⟨h0, h1, hb⟩
  have G0 := Lib.hid h0
  have hgl : w.heap.size + 2 ≤ W.heap.size := h1.lt
  have hbw := below_oneL W (.cells #[.slice none 0 0, .slice none 0 0, .slice none 0 0, .slice none 0 0, .int .i64 0, .int .i64 0] 33)
  go_upto_region 2 with ((with_reducible show wpList _ _ _ _ _ _); first | refine wpList_load_row rfl 33 _ rfl w.heap.size rfl 33 (worVals s vc (.slice Aj s.jobs.length cj) vt (.slice Al s.log.length cl)) (0, 0) _ G0.out hulw rfl (by kernel_rfl) ?_ | refine wpList_store_row rfl 33 _ _ rfl W.heap.size (worVals s vc (.slice Aj s.jobs.length cj) vt (.slice Al s.log.length cl)) rfl rfl 33 _ (Blk.new W W.heap.size 33 #[.slice none 0 0, .slice none 0 0, .slice none 0 0, .slice none 0 0, .int .i64 0, .int .i64 0] rfl) (by kernel_rfl) rfl HONE.out ?_)
  have g1 := grown_setRow (W.alloc (.cells #[.slice none 0 0, .slice none 0 0, .slice none 0 0, .slice none 0 0, .int .i64 0, .int .i64 0] 33)) W.heap.size (worVals s vc (.slice Aj s.jobs.length cj) vt (.slice Al s.log.length cl))
  refine wp_gen (fun X => ClB w X W.heap.size s vc (.slice Aj s.jobs.length cj) vt (.slice Al s.log.length cl) (worVals s vc (.slice Aj s.jobs.length cj) vt (.slice Al s.log.length cl))) ⟨(h0.below hbw).grown g1 (fun e => by injection e with e; omega), (h1.below hbw).grown g1 (fun e => by injection e with e; omega), setRow_heap _ _ _ _ _ _ (Blk.new W W.heap.size 33 #[.slice none 0 0, .slice none 0 0, .slice none 0 0, .slice none 0 0, .int .i64 0, .int .i64 0] rfl), below_setRow' (hb.trans (hbw.mono hb.size)) (by omega) _, hgl⟩ ?_
  generalize W.heap.size = g2 at *
  clear h0 h1 hb G0 hbw g1 HONE hgl
  rintro X hB
  have hws := HSRC.out X hB.bel
  have HC := Lib.hid (iClInt_rd X (fun _ => True) vc s.cells.length (s.cells.map (Value.int .i64)) (Rd.of (hws.t.c.1.own _ List.mem_cons_self) (fun _ _ => trivial)) HS.out.c (by simp) (ints_one' s.cells))
  clear hws
  have HB := Lib.hid hB
  have p0 : X.cell? ⟨w.heap.size, 0, none⟩ = some vc := HB.out.b0.get 0
  have gz := HB.out.lt2
  clear hB
  go_wp2_with fail
  refine (HC.out).mono ?_
  rintro e X1 ⟨u0, rfl, ho, hb⟩
  obtain ⟨Au0, cu0, rfl⟩ := Rw.slice (show (⟨u0, 3, 1, s.cells.length, s.cells.map (Value.int .i64)⟩ : Rw).own X1 X.heap.size from ho)
  have hB1 := HB.out.below hb
  have q0 : X1.cell? ⟨g2, 0, none⟩ = some vc := hB1.b2.get 0
  have f0 := hB1.b2.frz 0
  clear p0 HB
  have hcg : Chg (Within g2 (g2 + 1)) X1 (X1.setCell ⟨g2, 0, none⟩ (.slice Au0 s.cells.length cu0)) := chg_one X1 g2 0 _ _ ⟨Nat.le_refl _, Nat.lt_succ_self _⟩
  have hsz := hb.size
  go_upto_region 3 with fail
  refine wp_gen (fun Y => ClB w Y g2 s vc (.slice Aj s.jobs.length cj) vt (.slice Al s.log.length cl) #[(.slice Au0 s.cells.length cu0), (.slice Aj s.jobs.length cj), vt, (.slice Al s.log.length cl), .int .i64 s.serial, .int .i64 s.now] ∧ HeapE Y X.heap.size X1.heap.size [intRw (.slice Au0 s.cells.length cu0) s.cells] ∧ X1.heap.size ≤ Y.heap.size) ⟨hB1.put 0 _, (HeapE.made (Heap.one (r := intRw (.slice Au0 s.cells.length cu0) s.cells) ho)).far hcg (.inr (by omega)), hcg.size⟩ ?_
  clear HC ho hb hB1 q0 f0 hcg
  generalize X.heap.size = Bc at *
  generalize X1.heap.size = Ec at *
  rintro Y ⟨hB, hc, hle⟩
  have hws := HSRC.out Y hB.bel
  have HC := Lib.hid (iCloneTodo_rd Y _ _ vt s.todo hws.t.t HS.out.t HS.out.tk)
  clear hws
  have HCE := Lib.hid hc
  clear hc
  have HB := Lib.hid hB
  have p2 : Y.cell? ⟨w.heap.size, 2, none⟩ = some vt := HB.out.b0.get 2
  have gz := HB.out.lt2
  clear hB
  go_wp2_with fail
  refine (HC.out).mono ?_
  rintro e Y1 ⟨u2, rfl, ho, hb⟩
  obtain ⟨Au2, cu2, rfl⟩ := OwnDE.slice (OwnD.made ho)
  have hB1 := HB.out.below hb
  have q2 : Y1.cell? ⟨g2, 2, none⟩ = some vt := hB1.b2.get 2
  have f2 := hB1.b2.frz 2
  clear p2 HB
  have hcg : Chg (Within g2 (g2 + 1)) Y1 (Y1.setCell ⟨g2, 2, none⟩ (.slice Au2 s.todo.length cu2)) := chg_one Y1 g2 2 _ _ ⟨Nat.le_refl _, Nat.lt_succ_self _⟩
  have hsz := hb.size
  go_upto_region 4 with fail
  refine wp_gen (fun Z => ClB w Z g2 s vc (.slice Aj s.jobs.length cj) vt (.slice Al s.log.length cl) #[(.slice Au0 s.cells.length cu0), (.slice Aj s.jobs.length cj), (.slice Au2 s.todo.length cu2), (.slice Al s.log.length cl), .int .i64 s.serial, .int .i64 s.now] ∧ HeapE Z Bc Ec [intRw (.slice Au0 s.cells.length cu0) s.cells] ∧ OwnDE 46 36 4 opCells Z Y.heap.size Y1.heap.size (.slice Au2 s.todo.length cu2) s.todo ∧ Y1.heap.size ≤ Z.heap.size) ⟨hB1.put 2 _, (HCE.out.below hb).far hcg (.inr (by omega)), (OwnD.made ho).far hcg (.inr (by omega)), hcg.size⟩ ?_
  clear HC HCE ho hb hB1 q2 f2 hcg
  generalize Y.heap.size = Bt at *
  generalize Y1.heap.size = Et at *
  rintro Z ⟨hB, hc, htd, hle2⟩
  have HC := Lib.hid (iClJob_rd Z (fun _ => True) (.slice Aj s.jobs.length cj) s.jobs.length js (Rd.of (own_below HJS.out.2.1 hB.bel) (fun _ _ => trivial)) HS.out.j HJS.out.2.1.1 HJS.out.2.2)
  have HCE := Lib.hid hc
  have HTD := Lib.hid htd
  clear hc htd
  have HB := Lib.hid hB
  have p1 : Z.cell? ⟨w.heap.size, 1, none⟩ = some (.slice Aj s.jobs.length cj) := HB.out.b0.get 1
  have gz := HB.out.lt2
  clear hB
  go_wp2_with fail
  refine (HC.out).mono ?_
  rintro e Z1 ⟨u1, rfl, ho, hb⟩
  obtain ⟨Au1, cu1, rfl⟩ := Rw.slice (show (⟨u1, 50, 18, s.jobs.length, js⟩ : Rw).own Z1 Z.heap.size from ho)
  have hB1 := HB.out.below hb
  have q1 : Z1.cell? ⟨g2, 1, none⟩ = some (.slice Aj s.jobs.length cj) := hB1.b2.get 1
  have f1 := hB1.b2.frz 1
  clear p1 HB
  have hcg : Chg (Within g2 (g2 + 1)) Z1 (Z1.setCell ⟨g2, 1, none⟩ (.slice Au1 s.jobs.length cu1)) := chg_one Z1 g2 1 _ _ ⟨Nat.le_refl _, Nat.lt_succ_self _⟩
  have hsz := hb.size
  go_upto_region 5 with fail
  refine wp_gen (fun Q => (ClB w Q g2 s vc (.slice Aj s.jobs.length cj) vt (.slice Al s.log.length cl) #[(.slice Au0 s.cells.length cu0), (.slice Au1 s.jobs.length cu1), (.slice Au2 s.todo.length cu2), (.slice Al s.log.length cl), .int .i64 s.serial, .int .i64 s.now] ∧ HeapE Q Bc Ec [intRw (.slice Au0 s.cells.length cu0) s.cells] ∧ OwnDE 46 36 4 opCells Q Bt Et (.slice Au2 s.todo.length cu2) s.todo) ∧ OwnX 50 18 s.jobs.length Q Z.heap.size Z1.heap.size (.slice Au1 s.jobs.length cu1) (js.map Dat.val) ∧ Z1.heap.size ≤ Q.heap.size) ⟨⟨hB1.put 1 _, (HCE.out.below hb).far hcg (.inr (by omega)), (HTD.out.below hb).far hcg (.inr (by omega))⟩, OwnX.far (OwnX.raw ho) hcg (.inr (by omega)), hcg.size⟩ ?_
  clear HC HCE HTD ho hb hB1 q1 f1 hcg
  generalize Z.heap.size = Bj at *
  generalize Z1.heap.size = Ej at *
  rintro Q ⟨hI, hox, hle3⟩
  have hnum : g2 < Bc ∧ Bc ≤ Ec ∧ Ec ≤ Bt ∧ Bt ≤ Et ∧ Et ≤ Bj ∧ Bj ≤ Ej ∧ w.heap.size + 2 ≤ g2 := ⟨by omega, by omega, by omega, by omega, by omega, by omega, hI.1.lo⟩
  have p1 : Q.cell? ⟨w.heap.size, 1, none⟩ = some (.slice Aj s.jobs.length cj) := hI.1.b0.get 1
  have HI := Lib.hid hI
  have HOX := Lib.hid hox
  clear hI hox
  have HTL := Lib.hid (fun (j : Nat) (hj : j ≤ s.jobs.length) => show (datL jobDat (s.jobs.take j)).length = j * 18 by rw [datL_length jobDat_len, List.length_take]; omega)
  go_wp2_with fail
  go_loopw [24] (fun i wr => ∃ (j Ex : Nat), j ≤ s.jobs.length ∧ i = .int .i64 j ∧ (ClB w wr g2 s vc (.slice Aj s.jobs.length cj) vt (.slice Al s.log.length cl) #[(.slice Au0 s.cells.length cu0), (.slice Au1 s.jobs.length cu1), (.slice Au2 s.todo.length cu2), (.slice Al s.log.length cl), .int .i64 s.serial, .int .i64 s.now] ∧ HeapE wr Bc Ec [intRw (.slice Au0 s.cells.length cu0) s.cells] ∧ OwnDE 46 36 4 opCells wr Bt Et (.slice Au2 s.todo.length cu2) s.todo) ∧ OwnX 50 18 s.jobs.length wr Bj Ex (.slice Au1 s.jobs.length cu1) (datL jobDat (s.jobs.take j) ++ (js.drop (j * 18)).map Dat.val) ∧ Ej ≤ Ex ∧ Ex ≤ wr.heap.size) (fun i _ => s.jobs.length - (intOf i).toNat)
  case atStart => exact ⟨0, Ej, Nat.zero_le _, rfl, HI.out, by simpa [datL] using HOX.out, Nat.le_refl _, hle3⟩
  case round =>
    obtain ⟨j, Ex, hj, rfl, hI, hox, hex1, hex2⟩ := hrel
    clear HI HOX
    by_cases hlt : j < s.jobs.length
    · have hws := HSRC.out wr hI.1.bel
      obtain ⟨bs, cps, vk, vr, hje, hjb, hrg, hok, hor⟩ := ownJob_at (show OwnY 50 18 jobDat wr 0 wr.heap.size (.slice Aj s.jobs.length cj) s.jobs from hws.t.j.x) j hlt
      have hjr := own_below HJS.out.2.1 hI.1.bel
      rw [hje] at hjr
      have hraw : js.drop (j * 18) = (jobVals (s.jobs.getD j zeroJ) vk vr).toList ++ js.drop (j * 18 + 18) := raw_drop (cs := (jobVals (s.jobs.getD j zeroJ) vk vr).toList) (fun k hk => by
        have hk : k < 18 := hk
        rw [← World.ownsRow.cellAt hjr (j * 18 + k) (by omega)]
        have e1 := List.getElem?_eq_getElem (show k < (jobVals (s.jobs.getD j zeroJ) vk vr).toList.length from hk)
        rw [e1]
        exact hrg k _ e1)
      obtain ⟨Ak, ck, rfl⟩ := Rw.slice (show (⟨vk, 3, 1, (s.jobs.getD j zeroJ).keys.length, (s.jobs.getD j zeroJ).keys.map (Value.int .i64)⟩ : Rw).own wr 0 from hok)
      obtain ⟨Ar, cr, rfl⟩ := Rw.slice (show (⟨vr, 3, 1, (s.jobs.getD j zeroJ).raw.length, (s.jobs.getD j zeroJ).raw.map (Value.int .i64)⟩ : Rw).own wr 0 from hor)
      injection hje with e1 e2 e3
      subst e1
      subst e3
      clear e2 hjr hws
      obtain ⟨gj, capj, hge⟩ : ∃ (gj capj : Nat), ((.slice Au1 s.jobs.length cu1) : Value) = Value.slice (some ⟨gj, 0, none⟩) s.jobs.length capj ∧ (Bj ≤ gj ∧ gj < Ex) := by
        rcases hox.shape with ⟨_, h0⟩ | ⟨gj, capj, e, _, _, h1, h2⟩
        · omega
        · exact ⟨gj, capj, e, h1, h2⟩
      obtain ⟨hge, hg1, hg2⟩ := hge
      injection hge with e1 e2 e3
      subst e1
      subst e3
      clear e2
      have hsm := HS.out.jk j hlt
      have HNX := Lib.hid (show datL jobDat (s.jobs.take (j + 1)) = datL jobDat (s.jobs.take j) ++ jobDat (s.jobs.getD j zeroJ) by rw [take_snocJob s.jobs j hlt, datL_append]; simp [datL])
      have htl := HTL.out j hj
      rw [hraw, jobVals_eq] at hox
      have hds : (jobPlain (s.jobs.getD j zeroJ) ++ [Value.slice Ak (s.jobs.getD j zeroJ).keys.length ck, Value.slice Ar (s.jobs.getD j zeroJ).raw.length cr] ++ js.drop (j * 18 + 18)).map Dat.val = (jobPlain (s.jobs.getD j zeroJ)).map Dat.val ++ ([Dat.val (.slice Ak (s.jobs.getD j zeroJ).keys.length ck), Dat.val (.slice Ar (s.jobs.getD j zeroJ).raw.length cr)] ++ (js.drop (j * 18 + 18)).map Dat.val) := by simp
      rw [hds] at hox
      generalize s.jobs.getD j zeroJ = r at *
      generalize datL jobDat (s.jobs.take j) = DP at *
      have hoc := job_one2 r Ak Ar r.keys.length r.raw.length ck cr
      have HRG := Lib.hid hrg
      have hjn : (j : Int) < (s.jobs.length : Int) := by omega
      have HI := Lib.hid hI
      have HOX := Lib.hid hox
      have HOK := Lib.hid hok
      have HOR := Lib.hid hor
      clear hI hox hok hor hrg hraw hds
      go_upto_region 8 with ((with_reducible show wpList _ _ _ _ _ _); first | refine wpList_load_mid rfl 50 _ rfl bs (j * 18) rfl ((jobVals r (.slice Ak r.keys.length ck) (.slice Ar r.raw.length cr)) : Array Value).toList _ HRG.out hulj rfl (by kernel_rfl) ?_ | refine wpList_store_row rfl 50 _ _ rfl wr.heap.size (jobVals r (.slice Ak r.keys.length ck) (.slice Ar r.raw.length cr)) rfl rfl 50 _ (Blk.new wr wr.heap.size 50 #[.bool false, .int .i64 0, .string ⟨#[]⟩, .int .i64 0, .int .i64 0, .int .i64 0, .int .i64 0, .int .i64 0, .int .i64 0, .int .i64 0, .int .i64 0, .int .i64 0, .int .i64 0, .int .i64 0, .int .i64 0, .int .i64 0, .slice none 0 0, .slice none 0 0] rfl) (by kernel_rfl) rfl hoc ?_)
      refine wp_gen (fun X => Blk X wr.heap.size 50 (jobVals r (.slice Ak r.keys.length ck) (.slice Ar r.raw.length cr)) ∧ Below wr.heap.size wr X) ⟨setRow_heap _ _ _ _ _ _ (Blk.new wr wr.heap.size 50 #[.bool false, .int .i64 0, .string ⟨#[]⟩, .int .i64 0, .int .i64 0, .int .i64 0, .int .i64 0, .int .i64 0, .int .i64 0, .int .i64 0, .int .i64 0, .int .i64 0, .int .i64 0, .int .i64 0, .int .i64 0, .int .i64 0, .slice none 0 0, .slice none 0 0] rfl), below_setRow' (below_oneL wr _) (Nat.le_refl _) _⟩ ?_
      rintro X ⟨hx, hbx⟩
      have hbd := hbx.trans (below_drew wr.heap.size X)
      have G := Lib.hid (hx.below (below_drew _ _))
      replace HI := Lib.hid (show ClB w X.drew g2 s vc (.slice (some ⟨bs, 0, none⟩) s.jobs.length cj) vt (.slice Al s.log.length cl) #[(.slice Au0 s.cells.length cu0), (.slice (some ⟨gj, 0, none⟩) s.jobs.length cu1), (.slice Au2 s.todo.length cu2), (.slice Al s.log.length cl), .int .i64 s.serial, .int .i64 s.now] ∧ HeapE X.drew Bc Ec [intRw (.slice Au0 s.cells.length cu0) s.cells] ∧ OwnDE 46 36 4 opCells X.drew Bt Et (.slice Au2 s.todo.length cu2) s.todo from ⟨HI.out.1.below hbd, HI.out.2.1.below hbd, HI.out.2.2.below hbd⟩)
      replace HOX := Lib.hid (OwnX.below HOX.out hbd)
      replace HOK := Lib.hid (own_below HOK.out hbd)
      replace HOR := Lib.hid (own_below HOR.out hbd)
      have hnb := hx.lt
      have hsx : X.heap.size ≤ X.drew.heap.size := Nat.le_refl _
      clear hx hbx hbd HRG hoc
      have s1 : X.drew.cell? ⟨g2, 1, none⟩ = some (.slice (some ⟨gj, 0, none⟩) s.jobs.length cu1) := HI.out.1.b2.get 1
      have s2 : X.drew.cell? ⟨wr.heap.size, 16, none⟩ = some (.slice Ak r.keys.length ck) := G.out.get 16
      have s3 : X.drew.cell? ⟨wr.heap.size, 17, none⟩ = some (.slice Ar r.raw.length cr) := G.out.get 17
      refine wp_region_held_drew (S := fun X : World => X.cell? ⟨g2, 1, none⟩ = some (.slice (some ⟨gj, 0, none⟩) s.jobs.length cu1) ∧ X.cell? ⟨wr.heap.size, 16, none⟩ = some (.slice Ak r.keys.length ck) ∧ X.cell? ⟨wr.heap.size, 17, none⟩ = some (.slice Ar r.raw.length cr)) (by kernel_rfl) ⟨s1, s2, s3⟩ (fun hHeld => ?_)
      clear hHeld
      generalize wr.heap.size = nb at *
      generalize X.drew = X0 at *
      refine' wpAnyH_take (i := 0) (v := .pointer (some ⟨g2, 1, none⟩)) rfl (by kernel_rfl) (by kernel_rfl) (by kernel_rfl) (fun _ _ _ h => h) (Or.inl ⟨by rfl, fun W h => by go_simp⟩) ⟨s1, s2, s3⟩ ?_
      try simp only [Act.put, List.getElem_toArray, List.getElem_cons_succ, List.getElem_cons_zero, List.setIfInBounds_toArray, List.set_cons_zero, List.set_cons_succ]
      refine' wpAnyH_take (i := 1) (v := (.slice (some ⟨gj, 0, none⟩) s.jobs.length cu1)) rfl (by kernel_rfl) (by kernel_rfl) (by kernel_rfl) (fun _ _ _ h => h) (Or.inl ⟨by rfl, fun W h => by obtain ⟨h1, h2, h3⟩ := h; go_simp⟩) ⟨s1, s2, s3⟩ ?_
      try simp only [Act.put, List.getElem_toArray, List.getElem_cons_succ, List.getElem_cons_zero, List.setIfInBounds_toArray, List.set_cons_zero, List.set_cons_succ]
      refine' wpAnyH_take (i := 2) (v := .int .i64 (j : Int)) rfl (by kernel_rfl) (by kernel_rfl) (by kernel_rfl) (fun _ _ _ h => h) (Or.inl ⟨by rfl, fun W h => by go_simp⟩) ⟨s1, s2, s3⟩ ?_
      try simp only [Act.put, List.getElem_toArray, List.getElem_cons_succ, List.getElem_cons_zero, List.setIfInBounds_toArray, List.set_cons_zero, List.set_cons_succ]
      refine' wpAnyH_take (i := 3) (v := .pointer (some ⟨g2, 1, none⟩)) rfl (by kernel_rfl) (by kernel_rfl) (by kernel_rfl) (fun _ _ _ h => h) (Or.inl ⟨by rfl, fun W h => by go_simp⟩) ⟨s1, s2, s3⟩ ?_
      try simp only [Act.put, List.getElem_toArray, List.getElem_cons_succ, List.getElem_cons_zero, List.setIfInBounds_toArray, List.set_cons_zero, List.set_cons_succ]
      refine' wpAnyH_take (i := 4) (v := (.slice (some ⟨gj, 0, none⟩) s.jobs.length cu1)) rfl (by kernel_rfl) (by kernel_rfl) (by kernel_rfl) (fun _ _ _ h => h) (Or.inl ⟨by rfl, fun W h => by obtain ⟨h1, h2, h3⟩ := h; go_simp⟩) ⟨s1, s2, s3⟩ ?_
      try simp only [Act.put, List.getElem_toArray, List.getElem_cons_succ, List.getElem_cons_zero, List.setIfInBounds_toArray, List.set_cons_zero, List.set_cons_succ]
      refine' wpAnyH_take (i := 5) (v := .int .i64 (j : Int)) rfl (by kernel_rfl) (by kernel_rfl) (by kernel_rfl) (fun _ _ _ h => h) (Or.inl ⟨by rfl, fun W h => by go_simp⟩) ⟨s1, s2, s3⟩ ?_
      try simp only [Act.put, List.getElem_toArray, List.getElem_cons_succ, List.getElem_cons_zero, List.setIfInBounds_toArray, List.set_cons_zero, List.set_cons_succ]
      refine' wpAnyH_take (i := 6) (v := .pointer (some ⟨nb, 16, none⟩)) rfl (by kernel_rfl) (by kernel_rfl) (by kernel_rfl) (fun _ _ _ h => h) (Or.inl ⟨by rfl, fun W h => by go_simp⟩) ⟨s1, s2, s3⟩ ?_
      try simp only [Act.put, List.getElem_toArray, List.getElem_cons_succ, List.getElem_cons_zero, List.setIfInBounds_toArray, List.set_cons_zero, List.set_cons_succ]
      refine' wpAnyH_take (i := 7) (v := (.slice Ak r.keys.length ck)) rfl (by kernel_rfl) (by kernel_rfl) (by kernel_rfl) (fun _ _ _ h => h) (Or.inl ⟨by rfl, fun W h => by obtain ⟨h1, h2, h3⟩ := h; go_simp⟩) ⟨s1, s2, s3⟩ ?_
      try simp only [Act.put, List.getElem_toArray, List.getElem_cons_succ, List.getElem_cons_zero, List.setIfInBounds_toArray, List.set_cons_zero, List.set_cons_succ]
      refine' wpAnyH_take (i := 9) (v := .pointer (some ⟨nb, 17, none⟩)) rfl (by kernel_rfl) (by kernel_rfl) (by kernel_rfl) (fun _ _ _ h => h) (Or.inl ⟨by rfl, fun W h => by go_simp⟩) ⟨s1, s2, s3⟩ ?_
      try simp only [Act.put, List.getElem_toArray, List.getElem_cons_succ, List.getElem_cons_zero, List.setIfInBounds_toArray, List.set_cons_zero, List.set_cons_succ]
      refine' wpAnyH_take (i := 10) (v := (.slice Ar r.raw.length cr)) rfl (by kernel_rfl) (by kernel_rfl) (by kernel_rfl) (fun _ _ _ h => h) (Or.inl ⟨by rfl, fun W h => by obtain ⟨h1, h2, h3⟩ := h; go_simp⟩) ⟨s1, s2, s3⟩ ?_
      try simp only [Act.put, List.getElem_toArray, List.getElem_cons_succ, List.getElem_cons_zero, List.setIfInBounds_toArray, List.set_cons_zero, List.set_cons_succ]
      refine wpAnyH_ready (rs := [8]) (by kernel_rfl) (by simp) ?_
      refine AllReadyH.cons rfl (fun K hK => ?_) AllReadyH.nil
      go_simp
      refine (iClInt_rd X0 (fun _ => True) (.slice Ak r.keys.length ck) _ (r.keys.map (Value.int .i64)) (Rd.of HOK.out (fun _ _ => trivial)) (by omega) (by simp) (ints_one' _)).mono ?_
      rintro e X1 ⟨uk, rfl, ho, hb⟩
      obtain ⟨Auk, cuk, rfl⟩ := Rw.slice (show (⟨uk, 3, 1, r.keys.length, r.keys.map (Value.int .i64)⟩ : Rw).own X1 X0.heap.size from ho)
      have hz := hb.size
      have HK := Lib.hid (show HeapE X1 X0.heap.size X1.heap.size [⟨.slice Auk r.keys.length cuk, 3, 1, r.keys.length, r.keys.map (Value.int .i64)⟩] from HeapE.made (Heap.one (r := ⟨.slice Auk r.keys.length cuk, 3, 1, r.keys.length, r.keys.map (Value.int .i64)⟩) ho))
      replace HI := Lib.hid (show ClB w X1 g2 s vc (.slice (some ⟨bs, 0, none⟩) s.jobs.length cj) vt (.slice Al s.log.length cl) #[(.slice Au0 s.cells.length cu0), (.slice (some ⟨gj, 0, none⟩) s.jobs.length cu1), (.slice Au2 s.todo.length cu2), (.slice Al s.log.length cl), .int .i64 s.serial, .int .i64 s.now] ∧ HeapE X1 Bc Ec [intRw (.slice Au0 s.cells.length cu0) s.cells] ∧ OwnDE 46 36 4 opCells X1 Bt Et (.slice Au2 s.todo.length cu2) s.todo from ⟨HI.out.1.below hb, HI.out.2.1.below hb, HI.out.2.2.below hb⟩)
      replace HOX := Lib.hid (OwnX.below HOX.out hb)
      replace s1 := (hb.cell (p := ⟨g2, 1, none⟩) (cell_lt s1)).trans s1
      replace s2 := (hb.cell (p := ⟨nb, 16, none⟩) (cell_lt s2)).trans s2
      replace s3 := (hb.cell (p := ⟨nb, 17, none⟩) (cell_lt s3)).trans s3
      replace HOR := Lib.hid (own_below HOR.out hb)
      have hz1 := hz
      clear HOK
      refine hK.out _ _ ⟨s1, s2, s3⟩ (fun hHeld => ?_)
      clear hK K hHeld ho hb hz
      try simp only [Act.put, List.getElem_toArray, List.getElem_cons_succ, List.getElem_cons_zero, List.setIfInBounds_toArray, List.set_cons_zero, List.set_cons_succ]
      refine wpAnyH_ready (rs := [11]) (by kernel_rfl) (by simp) ?_
      refine AllReadyH.cons rfl (fun K hK => ?_) AllReadyH.nil
      go_simp
      refine (iClInt_rd X1 (fun _ => True) (.slice Ar r.raw.length cr) _ (r.raw.map (Value.int .i64)) (Rd.of HOR.out (fun _ _ => trivial)) (by omega) (by simp) (ints_one' _)).mono ?_
      rintro e X2 ⟨ur, rfl, ho, hb⟩
      obtain ⟨Aur, cur, rfl⟩ := Rw.slice (show (⟨ur, 3, 1, r.raw.length, r.raw.map (Value.int .i64)⟩ : Rw).own X2 X1.heap.size from ho)
      have hz := hb.size
      have HR := Lib.hid (show HeapE X2 X1.heap.size X2.heap.size [⟨.slice Aur r.raw.length cur, 3, 1, r.raw.length, r.raw.map (Value.int .i64)⟩] from HeapE.made (Heap.one (r := ⟨.slice Aur r.raw.length cur, 3, 1, r.raw.length, r.raw.map (Value.int .i64)⟩) ho))
      replace HI := Lib.hid (show ClB w X2 g2 s vc (.slice (some ⟨bs, 0, none⟩) s.jobs.length cj) vt (.slice Al s.log.length cl) #[(.slice Au0 s.cells.length cu0), (.slice (some ⟨gj, 0, none⟩) s.jobs.length cu1), (.slice Au2 s.todo.length cu2), (.slice Al s.log.length cl), .int .i64 s.serial, .int .i64 s.now] ∧ HeapE X2 Bc Ec [intRw (.slice Au0 s.cells.length cu0) s.cells] ∧ OwnDE 46 36 4 opCells X2 Bt Et (.slice Au2 s.todo.length cu2) s.todo from ⟨HI.out.1.below hb, HI.out.2.1.below hb, HI.out.2.2.below hb⟩)
      replace HOX := Lib.hid (OwnX.below HOX.out hb)
      replace s1 := (hb.cell (p := ⟨g2, 1, none⟩) (cell_lt s1)).trans s1
      replace s2 := (hb.cell (p := ⟨nb, 16, none⟩) (cell_lt s2)).trans s2
      replace s3 := (hb.cell (p := ⟨nb, 17, none⟩) (cell_lt s3)).trans s3
      replace HK := Lib.hid (HK.out.below hb)
      have hz2 := hz
      clear HOR
      refine hK.out _ _ ⟨s1, s2, s3⟩ (fun hHeld => ?_)
      clear hK K hHeld ho hb hz
      try simp only [Act.put, List.getElem_toArray, List.getElem_cons_succ, List.getElem_cons_zero, List.setIfInBounds_toArray, List.set_cons_zero, List.set_cons_succ]
      refine' wpAnyH_take (i := 12) (v := .pointer (some ⟨gj, j * 18, none⟩)) rfl (by kernel_rfl) (by kernel_rfl) (by kernel_rfl) (fun _ _ _ h => h) (Or.inl ⟨by rfl, fun W h => by go_simp⟩) ⟨s1, s2, s3⟩ ?_
      try simp only [Act.put, List.getElem_toArray, List.getElem_cons_succ, List.getElem_cons_zero, List.setIfInBounds_toArray, List.set_cons_zero, List.set_cons_succ]
      refine' wpAnyH_take (i := 13) (v := .pointer (some ⟨gj, j * 18 + 16, none⟩)) rfl (by kernel_rfl) (by kernel_rfl) (by kernel_rfl) (fun _ _ _ h => h) (Or.inl ⟨by rfl, fun W h => by go_simp⟩) ⟨s1, s2, s3⟩ ?_
      try simp only [Act.put, List.getElem_toArray, List.getElem_cons_succ, List.getElem_cons_zero, List.setIfInBounds_toArray, List.set_cons_zero, List.set_cons_succ]
      have m2 := mid_two (P := DP) (M := (jobPlain r).map Dat.val) (R := (js.drop (j * 18 + 18)).map Dat.val) htl rfl (.val (.slice Ak r.keys.length ck)) (.val (.slice Ar r.raw.length cr)) (.row 3 1 r.keys.length (r.keys.map (Value.int .i64)))
      have q16 : X2.cell? ⟨gj, j * 18 + 16, none⟩ = some (.slice Ak r.keys.length ck) := OwnX.val HOX.out (by omega) m2.1
      have f16 := OwnX.frz HOX.out (j * 18 + 16)
      have hp1 := OwnX.plant HOX.out m2.1 HK.out (by omega) (by omega) (by omega : Ex ≤ X1.heap.size)
      rw [m2.2.2.1] at hp1
      have hcg1 : Chg (Within Bj Ex) X2 (X2.setCell ⟨gj, j * 18 + 16, none⟩ (.slice Auk r.keys.length cuk)) := chg_one X2 gj _ _ _ ⟨hg1, hg2⟩
      have hgg : g2 < gj := by omega
      have hgn : gj ≠ nb := by omega
      refine wpAnyH_ready (rs := [14]) (by kernel_rfl) (by simp) ?_
      refine AllReadyH.cons rfl (fun K hK => ?_) AllReadyH.nil
      go_simp
      have hI2 : ClB w (X2.setCell ⟨gj, j * 18 + 16, none⟩ (.slice Auk r.keys.length cuk)) g2 s vc (.slice (some ⟨bs, 0, none⟩) s.jobs.length cj) vt (.slice Al s.log.length cl) #[(.slice Au0 s.cells.length cu0), (.slice (some ⟨gj, 0, none⟩) s.jobs.length cu1), (.slice Au2 s.todo.length cu2), (.slice Al s.log.length cl), .int .i64 s.serial, .int .i64 s.now] ∧ HeapE (X2.setCell ⟨gj, j * 18 + 16, none⟩ (.slice Auk r.keys.length cuk)) Bc Ec [intRw (.slice Au0 s.cells.length cu0) s.cells] ∧ OwnDE 46 36 4 opCells (X2.setCell ⟨gj, j * 18 + 16, none⟩ (.slice Auk r.keys.length cuk)) Bt Et (.slice Au2 s.todo.length cu2) s.todo := ⟨HI.out.1.far gj _ _ hgg, HI.out.2.1.far hcg1 (.inl (by omega)), HI.out.2.2.far hcg1 (.inl (by omega))⟩
      replace HI := Lib.hid hI2
      replace HOX := Lib.hid hp1.1
      replace HR := Lib.hid (HR.out.far hcg1 (.inr (by omega)))
      have t2 := cell_farB X2 gj (j * 18 + 16) (.slice Auk r.keys.length cuk)
      replace s1 := (t2 g2 1 (by omega)).trans s1
      replace s2 := (t2 nb 16 (Ne.symm hgn)).trans s2
      replace s3 := (t2 nb 17 (Ne.symm hgn)).trans s3
      have hsz3 : (X2.setCell ⟨gj, j * 18 + 16, none⟩ (.slice Auk r.keys.length cuk)).heap.size = X2.heap.size := by simp
      refine hK.out _ _ ⟨s1, s2, s3⟩ (fun hHeld => ?_)
      clear hK K hHeld hI2 hp1 hcg1 q16 f16 HK m2 t2
      try simp only [Act.put, List.getElem_toArray, List.getElem_cons_succ, List.getElem_cons_zero, List.setIfInBounds_toArray, List.set_cons_zero, List.set_cons_succ]
      generalize X2.setCell ⟨gj, j * 18 + 16, none⟩ (.slice Auk r.keys.length cuk) = X3 at *
      refine' wpAnyH_take (i := 15) (v := .pointer (some ⟨gj, j * 18, none⟩)) rfl (by kernel_rfl) (by kernel_rfl) (by kernel_rfl) (fun _ _ _ h => h) (Or.inl ⟨by rfl, fun W h => by go_simp⟩) ⟨s1, s2, s3⟩ ?_
      try simp only [Act.put, List.getElem_toArray, List.getElem_cons_succ, List.getElem_cons_zero, List.setIfInBounds_toArray, List.set_cons_zero, List.set_cons_succ]
      refine' wpAnyH_take (i := 16) (v := .pointer (some ⟨gj, j * 18 + 17, none⟩)) rfl (by kernel_rfl) (by kernel_rfl) (by kernel_rfl) (fun _ _ _ h => h) (Or.inl ⟨by rfl, fun W h => by go_simp⟩) ⟨s1, s2, s3⟩ ?_
      try simp only [Act.put, List.getElem_toArray, List.getElem_cons_succ, List.getElem_cons_zero, List.setIfInBounds_toArray, List.set_cons_zero, List.set_cons_succ]
      have m3 := mid_two (P := DP) (M := (jobPlain r).map Dat.val) (R := (js.drop (j * 18 + 18)).map Dat.val) htl rfl (.row 3 1 r.keys.length (r.keys.map (Value.int .i64))) (.val (.slice Ar r.raw.length cr)) (.row 3 1 r.raw.length (r.raw.map (Value.int .i64)))
      have q17 : X3.cell? ⟨gj, j * 18 + 17, none⟩ = some (.slice Ar r.raw.length cr) := OwnX.val HOX.out (by omega) m3.2.1
      have f17 := OwnX.frz HOX.out (j * 18 + 17)
      have hp2 := OwnX.plant HOX.out m3.2.1 HR.out (by omega) (by omega) (by omega : X1.heap.size ≤ X2.heap.size)
      rw [m3.2.2.2] at hp2
      have hcg1 : Chg (Within Bj Ex) X3 (X3.setCell ⟨gj, j * 18 + 17, none⟩ (.slice Aur r.raw.length cur)) := chg_one X3 gj _ _ _ ⟨hg1, hg2⟩
      refine wpAnyH_ready (rs := [17]) (by kernel_rfl) (by simp) ?_
      refine AllReadyH.cons rfl (fun K hK => ?_) AllReadyH.nil
      go_simp
      have hI2 : ClB w (X3.setCell ⟨gj, j * 18 + 17, none⟩ (.slice Aur r.raw.length cur)) g2 s vc (.slice (some ⟨bs, 0, none⟩) s.jobs.length cj) vt (.slice Al s.log.length cl) #[(.slice Au0 s.cells.length cu0), (.slice (some ⟨gj, 0, none⟩) s.jobs.length cu1), (.slice Au2 s.todo.length cu2), (.slice Al s.log.length cl), .int .i64 s.serial, .int .i64 s.now] ∧ HeapE (X3.setCell ⟨gj, j * 18 + 17, none⟩ (.slice Aur r.raw.length cur)) Bc Ec [intRw (.slice Au0 s.cells.length cu0) s.cells] ∧ OwnDE 46 36 4 opCells (X3.setCell ⟨gj, j * 18 + 17, none⟩ (.slice Aur r.raw.length cur)) Bt Et (.slice Au2 s.todo.length cu2) s.todo := ⟨HI.out.1.far gj _ _ hgg, HI.out.2.1.far hcg1 (.inl (by omega)), HI.out.2.2.far hcg1 (.inl (by omega))⟩
      replace HI := Lib.hid hI2
      replace HOX := Lib.hid hp2.1
      have t2 := cell_farB X3 gj (j * 18 + 17) (.slice Aur r.raw.length cur)
      replace s1 := (t2 g2 1 (by omega)).trans s1
      replace s2 := (t2 nb 16 (Ne.symm hgn)).trans s2
      replace s3 := (t2 nb 17 (Ne.symm hgn)).trans s3
      have hsz4 : (X3.setCell ⟨gj, j * 18 + 17, none⟩ (.slice Aur r.raw.length cur)).heap.size = X3.heap.size := by simp
      refine hK.out _ _ ⟨s1, s2, s3⟩ (fun hHeld => ?_)
      clear hK K hHeld hI2 hp2 hcg1 q17 f17 HR m3 t2
      try simp only [Act.put, List.getElem_toArray, List.getElem_cons_succ, List.getElem_cons_zero, List.setIfInBounds_toArray, List.set_cons_zero, List.set_cons_succ]
      refine wpAnyH_done (by kernel_rfl) ?_ _
      generalize X3.setCell ⟨gj, j * 18 + 17, none⟩ (.slice Aur r.raw.length cur) = X4 at *
      clear s1 s2 s3
      go_wp2_with fail
      go_roundw
      case rel =>
        have hjm := HS.out.j
        refine ⟨j + 1, X2.heap.size, by omega, by rw [show wrap64 ((j : Int) + 1) = ((j + 1 : Nat) : Int) by unfold wrap64; omega], HI.out, ?_, by omega, by omega⟩
        have h2 := HOX.out
        rw [HNX.out, jobDat_eq, show (j + 1) * 18 = j * 18 + 18 by omega]
        simpa using h2
      case measure =>
        have hjm := HS.out.j
        rw [show wrap64 ((j : Int) + 1) = ((j + 1 : Nat) : Int) by unfold wrap64; omega]
        simp [intOf]; omega
    · have hjn : ¬ (j : Int) < (s.jobs.length : Int) := by omega
      have hjx : OwnX 50 18 s.jobs.length wr Bj Ex (.slice Au1 s.jobs.length cu1) (datL jobDat s.jobs) := by
        have h2 := hox
        rw [List.take_of_length_le (by omega), List.drop_eq_nil_of_le (by rw [HJS.out.2.1.1]; omega)] at h2
        simpa using h2
      obtain ⟨hB, hc, htd⟩ := hI
      have HJX := Lib.hid hjx
      clear hox hjx HJS HTL hlt
      have HC := Lib.hid (iClEv_rd wr (fun _ => True) (.slice Al s.log.length cl) s.log.length es (Rd.of (own_below HES.out.2.1 hB.bel) (fun _ _ => trivial)) HS.out.l HES.out.2.1.1 HES.out.2.2)
      have HCE := Lib.hid hc
      have HTD := Lib.hid htd
      clear hc htd
      have HB := Lib.hid hB
      have p3 : wr.cell? ⟨w.heap.size, 3, none⟩ = some (.slice Al s.log.length cl) := HB.out.b0.get 3
      have gz := HB.out.lt2
      clear hB
      go_wp2_with fail
      refine (HC.out).mono ?_
      rintro e V1 ⟨u3, rfl, ho, hb⟩
      obtain ⟨Au3, cu3, rfl⟩ := Rw.slice (show (⟨u3, 39, 13, s.log.length, es⟩ : Rw).own V1 wr.heap.size from ho)
      have hB1 := HB.out.below hb
      have q3 : V1.cell? ⟨g2, 3, none⟩ = some (.slice Al s.log.length cl) := hB1.b2.get 3
      have f3 := hB1.b2.frz 3
      clear p3 HB
      have hcg : Chg (Within g2 (g2 + 1)) V1 (V1.setCell ⟨g2, 3, none⟩ (.slice Au3 s.log.length cu3)) := chg_one V1 g2 3 _ _ ⟨Nat.le_refl _, Nat.lt_succ_self _⟩
      have hsz := hb.size
      go_upto_region 11 with fail
      refine wp_gen (fun Q => (ClB w Q g2 s vc (.slice Aj s.jobs.length cj) vt (.slice Al s.log.length cl) #[(.slice Au0 s.cells.length cu0), (.slice Au1 s.jobs.length cu1), (.slice Au2 s.todo.length cu2), (.slice Au3 s.log.length cu3), .int .i64 s.serial, .int .i64 s.now] ∧ HeapE Q Bc Ec [intRw (.slice Au0 s.cells.length cu0) s.cells] ∧ OwnDE 46 36 4 opCells Q Bt Et (.slice Au2 s.todo.length cu2) s.todo ∧ OwnX 50 18 s.jobs.length Q Bj Ex (.slice Au1 s.jobs.length cu1) (datL jobDat s.jobs)) ∧ OwnX 39 13 s.log.length Q wr.heap.size V1.heap.size (.slice Au3 s.log.length cu3) (es.map Dat.val) ∧ V1.heap.size ≤ Q.heap.size) ⟨⟨hB1.put 3 _, (HCE.out.below hb).far hcg (.inr (by omega)), (HTD.out.below hb).far hcg (.inr (by omega)), OwnX.far (OwnX.below HJX.out hb) hcg (.inr (by omega))⟩, OwnX.far (OwnX.raw ho) hcg (.inr (by omega)), hcg.size⟩ ?_
      clear HC HCE HTD HJX ho hb hB1 q3 f3 hcg
      generalize wr.heap.size = Bl at *
      generalize V1.heap.size = El at *
      rintro R ⟨hI, hox, hle4⟩
      have hnum2 : Ex ≤ Bl ∧ Bl ≤ El := ⟨by omega, by omega⟩
      have p3 : R.cell? ⟨w.heap.size, 3, none⟩ = some (.slice Al s.log.length cl) := hI.1.b0.get 3
      have HI := Lib.hid hI
      have HOX := Lib.hid hox
      clear hI hox
      have HTL := Lib.hid (fun (j : Nat) (hj : j ≤ s.log.length) => show (datL evDat (s.log.take j)).length = j * 13 by rw [datL_length evDat_len, List.length_take]; omega)
      go_wp2_with fail
      go_loopw [53] (fun i wr => ∃ (k Ey : Nat), k ≤ s.log.length ∧ i = .int .i64 k ∧ (ClB w wr g2 s vc (.slice Aj s.jobs.length cj) vt (.slice Al s.log.length cl) #[(.slice Au0 s.cells.length cu0), (.slice Au1 s.jobs.length cu1), (.slice Au2 s.todo.length cu2), (.slice Au3 s.log.length cu3), .int .i64 s.serial, .int .i64 s.now] ∧ HeapE wr Bc Ec [intRw (.slice Au0 s.cells.length cu0) s.cells] ∧ OwnDE 46 36 4 opCells wr Bt Et (.slice Au2 s.todo.length cu2) s.todo ∧ OwnX 50 18 s.jobs.length wr Bj Ex (.slice Au1 s.jobs.length cu1) (datL jobDat s.jobs)) ∧ OwnX 39 13 s.log.length wr Bl Ey (.slice Au3 s.log.length cu3) (datL evDat (s.log.take k) ++ (es.drop (k * 13)).map Dat.val) ∧ El ≤ Ey ∧ Ey ≤ wr.heap.size) (fun i _ => s.log.length - (intOf i).toNat)
      case atStart => exact ⟨0, El, Nat.zero_le _, rfl, HI.out, by simpa [datL] using HOX.out, Nat.le_refl _, hle4⟩
      case round =>
        obtain ⟨k, Ey, hk, rfl, hI, hox, hey1, hey2⟩ := hrel
        clear HI HOX
        by_cases hlt : k < s.log.length
        · have hws := HSRC.out wr hI.1.bel
          obtain ⟨bs, cps, vr, hje, hjb, hrg, hor⟩ := ownEv_at (show OwnY 39 13 evDat wr 0 wr.heap.size (.slice Al s.log.length cl) s.log from hws.t.l.x) k hlt
          have hjr := own_below HES.out.2.1 hI.1.bel
          rw [hje] at hjr
          have hraw : es.drop (k * 13) = (evVals (s.log.getD k zeroE) vr).toList ++ es.drop (k * 13 + 13) := raw_drop (cs := (evVals (s.log.getD k zeroE) vr).toList) (fun i hi => by
            have hi : i < 13 := hi
            rw [← World.ownsRow.cellAt hjr (k * 13 + i) (by omega)]
            have e1 := List.getElem?_eq_getElem (show i < (evVals (s.log.getD k zeroE) vr).toList.length from hi)
            rw [e1]
            exact hrg i _ e1)
          obtain ⟨Ar, cr, rfl⟩ := Rw.slice (show (⟨vr, 55, 10, (s.log.getD k zeroE).rows.length, cellsR (s.log.getD k zeroE).rows⟩ : Rw).own wr 0 from hor)
          injection hje with e1 e2 e3
          subst e1
          subst e3
          clear e2 hjr hws
          obtain ⟨gj, capj, hge⟩ : ∃ (gj capj : Nat), ((.slice Au3 s.log.length cu3) : Value) = Value.slice (some ⟨gj, 0, none⟩) s.log.length capj ∧ (Bl ≤ gj ∧ gj < Ey) := by
            rcases hox.shape with ⟨_, h0⟩ | ⟨gj, capj, e, _, _, h1, h2⟩
            · omega
            · exact ⟨gj, capj, e, h1, h2⟩
          obtain ⟨hge, hg1, hg2⟩ := hge
          injection hge with e1 e2 e3
          subst e1
          subst e3
          clear e2
          have hsm := HS.out.lk k hlt
          have HNX := Lib.hid (show datL evDat (s.log.take (k + 1)) = datL evDat (s.log.take k) ++ evDat (s.log.getD k zeroE) by rw [take_snocEv s.log k hlt, datL_append]; simp [datL])
          have htl := HTL.out k hk
          rw [hraw, evVals_eq] at hox
          have hds : (evPlain (s.log.getD k zeroE) ++ [Value.slice Ar (s.log.getD k zeroE).rows.length cr] ++ es.drop (k * 13 + 13)).map Dat.val = (evPlain (s.log.getD k zeroE)).map Dat.val ++ ([Dat.val (.slice Ar (s.log.getD k zeroE).rows.length cr)] ++ (es.drop (k * 13 + 13)).map Dat.val) := by simp
          rw [hds] at hox
          generalize s.log.getD k zeroE = r at *
          generalize datL evDat (s.log.take k) = DP at *
          have hoc := evVals_one r Ar r.rows.length cr
          have HRG := Lib.hid hrg
          have hkn : (k : Int) < (s.log.length : Int) := by omega
          have HI := Lib.hid hI
          have HOX := Lib.hid hox
          have HOR := Lib.hid hor
          clear hI hox hor hrg hraw hds
          go_upto_region 14 with ((with_reducible show wpList _ _ _ _ _ _); first | refine wpList_load_mid rfl 39 _ rfl bs (k * 13) rfl ((evVals r (.slice Ar r.rows.length cr)) : Array Value).toList _ HRG.out hule rfl (by kernel_rfl) ?_ | refine wpList_store_row rfl 39 _ _ rfl wr.heap.size (evVals r (.slice Ar r.rows.length cr)) rfl rfl 39 _ (Blk.new wr wr.heap.size 39 #[.int .i64 0, .int .i64 0, .int .i64 0, .int .i64 0, .int .i64 0, .string ⟨#[]⟩, .int .i64 0, .int .i64 0, .int .i64 0, .int .i64 0, .int .i64 0, .int .i64 0, .slice none 0 0] rfl) (by kernel_rfl) rfl hoc ?_)
          refine wp_gen (fun X => Blk X wr.heap.size 39 (evVals r (.slice Ar r.rows.length cr)) ∧ Below wr.heap.size wr X) ⟨setRow_heap _ _ _ _ _ _ (Blk.new wr wr.heap.size 39 #[.int .i64 0, .int .i64 0, .int .i64 0, .int .i64 0, .int .i64 0, .string ⟨#[]⟩, .int .i64 0, .int .i64 0, .int .i64 0, .int .i64 0, .int .i64 0, .int .i64 0, .slice none 0 0] rfl), below_setRow' (below_oneL wr _) (Nat.le_refl _) _⟩ ?_
          rintro X ⟨hx, hbx⟩
          have hbd := hbx.trans (below_drew wr.heap.size X)
          have G := Lib.hid (hx.below (below_drew _ _))
          replace HI := Lib.hid (show ClB w X.drew g2 s vc (.slice Aj s.jobs.length cj) vt (.slice (some ⟨bs, 0, none⟩) s.log.length cl) #[(.slice Au0 s.cells.length cu0), (.slice Au1 s.jobs.length cu1), (.slice Au2 s.todo.length cu2), (.slice (some ⟨gj, 0, none⟩) s.log.length cu3), .int .i64 s.serial, .int .i64 s.now] ∧ HeapE X.drew Bc Ec [intRw (.slice Au0 s.cells.length cu0) s.cells] ∧ OwnDE 46 36 4 opCells X.drew Bt Et (.slice Au2 s.todo.length cu2) s.todo ∧ OwnX 50 18 s.jobs.length X.drew Bj Ex (.slice Au1 s.jobs.length cu1) (datL jobDat s.jobs) from ⟨HI.out.1.below hbd, HI.out.2.1.below hbd, HI.out.2.2.1.below hbd, OwnX.below HI.out.2.2.2 hbd⟩)
          replace HOX := Lib.hid (OwnX.below HOX.out hbd)
          replace HOR := Lib.hid (own_below HOR.out hbd)
          have hnb := hx.lt
          have hsx : X.heap.size ≤ X.drew.heap.size := Nat.le_refl _
          clear hx hbx hbd HRG hoc
          have s1 : X.drew.cell? ⟨g2, 3, none⟩ = some (.slice (some ⟨gj, 0, none⟩) s.log.length cu3) := HI.out.1.b2.get 3
          have s2 : X.drew.cell? ⟨wr.heap.size, 12, none⟩ = some (.slice Ar r.rows.length cr) := G.out.get 12
          refine wp_region_held_drew (S := fun X : World => X.cell? ⟨g2, 3, none⟩ = some (.slice (some ⟨gj, 0, none⟩) s.log.length cu3) ∧ X.cell? ⟨wr.heap.size, 12, none⟩ = some (.slice Ar r.rows.length cr)) (by kernel_rfl) ⟨s1, s2⟩ (fun hHeld => ?_)
          clear hHeld
          generalize wr.heap.size = nb at *
          generalize X.drew = X0 at *
          refine' wpAnyH_take (i := 0) (v := .pointer (some ⟨g2, 3, none⟩)) rfl (by kernel_rfl) (by kernel_rfl) (by kernel_rfl) (fun _ _ _ h => h) (Or.inl ⟨by rfl, fun W h => by go_simp⟩) ⟨s1, s2⟩ ?_
          try simp only [Act.put, List.getElem_toArray, List.getElem_cons_succ, List.getElem_cons_zero, List.setIfInBounds_toArray, List.set_cons_zero, List.set_cons_succ]
          refine' wpAnyH_take (i := 1) (v := (.slice (some ⟨gj, 0, none⟩) s.log.length cu3)) rfl (by kernel_rfl) (by kernel_rfl) (by kernel_rfl) (fun _ _ _ h => h) (Or.inl ⟨by rfl, fun W h => by obtain ⟨h1, h2⟩ := h; go_simp⟩) ⟨s1, s2⟩ ?_
          try simp only [Act.put, List.getElem_toArray, List.getElem_cons_succ, List.getElem_cons_zero, List.setIfInBounds_toArray, List.set_cons_zero, List.set_cons_succ]
          refine' wpAnyH_take (i := 2) (v := .int .i64 (k : Int)) rfl (by kernel_rfl) (by kernel_rfl) (by kernel_rfl) (fun _ _ _ h => h) (Or.inl ⟨by rfl, fun W h => by go_simp⟩) ⟨s1, s2⟩ ?_
          try simp only [Act.put, List.getElem_toArray, List.getElem_cons_succ, List.getElem_cons_zero, List.setIfInBounds_toArray, List.set_cons_zero, List.set_cons_succ]
          refine' wpAnyH_take (i := 3) (v := .pointer (some ⟨nb, 12, none⟩)) rfl (by kernel_rfl) (by kernel_rfl) (by kernel_rfl) (fun _ _ _ h => h) (Or.inl ⟨by rfl, fun W h => by go_simp⟩) ⟨s1, s2⟩ ?_
          try simp only [Act.put, List.getElem_toArray, List.getElem_cons_succ, List.getElem_cons_zero, List.setIfInBounds_toArray, List.set_cons_zero, List.set_cons_succ]
          refine' wpAnyH_take (i := 4) (v := (.slice Ar r.rows.length cr)) rfl (by kernel_rfl) (by kernel_rfl) (by kernel_rfl) (fun _ _ _ h => h) (Or.inl ⟨by rfl, fun W h => by obtain ⟨h1, h2⟩ := h; go_simp⟩) ⟨s1, s2⟩ ?_
          try simp only [Act.put, List.getElem_toArray, List.getElem_cons_succ, List.getElem_cons_zero, List.setIfInBounds_toArray, List.set_cons_zero, List.set_cons_succ]
          refine wpAnyH_ready (rs := [5]) (by kernel_rfl) (by simp) ?_
          refine AllReadyH.cons rfl (fun K hK => ?_) AllReadyH.nil
          go_simp
          refine (iClRow_rd X0 (fun _ => True) (.slice Ar r.rows.length cr) _ (cellsR r.rows) (Rd.of HOR.out (fun _ _ => trivial)) (by omega) (cellsR_length _) (cellsR_one _)).mono ?_
          rintro e X1 ⟨ur, rfl, ho, hb⟩
          obtain ⟨Aur, cur, rfl⟩ := Rw.slice (show (⟨ur, 55, 10, r.rows.length, cellsR r.rows⟩ : Rw).own X1 X0.heap.size from ho)
          have hz := hb.size
          have HR := Lib.hid (show HeapE X1 X0.heap.size X1.heap.size [⟨.slice Aur r.rows.length cur, 55, 10, r.rows.length, cellsR r.rows⟩] from HeapE.made (Heap.one (r := ⟨.slice Aur r.rows.length cur, 55, 10, r.rows.length, cellsR r.rows⟩) ho))
          replace HI := Lib.hid (show ClB w X1 g2 s vc (.slice Aj s.jobs.length cj) vt (.slice (some ⟨bs, 0, none⟩) s.log.length cl) #[(.slice Au0 s.cells.length cu0), (.slice Au1 s.jobs.length cu1), (.slice Au2 s.todo.length cu2), (.slice (some ⟨gj, 0, none⟩) s.log.length cu3), .int .i64 s.serial, .int .i64 s.now] ∧ HeapE X1 Bc Ec [intRw (.slice Au0 s.cells.length cu0) s.cells] ∧ OwnDE 46 36 4 opCells X1 Bt Et (.slice Au2 s.todo.length cu2) s.todo ∧ OwnX 50 18 s.jobs.length X1 Bj Ex (.slice Au1 s.jobs.length cu1) (datL jobDat s.jobs) from ⟨HI.out.1.below hb, HI.out.2.1.below hb, HI.out.2.2.1.below hb, OwnX.below HI.out.2.2.2 hb⟩)
          replace HOX := Lib.hid (OwnX.below HOX.out hb)
          replace s1 := (hb.cell (p := ⟨g2, 3, none⟩) (cell_lt s1)).trans s1
          replace s2 := (hb.cell (p := ⟨nb, 12, none⟩) (cell_lt s2)).trans s2
          have hz1 := hz
          clear HOR
          refine hK.out _ _ ⟨s1, s2⟩ (fun hHeld => ?_)
          clear hK K hHeld ho hb hz
          try simp only [Act.put, List.getElem_toArray, List.getElem_cons_succ, List.getElem_cons_zero, List.setIfInBounds_toArray, List.set_cons_zero, List.set_cons_succ]
          refine' wpAnyH_take (i := 6) (v := .pointer (some ⟨gj, k * 13, none⟩)) rfl (by kernel_rfl) (by kernel_rfl) (by kernel_rfl) (fun _ _ _ h => h) (Or.inl ⟨by rfl, fun W h => by go_simp⟩) ⟨s1, s2⟩ ?_
          try simp only [Act.put, List.getElem_toArray, List.getElem_cons_succ, List.getElem_cons_zero, List.setIfInBounds_toArray, List.set_cons_zero, List.set_cons_succ]
          refine' wpAnyH_take (i := 7) (v := .pointer (some ⟨gj, k * 13 + 12, none⟩)) rfl (by kernel_rfl) (by kernel_rfl) (by kernel_rfl) (fun _ _ _ h => h) (Or.inl ⟨by rfl, fun W h => by go_simp⟩) ⟨s1, s2⟩ ?_
          try simp only [Act.put, List.getElem_toArray, List.getElem_cons_succ, List.getElem_cons_zero, List.setIfInBounds_toArray, List.set_cons_zero, List.set_cons_succ]
          have m2 := mid_oneE (P := DP) (M := (evPlain r).map Dat.val) (R := (es.drop (k * 13 + 13)).map Dat.val) htl rfl (.val (.slice Ar r.rows.length cr)) (.row 55 10 r.rows.length (cellsR r.rows))
          have q12 : X1.cell? ⟨gj, k * 13 + 12, none⟩ = some (.slice Ar r.rows.length cr) := OwnX.val HOX.out (by omega) m2.1
          have f12 := OwnX.frz HOX.out (k * 13 + 12)
          have hp1 := OwnX.plant HOX.out m2.1 HR.out (by omega) (by omega) (by omega : Ey ≤ X1.heap.size)
          rw [m2.2] at hp1
          have hcg1 : Chg (Within Bl Ey) X1 (X1.setCell ⟨gj, k * 13 + 12, none⟩ (.slice Aur r.rows.length cur)) := chg_one X1 gj _ _ _ ⟨hg1, hg2⟩
          have hgg : g2 < gj := by omega
          have hgn : gj ≠ nb := by omega
          refine wpAnyH_ready (rs := [8]) (by kernel_rfl) (by simp) ?_
          refine AllReadyH.cons rfl (fun K hK => ?_) AllReadyH.nil
          go_simp
          have hI2 : ClB w (X1.setCell ⟨gj, k * 13 + 12, none⟩ (.slice Aur r.rows.length cur)) g2 s vc (.slice Aj s.jobs.length cj) vt (.slice (some ⟨bs, 0, none⟩) s.log.length cl) #[(.slice Au0 s.cells.length cu0), (.slice Au1 s.jobs.length cu1), (.slice Au2 s.todo.length cu2), (.slice (some ⟨gj, 0, none⟩) s.log.length cu3), .int .i64 s.serial, .int .i64 s.now] ∧ HeapE (X1.setCell ⟨gj, k * 13 + 12, none⟩ (.slice Aur r.rows.length cur)) Bc Ec [intRw (.slice Au0 s.cells.length cu0) s.cells] ∧ OwnDE 46 36 4 opCells (X1.setCell ⟨gj, k * 13 + 12, none⟩ (.slice Aur r.rows.length cur)) Bt Et (.slice Au2 s.todo.length cu2) s.todo ∧ OwnX 50 18 s.jobs.length (X1.setCell ⟨gj, k * 13 + 12, none⟩ (.slice Aur r.rows.length cur)) Bj Ex (.slice Au1 s.jobs.length cu1) (datL jobDat s.jobs) := ⟨HI.out.1.far gj _ _ hgg, HI.out.2.1.far hcg1 (.inl (by omega)), HI.out.2.2.1.far hcg1 (.inl (by omega)), OwnX.far HI.out.2.2.2 hcg1 (.inl (by omega))⟩
          replace HI := Lib.hid hI2
          replace HOX := Lib.hid hp1.1
          have t2 := cell_farB X1 gj (k * 13 + 12) (.slice Aur r.rows.length cur)
          replace s1 := (t2 g2 3 (by omega)).trans s1
          replace s2 := (t2 nb 12 (Ne.symm hgn)).trans s2
          have hsz3 : (X1.setCell ⟨gj, k * 13 + 12, none⟩ (.slice Aur r.rows.length cur)).heap.size = X1.heap.size := by simp
          refine hK.out _ _ ⟨s1, s2⟩ (fun hHeld => ?_)
          clear hK K hHeld hI2 hp1 hcg1 q12 f12 HR m2 t2
          try simp only [Act.put, List.getElem_toArray, List.getElem_cons_succ, List.getElem_cons_zero, List.setIfInBounds_toArray, List.set_cons_zero, List.set_cons_succ]
          refine wpAnyH_done (by kernel_rfl) ?_ _
          generalize X1.setCell ⟨gj, k * 13 + 12, none⟩ (.slice Aur r.rows.length cur) = X4 at *
          clear s1 s2
          go_wp2_with fail
          go_roundw
          case rel =>
            have hjm := HS.out.l
            refine ⟨k + 1, X1.heap.size, by omega, by rw [show wrap64 ((k : Int) + 1) = ((k + 1 : Nat) : Int) by unfold wrap64; omega], HI.out, ?_, by omega, by omega⟩
            have h2 := HOX.out
            rw [HNX.out, evDat_eq, show (k + 1) * 13 = k * 13 + 13 by omega]
            simpa using h2
          case measure =>
            have hjm := HS.out.l
            rw [show wrap64 ((k : Int) + 1) = ((k + 1 : Nat) : Int) by unfold wrap64; omega]
            simp [intOf]; omega
        · have hkn : ¬ (k : Int) < (s.log.length : Int) := by omega
          have hlx : OwnX 39 13 s.log.length wr Bl Ey (.slice Au3 s.log.length cu3) (datL evDat s.log) := by
            have h2 := hox
            rw [List.take_of_length_le (by omega), List.drop_eq_nil_of_le (by rw [HES.out.2.1.1]; omega)] at h2
            simpa using h2
          have HI := Lib.hid hI
          have HLX := Lib.hid hlx
          clear hox hlx hI HES HTL hlt HSRC HS
          have hoc : Array.all (#[(.slice Au0 s.cells.length cu0), (.slice Au1 s.jobs.length cu1), (.slice Au2 s.todo.length cu2), (.slice Au3 s.log.length cu3), .int .i64 s.serial, .int .i64 s.now] : Array Value) (·.oneCell') = true := by simp [Value.oneCell']
          go_wp2_with ((with_reducible show wpList _ _ _ _ _ _); first | refine wpList_load_row rfl 33 _ rfl g2 rfl 33 #[(.slice Au0 s.cells.length cu0), (.slice Au1 s.jobs.length cu1), (.slice Au2 s.todo.length cu2), (.slice Au3 s.log.length cu3), .int .i64 s.serial, .int .i64 s.now] (0, 0) _ HI.out.1.b2 hulw rfl (by kernel_rfl) ?_ | refine wpList_store_row rfl 33 _ _ rfl (w.heap.size + 1) #[(.slice Au0 s.cells.length cu0), (.slice Au1 s.jobs.length cu1), (.slice Au2 s.todo.length cu2), (.slice Au3 s.log.length cu3), .int .i64 s.serial, .int .i64 s.now] rfl rfl 33 _ HI.out.1.b1 (by kernel_rfl) rfl hoc ?_)
          have hch := chg_setRow wr (w.heap.size + 1) #[(.slice Au0 s.cells.length cu0), (.slice Au1 s.jobs.length cu1), (.slice Au2 s.todo.length cu2), (.slice Au3 s.log.length cu3), .int .i64 s.serial, .int .i64 s.now]
          have hsz : (wr.setRow (w.heap.size + 1) #[(.slice Au0 s.cells.length cu0), (.slice Au1 s.jobs.length cu1), (.slice Au2 s.todo.length cu2), (.slice Au3 s.log.length cu3), .int .i64 s.serial, .int .i64 s.now]).heap.size = wr.heap.size := setRow_size _ _ _
          have hwor : WorP (wr.setRow (w.heap.size + 1) #[(.slice Au0 s.cells.length cu0), (.slice Au1 s.jobs.length cu1), (.slice Au2 s.todo.length cu2), (.slice Au3 s.log.length cu3), .int .i64 s.serial, .int .i64 s.now]) w.heap.size (wr.setRow (w.heap.size + 1) #[(.slice Au0 s.cells.length cu0), (.slice Au1 s.jobs.length cu1), (.slice Au2 s.todo.length cu2), (.slice Au3 s.log.length cu3), .int .i64 s.serial, .int .i64 s.now]).heap.size s (.slice Au0 s.cells.length cu0) (.slice Au1 s.jobs.length cu1) (.slice Au2 s.todo.length cu2) (.slice Au3 s.log.length cu3) := ⟨Bc, Ec, Bj, Ex, Bt, Et, Bl, Ey, ⟨⟨by omega, by omega, by omega, by omega⟩, ⟨by omega, by omega, by omega, by omega⟩, .inl (by omega), .inl (by omega), .inl (by omega), .inr (by omega), .inl (by omega), .inl (by omega)⟩, ⟨HI.out.2.1.far hch (.inr (by omega)), OwnX.far HI.out.2.2.2 hch (.inr (by omega)), HI.out.2.2.1.far hch (.inr (by omega)), OwnX.far HLX.out hch (.inr (by omega))⟩⟩
          refine post_gen (fun X => Blk X (w.heap.size + 1) 33 #[(.slice Au0 s.cells.length cu0), (.slice Au1 s.jobs.length cu1), (.slice Au2 s.todo.length cu2), (.slice Au3 s.log.length cu3), .int .i64 s.serial, .int .i64 s.now] ∧ WorP X w.heap.size X.heap.size s (.slice Au0 s.cells.length cu0) (.slice Au1 s.jobs.length cu1) (.slice Au2 s.todo.length cu2) (.slice Au3 s.log.length cu3) ∧ Below w.heap.size w X) ⟨setRow_heap _ _ _ _ _ _ HI.out.1.b1, hwor, below_setRow' HI.out.1.bel (by omega) _⟩ ?_
          rintro X ⟨hx, hw, hb⟩
          exact bodyPost_ret (v := .agg #[(.slice Au0 s.cells.length cu0), (.slice Au1 s.jobs.length cu1), (.slice Au2 s.todo.length cu2), (.slice Au3 s.log.length cu3), .int .i64 s.serial, .int .i64 s.now]) (results_cell_row rfl _ _ _ _ _ (0, 0) _ rfl hx hulw rfl (by kernel_rfl)) rfl ⟨_, _, _, _, rfl, hw, hb⟩
end Go.Proofs.YtnlepnfdgdbkoaaGreatDoor
