/-
  Chapter 13, the program: a value recorded in a row of any kind (withValue).
-/
import Derived.Test.YtbhhhakfjmaglaaGreatModC
import Derived.Test.YtbhhhakfjmaglaaGreatModD
import Derived.Test.YtbhhhakfjmaglaaGreatRowI
namespace Go.Proofs.YtbhhhakfjmaglaaGreat
open Go.RowKit M
set_option linter.unusedVariables false
set_option linter.unusedSimpArgs false
theorem sampledF_fit {r : R} (h : r.Fit) (v : Int) : (sampledV r v).Fit := by
  unfold sampledV
  split
  · rename_i hc
    obtain ⟨ho, hk, v0, v1⟩ := hc
    obtain ⟨f1, f2, f3, ⟨n0, n1⟩, ⟨m0, m1⟩, mx1, ⟨t0, t1⟩, ⟨d0, d1⟩⟩ := timer_facts ho hk
    obtain ⟨g0, g1, g2, g3, g4, g5, g6, g7, g8⟩ := h
    unfold inW at *
    repeat' split
    all_goals (constructor <;> (try unfold inW) <;> (try simp only) <;> first | assumption | omega)
  · exact h
theorem counted_fit {r : R} (h : r.Fit) (v : Int) : (countedV r v).Fit := by
  unfold countedV
  split
  · obtain ⟨g0, g1, g2, g3, g4, g5, g6, g7, g8⟩ := h
    exact ⟨g0, g1, by show inW ((r.sum + v) % 281474976710656); unfold inW; omega, g3, g4, g5, g6, g7, g8⟩
  · exact h
theorem with_fit {r : R} (h : r.Fit) {v : Int} (hv : inW v) : (withV r v).Fit := by
  unfold withV
  split
  · exact counted_fit h v
  · split
    · obtain ⟨g0, g1, g2, g3, g4, g5, g6, g7, g8⟩ := h
      exact ⟨g0, g1, g2, hv, g4, g5, g6, g7, g8⟩
    · exact sampledF_fit h v
theorem with_key (r : R) (v : Int) : (withV r v).key = r.key ∧ (withV r v).kind = r.kind := by
  unfold withV countedV sampledV
  repeat' split
  all_goals exact ⟨rfl, rfl⟩
set_option maxRecDepth 100000 in
set_option maxHeartbeats 2000000 in
theorem iWith_any (w : World) (r : R) (v : Int) (h : r.Fit) (hl0 : -9223372036854775808 ≤ v) (hl1 : v ≤ 9223372036854775807) : Calls Tryz.prog 77 #[r.v, .int .i64 v] w (Gives (withV r v).v w) := by
  have CC := fun W => Lib.hid (iCounted_any W r v h hl0 hl1)
  have CS := fun W => Lib.hid (iSampled_any W r v h hl0 hl1)
  have HV := Lib.hid (show withV r v = if r.kind = 1 then countedV r v else if r.kind = 2 then { r with set := true, last := v } else sampledV r v from rfl)
  have hu := Tryz.underlying42
  clear h hl0 hl1
  generalize countedV r v = cv at *
  generalize sampledV r v = sv at *
  generalize withV r v = res at *
  obtain ⟨rv, hrv⟩ : ∃ rv, rv = res.v := ⟨_, rfl⟩
  rw [← hrv]
  have HRV := Lib.hid hrv
  clear hrv
  obtain ⟨key, kind, sum, st, last, n', mn, mx, total, dropped⟩ := r
  unfold R.v at CC CS ⊢
  simp only at CC CS ⊢
  go_enter Tryz.func77, Tryz.ntmps77
  go_upto_region 1 with fail
  refine wp_gen (fun W => Blk W w.heap.size 42 #[.string key, .int .i64 kind, .int .i64 sum, .bool st, .int .i64 last, .int .i64 n', .int .i64 mn, .int .i64 mx, .int .i64 total, .int .i64 dropped] ∧ Blk W (w.heap.size + 1) 42 (rowCells zeroR) ∧ Below w.heap.size w W) ⟨(Blk.new w _ _ _ rfl).alloc _, Blk.new _ _ _ _ (by simp [go_sem]), ((Below.refl _ _).alloc (Nat.le_refl _) _).alloc (by simp [go_sem]) _⟩ ?_
  rintro W ⟨g0, g1, hb⟩
  have HSZ := Lib.hid (show w.heap.size + 2 ≤ W.heap.size from g1.lt)
  have G0 := Lib.hid g0; have G1 := Lib.hid g1; have HB := Lib.hid hb
  have x1 := g0.get 1
  simp at x1
  clear g0 g1 hb
  by_cases c1 : kind = 1
  · have d1 : (kind == 1) = true := by rw [beq_iff_eq]; exact c1
    have HN := Lib.hid (HV.out.trans (if_pos c1))
    clear c1 HV
    go_wp2_with ((with_reducible show wpList _ _ _ _ _ _); refine wpList_load_row rfl 42 _ rfl (w.heap.size) rfl 42 #[.string key, .int .i64 kind, .int .i64 sum, .bool st, .int .i64 last, .int .i64 n', .int .i64 mn, .int .i64 mx, .int .i64 total, .int .i64 dropped] (0, 0) _ G0.out hu rfl (by kernel_rfl) ?_)
    refine (CC _).out.mono ?_
    rintro e W2 ⟨rfl, hb⟩
    replace G1 := Lib.hid (G1.out.below hb); replace HB := Lib.hid (HB.out.trans (hb.mono HB.out.size))
    clear hb x1
    go_wp2_with ((with_reducible show wpList _ _ _ _ _ _); refine wpList_store_row rfl 42 _ _ rfl (w.heap.size + 1) (rowCells cv) rfl rfl 42 _ G1.out (by kernel_rfl) rfl (by simp [rowCells, Value.oneCell']) ?_)
    refine post_gen (fun X => Blk X (w.heap.size + 1) 42 (rowCells cv) ∧ Below w.heap.size w X) ⟨setRow_heap _ _ _ _ _ _ G1.out, below_setRow' HB.out (by omega) _⟩ ?_
    rintro X ⟨h1, hb⟩
    exact bodyPost_ret (v := .agg (rowCells cv)) (results_cell_row rfl _ _ _ _ _ (0, 0) _ rfl h1 hu rfl (by kernel_rfl)) rfl ⟨by rw [HRV.out, HN.out]; rfl, hb⟩
  · have d1 : (kind == 1) = false := by rw [beq_eq_false_iff_ne]; exact c1
    have HV2 := Lib.hid (HV.out.trans (if_neg c1))
    clear c1 HV
    by_cases c2 : kind = 2
    · have d2 : (kind == 2) = true := by rw [beq_iff_eq]; exact c2
      have HN := Lib.hid (HV2.out.trans (if_pos c2))
      clear c2 HV2 CC CS
      have q3 := G0.out.get 3
      have q4 := G0.out.get 4
      simp at q3 q4
      have zf := G0.out.frz
      go_upto_region 6 with fail
      refine wp_gen (fun X => Blk X w.heap.size 42 #[.string key, .int .i64 kind, .int .i64 sum, .bool true, .int .i64 v, .int .i64 n', .int .i64 mn, .int .i64 mx, .int .i64 total, .int .i64 dropped] ∧ Blk X (w.heap.size + 1) 42 (rowCells zeroR) ∧ Below w.heap.size w X) ⟨(G0.out.store 3 (.bool true)).store 4 (.int .i64 v), (G1.out.far _ _ _ (by omega)).far _ _ _ (by omega), (HB.out.setCell (Nat.le_refl _) _).setCell (Nat.le_refl _) _⟩ ?_
      rintro W2 ⟨g0, g1, hb⟩
      clear x1 q3 q4 zf G0 G1 HB
      have G0 := Lib.hid g0; have G1 := Lib.hid g1; have HB := Lib.hid hb
      clear g0 g1 hb
      go_wp2_with ((with_reducible show wpList _ _ _ _ _ _); first | refine wpList_load_row rfl 42 _ rfl (w.heap.size) rfl 42 #[.string key, .int .i64 kind, .int .i64 sum, .bool true, .int .i64 v, .int .i64 n', .int .i64 mn, .int .i64 mx, .int .i64 total, .int .i64 dropped] (0, 0) _ G0.out hu rfl (by kernel_rfl) ?_ | refine wpList_store_row rfl 42 _ _ rfl (w.heap.size + 1) #[.string key, .int .i64 kind, .int .i64 sum, .bool true, .int .i64 v, .int .i64 n', .int .i64 mn, .int .i64 mx, .int .i64 total, .int .i64 dropped] rfl rfl 42 _ G1.out (by kernel_rfl) rfl (by simp [rowCells, Value.oneCell']) ?_)
      refine post_gen (fun X => Blk X (w.heap.size + 1) 42 #[.string key, .int .i64 kind, .int .i64 sum, .bool true, .int .i64 v, .int .i64 n', .int .i64 mn, .int .i64 mx, .int .i64 total, .int .i64 dropped] ∧ Below w.heap.size w X) ⟨setRow_heap _ _ _ _ _ _ G1.out, below_setRow' HB.out (by omega) _⟩ ?_
      rintro X ⟨h1, hb⟩
      exact bodyPost_ret (v := .agg #[.string key, .int .i64 kind, .int .i64 sum, .bool true, .int .i64 v, .int .i64 n', .int .i64 mn, .int .i64 mx, .int .i64 total, .int .i64 dropped]) (results_cell_row rfl _ _ _ _ _ (0, 0) _ rfl h1 hu rfl (by kernel_rfl)) rfl ⟨by rw [HRV.out, HN.out]; rfl, hb⟩
    · have d2 : (kind == 2) = false := by rw [beq_eq_false_iff_ne]; exact c2
      have HN := Lib.hid (HV2.out.trans (if_neg c2))
      clear c2 HV2
      go_wp2_with ((with_reducible show wpList _ _ _ _ _ _); refine wpList_load_row rfl 42 _ rfl (w.heap.size) rfl 42 #[.string key, .int .i64 kind, .int .i64 sum, .bool st, .int .i64 last, .int .i64 n', .int .i64 mn, .int .i64 mx, .int .i64 total, .int .i64 dropped] (0, 0) _ G0.out hu rfl (by kernel_rfl) ?_)
      refine (CS _).out.mono ?_
      rintro e W2 ⟨rfl, hb⟩
      replace G1 := Lib.hid (G1.out.below hb); replace HB := Lib.hid (HB.out.trans (hb.mono HB.out.size))
      clear hb x1
      go_wp2_with ((with_reducible show wpList _ _ _ _ _ _); refine wpList_store_row rfl 42 _ _ rfl (w.heap.size + 1) (rowCells sv) rfl rfl 42 _ G1.out (by kernel_rfl) rfl (by simp [rowCells, Value.oneCell']) ?_)
      refine post_gen (fun X => Blk X (w.heap.size + 1) 42 (rowCells sv) ∧ Below w.heap.size w X) ⟨setRow_heap _ _ _ _ _ _ G1.out, below_setRow' HB.out (by omega) _⟩ ?_
      rintro X ⟨h1, hb⟩
      exact bodyPost_ret (v := .agg (rowCells sv)) (results_cell_row rfl _ _ _ _ _ (0, 0) _ rfl h1 hu rfl (by kernel_rfl)) rfl ⟨by rw [HRV.out, HN.out]; rfl, hb⟩
end Go.Proofs.YtbhhhakfjmaglaaGreat
