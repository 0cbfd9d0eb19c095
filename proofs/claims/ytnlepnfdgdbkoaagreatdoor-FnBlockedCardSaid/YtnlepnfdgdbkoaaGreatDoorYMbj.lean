/-
  Texts of this seat, laid together.
-/
import Derived.Test.YtnlepnfdgdbkoaaGreatDoorYZa
import Derived.Test.YtnlepnfdgdbkoaaGreatDoorYZc
import Derived.Test.YtnlepnfdgdbkoaaGreatDoorYJobS
import Derived.Test.YtnlepnfdgdbkoaaGreatDoorYZb
import Derived.Test.YtnlepnfdgdbkoaaGreatDoorYJobI
import Derived.Test.YtnlepnfdgdbkoaaGreatDoorYZd
section
namespace Go.Proofs.YtnlepnfdgdbkoaaGreatDoor
open Go.RowKit M
set_option linter.unusedVariables false
set_option linter.unusedSimpArgs false
theorem world_eq (s : S) : worldOkV s = (okC s.cells && (decide (s.jobs.length = 4) && (todoOkV s.todo && (decide (0 ≤ s.serial ∧ s.serial ≤ 1000000) && (decide (0 ≤ s.now ∧ s.now ≤ 1000000000) && (List.range 4).all fun t => jobAtV t (s.jobs.getD t zeroJ)))))) := rfl
def JobsTo (l : List J) (n : Nat) : Prop := ∀ i, i < n → jobAtV i (l.getD i zeroJ) = true
theorem jobs_all {l : List J} (h : JobsTo l 4) : ((List.range 4).all fun t => jobAtV t (l.getD t zeroJ)) = true := by
  rw [List.all_eq_true]
  exact fun t ht => h t (List.mem_range.1 ht)
theorem jobs_no {l : List J} {t : Nat} (ht : t < 4) (h : jobAtV t (l.getD t zeroJ) = false) : ((List.range 4).all fun t => jobAtV t (l.getD t zeroJ)) = false := by
  rw [List.all_eq_false]
  exact ⟨t, List.mem_range.2 ht, by rw [h]; simp⟩
end Go.Proofs.YtnlepnfdgdbkoaaGreatDoor
end
section
namespace Go.Proofs.YtnlepnfdgdbkoaaGreatDoor
open Go.RowKit M
set_option linter.unusedVariables false
set_option linter.unusedSimpArgs false
theorem sameJV_zero {r : J} (h : r.busy = false) : sameJV r zeroJ = zeroJobV r := by
  unfold sameJV zeroJobV
  rw [show decide (r.op = zeroJ.op) = isZeroO r.op from zeroO_eq r.op, show decide (r.keys = zeroJ.keys) = decide (r.keys.length = 0) from by congr 1; simp only [eq_iff_iff]; exact List.length_eq_zero_iff.symm, show decide (r.raw = zeroJ.raw) = decide (r.raw.length = 0) from by congr 1; simp only [eq_iff_iff]; exact List.length_eq_zero_iff.symm, decide_eq_true (show r.busy = zeroJ.busy from h)]
  simp only [Bool.decide_and, Bool.and_assoc, Bool.true_and]
  rfl
set_option maxRecDepth 100000 in
theorem iOk_none (w : World) (A : Option Addr) (cap : Nat) : Calls Tryz.prog 43 #[.slice A 0 cap] w (Same w (.bool false)) := by
  go_enter Tryz.func43, Tryz.ntmps43
  go_wp2
  go_ret
  exact ⟨rfl, rfl⟩
theorem iOk_arg (w : World) (v : Value) (zs : List Int) (h : IntsArg w v zs) : Calls Tryz.prog 43 #[v] w (Same w (.bool (okC zs))) := by
  have h' := h
  obtain ⟨A, cap, rfl, h1, h2, h3⟩ := h
  by_cases hp : 0 < zs.length
  · obtain ⟨b, off, rfl, h4, h5⟩ := h3 hp
    exact iOk_any w _ zs ⟨b, off, cap, rfl, h1, h2, h4, h5⟩
  · have e : zs = [] := List.length_eq_zero_iff.1 (by omega)
    subst e
    exact iOk_none w A cap
set_option maxRecDepth 100000 in
set_option maxHeartbeats 4000000 in
theorem iJobIn_any (w : World) (r : J) (vk vr : Value) (t : Nat) (h : jobIn w r vk vr) (hf : r.op.Fit) : Calls Tryz.prog 45 #[.agg (jobVals r vk vr), .int .i64 t] w (Gives (.bool (jobAtV t r)) w) := by
  have HE := Lib.hid (show jobAtV t r = if r.busy = true then jobOkV r && (decide (r.op.kind = 3) == decide (t = 3)) else zeroJobV r from rfl)
  have HB := Lib.hid (below_one w (.cells (jobVals r vk vr) 50))
  have HG := Lib.hid (Blk.new w w.heap.size 50 (jobVals r vk vr) rfl)
  have c0 : (w.alloc (.cells (jobVals r vk vr) 50)).cell? ⟨w.heap.size, 0, none⟩ = some (.bool r.busy) := HG.out.get 0
  have c1 : (w.alloc (.cells (jobVals r vk vr) 50)).cell? ⟨w.heap.size, 1, none⟩ = some (.int .i64 r.op.kind) := HG.out.get 1
  have hul := Tryz.underlying50
  cases hbz : r.busy with
  | false =>
    have HS0 := fun W (hb : Below w.heap.size w W) => Lib.hid (show Calls Tryz.prog 59 #[.agg (jobVals r vk vr), .agg #[.bool false, .int .i64 0, .string ⟨#[]⟩, .int .i64 0, .int .i64 0, .int .i64 0, .int .i64 0, .int .i64 0, .int .i64 0, .int .i64 0, .int .i64 0, .int .i64 0, .int .i64 0, .int .i64 0, .int .i64 0, .int .i64 0, .slice none 0 0, .slice none 0 0]] W (Gives (.bool (sameJV r zeroJ)) W) from iSameJob_any W r zeroJ vk vr (.slice none 0 0) (.slice none 0 0) (jobIn_below h hb) ⟨IntsArg.nil W, IntsArg.nil W⟩)
    rw [sameJV_zero hbz] at HS0
    rw [hbz] at HE c0
    clear h hf hbz c1
    generalize zeroJobV r = q at *
    generalize jobAtV t r = ja at *
    go_enter Tryz.func45, Tryz.ntmps45
    go_wp2_with ((with_reducible show wpList _ _ _ _ _ _); refine wpList_load_row rfl 50 _ rfl w.heap.size rfl 50 (jobVals r vk vr) (0, 0) _ HG.out hul rfl (by kernel_rfl) ?_)
    refine (HS0 _ HB.out).out.mono ?_
    rintro e w2 ⟨rfl, hb2⟩
    replace HB := Lib.hid (HB.out.trans (hb2.mono HB.out.size))
    clear hb2 c0 HG
    go_wp2_with fail
    go_ret
    exact ⟨ret_bl (by rw [HE.out]; rfl), HB.out⟩
  | true =>
    have HJ := fun W (hb : Below w.heap.size w W) => Lib.hid (iJobOk_any W r vk vr (jobIn_below h hb) hf)
    have HM := fun W => Lib.hid (iMayRun_any (t : Int) r.op.kind W)
    rw [show decide ((t : Int) = 3) = decide (t = 3) by congr 1; simp only [eq_iff_iff]; omega] at HM
    rw [hbz] at HE c0
    clear h hf hbz
    generalize (decide (r.op.kind = 3) == decide (t = 3)) = my at *
    generalize jobOkV r = jo at *
    generalize jobAtV t r = ja at *
    generalize r.op.kind = kind at *
    go_enter Tryz.func45, Tryz.ntmps45
    go_wp2_with ((with_reducible show wpList _ _ _ _ _ _); refine wpList_load_row rfl 50 _ rfl w.heap.size rfl 50 (jobVals r vk vr) (0, 0) _ HG.out hul rfl (by kernel_rfl) ?_)
    refine (HJ _ HB.out).out.mono ?_
    rintro e w2 ⟨rfl, hb2⟩
    have c1' : w2.cell? ⟨w.heap.size, 1, none⟩ = some (.int .i64 kind) := (hb2.cell (p := ⟨w.heap.size, 1, none⟩) (by simp [go_sem])).trans c1
    replace HB := Lib.hid (HB.out.trans (hb2.mono HB.out.size))
    clear hb2 c0 c1 HG
    cases jo with
    | false =>
      go_wp2_with fail
      go_ret
      exact ⟨ret_bl (by rw [HE.out]; rfl), HB.out⟩
    | true =>
      go_wp2_with fail
      refine (HM _).out.mono ?_
      rintro e w3 ⟨rfl, rfl⟩
      go_wp2_with fail
      go_ret
      exact ⟨ret_bl (by rw [HE.out]; simp), HB.out⟩
set_option maxRecDepth 100000 in
set_option maxHeartbeats 8000000 in
theorem iWorldOk_any (w : World) (s : S) (vc vj vt vl : Value) (h : WorIn w s vc vj vt vl) (hf : s.Fit) : Calls Tryz.prog 27 #[.agg (worVals s vc vj vt vl)] w (Gives (.bool (worldOkV s)) w) := by
  have HCO := Lib.hid (fun W (hb : Below w.heap.size w W) => iOk_arg W vc s.cells (h.c.below hb))
  have HTO := Lib.hid (fun W (hb : Below w.heap.size w W) => iTodoOk_any W vt s.todo (h.t.below hb) hf.todo)
  have HE := Lib.hid (world_eq s)
  have HJA := Lib.hid (jobs_all (l := s.jobs))
  have HJN := Lib.hid (fun t => jobs_no (l := s.jobs) (t := t))
  have HK := Lib.hid (fun j (hj : j < s.jobs.length) => (hf.jobs j hj).op)
  obtain ⟨_, ⟨A1, cap1, rfl, j1, j2, j3⟩, _, _⟩ := h
  unfold maxLen at j2
  obtain ⟨cells, jobs, todo, log, wserial, wnow⟩ := s
  unfold worVals
  simp only at *
  clear hf
  generalize worldOkV ⟨cells, jobs, todo, log, wserial, wnow⟩ = all at *
  have H3 := fun W => Lib.hid (isIdx_any wserial 1000001 1000000 W rfl)
  have H4 := fun W => Lib.hid (isIdx_any wnow 1000000001 1000000000 W rfl)
  generalize okC cells = q0 at *
  generalize todoOkV todo = q2 at *
  generalize decide (0 ≤ wserial ∧ wserial ≤ 1000000) = q3 at *
  generalize decide (0 ≤ wnow ∧ wnow ≤ 1000000000) = q4 at *
  have b1 := nat_beq jobs.length 4
  have b1' : ((jobs.length : Int) != 4) = !decide (jobs.length = 4) := by rw [bne, ← b1]; rfl
  have HN4 := Lib.hid (fun (q : decide (jobs.length = 4) = true) => of_decide_eq_true q)
  generalize decide (jobs.length = 4) = q1 at *
  have HL := Lib.hid j3
  clear j3
  generalize hn1 : jobs.length = n1 at *
  clear hn1
  generalize ((List.range 4).all fun t => jobAtV t (jobs.getD t zeroJ)) = qa at *
  have hul := Tryz.underlying50
  go_enter Tryz.func27, Tryz.ntmps27
  go_wp2_with fail
  refine (HCO.out _ (below_one w (.cells #[vc, .slice A1 n1 cap1, vt, vl, .int .i64 wserial, .int .i64 wnow] 33))).mono ?_
  rintro er w1 ⟨rfl, rfl⟩
  have HB := Lib.hid (below_one w (.cells #[vc, .slice A1 n1 cap1, vt, vl, .int .i64 wserial, .int .i64 wnow] 33))
  have HG := Lib.hid (Blk.new w w.heap.size 33 #[vc, .slice A1 n1 cap1, vt, vl, .int .i64 wserial, .int .i64 wnow] rfl)
  cases q0 with
  | false =>
    go_wp2_with fail
    go_ret
    exact ⟨ret_bl (by rw [HE.out]; simp), HB.out⟩
  | true =>
    go_wp2_with fail
    refine (HTO.out _ HB.out).mono ?_
    rintro er w2 ⟨rfl, hb2⟩
    replace HG := Lib.hid (HG.out.below hb2)
    replace HB := Lib.hid (HB.out.trans (hb2.mono HB.out.size))
    clear hb2 HTO HCO
    have g0 : w2.cell? ⟨w.heap.size, 0, none⟩ = some (vc) := HG.out.get 0
    have g1 : w2.cell? ⟨w.heap.size, 1, none⟩ = some (.slice A1 n1 cap1) := HG.out.get 1
    have g2 : w2.cell? ⟨w.heap.size, 2, none⟩ = some (vt) := HG.out.get 2
    have g3 : w2.cell? ⟨w.heap.size, 3, none⟩ = some (vl) := HG.out.get 3
    have g4 : w2.cell? ⟨w.heap.size, 4, none⟩ = some (.int .i64 wserial) := HG.out.get 4
    have g5 : w2.cell? ⟨w.heap.size, 5, none⟩ = some (.int .i64 wnow) := HG.out.get 5
    cases q2 with
    | false =>
      go_wp2_with fail
      go_ret
      exact ⟨ret_bl (by rw [HE.out]; simp), HB.out⟩
    | true =>
      go_wp2_with fail
      refine (H3 _).out.mono ?_
      rintro er w4 ⟨rfl, rfl⟩
      cases q3 with
      | false =>
        go_wp2_with fail
        go_ret
        exact ⟨ret_bl (by rw [HE.out]; simp), HB.out⟩
      | true =>
        go_wp2_with fail
        refine (H4 _).out.mono ?_
        rintro er w4 ⟨rfl, rfl⟩
        cases q4 with
        | false =>
          go_wp2_with fail
          go_ret
          exact ⟨ret_bl (by rw [HE.out]; simp), HB.out⟩
        | true =>
          cases q1 with
          | false =>
            go_wp2_with fail
            go_ret
            exact ⟨ret_bl (by rw [HE.out]; simp), HB.out⟩
          | true =>
            obtain rfl := HN4.out rfl
            go_wp2_with fail
            clear g0 g1 g2 g3 g4 g5
            go_loopw [34] (fun i wr => ∃ t : Nat, t ≤ 4 ∧ i = .int .i64 t ∧ JobsTo jobs t ∧ Below w.heap.size w wr) (fun i _ => 4 - (intOf i).toNat)
            case atStart => exact ⟨0, Nat.zero_le _, rfl, fun j hj => absurd hj (Nat.not_lt_zero _), HB.out⟩
            case round =>
              obtain ⟨t, ht, rfl, hto, hb⟩ := hrel
              have HTO := Lib.hid hto
              clear HG HB hto
              by_cases hlt : t < 4
              · obtain ⟨b, off, rfl, hbb, hc⟩ := HL.out (by omega)
                obtain ⟨vk, vr, hr, hin⟩ := job_at ((hc t hlt).below hbb hb)
                have hoc := job_one wr _ vk vr hin
                have hks := HK.out t hlt
                have HNX := Lib.hid (fun (q : jobAtV t (jobs.getD t zeroJ) = true) => (show JobsTo jobs (t + 1) from fun i hi => by
                  by_cases e : i = t
                  · subst e; exact q
                  · exact HTO.out i (by omega)))
                have HJ1 := Lib.hid (fun W (hb' : Below wr.heap.size wr W) => iJobIn_any W (jobs.getD t zeroJ) vk vr t (jobIn_below hin hb') hks)
                have HJN1 := Lib.hid (fun (q : jobAtV t (jobs.getD t zeroJ) = false) => HJN.out t hlt q)
                have HR := Lib.hid hr
                have HB := Lib.hid hb
                clear hr hc hks hin hb HJN
                generalize jobAtV t (jobs.getD t zeroJ) = ja at *
                generalize jobs.getD t zeroJ = r at *
                have hltz : (t : Int) < 4 := by omega
                go_upto_region 8 with ((with_reducible show wpList _ _ _ _ _ _); first | refine wpList_load_mid rfl 50 _ rfl b (off + t * 18) rfl ((jobVals r vk vr) : Array Value).toList _ HR.out hul rfl (by kernel_rfl) ?_ | refine wpList_store_row rfl 50 _ _ rfl wr.heap.size (jobVals r vk vr) rfl rfl 50 _ (Blk.new wr wr.heap.size 50 #[.bool false, .int .i64 0, .string ⟨#[]⟩, .int .i64 0, .int .i64 0, .int .i64 0, .int .i64 0, .int .i64 0, .int .i64 0, .int .i64 0, .int .i64 0, .int .i64 0, .int .i64 0, .int .i64 0, .int .i64 0, .int .i64 0, .slice none 0 0, .slice none 0 0] rfl) (by kernel_rfl) rfl hoc ?_)
                refine wp_gen (fun X => Blk X wr.heap.size 50 (jobVals r vk vr) ∧ Below wr.heap.size wr X) ⟨setRow_heap _ _ _ _ _ _ (Blk.new wr wr.heap.size 50 #[.bool false, .int .i64 0, .string ⟨#[]⟩, .int .i64 0, .int .i64 0, .int .i64 0, .int .i64 0, .int .i64 0, .int .i64 0, .int .i64 0, .int .i64 0, .int .i64 0, .int .i64 0, .int .i64 0, .int .i64 0, .int .i64 0, .slice none 0 0, .slice none 0 0] rfl), below_setRow' (below_one wr _) (Nat.le_refl _) _⟩ ?_
                rintro X ⟨hx, hbx⟩
                have HX := Lib.hid hx
                have HBX := Lib.hid hbx
                have HB2 := Lib.hid (HB.out.trans (hbx.mono HB.out.size))
                clear hx hbx HR HB hoc
                go_wp2_with ((with_reducible show wpList _ _ _ _ _ _); refine wpList_load_row rfl 50 _ rfl wr.heap.size rfl 50 (jobVals r vk vr) (0, 0) _ HX.out hul rfl (by kernel_rfl) ?_)
                refine (HJ1.out _ HBX.out).mono ?_
                rintro er w3 ⟨rfl, hb3⟩
                replace HB2 := Lib.hid (HB2.out.trans (hb3.mono HB2.out.size))
                clear hb3 HX HBX
                cases ja with
                | false =>
                  have HE2 := Lib.hid (HJN1.out rfl)
                  clear HNX HJN1
                  go_wp2_with fail
                  go_ret
                  exact ⟨ret_bl (by rw [HE.out, HE2.out]; simp), HB2.out⟩
                | true =>
                  have HN2 := Lib.hid (HNX.out rfl)
                  clear HNX HJN1
                  go_wp2_with fail
                  go_roundw
                  case rel => exact ⟨t + 1, by omega, by go_num, HN2.out, HB2.out⟩
                  case measure => simp [intOf]; omega
              · obtain rfl : t = 4 := by omega
                have HE2 := Lib.hid (HJA.out HTO.out)
                have HB := Lib.hid hb
                have hltz : ¬ ((4 : Nat) : Int) < 4 := by omega
                clear hb
                go_wp2_with fail
                go_ret
                exact ⟨ret_bl (by rw [HE.out, HE2.out]; simp), HB.out⟩
end Go.Proofs.YtnlepnfdgdbkoaaGreatDoor
end
