/-
  Chapter 10, the model's WorldOk: is a world as one may be? It turns nothing that was there.
-/
import Derived.Test.YtfemdhknnfmpcaaJobS
import Derived.Test.YtfemdhknnfmpcaaTodoS
import Derived.Test.YtfemdhknnfmpcaaWorC
import Derived.Test.YtfemdhknnfmpcaaZa
namespace Go.Proofs.Ytfemdhknnfmpcaa
open Go.RowKit M
set_option linter.unusedVariables false
set_option linter.unusedSimpArgs false
set_option maxRecDepth 100000 in
theorem sOk_none (w : World) (A : Option Addr) (cap : Nat) : Calls Try.prog 74 #[.slice A 0 cap] w (Same w (.bool false)) := by
  go_enter Try.func74, Try.ntmps74
  go_wp2
  go_loop [3] (fun i => i = .int .i64 0) (fun _ => 0)
  case atStart => rfl
  case round =>
    subst hrel
    go_wp2
    go_ret
    exact ⟨rfl, rfl⟩
theorem sOk_arg (w : World) (v : Value) (zs : List Int) (h : IntsArg w v zs) : Calls Try.prog 74 #[v] w (Same w (.bool (okC zs))) := by
  have h' := h
  obtain ⟨A, cap, rfl, h1, h2, h3⟩ := h
  by_cases hp : 0 < zs.length
  · obtain ⟨b, off, rfl, h4, h5⟩ := h3 hp
    exact sOk_any w _ zs ⟨b, off, cap, rfl, h1, h2, h4, h5⟩
  · have e : zs = [] := List.length_eq_zero_iff.1 (by omega)
    subst e
    exact sOk_none w A cap
theorem world_eq (s : S) : worldOkV s = (okC s.cells && (decide (s.jobs.length = 4) && (todoOkV s.todo && (decide (0 ≤ s.serial ∧ s.serial ≤ 1000000) && (decide (0 ≤ s.now ∧ s.now ≤ 1000000000) && (List.range 4).all fun t => jobAtV t (s.jobs.getD t zeroJ)))))) := rfl
def JobsTo (l : List J) (n : Nat) : Prop := ∀ i, i < n → jobAtV i (l.getD i zeroJ) = true
theorem jobs_all {l : List J} (h : JobsTo l 4) : ((List.range 4).all fun t => jobAtV t (l.getD t zeroJ)) = true := by
  rw [List.all_eq_true]
  exact fun t ht => h t (List.mem_range.1 ht)
theorem jobs_no {l : List J} {t : Nat} (ht : t < 4) (h : jobAtV t (l.getD t zeroJ) = false) : ((List.range 4).all fun t => jobAtV t (l.getD t zeroJ)) = false := by
  rw [List.all_eq_false]
  exact ⟨t, List.mem_range.2 ht, by rw [h]; simp⟩
set_option maxRecDepth 100000 in
set_option maxHeartbeats 8000000 in
theorem sWorldOk_any (w : World) (s : S) (vc vj vt vl : Value) (h : WorIn w s vc vj vt vl) (hq : FitQ s.todo) (hk : ∀ j, j < s.jobs.length → (s.jobs.getD j zeroJ).op.key.size ≤ maxLen) : Calls Try.prog 32 #[.agg (worVals s vc vj vt vl)] w (Gives (.bool (worldOkV s)) w) := by
  have HCO := Lib.hid (fun W (hb : Below w.heap.size w W) => sOk_arg W vc s.cells (h.c.below hb))
  have HTO := Lib.hid (fun W (hb : Below w.heap.size w W) => sTodoOk_any W vt s.todo (h.t.below hb) hq)
  have HJS := Lib.hid (fun W r vk vr (h : jobIn W r vk vr) (hs : r.op.key.size ≤ maxLen) => sJobOk_any W r vk vr h hs)
  have HZS := Lib.hid (fun W r vk vr (h : jobIn W r vk vr) => sZero_any W r vk vr h)
  have HE := Lib.hid (world_eq s)
  have HJA := Lib.hid (jobs_all (l := s.jobs))
  have HJN := Lib.hid (fun t => jobs_no (l := s.jobs) (t := t))
  obtain ⟨_, ⟨A1, cap1, rfl, j1, j2, j3⟩, _, _⟩ := h
  unfold maxLen at j2
  obtain ⟨cells, jobs, todo, log, wserial, wnow⟩ := s
  unfold worVals
  simp only at *
  generalize worldOkV ⟨cells, jobs, todo, log, wserial, wnow⟩ = all at *
  have H3 := fun W => Lib.hid (l1In_any wserial 0 1000000 W)
  have H4 := fun W => Lib.hid (l1In_any wnow 0 1000000000 W)
  generalize okC cells = q0 at *
  generalize todoOkV todo = q2 at *
  generalize decide (0 ≤ wserial ∧ wserial ≤ 1000000) = q3 at *
  generalize decide (0 ≤ wnow ∧ wnow ≤ 1000000000) = q4 at *
  have b1 := nat_beq jobs.length 4
  have b1' : ((jobs.length : Int) != 4) = !decide (jobs.length = 4) := by rw [bne, ← b1]; rfl
  have HN4 := Lib.hid (fun (q : decide (jobs.length = 4) = true) => of_decide_eq_true q)
  generalize decide (jobs.length = 4) = q1 at *
  have HL := Lib.hid j3
  have HK := Lib.hid hk
  clear j3 hk hq
  generalize hn1 : jobs.length = n1 at *
  clear hn1
  generalize ((List.range 4).all fun t => jobAtV t (jobs.getD t zeroJ)) = qa at *
  go_enter Try.func32, Try.ntmps32
  go_wp2_with fail
  refine (HCO.out _ (below_one w (.cells #[vc, .slice A1 n1 cap1, vt, vl, .int .i64 wserial, .int .i64 wnow] 49))).mono ?_
  rintro er w1 ⟨rfl, rfl⟩
  have HB := Lib.hid (below_one w (.cells #[vc, .slice A1 n1 cap1, vt, vl, .int .i64 wserial, .int .i64 wnow] 49))
  have HG := Lib.hid (Blk.new w w.heap.size 49 #[vc, .slice A1 n1 cap1, vt, vl, .int .i64 wserial, .int .i64 wnow] rfl)
  cases q0 with
  | false =>
    go_wp2_with fail
    go_ret
    exact ⟨ret_bl (by rw [HE.out]; simp), HB.out⟩
  | true =>
    cases q1 with
    | false =>
      go_wp2_with fail
      go_ret
      exact ⟨ret_bl (by rw [HE.out]; simp), HB.out⟩
    | true =>
      obtain rfl := HN4.out rfl
      go_wp2_with fail
      refine (HTO.out _ HB.out).mono ?_
      rintro er w2 ⟨rfl, hb2⟩
      replace HG := Lib.hid (HG.out.below hb2)
      replace HB := Lib.hid (HB.out.trans (hb2.mono HB.out.size))
      clear hb2 HTO HCO
      have g0 : w2.cell? ⟨w.heap.size, 0, none⟩ = some (vc) := HG.out.get 0
      have g1 : w2.cell? ⟨w.heap.size, 1, none⟩ = some (.slice A1 4 cap1) := HG.out.get 1
      have g2 : w2.cell? ⟨w.heap.size, 2, none⟩ = some (vt) := HG.out.get 2
      have g3 : w2.cell? ⟨w.heap.size, 3, none⟩ = some (vl) := HG.out.get 3
      have g4 : w2.cell? ⟨w.heap.size, 4, none⟩ = some (.int .i64 wserial) := HG.out.get 4
      have g5 : w2.cell? ⟨w.heap.size, 5, none⟩ = some (.int .i64 wnow) := HG.out.get 5
      cases q2 with
      | false =>
        go_wp2_with fail
        go_ret
        exact ⟨ret_bl (by rw [HE.out]; simp), HB.out⟩
      | true =>
        go_wp2_with fail
        refine (H3 _).out.mono ?_
        rintro er w4 ⟨rfl, rfl⟩
        cases q3 with
        | false =>
          go_wp2_with fail
          go_ret
          exact ⟨ret_bl (by rw [HE.out]; simp), HB.out⟩
        | true =>
          go_wp2_with fail
          refine (H4 _).out.mono ?_
          rintro er w4 ⟨rfl, rfl⟩
          cases q4 with
          | false =>
            go_wp2_with fail
            go_ret
            exact ⟨ret_bl (by rw [HE.out]; simp), HB.out⟩
          | true =>
            go_wp2_with fail
            clear g0 g1 g2 g3 g4 g5
            go_loopw [3] (fun i wr => ∃ t : Nat, t ≤ 4 ∧ i = .int .i64 t ∧ JobsTo jobs t ∧ Blk wr w.heap.size 49 #[vc, .slice A1 4 cap1, vt, vl, .int .i64 wserial, .int .i64 wnow] ∧ Below w.heap.size w wr) (fun i _ => 4 - (intOf i).toNat)
            case atStart => exact ⟨0, Nat.zero_le _, rfl, fun j hj => absurd hj (Nat.not_lt_zero _), HG.out, HB.out⟩
            case round =>
              obtain ⟨t, ht, rfl, hto, hg, hb⟩ := hrel
              have HTO := Lib.hid hto
              clear HG HB hto
              by_cases hlt : t < 4
              · obtain ⟨b, off, rfl, hbb, hc⟩ := HL.out (by omega)
                obtain ⟨vk, vr, hr, hin⟩ := job_at ((hc t hlt).below hbb hb)
                have hks := HK.out t (by omega)
                have HNX := Lib.hid (fun (q : jobAtV t (jobs.getD t zeroJ) = true) => (show JobsTo jobs (t + 1) from fun i hi => by
                  by_cases e : i = t
                  · subst e; exact q
                  · exact HTO.out i (by omega)))
                have HJT := Lib.hid (show jobAtV t (jobs.getD t zeroJ) = if (jobs.getD t zeroJ).busy = true then jobOkV (jobs.getD t zeroJ) && (decide ((jobs.getD t zeroJ).op.kind = 3) == decide (t = 3)) else zeroJobV (jobs.getD t zeroJ) from rfl)
                have hin2 := hin
                obtain ⟨⟨A2, cap2, rfl, _⟩, A3, cap3, rfl, _⟩ := hin2
                have HJ1 := Lib.hid (fun W (hb' : Below wr.heap.size wr W) => HJS.out W (jobs.getD t zeroJ) _ _ (jobIn_below hin hb') hks)
                have HZ1 := Lib.hid (fun W (hb' : Below wr.heap.size wr W) => HZS.out W (jobs.getD t zeroJ) _ _ (jobIn_below hin hb'))
                have HR := Lib.hid hr
                have HG := Lib.hid hg
                have HB := Lib.hid hb
                have HJN1 := Lib.hid (fun (q : jobAtV t (jobs.getD t zeroJ) = false) => HJN.out t hlt q)
                clear hr hc hks hin hg hb HJS HZS HJN
                generalize jobAtV t (jobs.getD t zeroJ) = ja at *
                generalize jobOkV (jobs.getD t zeroJ) = jo at *
                generalize zeroJobV (jobs.getD t zeroJ) = jz at *
                generalize jobs.getD t zeroJ = r at *
                obtain ⟨busy, ⟨okind, okey, owhat, oval⟩, serial, pc, k, slot, what, e, stamp, old, flips, steps, code, keys, raw⟩ := r
                unfold jobVals at HR HJ1 HZ1
                simp only at HR HJ1 HZ1 HJT
                have b3 := int_beq2 okind 3
                have b4 := int_beq2 (t : Int) 3
                rw [show decide ((t : Int) = 3) = decide (t = 3) by congr 1; simp only [eq_iff_iff]; omega] at b4
                generalize decide (okind = 3) = k3 at *
                generalize decide (t = 3) = t3 at *
                generalize keys.length = m2 at *
                generalize raw.length = m3 at *
                have hltz : (t : Int) < 4 := by omega
                have hul := Try.underlying42
                have g0 : wr.cell? ⟨w.heap.size, 0, none⟩ = some (vc) := HG.out.get 0
                have g1 : wr.cell? ⟨w.heap.size, 1, none⟩ = some (.slice (some ⟨b, off, none⟩) 4 cap1) := HG.out.get 1
                have g2 : wr.cell? ⟨w.heap.size, 2, none⟩ = some (vt) := HG.out.get 2
                have g3 : wr.cell? ⟨w.heap.size, 3, none⟩ = some (vl) := HG.out.get 3
                have g4 : wr.cell? ⟨w.heap.size, 4, none⟩ = some (.int .i64 wserial) := HG.out.get 4
                have g5 : wr.cell? ⟨w.heap.size, 5, none⟩ = some (.int .i64 wnow) := HG.out.get 5
                go_upto_region 7 with ((with_reducible show wpList _ _ _ _ _ _); first | refine wpList_load_mid rfl 42 _ rfl b (off + t * 18) rfl (#[.bool busy, .int .i64 okind, .string okey, .int .i64 owhat, .int .i64 oval, .int .i64 serial, .int .i64 pc, .int .i64 k, .int .i64 slot, .int .i64 what, .int .i64 e, .int .i64 stamp, .int .i64 old, .int .i64 flips, .int .i64 steps, .int .i64 code, .slice A2 m2 cap2, .slice A3 m3 cap3] : Array Value).toList _ HR.out hul rfl (by kernel_rfl) ?_ | refine wpList_store_row rfl 42 _ _ rfl wr.heap.size #[.bool busy, .int .i64 okind, .string okey, .int .i64 owhat, .int .i64 oval, .int .i64 serial, .int .i64 pc, .int .i64 k, .int .i64 slot, .int .i64 what, .int .i64 e, .int .i64 stamp, .int .i64 old, .int .i64 flips, .int .i64 steps, .int .i64 code, .slice A2 m2 cap2, .slice A3 m3 cap3] rfl rfl 42 _ (Blk.new wr wr.heap.size 42 #[.bool false, .int .i64 0, .string ⟨#[]⟩, .int .i64 0, .int .i64 0, .int .i64 0, .int .i64 0, .int .i64 0, .int .i64 0, .int .i64 0, .int .i64 0, .int .i64 0, .int .i64 0, .int .i64 0, .int .i64 0, .int .i64 0, .slice none 0 0, .slice none 0 0] rfl) (by kernel_rfl) rfl (by simp [Value.oneCell']) ?_)
                refine wp_gen (fun X => Blk X wr.heap.size 42 #[.bool busy, .int .i64 okind, .string okey, .int .i64 owhat, .int .i64 oval, .int .i64 serial, .int .i64 pc, .int .i64 k, .int .i64 slot, .int .i64 what, .int .i64 e, .int .i64 stamp, .int .i64 old, .int .i64 flips, .int .i64 steps, .int .i64 code, .slice A2 m2 cap2, .slice A3 m3 cap3] ∧ Below wr.heap.size wr X) ⟨setRow_heap _ _ _ _ _ _ (Blk.new wr wr.heap.size 42 #[.bool false, .int .i64 0, .string ⟨#[]⟩, .int .i64 0, .int .i64 0, .int .i64 0, .int .i64 0, .int .i64 0, .int .i64 0, .int .i64 0, .int .i64 0, .int .i64 0, .int .i64 0, .int .i64 0, .int .i64 0, .int .i64 0, .slice none 0 0, .slice none 0 0] rfl), below_setRow' (below_one wr _) (Nat.le_refl _) _⟩ ?_
                rintro X ⟨hx, hbx⟩
                have HX := Lib.hid hx
                have HBX := Lib.hid hbx
                have HG2 := Lib.hid (HG.out.below hbx)
                have HB2 := Lib.hid (HB.out.trans (hbx.mono HB.out.size))
                clear hx hbx g0 g1 g2 g3 g4 g5 HR HG HB
                cases busy with
                | false =>
                  have x0 : X.cell? ⟨wr.heap.size, 0, none⟩ = some (.bool false) := HX.out.get 0
                  have x1 : X.cell? ⟨wr.heap.size, 1, none⟩ = some (.int .i64 okind) := HX.out.get 1
                  go_wp2_with ((with_reducible show wpList _ _ _ _ _ _); refine wpList_load_rowG 42 _ rfl wr.heap.size rfl 42 #[.bool false, .int .i64 okind, .string okey, .int .i64 owhat, .int .i64 oval, .int .i64 serial, .int .i64 pc, .int .i64 k, .int .i64 slot, .int .i64 what, .int .i64 e, .int .i64 stamp, .int .i64 old, .int .i64 flips, .int .i64 steps, .int .i64 code, .slice A2 m2 cap2, .slice A3 m3 cap3] (0, 0) _ HX.out hul rfl (by kernel_rfl) rfl ?_)
                  refine (HZ1.out _ HBX.out).mono ?_
                  rintro er w3 ⟨rfl, hb3⟩
                  clear x0 x1
                  replace HX := Lib.hid (HX.out.below hb3)
                  replace HG2 := Lib.hid (HG2.out.below hb3)
                  replace HB2 := Lib.hid (HB2.out.trans (hb3.mono HB2.out.size))
                  clear hb3
                  have x0 : w3.cell? ⟨wr.heap.size, 0, none⟩ = some (.bool false) := HX.out.get 0
                  have x1 : w3.cell? ⟨wr.heap.size, 1, none⟩ = some (.int .i64 okind) := HX.out.get 1
                  cases jz with
                  | false =>
                    have HE2 := Lib.hid (HJN1.out (by rw [HJT.out]; rfl))
                    clear HNX HJN1 HJT
                    go_wp2_with fail
                    go_ret
                    exact ⟨ret_bl (by rw [HE.out, HE2.out]; simp), HB2.out⟩
                  | true =>
                    have HN2 := Lib.hid (HNX.out (by rw [HJT.out]; rfl))
                    clear HNX HJN1 HJT
                    go_wp2_with fail
                    go_roundw
                    case rel => exact ⟨t + 1, by omega, by go_num, HN2.out, HG2.out, HB2.out⟩
                    case measure => simp [intOf]; omega
                | true =>
                  have x0 : X.cell? ⟨wr.heap.size, 0, none⟩ = some (.bool true) := HX.out.get 0
                  have x1 : X.cell? ⟨wr.heap.size, 1, none⟩ = some (.int .i64 okind) := HX.out.get 1
                  go_wp2_with ((with_reducible show wpList _ _ _ _ _ _); refine wpList_load_rowG 42 _ rfl wr.heap.size rfl 42 #[.bool true, .int .i64 okind, .string okey, .int .i64 owhat, .int .i64 oval, .int .i64 serial, .int .i64 pc, .int .i64 k, .int .i64 slot, .int .i64 what, .int .i64 e, .int .i64 stamp, .int .i64 old, .int .i64 flips, .int .i64 steps, .int .i64 code, .slice A2 m2 cap2, .slice A3 m3 cap3] (0, 0) _ HX.out hul rfl (by kernel_rfl) rfl ?_)
                  refine (HJ1.out _ HBX.out).mono ?_
                  rintro er w3 ⟨rfl, hb3⟩
                  clear x0 x1
                  replace HX := Lib.hid (HX.out.below hb3)
                  replace HG2 := Lib.hid (HG2.out.below hb3)
                  replace HB2 := Lib.hid (HB2.out.trans (hb3.mono HB2.out.size))
                  clear hb3
                  have x0 : w3.cell? ⟨wr.heap.size, 0, none⟩ = some (.bool true) := HX.out.get 0
                  have x1 : w3.cell? ⟨wr.heap.size, 1, none⟩ = some (.int .i64 okind) := HX.out.get 1
                  cases jo with
                  | false =>
                    have HE2 := Lib.hid (HJN1.out (by rw [HJT.out]; rfl))
                    clear HNX HJN1 HJT
                    go_wp2_with fail
                    go_ret
                    exact ⟨ret_bl (by rw [HE.out, HE2.out]; simp), HB2.out⟩
                  | true =>
                    cases k3 with
                    | false =>
                      cases t3 with
                      | false =>
                        have HN2 := Lib.hid (HNX.out (by rw [HJT.out]; rfl))
                        clear HNX HJN1 HJT
                        go_wp2_with fail
                        go_roundw
                        case rel => exact ⟨t + 1, by omega, by go_num, HN2.out, HG2.out, HB2.out⟩
                        case measure => simp [intOf]; omega
                      | true =>
                        have HE2 := Lib.hid (HJN1.out (by rw [HJT.out]; rfl))
                        clear HNX HJN1 HJT
                        go_wp2_with fail
                        go_ret
                        exact ⟨ret_bl (by rw [HE.out, HE2.out]; simp), HB2.out⟩
                    | true =>
                      cases t3 with
                      | false =>
                        have HE2 := Lib.hid (HJN1.out (by rw [HJT.out]; rfl))
                        clear HNX HJN1 HJT
                        go_wp2_with fail
                        go_ret
                        exact ⟨ret_bl (by rw [HE.out, HE2.out]; simp), HB2.out⟩
                      | true =>
                        have HN2 := Lib.hid (HNX.out (by rw [HJT.out]; rfl))
                        clear HNX HJN1 HJT
                        go_wp2_with fail
                        go_roundw
                        case rel => exact ⟨t + 1, by omega, by go_num, HN2.out, HG2.out, HB2.out⟩
                        case measure => simp [intOf]; omega
              · obtain rfl : t = 4 := by omega
                have HE2 := Lib.hid (HJA.out HTO.out)
                have HB := Lib.hid hb
                have hltz : ¬ ((4 : Nat) : Int) < 4 := by omega
                clear hg hb
                go_wp2_with fail
                go_ret
                exact ⟨ret_bl (by rw [HE.out, HE2.out]; simp), HB.out⟩
end Go.Proofs.Ytfemdhknnfmpcaa
