/-
  Chapter 10, the program's Idle: is there nothing left to do? It turns nothing that was there.
-/
import Derived.Test.YtfemdhknnfmpcaaIdleS
import Derived.Test.YtfemdhknnfmpcaaJobS
import Derived.Test.YtfemdhknnfmpcaaOpen
namespace Go.Proofs.Ytfemdhknnfmpcaa
open Go.RowKit M
set_option linter.unusedVariables false
set_option linter.unusedSimpArgs false
theorem job_one (w : World) (r : J) (vk vr : Value) (h : jobIn w r vk vr) : Array.all (jobVals r vk vr) (·.oneCell') = true := by
  obtain ⟨⟨A1, c1, rfl, _⟩, A2, c2, rfl, _⟩ := h
  simp [jobVals, Value.oneCell']
set_option maxRecDepth 100000 in
set_option maxHeartbeats 4000000 in
theorem iIdle_any (w : World) (s : S) (vc vj vt vl : Value) (h : WorIn w s vc vj vt vl) (hf : s.Fit) : Calls Try.prog 36 #[.agg (worVals s vc vj vt vl)] w (Gives (.bool (idleV s)) w) := by
  clear hf
  have HJ := Lib.hid (fun j => idle_job (s := s) (j := j))
  have HT := Lib.hid (fun j => idle_todo (s := s) (j := j))
  have HA := Lib.hid (idle_all (s := s))
  obtain ⟨_, ⟨A1, cap1, rfl, j1, j2, j3⟩, ⟨A2, cap2, rfl, t1, t2, t3⟩, _⟩ := h
  unfold maxLen at j2 t2
  obtain ⟨cells, jobs, todo, log, serial, now⟩ := s
  unfold worVals
  simp only at *
  generalize hn1 : jobs.length = n1 at *
  generalize hn2 : todo.length = n2 at *
  have H1 := Lib.hid j3
  have H2 := Lib.hid t3
  clear j3 t3 hn1 hn2
  generalize idleV ⟨cells, jobs, todo, log, serial, now⟩ = all at *
  have hul := Try.underlying42
  go_enter Try.func36, Try.ntmps36
  go_wp2_with fail
  go_loopw [10] (fun i wr => ∃ j : Nat, j ≤ n1 ∧ i = .int .i64 j ∧ RestTo jobs j ∧ Blk wr w.heap.size 49 #[vc, .slice A1 n1 cap1, .slice A2 n2 cap2, vl, .int .i64 serial, .int .i64 now] ∧ Below w.heap.size w wr) (fun i _ => n1 - (intOf i).toNat)
  case atStart => exact ⟨0, Nat.zero_le _, rfl, fun j hj => absurd hj (Nat.not_lt_zero _), Blk.new w w.heap.size _ _ rfl, below_one' _ _⟩
  case round =>
    obtain ⟨j, hj, rfl, hto, hg, hb⟩ := hrel
    have HTO := Lib.hid hto
    clear hto
    by_cases hlt : j < n1
    · obtain ⟨b, off, rfl, hbb, hc⟩ := H1.out (by omega)
      obtain ⟨vk, vr, hr, hin⟩ := job_at ((hc j hlt).below hbb hb)
      have hoc := job_one wr _ vk vr hin
      have hltz : (j : Int) < (n1 : Int) := by omega
      have HJ2 := Lib.hid (HJ.out j hlt)
      have HX := Lib.hid (fun (q : (jobs.getD j zeroJ).busy = false) => (show RestTo jobs (j + 1) from fun i hi => by
        by_cases e : i = j
        · subst e; exact q
        · exact HTO.out i (by omega)))
      have HR := Lib.hid hr
      have HG := Lib.hid hg
      have HB := Lib.hid hb
      clear hc hr hin hg hb HJ
      generalize jobs.getD j zeroJ = r at *
      go_upto_region 4 with ((with_reducible show wpList _ _ _ _ _ _); first | refine wpList_load_mid rfl 42 _ rfl b (off + j * 18) rfl ((jobVals r vk vr) : Array Value).toList _ HR.out hul rfl (by kernel_rfl) ?_ | refine wpList_store_row rfl 42 _ _ rfl wr.heap.size (jobVals r vk vr) rfl rfl 42 _ (Blk.new wr wr.heap.size 42 #[.bool false, .int .i64 0, .string ⟨#[]⟩, .int .i64 0, .int .i64 0, .int .i64 0, .int .i64 0, .int .i64 0, .int .i64 0, .int .i64 0, .int .i64 0, .int .i64 0, .int .i64 0, .int .i64 0, .int .i64 0, .int .i64 0, .slice none 0 0, .slice none 0 0] rfl) (by kernel_rfl) rfl hoc ?_)
      refine wp_gen (fun X => Blk X wr.heap.size 42 (jobVals r vk vr) ∧ Below wr.heap.size wr X) ⟨setRow_heap _ _ _ _ _ _ (Blk.new wr wr.heap.size 42 #[.bool false, .int .i64 0, .string ⟨#[]⟩, .int .i64 0, .int .i64 0, .int .i64 0, .int .i64 0, .int .i64 0, .int .i64 0, .int .i64 0, .int .i64 0, .int .i64 0, .int .i64 0, .int .i64 0, .int .i64 0, .int .i64 0, .slice none 0 0, .slice none 0 0] rfl), below_setRow' (below_one' wr _) (Nat.le_refl _) _⟩ ?_
      rintro X ⟨hx, hbx⟩
      have c0 : X.cell? ⟨wr.heap.size, 0, none⟩ = some (.bool r.busy) := hx.get 0
      replace HG := Lib.hid (HG.out.below hbx)
      replace HB := Lib.hid (HB.out.trans (hbx.mono HB.out.size))
      clear hx hbx HR hoc
      generalize r.busy = q at *
      cases q with
      | true =>
        have HE := Lib.hid (HJ2.out rfl)
        clear HJ2 HX
        go_wp2_with fail
        go_ret
        exact ⟨by rw [HE.out]; rfl, HB.out⟩
      | false =>
        have HX2 := Lib.hid (HX.out rfl)
        clear HJ2 HX
        go_wp2_with fail
        go_roundw
        case rel => exact ⟨j + 1, by omega, by go_num, HX2.out, HG.out, HB.out⟩
        case measure => simp [intOf]; omega
    · obtain rfl : j = n1 := by omega
      have hltz : ¬ (j : Int) < (j : Int) := by omega
      have g2 : wr.cell? ⟨w.heap.size, 2, none⟩ = some (.slice A2 n2 cap2) := hg.get 2
      have HB := Lib.hid hb
      clear hg hb
      go_wp2_with fail
      obtain ⟨wo, rfl⟩ : ∃ wo : World, wo = wr := ⟨_, rfl⟩
      go_loopw [20] (fun i wr => ∃ k : Nat, k ≤ n2 ∧ i = .int .i64 k ∧ DoneTo todo k ∧ Below w.heap.size w wr) (fun i _ => n2 - (intOf i).toNat)
      case atStart => exact ⟨0, Nat.zero_le _, rfl, fun j hj => absurd hj (Nat.not_lt_zero _), HB.out⟩
      case round =>
        obtain ⟨k, hk, rfl, hdn, hbl⟩ := hrel
        have HDN := Lib.hid hdn
        clear hdn
        by_cases hkt : k < n2
        · obtain ⟨b, off, rfl, hb, hc⟩ := H2.out (by omega)
          obtain ⟨u, hu, A3, cap3, rfl, r1, r2, r3⟩ := hc k hkt
          have c1 := (hbl.cell (p := ⟨b, off + k, none⟩) hb).trans hu
          have hkz : (k : Int) < (n2 : Int) := by omega
          have HT2 := Lib.hid (HT.out k hkt)
          have HX := Lib.hid (fun (q : (todo.getD k []).length = 0) => (show DoneTo todo (k + 1) from fun i hi => by
            by_cases e : i = k
            · subst e; exact q
            · exact HDN.out i (by omega)))
          have HB2 := Lib.hid (fun o => hbl.alloc hbl.size o)
          clear hc hu r1 r2 r3 HT hbl
          generalize (todo.getD k []).length = m at *
          by_cases hm : m = 0
          · have HX2 := Lib.hid (HX.out hm)
            subst hm
            clear HT2 HX
            go_wp2_with fail
            go_roundw
            case rel => exact ⟨k + 1, by omega, by go_num, HX2.out, HB2.out _⟩
            case measure => simp [intOf]; omega
          · have HE := Lib.hid (HT2.out hm)
            have hmz : (0 : Int) < (m : Int) := by omega
            clear HT2 HX
            go_wp2_with fail
            go_ret
            exact ⟨by rw [HE.out]; rfl, HB2.out _⟩
        · obtain rfl : k = n2 := by omega
          have HE := Lib.hid (HA.out HTO.out HDN.out)
          have hkz : ¬ (k : Int) < (k : Int) := by omega
          have HB2 := Lib.hid hbl
          clear hbl
          go_wp2_with fail
          go_ret
          exact ⟨by rw [HE.out]; rfl, HB2.out⟩
end Go.Proofs.Ytfemdhknnfmpcaa
