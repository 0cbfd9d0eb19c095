/-
  Chapter 10, the model's Idle: is there nothing left to do? It turns nothing that was there.
-/
import Derived.Test.YtfemdhknnfmpcaaWorC
namespace Go.Proofs.Ytfemdhknnfmpcaa
open Go.RowKit M
set_option linter.unusedVariables false
set_option linter.unusedSimpArgs false
theorem below_one' (w : World) (o : Obj) : Below w.heap.size w (w.alloc o) := (Below.refl _ _).alloc (Nat.le_refl _) o
theorem idle_job {s : S} {j : Nat} (hj : j < s.jobs.length) (h : (s.jobs.getD j zeroJ).busy = true) : idleV s = false := by
  unfold idleV
  have : s.jobs.all (fun j => !j.busy) = false := by
    rw [List.all_eq_false]
    refine ⟨s.jobs[j], List.getElem_mem hj, ?_⟩
    rw [List.getD_eq_getElem?_getD, List.getElem?_eq_getElem hj, Option.getD_some] at h
    rw [h]; simp
  rw [this, Bool.false_and]
theorem idle_todo {s : S} {j : Nat} (hj : j < s.todo.length) (h : (s.todo.getD j []).length ≠ 0) : idleV s = false := by
  unfold idleV
  have : s.todo.all (fun q => decide (q.length = 0)) = false := by
    rw [List.all_eq_false]
    refine ⟨s.todo[j], List.getElem_mem hj, ?_⟩
    rw [List.getD_eq_getElem?_getD, List.getElem?_eq_getElem hj, Option.getD_some] at h
    rw [decide_eq_false h]; simp
  rw [this, Bool.and_false]
def RestTo (l : List J) (n : Nat) : Prop := ∀ i, i < n → (l.getD i zeroJ).busy = false
def DoneTo (l : List (List O)) (n : Nat) : Prop := ∀ i, i < n → (l.getD i []).length = 0
theorem idle_all {s : S} (h1 : RestTo s.jobs s.jobs.length) (h2 : DoneTo s.todo s.todo.length) : idleV s = true := by
  unfold idleV
  rw [Bool.and_eq_true, List.all_eq_true, List.all_eq_true]
  refine ⟨fun x hx => ?_, fun x hx => ?_⟩
  · obtain ⟨i, hi, rfl⟩ := List.getElem_of_mem hx
    have := h1 i hi
    rw [List.getD_eq_getElem?_getD, List.getElem?_eq_getElem hi, Option.getD_some] at this
    rw [this]; rfl
  · obtain ⟨i, hi, rfl⟩ := List.getElem_of_mem hx
    have := h2 i hi
    rw [List.getD_eq_getElem?_getD, List.getElem?_eq_getElem hi, Option.getD_some] at this
    rw [decide_eq_true this]
set_option maxRecDepth 100000 in
set_option maxHeartbeats 2000000 in
theorem sIdle_any (w : World) (s : S) (vc vj vt vl : Value) (h : WorIn w s vc vj vt vl) : Calls Try.prog 35 #[.agg (worVals s vc vj vt vl)] w (Gives (.bool (idleV s)) w) := by
  have HJ := Lib.hid (fun j => idle_job (s := s) (j := j))
  have HT := Lib.hid (fun j => idle_todo (s := s) (j := j))
  have HA := Lib.hid (idle_all (s := s))
  obtain ⟨_, ⟨A1, cap1, rfl, j1, j2, j3⟩, ⟨A2, cap2, rfl, t1, t2, t3⟩, _⟩ := h
  unfold maxLen at j2 t2
  obtain ⟨cells, jobs, todo, log, serial, now⟩ := s
  unfold worVals
  simp only at *
  generalize hn1 : jobs.length = n1 at *
  generalize hn2 : todo.length = n2 at *
  have H1 := Lib.hid j3
  have H2 := Lib.hid t3
  clear j3 t3 hn1 hn2
  generalize idleV ⟨cells, jobs, todo, log, serial, now⟩ = all at *
  go_enter Try.func35, Try.ntmps35
  go_wp2_with fail
  go_loopw [3] (fun i wr => ∃ j : Nat, j ≤ n1 ∧ i = .int .i64 j ∧ RestTo jobs j ∧ wr = w.alloc (.cells #[vc, .slice A1 n1 cap1, .slice A2 n2 cap2, vl, .int .i64 serial, .int .i64 now] 49)) (fun i _ => n1 - (intOf i).toNat)
  case atStart => exact ⟨0, Nat.zero_le _, rfl, fun j hj => absurd hj (Nat.not_lt_zero _), rfl⟩
  case round =>
    obtain ⟨j, hj, rfl, hto, rfl⟩ := hrel
    have HTO := Lib.hid hto
    clear hto
    by_cases hlt : j < n1
    · obtain ⟨b, off, rfl, hb, hc⟩ := H1.out (by omega)
      obtain ⟨u, hu, hv⟩ := hc j hlt 0 _ rfl
      have hu2 : u = .bool (jobs.getD j zeroJ).busy := hv
      subst hu2
      have c1 : (w.alloc (.cells #[vc, .slice (some ⟨b, off, none⟩) n1 cap1, .slice A2 n2 cap2, vl, .int .i64 serial, .int .i64 now] 49)).cell? ⟨b, off + j * 18, none⟩ = some (.bool (jobs.getD j zeroJ).busy) := ((below_one' w _).cell (p := ⟨b, off + j * 18, none⟩) hb).trans hu
      have hltz : (j : Int) < (n1 : Int) := by omega
      have HJ2 := Lib.hid (HJ.out j hlt)
      have HX := Lib.hid (fun (q : (jobs.getD j zeroJ).busy = false) => (show RestTo jobs (j + 1) from fun i hi => by
        by_cases e : i = j
        · subst e; exact q
        · exact HTO.out i (by omega)))
      clear hc hu hv HJ
      generalize (jobs.getD j zeroJ).busy = q at *
      cases q with
      | true =>
        have HE := Lib.hid (HJ2.out rfl)
        clear HJ2 HX
        go_wp2_with fail
        go_ret
        exact ⟨by rw [HE.out]; rfl, below_one' _ _⟩
      | false =>
        have HX2 := Lib.hid (HX.out rfl)
        clear HJ2 HX
        go_wp2_with fail
        go_roundw
        case rel => exact ⟨j + 1, by omega, by go_num, HX2.out, by trivial⟩
        case measure => simp [intOf]; omega
    · obtain rfl : j = n1 := by omega
      have hltz : ¬ (j : Int) < (j : Int) := by omega
      go_wp2_with fail
      go_loopw [4] (fun i wr => ∃ k : Nat, k ≤ n2 ∧ i = .int .i64 k ∧ DoneTo todo k ∧ wr = w.alloc (.cells #[vc, .slice A1 j cap1, .slice A2 n2 cap2, vl, .int .i64 serial, .int .i64 now] 49)) (fun i _ => n2 - (intOf i).toNat)
      case atStart => exact ⟨0, Nat.zero_le _, rfl, fun j hj => absurd hj (Nat.not_lt_zero _), rfl⟩
      case round =>
        obtain ⟨k, hk, rfl, hdn, rfl⟩ := hrel
        have HDN := Lib.hid hdn
        clear hdn
        by_cases hkt : k < n2
        · obtain ⟨b, off, rfl, hb, hc⟩ := H2.out (by omega)
          obtain ⟨u, hu, A3, cap3, rfl, r1, r2, r3⟩ := hc k hkt
          have c1 : (w.alloc (.cells #[vc, .slice A1 j cap1, .slice (some ⟨b, off, none⟩) n2 cap2, vl, .int .i64 serial, .int .i64 now] 49)).cell? ⟨b, off + k, none⟩ = some (.slice A3 (todo.getD k []).length cap3) := ((below_one' w _).cell (p := ⟨b, off + k, none⟩) hb).trans hu
          have hkz : (k : Int) < (n2 : Int) := by omega
          have HT2 := Lib.hid (HT.out k hkt)
          have HX := Lib.hid (fun (q : (todo.getD k []).length = 0) => (show DoneTo todo (k + 1) from fun i hi => by
            by_cases e : i = k
            · subst e; exact q
            · exact HDN.out i (by omega)))
          clear hc hu r1 r2 r3 HT
          generalize (todo.getD k []).length = m at *
          by_cases hm : m = 0
          · have HX2 := Lib.hid (HX.out hm)
            subst hm
            clear HT2 HX
            go_wp2_with fail
            go_roundw
            case rel => exact ⟨k + 1, by omega, by go_num, HX2.out, by trivial⟩
            case measure => simp [intOf]; omega
          · have HE := Lib.hid (HT2.out hm)
            have hmz : (0 : Int) < (m : Int) := by omega
            clear HT2 HX
            go_wp2_with fail
            go_ret
            exact ⟨by rw [HE.out]; rfl, below_one' _ _⟩
        · obtain rfl : k = n2 := by omega
          have HE := Lib.hid (HA.out HTO.out HDN.out)
          have hkz : ¬ (k : Int) < (k : Int) := by omega
          go_wp2_with fail
          go_ret
          exact ⟨by rw [HE.out]; rfl, below_one' _ _⟩
end Go.Proofs.Ytfemdhknnfmpcaa
