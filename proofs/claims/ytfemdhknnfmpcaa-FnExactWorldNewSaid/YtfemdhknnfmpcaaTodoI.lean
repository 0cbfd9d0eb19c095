/-
  Chapter 10, the program's TodoOk: may these queues be worked off? It turns nothing that was there.
-/
import Derived.Test.YtfemdhknnfmpcaaOpI
namespace Go.Proofs.Ytfemdhknnfmpcaa
open Go.RowKit M
set_option linter.unusedVariables false
set_option linter.unusedSimpArgs false
set_option maxRecDepth 100000 in
set_option maxHeartbeats 4000000 in
theorem iQueueOk_any (w : World) (v : Value) (q : List O) (t : Nat) (h : RecsArg 4 opCells zeroO w v q) (hf : FitOs q) : Calls Try.prog 49 #[.agg #[v], .int .i64 t] w (Gives (.bool (queueOkV t q)) w) := by
  obtain ⟨A, cap, rfl, h1, h2, h3⟩ := h
  unfold maxLen at h2
  have HFQ := Lib.hid (show ∀ i, i < q.length → (q.getD i zeroO).Fit from hf)
  have HQN := Lib.hid (fun k => queue_no (t := t) (q := q) (k := k))
  have HQA := Lib.hid (queue_all (t := t) (q := q))
  have HQL := Lib.hid (queue_long (t := t) (q := q))
  have H4 := Lib.hid h3
  clear h3 hf
  generalize hm : q.length = m at *
  clear hm
  by_cases hm10 : 10 < m
  · have HE := Lib.hid (HQL.out hm10)
    have hd : (10 : Int) < (m : Int) := by omega
    clear HQL HQA HQN HFQ
    go_enter Try.func49, Try.ntmps49
    go_wp2_with fail
    go_ret
    exact ⟨ret_bl HE.out.symm, below_one _ _⟩
  · have hd : ¬ (10 : Int) < (m : Int) := by omega
    clear HQL
    go_enter Try.func49, Try.ntmps49
    go_wp2_with fail
    go_loopw [14] (fun i wr => ∃ k : Nat, k ≤ m ∧ i = .int .i64 k ∧ QueueTo t q k ∧ Below w.heap.size w wr) (fun i _ => m - (intOf i).toNat)
    case atStart => exact ⟨0, Nat.zero_le _, rfl, fun j hj => absurd hj (Nat.not_lt_zero _), below_one _ _⟩
    case round =>
      obtain ⟨k, hk, rfl, hqt, hbl⟩ := hrel
      have HQT := Lib.hid hqt
      clear hqt
      by_cases hkm : k < m
      · obtain ⟨b2, off2, rfl, hb2, hc2⟩ := H4.out (by omega)
        obtain ⟨c20, c21, c22, c23⟩ := atOp ((hc2 k hkm).below hb2 hbl)
        have HOP := fun W => Lib.hid (iOpOk_any W (q.getD k zeroO) (HFQ.out k hkm))
        have HMY := fun W => Lib.hid (iMayRun_any (t : Int) (q.getD k zeroO).kind W)
        have HIY := Lib.hid (fun (h : opOkV (q.getD k zeroO) = true) => opIn_ok (t := t) h)
        have HIN := Lib.hid (fun (h : opInV t (q.getD k zeroO) = false) => HQN.out k hkm h)
        have HIO := Lib.hid (fun (h : opOkV (q.getD k zeroO) = false) => opIn_no (t := t) h)
        have HQX := Lib.hid (fun (h : opInV t (q.getD k zeroO) = true) => (show QueueTo t q (k + 1) from fun i hi => by
          by_cases e : i = k
          · subst e; exact h
          · exact HQT.out i (by omega)))
        have hkz : (k : Int) < (m : Int) := by omega
        have HB := Lib.hid hbl
        clear hc2 hbl HQN HQA HFQ
        generalize q.getD k zeroO = o at *
        obtain ⟨kind, key, what, val⟩ := o
        unfold O.v at HOP
        simp only at *
        rw [show decide ((t : Int) = 3) = decide (t = 3) by congr 1; simp only [eq_iff_iff]; omega] at HMY
        generalize (decide (kind = 3) == decide (t = 3)) = my at *
        cases hok : opOkV ⟨kind, key, what, val⟩ with
        | false =>
          rw [hok] at HOP
          have HE := Lib.hid (HIN.out (HIO.out hok))
          clear hok HIY HIN HIO HQX HMY
          go_wp2_with fail
          refine (HOP _).out.mono ?_
          rintro e w2 ⟨rfl, hb5⟩
          have HB2 := Lib.hid (HB.out.trans (((Below.refl _ _).alloc (Nat.le_refl _) (.cells #[.int .i64 kind, .string key, .int .i64 what, .int .i64 val] 26)).trans (hb5.mono (by simp [go_sem])) |>.mono HB.out.size))
          clear hb5 HB
          go_wp2_with fail
          go_ret
          exact ⟨ret_bl HE.out.symm, HB2.out⟩
        | true =>
          rw [hok] at HOP
          have hoi := HIY.out hok
          clear hok HIY HIO
          go_wp2_with fail
          refine (HOP _).out.mono ?_
          rintro e w2 ⟨rfl, hb5⟩
          have y0 : w2.cell? ⟨wr.heap.size, 0, none⟩ = some (.int .i64 kind) := (hb5.cell (p := ⟨wr.heap.size, 0, none⟩) (by simp [go_sem])).trans (by simp [go_sem])
          have HB2 := Lib.hid (HB.out.trans (((Below.refl _ _).alloc (Nat.le_refl _) (.cells #[.int .i64 kind, .string key, .int .i64 what, .int .i64 val] 26)).trans (hb5.mono (by simp [go_sem])) |>.mono HB.out.size))
          clear hb5 HB
          cases my with
          | true =>
            have HX := Lib.hid (HQX.out hoi)
            clear hoi HQX HIN
            go_wp2_with (go_at_call 95; refine (HMY _).out.mono ?_; rintro e w' ⟨rfl, rfl⟩)
            go_roundw
            case rel => exact ⟨k + 1, by omega, by go_num, HX.out, HB2.out⟩
            case measure => simp [intOf]; omega
          | false =>
            have HE := Lib.hid (HIN.out hoi)
            clear hoi HQX HIN
            go_wp2_with (go_at_call 95; refine (HMY _).out.mono ?_; rintro e w' ⟨rfl, rfl⟩)
            go_ret
            exact ⟨ret_bl HE.out.symm, HB2.out⟩
      · have hkm2 : k = m := by omega
        subst hkm2
        have HX := Lib.hid (HQA.out (by omega) HQT.out)
        have HB := Lib.hid hbl
        have hkz : ¬ (k : Int) < (k : Int) := by omega
        clear hbl
        go_wp2_with fail
        go_ret
        exact ⟨ret_bl HX.out.symm, HB.out⟩
set_option maxRecDepth 100000 in
set_option maxHeartbeats 4000000 in
theorem iTodoOk_any (w : World) (v : Value) (ls : List (List O)) (h : ArgQ w v ls) (hf : FitQ ls) : Calls Try.prog 18 #[v] w (Gives (.bool (todoOkV ls)) w) := by
  obtain ⟨A, cap, rfl, h1, h2, h3⟩ := h
  unfold maxLen at h2
  have HNO := Lib.hid (fun t => todo_no (ls := ls) (t := t))
  have HALL := Lib.hid (todo_all (ls := ls))
  have HLEN := Lib.hid (fun h => todo_len (ls := ls) h)
  have HF := Lib.hid (show ∀ i, i < ls.length → FitOs (ls.getD i []) from hf)
  have H3 := Lib.hid h3
  clear hf h3
  generalize hn : ls.length = n at *
  clear hn
  by_cases hn4 : n = 4
  · have t4 : ((n : Int) != 4) = false := by rw [bne_eq_false_iff_eq]; omega
    have HN4 := Lib.hid hn4
    clear hn4 HLEN
    go_enter Try.func18, Try.ntmps18
    go_wp2_with fail
    go_loopw [10] (fun i wr => ∃ t : Nat, t ≤ n ∧ i = .int .i64 t ∧ TodoTo ls t ∧ Below w.heap.size w wr) (fun i _ => n - (intOf i).toNat)
    case atStart => exact ⟨0, Nat.zero_le _, rfl, fun j hj => absurd hj (Nat.not_lt_zero _), Below.refl _ _⟩
    case round =>
      obtain ⟨t, ht, rfl, hto, hbl⟩ := hrel
      have HTO := Lib.hid hto
      clear hto
      by_cases hlt : t < n
      · obtain ⟨b, off, rfl, hb, hc⟩ := H3.out (by omega)
        obtain ⟨u, hu, hq⟩ := hc t hlt
        have HNT := Lib.hid (HNO.out t hlt)
        have HFQ := HF.out t hlt
        have HNX := Lib.hid (fun (q : queueOkV t (ls.getD t []) = true) => (show TodoTo ls (t + 1) from fun i hi => by
          by_cases e : i = t
          · subst e; exact q
          · exact HTO.out i (by omega)))
        have hltz : (t : Int) < (n : Int) := by omega
        have c1 := (hbl.cell (p := ⟨b, off + t, none⟩) hb).trans hu
        have HQO := Lib.hid (fun W (hb : Below w.heap.size w W) => iQueueOk_any W u (ls.getD t []) t (hq.below hb) HFQ)
        have HB := Lib.hid hbl
        obtain ⟨A2, cap2, rfl, _⟩ := hq
        clear hc hu hbl HNO HF HFQ
        generalize queueOkV t (ls.getD t []) = qo at *
        generalize (ls.getD t []).length = m at *
        go_wp2_with fail
        refine (HQO.out _ (HB.out.alloc HB.out.size (.cells #[.slice A2 m cap2] 73))).mono ?_
        rintro e w2 ⟨rfl, hb5⟩
        have HB2 := Lib.hid ((HB.out.alloc HB.out.size (.cells #[.slice A2 m cap2] 73)).trans (hb5.mono (HB.out.alloc HB.out.size (.cells #[.slice A2 m cap2] 73)).size))
        clear hb5 HB HQO
        cases qo with
        | true =>
          have HX := Lib.hid (HNX.out rfl)
          clear HNX HNT
          go_wp2_with fail
          go_roundw
          case rel => exact ⟨t + 1, by omega, by go_num, HX.out, HB2.out⟩
          case measure => simp [intOf]; omega
        | false =>
          have HE := Lib.hid (HNT.out rfl)
          clear HNX HNT
          go_wp2_with fail
          go_ret
          exact ⟨ret_bl HE.out.symm, HB2.out⟩
      · have htn : t = n := by omega
        subst htn
        have HE := Lib.hid ((HALL.out HTO.out).trans (decide_eq_true HN4.out))
        have HB := Lib.hid hbl
        have hltz : ¬ (t : Int) < (t : Int) := by omega
        clear hbl
        go_wp2_with fail
        go_ret
        exact ⟨ret_bl HE.out.symm, HB.out⟩
  · have HE := Lib.hid (HLEN.out hn4)
    have t4 : ((n : Int) != 4) = true := by rw [bne_iff_ne]; omega
    clear HALL HNO HF hn4
    go_enter Try.func18, Try.ntmps18
    go_wp2_with fail
    go_ret
    exact ⟨ret_bl HE.out.symm, Below.refl _ _⟩
end Go.Proofs.Ytfemdhknnfmpcaa
