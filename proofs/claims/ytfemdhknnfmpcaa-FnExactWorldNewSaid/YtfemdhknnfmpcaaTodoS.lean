/-
  Chapter 10, the model's TodoOk: may these queues be worked off? It turns nothing that was there.
-/
import Derived.Test.YtfemdhknnfmpcaaQuC
import Derived.Test.YtfemdhknnfmpcaaOpS
namespace Go.Proofs.Ytfemdhknnfmpcaa
open Go.RowKit M
set_option linter.unusedVariables false
set_option linter.unusedSimpArgs false
theorem todo_len {ls : List (List O)} (h : ls.length ≠ 4) : todoOkV ls = false := by unfold todoOkV; rw [decide_eq_false h]; rfl
theorem todo_no {ls : List (List O)} {t : Nat} (ht : t < ls.length) (h : queueOkV t (ls.getD t []) = false) : todoOkV ls = false := by
  unfold todoOkV
  have : ((List.range ls.length).all fun t => queueOkV t (ls.getD t [])) = false := by
    rw [List.all_eq_false]
    exact ⟨t, List.mem_range.2 ht, by rw [h]; simp⟩
  rw [this, Bool.and_false]
def TodoTo (ls : List (List O)) (t : Nat) : Prop := ∀ i, i < t → queueOkV i (ls.getD i []) = true
theorem todo_all {ls : List (List O)} (h : TodoTo ls ls.length) : todoOkV ls = decide (ls.length = 4) := by
  unfold todoOkV
  have : ((List.range ls.length).all fun t => queueOkV t (ls.getD t [])) = true := by
    rw [List.all_eq_true]
    exact fun t ht => h t (List.mem_range.1 ht)
  rw [this, Bool.and_true]
theorem queue_long {t : Nat} {q : List O} (h : 10 < q.length) : queueOkV t q = false := by unfold queueOkV; rw [decide_eq_false (by omega)]; rfl
def QueueTo (t : Nat) (q : List O) (k : Nat) : Prop := ∀ i, i < k → opInV t (q.getD i zeroO) = true
theorem queue_no {t : Nat} {q : List O} {k : Nat} (hk : k < q.length) (h : opInV t (q.getD k zeroO) = false) : queueOkV t q = false := by
  unfold queueOkV
  have : q.all (opInV t) = false := by
    rw [List.all_eq_false]
    refine ⟨q[k], List.getElem_mem hk, ?_⟩
    rw [List.getD_eq_getElem?_getD, List.getElem?_eq_getElem hk, Option.getD_some] at h
    rw [h]; simp
  rw [this, Bool.and_false]
theorem queue_all {t : Nat} {q : List O} (hl : q.length ≤ 10) (h : QueueTo t q q.length) : queueOkV t q = true := by
  unfold queueOkV
  rw [decide_eq_true hl, Bool.true_and, List.all_eq_true]
  intro x hx
  obtain ⟨i, hi, rfl⟩ := List.getElem_of_mem hx
  have := h i hi
  rw [List.getD_eq_getElem?_getD, List.getElem?_eq_getElem hi, Option.getD_some] at this
  exact this
theorem queue_nil {t : Nat} : queueOkV t [] = true := rfl
theorem opIn_ok {t : Nat} {o : O} (h : opOkV o = true) : opInV t o = (decide (o.kind = 3) == decide (t = 3)) := by unfold opInV; rw [h, Bool.true_and]
theorem opIn_no {t : Nat} {o : O} (h : opOkV o = false) : opInV t o = false := by unfold opInV; rw [h, Bool.false_and]
theorem int_beq (x y : Int) : (x == y) = decide (x = y) := by
  by_cases h : x = y
  · rw [decide_eq_true h, beq_iff_eq]; exact h
  · rw [decide_eq_false h, beq_eq_false_iff_ne]; exact h
set_option maxRecDepth 100000 in
set_option maxHeartbeats 4000000 in
theorem sTodoOk_any (w : World) (v : Value) (ls : List (List O)) (h : ArgQ w v ls) (hf : FitQ ls) : Calls Try.prog 16 #[v] w (Gives (.bool (todoOkV ls)) w) := by
  obtain ⟨A, cap, rfl, h1, h2, h3⟩ := h
  unfold maxLen at h2
  have HNO := Lib.hid (fun t => todo_no (ls := ls) (t := t))
  have HALL := Lib.hid (todo_all (ls := ls))
  have HF := Lib.hid hf
  generalize hn : ls.length = n at *
  have HNL := Lib.hid hn
  clear hn hf
  have H3 := Lib.hid h3
  clear h3
  go_enter Try.func16, Try.ntmps16
  go_wp2_with fail
  go_loopw [3] (fun i wr => ∃ t : Nat, t ≤ n ∧ i = .int .i64 t ∧ TodoTo ls t ∧ Below w.heap.size w wr) (fun i _ => n - (intOf i).toNat)
  case atStart => exact ⟨0, Nat.zero_le _, rfl, fun j hj => absurd hj (Nat.not_lt_zero _), Below.refl _ _⟩
  case round =>
    obtain ⟨t, ht, rfl, hto, hbl⟩ := hrel
    have HTO := Lib.hid hto
    clear hto
    by_cases hlt : t < n
    · obtain ⟨b, off, rfl, hb, hc⟩ := H3.out (by omega)
      obtain ⟨u, hu, hq⟩ := hc t hlt
      have HNT := Lib.hid (HNO.out t hlt)
      have HFQ := Lib.hid (HF.out t (by rw [HNL.out]; exact hlt))
      have HNX := Lib.hid (fun (q : queueOkV t (ls.getD t []) = true) => (show TodoTo ls (t + 1) from fun i hi => by
        by_cases e : i = t
        · subst e; exact q
        · exact HTO.out i (by omega)))
      have hltz : (t : Int) < (n : Int) := by omega
      have c1 := (hbl.cell (p := ⟨b, off + t, none⟩) hb).trans hu
      have HCELL := Lib.hid (show ∀ wr, Below w.heap.size w wr → wr.cell? ⟨b, off + t, none⟩ = some u from fun wr hbl => (hbl.cell (p := ⟨b, off + t, none⟩) hb).trans hu)
      have HB := Lib.hid hbl
      clear hc hu hbl HNO HF
      generalize ls.getD t [] = q at *
      obtain ⟨A2, cap2, rfl, q1, q2, q3⟩ := hq
      unfold maxLen at q2
      have HQN := Lib.hid (fun k => queue_no (t := t) (q := q) (k := k))
      have HQA := Lib.hid (queue_all (t := t) (q := q))
      have HQL := Lib.hid (queue_long (t := t) (q := q))
      generalize hm : q.length = m at *
      have HML := Lib.hid hm
      clear hm
      have H4 := Lib.hid q3
      clear q3
      by_cases hm10 : 10 < m
      · have HE := Lib.hid (HNT.out (HQL.out hm10))
        have hd : (10 : Int) < (m : Int) := by omega
        clear HNT HQL HQA HQN HNX HCELL
        go_wp2_with fail
        go_ret
        exact ⟨by rw [HE.out]; rfl, HB.out⟩
      · have hd : ¬ (10 : Int) < (m : Int) := by omega
        clear HQL
        go_wp2_with fail
        obtain ⟨wo, rfl⟩ : ∃ wo : World, wo = wr := ⟨_, rfl⟩
        go_loopw [4] (fun i wr => ∃ k : Nat, k ≤ m ∧ i = .int .i64 k ∧ QueueTo t q k ∧ Below w.heap.size w wr) (fun i _ => m - (intOf i).toNat)
        case atStart => exact ⟨0, Nat.zero_le _, rfl, fun j hj => absurd hj (Nat.not_lt_zero _), HB.out⟩
        case round =>
          obtain ⟨k, hk, rfl, hqt, hbl⟩ := hrel
          have HQT := Lib.hid hqt
          clear hqt c1 HB
          have c1 := HCELL.out _ hbl
          by_cases hkm : k < m
          · obtain ⟨b2, off2, rfl, hb2, hc2⟩ := H4.out (by omega)
            have hr := hc2 k hkm
            have c20 := (hbl.cell (p := ⟨b2, off2 + k * 4, none⟩) hb2).trans (hr 0 (by decide))
            have c21 := (hbl.cell (p := ⟨b2, off2 + k * 4 + 1, none⟩) hb2).trans (hr 1 (by decide))
            have c22 := (hbl.cell (p := ⟨b2, off2 + k * 4 + 2, none⟩) hb2).trans (hr 2 (by decide))
            have c23 := (hbl.cell (p := ⟨b2, off2 + k * 4 + 3, none⟩) hb2).trans (hr 3 (by decide))
            have HOP := fun W => Lib.hid (sOpOk_any W (q.getD k zeroO) (HFQ.out k hkm).key)
            have HIY := Lib.hid (fun (h : opOkV (q.getD k zeroO) = true) => opIn_ok (t := t) h)
            have HIN := Lib.hid (fun (h : opInV t (q.getD k zeroO) = false) => HNT.out (HQN.out k hkm h))
            have HIO := Lib.hid (fun (h : opOkV (q.getD k zeroO) = false) => opIn_no (t := t) h)
            have HQX := Lib.hid (fun (h : opInV t (q.getD k zeroO) = true) => (show QueueTo t q (k + 1) from fun i hi => by
              by_cases e : i = k
              · subst e; exact h
              · exact HQT.out i (by omega)))
            have hkz : (k : Int) < (m : Int) := by omega
            have HB := Lib.hid hbl
            clear hr hc2 hbl HQN HQA HNT
            generalize q.getD k zeroO = o at *
            obtain ⟨kind, key, what, val⟩ := o
            simp only [opCells] at c20 c21 c22 c23
            unfold O.v at HOP
            simp only at HOP HIY
            have b3 := int_beq kind 3
            have b4 := int_beq (t : Int) 3
            rw [show decide ((t : Int) = 3) = decide (t = 3) by congr 1; simp only [eq_iff_iff]; omega] at b4
            generalize decide (kind = 3) = k3 at *
            generalize decide (t = 3) = t3 at *
            cases hok : opOkV ⟨kind, key, what, val⟩ with
            | false =>
              rw [hok] at HOP
              have HE := Lib.hid (HIN.out (HIO.out hok))
              clear hok HIY HIN HIO HQX
              go_wp2_with fail
              refine (HOP _).out.mono ?_
              rintro e w2 ⟨rfl, hb5⟩
              have HB2 := Lib.hid (HB.out.trans (((Below.refl _ _).alloc (Nat.le_refl _) (.cells #[.int .i64 kind, .string key, .int .i64 what, .int .i64 val] 26)).trans (hb5.mono (by simp [go_sem])) |>.mono HB.out.size))
              clear hb5 HB
              go_wp2_with fail
              go_ret
              exact ⟨by rw [HE.out]; rfl, HB2.out⟩
            | true =>
              rw [hok] at HOP
              have hoi := HIY.out hok
              clear hok HIY HIO
              go_wp2_with fail
              refine (HOP _).out.mono ?_
              rintro e w2 ⟨rfl, hb5⟩
              have y0 : w2.cell? ⟨wr.heap.size, 0, none⟩ = some (.int .i64 kind) := (hb5.cell (p := ⟨wr.heap.size, 0, none⟩) (by simp [go_sem])).trans (by simp [go_sem])
              have HB2 := Lib.hid (HB.out.trans (((Below.refl _ _).alloc (Nat.le_refl _) (.cells #[.int .i64 kind, .string key, .int .i64 what, .int .i64 val] 26)).trans (hb5.mono (by simp [go_sem])) |>.mono HB.out.size))
              clear hb5 HB
              by_cases hkt : k3 = t3
              · subst hkt
                have HX := Lib.hid (HQX.out (by rw [hoi]; simp))
                clear hoi HQX HIN
                cases k3 <;> (
                  go_wp2_with fail
                  go_roundw
                  case rel => exact ⟨k + 1, by omega, by go_num, HX.out, HB2.out⟩
                  case measure => simp [intOf]; omega)
              · have HE := Lib.hid (HIN.out (by rw [hoi]; cases k3 <;> cases t3 <;> first | rfl | exact absurd rfl hkt))
                clear hoi HQX HIN
                cases k3 <;> cases t3 <;> first
                  | exact absurd rfl hkt
                  | (go_wp2_with fail
                     go_ret
                     exact ⟨by rw [HE.out]; rfl, HB2.out⟩)
          · have hkm2 : k = m := by omega
            subst hkm2
            have HX := Lib.hid (HNX.out (HQA.out (by omega) HQT.out))
            have HB := Lib.hid hbl
            have hkz : ¬ (k : Int) < (k : Int) := by omega
            clear hbl
            go_wp2_with fail
            go_roundw
            case rel => exact ⟨t + 1, by omega, by go_num, HX.out, HB.out⟩
            case measure => simp [intOf]; omega
    · have htn : t = n := by omega
      subst htn
      have HE := Lib.hid (HALL.out HTO.out)
      have HB := Lib.hid hbl
      have hltz : ¬ (t : Int) < (t : Int) := by omega
      have b4 := int_beq (t : Int) 4
      rw [show decide ((t : Int) = 4) = decide (t = 4) by congr 1; simp only [eq_iff_iff]; omega] at b4
      generalize decide (t = 4) = t4 at *
      clear hbl
      go_wp2_with fail
      go_ret
      exact ⟨by rw [HE.out]; rfl, HB.out⟩
end Go.Proofs.Ytfemdhknnfmpcaa
