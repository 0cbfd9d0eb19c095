/-
  Chapter 10, the model's SameWorld: are two worlds alike? It turns nothing that was there.
-/
import Derived.Test.YtfemdhknnfmpcaaSamSJ
import Derived.Test.YtfemdhknnfmpcaaSamSE
import Derived.Test.YtfemdhknnfmpcaaWorC
import Derived.Test.YtfemdhknnfmpcaaJobE
import Derived.Test.YtfemdhknnfmpcaaEvE
import Derived.BigGuardPart
namespace Go.Proofs.Ytfemdhknnfmpcaa
open Go.RowKit M
set_option linter.unusedVariables false
set_option linter.unusedSimpArgs false
theorem len_ne {n m : Nat} (q : ((n : Int) != (m : Int)) = true) : n ≠ m := by rw [bne_iff_ne] at q; omega
theorem len_eq {n m : Nat} (q : ((n : Int) != (m : Int)) = false) : n = m := by rw [bne_eq_false_iff_eq] at q; omega
theorem sameQ_len {a b : List O} (h : a.length ≠ b.length) : sameQV a b = false := decide_eq_false fun e => h (by rw [e])
theorem sameQ_ne {a b : List O} {k : Nat} (h : a.getD k zeroO ≠ b.getD k zeroO) : sameQV a b = false := decide_eq_false fun e => h (by rw [e])
theorem sameQ_yes {a b : List O} (hl : a.length = b.length) (h : EqAt zeroO a b a.length) : sameQV a b = true := decide_eq_true (h.all hl)
set_option maxRecDepth 100000 in
set_option maxHeartbeats 4000000 in
theorem sSameWorld_any (w : World) (a b : S) (vc vj vt vl uc uj ut ul : Value) (h : WorIn w a vc vj vt vl) (k : WorIn w b uc uj ut ul) : Calls Try.prog 39 #[.agg (worVals a vc vj vt vl), .agg (worVals b uc uj ut ul)] w (Gives (.bool (sameSV a b)) w) := by
  have HC := Lib.hid (fun W (hb : Below w.heap.size w W) => sSameArg_any W vc uc a.cells b.cells (h.c.below hb) (k.c.below hb))
  have HE := Lib.hid (show sameSV a b = (decide (a.cells = b.cells) && (sameL sameJV zeroJ a.jobs b.jobs && (sameL sameQV [] a.todo b.todo && (sameL sameEV zeroE a.log b.log && (!(a.serial != b.serial) && !(a.now != b.now)))))) by
    unfold sameSV
    rw [show decide (a.serial = b.serial) = !(a.serial != b.serial) by rw [bne, Bool.not_not, int_beq2], show decide (a.now = b.now) = !(a.now != b.now) by rw [bne, Bool.not_not, int_beq2]])
  have NJ := Lib.hid (fun (q : ((a.jobs.length : Int) != (b.jobs.length : Int)) = true) => sameL_len (f := sameJV) (z := zeroJ) (len_ne q))
  have NQ := Lib.hid (fun (q : ((a.todo.length : Int) != (b.todo.length : Int)) = true) => sameL_len (f := sameQV) (z := []) (len_ne q))
  have NV := Lib.hid (fun (q : ((a.log.length : Int) != (b.log.length : Int)) = true) => sameL_len (f := sameEV) (z := zeroE) (len_ne q))
  have LJ := Lib.hid (fun (q : ((a.jobs.length : Int) != (b.jobs.length : Int)) = false) => len_eq q)
  have LQ := Lib.hid (fun (q : ((a.todo.length : Int) != (b.todo.length : Int)) = false) => len_eq q)
  have LV := Lib.hid (fun (q : ((a.log.length : Int) != (b.log.length : Int)) = false) => len_eq q)
  have YJ := Lib.hid (fun (hl : a.jobs.length = b.jobs.length) (q : SameTo sameJV zeroJ a.jobs b.jobs a.jobs.length) => sameL_yes hl q)
  have YQ := Lib.hid (fun (hl : a.todo.length = b.todo.length) (q : SameTo sameQV [] a.todo b.todo a.todo.length) => sameL_yes hl q)
  have YV := Lib.hid (fun (hl : a.log.length = b.log.length) (q : SameTo sameEV zeroE a.log b.log a.log.length) => sameL_yes hl q)
  have XJ := Lib.hid (fun j (hj : j < a.jobs.length) (q : sameJV (a.jobs.getD j zeroJ) (b.jobs.getD j zeroJ) = false) => sameL_no hj q)
  have XQ := Lib.hid (fun j (hj : j < a.todo.length) (q : sameQV (a.todo.getD j []) (b.todo.getD j []) = false) => sameL_no (f := sameQV) (z := []) hj q)
  have XV := Lib.hid (fun j (hj : j < a.log.length) (q : sameEV (a.log.getD j zeroE) (b.log.getD j zeroE) = false) => sameL_no hj q)
  obtain ⟨_, ⟨A1, c1, rfl, aj1, aj2, aj3⟩, ⟨A2, c2, rfl, at1, at2, at3⟩, ⟨A3, c3, rfl, al1, al2, al3⟩⟩ := h
  obtain ⟨_, ⟨B1, d1, rfl, bj1, bj2, bj3⟩, ⟨B2, d2, rfl, bt1, bt2, bt3⟩, ⟨B3, d3, rfl, bl1, bl2, bl3⟩⟩ := k
  unfold maxLen at *
  generalize sameSV a b = all at *
  obtain ⟨acells, ajobs, atodo, alog, aser, anow⟩ := a
  obtain ⟨bcells, bjobs, btodo, blog, bser, bnow⟩ := b
  unfold worVals
  simp only at *
  have JA := Lib.hid aj3
  have JB := Lib.hid bj3
  have QA := Lib.hid at3
  have QB := Lib.hid bt3
  have VA := Lib.hid al3
  have VB := Lib.hid bl3
  clear aj3 bj3 at3 bt3 al3 bl3
  generalize decide (acells = bcells) = q0 at *
  generalize sameL sameJV zeroJ ajobs bjobs = sj at *
  generalize sameL sameQV [] atodo btodo = sq at *
  generalize sameL sameEV zeroE alog blog = sv at *
  generalize ajobs.length = n1 at *
  generalize atodo.length = n2 at *
  generalize alog.length = n3 at *
  generalize bjobs.length = m1 at *
  generalize btodo.length = m2 at *
  generalize blog.length = m3 at *
  go_enter Try.func39, Try.ntmps39
  go_upto_region 1 with fail
  refine wp_gen (fun W => Blk W w.heap.size 49 #[vc, .slice A1 n1 c1, .slice A2 n2 c2, .slice A3 n3 c3, .int .i64 aser, .int .i64 anow] ∧ Blk W (w.heap.size + 1) 49 #[uc, .slice B1 m1 d1, .slice B2 m2 d2, .slice B3 m3 d3, .int .i64 bser, .int .i64 bnow] ∧ Below w.heap.size w W) ⟨(Blk.new w _ _ _ rfl).alloc _, Blk.new _ _ _ _ (by simp [go_sem]), ((Below.refl _ _).alloc (Nat.le_refl _) _).alloc (by simp [go_sem]) _⟩ ?_
  rintro W ⟨h0, h1, hb⟩
  have G0 := Lib.hid h0
  have G1 := Lib.hid h1
  have HB := Lib.hid hb
  clear h0 h1 hb
  have p0 : W.cell? ⟨w.heap.size, 0, none⟩ = some (vc) := G0.out.get 0
  have p1 : W.cell? ⟨w.heap.size, 1, none⟩ = some (.slice A1 n1 c1) := G0.out.get 1
  have p2 : W.cell? ⟨w.heap.size, 2, none⟩ = some (.slice A2 n2 c2) := G0.out.get 2
  have p3 : W.cell? ⟨w.heap.size, 3, none⟩ = some (.slice A3 n3 c3) := G0.out.get 3
  have p4 : W.cell? ⟨w.heap.size, 4, none⟩ = some (.int .i64 aser) := G0.out.get 4
  have p5 : W.cell? ⟨w.heap.size, 5, none⟩ = some (.int .i64 anow) := G0.out.get 5
  have r0 : W.cell? ⟨w.heap.size + 1, 0, none⟩ = some (uc) := G1.out.get 0
  have r1 : W.cell? ⟨w.heap.size + 1, 1, none⟩ = some (.slice B1 m1 d1) := G1.out.get 1
  have r2 : W.cell? ⟨w.heap.size + 1, 2, none⟩ = some (.slice B2 m2 d2) := G1.out.get 2
  have r3 : W.cell? ⟨w.heap.size + 1, 3, none⟩ = some (.slice B3 m3 d3) := G1.out.get 3
  have r4 : W.cell? ⟨w.heap.size + 1, 4, none⟩ = some (.int .i64 bser) := G1.out.get 4
  have r5 : W.cell? ⟨w.heap.size + 1, 5, none⟩ = some (.int .i64 bnow) := G1.out.get 5
  go_wp2_with fail
  refine (HC.out _ HB.out).mono ?_
  rintro er X ⟨rfl, hb2⟩
  clear p0 r0 p1 r1 p2 r2 p3 r3 p4 r4 p5 r5
  replace G0 := Lib.hid (G0.out.below hb2)
  replace G1 := Lib.hid (G1.out.below hb2)
  replace HB := Lib.hid (HB.out.trans (hb2.mono HB.out.size))
  clear hb2
  have p0 : X.cell? ⟨w.heap.size, 0, none⟩ = some (vc) := G0.out.get 0
  have p1 : X.cell? ⟨w.heap.size, 1, none⟩ = some (.slice A1 n1 c1) := G0.out.get 1
  have p2 : X.cell? ⟨w.heap.size, 2, none⟩ = some (.slice A2 n2 c2) := G0.out.get 2
  have p3 : X.cell? ⟨w.heap.size, 3, none⟩ = some (.slice A3 n3 c3) := G0.out.get 3
  have p4 : X.cell? ⟨w.heap.size, 4, none⟩ = some (.int .i64 aser) := G0.out.get 4
  have p5 : X.cell? ⟨w.heap.size, 5, none⟩ = some (.int .i64 anow) := G0.out.get 5
  have r0 : X.cell? ⟨w.heap.size + 1, 0, none⟩ = some (uc) := G1.out.get 0
  have r1 : X.cell? ⟨w.heap.size + 1, 1, none⟩ = some (.slice B1 m1 d1) := G1.out.get 1
  have r2 : X.cell? ⟨w.heap.size + 1, 2, none⟩ = some (.slice B2 m2 d2) := G1.out.get 2
  have r3 : X.cell? ⟨w.heap.size + 1, 3, none⟩ = some (.slice B3 m3 d3) := G1.out.get 3
  have r4 : X.cell? ⟨w.heap.size + 1, 4, none⟩ = some (.int .i64 bser) := G1.out.get 4
  have r5 : X.cell? ⟨w.heap.size + 1, 5, none⟩ = some (.int .i64 bnow) := G1.out.get 5
  cases q0 with
  | false =>
    go_wp2_with fail
    go_ret
    exact ⟨ret_bl (by rw [HE.out]; simp), HB.out⟩
  | true =>
    cases eJ : ((n1 : Int) != (m1 : Int)) with
    | true =>
      have hx := Lib.hid (NJ.out eJ)
      go_wp2_with fail
      go_ret
      exact ⟨ret_bl (by rw [HE.out, hx.out]; simp), HB.out⟩
    | false =>
      cases eQ : ((n2 : Int) != (m2 : Int)) with
      | true =>
        have hx := Lib.hid (NQ.out eQ)
        go_wp2_with fail
        go_ret
        exact ⟨ret_bl (by rw [HE.out, hx.out]; simp), HB.out⟩
      | false =>
        cases eV : ((n3 : Int) != (m3 : Int)) with
        | true =>
          have hx := Lib.hid (NV.out eV)
          go_wp2_with fail
          go_ret
          exact ⟨ret_bl (by rw [HE.out, hx.out]; simp), HB.out⟩
        | false =>
          cases eS : (aser != bser) with
          | true =>
            have hx := Lib.hid eS
            go_wp2_with fail
            go_ret
            exact ⟨ret_bl (by rw [HE.out, hx.out]; simp), HB.out⟩
          | false =>
            cases eW : (anow != bnow) with
            | true =>
              have hx := Lib.hid eW
              go_wp2_with fail
              go_ret
              exact ⟨ret_bl (by rw [HE.out, hx.out]; simp), HB.out⟩
            | false =>
              have LJ2 := LJ.out eJ
              have LQ2 := LQ.out eQ
              have LV2 := LV.out eV
              have HSW := Lib.hid (⟨eS, eW⟩ : (aser != bser) = false ∧ (anow != bnow) = false)
              subst LJ2
              subst LQ2
              subst LV2
              go_wp2_with fail
              clear eJ eQ eV eS eW NJ NQ NV LJ LQ LV
              clear p0 r0 p1 r1 p2 r2 p3 r3 p4 r4 p5 r5
              go_loopw [5] (fun i wr => ∃ j : Nat, j ≤ n1 ∧ i = .int .i64 j ∧ SameTo sameJV zeroJ ajobs bjobs j ∧ (Blk wr w.heap.size 49 #[vc, .slice A1 n1 c1, .slice A2 n2 c2, .slice A3 n3 c3, .int .i64 aser, .int .i64 anow] ∧ Blk wr (w.heap.size + 1) 49 #[uc, .slice B1 n1 d1, .slice B2 n2 d2, .slice B3 n3 d3, .int .i64 bser, .int .i64 bnow] ∧ Below w.heap.size w wr)) (fun i _ => n1 - (intOf i).toNat)
              case atStart => exact ⟨0, Nat.zero_le _, rfl, SameTo.zero _ _ _ _, ⟨G0.out, G1.out, HB.out⟩⟩
              case round =>
                obtain ⟨j, hj, rfl, he, hcw⟩ := hrel
                have HQ := Lib.hid he
                clear he G0 G1 HB
                obtain ⟨h0, h1, hb⟩ := hcw
                have G0 := Lib.hid h0
                have G1 := Lib.hid h1
                have HB := Lib.hid hb
                clear h0 h1 hb
                by_cases hlt : j < n1
                · obtain ⟨b, off, rfl, hb, hc⟩ := JA.out (by omega)
                  obtain ⟨b', off', rfl, hb', hc'⟩ := JB.out (by omega)
                  obtain ⟨vk, vr, hr1, hi1⟩ := job_at (hc j hlt)
                  obtain ⟨uk, ur, hr2, hi2⟩ := job_at (hc' j hlt)
                  have HR := fun W (hW : Below w.heap.size w W) => Lib.hid (sSameJob_any W (ajobs.getD j zeroJ) (bjobs.getD j zeroJ) vk vr uk ur (jobIn_below hi1 hW) (jobIn_below hi2 hW))
                  have HN := Lib.hid (fun q => HQ.out.next (j := j) q)
                  have HX := Lib.hid (fun q => XJ.out j hlt q)
                  have HP := Lib.hid hr1
                  have HP' := Lib.hid hr2
                  clear hc hc' hr1 hr2 hi1 hi2
                  generalize sameJV (ajobs.getD j zeroJ) (bjobs.getD j zeroJ) = q at *
                  generalize ajobs.getD j zeroJ = r at *
                  generalize bjobs.getD j zeroJ = r' at *
                  have hjn : (j : Int) < (n1 : Int) := by omega
                  have hu := Try.underlying42
                  have p1 : wr.cell? ⟨w.heap.size, 1, none⟩ = some (.slice (some ⟨b, off, none⟩) n1 c1) := G0.out.get 1
                  have r1 : wr.cell? ⟨w.heap.size + 1, 1, none⟩ = some (.slice (some ⟨b', off', none⟩) n1 d1) := G1.out.get 1
                  go_wp2_with fail
                  clear p1 r1
                  have HCL := (⟨⟨G0.out.below (below_drew _ _), G1.out.below (below_drew _ _), HB.out.trans (below_drew _ _)⟩⟩ : HoldsC (fun W => Blk W w.heap.size 49 #[vc, .slice (some ⟨b, off, none⟩) n1 c1, .slice A2 n2 c2, .slice A3 n3 c3, .int .i64 aser, .int .i64 anow] ∧ Blk W (w.heap.size + 1) 49 #[uc, .slice (some ⟨b', off', none⟩) n1 d1, .slice B2 n2 d2, .slice B3 n3 d3, .int .i64 bser, .int .i64 bnow] ∧ Below w.heap.size w W) _)
                  have hall : ∀ p : Prop, (∀ W, HoldsC (fun W => Blk W w.heap.size 49 #[vc, .slice (some ⟨b, off, none⟩) n1 c1, .slice A2 n2 c2, .slice A3 n3 c3, .int .i64 aser, .int .i64 anow] ∧ Blk W (w.heap.size + 1) 49 #[uc, .slice (some ⟨b', off', none⟩) n1 d1, .slice B2 n2 d2, .slice B3 n3 d3, .int .i64 bser, .int .i64 bnow] ∧ Below w.heap.size w W) W → p) ↔ p := fun p => ⟨fun h => h _ HCL, fun h _ _ => h⟩
                  refine wp_region_wq (C := HoldsC (fun W => Blk W w.heap.size 49 #[vc, .slice (some ⟨b, off, none⟩) n1 c1, .slice A2 n2 c2, .slice A3 n3 c3, .int .i64 aser, .int .i64 anow] ∧ Blk W (w.heap.size + 1) 49 #[uc, .slice (some ⟨b', off', none⟩) n1 d1, .slice B2 n2 d2, .slice B3 n3 d3, .int .i64 bser, .int .i64 bnow] ∧ Below w.heap.size w W)) (by kernel_rfl) (by kernel_rfl) HCL ?_
                  repeat (first | (refine WQ.loadMid rfl 42 _ rfl b (off + j * 18) rfl (jobVals r vk vr).toList _ (fun W hW => range_below HP.out hb hW.out.2.2) hu rfl (by kernel_rfl) ?_) | (refine WQ.loadMid rfl 42 _ rfl b' (off' + j * 18) rfl (jobVals r' uk ur).toList _ (fun W hW => range_below HP'.out hb' hW.out.2.2) hu rfl (by kernel_rfl) ?_) | (refine WQ.step (fun K hK => ?_); go_simp; first | (refine hK _ ?_; clear hK K) | (apply Exists.intro; refine ⟨fun W hW => ?_, hK _ ?_⟩; (focus (first | (go_at_call 82; (with_reducible refine Calls.mono (Hid.out (HR _ hW.out.2.2)) ?_); rintro e w' ⟨rfl, hb'⟩; exact ⟨rfl, ⟨hW.out.1.below hb', hW.out.2.1.below hb', hW.out.2.2.trans (hb'.mono hW.out.2.2.size)⟩⟩) | exact rfl | (obtain ⟨hWa, hWb, hWl⟩ := hW.out; have x0 := hWa.get 1; have y0 := hWb.get 1; simp only [List.getElem?_toArray, List.getElem?_cons_succ, List.getElem?_cons_zero] at x0 y0; go_simp; rfl))); clear hK K)))
                  refine WQ.nil ?_
                  intro W hW
                  clear hall HCL
                  replace G0 := Lib.hid hW.out.1
                  replace G1 := Lib.hid hW.out.2.1
                  replace HB := Lib.hid hW.out.2.2
                  clear hW
                  cases q with
                  | false =>
                    have hx := Lib.hid (HX.out rfl)
                    clear HX HN
                    go_wp2_with fail
                    go_ret
                    exact ⟨ret_bl (by rw [HE.out, hx.out]; simp), HB.out⟩
                  | true =>
                    have HN2 := Lib.hid (HN.out rfl)
                    clear HX HN
                    go_wp2_with fail
                    go_roundw
                    case rel => exact ⟨j + 1, by omega, by go_num, HN2.out, ⟨G0.out, G1.out, HB.out⟩⟩
                    case measure => simp [intOf]; omega
                · obtain rfl : n1 = j := by omega
                  have hltz : ¬ (n1 : Int) < (n1 : Int) := by omega
                  have p1 : wr.cell? ⟨w.heap.size, 1, none⟩ = some (.slice A1 n1 c1) := G0.out.get 1
                  have r1 : wr.cell? ⟨w.heap.size + 1, 1, none⟩ = some (.slice B1 n1 d1) := G1.out.get 1
                  have SJ := Lib.hid (YJ.out trivial HQ.out)
                  clear YJ XJ JA JB HQ
                  go_wp2_with fail
                  clear p1 r1
                  obtain ⟨wo, rfl⟩ : ∃ wo : World, wo = wr := ⟨_, rfl⟩
                  go_loopw [6] (fun i wr => ∃ t : Nat, t ≤ n2 ∧ i = .int .i64 t ∧ SameTo sameQV [] atodo btodo t ∧ (Blk wr w.heap.size 49 #[vc, .slice A1 n1 c1, .slice A2 n2 c2, .slice A3 n3 c3, .int .i64 aser, .int .i64 anow] ∧ Blk wr (w.heap.size + 1) 49 #[uc, .slice B1 n1 d1, .slice B2 n2 d2, .slice B3 n3 d3, .int .i64 bser, .int .i64 bnow] ∧ Below w.heap.size w wr)) (fun i _ => n2 - (intOf i).toNat)
                  case atStart => exact ⟨0, Nat.zero_le _, rfl, SameTo.zero _ _ _ _, ⟨G0.out, G1.out, HB.out⟩⟩
                  case round =>
                    obtain ⟨t, ht, rfl, he, hcw⟩ := hrel
                    have HQ := Lib.hid he
                    clear he G0 G1 HB
                    obtain ⟨h0, h1, hb⟩ := hcw
                    have G0 := Lib.hid h0
                    have G1 := Lib.hid h1
                    have HB := Lib.hid hb
                    clear h0 h1 hb
                    by_cases hlt : t < n2
                    · obtain ⟨b, off, rfl, hb, hc⟩ := QA.out (by omega)
                      obtain ⟨b', off', rfl, hb', hc'⟩ := QB.out (by omega)
                      obtain ⟨x, hx, hq⟩ := hc t hlt
                      obtain ⟨y, hy, hq'⟩ := hc' t hlt
                      have HU := Lib.hid (fun W (hW : Below w.heap.size w W) => (hW.cell (p := ⟨b, off + t, none⟩) hb).trans hx)
                      have HU' := Lib.hid (fun W (hW : Below w.heap.size w W) => (hW.cell (p := ⟨b', off' + t, none⟩) hb').trans hy)
                      have HN := Lib.hid (fun q => HQ.out.next (j := t) q)
                      have HX := Lib.hid (fun q => XQ.out t hlt q)
                      clear hc hc' hx hy
                      generalize atodo.getD t [] = qa at *
                      generalize btodo.getD t [] = qb at *
                      obtain ⟨X1, e1, rfl, _, he1, hq3⟩ := hq
                      obtain ⟨X2, e2, rfl, _, he2, hq3'⟩ := hq'
                      unfold maxLen at he1 he2
                      have DA := Lib.hid hq3
                      have DB := Lib.hid hq3'
                      clear hq3 hq3'
                      have htn : (t : Int) < (n2 : Int) := by omega
                      have HLEN := Lib.hid (fun (q : qa.length ≠ qb.length) => HX.out (sameQ_len q))
                      have HYES := Lib.hid (fun (hl : qa.length = qb.length) (q : EqAt zeroO qa qb qa.length) => HN.out (sameQ_yes hl q))
                      have HNE := Lib.hid (fun k (q : qa.getD k zeroO ≠ qb.getD k zeroO) => HX.out (sameQ_ne q))
                      clear HX HN
                      generalize qa.length = l1 at *
                      generalize qb.length = l2 at *
                      have p2 : wr.cell? ⟨w.heap.size, 2, none⟩ = some (.slice (some ⟨b, off, none⟩) n2 c2) := G0.out.get 2
                      have r2 : wr.cell? ⟨w.heap.size + 1, 2, none⟩ = some (.slice (some ⟨b', off', none⟩) n2 d2) := G1.out.get 2
                      go_wp2_with fail
                      clear p2 r2
                      have HCL := (⟨⟨G0.out.below (below_drew _ _), G1.out.below (below_drew _ _), HB.out.trans (below_drew _ _)⟩⟩ : HoldsC (fun W => Blk W w.heap.size 49 #[vc, .slice A1 n1 c1, .slice (some ⟨b, off, none⟩) n2 c2, .slice A3 n3 c3, .int .i64 aser, .int .i64 anow] ∧ Blk W (w.heap.size + 1) 49 #[uc, .slice B1 n1 d1, .slice (some ⟨b', off', none⟩) n2 d2, .slice B3 n3 d3, .int .i64 bser, .int .i64 bnow] ∧ Below w.heap.size w W) _)
                      have hall : ∀ p : Prop, (∀ W, HoldsC (fun W => Blk W w.heap.size 49 #[vc, .slice A1 n1 c1, .slice (some ⟨b, off, none⟩) n2 c2, .slice A3 n3 c3, .int .i64 aser, .int .i64 anow] ∧ Blk W (w.heap.size + 1) 49 #[uc, .slice B1 n1 d1, .slice (some ⟨b', off', none⟩) n2 d2, .slice B3 n3 d3, .int .i64 bser, .int .i64 bnow] ∧ Below w.heap.size w W) W → p) ↔ p := fun p => ⟨fun h => h _ HCL, fun h _ _ => h⟩
                      refine wp_region_wq (C := HoldsC (fun W => Blk W w.heap.size 49 #[vc, .slice A1 n1 c1, .slice (some ⟨b, off, none⟩) n2 c2, .slice A3 n3 c3, .int .i64 aser, .int .i64 anow] ∧ Blk W (w.heap.size + 1) 49 #[uc, .slice B1 n1 d1, .slice (some ⟨b', off', none⟩) n2 d2, .slice B3 n3 d3, .int .i64 bser, .int .i64 bnow] ∧ Below w.heap.size w W)) (by kernel_rfl) (by kernel_rfl) HCL ?_
                      repeat (first | (refine WQ.step (fun K hK => ?_); go_simp; first | (refine hK _ ?_; clear hK K) | (apply Exists.intro; refine ⟨fun W hW => ?_, hK _ ?_⟩; (focus (first | exact rfl | (obtain ⟨hWa, hWb, hWl⟩ := hW.out; have x0 := hWa.get 2; have y0 := hWb.get 2; simp only [List.getElem?_toArray, List.getElem?_cons_succ, List.getElem?_cons_zero] at x0 y0; have z0 := HU.out _ hWl; have z1 := HU'.out _ hWl; go_simp; rfl))); clear hK K)))
                      refine WQ.nil ?_
                      intro W hW
                      clear hall HCL
                      replace G0 := Lib.hid hW.out.1
                      replace G1 := Lib.hid hW.out.2.1
                      replace HB := Lib.hid hW.out.2.2
                      clear hW
                      by_cases hll : l1 = l2
                      case neg =>
                        have hx := Lib.hid (HLEN.out hll)
                        have d : ((l1 : Int) != (l2 : Int)) = true := by rw [bne_iff_ne]; omega
                        go_wp2_with fail
                        go_ret
                        exact ⟨ret_bl (by rw [HE.out, SJ.out, hx.out]; simp), HB.out⟩
                      subst hll
                      clear HLEN
                      have d : ((l1 : Int) != (l1 : Int)) = false := by simp
                      go_wp2_with fail
                      obtain ⟨wo, rfl⟩ : ∃ wo : World, wo = W := ⟨_, rfl⟩
                      go_loopw [7] (fun i wr => ∃ k : Nat, k ≤ l1 ∧ i = .int .i64 k ∧ EqAt zeroO qa qb k ∧ (Blk wr w.heap.size 49 #[vc, .slice A1 n1 c1, .slice (some ⟨b, off, none⟩) n2 c2, .slice A3 n3 c3, .int .i64 aser, .int .i64 anow] ∧ Blk wr (w.heap.size + 1) 49 #[uc, .slice B1 n1 d1, .slice (some ⟨b', off', none⟩) n2 d2, .slice B3 n3 d3, .int .i64 bser, .int .i64 bnow] ∧ Below w.heap.size w wr)) (fun i _ => l1 - (intOf i).toNat)
                      case atStart => exact ⟨0, Nat.zero_le _, rfl, EqAt.zero _ _ _, ⟨G0.out, G1.out, HB.out⟩⟩
                      case round =>
                        obtain ⟨k, hk, rfl, he, hcw⟩ := hrel
                        have HK := Lib.hid he
                        clear he G0 G1 HB d
                        obtain ⟨h0, h1, hb⟩ := hcw
                        have G0 := Lib.hid h0
                        have G1 := Lib.hid h1
                        have HB := Lib.hid hb
                        clear h0 h1 hb
                        have u0 := HU.out _ HB.out
                        have p2 : wr.cell? ⟨w.heap.size, 2, none⟩ = some (.slice (some ⟨b, off, none⟩) n2 c2) := G0.out.get 2
                        have r2 : wr.cell? ⟨w.heap.size + 1, 2, none⟩ = some (.slice (some ⟨b', off', none⟩) n2 d2) := G1.out.get 2
                        by_cases hkl : k < l1
                        · obtain ⟨f, of, rfl, hf, hd⟩ := DA.out (by omega)
                          obtain ⟨f', of', rfl, hf', hd'⟩ := DB.out (by omega)
                          have HD := Lib.hid (fun W (hW : Below w.heap.size w W) => atOp ((hd k hkl).below hf hW))
                          have HD' := Lib.hid (fun W (hW : Below w.heap.size w W) => atOp ((hd' k hkl).below hf' hW))
                          have hkz : (k : Int) < (l1 : Int) := by omega
                          clear hd hd'
                          have HKN := Lib.hid (fun q => HK.out.next (j := k) q)
                          have HKX := Lib.hid (fun q => HNE.out k q)
                          generalize qa.getD k zeroO = ra at *
                          generalize qb.getD k zeroO = rb at *
                          go_wp2_with fail
                          clear p2 r2 u0
                          by_cases hr : ra = rb
                          · subst hr
                            have hne := fun W => eqn_op W ra
                            have HX2 := Lib.hid (HKN.out rfl)
                            clear HKN HKX
                            obtain ⟨kind, key, what, val⟩ := ra
                            unfold O.v at hne
                            simp only at *
                            have HCL := (⟨⟨G0.out.below (below_drew _ _), G1.out.below (below_drew _ _), HB.out.trans (below_drew _ _)⟩⟩ : HoldsC (fun W => Blk W w.heap.size 49 #[vc, .slice A1 n1 c1, .slice (some ⟨b, off, none⟩) n2 c2, .slice A3 n3 c3, .int .i64 aser, .int .i64 anow] ∧ Blk W (w.heap.size + 1) 49 #[uc, .slice B1 n1 d1, .slice (some ⟨b', off', none⟩) n2 d2, .slice B3 n3 d3, .int .i64 bser, .int .i64 bnow] ∧ Below w.heap.size w W) _)
                            have hall : ∀ p : Prop, (∀ W, HoldsC (fun W => Blk W w.heap.size 49 #[vc, .slice A1 n1 c1, .slice (some ⟨b, off, none⟩) n2 c2, .slice A3 n3 c3, .int .i64 aser, .int .i64 anow] ∧ Blk W (w.heap.size + 1) 49 #[uc, .slice B1 n1 d1, .slice (some ⟨b', off', none⟩) n2 d2, .slice B3 n3 d3, .int .i64 bser, .int .i64 bnow] ∧ Below w.heap.size w W) W → p) ↔ p := fun p => ⟨fun h => h _ HCL, fun h _ _ => h⟩
                            refine wp_region_wq (C := HoldsC (fun W => Blk W w.heap.size 49 #[vc, .slice A1 n1 c1, .slice (some ⟨b, off, none⟩) n2 c2, .slice A3 n3 c3, .int .i64 aser, .int .i64 anow] ∧ Blk W (w.heap.size + 1) 49 #[uc, .slice B1 n1 d1, .slice (some ⟨b', off', none⟩) n2 d2, .slice B3 n3 d3, .int .i64 bser, .int .i64 bnow] ∧ Below w.heap.size w W)) (by kernel_rfl) (by kernel_rfl) HCL ?_
                            repeat (first | (refine WQ.step (fun K hK => ?_); go_simp; first | (refine hK _ ?_; clear hK K) | (apply Exists.intro; refine ⟨fun W hW => ?_, hK _ ?_⟩; (focus (first | exact rfl | (obtain ⟨hWa, hWb, hWl⟩ := hW.out; have x0 := hWa.get 2; have y0 := hWb.get 2; simp only [List.getElem?_toArray, List.getElem?_cons_succ, List.getElem?_cons_zero] at x0 y0; have z0 := HU.out _ hWl; have z1 := HU'.out _ hWl; obtain ⟨c0, c1, c2, c3⟩ := HD.out _ hWl; obtain ⟨c4, c5, c6, c7⟩ := HD'.out _ hWl; go_simp; rfl))); clear hK K)))
                            refine WQ.nil ?_
                            intro W hW
                            clear hall HCL
                            replace G0 := Lib.hid hW.out.1
                            replace G1 := Lib.hid hW.out.2.1
                            replace HB := Lib.hid hW.out.2.2
                            clear hW
                            go_wp2_with fail
                            go_roundw
                            case rel => exact ⟨k + 1, by omega, by go_num, HX2.out, ⟨G0.out, G1.out, HB.out⟩⟩
                            case measure => simp [intOf]; omega
                          · have hne := fun W => neq_op W ra rb hr
                            have hx := Lib.hid (HKX.out hr)
                            clear HKN HKX hr
                            obtain ⟨kind, key, what, val⟩ := ra
                            obtain ⟨kind', key', what', val'⟩ := rb
                            unfold O.v at hne
                            simp only at *
                            have HCL := (⟨⟨G0.out.below (below_drew _ _), G1.out.below (below_drew _ _), HB.out.trans (below_drew _ _)⟩⟩ : HoldsC (fun W => Blk W w.heap.size 49 #[vc, .slice A1 n1 c1, .slice (some ⟨b, off, none⟩) n2 c2, .slice A3 n3 c3, .int .i64 aser, .int .i64 anow] ∧ Blk W (w.heap.size + 1) 49 #[uc, .slice B1 n1 d1, .slice (some ⟨b', off', none⟩) n2 d2, .slice B3 n3 d3, .int .i64 bser, .int .i64 bnow] ∧ Below w.heap.size w W) _)
                            have hall : ∀ p : Prop, (∀ W, HoldsC (fun W => Blk W w.heap.size 49 #[vc, .slice A1 n1 c1, .slice (some ⟨b, off, none⟩) n2 c2, .slice A3 n3 c3, .int .i64 aser, .int .i64 anow] ∧ Blk W (w.heap.size + 1) 49 #[uc, .slice B1 n1 d1, .slice (some ⟨b', off', none⟩) n2 d2, .slice B3 n3 d3, .int .i64 bser, .int .i64 bnow] ∧ Below w.heap.size w W) W → p) ↔ p := fun p => ⟨fun h => h _ HCL, fun h _ _ => h⟩
                            refine wp_region_wq (C := HoldsC (fun W => Blk W w.heap.size 49 #[vc, .slice A1 n1 c1, .slice (some ⟨b, off, none⟩) n2 c2, .slice A3 n3 c3, .int .i64 aser, .int .i64 anow] ∧ Blk W (w.heap.size + 1) 49 #[uc, .slice B1 n1 d1, .slice (some ⟨b', off', none⟩) n2 d2, .slice B3 n3 d3, .int .i64 bser, .int .i64 bnow] ∧ Below w.heap.size w W)) (by kernel_rfl) (by kernel_rfl) HCL ?_
                            repeat (first | (refine WQ.step (fun K hK => ?_); go_simp; first | (refine hK _ ?_; clear hK K) | (apply Exists.intro; refine ⟨fun W hW => ?_, hK _ ?_⟩; (focus (first | exact rfl | (obtain ⟨hWa, hWb, hWl⟩ := hW.out; have x0 := hWa.get 2; have y0 := hWb.get 2; simp only [List.getElem?_toArray, List.getElem?_cons_succ, List.getElem?_cons_zero] at x0 y0; have z0 := HU.out _ hWl; have z1 := HU'.out _ hWl; obtain ⟨c0, c1, c2, c3⟩ := HD.out _ hWl; obtain ⟨c4, c5, c6, c7⟩ := HD'.out _ hWl; go_simp; rfl))); clear hK K)))
                            refine WQ.nil ?_
                            intro W hW
                            clear hall HCL
                            replace G0 := Lib.hid hW.out.1
                            replace G1 := Lib.hid hW.out.2.1
                            replace HB := Lib.hid hW.out.2.2
                            clear hW
                            go_wp2_with fail
                            go_ret
                            exact ⟨ret_bl (by rw [HE.out, SJ.out, hx.out]; simp), HB.out⟩
                        · obtain rfl : l1 = k := by omega
                          have HX2 := Lib.hid (HYES.out trivial HK.out)
                          have hkz : ¬ (l1 : Int) < (l1 : Int) := by omega
                          go_wp2_with fail
                          go_roundw
                          case rel => exact ⟨t + 1, by omega, by go_num, HX2.out, ⟨G0.out, G1.out, HB.out⟩⟩
                          case measure => simp [intOf]; omega
                    · obtain rfl : n2 = t := by omega
                      have hltz : ¬ (n2 : Int) < (n2 : Int) := by omega
                      have p2 : wr.cell? ⟨w.heap.size, 2, none⟩ = some (.slice A2 n2 c2) := G0.out.get 2
                      have r2 : wr.cell? ⟨w.heap.size + 1, 2, none⟩ = some (.slice B2 n2 d2) := G1.out.get 2
                      have SQ := Lib.hid (YQ.out trivial HQ.out)
                      clear YQ XQ QA QB HQ
                      go_wp2_with fail
                      clear p2 r2
                      obtain ⟨wo8, rfl⟩ : ∃ wo : World, wo = wr := ⟨_, rfl⟩
                      go_loopw [8] (fun i wr => ∃ j : Nat, j ≤ n3 ∧ i = .int .i64 j ∧ SameTo sameEV zeroE alog blog j ∧ (Blk wr w.heap.size 49 #[vc, .slice A1 n1 c1, .slice A2 n2 c2, .slice A3 n3 c3, .int .i64 aser, .int .i64 anow] ∧ Blk wr (w.heap.size + 1) 49 #[uc, .slice B1 n1 d1, .slice B2 n2 d2, .slice B3 n3 d3, .int .i64 bser, .int .i64 bnow] ∧ Below w.heap.size w wr)) (fun i _ => n3 - (intOf i).toNat)
                      case atStart => exact ⟨0, Nat.zero_le _, rfl, SameTo.zero _ _ _ _, ⟨G0.out, G1.out, HB.out⟩⟩
                      case round =>
                        obtain ⟨j, hj, rfl, he, hcw⟩ := hrel
                        have HQ := Lib.hid he
                        clear he G0 G1 HB
                        obtain ⟨h0, h1, hb⟩ := hcw
                        have G0 := Lib.hid h0
                        have G1 := Lib.hid h1
                        have HB := Lib.hid hb
                        clear h0 h1 hb
                        by_cases hlt : j < n3
                        · obtain ⟨b, off, rfl, hb, hc⟩ := VA.out (by omega)
                          obtain ⟨b', off', rfl, hb', hc'⟩ := VB.out (by omega)
                          obtain ⟨vr, hr1, hi1⟩ := ev_at (hc j hlt)
                          obtain ⟨ur, hr2, hi2⟩ := ev_at (hc' j hlt)
                          have HR := fun W (hW : Below w.heap.size w W) => Lib.hid (sSameEv_any W (alog.getD j zeroE) (blog.getD j zeroE) vr ur (evIn_below hi1 hW) (evIn_below hi2 hW))
                          have HN := Lib.hid (fun q => HQ.out.next (j := j) q)
                          have HX := Lib.hid (fun q => XV.out j hlt q)
                          have HP := Lib.hid hr1
                          have HP' := Lib.hid hr2
                          clear hc hc' hr1 hr2 hi1 hi2
                          generalize sameEV (alog.getD j zeroE) (blog.getD j zeroE) = q at *
                          generalize alog.getD j zeroE = r at *
                          generalize blog.getD j zeroE = r' at *
                          have hjn : (j : Int) < (n3 : Int) := by omega
                          have hu := Try.underlying99
                          have p3 : wr.cell? ⟨w.heap.size, 3, none⟩ = some (.slice (some ⟨b, off, none⟩) n3 c3) := G0.out.get 3
                          have r3 : wr.cell? ⟨w.heap.size + 1, 3, none⟩ = some (.slice (some ⟨b', off', none⟩) n3 d3) := G1.out.get 3
                          go_wp2_with fail
                          clear p3 r3
                          have HCL := (⟨⟨G0.out.below (below_drew _ _), G1.out.below (below_drew _ _), HB.out.trans (below_drew _ _)⟩⟩ : HoldsC (fun W => Blk W w.heap.size 49 #[vc, .slice A1 n1 c1, .slice A2 n2 c2, .slice (some ⟨b, off, none⟩) n3 c3, .int .i64 aser, .int .i64 anow] ∧ Blk W (w.heap.size + 1) 49 #[uc, .slice B1 n1 d1, .slice B2 n2 d2, .slice (some ⟨b', off', none⟩) n3 d3, .int .i64 bser, .int .i64 bnow] ∧ Below w.heap.size w W) _)
                          have hall : ∀ p : Prop, (∀ W, HoldsC (fun W => Blk W w.heap.size 49 #[vc, .slice A1 n1 c1, .slice A2 n2 c2, .slice (some ⟨b, off, none⟩) n3 c3, .int .i64 aser, .int .i64 anow] ∧ Blk W (w.heap.size + 1) 49 #[uc, .slice B1 n1 d1, .slice B2 n2 d2, .slice (some ⟨b', off', none⟩) n3 d3, .int .i64 bser, .int .i64 bnow] ∧ Below w.heap.size w W) W → p) ↔ p := fun p => ⟨fun h => h _ HCL, fun h _ _ => h⟩
                          refine wp_region_wq (C := HoldsC (fun W => Blk W w.heap.size 49 #[vc, .slice A1 n1 c1, .slice A2 n2 c2, .slice (some ⟨b, off, none⟩) n3 c3, .int .i64 aser, .int .i64 anow] ∧ Blk W (w.heap.size + 1) 49 #[uc, .slice B1 n1 d1, .slice B2 n2 d2, .slice (some ⟨b', off', none⟩) n3 d3, .int .i64 bser, .int .i64 bnow] ∧ Below w.heap.size w W)) (by kernel_rfl) (by kernel_rfl) HCL ?_
                          repeat (first | (refine WQ.loadMid rfl 99 _ rfl b (off + j * 13) rfl (evVals r vr).toList _ (fun W hW => range_below HP.out hb hW.out.2.2) hu rfl (by kernel_rfl) ?_) | (refine WQ.loadMid rfl 99 _ rfl b' (off' + j * 13) rfl (evVals r' ur).toList _ (fun W hW => range_below HP'.out hb' hW.out.2.2) hu rfl (by kernel_rfl) ?_) | (refine WQ.step (fun K hK => ?_); go_simp; first | (refine hK _ ?_; clear hK K) | (apply Exists.intro; refine ⟨fun W hW => ?_, hK _ ?_⟩; (focus (first | (go_at_call 83; (with_reducible refine Calls.mono (Hid.out (HR _ hW.out.2.2)) ?_); rintro e w' ⟨rfl, hb'⟩; exact ⟨rfl, ⟨hW.out.1.below hb', hW.out.2.1.below hb', hW.out.2.2.trans (hb'.mono hW.out.2.2.size)⟩⟩) | exact rfl | (obtain ⟨hWa, hWb, hWl⟩ := hW.out; have x0 := hWa.get 3; have y0 := hWb.get 3; simp only [List.getElem?_toArray, List.getElem?_cons_succ, List.getElem?_cons_zero] at x0 y0; go_simp; rfl))); clear hK K)))
                          refine WQ.nil ?_
                          intro W hW
                          clear hall HCL
                          replace G0 := Lib.hid hW.out.1
                          replace G1 := Lib.hid hW.out.2.1
                          replace HB := Lib.hid hW.out.2.2
                          clear hW
                          cases q with
                          | false =>
                            have hx := Lib.hid (HX.out rfl)
                            clear HX HN
                            go_wp2_with fail
                            go_ret
                            exact ⟨ret_bl (by rw [HE.out, SJ.out, SQ.out, hx.out]; simp), HB.out⟩
                          | true =>
                            have HN2 := Lib.hid (HN.out rfl)
                            clear HX HN
                            go_wp2_with fail
                            go_roundw
                            case rel => exact ⟨j + 1, by omega, by go_num, HN2.out, ⟨G0.out, G1.out, HB.out⟩⟩
                            case measure => simp [intOf]; omega
                        · obtain rfl : n3 = j := by omega
                          have hltz : ¬ (n3 : Int) < (n3 : Int) := by omega
                          have p3 : wr.cell? ⟨w.heap.size, 3, none⟩ = some (.slice A3 n3 c3) := G0.out.get 3
                          have r3 : wr.cell? ⟨w.heap.size + 1, 3, none⟩ = some (.slice B3 n3 d3) := G1.out.get 3
                          have SV := Lib.hid (YV.out trivial HQ.out)
                          clear YV XV VA VB HQ
                          go_wp2_with fail
                          go_ret
                          exact ⟨ret_bl (by rw [HE.out, SJ.out, SQ.out, SV.out, HSW.out.1, HSW.out.2]; rfl), HB.out⟩
end Go.Proofs.Ytfemdhknnfmpcaa
