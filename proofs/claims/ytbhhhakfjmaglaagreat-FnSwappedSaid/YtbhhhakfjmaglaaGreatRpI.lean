/-
  Chapter 7 on rows of rows, the program's: ReportOk and SameReport answer what the plain words say.
-/
import Derived.Test.YtbhhhakfjmaglaaGreatZb
import Derived.Test.YtbhhhakfjmaglaaGreatRowN
import Derived.Test.YtbhhhakfjmaglaaGreatZa
namespace Go.Proofs.YtbhhhakfjmaglaaGreat
open Go.RowKit M
set_option linter.unusedVariables false
theorem sameRV_nl {xs ys : List R} (hl : xs.length ≠ ys.length) : sameRV xs ys = false := sameRV_len hl
/-- Comparing strings the other way round. -/
theorem bl_flip' (x y : List UInt8) : (!(Go.Op.bytesLess x y || x == y)) = Go.Op.bytesLess y x := by
  induction x generalizing y with
  | nil => cases y <;> rfl
  | cons a x ih =>
    cases y with
    | nil => rfl
    | cons b y =>
      have := ih y
      simp only [Go.Op.bytesLess, List.cons_beq_cons]
      rcases Nat.lt_trichotomy a.toNat b.toNat with h | h | h
      · have h1 : a < b := h
        have h2 : ¬ b < a := fun k => by have : b.toNat < a.toNat := k; omega
        have h3 : (a == b) = false := by rw [beq_eq_false_iff_ne]; intro e; rw [e] at h; omega
        have h4 : (b == a) = false := by rw [beq_eq_false_iff_ne]; intro e; rw [e] at h; omega
        simp [h1, h2, h3, h4]
      · have h1 : a = b := UInt8.toNat_inj.1 h
        subst h1
        have h2 : ¬ a < a := fun k => by have : a.toNat < a.toNat := k; omega
        simp only [h2, decide_false, Bool.false_or, beq_self_eq_true, Bool.true_and]
        exact this
      · have h1 : b < a := h
        have h2 : ¬ a < b := fun k => by have : a.toNat < b.toNat := k; omega
        have h3 : (a == b) = false := by rw [beq_eq_false_iff_ne]; intro e; rw [e] at h; omega
        simp [h1, h2, h3]
/-- A row laid into a new block. -/
theorem wp_row_one {C : Go.Code} {Q : Exit → Act → World → Prop} {a : Act} {w u : World} (r : R) (hb : Below w.heap.size w u)
    (k : ∀ u', RowAt u' u.heap.size r → Below w.heap.size w u' → ((∀ (p : Addr) (c : Value), p.block < u.heap.size → u.cell? p = some c → u'.cell? p = some c) ∧ u.heap.size < u'.heap.size) → Code.wp Tryz.prog C Q a u') : Code.wp Tryz.prog C Q a (u.alloc (.cells (rowCells r) 42)) :=
  k _ (rowAt_new u _ r rfl) (hb.alloc hb.size _) ⟨fun p c hp hc => (((Below.refl u.heap.size u).alloc (Nat.le_refl _) _).cell (p := p) hp).trans hc, by simp [go_sem]⟩
theorem le_flip (x y : ByteArray) : strLe x y = !(Go.Op.bytesLess y.toList x.toList) := by
  unfold strLe
  rw [← bl_flip' x.toList y.toList, Bool.not_not]
theorem reportOk_long {rs : List R} (h : 4 < rs.length) : reportOkV rs = false := by
  unfold reportOkV; rw [decide_eq_false (by omega)]; rfl
set_option maxRecDepth 100000 in
set_option maxHeartbeats 8000000 in
theorem iReportOk_any (w : World) (v : Value) (rs : List R) (h : RowsArg w v rs) (hf : FitR rs) : Calls Tryz.prog 49 #[v] w (Gives (.bool (reportOkV rs)) w) := by
  obtain ⟨A, cap, rfl, h1, h2, h3⟩ := h
  unfold maxLen at h2
  by_cases h4 : 4 < rs.length
  case pos =>
    have HE := Lib.hid (reportOk_long h4)
    generalize reportOkV rs = q at *
    generalize rs.length = n at *
    clear h3 hf
    have i4 : (4 : Int) < (n : Int) := by omega
    go_enter Tryz.func49, Tryz.ntmps49
    go_wp2_with fail
    go_ret
    exact ⟨ret_bool HE.out.symm, Below.refl _ _⟩
  have HALL := Lib.hid (fun (q : GoodTo rs rs.length) => (reportOk_all q).trans (decide_eq_true (by omega)))
  have HBAD := Lib.hid (fun j (hj : j < rs.length) (hb : badAt rs j = true) => reportOk_bad hj hb)
  unfold FitR at hf
  have HKS := Lib.hid hf
  have i4 : ¬ (4 : Int) < (rs.length : Int) := by omega
  generalize rs.length = n at *
  have H4 := Lib.hid h3
  clear h3 hf h4
  generalize reportOkV rs = q at *
  go_enter Tryz.func49, Tryz.ntmps49
  go_wp2_with fail
  go_loopw [10] (fun i wr => ∃ j : Nat, j ≤ n ∧ i = .int .i64 j ∧ GoodTo rs j ∧ Below w.heap.size w wr) (fun i _ => n - (intOf i).toNat)
  case atStart => exact ⟨0, Nat.zero_le _, rfl, GoodTo.zero _, Below.refl _ _⟩
  case round =>
    obtain ⟨j, hj, rfl, hg, hbl⟩ := hrel
    have HG := Lib.hid hg
    clear hg
    by_cases hlt : j < n
    · obtain ⟨b, off, rfl, hb, hc⟩ := H4.out (by omega)
      have HO := fun W => Lib.hid (iRowOk_any W (rs.getD j zeroR) (HKS.out j hlt))
      have HQ := fun W => Lib.hid (iQuiet_any W (rs.getD j zeroR) (HKS.out j hlt))
      have HBD := Lib.hid (HBAD.out j hlt)
      have HN := Lib.hid (fun q => HG.out.next (j := j) q)
      obtain ⟨x0, x1, x2, x3, x4, x5, x6, x7, x8, x9⟩ := ((hc j hlt).below hb hbl).get
      have HB := Lib.hid hbl
      cases hok : rowOkV (rs.getD j zeroR) with
      | false =>
        have HB1 := Lib.hid (HBD.out (bad_row hok))
        rw [hok] at HO
        clear hok
        clear hc hbl
        generalize rs.getD j zeroR = r at *
        obtain ⟨key, kind, sum, st, last, n', mn, mx, total, dropped⟩ := r
        unfold R.v at HO HQ
        simp only at *
        go_upto_region 6 with fail
        refine wp_row_one ⟨key, kind, sum, st, last, n', mn, mx, total, dropped⟩ HB.out ?_
        intro u2 hr2 hb2 hk2
        clear x0 x1 x2 x3 x4 x5 x6 x7 x8 x9
        have HCL := (⟨⟨hr2.below (below_drew _ _), hb2.trans ((below_drew _ _).mono hb2.size), hk2.2⟩⟩ : HoldsC (fun W => RowAt W wr.heap.size ⟨key, kind, sum, st, last, n', mn, mx, total, dropped⟩ ∧ Below w.heap.size w W ∧ wr.heap.size < W.heap.size) _)
        have hall : ∀ p : Prop, (∀ W, HoldsC (fun W => RowAt W wr.heap.size ⟨key, kind, sum, st, last, n', mn, mx, total, dropped⟩ ∧ Below w.heap.size w W ∧ wr.heap.size < W.heap.size) W → p) ↔ p := fun p => ⟨fun h => h _ HCL, fun h _ _ => h⟩
        refine wp_region_wq (C := HoldsC (fun W => RowAt W wr.heap.size ⟨key, kind, sum, st, last, n', mn, mx, total, dropped⟩ ∧ Below w.heap.size w W ∧ wr.heap.size < W.heap.size)) (by kernel_rfl) (by kernel_rfl) HCL ?_
        repeat (refine WQ.step (fun K hK => ?_); go_simp; first | (refine hK _ ?_; clear hK K) | (apply Exists.intro; refine ⟨fun W hW => ?_, hK _ ?_⟩; (focus (first | (go_at_call 87; (with_reducible refine Calls.mono (Hid.out (HO _)) ?_); rintro e w' ⟨rfl, hb'⟩; exact ⟨rfl, ⟨hW.out.1.below hb', hW.out.2.1.trans (hb'.mono hW.out.2.1.size), Nat.lt_of_lt_of_le hW.out.2.2 hb'.size⟩⟩) | (go_at_call 88; (with_reducible refine Calls.mono (Hid.out (HQ _)) ?_); rintro e w' ⟨rfl, hb'⟩; exact ⟨rfl, ⟨hW.out.1.below hb', hW.out.2.1.trans (hb'.mono hW.out.2.1.size), Nat.lt_of_lt_of_le hW.out.2.2 hb'.size⟩⟩) | exact rfl | (obtain ⟨hWr, hWb, hWl⟩ := hW.out; obtain ⟨x0, x1, x2, x3, x4, x5, x6, x7, x8, x9, xf⟩ := hWr.get; simp only at x0 x1 x2 x3 x4 x5 x6 x7 x8 x9; go_simp; rfl))); clear hK K))
        refine WQ.nil ?_
        intro W hW
        obtain ⟨hWr, hWb, hWl⟩ := hW.out; obtain ⟨x0, x1, x2, x3, x4, x5, x6, x7, x8, x9, xf⟩ := hWr.get; simp only at x0 x1 x2 x3 x4 x5 x6 x7 x8 x9
        clear hall HCL
        go_wp2_with fail
        go_ret
        exact ⟨ret_bool HB1.out.symm, hWb⟩
      | true =>
        cases hqu : quietV (rs.getD j zeroR) with
        | true =>
          have HB1 := Lib.hid (HBD.out (bad_quiet hok hqu))
          rw [hok] at HO
          rw [hqu] at HQ
          clear hok hqu
          clear hc hbl
          generalize rs.getD j zeroR = r at *
          obtain ⟨key, kind, sum, st, last, n', mn, mx, total, dropped⟩ := r
          unfold R.v at HO HQ
          simp only at *
          go_upto_region 6 with fail
          refine wp_row_one ⟨key, kind, sum, st, last, n', mn, mx, total, dropped⟩ HB.out ?_
          intro u2 hr2 hb2 hk2
          clear x0 x1 x2 x3 x4 x5 x6 x7 x8 x9
          have HCL := (⟨⟨hr2.below (below_drew _ _), hb2.trans ((below_drew _ _).mono hb2.size), hk2.2⟩⟩ : HoldsC (fun W => RowAt W wr.heap.size ⟨key, kind, sum, st, last, n', mn, mx, total, dropped⟩ ∧ Below w.heap.size w W ∧ wr.heap.size < W.heap.size) _)
          have hall : ∀ p : Prop, (∀ W, HoldsC (fun W => RowAt W wr.heap.size ⟨key, kind, sum, st, last, n', mn, mx, total, dropped⟩ ∧ Below w.heap.size w W ∧ wr.heap.size < W.heap.size) W → p) ↔ p := fun p => ⟨fun h => h _ HCL, fun h _ _ => h⟩
          refine wp_region_wq (C := HoldsC (fun W => RowAt W wr.heap.size ⟨key, kind, sum, st, last, n', mn, mx, total, dropped⟩ ∧ Below w.heap.size w W ∧ wr.heap.size < W.heap.size)) (by kernel_rfl) (by kernel_rfl) HCL ?_
          repeat (refine WQ.step (fun K hK => ?_); go_simp; first | (refine hK _ ?_; clear hK K) | (apply Exists.intro; refine ⟨fun W hW => ?_, hK _ ?_⟩; (focus (first | (go_at_call 87; (with_reducible refine Calls.mono (Hid.out (HO _)) ?_); rintro e w' ⟨rfl, hb'⟩; exact ⟨rfl, ⟨hW.out.1.below hb', hW.out.2.1.trans (hb'.mono hW.out.2.1.size), Nat.lt_of_lt_of_le hW.out.2.2 hb'.size⟩⟩) | (go_at_call 88; (with_reducible refine Calls.mono (Hid.out (HQ _)) ?_); rintro e w' ⟨rfl, hb'⟩; exact ⟨rfl, ⟨hW.out.1.below hb', hW.out.2.1.trans (hb'.mono hW.out.2.1.size), Nat.lt_of_lt_of_le hW.out.2.2 hb'.size⟩⟩) | exact rfl | (obtain ⟨hWr, hWb, hWl⟩ := hW.out; obtain ⟨x0, x1, x2, x3, x4, x5, x6, x7, x8, x9, xf⟩ := hWr.get; simp only at x0 x1 x2 x3 x4 x5 x6 x7 x8 x9; go_simp; rfl))); clear hK K))
          refine WQ.nil ?_
          intro W hW
          obtain ⟨hWr, hWb, hWl⟩ := hW.out; obtain ⟨x0, x1, x2, x3, x4, x5, x6, x7, x8, x9, xf⟩ := hWr.get; simp only at x0 x1 x2 x3 x4 x5 x6 x7 x8 x9
          clear hall HCL
          go_wp2_with fail
          go_ret
          exact ⟨ret_bool HB1.out.symm, hWb⟩
        | false =>
          cases j with
          | zero =>
            have HB1 := Lib.hid (bad_first hok hqu)
            rw [hok] at HO
            rw [hqu] at HQ
            clear hok hqu
            clear hc hbl
            generalize rs.getD 0 zeroR = r at *
            obtain ⟨key, kind, sum, st, last, n', mn, mx, total, dropped⟩ := r
            unfold R.v at HO HQ
            simp only at *
            simp only [Nat.zero_mul, Nat.add_zero] at x0 x1 x2 x3 x4 x5 x6 x7 x8 x9
            go_upto_region 6 with fail
            refine wp_row_one ⟨key, kind, sum, st, last, n', mn, mx, total, dropped⟩ HB.out ?_
            intro u2 hr2 hb2 hk2
            clear x0 x1 x2 x3 x4 x5 x6 x7 x8 x9
            have HCL := (⟨⟨hr2.below (below_drew _ _), hb2.trans ((below_drew _ _).mono hb2.size), hk2.2⟩⟩ : HoldsC (fun W => RowAt W wr.heap.size ⟨key, kind, sum, st, last, n', mn, mx, total, dropped⟩ ∧ Below w.heap.size w W ∧ wr.heap.size < W.heap.size) _)
            have hall : ∀ p : Prop, (∀ W, HoldsC (fun W => RowAt W wr.heap.size ⟨key, kind, sum, st, last, n', mn, mx, total, dropped⟩ ∧ Below w.heap.size w W ∧ wr.heap.size < W.heap.size) W → p) ↔ p := fun p => ⟨fun h => h _ HCL, fun h _ _ => h⟩
            refine wp_region_wq (C := HoldsC (fun W => RowAt W wr.heap.size ⟨key, kind, sum, st, last, n', mn, mx, total, dropped⟩ ∧ Below w.heap.size w W ∧ wr.heap.size < W.heap.size)) (by kernel_rfl) (by kernel_rfl) HCL ?_
            repeat (refine WQ.step (fun K hK => ?_); go_simp; first | (refine hK _ ?_; clear hK K) | (apply Exists.intro; refine ⟨fun W hW => ?_, hK _ ?_⟩; (focus (first | (go_at_call 87; (with_reducible refine Calls.mono (Hid.out (HO _)) ?_); rintro e w' ⟨rfl, hb'⟩; exact ⟨rfl, ⟨hW.out.1.below hb', hW.out.2.1.trans (hb'.mono hW.out.2.1.size), Nat.lt_of_lt_of_le hW.out.2.2 hb'.size⟩⟩) | (go_at_call 88; (with_reducible refine Calls.mono (Hid.out (HQ _)) ?_); rintro e w' ⟨rfl, hb'⟩; exact ⟨rfl, ⟨hW.out.1.below hb', hW.out.2.1.trans (hb'.mono hW.out.2.1.size), Nat.lt_of_lt_of_le hW.out.2.2 hb'.size⟩⟩) | exact rfl | (obtain ⟨hWr, hWb, hWl⟩ := hW.out; obtain ⟨x0, x1, x2, x3, x4, x5, x6, x7, x8, x9, xf⟩ := hWr.get; simp only at x0 x1 x2 x3 x4 x5 x6 x7 x8 x9; go_simp; rfl))); clear hK K))
            refine WQ.nil ?_
            intro W hW
            obtain ⟨hWr, hWb, hWl⟩ := hW.out; obtain ⟨x0, x1, x2, x3, x4, x5, x6, x7, x8, x9, xf⟩ := hWr.get; simp only at x0 x1 x2 x3 x4 x5 x6 x7 x8 x9
            clear hall HCL
            go_wp2_with fail
            go_roundw
            case rel => exact ⟨1, by omega, by go_num, HN.out HB1.out, hWb⟩
            case measure => simp [intOf]; omega
          | succ m =>
            have hbn := bad_next hok hqu
            rw [hok] at HO
            rw [hqu] at HQ
            clear hok hqu
            have hp := ((hc m (by omega)).below hb hbl).get.1
            have i1 : (m : Int) + 1 < (n : Int) := by omega
            have i2 : (m : Int) < (n : Int) := by omega
            have i3 : ((m : Int) + 1).toNat = m + 1 := by omega
            have i4' : decide ((0 : Int) < (m : Int) + 1) = true := by rw [decide_eq_true_eq]; omega
            have i5 : (0 : Int) ≤ (m : Int) + 1 := by omega
            have i6 : (m : Int) ≤ 9223372036854775807 := by omega
            have i7 : IntKind.i64.wrap (m : Int) = (m : Int) := by rw [IntKind.wrap_i64]; omega
            cases hle : strLe (rs.getD (m + 1) zeroR).key (rs.getD m zeroR).key with
            | true =>
              have HB1 := Lib.hid (HBD.out (hbn.trans hle))
              clear hbn
              rw [le_flip] at hle
              clear hc hbl
              generalize rs.getD (m + 1) zeroR = r at *
              generalize (rs.getD m zeroR).key = pk at *
              obtain ⟨key, kind, sum, st, last, n', mn, mx, total, dropped⟩ := r
              unfold R.v at HO HQ
              simp only at *
              go_upto_region 6 with fail
              refine wp_row_one ⟨key, kind, sum, st, last, n', mn, mx, total, dropped⟩ HB.out ?_
              intro u2 hr2 hb2 hk2
              have hp2 := hk2.1 _ _ (Nat.lt_of_lt_of_le hb HB.out.size) hp
              clear x0 x1 x2 x3 x4 x5 x6 x7 x8 x9 hp
              have HCL := (⟨⟨hr2.below (below_drew _ _), hb2.trans ((below_drew _ _).mono hb2.size), hp2, hk2.2⟩⟩ : HoldsC (fun W => RowAt W wr.heap.size ⟨key, kind, sum, st, last, n', mn, mx, total, dropped⟩ ∧ Below w.heap.size w W ∧ W.cell? ⟨b, off + m * 10, none⟩ = some (.string pk) ∧ wr.heap.size < W.heap.size) _)
              have hall : ∀ p : Prop, (∀ W, HoldsC (fun W => RowAt W wr.heap.size ⟨key, kind, sum, st, last, n', mn, mx, total, dropped⟩ ∧ Below w.heap.size w W ∧ W.cell? ⟨b, off + m * 10, none⟩ = some (.string pk) ∧ wr.heap.size < W.heap.size) W → p) ↔ p := fun p => ⟨fun h => h _ HCL, fun h _ _ => h⟩
              refine wp_region_wq (C := HoldsC (fun W => RowAt W wr.heap.size ⟨key, kind, sum, st, last, n', mn, mx, total, dropped⟩ ∧ Below w.heap.size w W ∧ W.cell? ⟨b, off + m * 10, none⟩ = some (.string pk) ∧ wr.heap.size < W.heap.size)) (by kernel_rfl) (by kernel_rfl) HCL ?_
              repeat (refine WQ.step (fun K hK => ?_); go_simp; first | (refine hK _ ?_; clear hK K) | (apply Exists.intro; refine ⟨fun W hW => ?_, hK _ ?_⟩; (focus (first | (go_at_call 87; (with_reducible refine Calls.mono (Hid.out (HO _)) ?_); rintro e w' ⟨rfl, hb'⟩; exact ⟨rfl, ⟨hW.out.1.below hb', hW.out.2.1.trans (hb'.mono hW.out.2.1.size), (hb'.cell (p := ⟨b, off + m * 10, none⟩) (Nat.lt_of_lt_of_le hb hW.out.2.1.size)).trans hW.out.2.2.1, Nat.lt_of_lt_of_le hW.out.2.2.2 hb'.size⟩⟩) | (go_at_call 88; (with_reducible refine Calls.mono (Hid.out (HQ _)) ?_); rintro e w' ⟨rfl, hb'⟩; exact ⟨rfl, ⟨hW.out.1.below hb', hW.out.2.1.trans (hb'.mono hW.out.2.1.size), (hb'.cell (p := ⟨b, off + m * 10, none⟩) (Nat.lt_of_lt_of_le hb hW.out.2.1.size)).trans hW.out.2.2.1, Nat.lt_of_lt_of_le hW.out.2.2.2 hb'.size⟩⟩) | exact rfl | (obtain ⟨hWr, hWb, hWp, hWl⟩ := hW.out; obtain ⟨x0, x1, x2, x3, x4, x5, x6, x7, x8, x9, xf⟩ := hWr.get; simp only at x0 x1 x2 x3 x4 x5 x6 x7 x8 x9; go_simp; rfl))); clear hK K))
              refine WQ.nil ?_
              intro W hW
              obtain ⟨hWr, hWb, hWp, hWl⟩ := hW.out; obtain ⟨x0, x1, x2, x3, x4, x5, x6, x7, x8, x9, xf⟩ := hWr.get; simp only at x0 x1 x2 x3 x4 x5 x6 x7 x8 x9
              clear hall HCL
              go_wp2_with fail
              go_ret
              exact ⟨ret_bool HB1.out.symm, hWb⟩
            | false =>
              have HB1 := Lib.hid (hbn.trans hle)
              clear hbn
              rw [le_flip] at hle
              clear hc hbl
              generalize rs.getD (m + 1) zeroR = r at *
              generalize (rs.getD m zeroR).key = pk at *
              obtain ⟨key, kind, sum, st, last, n', mn, mx, total, dropped⟩ := r
              unfold R.v at HO HQ
              simp only at *
              go_upto_region 6 with fail
              refine wp_row_one ⟨key, kind, sum, st, last, n', mn, mx, total, dropped⟩ HB.out ?_
              intro u2 hr2 hb2 hk2
              have hp2 := hk2.1 _ _ (Nat.lt_of_lt_of_le hb HB.out.size) hp
              clear x0 x1 x2 x3 x4 x5 x6 x7 x8 x9 hp
              have HCL := (⟨⟨hr2.below (below_drew _ _), hb2.trans ((below_drew _ _).mono hb2.size), hp2, hk2.2⟩⟩ : HoldsC (fun W => RowAt W wr.heap.size ⟨key, kind, sum, st, last, n', mn, mx, total, dropped⟩ ∧ Below w.heap.size w W ∧ W.cell? ⟨b, off + m * 10, none⟩ = some (.string pk) ∧ wr.heap.size < W.heap.size) _)
              have hall : ∀ p : Prop, (∀ W, HoldsC (fun W => RowAt W wr.heap.size ⟨key, kind, sum, st, last, n', mn, mx, total, dropped⟩ ∧ Below w.heap.size w W ∧ W.cell? ⟨b, off + m * 10, none⟩ = some (.string pk) ∧ wr.heap.size < W.heap.size) W → p) ↔ p := fun p => ⟨fun h => h _ HCL, fun h _ _ => h⟩
              refine wp_region_wq (C := HoldsC (fun W => RowAt W wr.heap.size ⟨key, kind, sum, st, last, n', mn, mx, total, dropped⟩ ∧ Below w.heap.size w W ∧ W.cell? ⟨b, off + m * 10, none⟩ = some (.string pk) ∧ wr.heap.size < W.heap.size)) (by kernel_rfl) (by kernel_rfl) HCL ?_
              repeat (refine WQ.step (fun K hK => ?_); go_simp; first | (refine hK _ ?_; clear hK K) | (apply Exists.intro; refine ⟨fun W hW => ?_, hK _ ?_⟩; (focus (first | (go_at_call 87; (with_reducible refine Calls.mono (Hid.out (HO _)) ?_); rintro e w' ⟨rfl, hb'⟩; exact ⟨rfl, ⟨hW.out.1.below hb', hW.out.2.1.trans (hb'.mono hW.out.2.1.size), (hb'.cell (p := ⟨b, off + m * 10, none⟩) (Nat.lt_of_lt_of_le hb hW.out.2.1.size)).trans hW.out.2.2.1, Nat.lt_of_lt_of_le hW.out.2.2.2 hb'.size⟩⟩) | (go_at_call 88; (with_reducible refine Calls.mono (Hid.out (HQ _)) ?_); rintro e w' ⟨rfl, hb'⟩; exact ⟨rfl, ⟨hW.out.1.below hb', hW.out.2.1.trans (hb'.mono hW.out.2.1.size), (hb'.cell (p := ⟨b, off + m * 10, none⟩) (Nat.lt_of_lt_of_le hb hW.out.2.1.size)).trans hW.out.2.2.1, Nat.lt_of_lt_of_le hW.out.2.2.2 hb'.size⟩⟩) | exact rfl | (obtain ⟨hWr, hWb, hWp, hWl⟩ := hW.out; obtain ⟨x0, x1, x2, x3, x4, x5, x6, x7, x8, x9, xf⟩ := hWr.get; simp only at x0 x1 x2 x3 x4 x5 x6 x7 x8 x9; go_simp; rfl))); clear hK K))
              refine WQ.nil ?_
              intro W hW
              obtain ⟨hWr, hWb, hWp, hWl⟩ := hW.out; obtain ⟨x0, x1, x2, x3, x4, x5, x6, x7, x8, x9, xf⟩ := hWr.get; simp only at x0 x1 x2 x3 x4 x5 x6 x7 x8 x9
              clear hall HCL
              go_wp2_with fail
              go_roundw
              case rel => exact ⟨m + 1 + 1, by omega, by go_num, HN.out HB1.out, hWb⟩
              case measure => simp [intOf]; omega
    · have hjn : j = n := by omega
      subst hjn
      have HN := Lib.hid (HALL.out HG.out)
      have HB := Lib.hid hbl
      clear hbl
      go_wp2_with fail
      go_ret
      exact ⟨ret_bool HN.out.symm, HB.out⟩
end Go.Proofs.YtbhhhakfjmaglaaGreat
