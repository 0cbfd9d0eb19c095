/-
  Texts of this seat, laid together.
-/
import Derived.Test.YtnlepnfdgdbkoaaGreatDoorYMf
import Derived.Test.YtnlepnfdgdbkoaaGreatDoorYMi
import Derived.Test.YtnlepnfdgdbkoaaGreatDoorYZa
import Derived.Test.YtnlepnfdgdbkoaaGreatDoorYZb
namespace Go.Proofs.YtnlepnfdgdbkoaaGreatDoor
open Go.RowKit M
set_option linter.unusedVariables false
set_option linter.unusedSimpArgs false
theorem rowOk_own {r : R} (h : ownV r ≠ r) : rowOkV r = false := by
  cases hr : rowOkV r with
  | false => rfl
  | true =>
    exfalso; apply h
    have hk := (Bool.and_eq_true _ _ ▸ hr : _ ∧ _)
    by_cases k1 : r.kind = 1
    · have hc := rowOk_1 hk.1 k1
      rw [hr] at hc
      have := (of_decide_eq_true (hc.symm : countV r = true))
      obtain ⟨_, h1, h2, h3, h4, h5, h6, h7⟩ := this
      rw [own_1 k1]
      obtain ⟨key, kind, sum, st, last, n, mn, mx, total, dropped⟩ := r
      simp only at *
      subst h1; subst h2; subst h3; subst h4; subst h5; subst h6; subst h7; rfl
    · by_cases k2 : r.kind = 2
      · have hc := rowOk_2 hk.1 k2
        rw [hr] at hc
        have := (of_decide_eq_true (hc.symm : gaugeRV r = true))
        obtain ⟨_, _, h1, h2, h3, h4, h5, h6⟩ := this
        rw [own_2 k2]
        obtain ⟨key, kind, sum, st, last, n, mn, mx, total, dropped⟩ := r
        simp only at *
        subst h1; subst h2; subst h3; subst h4; subst h5; subst h6; rfl
      · by_cases k3 : r.kind = 3
        · have hc := rowOk_3 hk.1 k3
          rw [hr] at hc
          obtain ⟨h1, h2, h3⟩ := of_decide_eq_true (Bool.and_eq_true _ _ ▸ hc.symm : _ ∧ _).1
          rw [own_3 k3]
          obtain ⟨key, kind, sum, st, last, n, mn, mx, total, dropped⟩ := r
          simp only at *
          subst h1; subst h2; subst h3; rfl
        · rw [rowOk_no (by omega)] at hr; cases hr
theorem isW_decide (x : Int) : isW x = decide (0 ≤ x ∧ x ≤ 281474976710655) := by unfold isW; simp
theorem cnt_own {key : ByteArray} {sum : Int} (hk : keyOkV key = true) : rowOkV ⟨key, 1, sum, false, 0, 0, 0, 0, 0, 0⟩ = isW sum := by rw [rowOk_1 hk rfl, isW_decide]; unfold countV; simp
theorem gau_own {key : ByteArray} {st : Bool} {last : Int} (hk : keyOkV key = true) : rowOkV ⟨key, 2, 0, st, last, 0, 0, 0, 0, 0⟩ = decide ((0 ≤ last ∧ last ≤ 65535) ∧ (st = true ∨ last = 0)) := by rw [rowOk_2 hk rfl]; unfold gaugeRV; simp
theorem tim_own {key : ByteArray} {n mn mx total dropped : Int} (hk : keyOkV key = true) : rowOkV ⟨key, 3, 0, false, 0, n, mn, mx, total, dropped⟩ = timerV ⟨key, 3, 0, false, 0, n, mn, mx, total, dropped⟩ := by rw [rowOk_3 hk rfl]; simp
set_option maxRecDepth 100000 in
set_option maxHeartbeats 4000000 in
theorem iRowOk_any (w : World) (r : R) (h : r.Fit) : Calls Tryz.prog 149 #[r.v] w (Gives (.bool (rowOkV r)) w) := by
  have HO := fun W => Lib.hid (iKeyOk_same W r.key h.key)
  have HN := fun W => Lib.hid (iOwn_any W r)
  clear h
  cases hk : keyOkV r.key with
  | false =>
    have HE := Lib.hid (rowOk_key hk)
    rw [hk] at HO
    clear hk HN
    generalize rowOkV r = q at *
    obtain ⟨key, kind, sum, st, last, n, mn, mx, total, dropped⟩ := r
    unfold R.v
    simp only at *
    go_enter Tryz.func149, Tryz.ntmps149
    go_upto_region 1 with fail
    have hr0 : RowAt (w.alloc (.cells (rowCells ⟨key, kind, sum, st, last, n, mn, mx, total, dropped⟩) 55)) w.heap.size ⟨key, kind, sum, st, last, n, mn, mx, total, dropped⟩ := rowAt_new w _ _ rfl
    have hb0 : Below w.heap.size w (w.alloc (.cells (rowCells ⟨key, kind, sum, st, last, n, mn, mx, total, dropped⟩) 55)) := (Below.refl _ _).alloc (Nat.le_refl _) _
    have HCL := (⟨⟨hr0.below (below_drew _ _), hb0.trans ((below_drew _ _).mono hb0.size)⟩⟩ : HoldsC (fun W => RowAt W w.heap.size ⟨key, kind, sum, st, last, n, mn, mx, total, dropped⟩ ∧ Below w.heap.size w W) _)
    have hall : ∀ p : Prop, (∀ W, HoldsC (fun W => RowAt W w.heap.size ⟨key, kind, sum, st, last, n, mn, mx, total, dropped⟩ ∧ Below w.heap.size w W) W → p) ↔ p := fun p => ⟨fun h => h _ HCL, fun h _ _ => h⟩
    refine wp_region_wq (C := HoldsC (fun W => RowAt W w.heap.size ⟨key, kind, sum, st, last, n, mn, mx, total, dropped⟩ ∧ Below w.heap.size w W)) (by kernel_rfl) (by kernel_rfl) HCL ?_
    repeat (refine WQ.step (fun K hK => ?_); go_simp; first | (refine hK _ ?_; clear hK K) | (apply Exists.intro; refine ⟨fun W hW => ?_, hK _ ?_⟩; (focus (first | (go_at_call 68; (with_reducible refine Calls.mono (Hid.out (HO _)) ?_); rintro e w' ⟨rfl, rfl⟩; exact ⟨rfl, hW⟩) | exact rfl | (obtain ⟨hWr, hWb⟩ := hW.out; obtain ⟨x0, x1, x2, x3, x4, x5, x6, x7, x8, x9, xf⟩ := hWr.get; simp only at x0 x1 x2 x3 x4 x5 x6 x7 x8 x9; go_simp; rfl))); clear hK K))
    refine WQ.nil ?_
    intro W hW
    obtain ⟨hWr, hWb⟩ := hW.out; obtain ⟨x0, x1, x2, x3, x4, x5, x6, x7, x8, x9, xf⟩ := hWr.get; simp only at x0 x1 x2 x3 x4 x5 x6 x7 x8 x9
    clear hall HCL
    go_wp2_with fail
    go_ret
    exact ⟨ret_bool (by rw [HE.out]), hWb⟩
  | true =>
    rw [hk] at HO
    by_cases ho : ownV r = r
    case neg =>
      have HE := Lib.hid (rowOk_own ho)
      have hne := fun W => neq_row W r (ownV r) (fun e => ho e.symm)
      clear hk ho
      generalize rowOkV r = q at *
      generalize ownV r = s at *
      obtain ⟨key, kind, sum, st, last, n, mn, mx, total, dropped⟩ := r
      obtain ⟨y0, y1, y2, y3, y4, y5, y6, y7, y8, y9⟩ := s
      unfold R.v at *
      simp only at *
      go_enter Tryz.func149, Tryz.ntmps149
      go_upto_region 1 with fail
      have hr0 : RowAt (w.alloc (.cells (rowCells ⟨key, kind, sum, st, last, n, mn, mx, total, dropped⟩) 55)) w.heap.size ⟨key, kind, sum, st, last, n, mn, mx, total, dropped⟩ := rowAt_new w _ _ rfl
      have hb0 : Below w.heap.size w (w.alloc (.cells (rowCells ⟨key, kind, sum, st, last, n, mn, mx, total, dropped⟩) 55)) := (Below.refl _ _).alloc (Nat.le_refl _) _
      have HCL := (⟨⟨hr0.below (below_drew _ _), hb0.trans ((below_drew _ _).mono hb0.size)⟩⟩ : HoldsC (fun W => RowAt W w.heap.size ⟨key, kind, sum, st, last, n, mn, mx, total, dropped⟩ ∧ Below w.heap.size w W) _)
      have hall : ∀ p : Prop, (∀ W, HoldsC (fun W => RowAt W w.heap.size ⟨key, kind, sum, st, last, n, mn, mx, total, dropped⟩ ∧ Below w.heap.size w W) W → p) ↔ p := fun p => ⟨fun h => h _ HCL, fun h _ _ => h⟩
      refine wp_region_wq (C := HoldsC (fun W => RowAt W w.heap.size ⟨key, kind, sum, st, last, n, mn, mx, total, dropped⟩ ∧ Below w.heap.size w W)) (by kernel_rfl) (by kernel_rfl) HCL ?_
      repeat (refine WQ.step (fun K hK => ?_); go_simp; first | (refine hK _ ?_; clear hK K) | (apply Exists.intro; refine ⟨fun W hW => ?_, hK _ ?_⟩; (focus (first | (go_at_call 68; (with_reducible refine Calls.mono (Hid.out (HO _)) ?_); rintro e w' ⟨rfl, rfl⟩; exact ⟨rfl, hW⟩) | (go_at_call 155; (with_reducible refine Calls.mono (Hid.out (HN _)) ?_); rintro e w' ⟨rfl, hb'⟩; exact ⟨rfl, ⟨hW.out.1.below hb', hW.out.2.trans (hb'.mono hW.out.2.size)⟩⟩) | exact rfl | (obtain ⟨hWr, hWb⟩ := hW.out; obtain ⟨x0, x1, x2, x3, x4, x5, x6, x7, x8, x9, xf⟩ := hWr.get; simp only at x0 x1 x2 x3 x4 x5 x6 x7 x8 x9; go_simp; rfl))); clear hK K))
      refine WQ.nil ?_
      intro W hW
      obtain ⟨hWr, hWb⟩ := hW.out; obtain ⟨x0, x1, x2, x3, x4, x5, x6, x7, x8, x9, xf⟩ := hWr.get; simp only at x0 x1 x2 x3 x4 x5 x6 x7 x8 x9
      clear hall HCL
      go_wp2_with fail
      go_ret
      exact ⟨ret_bool (by rw [HE.out]), hWb⟩
    rw [ho] at HN
    by_cases k1 : r.kind = 1
    case pos =>
      rw [own_1 k1] at ho
      obtain ⟨key, kind, sum, st, last, n, mn, mx, total, dropped⟩ := r
      simp only at k1
      subst k1
      simp only [R.mk.injEq, true_and, and_true] at ho
      obtain ⟨rfl, rfl, rfl, rfl, rfl, rfl, rfl⟩ := ho
      have HE := Lib.hid (cnt_own (key := key) (sum := sum) hk)
      clear hk
      generalize rowOkV ⟨key, 1, sum, false, 0, 0, 0, 0, 0, 0⟩ = q at *
      unfold R.v at *
      simp only at *
      cases hw : isW sum
      · rw [hw] at HE
        have HW := fun W => Lib.hid (isWord_no sum W hw)
        clear hw
        go_enter Tryz.func149, Tryz.ntmps149
        go_upto_region 1 with fail
        have hr0 : RowAt (w.alloc (.cells (rowCells ⟨key, 1, sum, false, 0, 0, 0, 0, 0, 0⟩) 55)) w.heap.size ⟨key, 1, sum, false, 0, 0, 0, 0, 0, 0⟩ := rowAt_new w _ _ rfl
        have hb0 : Below w.heap.size w (w.alloc (.cells (rowCells ⟨key, 1, sum, false, 0, 0, 0, 0, 0, 0⟩) 55)) := (Below.refl _ _).alloc (Nat.le_refl _) _
        have HCL := (⟨⟨hr0.below (below_drew _ _), hb0.trans ((below_drew _ _).mono hb0.size)⟩⟩ : HoldsC (fun W => RowAt W w.heap.size ⟨key, 1, sum, false, 0, 0, 0, 0, 0, 0⟩ ∧ Below w.heap.size w W) _)
        have hall : ∀ p : Prop, (∀ W, HoldsC (fun W => RowAt W w.heap.size ⟨key, 1, sum, false, 0, 0, 0, 0, 0, 0⟩ ∧ Below w.heap.size w W) W → p) ↔ p := fun p => ⟨fun h => h _ HCL, fun h _ _ => h⟩
        refine wp_region_wq (C := HoldsC (fun W => RowAt W w.heap.size ⟨key, 1, sum, false, 0, 0, 0, 0, 0, 0⟩ ∧ Below w.heap.size w W)) (by kernel_rfl) (by kernel_rfl) HCL ?_
        repeat (refine WQ.step (fun K hK => ?_); go_simp; first | (refine hK _ ?_; clear hK K) | (apply Exists.intro; refine ⟨fun W hW => ?_, hK _ ?_⟩; (focus (first | (go_at_call 68; (with_reducible refine Calls.mono (Hid.out (HO _)) ?_); rintro e w' ⟨rfl, rfl⟩; exact ⟨rfl, hW⟩) | (go_at_call 155; (with_reducible refine Calls.mono (Hid.out (HN _)) ?_); rintro e w' ⟨rfl, hb'⟩; exact ⟨rfl, ⟨hW.out.1.below hb', hW.out.2.trans (hb'.mono hW.out.2.size)⟩⟩) | exact rfl | (obtain ⟨hWr, hWb⟩ := hW.out; obtain ⟨x0, x1, x2, x3, x4, x5, x6, x7, x8, x9, xf⟩ := hWr.get; simp only at x0 x1 x2 x3 x4 x5 x6 x7 x8 x9; go_simp; rfl))); clear hK K))
        refine WQ.nil ?_
        intro W hW
        obtain ⟨hWr, hWb⟩ := hW.out; obtain ⟨x0, x1, x2, x3, x4, x5, x6, x7, x8, x9, xf⟩ := hWr.get; simp only at x0 x1 x2 x3 x4 x5 x6 x7 x8 x9
        clear hall HCL
        go_wp2_with (go_at_call 58; refine (HW _).out.mono ?_; rintro e w' ⟨rfl, rfl⟩)
        go_ret
        exact ⟨ret_bool (by rw [HE.out]), hWb⟩
      · rw [hw] at HE
        have HW := fun W => Lib.hid (isWord_yes sum W hw)
        clear hw
        go_enter Tryz.func149, Tryz.ntmps149
        go_upto_region 1 with fail
        have hr0 : RowAt (w.alloc (.cells (rowCells ⟨key, 1, sum, false, 0, 0, 0, 0, 0, 0⟩) 55)) w.heap.size ⟨key, 1, sum, false, 0, 0, 0, 0, 0, 0⟩ := rowAt_new w _ _ rfl
        have hb0 : Below w.heap.size w (w.alloc (.cells (rowCells ⟨key, 1, sum, false, 0, 0, 0, 0, 0, 0⟩) 55)) := (Below.refl _ _).alloc (Nat.le_refl _) _
        have HCL := (⟨⟨hr0.below (below_drew _ _), hb0.trans ((below_drew _ _).mono hb0.size)⟩⟩ : HoldsC (fun W => RowAt W w.heap.size ⟨key, 1, sum, false, 0, 0, 0, 0, 0, 0⟩ ∧ Below w.heap.size w W) _)
        have hall : ∀ p : Prop, (∀ W, HoldsC (fun W => RowAt W w.heap.size ⟨key, 1, sum, false, 0, 0, 0, 0, 0, 0⟩ ∧ Below w.heap.size w W) W → p) ↔ p := fun p => ⟨fun h => h _ HCL, fun h _ _ => h⟩
        refine wp_region_wq (C := HoldsC (fun W => RowAt W w.heap.size ⟨key, 1, sum, false, 0, 0, 0, 0, 0, 0⟩ ∧ Below w.heap.size w W)) (by kernel_rfl) (by kernel_rfl) HCL ?_
        repeat (refine WQ.step (fun K hK => ?_); go_simp; first | (refine hK _ ?_; clear hK K) | (apply Exists.intro; refine ⟨fun W hW => ?_, hK _ ?_⟩; (focus (first | (go_at_call 68; (with_reducible refine Calls.mono (Hid.out (HO _)) ?_); rintro e w' ⟨rfl, rfl⟩; exact ⟨rfl, hW⟩) | (go_at_call 155; (with_reducible refine Calls.mono (Hid.out (HN _)) ?_); rintro e w' ⟨rfl, hb'⟩; exact ⟨rfl, ⟨hW.out.1.below hb', hW.out.2.trans (hb'.mono hW.out.2.size)⟩⟩) | exact rfl | (obtain ⟨hWr, hWb⟩ := hW.out; obtain ⟨x0, x1, x2, x3, x4, x5, x6, x7, x8, x9, xf⟩ := hWr.get; simp only at x0 x1 x2 x3 x4 x5 x6 x7 x8 x9; go_simp; rfl))); clear hK K))
        refine WQ.nil ?_
        intro W hW
        obtain ⟨hWr, hWb⟩ := hW.out; obtain ⟨x0, x1, x2, x3, x4, x5, x6, x7, x8, x9, xf⟩ := hWr.get; simp only at x0 x1 x2 x3 x4 x5 x6 x7 x8 x9
        clear hall HCL
        go_wp2_with (go_at_call 58; refine (HW _).out.mono ?_; rintro e w' ⟨rfl, rfl⟩)
        go_ret
        exact ⟨ret_bool (by rw [HE.out]), hWb⟩
    by_cases k2 : r.kind = 2
    case pos =>
      rw [own_2 k2] at ho
      obtain ⟨key, kind, sum, st, last, n, mn, mx, total, dropped⟩ := r
      simp only at k2
      subst k2
      simp only [R.mk.injEq, true_and, and_true] at ho
      obtain ⟨rfl, rfl, rfl, rfl, rfl, rfl⟩ := ho
      have HE := Lib.hid (gau_own (key := key) (st := st) (last := last) hk)
      clear hk
      generalize rowOkV ⟨key, 2, 0, st, last, 0, 0, 0, 0, 0⟩ = q at *
      unfold R.v at *
      simp only at *
      by_cases hl : 0 ≤ last ∧ last ≤ 65535
      case neg =>
        have HV := fun W => Lib.hid (isValue_no last W hl)
        have HE2 := Lib.hid (HE.out.trans (decide_eq_false fun x => hl x.1))
        clear hl HE
        go_enter Tryz.func149, Tryz.ntmps149
        go_upto_region 1 with fail
        have hr0 : RowAt (w.alloc (.cells (rowCells ⟨key, 2, 0, st, last, 0, 0, 0, 0, 0⟩) 55)) w.heap.size ⟨key, 2, 0, st, last, 0, 0, 0, 0, 0⟩ := rowAt_new w _ _ rfl
        have hb0 : Below w.heap.size w (w.alloc (.cells (rowCells ⟨key, 2, 0, st, last, 0, 0, 0, 0, 0⟩) 55)) := (Below.refl _ _).alloc (Nat.le_refl _) _
        have HCL := (⟨⟨hr0.below (below_drew _ _), hb0.trans ((below_drew _ _).mono hb0.size)⟩⟩ : HoldsC (fun W => RowAt W w.heap.size ⟨key, 2, 0, st, last, 0, 0, 0, 0, 0⟩ ∧ Below w.heap.size w W) _)
        have hall : ∀ p : Prop, (∀ W, HoldsC (fun W => RowAt W w.heap.size ⟨key, 2, 0, st, last, 0, 0, 0, 0, 0⟩ ∧ Below w.heap.size w W) W → p) ↔ p := fun p => ⟨fun h => h _ HCL, fun h _ _ => h⟩
        refine wp_region_wq (C := HoldsC (fun W => RowAt W w.heap.size ⟨key, 2, 0, st, last, 0, 0, 0, 0, 0⟩ ∧ Below w.heap.size w W)) (by kernel_rfl) (by kernel_rfl) HCL ?_
        repeat (refine WQ.step (fun K hK => ?_); go_simp; first | (refine hK _ ?_; clear hK K) | (apply Exists.intro; refine ⟨fun W hW => ?_, hK _ ?_⟩; (focus (first | (go_at_call 68; (with_reducible refine Calls.mono (Hid.out (HO _)) ?_); rintro e w' ⟨rfl, rfl⟩; exact ⟨rfl, hW⟩) | (go_at_call 155; (with_reducible refine Calls.mono (Hid.out (HN _)) ?_); rintro e w' ⟨rfl, hb'⟩; exact ⟨rfl, ⟨hW.out.1.below hb', hW.out.2.trans (hb'.mono hW.out.2.size)⟩⟩) | exact rfl | (obtain ⟨hWr, hWb⟩ := hW.out; obtain ⟨x0, x1, x2, x3, x4, x5, x6, x7, x8, x9, xf⟩ := hWr.get; simp only at x0 x1 x2 x3 x4 x5 x6 x7 x8 x9; go_simp; rfl))); clear hK K))
        refine WQ.nil ?_
        intro W hW
        obtain ⟨hWr, hWb⟩ := hW.out; obtain ⟨x0, x1, x2, x3, x4, x5, x6, x7, x8, x9, xf⟩ := hWr.get; simp only at x0 x1 x2 x3 x4 x5 x6 x7 x8 x9
        clear hall HCL
        go_wp2_with (go_at_call 70; refine (HV _).out.mono ?_; rintro e w' ⟨rfl, rfl⟩)
        go_ret
        exact ⟨ret_bool (by rw [HE2.out]), hWb⟩
      have HV := fun W => Lib.hid (isValue_yes last W hl.1 hl.2)
      have h0 : (last == 0) = decide (last = 0) := beq0 last
      have HE2 := Lib.hid (HE.out.trans (show _ = (st || decide (last = 0)) by cases st <;> simp [hl]))
      clear hl HE
      cases st
      · skip
        generalize decide (last = 0) = q0 at *
        go_enter Tryz.func149, Tryz.ntmps149
        go_upto_region 1 with fail
        have hr0 : RowAt (w.alloc (.cells (rowCells ⟨key, 2, 0, false, last, 0, 0, 0, 0, 0⟩) 55)) w.heap.size ⟨key, 2, 0, false, last, 0, 0, 0, 0, 0⟩ := rowAt_new w _ _ rfl
        have hb0 : Below w.heap.size w (w.alloc (.cells (rowCells ⟨key, 2, 0, false, last, 0, 0, 0, 0, 0⟩) 55)) := (Below.refl _ _).alloc (Nat.le_refl _) _
        have HCL := (⟨⟨hr0.below (below_drew _ _), hb0.trans ((below_drew _ _).mono hb0.size)⟩⟩ : HoldsC (fun W => RowAt W w.heap.size ⟨key, 2, 0, false, last, 0, 0, 0, 0, 0⟩ ∧ Below w.heap.size w W) _)
        have hall : ∀ p : Prop, (∀ W, HoldsC (fun W => RowAt W w.heap.size ⟨key, 2, 0, false, last, 0, 0, 0, 0, 0⟩ ∧ Below w.heap.size w W) W → p) ↔ p := fun p => ⟨fun h => h _ HCL, fun h _ _ => h⟩
        refine wp_region_wq (C := HoldsC (fun W => RowAt W w.heap.size ⟨key, 2, 0, false, last, 0, 0, 0, 0, 0⟩ ∧ Below w.heap.size w W)) (by kernel_rfl) (by kernel_rfl) HCL ?_
        repeat (refine WQ.step (fun K hK => ?_); go_simp; first | (refine hK _ ?_; clear hK K) | (apply Exists.intro; refine ⟨fun W hW => ?_, hK _ ?_⟩; (focus (first | (go_at_call 68; (with_reducible refine Calls.mono (Hid.out (HO _)) ?_); rintro e w' ⟨rfl, rfl⟩; exact ⟨rfl, hW⟩) | (go_at_call 155; (with_reducible refine Calls.mono (Hid.out (HN _)) ?_); rintro e w' ⟨rfl, hb'⟩; exact ⟨rfl, ⟨hW.out.1.below hb', hW.out.2.trans (hb'.mono hW.out.2.size)⟩⟩) | exact rfl | (obtain ⟨hWr, hWb⟩ := hW.out; obtain ⟨x0, x1, x2, x3, x4, x5, x6, x7, x8, x9, xf⟩ := hWr.get; simp only at x0 x1 x2 x3 x4 x5 x6 x7 x8 x9; go_simp; rfl))); clear hK K))
        refine WQ.nil ?_
        intro W hW
        obtain ⟨hWr, hWb⟩ := hW.out; obtain ⟨x0, x1, x2, x3, x4, x5, x6, x7, x8, x9, xf⟩ := hWr.get; simp only at x0 x1 x2 x3 x4 x5 x6 x7 x8 x9
        clear hall HCL
        go_wp2_with (go_at_call 70; refine (HV _).out.mono ?_; rintro e w' ⟨rfl, rfl⟩)
        go_ret
        exact ⟨ret_bool (by rw [HE2.out]; simp_all), hWb⟩
      · skip
        go_enter Tryz.func149, Tryz.ntmps149
        go_upto_region 1 with fail
        have hr0 : RowAt (w.alloc (.cells (rowCells ⟨key, 2, 0, true, last, 0, 0, 0, 0, 0⟩) 55)) w.heap.size ⟨key, 2, 0, true, last, 0, 0, 0, 0, 0⟩ := rowAt_new w _ _ rfl
        have hb0 : Below w.heap.size w (w.alloc (.cells (rowCells ⟨key, 2, 0, true, last, 0, 0, 0, 0, 0⟩) 55)) := (Below.refl _ _).alloc (Nat.le_refl _) _
        have HCL := (⟨⟨hr0.below (below_drew _ _), hb0.trans ((below_drew _ _).mono hb0.size)⟩⟩ : HoldsC (fun W => RowAt W w.heap.size ⟨key, 2, 0, true, last, 0, 0, 0, 0, 0⟩ ∧ Below w.heap.size w W) _)
        have hall : ∀ p : Prop, (∀ W, HoldsC (fun W => RowAt W w.heap.size ⟨key, 2, 0, true, last, 0, 0, 0, 0, 0⟩ ∧ Below w.heap.size w W) W → p) ↔ p := fun p => ⟨fun h => h _ HCL, fun h _ _ => h⟩
        refine wp_region_wq (C := HoldsC (fun W => RowAt W w.heap.size ⟨key, 2, 0, true, last, 0, 0, 0, 0, 0⟩ ∧ Below w.heap.size w W)) (by kernel_rfl) (by kernel_rfl) HCL ?_
        repeat (refine WQ.step (fun K hK => ?_); go_simp; first | (refine hK _ ?_; clear hK K) | (apply Exists.intro; refine ⟨fun W hW => ?_, hK _ ?_⟩; (focus (first | (go_at_call 68; (with_reducible refine Calls.mono (Hid.out (HO _)) ?_); rintro e w' ⟨rfl, rfl⟩; exact ⟨rfl, hW⟩) | (go_at_call 155; (with_reducible refine Calls.mono (Hid.out (HN _)) ?_); rintro e w' ⟨rfl, hb'⟩; exact ⟨rfl, ⟨hW.out.1.below hb', hW.out.2.trans (hb'.mono hW.out.2.size)⟩⟩) | exact rfl | (obtain ⟨hWr, hWb⟩ := hW.out; obtain ⟨x0, x1, x2, x3, x4, x5, x6, x7, x8, x9, xf⟩ := hWr.get; simp only at x0 x1 x2 x3 x4 x5 x6 x7 x8 x9; go_simp; rfl))); clear hK K))
        refine WQ.nil ?_
        intro W hW
        obtain ⟨hWr, hWb⟩ := hW.out; obtain ⟨x0, x1, x2, x3, x4, x5, x6, x7, x8, x9, xf⟩ := hWr.get; simp only at x0 x1 x2 x3 x4 x5 x6 x7 x8 x9
        clear hall HCL
        go_wp2_with (go_at_call 70; refine (HV _).out.mono ?_; rintro e w' ⟨rfl, rfl⟩)
        go_ret
        exact ⟨ret_bool (by rw [HE2.out]; rfl), hWb⟩
    by_cases k3 : r.kind = 3
    case pos =>
      rw [own_3 k3] at ho
      obtain ⟨key, kind, sum, st, last, n, mn, mx, total, dropped⟩ := r
      simp only at k3
      subst k3
      simp only [R.mk.injEq, true_and, and_true] at ho
      obtain ⟨rfl, rfl, rfl⟩ := ho
      have HE := Lib.hid (tim_own (key := key) (n := n) (mn := mn) (mx := mx) (total := total) (dropped := dropped) hk)
      have HS := fun W => Lib.hid (iSamples_any W ⟨key, 3, 0, false, 0, n, mn, mx, total, dropped⟩)
      clear hk
      generalize rowOkV ⟨key, 3, 0, false, 0, n, mn, mx, total, dropped⟩ = q at *
      generalize timerV ⟨key, 3, 0, false, 0, n, mn, mx, total, dropped⟩ = tv at *
      unfold R.v at *
      simp only at *
      go_enter Tryz.func149, Tryz.ntmps149
      go_upto_region 1 with fail
      have hr0 : RowAt (w.alloc (.cells (rowCells ⟨key, 3, 0, false, 0, n, mn, mx, total, dropped⟩) 55)) w.heap.size ⟨key, 3, 0, false, 0, n, mn, mx, total, dropped⟩ := rowAt_new w _ _ rfl
      have hb0 : Below w.heap.size w (w.alloc (.cells (rowCells ⟨key, 3, 0, false, 0, n, mn, mx, total, dropped⟩) 55)) := (Below.refl _ _).alloc (Nat.le_refl _) _
      have HCL := (⟨⟨hr0.below (below_drew _ _), hb0.trans ((below_drew _ _).mono hb0.size)⟩⟩ : HoldsC (fun W => RowAt W w.heap.size ⟨key, 3, 0, false, 0, n, mn, mx, total, dropped⟩ ∧ Below w.heap.size w W) _)
      have hall : ∀ p : Prop, (∀ W, HoldsC (fun W => RowAt W w.heap.size ⟨key, 3, 0, false, 0, n, mn, mx, total, dropped⟩ ∧ Below w.heap.size w W) W → p) ↔ p := fun p => ⟨fun h => h _ HCL, fun h _ _ => h⟩
      refine wp_region_wq (C := HoldsC (fun W => RowAt W w.heap.size ⟨key, 3, 0, false, 0, n, mn, mx, total, dropped⟩ ∧ Below w.heap.size w W)) (by kernel_rfl) (by kernel_rfl) HCL ?_
      repeat (refine WQ.step (fun K hK => ?_); go_simp; first | (refine hK _ ?_; clear hK K) | (apply Exists.intro; refine ⟨fun W hW => ?_, hK _ ?_⟩; (focus (first | (go_at_call 68; (with_reducible refine Calls.mono (Hid.out (HO _)) ?_); rintro e w' ⟨rfl, rfl⟩; exact ⟨rfl, hW⟩) | (go_at_call 155; (with_reducible refine Calls.mono (Hid.out (HN _)) ?_); rintro e w' ⟨rfl, hb'⟩; exact ⟨rfl, ⟨hW.out.1.below hb', hW.out.2.trans (hb'.mono hW.out.2.size)⟩⟩) | exact rfl | (obtain ⟨hWr, hWb⟩ := hW.out; obtain ⟨x0, x1, x2, x3, x4, x5, x6, x7, x8, x9, xf⟩ := hWr.get; simp only at x0 x1 x2 x3 x4 x5 x6 x7 x8 x9; go_simp; rfl))); clear hK K))
      refine WQ.nil ?_
      intro W hW
      obtain ⟨hWr, hWb⟩ := hW.out; obtain ⟨x0, x1, x2, x3, x4, x5, x6, x7, x8, x9, xf⟩ := hWr.get; simp only at x0 x1 x2 x3 x4 x5 x6 x7 x8 x9
      clear hall HCL
      go_wp2_with fail
      refine (HS _).out.mono ?_
      rintro e w2 ⟨rfl, hb2⟩
      go_wp2_with fail
      go_ret
      exact ⟨ret_bool (by rw [HE.out]), hWb.trans (hb2.mono hWb.size)⟩
    have HE := Lib.hid (rowOk_no (r := r) (by omega))
    have t1 : (r.kind == 1) = false := by rw [beq_eq_false_iff_ne]; exact k1
    have t2 : (r.kind == 2) = false := by rw [beq_eq_false_iff_ne]; exact k2
    have t3 : (r.kind == 3) = false := by rw [beq_eq_false_iff_ne]; exact k3
    clear hk k1 k2 k3 ho
    generalize rowOkV r = q at *
    obtain ⟨key, kind, sum, st, last, n, mn, mx, total, dropped⟩ := r
    unfold R.v at *
    simp only at *
    go_enter Tryz.func149, Tryz.ntmps149
    go_upto_region 1 with fail
    have hr0 : RowAt (w.alloc (.cells (rowCells ⟨key, kind, sum, st, last, n, mn, mx, total, dropped⟩) 55)) w.heap.size ⟨key, kind, sum, st, last, n, mn, mx, total, dropped⟩ := rowAt_new w _ _ rfl
    have hb0 : Below w.heap.size w (w.alloc (.cells (rowCells ⟨key, kind, sum, st, last, n, mn, mx, total, dropped⟩) 55)) := (Below.refl _ _).alloc (Nat.le_refl _) _
    have HCL := (⟨⟨hr0.below (below_drew _ _), hb0.trans ((below_drew _ _).mono hb0.size)⟩⟩ : HoldsC (fun W => RowAt W w.heap.size ⟨key, kind, sum, st, last, n, mn, mx, total, dropped⟩ ∧ Below w.heap.size w W) _)
    have hall : ∀ p : Prop, (∀ W, HoldsC (fun W => RowAt W w.heap.size ⟨key, kind, sum, st, last, n, mn, mx, total, dropped⟩ ∧ Below w.heap.size w W) W → p) ↔ p := fun p => ⟨fun h => h _ HCL, fun h _ _ => h⟩
    refine wp_region_wq (C := HoldsC (fun W => RowAt W w.heap.size ⟨key, kind, sum, st, last, n, mn, mx, total, dropped⟩ ∧ Below w.heap.size w W)) (by kernel_rfl) (by kernel_rfl) HCL ?_
    repeat (refine WQ.step (fun K hK => ?_); go_simp; first | (refine hK _ ?_; clear hK K) | (apply Exists.intro; refine ⟨fun W hW => ?_, hK _ ?_⟩; (focus (first | (go_at_call 68; (with_reducible refine Calls.mono (Hid.out (HO _)) ?_); rintro e w' ⟨rfl, rfl⟩; exact ⟨rfl, hW⟩) | (go_at_call 155; (with_reducible refine Calls.mono (Hid.out (HN _)) ?_); rintro e w' ⟨rfl, hb'⟩; exact ⟨rfl, ⟨hW.out.1.below hb', hW.out.2.trans (hb'.mono hW.out.2.size)⟩⟩) | exact rfl | (obtain ⟨hWr, hWb⟩ := hW.out; obtain ⟨x0, x1, x2, x3, x4, x5, x6, x7, x8, x9, xf⟩ := hWr.get; simp only at x0 x1 x2 x3 x4 x5 x6 x7 x8 x9; go_simp; rfl))); clear hK K))
    refine WQ.nil ?_
    intro W hW
    obtain ⟨hWr, hWb⟩ := hW.out; obtain ⟨x0, x1, x2, x3, x4, x5, x6, x7, x8, x9, xf⟩ := hWr.get; simp only at x0 x1 x2 x3 x4 x5 x6 x7 x8 x9
    clear hall HCL
    go_wp2_with fail
    go_ret
    exact ⟨ret_bool (by rw [HE.out]), hWb⟩
end Go.Proofs.YtnlepnfdgdbkoaaGreatDoor
