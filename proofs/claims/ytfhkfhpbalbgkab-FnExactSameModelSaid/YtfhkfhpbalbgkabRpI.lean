/-
  Chapter 7 on rows of rows, the program's: ReportOk and SameReport answer what the plain words say.
-/
import Derived.Test.YtfhkfhpbalbgkabZb
import Derived.Test.YtfhkfhpbalbgkabRowN
import Derived.Test.YtfhkfhpbalbgkabZa
namespace Go.Proofs.Ytfhkfhpbalbgkab
open Go.RowKit M
set_option linter.unusedVariables false
theorem sameRV_nl {xs ys : List R} (hl : xs.length ≠ ys.length) : sameRV xs ys = false := sameRV_len hl
/-- Comparing strings the other way round. -/
theorem bl_flip' (x y : List UInt8) : (!(Go.Op.bytesLess x y || x == y)) = Go.Op.bytesLess y x := by
  induction x generalizing y with
  | nil => cases y <;> rfl
  | cons a x ih =>
    cases y with
    | nil => rfl
    | cons b y =>
      have := ih y
      simp only [Go.Op.bytesLess, List.cons_beq_cons]
      rcases Nat.lt_trichotomy a.toNat b.toNat with h | h | h
      · have h1 : a < b := h
        have h2 : ¬ b < a := fun k => by have : b.toNat < a.toNat := k; omega
        have h3 : (a == b) = false := by rw [beq_eq_false_iff_ne]; intro e; rw [e] at h; omega
        have h4 : (b == a) = false := by rw [beq_eq_false_iff_ne]; intro e; rw [e] at h; omega
        simp [h1, h2, h3, h4]
      · have h1 : a = b := UInt8.toNat_inj.1 h
        subst h1
        have h2 : ¬ a < a := fun k => by have : a.toNat < a.toNat := k; omega
        simp only [h2, decide_false, Bool.false_or, beq_self_eq_true, Bool.true_and]
        exact this
      · have h1 : b < a := h
        have h2 : ¬ a < b := fun k => by have : a.toNat < b.toNat := k; omega
        have h3 : (a == b) = false := by rw [beq_eq_false_iff_ne]; intro e; rw [e] at h; omega
        simp [h1, h2, h3]
/-- A row laid into a new block. -/
theorem wp_row_one {C : Go.Code} {Q : Exit → Act → World → Prop} {a : Act} {w u : World} (r : R) (hb : Below w.heap.size w u)
    (k : ∀ u', RowAt u' u.heap.size r → Below w.heap.size w u' → ((∀ (p : Addr) (c : Value), p.block < u.heap.size → u.cell? p = some c → u'.cell? p = some c) ∧ u.heap.size < u'.heap.size) → Code.wp Try.prog C Q a u') : Code.wp Try.prog C Q a (u.alloc (.cells (rowCells r) 36)) :=
  k _ (rowAt_new u _ r rfl) (hb.alloc hb.size _) ⟨fun p c hp hc => (((Below.refl u.heap.size u).alloc (Nat.le_refl _) _).cell (p := p) hp).trans hc, by simp [go_sem]⟩
set_option maxRecDepth 100000 in
set_option maxHeartbeats 4000000 in
theorem iEqualRow_any (w : World) (v u : Value) (xs ys : List R) (h : RowsArg w v xs) (k : RowsArg w u ys) : Calls Try.prog 30 #[v, u] w (Gives (.bool (sameRV xs ys)) w) := by
  obtain ⟨A, cap, rfl, h1, h2, h3⟩ := h
  obtain ⟨A', cap', rfl, k1, k2, k3⟩ := k
  unfold maxLen at h2 k2
  by_cases hl : xs.length = ys.length
  case neg =>
    have HE := Lib.hid (sameRV_len hl)
    have d : ((xs.length : Int) == (ys.length : Int)) = false := by rw [beq_eq_false_iff_ne]; omega
    generalize xs.length = n at *
    generalize ys.length = m at *
    clear h3 k3
    go_enter Try.func30, Try.ntmps30
    go_wp2_with fail
    go_ret
    exact ⟨ret_bool HE.out.symm, Below.refl _ _⟩
  have HALL := Lib.hid (fun (q : EqTo xs ys xs.length) => EqTo.all hl q)
  rw [← hl] at k1 k3 ⊢
  generalize hn : xs.length = n at *
  clear hn hl
  have H4 := Lib.hid h3
  have K4 := Lib.hid k3
  clear h3 k3
  go_enter Try.func30, Try.ntmps30
  go_wp2_with fail
  go_loopw [13] (fun i wr => ∃ j : Nat, j ≤ n ∧ i = .int .i64 j ∧ EqTo xs ys j ∧ Below w.heap.size w wr) (fun i _ => n - (intOf i).toNat)
  case atStart => exact ⟨0, Nat.zero_le _, rfl, EqTo.zero _ _, Below.refl _ _⟩
  case round =>
    obtain ⟨j, hj, rfl, he, hbl⟩ := hrel
    have HQ := Lib.hid he
    clear he
    by_cases hlt : j < n
    · obtain ⟨b, off, rfl, hb, hc⟩ := H4.out (by omega)
      obtain ⟨b', off', rfl, hb', hc'⟩ := K4.out (by omega)
      obtain ⟨x0, x1, x2, x3, x4, x5, x6, x7, x8, x9⟩ := ((hc j hlt).below hb hbl).get
      obtain ⟨y0, y1, y2, y3, y4, y5, y6, y7, y8, y9⟩ := ((hc' j hlt).below hb' hbl).get
      have HB := Lib.hid hbl
      clear hc hc' hbl
      by_cases hr : xs.getD j zeroR = ys.getD j zeroR
      · have HN := Lib.hid (HQ.out.next hr)
        rw [← hr] at y0 y1 y2 y3 y4 y5 y6 y7 y8 y9
        generalize xs.getD j zeroR = r at *
        clear hr
        obtain ⟨key, kind, sum, st, last, n', mn, mx, total, dropped⟩ := r
        simp only at *
        go_wp2_with fail
        go_quiet (fail)
        go_wp2_with fail
        go_roundw
        case rel => exact ⟨j + 1, by omega, by go_num, HN.out, HB.out.trans ⟨rfl, rfl, rfl, Nat.le_refl _, fun _ _ => rfl⟩⟩
        case measure => simp [intOf]; omega
      · have HN := Lib.hid (sameRV_ne hr)
        have HR := Lib.hid hr
        generalize xs.getD j zeroR = r at *
        generalize ys.getD j zeroR = r' at *
        have hne := fun W => neq_row W r r' hr
        clear hr
        obtain ⟨key, kind, sum, st, last, n', mn, mx, total, dropped⟩ := r
        obtain ⟨key', kind', sum', st', last', n'', mn', mx', total', dropped'⟩ := r'
        unfold R.v at hne
        simp only at *
        go_wp2_with fail
        go_quiet (fail)
        go_wp2_with fail
        go_ret
        exact ⟨ret_bool HN.out.symm, HB.out.trans ⟨rfl, rfl, rfl, Nat.le_refl _, fun _ _ => rfl⟩⟩
    · have hjn : j = n := by omega
      subst hjn
      have HN := Lib.hid (HALL.out HQ.out)
      have HB := Lib.hid hbl
      clear hbl
      go_wp2_with fail
      go_ret
      exact ⟨ret_bool HN.out.symm, HB.out⟩
set_option maxRecDepth 100000 in
theorem iSameReport_any (w : World) (v u : Value) (xs ys : List R) (h : RowsArg w v xs) (k : RowsArg w u ys) (f : FitR xs) (g : FitR ys) : Calls Try.prog 24 #[v, u] w (Gives (.bool (sameRV xs ys)) w) := by
  have HE := Lib.hid (iEqualRow_any w v u xs ys h k)
  clear h k f g
  generalize sameRV xs ys = q at *
  go_enter Try.func24, Try.ntmps24
  go_wp2_with fail
  refine HE.out.mono ?_
  rintro e w1 ⟨rfl, hb⟩
  go_wp2_with fail
  go_ret
  exact ⟨rfl, hb⟩
theorem le_flip (x y : ByteArray) : strLe x y = !(Go.Op.bytesLess y.toList x.toList) := by
  unfold strLe
  rw [← bl_flip' x.toList y.toList, Bool.not_not]
theorem reportOk_long {rs : List R} (h : 4 < rs.length) : reportOkV rs = false := by
  unfold reportOkV; rw [decide_eq_false (by omega)]; rfl
end Go.Proofs.Ytfhkfhpbalbgkab
