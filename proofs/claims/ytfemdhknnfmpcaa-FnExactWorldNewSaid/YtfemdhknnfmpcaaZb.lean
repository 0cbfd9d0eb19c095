/-
  Several small texts of this proof, one behind another: each says ahead of itself what it proves.
-/
import Derived.Test.YtfemdhknnfmpcaaZa
import Derived.Deep.Slices
import Derived.Test.YtfemdhknnfmpcaaKeyI
import Derived.Test.YtfemdhknnfmpcaaRowO
import Derived.Deep.QuietTactic
import Derived.BigQuiet
import Derived.ProofKit
import Derived.OpenShut
import Derived.BigGuardPart
import Derived.Deep.RegionHeld3
import Derived.Deep.Cut
/-
  An argument that is a row of rows, opened: some rows each of whose fields fits its type.
-/
namespace Go.Proofs.Ytfemdhknnfmpcaa
open Go.ChangeShapes Go.WideShapes Go.Deep Go.RowKit M
set_option linter.unusedVariables false
def FitR (rs : List R) : Prop := ∀ j, j < rs.length → (rs.getD j zeroR).Fit
theorem FitR.key {rs : List R} (h : FitR rs) : ∀ j, j < rs.length → (rs.getD j zeroR).key.size ≤ maxLen := fun j hj => (h j hj).key
instance : Inhabited R := ⟨zeroR⟩
set_option maxRecDepth 100000 in
theorem open_rows {H : Type} {enc : TypeId × Value → H} {w : World} {base : Nat} {spare : Nat → Bool} {held : Bool} {fuel : Nat} {A : Option Addr} {len cap : Nat} {x : DataW H × List MemPlace}
    (h : DataW.trod enc Try.prog w base spare held fuel 110 [.slice A len cap] = some x) : ∃ rs, RowsArg w (.slice A len cap) rs ∧ FitR rs := by
  have hC : Try.prog.cellsOf 122 = 10 := by kernel_rfl
  rcases open_slice Try.underlying110 h with ⟨hcs, _⟩ | ⟨a, l, c, m, n, D, Pl, hcs, _, hl, hm, hmm, _, hi⟩
  · simp at hcs
    obtain ⟨rfl, rfl, rfl⟩ := hcs
    exact ⟨[], RowsArg.nil _, fun j hj => by simp at hj⟩
  · simp at hcs
    obtain ⟨rfl, rfl, rfl⟩ := hcs
    have hle : len ≤ m := by rw [hmm]; split <;> omega
    rw [hC] at hi
    have hr : ∀ i, i < len → ∃ r : R, r.Fit ∧ ∀ k, k < 10 → w.cell? ((a.add (i * 10)).add k) = (rowCells r)[k]? := fun i him => by
      obtain ⟨cs', hc, ht⟩ := hi i (by omega)
      obtain ⟨_, hcl, hat⟩ := World.cells?_some hc
      obtain ⟨r, hr, hf⟩ := read_row hcl ht
      refine ⟨r, hf, fun k hk => ?_⟩
      rw [hat k hk, hr, Array.getElem?_toList]
    obtain ⟨f, hf⟩ := choose_lt hr
    have hg : ∀ j, j < len → ((List.range len).map f).getD j zeroR = f j := fun j hj => by simp [List.getD_eq_getElem?_getD, hj]
    have hln : ((List.range len).map f).length = len := by simp
    refine ⟨(List.range len).map f, ⟨some a, cap, by rw [hln], by rw [hln]; exact hl, hm, fun hp => ?_⟩, fun j hj => ?_⟩
    · rw [hln] at hp
      obtain ⟨b, off, spot⟩ := a
      have h0 := (hf 0 hp).2 0 (by decide)
      have hspot : spot = none := by simpa [Addr.add] using World.cell?_spot h0
      subst hspot
      refine ⟨b, off, rfl, by simpa [Addr.add] using World.block_lt_of_cell? w _ h0, fun j hj k hk => ?_⟩
      rw [hln] at hj
      rw [hg j hj, ← (hf j hj).2 k hk, add_add]
      congr 1
      unfold Addr.add
      split
      · simp_all
      · simp [Nat.add_assoc]
    · rw [hln] at hj
      rw [hg j hj]
      exact (hf j hj).1
end Go.Proofs.Ytfemdhknnfmpcaa
/-
  Chapter 5, the program's functions: each answers what the plain words say. They turn nothing that was there.
-/
namespace Go.Proofs.Ytfemdhknnfmpcaa
open Go.RowKit M
set_option linter.unusedVariables false
theorem isKind_yes (k : Int) (w : World) (h0 : 1 ≤ k) (h1 : k ≤ 3) : Calls Try.prog 45 #[.int .i64 k] w (Same w (.bool true)) := by
  go_enter Try.func45, Try.ntmps45
  go_wp2
  go_ret
  exact ⟨rfl, rfl⟩
theorem isKind_no (k : Int) (w : World) (h : ¬ (1 ≤ k ∧ k ≤ 3)) : Calls Try.prog 45 #[.int .i64 k] w (Same w (.bool false)) := by
  by_cases h0 : 1 ≤ k
  · have h1 : decide (k ≤ 3) = false := by rw [decide_eq_false]; omega
    go_enter Try.func45, Try.ntmps45
    go_wp2
    go_ret
    exact ⟨rfl, rfl⟩
  · have h1 : decide (1 ≤ k) = false := by rw [decide_eq_false]; omega
    go_enter Try.func45, Try.ntmps45
    go_wp2
    go_ret
    exact ⟨rfl, rfl⟩
theorem isValue_yes (k : Int) (w : World) (h0 : 0 ≤ k) (h1 : k ≤ 65535) : Calls Try.prog 46 #[.int .i64 k] w (Same w (.bool true)) := by
  go_enter Try.func46, Try.ntmps46
  go_wp2
  go_ret
  exact ⟨rfl, rfl⟩
theorem isValue_no (k : Int) (w : World) (h : ¬ (0 ≤ k ∧ k ≤ 65535)) : Calls Try.prog 46 #[.int .i64 k] w (Same w (.bool false)) := by
  by_cases h0 : 0 ≤ k
  · have h1 : decide (k ≤ 65535) = false := by rw [decide_eq_false]; omega
    go_enter Try.func46, Try.ntmps46
    go_wp2
    go_ret
    exact ⟨rfl, rfl⟩
  · have h1 : decide (0 ≤ k) = false := by rw [decide_eq_false]; omega
    go_enter Try.func46, Try.ntmps46
    go_wp2
    go_ret
    exact ⟨rfl, rfl⟩
end Go.Proofs.Ytfemdhknnfmpcaa
/-
  Two rows compared by the program: they are alike exactly if each field is.
-/
namespace Go.Proofs.Ytfemdhknnfmpcaa
open Go.RowKit M
set_option linter.unusedVariables false
instance decR : DecidableEq R := fun a b =>
  if h : (a.key = b.key ∧ a.kind = b.kind ∧ a.sum = b.sum ∧ a.set = b.set ∧ a.last = b.last) ∧ a.n = b.n ∧ a.mn = b.mn ∧ a.mx = b.mx ∧ a.total = b.total ∧ a.dropped = b.dropped then
    .isTrue (by
      obtain ⟨⟨h0, h1, h2, h3, h4⟩, h5, h6, h7, h8, h9⟩ := h
      cases a; cases b
      simp only at *
      subst h0; subst h1; subst h2; subst h3; subst h4; subst h5; subst h6; subst h7; subst h8; subst h9
      rfl)
  else .isFalse (fun e => h (by subst e; exact ⟨⟨rfl, rfl, rfl, rfl, rfl⟩, rfl, rfl, rfl, rfl, rfl⟩))
theorem stood_row : Try.prog.stoodInHeld 117 = false := by kernel_rfl
set_option maxRecDepth 100000 in
set_option maxHeartbeats 4000000 in
theorem neq_row (w : World) (r s : R) (h : r ≠ s) : (binOp .neq 117 r.v s.v).run Try.prog w = .ok (.bool true) w := by
  obtain ⟨key, kind, sum, st, last, n', mn, mx, total, dropped⟩ := r
  obtain ⟨key', kind', sum', st', last', n'', mn', mx', total', dropped'⟩ := s
  unfold R.v
  simp only at *
  rw [run_neq_struct, run_equalIn_struct _ _ _ _ _ (by kernel_rfl) stood_row]
  by_cases e0 : key = key'
  · subst e0
    by_cases e1 : kind = kind'
    · subst e1
      simp [go_sem]
      rintro rfl rfl rfl rfl rfl rfl rfl rfl
      exact h rfl
    · simp [go_sem, e1]
  · have e := txt_ne e0
    simp [go_sem, e]
end Go.Proofs.Ytfemdhknnfmpcaa
/-
  Chapter 7 on rows of rows, in plain words and the model's: SameReport, ReportOk.
-/
namespace Go.Proofs.Ytfemdhknnfmpcaa
open Go.RowKit M
set_option linter.unusedVariables false
def sameRV (xs ys : List R) : Bool := decide (xs = ys)
def EqTo (xs ys : List R) (j : Nat) : Prop := ∀ m, m < j → xs.getD m zeroR = ys.getD m zeroR
theorem EqTo.zero (xs ys : List R) : EqTo xs ys 0 := fun m h => absurd h (Nat.not_lt_zero _)
theorem EqTo.next {xs ys : List R} {j : Nat} (h : EqTo xs ys j) (k : xs.getD j zeroR = ys.getD j zeroR) : EqTo xs ys (j + 1) := fun m hm => by
  by_cases e : m = j
  · subst e; exact k
  · exact h m (by omega)
theorem EqTo.all {xs ys : List R} (hl : xs.length = ys.length) (h : EqTo xs ys xs.length) : sameRV xs ys = true := by
  apply decide_eq_true
  apply List.ext_getElem? 
  intro i
  by_cases hi : i < xs.length
  · have := h i hi
    rw [List.getD_eq_getElem?_getD, List.getD_eq_getElem?_getD, List.getElem?_eq_getElem hi, List.getElem?_eq_getElem (by omega)] at this
    rw [List.getElem?_eq_getElem hi, List.getElem?_eq_getElem (by omega)]
    exact congrArg some this
  · rw [List.getElem?_eq_none (by omega), List.getElem?_eq_none (by omega)]
theorem sameRV_len {xs ys : List R} (hl : xs.length ≠ ys.length) : sameRV xs ys = false := decide_eq_false fun e => hl (by rw [e])
theorem sameRV_ne {xs ys : List R} {j : Nat} (h : xs.getD j zeroR ≠ ys.getD j zeroR) : sameRV xs ys = false := decide_eq_false fun e => h (by rw [e])
set_option maxRecDepth 100000 in
set_option maxHeartbeats 4000000 in
theorem sSameReport_any (w : World) (v u : Value) (xs ys : List R) (h : RowsArg w v xs) (k : RowsArg w u ys) : Calls Try.prog 106 #[v, u] w (Gives (.bool (sameRV xs ys)) w) := by
  obtain ⟨A, cap, rfl, h1, h2, h3⟩ := h
  obtain ⟨A', cap', rfl, k1, k2, k3⟩ := k
  unfold maxLen at h2 k2
  by_cases hl : xs.length = ys.length
  case neg =>
    have HE := Lib.hid (sameRV_len hl)
    have d : ((xs.length : Int) == (ys.length : Int)) = false := by rw [beq_eq_false_iff_ne]; omega
    generalize xs.length = n at *
    generalize ys.length = m at *
    clear h3 k3
    go_enter Try.func106, Try.ntmps106
    go_wp2_with fail
    go_ret
    exact ⟨ret_bool HE.out.symm, Below.refl _ _⟩
  have HALL := Lib.hid (fun (q : EqTo xs ys xs.length) => EqTo.all hl q)
  rw [← hl] at k1 k3 ⊢
  generalize hn : xs.length = n at *
  clear hn hl
  have H4 := Lib.hid h3
  have K4 := Lib.hid k3
  clear h3 k3
  go_enter Try.func106, Try.ntmps106
  go_wp2_with fail
  go_loopw [5] (fun i wr => ∃ j : Nat, j ≤ n ∧ i = .int .i64 j ∧ EqTo xs ys j ∧ Below w.heap.size w wr) (fun i _ => n - (intOf i).toNat)
  case atStart => exact ⟨0, Nat.zero_le _, rfl, EqTo.zero _ _, Below.refl _ _⟩
  case round =>
    obtain ⟨j, hj, rfl, he, hbl⟩ := hrel
    have HQ := Lib.hid he
    clear he
    by_cases hlt : j < n
    · obtain ⟨b, off, rfl, hb, hc⟩ := H4.out (by omega)
      obtain ⟨b', off', rfl, hb', hc'⟩ := K4.out (by omega)
      obtain ⟨x0, x1, x2, x3, x4, x5, x6, x7, x8, x9⟩ := ((hc j hlt).below hb hbl).get
      obtain ⟨y0, y1, y2, y3, y4, y5, y6, y7, y8, y9⟩ := ((hc' j hlt).below hb' hbl).get
      have HB := Lib.hid hbl
      clear hc hc' hbl
      by_cases hr : xs.getD j zeroR = ys.getD j zeroR
      · have HN := Lib.hid (HQ.out.next hr)
        rw [← hr] at y0 y1 y2 y3 y4 y5 y6 y7 y8 y9
        generalize xs.getD j zeroR = r at *
        clear hr
        obtain ⟨key, kind, sum, st, last, n', mn, mx, total, dropped⟩ := r
        simp only at *
        go_wp2_with fail
        go_quiet (fail)
        go_wp2_with fail
        go_roundw
        case rel => exact ⟨j + 1, by omega, by go_num, HN.out, HB.out.trans ⟨rfl, rfl, rfl, Nat.le_refl _, fun _ _ => rfl⟩⟩
        case measure => simp [intOf]; omega
      · have HN := Lib.hid (sameRV_ne hr)
        have HR := Lib.hid hr
        generalize xs.getD j zeroR = r at *
        generalize ys.getD j zeroR = r' at *
        have hne := fun W => neq_row W r r' hr
        clear hr
        obtain ⟨key, kind, sum, st, last, n', mn, mx, total, dropped⟩ := r
        obtain ⟨key', kind', sum', st', last', n'', mn', mx', total', dropped'⟩ := r'
        unfold R.v at hne
        simp only at *
        go_wp2_with fail
        go_quiet (fail)
        go_wp2_with fail
        go_ret
        exact ⟨ret_bool HN.out.symm, HB.out.trans ⟨rfl, rfl, rfl, Nat.le_refl _, fun _ _ => rfl⟩⟩
    · have hjn : j = n := by omega
      subst hjn
      have HN := Lib.hid (HALL.out HQ.out)
      have HB := Lib.hid hbl
      clear hbl
      go_wp2_with fail
      go_ret
      exact ⟨ret_bool HN.out.symm, HB.out⟩
end Go.Proofs.Ytfemdhknnfmpcaa
/-
  A row in a block of the call's own: what one store into a field makes of it, with all else that is known of the world carried along.
-/
namespace Go.Proofs.Ytfemdhknnfmpcaa
open Go.RowKit M
set_option linter.unusedVariables false
theorem RowAt.store {w : World} {g : Nat} {r : R} (h : RowAt w g r) (i : Nat) (v : Value) (r' : R) (e : (rowCells r).setIfInBounds i v = rowCells r') : RowAt (w.setCell ⟨g, i, none⟩ v) g r' := by
  unfold RowAt
  rw [← e]
  exact heap_setCell_same w g i _ _ v h
theorem RowAt.far {w : World} {g : Nat} {r : R} (h : RowAt w g r) (k i : Nat) (v : Value) (hk : g ≠ k) : RowAt (w.setCell ⟨k, i, none⟩ v) g r :=
  (heap_setCell_other w ⟨k, i, none⟩ g v hk).trans h
/-- The walk stands behind a store into field i of the row in block g; block o holds another row. -/
theorem wp_row {C : Go.Code} {Q : Exit → Act → World → Prop} {a : Act} {w0 w : World} {B g o : Nat} {r z : R} {i : Nat} {v : Value} (r' : R) (hx : RowAt w g r) (hz : RowAt w o z) (hb : Below B w0 w) (hg : B ≤ g) (ho : o ≠ g)
    (e : (rowCells r).setIfInBounds i v = rowCells r') (k : ∀ w', RowAt w' g r' → RowAt w' o z → Below B w0 w' → Code.wp Try.prog C Q a w') : Code.wp Try.prog C Q a (w.setCell ⟨g, i, none⟩ v) :=
  k _ (hx.store i v r' e) (hz.far g i v ho) (hb.setCell hg v)
/-- The row that ten stores lay into a block. -/
theorem RowAt.all {w : World} {g : Nat} {z : R} (h : RowAt w g z) (r : R) :
    RowAt ((((((((((w.setCell ⟨g, 0, none⟩ (.string r.key)).setCell ⟨g, 1, none⟩ (.int .i64 r.kind)).setCell ⟨g, 2, none⟩ (.int .i64 r.sum)).setCell ⟨g, 3, none⟩ (.bool r.set)).setCell ⟨g, 4, none⟩ (.int .i64 r.last)).setCell ⟨g, 5, none⟩ (.int .i64 r.n)).setCell ⟨g, 6, none⟩ (.int .i64 r.mn)).setCell ⟨g, 7, none⟩ (.int .i64 r.mx)).setCell ⟨g, 8, none⟩ (.int .i64 r.total)).setCell ⟨g, 9, none⟩ (.int .i64 r.dropped)) g r := by
  obtain ⟨key, kind, sum, st, last, n, mn, mx, total, dropped⟩ := r
  obtain ⟨zkey, zkind, zsum, zst, zlast, zn, zmn, zmx, ztotal, zdropped⟩ := z
  exact (((((((((h.store 0 _ ⟨key, zkind, zsum, zst, zlast, zn, zmn, zmx, ztotal, zdropped⟩ rfl).store 1 _ ⟨key, kind, zsum, zst, zlast, zn, zmn, zmx, ztotal, zdropped⟩ rfl).store 2 _ ⟨key, kind, sum, zst, zlast, zn, zmn, zmx, ztotal, zdropped⟩ rfl).store 3 _ ⟨key, kind, sum, st, zlast, zn, zmn, zmx, ztotal, zdropped⟩ rfl).store 4 _ ⟨key, kind, sum, st, last, zn, zmn, zmx, ztotal, zdropped⟩ rfl).store 5 _ ⟨key, kind, sum, st, last, n, zmn, zmx, ztotal, zdropped⟩ rfl).store 6 _ ⟨key, kind, sum, st, last, n, mn, zmx, ztotal, zdropped⟩ rfl).store 7 _ ⟨key, kind, sum, st, last, n, mn, mx, ztotal, zdropped⟩ rfl).store 8 _ ⟨key, kind, sum, st, last, n, mn, mx, total, zdropped⟩ rfl).store 9 _ ⟨key, kind, sum, st, last, n, mn, mx, total, dropped⟩ rfl
end Go.Proofs.Ytfemdhknnfmpcaa
