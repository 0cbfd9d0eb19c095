/-
  Rows of rows of the call's own, changed in place: cut shorter, the end cleared; the rows that are quiet struck.
-/
import Derived.Test.YtlnkjpacjbhncaaGreatDoorZa
import Derived.Test.YtlnkjpacjbhncaaGreatDoorRwsC
import Derived.Test.YtlnkjpacjbhncaaGreatDoorZb
import Derived.Test.YtlnkjpacjbhncaaGreatDoorRowJ
import Derived.Lib.SliceRun
import Derived.Deep.MidRow
namespace Go.Proofs.YtlnkjpacjbhncaaGreatDoor
open Go.RowKit M
set_option linter.unusedVariables false
set_option linter.unusedSimpArgs false
/-- An own row read only up to place k. -/
theorem own_short {w : World} {base size g n cap : Nat} {e : TypeId} {xs : List Value} (h : w.ownsRow base e size (.slice (some ⟨g, 0, none⟩) n cap) n xs) (k : Nat) (hk : k ≤ n) : w.ownsRow base e size (.slice (some ⟨g, 0, none⟩) k cap) k (xs.take (k * size)) := by
  have hle : k * size ≤ n * size := Nat.mul_le_mul_right _ hk
  refine ⟨by rw [List.length_take, h.1]; omega, .inr ?_⟩
  rcases h.2 with ⟨e0, _⟩ | ⟨g', cap', cur, e1, hb, hg, hn, hm, hc, ht⟩
  · cases e0
  · injection e1 with e2 e3 e4
    injection e2 with e5
    injection e5 with e6
    subst e6; subst e4
    exact ⟨g, cap, cur, rfl, hb, hg, by omega, hm, hc, by rw [← ht, List.take_take, Nat.min_eq_left hle]⟩
/-- Stores behind place m of an own row leave what lies ahead of it. -/
theorem own_behind {base size g n cap : Nat} {e : TypeId} (m : Nat) : ∀ (cs : List Value) (o : Nat) (w : World) (xs : List Value), m ≤ o → w.ownsRow base e size (.slice (some ⟨g, 0, none⟩) n cap) n xs →
    ∃ ys, (w.setCells g o cs).ownsRow base e size (.slice (some ⟨g, 0, none⟩) n cap) n ys ∧ ys.take m = xs.take m ∧ w.grownBy (w.setCells g o cs) (some g)
  | [], o, w, xs, _, h => ⟨xs, h, rfl, ⟨rfl, rfl, rfl, Nat.le_refl _, fun _ _ _ => rfl⟩⟩
  | c :: cs, o, w, xs, ho, h => by
    have h1 := World.ownsRow.stored h o c
    obtain ⟨ys, h2, h3, h4⟩ := own_behind m cs (o + 1) _ _ (by omega) h1.1
    refine ⟨ys, h2, ?_, grownR_trans h1.2 h4⟩
    rw [h3, List.take_set_of_le ho]
theorem cellsR_take (rs : List R) (k : Nat) : (cellsR rs).take (k * 10) = cellsR (rs.take k) := by
  induction rs generalizing k with
  | nil => simp [cellsR]
  | cons r rs ih =>
    cases k with
    | zero => simp [cellsR]
    | succ k =>
      show ((rowCells r).toList ++ cellsR rs).take ((k + 1) * 10) = (rowCells r).toList ++ cellsR (rs.take k)
      rw [List.take_append, cells10, show (k + 1) * 10 - 10 = k * 10 by omega, ih, List.take_of_length_le (by rw [cells10]; omega)]
/-- The own row cut to its first k rows, behind stores into the cells after them. -/
theorem OwnR.cut {w : World} {base g n cap : Nat} {rs : List R} (h : OwnR w base (.slice (some ⟨g, 0, none⟩) n cap) rs) (hn : rs.length = n) (k : Nat) (hk : k ≤ n) (cs : List Value) :
    OwnR (w.setCells g (k * 10) cs) base (.slice (some ⟨g, 0, none⟩) k cap) (rs.take k) ∧ w.grownBy (w.setCells g (k * 10) cs) (some g) := by
  subst hn
  obtain ⟨ys, h1, h2, h3⟩ := own_behind (k * 10) cs (k * 10) w _ (Nat.le_refl _) h
  have h4 := own_short h1 k hk
  rw [h2, cellsR_take] at h4
  refine ⟨?_, h3⟩
  unfold OwnR
  rwa [List.length_take, Nat.min_eq_left hk]
theorem OwnR.short {w : World} {base g n cap : Nat} {rs : List R} (h : OwnR w base (.slice (some ⟨g, 0, none⟩) n cap) rs) (hn : rs.length = n) (k : Nat) (hk : k ≤ n) : OwnR w base (.slice (some ⟨g, 0, none⟩) k cap) (rs.take k) := (h.cut hn k hk []).1
/-- What clear writes over m rows. -/
def clearedR (m : Nat) : List Value := (Builtin.zeroCells zeroR.v.cells m).toList
theorem cleared_length (m : Nat) : (clearedR m).length = m * 10 := by
  unfold clearedR Builtin.zeroCells
  rw [Array.length_toList, Array.size_map, Array.size_range]
  rfl
theorem cleared_one (m : Nat) : ∀ u ∈ clearedR m, u.oneCell' = true := by
  intro u hu
  unfold clearedR Builtin.zeroCells at hu
  rw [Array.mem_toList_iff, Array.mem_map] at hu
  obtain ⟨i, _, rfl⟩ := hu
  have hlt : i % zeroR.v.cells.size < 10 := Nat.mod_lt _ (by decide)
  generalize i % zeroR.v.cells.size = j at *
  have hj : j = 0 ∨ j = 1 ∨ j = 2 ∨ j = 3 ∨ j = 4 ∨ j = 5 ∨ j = 6 ∨ j = 7 ∨ j = 8 ∨ j = 9 := by omega
  rcases hj with rfl | rfl | rfl | rfl | rfl | rfl | rfl | rfl | rfl | rfl <;> rfl
theorem zero_row (w : World) : (zeroValue 60).run Tryz.prog w = .ok zeroR.v w := Tryz.zeroValue60 w
theorem clear_rows {w : World} {base g n cap : Nat} {rs : List R} (h : OwnR w base (.slice (some ⟨g, 0, none⟩) n cap) rs) (hn : rs.length = n) (k : Nat) (hk : k < n) (ty : TypeId) (c : Nat) :
    (Builtin.clear_ #[24] ty #[.slice (some ⟨g, k * 10, none⟩) (n - k) c]).run Tryz.prog w = .ok (.tuple #[]) (w.setCells g (k * 10) (clearedR (n - k))) := by
  have hst := run_storeCells_cells (P := Tryz.prog) g (k * 10) (clearedR (n - k)) 0 w (by
      intro j hj
      rw [cleared_length] at hj
      have e : k * 10 + j = (k * 10 + j) / 10 * 10 + (k * 10 + j) % 10 := by omega
      rw [Nat.add_zero, e, h.at hn ((k * 10 + j) / 10) (by omega) ((k * 10 + j) % 10) (by omega)]
      have hm : (k * 10 + j) % 10 < 10 := by omega
      rw [Array.getElem?_eq_getElem (show (k * 10 + j) % 10 < (rowCells _).size from hm)]
      rfl) (fun j _ => h.frz hn _) (cleared_one _)
  simp only [Nat.add_zero] at hst
  unfold clearedR at hst ⊢
  obtain ⟨m, hm⟩ : ∃ m, n - k = m + 1 := ⟨n - k - 1, by omega⟩
  rw [hm] at hst ⊢
  simp only [zeroR, R.v] at hst ⊢
  simp [Builtin.clear_, run_underlying Tryz.underlying24, zero_row, zeroR, R.v, hst]
/-- The first quiet row's place, or -1. -/
def quietAt (rs : List R) (k : Nat) : Prop := ∀ j, j < k → quietV (rs.getD j zeroR) = false
theorem FitR.get {rs : List R} (h : FitR rs) (j : Nat) (hj : j < rs.length) : (rs.getD j zeroR).Fit := h j hj
def IdxQ (w : World) (rs : List R) (e : Ending) (w' : World) : Prop := ((e = .returned (.int .i64 (-1)) ∧ quietAt rs rs.length) ∨ ∃ k : Nat, k < rs.length ∧ e = .returned (.int .i64 k) ∧ quietAt rs k ∧ quietV (rs.getD k zeroR) = true) ∧ Below w.heap.size w w'
set_option maxRecDepth 100000 in
set_option maxHeartbeats 4000000 in
theorem iIdx_any (w : World) (v : Value) (rs : List R) (h : RowsArg w v rs) (hf : FitR rs) : Calls Tryz.prog 86 #[v, .func (.func 65) #[] #[]] w (IdxQ w rs) := by
  obtain ⟨A, cap, rfl, h1, h2, h3⟩ := h
  unfold maxLen at h2
  have HI := Lib.hid (fun (e : Ending) (w' : World) (h : ((e = .returned (.int .i64 (-1)) ∧ quietAt rs rs.length) ∨ ∃ k : Nat, k < rs.length ∧ e = .returned (.int .i64 k) ∧ quietAt rs k ∧ quietV (rs.getD k zeroR) = true)) (hb : Below w.heap.size w w') => show IdxQ w rs e w' from ⟨h, hb⟩)
  have HF := Lib.hid hf
  clear hf
  generalize hn : rs.length = n at *
  have HNL := Lib.hid hn
  clear hn
  have H3 := Lib.hid h3
  clear h3
  go_enter Tryz.func86, Tryz.ntmps86
  go_wp2_with fail
  go_loopw [8] (fun i wr => ∃ j : Nat, j ≤ n ∧ i = .int .i64 j ∧ quietAt rs j ∧ Below w.heap.size w wr) (fun i _ => n - (intOf i).toNat)
  case atStart => exact ⟨0, Nat.zero_le _, rfl, fun j hj => absurd hj (Nat.not_lt_zero _), Below.refl _ _⟩
  case round =>
    obtain ⟨j, hj, rfl, hq, hbl⟩ := hrel
    have HQ := Lib.hid hq
    clear hq
    by_cases hlt : j < n
    · obtain ⟨b, off, rfl, hb, hc⟩ := H3.out (by omega)
      obtain ⟨x0, x1, x2, x3, x4, x5, x6, x7, x8, x9⟩ := ((hc j hlt).below hb hbl).get
      have hfj := HF.out j (by rw [HNL.out]; exact hlt)
      have HC := fun W => Lib.hid (iQuiet_any W (rs.getD j zeroR) hfj)
      have HB := Lib.hid hbl
      have HQ2 := Lib.hid (fun (q : quietV (rs.getD j zeroR) = false) => (show quietAt rs (j + 1) from fun i hi => by
        by_cases e : i = j
        · subst e; exact q
        · exact HQ.out i (by omega)))
      have HQ3 := Lib.hid (fun (q : quietV (rs.getD j zeroR) = true) => q)
      clear hc hbl hfj
      generalize hr : rs.getD j zeroR = r at *
      have HR := Lib.hid hr
      clear hr
      cases hq : quietV r with
      | true =>
        rw [hq] at HC
        obtain ⟨key, kind, sum, st, last, n', mn, mx, total, dropped⟩ := r
        unfold R.v at HC
        simp only at *
        go_wp2_with fail
        refine (HC _).out.mono ?_
        rintro e w2 ⟨rfl, hb2⟩
        have HB2 := Lib.hid (HB.out.trans (hb2.mono HB.out.size))
        clear hb2
        go_wp2_with fail
        go_ret
        exact HI.out _ _ (.inr ⟨j, hlt, rfl, HQ.out, by rw [HR.out]; exact hq⟩) HB2.out
      | false =>
        rw [hq] at HC
        have HQN := Lib.hid (HQ2.out hq)
        clear hq HQ2 HQ3
        obtain ⟨key, kind, sum, st, last, n', mn, mx, total, dropped⟩ := r
        unfold R.v at HC
        simp only at *
        go_wp2_with fail
        refine (HC _).out.mono ?_
        rintro e w2 ⟨rfl, hb2⟩
        have HB2 := Lib.hid (HB.out.trans (hb2.mono HB.out.size))
        clear hb2
        go_wp2_with fail
        go_roundw
        case rel => exact ⟨j + 1, by omega, by go_num, HQN.out, HB2.out⟩
        case measure => simp [intOf]; omega
    · have hjn : j = n := by omega
      subst hjn
      have HB := Lib.hid hbl
      clear hbl
      go_wp2_with fail
      go_ret
      exact HI.out _ _ (.inl ⟨rfl, HQ.out⟩) HB.out
end Go.Proofs.YtlnkjpacjbhncaaGreatDoor
