/-
  The exact laws' helpers on rows of rows: the copy, the size, comparing two.
-/
import Derived.Test.YtlnkjpacjbhncaaGreatDoorZb
import Derived.Deep.QuietTactic
import Derived.BigQuiet
import Derived.ProofKit
import Derived.OpenShut
import Derived.BigGuardPart
import Derived.Deep.RegionWith
namespace Go.Proofs.YtlnkjpacjbhncaaGreatDoor
open Go.RowKit M
set_option linter.unusedVariables false
theorem zero_cells (n : Nat) : (madeCells zeroR.v.cells (n * 10)).toList = cellsR (List.replicate n zeroR) := by
  apply List.ext_getElem?
  intro i
  by_cases h : i < n * 10
  · have e : i = i / 10 * 10 + i % 10 := by omega
    rw [e, cellsR_at _ _ _ (by rw [List.length_replicate]; omega) (by omega), ← e]
    have hz : zeroR.v.cells = rowCells zeroR := rfl
    have hg : (List.replicate n zeroR).getD (i / 10) zeroR = zeroR := by
      rw [List.getD_eq_getElem?_getD, List.getElem?_replicate]; split <;> rfl
    have hs : (rowCells zeroR).size = 10 := rfl
    rw [hz, hg, Array.getElem?_toList]
    unfold madeCells
    rw [hs, Array.getElem?_map, Array.getElem?_range, if_pos h]
    have hk : i % 10 < (rowCells zeroR).size := by rw [hs]; omega
    simp [getElem!_pos, hk]
  · rw [List.getElem?_eq_none (by rw [Array.length_toList, size_madeCells]; omega), List.getElem?_eq_none (by rw [cellsR_length, List.length_replicate]; omega)]
/-- Filling from the front: what is there after j rows are stored. -/
def partR (rs : List R) (j : Nat) : List R := rs.take j ++ List.replicate (rs.length - j) zeroR
theorem partR_length (rs : List R) (j : Nat) : (partR rs j).length = rs.length := by
  simp only [partR, List.length_append, List.length_take, List.length_replicate]; omega
theorem partR_all (rs : List R) : partR rs rs.length = rs := by simp [partR]
theorem partR_zero (rs : List R) : partR rs 0 = List.replicate rs.length zeroR := by simp [partR]
theorem partR_set (rs : List R) (j : Nat) (hj : j < rs.length) : (partR rs j).set j (rs.getD j zeroR) = partR rs (j + 1) := by
  apply List.ext_getElem?
  intro i
  unfold partR
  rcases Nat.lt_trichotomy i j with h | h | h
  · rw [List.getElem?_set_ne (by omega), List.getElem?_append_left (by simp; omega), List.getElem?_append_left (by simp; omega), List.getElem?_take_of_lt h, List.getElem?_take_of_lt (by omega)]
  · subst h
    rw [List.getElem?_set_self (by simp; omega), List.getElem?_append_left (by simp; omega), List.getElem?_take_of_lt (by omega), List.getD_eq_getElem?_getD, List.getElem?_eq_getElem hj]; rfl
  · rw [List.getElem?_set_ne (by omega), List.getElem?_append_right (by simp; omega), List.getElem?_append_right (by simp; omega)]
    simp only [List.length_take, List.getElem?_replicate]
    congr 1
    simp only [eq_iff_iff]
    omega
theorem below_made' {w w1 : World} (hg : w.grownBy w1 none) : Below w.heap.size w w1 := (Below.refl _ _).grown hg (Nat.le_refl _) (by intro _ h; cases h)
/-- What is left of a budget behind the rows' keys. -/
def szL : List R → Int → Int
  | [], l => l
  | r :: rs, l => if l - (r.key.size : Int) < 0 then -1 else szL rs (l - (r.key.size : Int))
def szV (rs : List R) (l : Int) : Int := if l - (rs.length : Int) < 0 then -1 else szL rs (l - (rs.length : Int))
theorem szL_drop (rs : List R) (j : Nat) (hj : j < rs.length) (c : Int) : szL (rs.drop j) c = if c - ((rs.getD j zeroR).key.size : Int) < 0 then -1 else szL (rs.drop (j + 1)) (c - ((rs.getD j zeroR).key.size : Int)) := by
  rw [List.drop_eq_getElem_cons hj, List.getD_eq_getElem?_getD, List.getElem?_eq_getElem hj]
  rfl
theorem szL_le : ∀ (rs : List R) (l : Int), szL rs l ≤ l ∨ szL rs l = -1
  | [], l => .inl (Int.le_refl _)
  | r :: rs, l => by
    unfold szL
    split
    · exact .inr rfl
    · rcases szL_le rs (l - (r.key.size : Int)) with h | h
      · exact .inl (by omega)
      · exact .inr h
theorem szV_le {rs : List R} {l : Int} (h : 0 ≤ szV rs l) : (rs.length : Int) ≤ l ∧ szV rs l ≤ l := by
  unfold szV at *
  split at h
  · omega
  · rename_i h2
    rw [if_neg h2]
    rcases szL_le rs (l - (rs.length : Int)) with h3 | h3 <;> omega
set_option maxRecDepth 100000 in
set_option maxHeartbeats 1000000 in
theorem eqRowS_same (w : World) (v u : Value) (rs : List R) (h : RowsArg w v rs) (k : RowsArg w u rs) : Calls Tryz.prog 25 #[v, u] w (Gives (.bool true) w) := by
  obtain ⟨A, cap, rfl, h1, h2, h3⟩ := h
  obtain ⟨A', cap', rfl, k1, k2, k3⟩ := k
  generalize hn : rs.length = n at *
  clear hn
  unfold maxLen at h2 k2
  have H4 := Lib.hid h3
  have K4 := Lib.hid k3
  clear h3 k3
  go_enter Tryz.func25, Tryz.ntmps25
  go_wp2_with fail
  go_loopw [5] (fun i wr => ∃ j : Nat, j ≤ n ∧ i = .int .i64 j ∧ Below w.heap.size w wr) (fun i _ => n - (intOf i).toNat)
  case atStart => exact ⟨0, Nat.zero_le _, rfl, Below.refl _ _⟩
  case round =>
    obtain ⟨j, hj, rfl, hbl⟩ := hrel
    by_cases hlt : j < n
    · obtain ⟨b, off, rfl, hb, hc⟩ := H4.out (by omega)
      obtain ⟨b', off', rfl, hb', hc'⟩ := K4.out (by omega)
      obtain ⟨x0, x1, x2, x3, x4, x5, x6, x7, x8, x9⟩ := ((hc j hlt).below hb hbl).get
      obtain ⟨y0, y1, y2, y3, y4, y5, y6, y7, y8, y9⟩ := ((hc' j hlt).below hb' hbl).get
      have HR := fun W => Lib.hid (eqRow_same W (rs.getD j zeroR))
      have HB := Lib.hid hbl
      clear hc hc' hbl
      generalize rs.getD j zeroR = r at *
      obtain ⟨key, kind, sum, st, last, n', mn, mx, total, dropped⟩ := r
      unfold R.v at HR
      simp only at *
      go_wp2_with fail
      go_region_with (go_at_call 50; refine (HR _).out.mono ?_; rintro e w2 ⟨rfl, hb2⟩)
      all_goals
        go_wp2_with fail
        go_roundw
        case rel => exact ⟨j + 1, by omega, by go_num, (HB.out.trans (below_drew w.heap.size _)).trans (hb2.mono HB.out.size)⟩
        case measure => simp [intOf]; omega
    · have HB := Lib.hid hbl
      clear hbl
      go_wp2_with fail
      go_ret
      exact ⟨rfl, HB.out⟩
end Go.Proofs.YtlnkjpacjbhncaaGreatDoor
