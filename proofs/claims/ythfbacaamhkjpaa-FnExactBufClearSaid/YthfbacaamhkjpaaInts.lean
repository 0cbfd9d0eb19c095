/-
  Rows of ints: reading one that came in or was made, making one, filling it; the law's own helpers that copy, compare, mark and check a row.
-/
import Derived.Test.YthfbacaamhkjpaaChecked
import Derived.Test.YthfbacaamhkjpaaMath
import Derived.WalkKit
import Derived.Lib.Hide
import Derived.KernelRfl
namespace Go.Proofs.Ythfbacaamhkjpaa
open Go.RowKit M
set_option linter.unusedVariables false
theorem info_int : (Try.prog.info? 3).map (fun i => (i.zero, i.size, i.bytes)) = some (some (.int .i64 0), 1, 8) := by kernel_rfl
/-- Each number fits an int. -/
def Fit (zs : List Int) : Prop := ∀ z ∈ zs, -9223372036854775808 ≤ z ∧ z ≤ 9223372036854775807
theorem Fit.at {zs : List Int} (h : Fit zs) (j : Nat) : -9223372036854775808 ≤ zs.getD j 0 ∧ zs.getD j 0 ≤ 9223372036854775807 := by
  rw [List.getD_eq_getElem?_getD]
  cases e : zs[j]? with
  | none => simp
  | some z => exact h z (List.mem_of_getElem? e)
/-- The slice value v reads as the ints zs, in a block that is there. -/
def Ints (w : World) (v : Value) (zs : List Int) : Prop :=
  ∃ b off cap, v = .slice (some ⟨b, off, none⟩) zs.length cap ∧ zs.length ≤ cap ∧ cap ≤ maxLen ∧ b < w.heap.size ∧ ∀ j, j < zs.length → w.cell? ⟨b, off + j, none⟩ = some (.int .i64 (zs.getD j 0))
/-- The like of any slice of ints that came in: nil, or of no length, or one whose cells are there. -/
def IntsArg (w : World) (v : Value) (zs : List Int) : Prop :=
  ∃ A cap, v = .slice A zs.length cap ∧ zs.length ≤ cap ∧ cap ≤ maxLen ∧ (0 < zs.length → ∃ b off, A = some ⟨b, off, none⟩ ∧ b < w.heap.size ∧ ∀ j, j < zs.length → w.cell? ⟨b, off + j, none⟩ = some (.int .i64 (zs.getD j 0)))
theorem Ints.arg {w : World} {v : Value} {zs : List Int} (h : Ints w v zs) : IntsArg w v zs := by
  obtain ⟨b, off, cap, e, h1, h2, h3, h4⟩ := h
  exact ⟨_, cap, e, h1, h2, fun _ => ⟨b, off, rfl, h3, h4⟩⟩
theorem IntsArg.nil (w : World) : IntsArg w (.slice none 0 0) [] := ⟨none, 0, rfl, Nat.zero_le _, Nat.zero_le _, fun h => absurd h (by simp)⟩
theorem Ints.below {w w' : World} {v : Value} {zs : List Int} (h : Ints w v zs) (hb : Below w.heap.size w w') : Ints w' v zs := by
  obtain ⟨b, off, cap, e, h1, h2, h3, h4⟩ := h
  exact ⟨b, off, cap, e, h1, h2, Nat.lt_of_lt_of_le h3 hb.size, fun j hj => (hb.cell (p := ⟨b, off + j, none⟩) h3).trans (h4 j hj)⟩
theorem IntsArg.below {w w' : World} {v : Value} {zs : List Int} (h : IntsArg w v zs) (hb : Below w.heap.size w w') : IntsArg w' v zs := by
  obtain ⟨A, cap, e, h1, h2, h3⟩ := h
  refine ⟨A, cap, e, h1, h2, fun hp => ?_⟩
  obtain ⟨b, off, ea, h4, h5⟩ := h3 hp
  exact ⟨b, off, ea, Nat.lt_of_lt_of_le h4 hb.size, fun j hj => (hb.cell (p := ⟨b, off + j, none⟩) h4).trans (h5 j hj)⟩
/-- The row is the call's own: in a block from base on. -/
def OwnI (w : World) (base : Nat) (v : Value) (zs : List Int) : Prop := w.ownsRow base 3 1 v zs.length (zs.map (Value.int .i64)) ∧ ∃ g cap, v = .slice (some ⟨g, 0, none⟩) zs.length cap
theorem OwnI.block {w : World} {base : Nat} {v : Value} {zs : List Int} (h : OwnI w base v zs) : ∃ g, v.ownBlock = some g ∧ base ≤ g ∧ g < w.heap.size := by
  obtain ⟨h1, g, cap, rfl⟩ := h
  have := World.ownsRow.lt h1 g rfl
  exact ⟨g, rfl, this⟩
theorem OwnI.ints {w : World} {base : Nat} {v : Value} {zs : List Int} (h : OwnI w base v zs) : Ints w v zs := by
  obtain ⟨h1, g, cap, rfl⟩ := h
  have hlt := World.ownsRow.lt h1 g rfl
  have hc : zs.length ≤ cap ∧ cap ≤ maxLen := by
    rcases h1.2 with ⟨h', _⟩ | ⟨g', cap', cur, h', _, _, hn, hm, _⟩
    · cases h'
    · injection h' with _ _ e; subst e; exact ⟨hn, hm⟩
  refine ⟨g, 0, cap, rfl, hc.1, hc.2, hlt.2, fun j hj => ?_⟩
  rw [Nat.zero_add, World.ownsRow.cellAt h1 j (by omega), List.getElem?_map, List.getElem?_eq_getElem hj, List.getD_eq_getElem?_getD, List.getElem?_eq_getElem hj]
  rfl
theorem OwnI.kept {w w' : World} {base : Nat} {v : Value} {zs : List Int} {row : Option Nat} (h : OwnI w base v zs) (hg : w.grownBy w' row) (hne : v.ownBlock ≠ row) : OwnI w' base v zs :=
  ⟨World.ownsRow.kept h.1 hg (Or.inr hne), h.2⟩
theorem OwnI.below {w w' : World} {base : Nat} {v : Value} {zs : List Int} (h : OwnI w base v zs) (hb : Below w.heap.size w w') : OwnI w' base v zs := by
  obtain ⟨g, hg, _, _⟩ := h.block
  exact h.kept (row := none) ⟨hb.os, hb.tape, hb.output, hb.size, fun i hi _ => hb.block i hi⟩ (by rw [hg]; intro h; cases h)
theorem OwnI.made {w : World} {base g n cap : Nat} (h : w.ownsRow base 3 1 (.slice (some ⟨g, 0, none⟩) n cap) n (madeCells (Value.int .i64 0).cells (n * 1)).toList) : OwnI w base (.slice (some ⟨g, 0, none⟩) n cap) (List.replicate n 0) := by
  refine ⟨?_, g, cap, by rw [List.length_replicate]⟩
  rw [List.length_replicate, List.map_replicate]
  have : (madeCells (Value.int .i64 0).cells (n * 1)).toList = List.replicate n (Value.int .i64 0) := by rw [Nat.mul_one]; exact toList_madeCells_one _ _
  rw [← this]; exact h
theorem OwnI.set {w : World} {base g n cap : Nat} {zs : List Int} (h : OwnI w base (.slice (some ⟨g, 0, none⟩) n cap) zs) (j : Nat) (z : Int) :
    OwnI (w.setCell ⟨g, j, none⟩ (.int .i64 z)) base (.slice (some ⟨g, 0, none⟩) n cap) (zs.set j z) ∧ w.grownBy (w.setCell ⟨g, j, none⟩ (.int .i64 z)) (some g) := by
  obtain ⟨h1, g', cap', e⟩ := h
  have hn : n = zs.length := by injection e
  subst hn
  have hs := World.ownsRow.stored h1 j (.int .i64 z)
  refine ⟨⟨?_, g, cap, by rw [List.length_set]⟩, hs.2⟩
  rw [List.length_set, List.map_set]
  exact hs.1
theorem OwnI.frz {w : World} {base g n cap : Nat} {zs : List Int} (h : OwnI w base (.slice (some ⟨g, 0, none⟩) n cap) zs) (j : Nat) : w.frozen? ⟨g, j, none⟩ = false := by
  obtain ⟨h1, g', cap', e⟩ := h
  have hn : n = zs.length := by injection e
  subst hn
  exact World.ownsRow.frozenAt h1 j
theorem OwnI.cell {w : World} {base g n cap : Nat} {zs : List Int} (h : OwnI w base (.slice (some ⟨g, 0, none⟩) n cap) zs) (j : Nat) (hj : j < n) : w.cell? ⟨g, j, none⟩ = some (.int .i64 (zs.getD j 0)) := by
  obtain ⟨h1, g', cap', e⟩ := h
  have hn : n = zs.length := by injection e
  subst hn
  rw [World.ownsRow.cellAt h1 j (by omega), List.getElem?_map, List.getElem?_eq_getElem hj, List.getD_eq_getElem?_getD, List.getElem?_eq_getElem hj]
  rfl
/-- Filling from the front: what is there after j stores. -/
def partI (zs : List Int) (j : Nat) : List Int := zs.take j ++ List.replicate (zs.length - j) 0
theorem partI_length (zs : List Int) (j : Nat) : (partI zs j).length = zs.length := by
  simp only [partI, List.length_append, List.length_take, List.length_replicate]; omega
theorem partI_all (zs : List Int) : partI zs zs.length = zs := by simp [partI]
theorem partI_set (zs : List Int) (j : Nat) (hj : j < zs.length) : (partI zs j).set j (zs.getD j 0) = partI zs (j + 1) := by
  apply List.ext_getElem?
  intro i
  unfold partI
  rcases Nat.lt_trichotomy i j with h | h | h
  · rw [List.getElem?_set_ne (by omega), List.getElem?_append_left (by simp; omega), List.getElem?_append_left (by simp; omega), List.getElem?_take_of_lt h, List.getElem?_take_of_lt (by omega)]
  · subst h
    rw [List.getElem?_set_self (by simp; omega), List.getElem?_append_left (by simp; omega), List.getElem?_take_of_lt (by omega), List.getD_eq_getElem?_getD, List.getElem?_eq_getElem hj]; rfl
  · rw [List.getElem?_set_ne (by omega), List.getElem?_append_right (by simp; omega), List.getElem?_append_right (by simp; omega)]
    simp only [List.length_take, List.getElem?_replicate]
    congr 1
    simp only [eq_iff_iff]
    omega
/-- What a row reads as in a later world. -/
theorem OwnI.apart {w w' : World} {b0 B : Nat} {v u : Value} {xs ys : List Int} (h : OwnI w b0 v xs) (k : OwnI w' B u ys) (hB : w.heap.size ≤ B) : v.ownBlock ≠ u.ownBlock := by
  obtain ⟨g, hg, _, h2⟩ := h.block
  obtain ⟨g', hg', h3, _⟩ := k.block
  rw [hg, hg']
  intro e
  injection e with e
  omega
theorem OwnI.of_row {w : World} {base n : Nat} {v : Value} {zs : List Int} (h : w.ownsRow base 3 1 v n (zs.map (Value.int .i64))) (hn : zs.length = n) (hv : v ≠ .slice none 0 0) : OwnI w base v zs := by
  subst hn
  refine ⟨h, ?_⟩
  rcases h.2 with ⟨h', _⟩ | ⟨g, cap, cur, h', _⟩
  · exact absurd h' hv
  · exact ⟨g, cap, h'⟩
/-- A call hands back a new row of its own that reads zs, and turns nothing that was there. -/
def MadeI (w : World) (zs : List Int) (e : Ending) (w' : World) : Prop := ∃ v, e = .returned v ∧ OwnI w' w.heap.size v zs ∧ Below w.heap.size w w'
end Go.Proofs.Ythfbacaamhkjpaa
