/-
  Rows of records, whatever the record: reading one that came in or was made; one that a call made itself: storing a record, a new one, an empty one.
-/
import Derived.Test.YthfbacaamhkjpaaFlat
import Derived.OwnWalk
namespace Go.Proofs.Ythfbacaamhkjpaa
open Go.RowKit M
set_option linter.unusedVariables false
section
variable {α : Type} {F : Nat} {c : α → Array Value} {z : α} {t : TypeId}
/-- Record r lies in block b from cell o on. -/
def RecAt (F : Nat) (c : α → Array Value) (w : World) (b o : Nat) (r : α) : Prop := ∀ k, k < F → w.cell? ⟨b, o + k, none⟩ = (c r)[k]?
theorem RecAt.below {w w' : World} {b o : Nat} {r : α} (h : RecAt F c w b o r) (hlt : b < w.heap.size) (hb : Below w.heap.size w w') : RecAt F c w' b o r :=
  fun k hk => (hb.cell (p := ⟨b, o + k, none⟩) hlt).trans (h k hk)
/-- The slice value v reads as the records l (nil, or of no length, or one whose cells are there). -/
def RecsArg (F : Nat) (c : α → Array Value) (z : α) (w : World) (v : Value) (l : List α) : Prop :=
  ∃ A cap, v = .slice A l.length cap ∧ l.length ≤ cap ∧ cap ≤ maxLen ∧ (0 < l.length → ∃ b off, A = some ⟨b, off, none⟩ ∧ b < w.heap.size ∧ ∀ j, j < l.length → RecAt F c w b (off + j * F) (l.getD j z))
theorem RecsArg.below {w w' : World} {v : Value} {l : List α} (h : RecsArg F c z w v l) (hb : Below w.heap.size w w') : RecsArg F c z w' v l := by
  obtain ⟨A, cap, e, h1, h2, h3⟩ := h
  refine ⟨A, cap, e, h1, h2, fun hp => ?_⟩
  obtain ⟨b, off, ea, h4, h5⟩ := h3 hp
  exact ⟨b, off, ea, Nat.lt_of_lt_of_le h4 hb.size, fun j hj => (h5 j hj).below h4 hb⟩
theorem RecsArg.nil (w : World) : RecsArg F c z w (.slice none 0 0) [] := ⟨none, 0, rfl, Nat.zero_le _, Nat.zero_le _, fun h => absurd h (by simp)⟩
/-- The records are the call's own: in a block from base on. -/
def OwnF (t : TypeId) (F : Nat) (c : α → Array Value) (w : World) (base : Nat) (v : Value) (l : List α) : Prop := w.ownsRow base t F v l.length (cellsF c l)
theorem OwnF.alloc {w : World} {base : Nat} {v : Value} {l : List α} (h : OwnF t F c w base v l) (o : Obj) : OwnF t F c (w.alloc o) base v l := World.ownsRow.alloc h o
theorem OwnF.kept {w w' : World} {base : Nat} {v : Value} {l : List α} {row : Option Nat} (h : OwnF t F c w base v l) (hg : w.grownBy w' row) (hne : v.ownBlock = none ∨ v.ownBlock ≠ row) : OwnF t F c w' base v l := World.ownsRow.kept h hg hne
theorem OwnF.base_le {w : World} {base : Nat} {v : Value} {l : List α} (h : OwnF t F c w base v l) : ∀ k, v.ownBlock = some k → base ≤ k := fun k hk => (World.ownsRow.lt h k hk).1
theorem OwnF.lt {w : World} {base : Nat} {v : Value} {l : List α} (h : OwnF t F c w base v l) : ∀ k, v.ownBlock = some k → k < w.heap.size := fun k hk => (World.ownsRow.lt h k hk).2
theorem OwnF.below {w w' : World} {base : Nat} {v : Value} {l : List α} (h : OwnF t F c w base v l) (hb : Below w.heap.size w w') : OwnF t F c w' base v l :=
  h.kept (row := none) ⟨hb.os, hb.tape, hb.output, hb.size, fun i hi _ => hb.block i hi⟩ (by cases v.ownBlock <;> simp)
theorem OwnF.base {w : World} {b b' : Nat} {v : Value} {l : List α} (h : OwnF t F c w b v l) (hb : b' ≤ b) : OwnF t F c w b' v l := by
  rcases h.2 with ⟨h1, h2⟩ | ⟨g, cap, cur, h1, h2, h3⟩
  · exact ⟨h.1, .inl ⟨h1, h2⟩⟩
  · exact ⟨h.1, .inr ⟨g, cap, cur, h1, Nat.le_trans hb h2, h3⟩⟩
theorem OwnF.shape {w : World} {base : Nat} {v : Value} {l : List α} (h : OwnF t F c w base v l) : ∃ A cap, v = .slice A l.length cap := by
  rcases h.2 with ⟨rfl, h0⟩ | ⟨g, cap, cur, rfl, _⟩
  · exact ⟨none, 0, by rw [h0]⟩
  · exact ⟨_, cap, rfl⟩
theorem OwnF.arg {w : World} {base : Nat} {v : Value} {l : List α} (h : OwnF t F c w base v l) (hF : ∀ r, (c r).size = F) (z : α) : RecsArg F c z w v l := by
  have h' := h
  rcases h.2 with ⟨rfl, h0⟩ | ⟨g, cap, cur, rfl, hb, hg, hn, hm, hc, ht⟩
  · exact ⟨none, 0, by rw [h0], by omega, Nat.zero_le _, fun h => by omega⟩
  · refine ⟨_, cap, rfl, hn, hm, fun _ => ⟨g, 0, rfl, (World.ownsRow.lt h' g rfl).2, fun j hj k hk => ?_⟩⟩
    have hlt : j * F + k < l.length * F := Nat.lt_of_lt_of_le (show j * F + k < (j + 1) * F by rw [Nat.add_mul]; omega) (Nat.mul_le_mul_right F hj)
    rw [Nat.zero_add, World.ownsRow.cellAt h' (j * F + k) hlt, cellsF_at hF z l j k hj hk]
theorem OwnF.at {w : World} {base g n cap : Nat} {l : List α} (h : OwnF t F c w base (.slice (some ⟨g, 0, none⟩) n cap) l) (hF : ∀ r, (c r).size = F) (z : α) (hn : l.length = n) (j : Nat) (hj : j < n) : RecAt F c w g (j * F) (l.getD j z) := by
  subst hn
  intro k hk
  have hlt : j * F + k < l.length * F := Nat.lt_of_lt_of_le (show j * F + k < (j + 1) * F by rw [Nat.add_mul]; omega) (Nat.mul_le_mul_right F hj)
  rw [World.ownsRow.cellAt h (j * F + k) hlt, cellsF_at hF z l j k hj hk]
theorem OwnF.frz {w : World} {base g n cap : Nat} {l : List α} (h : OwnF t F c w base (.slice (some ⟨g, 0, none⟩) n cap) l) (hn : l.length = n) (j : Nat) : w.frozen? ⟨g, j, none⟩ = false := by
  subst hn
  exact World.ownsRow.frozenAt h j
/-- So many stores one after another. -/
def putN (w : World) (g o : Nat) : List Value → World
  | [] => w
  | u :: us => putN (w.setCell ⟨g, o, none⟩ u) g (o + 1) us
theorem putN_own {w : World} {base g n cap : Nat} (us xs : List Value) (o : Nat) (h : w.ownsRow base t F (.slice (some ⟨g, 0, none⟩) n cap) n xs) :
    (putN w g o us).ownsRow base t F (.slice (some ⟨g, 0, none⟩) n cap) n (setN xs o us) ∧ w.grownBy (putN w g o us) (some g) := by
  induction us generalizing w xs o with
  | nil => exact ⟨h, World.grownBy.refl _ _⟩
  | cons u us ih =>
    have hs := World.ownsRow.stored h o u
    have := ih (w := w.setCell ⟨g, o, none⟩ u) (xs.set o u) (o + 1) hs.1
    exact ⟨this.1, grownF hs.2 this.2⟩
theorem OwnF.put {w : World} {base g n cap : Nat} {l : List α} (h : OwnF t F c w base (.slice (some ⟨g, 0, none⟩) n cap) l) (hF : ∀ r, (c r).size = F) (hn : l.length = n) (j : Nat) (hj : j < n) (r : α) :
    OwnF t F c (putN w g (j * F) (c r).toList) base (.slice (some ⟨g, 0, none⟩) n cap) (l.set j r) ∧ w.grownBy (putN w g (j * F) (c r).toList) (some g) := by
  subst hn
  have := putN_own (c r).toList (cellsF c l) (j * F) h
  refine ⟨?_, this.2⟩
  unfold OwnF
  rw [List.length_set, ← cellsF_set hF l j hj r]
  exact this.1
/-- A call hands back a new row of records of its own, and turns nothing that was there. -/
def MadeF (t : TypeId) (F : Nat) (c : α → Array Value) (w : World) (l : List α) (e : Ending) (w' : World) : Prop := ∃ v, e = .returned v ∧ OwnF t F c w' w.heap.size v l ∧ Below w.heap.size w w'
/-- An empty one that was just built. -/
theorem OwnF.empty (w : World) (base : Nat) (hb : base ≤ w.heap.size) : OwnF t F c (w.alloc (.cells #[] t)) base (.slice (some ⟨w.heap.size, 0, none⟩) 0 0) [] := by
  unfold OwnF
  exact World.ownsRow_lit w #[] 0 hb (Nat.zero_le _) (by simp)
theorem zeroF_cells (zv : Value) (hz : zv.cells = c z) (hF : ∀ r, (c r).size = F) (h0 : 0 < F) (n : Nat) : (madeCells zv.cells (n * F)).toList = cellsF c (List.replicate n z) := by
  apply List.ext_getElem?
  intro i
  by_cases h : i < n * F
  · have hd : i / F < n := Nat.div_lt_of_lt_mul (by rw [Nat.mul_comm]; exact h)
    have hm : i % F < F := Nat.mod_lt _ h0
    have e : i = i / F * F + i % F := by rw [Nat.mul_comm]; exact (Nat.div_add_mod i F).symm
    have hg : (List.replicate n z).getD (i / F) z = z := by
      rw [List.getD_eq_getElem?_getD, List.getElem?_replicate]; split <;> rfl
    conv => rhs; rw [e]
    rw [cellsF_at hF z _ _ _ (by rw [List.length_replicate]; exact hd) hm, hz, hg, Array.getElem?_toList]
    unfold madeCells
    rw [hF, Array.getElem?_map, Array.getElem?_range, if_pos h]
    have hk : i % F < (c z).size := by rw [hF]; exact hm
    simp [getElem!_pos, hk]
  · rw [List.getElem?_eq_none (by rw [Array.length_toList, size_madeCells]; omega), List.getElem?_eq_none (by rw [cellsF_length hF, List.length_replicate]; omega)]
/-- Filling from the front: what is there after j records are stored. -/
def partF (z : α) (l : List α) (j : Nat) : List α := l.take j ++ List.replicate (l.length - j) z
theorem partF_length (l : List α) (j : Nat) : (partF z l j).length = l.length := by
  simp only [partF, List.length_append, List.length_take, List.length_replicate]; omega
theorem partF_all (l : List α) : partF z l l.length = l := by simp [partF]
theorem partF_zero (l : List α) : partF z l 0 = List.replicate l.length z := by simp [partF]
theorem partF_set (l : List α) (j : Nat) (hj : j < l.length) : (partF z l j).set j (l.getD j z) = partF z l (j + 1) := by
  apply List.ext_getElem?
  intro i
  unfold partF
  rcases Nat.lt_trichotomy i j with h | h | h
  · rw [List.getElem?_set_ne (by omega), List.getElem?_append_left (by simp; omega), List.getElem?_append_left (by simp; omega), List.getElem?_take_of_lt h, List.getElem?_take_of_lt (by omega)]
  · subst h
    rw [List.getElem?_set_self (by simp; omega), List.getElem?_append_left (by simp; omega), List.getElem?_take_of_lt (by omega), List.getD_eq_getElem?_getD, List.getElem?_eq_getElem hj]; rfl
  · rw [List.getElem?_set_ne (by omega), List.getElem?_append_right (by simp; omega), List.getElem?_append_right (by simp; omega)]
    simp only [List.length_take, List.getElem?_replicate]
    congr 1
    simp only [eq_iff_iff]
    omega
/-- What is left of a budget behind the records' texts. -/
def szLF (s : α → Nat) : List α → Int → Int
  | [], l => l
  | r :: rs, l => if l - (s r : Int) < 0 then -1 else szLF s rs (l - (s r : Int))
def szVF (s : α → Nat) (rs : List α) (l : Int) : Int := if l - (rs.length : Int) < 0 then -1 else szLF s rs (l - (rs.length : Int))
theorem szLF_drop (s : α → Nat) (z : α) (rs : List α) (j : Nat) (hj : j < rs.length) (c : Int) : szLF s (rs.drop j) c = if c - (s (rs.getD j z) : Int) < 0 then -1 else szLF s (rs.drop (j + 1)) (c - (s (rs.getD j z) : Int)) := by
  rw [List.drop_eq_getElem_cons hj, List.getD_eq_getElem?_getD, List.getElem?_eq_getElem hj]
  rfl
theorem szLF_le (s : α → Nat) : ∀ (rs : List α) (l : Int), szLF s rs l ≤ l ∨ szLF s rs l = -1
  | [], l => .inl (Int.le_refl _)
  | r :: rs, l => by
    unfold szLF
    split
    · exact .inr rfl
    · rcases szLF_le s rs (l - (s r : Int)) with h | h
      · exact .inl (by omega)
      · exact .inr h
theorem szVF_le {s : α → Nat} {rs : List α} {l : Int} (h : 0 ≤ szVF s rs l) : (rs.length : Int) ≤ l ∧ szVF s rs l ≤ l := by
  unfold szVF at *
  split at h
  · omega
  · rename_i h2
    rw [if_neg h2]
    rcases szLF_le s rs (l - (rs.length : Int)) with h3 | h3 <;> omega
theorem below_madeF {w w1 : World} (hg : w.grownBy w1 none) : Below w.heap.size w w1 := (Below.refl _ _).grown hg (Nat.le_refl _) (by intro _ h; cases h)
end
end Go.Proofs.Ythfbacaamhkjpaa
