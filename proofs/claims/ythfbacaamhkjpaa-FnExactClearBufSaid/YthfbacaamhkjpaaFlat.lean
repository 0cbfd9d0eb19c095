/-
  Rows of records, whatever the record: its cells one behind the other; setting a record's cells one after another.
-/
import Derived.Test.YthfbacaamhkjpaaInts
import Derived.Deep.Cut
namespace Go.Proofs.Ythfbacaamhkjpaa
open Go.RowKit M
set_option linter.unusedVariables false
section
variable {α : Type} {F : Nat} {c : α → Array Value}
def cellsF (c : α → Array Value) (l : List α) : List Value := l.flatMap fun r => (c r).toList
theorem cellsF_length (hF : ∀ r, (c r).size = F) (l : List α) : (cellsF c l).length = l.length * F := by
  induction l with
  | nil => simp [cellsF]
  | cons r l ih => simp only [cellsF, List.flatMap_cons, List.length_append, List.length_cons, Array.length_toList, hF] at *; rw [ih, Nat.add_mul, Nat.one_mul, Nat.add_comm]
theorem cellsF_append (xs ys : List α) : cellsF c (xs ++ ys) = cellsF c xs ++ cellsF c ys := by simp [cellsF]
theorem cellsF_at (hF : ∀ r, (c r).size = F) (z : α) (l : List α) (j k : Nat) (hj : j < l.length) (hk : k < F) : (cellsF c l)[j * F + k]? = (c (l.getD j z))[k]? := by
  induction l generalizing j with
  | nil => simp at hj
  | cons r l ih =>
    show ((c r).toList ++ cellsF c l)[j * F + k]? = _
    cases j with
    | zero => rw [List.getElem?_append_left (by simp [hF]; omega)]; simp
    | succ j =>
      rw [List.getElem?_append_right (by simp [hF, Nat.add_mul]; omega), show (j + 1) * F + k - (c r).toList.length = j * F + k by simp [hF, Nat.add_mul]; omega, ih j (by simpa using hj)]
      simp
/-- Cells set one after another, from place o on. -/
def setN (cs : List Value) (o : Nat) : List Value → List Value
  | [] => cs
  | u :: us => setN (cs.set o u) (o + 1) us
theorem setN_mid (us bs as_ cs : List Value) (h : us.length = bs.length) : setN (as_ ++ (bs ++ cs)) as_.length us = as_ ++ (us ++ cs) := by
  induction us generalizing bs as_ with
  | nil =>
    have : bs = [] := List.eq_nil_of_length_eq_zero (by simpa using h.symm)
    subst this; rfl
  | cons u us ih =>
    cases bs with
    | nil => simp at h
    | cons b bs =>
      show setN ((as_ ++ (b :: bs ++ cs)).set as_.length u) (as_.length + 1) us = _
      rw [List.set_append_right _ _ (Nat.le_refl _), Nat.sub_self]
      show setN (as_ ++ (u :: (bs ++ cs))) (as_.length + 1) us = _
      have e : as_ ++ (u :: (bs ++ cs)) = (as_ ++ [u]) ++ (bs ++ cs) := by simp
      rw [e, show as_.length + 1 = (as_ ++ [u]).length by simp, ih bs (as_ ++ [u]) (by simpa using h)]
      simp
theorem cellsF_set (hF : ∀ r, (c r).size = F) (l : List α) (j : Nat) (hj : j < l.length) (r : α) : setN (cellsF c l) (j * F) (c r).toList = cellsF c (l.set j r) := by
  have e : l = l.take j ++ (l[j] :: l.drop (j + 1)) := by rw [← List.drop_eq_getElem_cons hj, List.take_append_drop]
  have e2 : l.set j r = l.take j ++ (r :: l.drop (j + 1)) := by
    conv => lhs; rw [e]
    rw [List.set_append_right _ _ (by rw [List.length_take]; omega), List.length_take, show j - min j l.length = 0 by omega, List.set_cons_zero]
  have e3 : cellsF c l = cellsF c (l.take j) ++ ((c l[j]).toList ++ cellsF c (l.drop (j + 1))) := by
    conv => lhs; rw [e]
    rw [cellsF_append]; rfl
  have e4 : cellsF c (l.set j r) = cellsF c (l.take j) ++ ((c r).toList ++ cellsF c (l.drop (j + 1))) := by rw [e2, cellsF_append]; rfl
  have e5 : (cellsF c (l.take j)).length = j * F := by rw [cellsF_length hF, List.length_take]; congr 1; omega
  rw [e3, e4, ← e5]
  exact setN_mid _ _ _ _ (by simp [hF])
/-- Marked from the front: what is there after j records. -/
def mpartF (m : Nat → α) (l : List α) (j : Nat) : List α := (List.range j).map m ++ l.drop j
theorem mpartF_length (m : Nat → α) (l : List α) (j : Nat) (h : j ≤ l.length) : (mpartF m l j).length = l.length := by
  simp only [mpartF, List.length_append, List.length_map, List.length_range, List.length_drop]; omega
theorem mpartF_zero (m : Nat → α) (l : List α) : mpartF m l 0 = l := by simp [mpartF]
theorem mpartF_all (m : Nat → α) (l : List α) : mpartF m l l.length = (List.range l.length).map m := by simp [mpartF]
theorem mpartF_set (m : Nat → α) (l : List α) (j : Nat) (h : j < l.length) : (mpartF m l j).set j (m j) = mpartF m l (j + 1) := by
  unfold mpartF
  rw [List.set_append_right _ _ (by simp), List.length_map, List.length_range, Nat.sub_self, List.drop_eq_getElem_cons h, List.range_succ, List.map_append, List.set_cons_zero, List.append_assoc]
  rfl
end
/-- The walk goes on over any world of which P is known. -/
theorem wp_gen {C : Code} {Q : Exit → Act → World → Prop} {a : Act} {w : World} (P : World → Prop) (h : P w) (k : ∀ w', P w' → Code.wp Try.prog C Q a w') : Code.wp Try.prog C Q a w := k w h
theorem ownsRow_some {w : World} {base g n cap F : Nat} {t : TypeId} {xs : List Value} (h : w.ownsRow base t F (.slice (some ⟨g, 0, none⟩) n cap) n xs) (j : Nat) (hj : j < n * F) : ∃ z, w.cell? ⟨g, j, none⟩ = some z := by
  refine ⟨xs[j]'(by rw [h.1]; exact hj), ?_⟩
  rw [World.ownsRow.cellAt h j hj, List.getElem?_eq_getElem]
theorem grownF {a b c : World} {o : Option Nat} (h : a.grownBy b o) (k : b.grownBy c o) : a.grownBy c o :=
  ⟨k.os.trans h.os, k.tape.trans h.tape, k.output.trans h.output, Nat.le_trans h.size k.size, fun i hi hne => (k.block i (Nat.lt_of_lt_of_le hi h.size) hne).trans (h.block i hi hne)⟩
end Go.Proofs.Ythfbacaamhkjpaa
