/-
  Rows of bytes that a call made itself: the word 'OwnB w base v l' (the slice value v holds the bytes l, in a block from base on), and what making, storing, appending and turning into a string do to it.
-/
import Derived.Test.YthfbacaamhkjpaaChecked
import Derived.Test.YthfbacaamhkjpaaMath
import Derived.WalkKit
import Derived.Lib.Hide
import Derived.KernelRfl
namespace Go.Proofs.Ythfbacaamhkjpaa
open Go.RowKit M
set_option linter.unusedVariables false
theorem info_u8 : (Try.prog.info? 5).map (fun i => (i.zero, i.size, i.bytes)) = some (some (.int .u8 0), 1, 1) := by kernel_rfl
def b2v (c : UInt8) : Value := .int .u8 (c.toNat : Int)
theorem b2v_one (l : List UInt8) : ∀ u ∈ l.map b2v, u.oneCell' = true := by
  intro u hu
  obtain ⟨c, _, rfl⟩ := List.mem_map.1 hu
  rfl
def OwnB (w : World) (base : Nat) (v : Value) (l : List UInt8) : Prop := w.ownsRow base 5 1 v l.length (l.map b2v)
theorem OwnB.alloc {w : World} {base : Nat} {v : Value} {l : List UInt8} (h : OwnB w base v l) (o : Obj) : OwnB (w.alloc o) base v l := World.ownsRow.alloc h o
theorem OwnB.kept {w w' : World} {base : Nat} {v : Value} {l : List UInt8} {row : Option Nat} (h : OwnB w base v l) (hg : w.grownBy w' row) (hne : v.ownBlock = none ∨ v.ownBlock ≠ row) : OwnB w' base v l := World.ownsRow.kept h hg hne
theorem OwnB.cell {w : World} {base g n cap : Nat} {l : List UInt8} (h : OwnB w base (.slice (some ⟨g, 0, none⟩) n cap) l) (hn : l.length = n) {j : Nat} {c : UInt8} (hj : l[j]? = some c) : w.cell? ⟨g, j, none⟩ = some (b2v c) := by
  subst hn
  obtain ⟨hl, _⟩ := List.getElem?_eq_some_iff.1 hj
  rw [World.ownsRow.cellAt h j (by omega), List.getElem?_map, hj]; rfl
theorem OwnB.cellEx {w : World} {base g n cap : Nat} {l : List UInt8} (h : OwnB w base (.slice (some ⟨g, 0, none⟩) n cap) l) (hn : l.length = n) {j : Nat} (hj : j < n) : ∃ z : Int, w.cell? ⟨g, j, none⟩ = some (.int .u8 z) :=
  ⟨_, h.cell hn (List.getElem?_eq_getElem (by omega))⟩
theorem OwnB.frz {w : World} {base g n cap : Nat} {l : List UInt8} (h : OwnB w base (.slice (some ⟨g, 0, none⟩) n cap) l) (hn : l.length = n) (j : Nat) : w.frozen? ⟨g, j, none⟩ = false := by
  subst hn
  exact World.ownsRow.frozenAt h j
/-- Filling from the front: what is there after j stores. -/
def part (l : List UInt8) (j : Nat) : List UInt8 := l.take j ++ List.replicate (l.length - j) 0
theorem part_length (l : List UInt8) (j : Nat) : (part l j).length = l.length := by
  simp only [part, List.length_append, List.length_take, List.length_replicate]; omega
theorem part_zero (l : List UInt8) : part l 0 = List.replicate l.length 0 := by simp [part]
theorem part_all (l : List UInt8) : part l l.length = l := by simp [part]
theorem part_set (l : List UInt8) (j : Nat) (c : UInt8) (hc : l[j]? = some c) : (part l j).set j c = part l (j + 1) := by
  obtain ⟨hj, he⟩ := List.getElem?_eq_some_iff.1 hc
  apply List.ext_getElem?
  intro i
  unfold part
  rcases Nat.lt_trichotomy i j with h | h | h
  · rw [List.getElem?_set_ne (by omega), List.getElem?_append_left (by simp; omega), List.getElem?_append_left (by simp; omega), List.getElem?_take_of_lt h, List.getElem?_take_of_lt (by omega)]
  · subst h
    rw [List.getElem?_set_self (by simp; omega), List.getElem?_append_left (by simp; omega), List.getElem?_take_of_lt (by omega), hc]
  · rw [List.getElem?_set_ne (by omega), List.getElem?_append_right (by simp; omega), List.getElem?_append_right (by simp; omega)]
    simp only [List.length_take, List.getElem?_replicate]
    congr 1
    simp only [eq_iff_iff]
    omega
theorem OwnB.made {w : World} {base g n : Nat} {cap : Nat} (h : w.ownsRow base 5 1 (.slice (some ⟨g, 0, none⟩) n cap) n (madeCells (Value.int .u8 0).cells (n * 1)).toList) (l : List UInt8) (hl : l.length = n) :
    OwnB w base (.slice (some ⟨g, 0, none⟩) n cap) (part l 0) := by
  unfold OwnB
  rw [part_length, hl, part_zero, hl]
  have : (madeCells (Value.int .u8 0).cells (n * 1)).toList = (List.replicate n (0 : UInt8)).map b2v := by
    rw [Nat.mul_one, List.map_replicate]
    exact toList_madeCells_one _ _
  rw [← this]
  exact h
theorem OwnB.store {w : World} {base g n cap : Nat} {l : List UInt8} {j : Nat} (hn : l.length = n) (h : OwnB w base (.slice (some ⟨g, 0, none⟩) n cap) (part l j)) (c : UInt8) (hc : l[j]? = some c) :
    OwnB (w.setCell ⟨g, j, none⟩ (b2v c)) base (.slice (some ⟨g, 0, none⟩) n cap) (part l (j + 1)) ∧ w.grownBy (w.setCell ⟨g, j, none⟩ (b2v c)) (some g) := by
  subst hn
  unfold OwnB at h ⊢
  rw [part_length] at h ⊢
  have hs := World.ownsRow.stored h j (b2v c)
  rw [← List.map_set, part_set l j c hc] at hs
  exact hs
theorem OwnB.drew {w : World} {base : Nat} {v : Value} {l : List UInt8} (h : OwnB w base v l) : OwnB w.drew base v l := h
theorem one_get (c : UInt8) : ∀ (j : Nat) (u : UInt8), [c][j]? = some u → [b2v c][j]? = some (b2v u) := by
  intro j u hu
  rw [show [b2v c] = [c].map b2v from rfl, List.getElem?_map, hu]; rfl
theorem le_alloc {w : World} {B : Nat} (h : B ≤ w.heap.size) (o : Obj) : B ≤ (w.alloc o).heap.size := by simp [go_sem]; omega
theorem new1 (w : World) (c : UInt8) : ∀ (j : Nat) (u : UInt8), [c][j]? = some u → (w.alloc (.cells #[b2v c] 5)).cell? ((⟨w.heap.size, 0, none⟩ : Addr).add j) = some (b2v u) := by
  intro j u hu
  cases j with
  | zero => obtain rfl : c = u := by simpa using hu
            simp [go_sem]
  | succ j => simp at hu
theorem new2 (w : World) (c d : UInt8) : ∀ (j : Nat) (u : UInt8), [c, d][j]? = some u → (w.alloc (.cells #[b2v c, b2v d] 5)).cell? ((⟨w.heap.size, 0, none⟩ : Addr).add j) = some (b2v u) := by
  intro j u hu
  rcases j with _ | _ | j
  · obtain rfl : c = u := by simpa using hu
    simp [go_sem]
  · obtain rfl : d = u := by simpa using hu
    simp [go_sem, Addr.add]
  · simp at hu
theorem OwnB.base_le {w : World} {base : Nat} {v : Value} {l : List UInt8} (h : OwnB w base v l) : ∀ k, v.ownBlock = some k → base ≤ k := fun k hk => (World.ownsRow.lt h k hk).1
/-- An empty row that was just built ([]byte{}). -/
theorem OwnB.empty (w : World) (base : Nat) (hb : base ≤ w.heap.size) : OwnB (w.alloc (.cells #[] 5)) base (.slice (some ⟨w.heap.size, 0, none⟩) 0 0) [] :=
  World.ownsRow_lit w #[] 0 hb (Nat.zero_le _) rfl
end Go.Proofs.Ythfbacaamhkjpaa
