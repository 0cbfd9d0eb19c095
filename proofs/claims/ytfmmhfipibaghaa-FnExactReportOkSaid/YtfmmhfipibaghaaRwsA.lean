/-
  An argument that is a row of rows, opened: some rows each of whose fields fits its type.
-/
import Derived.Test.YtfmmhfipibaghaaRowA
import Derived.Test.YtfmmhfipibaghaaRws
import Derived.Deep.Slices
namespace Go.Proofs.Ytfmmhfipibaghaa
open Go.ChangeShapes Go.WideShapes Go.Deep Go.RowKit M
set_option linter.unusedVariables false
def FitR (rs : List R) : Prop := ∀ j, j < rs.length → (rs.getD j zeroR).Fit
theorem FitR.key {rs : List R} (h : FitR rs) : ∀ j, j < rs.length → (rs.getD j zeroR).key.size ≤ maxLen := fun j hj => (h j hj).key
instance : Inhabited R := ⟨zeroR⟩
theorem open_rows {H : Type} {enc : TypeId × Value → H} {w : World} {base : Nat} {spare : Nat → Bool} {held : Bool} {fuel : Nat} {A : Option Addr} {len cap : Nat} {x : DataW H × List MemPlace}
    (h : DataW.trod enc Try.prog w base spare held fuel 36 [.slice A len cap] = some x) : ∃ rs, RowsArg w (.slice A len cap) rs ∧ FitR rs := by
  have hC : Try.prog.cellsOf 30 = 10 := by kernel_rfl
  rcases open_slice Try.underlying36 h with ⟨hcs, _⟩ | ⟨a, l, c, m, n, D, Pl, hcs, _, hl, hm, hmm, _, hi⟩
  · simp at hcs
    obtain ⟨rfl, rfl, rfl⟩ := hcs
    exact ⟨[], RowsArg.nil _, fun j hj => by simp at hj⟩
  · simp at hcs
    obtain ⟨rfl, rfl, rfl⟩ := hcs
    have hle : len ≤ m := by rw [hmm]; split <;> omega
    rw [hC] at hi
    have hr : ∀ i, i < len → ∃ r : R, r.Fit ∧ ∀ k, k < 10 → w.cell? ((a.add (i * 10)).add k) = (rowCells r)[k]? := fun i him => by
      obtain ⟨cs', hc, ht⟩ := hi i (by omega)
      obtain ⟨_, hcl, hat⟩ := World.cells?_some hc
      obtain ⟨r, hr, hf⟩ := read_row hcl ht
      refine ⟨r, hf, fun k hk => ?_⟩
      rw [hat k hk, hr, Array.getElem?_toList]
    obtain ⟨f, hf⟩ := choose_lt hr
    have hg : ∀ j, j < len → ((List.range len).map f).getD j zeroR = f j := fun j hj => by simp [List.getD_eq_getElem?_getD, hj]
    have hln : ((List.range len).map f).length = len := by simp
    refine ⟨(List.range len).map f, ⟨some a, cap, by rw [hln], by rw [hln]; exact hl, hm, fun hp => ?_⟩, fun j hj => ?_⟩
    · rw [hln] at hp
      obtain ⟨b, off, spot⟩ := a
      have h0 := (hf 0 hp).2 0 (by decide)
      have hspot : spot = none := by simpa [Addr.add] using World.cell?_spot h0
      subst hspot
      refine ⟨b, off, rfl, by simpa [Addr.add] using World.block_lt_of_cell? w _ h0, fun j hj k hk => ?_⟩
      rw [hln] at hj
      rw [hg j hj, ← (hf j hj).2 k hk, add_add]
      congr 1
      unfold Addr.add
      split
      · simp_all
      · simp [Nat.add_assoc]
    · rw [hln] at hj
      rw [hg j hj]
      exact (hf j hj).1
end Go.Proofs.Ytfmmhfipibaghaa
