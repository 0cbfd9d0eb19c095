/-
  Contracts of the law's own helpers on rows of ints: the copy, the comparison, the marking, the check of the marks.
-/
import Derived.Test.YtfmmhfipibaghaaInts
import Derived.Deep.QuietTactic
import Derived.BigQuiet
import Derived.OwnWalk
import Derived.ProofKit
import Derived.OpenShut
namespace Go.Proofs.Ytfmmhfipibaghaa
open Go.RowKit M
set_option linter.unusedVariables false
theorem grownI_trans {a b c : World} {g : Nat} (h : a.grownBy b (some g)) (k : b.grownBy c (some g)) : a.grownBy c (some g) :=
  ⟨k.os.trans h.os, k.tape.trans h.tape, k.output.trans h.output, Nat.le_trans h.size k.size, fun i hi hne => (k.block i (Nat.lt_of_lt_of_le hi h.size) hne).trans (h.block i hi hne)⟩
theorem ret_val {a b : Value} (h : a = b) : Ending.returned a = .returned b := by rw [h]
theorem below_made {w w1 : World} (hg : w.grownBy w1 none) : Below w.heap.size w w1 := (Below.refl _ _).grown hg (Nat.le_refl _) (by intro _ h; cases h)
def Quiet (w : World) (v : Value) (e : Ending) (w' : World) : Prop := e = .returned v ∧ ∃ q, w' = w.drewN q
theorem Quiet.below {w w' : World} {v : Value} {e : Ending} (h : Quiet w v e w') : e = .returned v ∧ Below w.heap.size w w' := by
  obtain ⟨rfl, q, rfl⟩ := h
  exact ⟨rfl, ⟨rfl, rfl, rfl, Nat.le_refl _, fun _ _ => rfl⟩⟩
theorem getD_eq_of_eq {xs ys : List Int} (h : xs = ys) (j : Nat) : xs.getD j 0 = ys.getD j 0 := by rw [h]
/-- Marks from k on. -/
def marks (k : Int) (n : Nat) : List Int := (List.range n).map fun (j : Nat) => k + (j : Int)
theorem marks_length (k : Int) (n : Nat) : (marks k n).length = n := by simp [marks]
theorem marks_getD (k : Int) (n j : Nat) (h : j < n) : (marks k n).getD j 0 = k + j := by simp [marks, List.getD_eq_getElem?_getD, h]
def mpart (zs : List Int) (k : Int) (j : Nat) : List Int := marks k j ++ zs.drop j
theorem mpart_length (zs : List Int) (k : Int) (j : Nat) (h : j ≤ zs.length) : (mpart zs k j).length = zs.length := by
  simp only [mpart, List.length_append, marks_length, List.length_drop]; omega
theorem mpart_zero (zs : List Int) (k : Int) : mpart zs k 0 = zs := by simp [mpart, marks]
theorem mpart_all (zs : List Int) (k : Int) : mpart zs k zs.length = marks k zs.length := by simp [mpart]
theorem mpart_set (zs : List Int) (k : Int) (j : Nat) (h : j < zs.length) : (mpart zs k j).set j (k + j) = mpart zs k (j + 1) := by
  unfold mpart
  rw [List.set_append_right _ _ (by rw [marks_length]; exact Nat.le_refl _), marks_length, Nat.sub_self, List.drop_eq_getElem_cons h]
  have : marks k (j + 1) = marks k j ++ [k + (j : Int)] := by simp [marks, List.range_succ]
  rw [this, List.set_cons_zero, List.append_assoc]; rfl
def Marked (w : World) (base : Nat) (v : Value) (k : Int) (n : Nat) (e : Ending) (w' : World) : Prop := e = .returned (.int .i64 (k + n)) ∧ OwnI w' base v (marks k n) ∧ w.grownBy w' v.ownBlock
/-- What the statement's opening of an argument gives, as a row of ints. -/
theorem IntsArg.of_cells {w : World} {x : Addr} {l c : Nat} {zs : List Int} (hl : l ≤ c) (hm : c ≤ maxLen) (hz : zs.length = c) (hc : ∀ i, i < zs.length → w.cell? (x.add i) = some (.int .i64 (zs.getD i 0))) :
    IntsArg w (.slice (some x) l c) (zs.take l) := by
  have e : (zs.take l).length = l := by rw [List.length_take]; omega
  refine ⟨some x, c, by rw [e], by rw [e]; exact hl, hm, fun hp => ?_⟩
  rw [e] at hp ⊢
  obtain ⟨b, off, spot⟩ := x
  have h0 := hc 0 (by omega)
  have hspot : spot = none := by simpa [Addr.add] using World.cell?_spot h0
  subst hspot
  have hlt : b < w.heap.size := by
    rcases Nat.lt_or_ge b w.heap.size with h1 | h1
    · exact h1
    · have e : w.heap[b]? = none := Array.getElem?_eq_none h1
      simp [Addr.add, World.cell?, e] at h0
  refine ⟨b, off, rfl, hlt, fun j hj => ?_⟩
  have hcj := hc j (by omega)
  have ea : (⟨b, off, none⟩ : Addr).add j = ⟨b, off + j, none⟩ := by unfold Addr.add; split <;> simp_all
  rw [ea] at hcj
  rw [hcj]
  simp [List.getD_eq_getElem?_getD, hj]
theorem Fit.of_wf {zs : List Int} {l : Nat} (h : ∀ n ∈ zs, (Lit.int .i64 n).wf = true) : Fit (zs.take l) := fun z hz => Go.bounds_i64 (h z (List.mem_of_mem_take hz))
end Go.Proofs.Ytfmmhfipibaghaa
