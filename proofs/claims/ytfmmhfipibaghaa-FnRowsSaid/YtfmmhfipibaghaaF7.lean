/-
  Two rows in blocks of a law's own, carried from world to world.
-/
import Derived.Test.YtfmmhfipibaghaaDrawS7
import Derived.Test.YtfmmhfipibaghaaRowF
import Derived.Test.YtfmmhfipibaghaaHq
import Derived.Deep.CutRange
namespace Go.Proofs.Ytfmmhfipibaghaa
open Go.RowKit M
set_option linter.unusedVariables false
def F7 (w : World) (gr gx : Nat) (r x : R) (u : World) : Prop := Below w.heap.size w u ∧ RowAt u gr r ∧ RowAt u gx x
theorem F7.below {w u u' : World} {gr gx : Nat} {r x : R} (h : F7 w gr gx r x u) (hb : Below u.heap.size u u') : F7 w gr gx r x u' := ⟨h.1.trans (hb.mono h.1.size), h.2.1.below hb, h.2.2.below hb⟩
theorem F7.get {w u : World} {gr gx : Nat} {r x : R} (h : F7 w gr gx r x u) : RowAt u gr r ∧ RowAt u gx x := h.2
theorem F7.bel {w u : World} {gr gx : Nat} {r x : R} (h : F7 w gr gx r x u) : Below w.heap.size w u := h.1
theorem wp_f7_new {C : Go.Code} {Q : Exit → Act → World → Prop} {a : Act} {w u : World} {gr : Nat} {r : R} (x : R) (hb : Below w.heap.size w u) {B : Nat} (_ : w.heap.size ≤ B) (hr : RowAt u gr r)
    (k : ∀ u', F7 w gr u.heap.size r x u' → Go.Code.wp Try.prog C Q a u') : Go.Code.wp Try.prog C Q a (u.alloc (.cells (rowCells x) 25)) :=
  k _ ⟨hb.alloc hb.size _, hr.alloc _, rowAt_new u _ x rfl⟩
theorem CodeIn.below_of {w u : World} {K : Code} (h : CodeIn w K) (hb : Below w.heap.size w u) : CodeIn u K := h.below hb
theorem Small.sampled {r : R} (h : Small r) (v : Int) : Small (sampledV r v) := by
  by_cases hc : rowOkV r = true ∧ r.kind = 3 ∧ (0 ≤ v ∧ v ≤ 65535)
  · have tf := timer_facts hc.1 hc.2.1
    obtain ⟨h0, h1, h2, h3, h4, h5, h6, h7, h8⟩ := h
    unfold sampledV
    rw [if_pos hc]
    split
    · constructor <;> simp only <;> (first | assumption | (split <;> omega))
    · split
      · constructor <;> simp only <;> (first | assumption | omega)
      · constructor <;> simp only <;> (first | assumption | (split <;> omega) | omega)
  · rw [sampled_no hc]; exact h
theorem Small.counted {r : R} (h : Small r) (v : Int) : Small (countedV r v) := by
  unfold countedV
  split
  · obtain ⟨h0, h1, h2, h3, h4, h5, h6, h7, h8⟩ := h
    constructor <;> simp only <;> (first | assumption | omega)
  · exact h
theorem Fit.zero {key : ByteArray} {kind : Int} (h0 : key.size ≤ maxLen) (h1 : inW kind) : R.Fit ⟨key, kind, 0, false, 0, 0, 0, 0, 0, 0⟩ := by
  constructor <;> first | exact h0 | exact h1 | (unfold inW; simp only; omega)
set_option maxRecDepth 100000 in
set_option maxHeartbeats 4000000 in
theorem eq_row (w : World) (r s : R) : (binOp .eql 25 r.v s.v).run Try.prog w = .ok (.bool (decide (r = s))) w := by
  by_cases h : r = s
  · subst h
    rw [decide_eq_true rfl]
    obtain ⟨key, kind, sum, st, last, n', mn, mx, total, dropped⟩ := r
    unfold R.v
    simp only
    rw [run_eql_struct, run_equalIn_struct _ _ _ _ _ (by kernel_rfl) stood_row]
    simp [go_sem]
  · rw [decide_eq_false h]
    have := neq_row w r s h
    obtain ⟨key, kind, sum, st, last, n', mn, mx, total, dropped⟩ := r
    obtain ⟨key', kind', sum', st', last', n'', mn', mx', total', dropped'⟩ := s
    unfold R.v at *
    simp only at *
    rw [run_neq_struct] at this
    rw [run_eql_struct]
    generalize (Op.equalIn 10000 25 _ _).run Try.prog w = q at *
    cases q with
    | ok b w' =>
      simp only [Result.andThen_ok] at this ⊢
      injection this with e1 e2
      injection e1 with e1
      subst e2
      cases b
      · rfl
      · cases e1
    | halt a b => simp [Result.andThen] at this
end Go.Proofs.Ytfmmhfipibaghaa
