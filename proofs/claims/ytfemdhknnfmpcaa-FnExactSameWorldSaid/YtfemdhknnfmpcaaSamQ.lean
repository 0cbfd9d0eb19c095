/-
  Chapter 10, the program's comparison of two queues. It turns nothing that was there.
-/
import Derived.Test.YtfemdhknnfmpcaaSamG
namespace Go.Proofs.Ytfemdhknnfmpcaa
open Go.RowKit M
set_option linter.unusedVariables false
set_option linter.unusedSimpArgs false
set_option maxRecDepth 100000 in
theorem iSameQueue_any (w : World) (a b : List O) (v u : Value) (h : RecsArg 4 opCells zeroO w v a) (k : RecsArg 4 opCells zeroO w u b) : Calls Try.prog 88 #[.agg #[v], .agg #[u]] w (Gives (.bool (sameQV a b)) w) := by
  have HR := fun W (hb : Below w.heap.size w W) => Lib.hid (iEqualO_any W v u a b (h.below hb) (k.below hb))
  have HE := Lib.hid (show sameQV a b = decide (a = b) from rfl)
  generalize sameQV a b = all at *
  obtain ⟨A1, c1, rfl, _⟩ := h
  obtain ⟨A2, c2, rfl, _⟩ := k
  generalize a.length = n1 at *
  generalize b.length = n2 at *
  go_enter Try.func88, Try.ntmps88
  go_wp2_with fail
  have hb0 := ((Below.refl w.heap.size w).alloc (Nat.le_refl _) (.cells #[.slice A1 n1 c1] 73)).alloc (by simp [go_sem]) (.cells #[.slice A2 n2 c2] 73)
  refine (HR _ hb0).out.mono ?_
  rintro er w2 ⟨rfl, hb2⟩
  have HB := Lib.hid (hb0.trans (hb2.mono hb0.size))
  clear hb0 hb2
  go_wp2_with fail
  go_ret
  exact ⟨ret_bl HE.out.symm, HB.out⟩
end Go.Proofs.Ytfemdhknnfmpcaa
