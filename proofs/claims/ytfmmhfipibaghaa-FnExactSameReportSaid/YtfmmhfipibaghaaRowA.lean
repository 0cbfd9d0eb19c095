/-
  An argument that is a row (a struct of ten one-cell fields, by value), opened: it is some row each of whose fields fits its type.
-/
import Derived.Test.YtfmmhfipibaghaaRowV
import Derived.Test.YtfmmhfipibaghaaChecked
import Derived.Deep.Fields
import Derived.OpenShut
import Derived.KernelRfl
namespace Go.Proofs.Ytfmmhfipibaghaa
open Go.ChangeShapes Go.WideShapes Go.Deep Go.RowKit M
set_option linter.unusedVariables false
section
variable {H : Type} {enc : TypeId × Value → H} {P : Program} {w : World} {base : Nat} {spare : Nat → Bool} {held : Bool}
/-- The reading of a struct gives the reading of each of its one-cell fields. -/
theorem field_read {fs : Array Field} {cs : List Value} {xs : List (DataW H × List MemPlace)} {n : Nat}
    (hg : ∀ (i : Nat) (f : Field), fs[i]? = some f → DataW.trod enc P w base spare held n f.type ((cs.drop f.offset).take (P.cellsOf f.type)) = xs[i]?)
    (hone : oneCellFields P fs = true) {i : Nat} {f : Field} {c : Value} (hf : fs[i]? = some f) (hc : cs[i]? = some c) (hx : i < xs.length) : ∃ y, DataW.trod enc P w base spare held n f.type [c] = some y := by
  have h := hg i f hf
  rw [(hone_of hone i f hf).1, (hone_of hone i f hf).2] at h
  obtain ⟨hl, he⟩ := List.getElem?_eq_some_iff.1 hc
  rw [List.drop_eq_getElem_cons hl, he, List.getElem?_eq_getElem hx] at h
  exact ⟨_, by simpa using h⟩
end
theorem fit_of {n : Int} (h : (Lit.int .i64 n).wf = true) : inW n := bounds_i64 h
theorem hone_row : ∀ fs, Try.prog.underlying 30 = some (.struct fs) → oneCellFields Try.prog fs = true := by
  intro fs h
  rw [Try.underlying30] at h
  injection h with h; injection h with h; subst h
  kernel_rfl
theorem read_row {H : Type} {enc : TypeId × Value → H} {w : World} {base : Nat} {spare : Nat → Bool} {held : Bool} {fuel : Nat} {cs : List Value} {x : DataW H × List MemPlace} (hsz : cs.length = 10)
    (hf : DataW.trod enc Try.prog w base spare held fuel 30 cs = some x) : ∃ r : R, cs = (rowCells r).toList ∧ r.Fit := by
  obtain ⟨xs, n, _, _, hlen, hxl, hg⟩ := DataW.trod_struct Try.underlying30 hf
  have hx : xs.length = 10 := hxl
  have hone := hone_row _ Try.underlying30
  match cs, hsz with
  | [c0, c1, c2, c3, c4, c5, c6, c7, c8, c9], _ =>
    obtain ⟨y0, h0⟩ := field_read hg hone (i := 0) rfl rfl (by omega)
    obtain ⟨y1, h1⟩ := field_read hg hone (i := 1) rfl rfl (by omega)
    obtain ⟨y2, h2⟩ := field_read hg hone (i := 2) rfl rfl (by omega)
    obtain ⟨y3, h3⟩ := field_read hg hone (i := 3) rfl rfl (by omega)
    obtain ⟨y4, h4⟩ := field_read hg hone (i := 4) rfl rfl (by omega)
    obtain ⟨y5, h5⟩ := field_read hg hone (i := 5) rfl rfl (by omega)
    obtain ⟨y6, h6⟩ := field_read hg hone (i := 6) rfl rfl (by omega)
    obtain ⟨y7, h7⟩ := field_read hg hone (i := 7) rfl rfl (by omega)
    obtain ⟨y8, h8⟩ := field_read hg hone (i := 8) rfl rfl (by omega)
    obtain ⟨y9, h9⟩ := field_read hg hone (i := 9) rfl rfl (by omega)
    obtain ⟨x0, e0, _, f0⟩ := DataW.trod_string Try.underlying9 h0
    obtain ⟨x1, e1, _, f1⟩ := DataW.trod_int Try.underlying3 h1
    obtain ⟨x2, e2, _, f2⟩ := DataW.trod_int Try.underlying3 h2
    obtain ⟨x3, e3, _⟩ := DataW.trod_bool Try.underlying4 h3
    obtain ⟨x4, e4, _, f4⟩ := DataW.trod_int Try.underlying3 h4
    obtain ⟨x5, e5, _, f5⟩ := DataW.trod_int Try.underlying3 h5
    obtain ⟨x6, e6, _, f6⟩ := DataW.trod_int Try.underlying3 h6
    obtain ⟨x7, e7, _, f7⟩ := DataW.trod_int Try.underlying3 h7
    obtain ⟨x8, e8, _, f8⟩ := DataW.trod_int Try.underlying3 h8
    obtain ⟨x9, e9, _, f9⟩ := DataW.trod_int Try.underlying3 h9
    simp only [List.cons.injEq, and_true] at e0 e1 e2 e3 e4 e5 e6 e7 e8 e9
    subst e0; subst e1; subst e2; subst e3; subst e4; subst e5; subst e6; subst e7; subst e8; subst e9
    exact ⟨⟨x0, x1, x2, x3, x4, x5, x6, x7, x8, x9⟩, rfl, ⟨f0, fit_of f1, fit_of f2, fit_of f4, fit_of f5, fit_of f6, fit_of f7, fit_of f8, fit_of f9⟩⟩
theorem open_row {H : Type} {enc : TypeId × Value → H} {w : World} {base : Nat} {spare : Nat → Bool} {held : Bool} {r : Reach} {b0 : Nat} {v : Value} {d : DataW H} {p : List MemPlace}
    (hv : Value.okWide Try.prog w r b0 30 v) (h : DataW.Trod enc Try.prog w base spare held 30 v d p) : ∃ x : R, v = x.v ∧ x.Fit := by
  obtain ⟨cs, rfl, hsz⟩ := okWide_struct Try.underlying30 hv
  obtain ⟨fuel, hf⟩ := h
  have hC : Try.prog.cellsOf 30 = 10 := by kernel_rfl
  rw [hC] at hsz
  obtain ⟨x, hx, hfit⟩ := read_row (cs := cs.toList) (by simpa using hsz) hf
  obtain rfl : cs = rowCells x := Array.ext' hx
  exact ⟨x, rfl, hfit⟩
end Go.Proofs.Ytfmmhfipibaghaa
