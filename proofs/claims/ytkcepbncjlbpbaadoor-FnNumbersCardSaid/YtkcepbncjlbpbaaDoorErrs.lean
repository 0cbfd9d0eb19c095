/-
  The library's two error variables and three tables, as the program's text lays them: what a world that holds all five gives, and one world that holds them.
-/
import Derived.Test.YtkcepbncjlbpbaaDoorAtoi
namespace Go.Proofs.YtkcepbncjlbpbaaDoor
open Go.ChangeShapes Go.WideShapes Go.ChangeAt Go.RowKit
theorem gEs : Tryd.prog.globalNamed "strconv.ErrSyntax" = some 0 := by kernel_rfl
theorem gEr : Tryd.prog.globalNamed "strconv.ErrRange" = some 1 := by kernel_rfl
theorem gEsType : (Tryd.prog.globals[0]?).map (·.type) = some 44 := by kernel_rfl
theorem gErType : (Tryd.prog.globals[1]?).map (·.type) = some 44 := by kernel_rfl
theorem cellsEs : Tryd.prog.cellsOf 79 = 1 := by kernel_rfl
theorem cellsStr : Tryd.prog.cellsOf 9 = 1 := by kernel_rfl
theorem starErr : "*" ++ "errors.errorString" = "*errors.errorString" := by decide
theorem rowErr (u : TypeId) (h : Tryd.prog.typeName? 3 u = some "*errors.errorString") : u = 77 :=
  typeName_ptr_named (nm := "errors.errorString") (by rw [starErr]; kernel_rfl) (by kernel_rfl) (by decide) u (by rw [starErr]; exact h)
/-- What a row's list of all five gives: each error variable holds a pointer. -/
theorem errs_of {W : World} {a b c : String × DataW Unit} {r : List (String × DataW Unit)} (h : laidMet Tryd.prog (a :: b :: c :: ("strconv.ErrRange", Rows.laid_strconv_ErrRange) :: ("strconv.ErrSyntax", Rows.laid_strconv_ErrSyntax) :: r) W) : ErrsLaid W := by
  have h3 := laidMet.tail (laidMet.tail (laidMet.tail h))
  obtain ⟨a1, _, hv1, _⟩ := laid_sentinel h3 gEr gErType Tryd.underlying44 rowErr Tryd.underlying77 Tryd.underlying79 rfl rfl Tryd.underlying9 cellsEs cellsStr
  obtain ⟨a0, _, hv0, _⟩ := laid_sentinel (laidMet.tail h3) gEs gEsType Tryd.underlying44 rowErr Tryd.underlying77 Tryd.underlying79 rfl rfl Tryd.underlying9 cellsEs cellsStr
  exact ⟨⟨_, _, hv0⟩, ⟨_, _, hv1⟩⟩
theorem errs_below {w w' : World} (hb : Below w.heap.size w w') (h : ErrsLaid w) : ErrsLaid w' := by
  obtain ⟨⟨t0, p0, h0⟩, ⟨t1, p1, h1⟩⟩ := h
  have c0 := World.var?_cell gEs h0 0
  have c1 := World.var?_cell gEr h1 0
  exact ⟨⟨t0, p0, var?_below hb gEs (lt_of_cell (a := ⟨0, 0, none⟩) (by simpa using c0)) h0⟩, ⟨t1, p1, var?_below hb gEr (lt_of_cell (a := ⟨1, 0, none⟩) (by simpa using c1)) h1⟩⟩
/-- So many blocks has the settled world. -/
noncomputable def low : Nat := (World.holding Tryd.prog default ⟨#[], #[], []⟩).heap.size
/-- An error variable's block, pointing at block n. -/
noncomputable def setErr (n : Nat) : Obj → Obj
  | .cells _ t frozen => .cells #[.iface 77 (.pointer (some ⟨n, 0, none⟩))] t frozen
  | o => o
/-- The settled world with the three tables and the two errors laid. -/
noncomputable def laidWorld5 (os : Os) : World :=
  let w0 := World.holding Tryd.prog os ⟨#[.cells #[.string ⟨#[118, 97, 108, 117, 101, 32, 111, 117, 116, 32, 111, 102, 32, 114, 97, 110, 103, 101]⟩] 79, .cells #[.string ⟨#[105, 110, 118, 97, 108, 105, 100, 32, 115, 121, 110, 116, 97, 120]⟩] 79], #[], []⟩
  { w0 with heap := ((((w0.heap.modify 2 (setTab .u64 pows)).modify 3 (setTab .u8 tab32)).modify 4 (setTab .u8 tab64)).modify 1 (setErr low)).modify 0 (setErr (low + 1)) }
end Go.Proofs.YtkcepbncjlbpbaaDoor
