/-
  Chapter 7 on rows of rows: ReportOk, in plain words and the model's.
-/
import Derived.Test.YtfemdhknnfmpcaaZb
import Derived.Test.YtfemdhknnfmpcaaZa
import Derived.Laws.Cover1
namespace Go.Proofs.Ytfemdhknnfmpcaa
open Go.RowKit M
set_option linter.unusedVariables false
/-- x is not behind y, byte by byte. -/
def strLe (x y : ByteArray) : Bool := Go.Op.bytesLess x.toList y.toList || x.toList == y.toList
/-- Is the row at place i not as a report has it? -/
def badAt (rs : List R) (i : Nat) : Bool := !rowOkV (rs.getD i zeroR) || (quietV (rs.getD i zeroR) || (decide (0 < i) && strLe (rs.getD i zeroR).key (rs.getD (i - 1) zeroR).key))
def reportOkV (rs : List R) : Bool := decide (rs.length ≤ 4) && (List.range rs.length).all fun i => !badAt rs i
def GoodTo (rs : List R) (j : Nat) : Prop := ∀ m, m < j → badAt rs m = false
theorem GoodTo.zero (rs : List R) : GoodTo rs 0 := fun m h => absurd h (Nat.not_lt_zero _)
theorem GoodTo.next {rs : List R} {j : Nat} (h : GoodTo rs j) (k : badAt rs j = false) : GoodTo rs (j + 1) := fun m hm => by
  by_cases e : m = j
  · subst e; exact k
  · exact h m (by omega)
theorem reportOk_bad {rs : List R} {j : Nat} (hj : j < rs.length) (h : badAt rs j = true) : reportOkV rs = false := by
  unfold reportOkV
  rw [Bool.and_eq_false_iff]
  right
  rw [← Bool.not_eq_true, List.all_eq_true]
  intro k
  have := k j (List.mem_range.2 hj)
  rw [h] at this; cases this
theorem reportOk_all {rs : List R} (h : GoodTo rs rs.length) : reportOkV rs = decide ((rs.length : Int) ≤ 4) := by
  have e : ((List.range rs.length).all fun i => !badAt rs i) = true := by
    rw [List.all_eq_true]
    intro i hi
    rw [h i (List.mem_range.1 hi)]; rfl
  unfold reportOkV
  rw [e, Bool.and_true]
  congr 1
  simp only [eq_iff_iff]
  omega
/-- What the walk keeps while it reads a row and the key ahead of it. -/
def RpHeld (w0 : World) (b : Nat) (w : World) : Prop := Below w0.heap.size w0 w ∧ b < w0.heap.size
def RowHeld (w0 : World) (b o p : Nat) (r : R) (pk : ByteArray) (w : World) : Prop :=
  w.cell? ⟨b, o, none⟩ = some (.string r.key) ∧ w.cell? ⟨b, o + 1, none⟩ = some (.int .i64 r.kind) ∧ w.cell? ⟨b, o + 2, none⟩ = some (.int .i64 r.sum) ∧ w.cell? ⟨b, o + 3, none⟩ = some (.bool r.set) ∧ w.cell? ⟨b, o + 4, none⟩ = some (.int .i64 r.last) ∧
  w.cell? ⟨b, o + 5, none⟩ = some (.int .i64 r.n) ∧ w.cell? ⟨b, o + 6, none⟩ = some (.int .i64 r.mn) ∧ w.cell? ⟨b, o + 7, none⟩ = some (.int .i64 r.mx) ∧ w.cell? ⟨b, o + 8, none⟩ = some (.int .i64 r.total) ∧ w.cell? ⟨b, o + 9, none⟩ = some (.int .i64 r.dropped) ∧
  w.cell? ⟨b, p, none⟩ = some (.string pk) ∧ RpHeld w0 b w
theorem RowHeld.next {w0 w1 w2 : World} {b o p : Nat} {r : R} {pk : ByteArray} (hb : Below w1.heap.size w1 w2) (h : RowHeld w0 b o p r pk w1) : RowHeld w0 b o p r pk w2 := by
  obtain ⟨h0, h1, h2, h3, h4, h5, h6, h7, h8, h9, hp, hw, hlt⟩ := h
  have lt : b < w1.heap.size := Nat.lt_of_lt_of_le hlt hw.size
  exact ⟨(hb.cell (p := ⟨b, o, none⟩) lt).trans h0, (hb.cell (p := ⟨b, o + 1, none⟩) lt).trans h1, (hb.cell (p := ⟨b, o + 2, none⟩) lt).trans h2, (hb.cell (p := ⟨b, o + 3, none⟩) lt).trans h3, (hb.cell (p := ⟨b, o + 4, none⟩) lt).trans h4,
    (hb.cell (p := ⟨b, o + 5, none⟩) lt).trans h5, (hb.cell (p := ⟨b, o + 6, none⟩) lt).trans h6, (hb.cell (p := ⟨b, o + 7, none⟩) lt).trans h7, (hb.cell (p := ⟨b, o + 8, none⟩) lt).trans h8, (hb.cell (p := ⟨b, o + 9, none⟩) lt).trans h9,
    (hb.cell (p := ⟨b, p, none⟩) lt).trans hp, hw.trans (hb.mono hw.size), hlt⟩
theorem RowHeld.drew {w0 w1 : World} {b o p : Nat} {r : R} {pk : ByteArray} (h : RowHeld w0 b o p r pk w1) : RowHeld w0 b o p r pk w1.drew := h.next (below_drew _ _)
theorem rowHeld_get {w0 w1 : World} {b o p : Nat} {key : ByteArray} {kind sum : Int} {st : Bool} {last n mn mx total dropped : Int} {pk : ByteArray} (h : RowHeld w0 b o p ⟨key, kind, sum, st, last, n, mn, mx, total, dropped⟩ pk w1) :
    w1.cell? ⟨b, o, none⟩ = some (.string key) ∧ w1.cell? ⟨b, o + 1, none⟩ = some (.int .i64 kind) ∧ w1.cell? ⟨b, o + 2, none⟩ = some (.int .i64 sum) ∧ w1.cell? ⟨b, o + 3, none⟩ = some (.bool st) ∧ w1.cell? ⟨b, o + 4, none⟩ = some (.int .i64 last) ∧
      w1.cell? ⟨b, o + 5, none⟩ = some (.int .i64 n) ∧ w1.cell? ⟨b, o + 6, none⟩ = some (.int .i64 mn) ∧ w1.cell? ⟨b, o + 7, none⟩ = some (.int .i64 mx) ∧ w1.cell? ⟨b, o + 8, none⟩ = some (.int .i64 total) ∧ w1.cell? ⟨b, o + 9, none⟩ = some (.int .i64 dropped) ∧ w1.cell? ⟨b, p, none⟩ = some (.string pk) ∧ RpHeld w0 b w1 := h
theorem rowHeld_bel {w0 w1 : World} {b : Nat} {p0 p1 p2 p3 p4 p5 p6 p7 p8 p9 pp : Prop} (h : p0 ∧ p1 ∧ p2 ∧ p3 ∧ p4 ∧ p5 ∧ p6 ∧ p7 ∧ p8 ∧ p9 ∧ pp ∧ RpHeld w0 b w1) : Below w0.heap.size w0 w1 := h.2.2.2.2.2.2.2.2.2.2.2.1
theorem bad_row {rs : List R} {j : Nat} (h : rowOkV (rs.getD j zeroR) = false) : badAt rs j = true := by unfold badAt; rw [h]; rfl
theorem bad_quiet {rs : List R} {j : Nat} (h : rowOkV (rs.getD j zeroR) = true) (k : quietV (rs.getD j zeroR) = true) : badAt rs j = true := by unfold badAt; rw [h, k]; rfl
theorem bad_first {rs : List R} (h : rowOkV (rs.getD 0 zeroR) = true) (k : quietV (rs.getD 0 zeroR) = false) : badAt rs 0 = false := by unfold badAt; rw [h, k]; rfl
theorem bad_next {rs : List R} {m : Nat} (h : rowOkV (rs.getD (m + 1) zeroR) = true) (k : quietV (rs.getD (m + 1) zeroR) = false) : badAt rs (m + 1) = strLe (rs.getD (m + 1) zeroR).key (rs.getD m zeroR).key := by
  unfold badAt; rw [h, k]; simp
end Go.Proofs.Ytfemdhknnfmpcaa
