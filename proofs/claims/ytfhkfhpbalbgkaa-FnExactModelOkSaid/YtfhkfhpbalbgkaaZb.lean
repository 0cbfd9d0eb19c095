/-
  Several small texts of this proof, one behind another: each says ahead of itself what it proves.
-/
import Derived.Test.YtfhkfhpbalbgkaaRowC
import Derived.OwnWalk
import Derived.Test.YtfhkfhpbalbgkaaZa
import Derived.Test.YtfhkfhpbalbgkaaRowO
import Derived.Deep.QuietTactic
import Derived.BigQuiet
import Derived.ProofKit
import Derived.OpenShut
import Derived.BigGuardPart
import Derived.Deep.RegionHeld3
import Derived.Laws.Cover1
import Derived.Deep.Slices
import Derived.Deep.Fields
import Derived.KernelRfl
import Derived.Deep.Cut
import Derived.Test.YtfhkfhpbalbgkaaKeyI
/-
  Rows of rows: reading one that came in or was made; one that a call made itself: storing a row, appending one.
-/
namespace Go.Proofs.Ytfhkfhpbalbgkaa
open Go.RowKit M
set_option linter.unusedVariables false
/-- Row r lies in block b from cell o on. -/
def Row10 (w : World) (b o : Nat) (r : R) : Prop := ∀ k, k < 10 → w.cell? ⟨b, o + k, none⟩ = (rowCells r)[k]?
theorem Row10.get {w : World} {b o : Nat} {r : R} (h : Row10 w b o r) :
    w.cell? ⟨b, o, none⟩ = some (.string r.key) ∧ w.cell? ⟨b, o + 1, none⟩ = some (.int .i64 r.kind) ∧ w.cell? ⟨b, o + 2, none⟩ = some (.int .i64 r.sum) ∧ w.cell? ⟨b, o + 3, none⟩ = some (.bool r.set) ∧ w.cell? ⟨b, o + 4, none⟩ = some (.int .i64 r.last) ∧
    w.cell? ⟨b, o + 5, none⟩ = some (.int .i64 r.n) ∧ w.cell? ⟨b, o + 6, none⟩ = some (.int .i64 r.mn) ∧ w.cell? ⟨b, o + 7, none⟩ = some (.int .i64 r.mx) ∧ w.cell? ⟨b, o + 8, none⟩ = some (.int .i64 r.total) ∧ w.cell? ⟨b, o + 9, none⟩ = some (.int .i64 r.dropped) :=
  ⟨h 0 (by decide), h 1 (by decide), h 2 (by decide), h 3 (by decide), h 4 (by decide), h 5 (by decide), h 6 (by decide), h 7 (by decide), h 8 (by decide), h 9 (by decide)⟩
theorem Row10.below {w w' : World} {b o : Nat} {r : R} (h : Row10 w b o r) (hlt : b < w.heap.size) (hb : Below w.heap.size w w') : Row10 w' b o r :=
  fun k hk => (hb.cell (p := ⟨b, o + k, none⟩) hlt).trans (h k hk)
/-- The slice value v reads as the rows rs (nil, or of no length, or one whose cells are there). -/
def RowsArg (w : World) (v : Value) (rs : List R) : Prop :=
  ∃ A cap, v = .slice A rs.length cap ∧ rs.length ≤ cap ∧ cap ≤ maxLen ∧ (0 < rs.length → ∃ b off, A = some ⟨b, off, none⟩ ∧ b < w.heap.size ∧ ∀ j, j < rs.length → Row10 w b (off + j * 10) (rs.getD j zeroR))
theorem RowsArg.below {w w' : World} {v : Value} {rs : List R} (h : RowsArg w v rs) (hb : Below w.heap.size w w') : RowsArg w' v rs := by
  obtain ⟨A, cap, e, h1, h2, h3⟩ := h
  refine ⟨A, cap, e, h1, h2, fun hp => ?_⟩
  obtain ⟨b, off, ea, h4, h5⟩ := h3 hp
  exact ⟨b, off, ea, Nat.lt_of_lt_of_le h4 hb.size, fun j hj => (h5 j hj).below h4 hb⟩
theorem RowsArg.nil (w : World) : RowsArg w (.slice none 0 0) [] := ⟨none, 0, rfl, Nat.zero_le _, Nat.zero_le _, fun h => absurd h (by simp)⟩
/-- The cells of the rows. -/
def cellsR (rs : List R) : List Value := rs.flatMap fun r => (rowCells r).toList
theorem cells10 (r : R) : (rowCells r).toList.length = 10 := rfl
theorem cellsR_length (rs : List R) : (cellsR rs).length = rs.length * 10 := by
  induction rs with
  | nil => rfl
  | cons r rs ih => simp only [cellsR, List.flatMap_cons, List.length_append, List.length_cons] at *; rw [ih, cells10]; omega
theorem cellsR_append (xs ys : List R) : cellsR (xs ++ ys) = cellsR xs ++ cellsR ys := by simp [cellsR]
theorem cellsR_at (rs : List R) (j k : Nat) (hj : j < rs.length) (hk : k < 10) : (cellsR rs)[j * 10 + k]? = (rowCells (rs.getD j zeroR))[k]? := by
  induction rs generalizing j with
  | nil => simp at hj
  | cons r rs ih =>
    show ((rowCells r).toList ++ cellsR rs)[j * 10 + k]? = _
    cases j with
    | zero => rw [List.getElem?_append_left (by rw [cells10]; omega)]; simp
    | succ j =>
      rw [List.getElem?_append_right (by rw [cells10]; omega), cells10, show (j + 1) * 10 + k - 10 = j * 10 + k by omega, ih j (by simpa using hj)]
      simp
theorem cellsR_one (rs : List R) : ∀ u ∈ cellsR rs, u.oneCell' = true := by
  intro u hu
  obtain ⟨r, _, hr⟩ := List.mem_flatMap.1 hu
  simp [rowCells] at hr
  rcases hr with rfl | rfl | rfl | rfl | rfl | rfl | rfl | rfl | rfl | rfl <;> rfl
/-- The row of rows is the call's own: in a block from base on. -/
def OwnR (w : World) (base : Nat) (v : Value) (rs : List R) : Prop := w.ownsRow base 42 10 v rs.length (cellsR rs)
theorem OwnR.alloc {w : World} {base : Nat} {v : Value} {rs : List R} (h : OwnR w base v rs) (o : Obj) : OwnR (w.alloc o) base v rs := World.ownsRow.alloc h o
theorem OwnR.kept {w w' : World} {base : Nat} {v : Value} {rs : List R} {row : Option Nat} (h : OwnR w base v rs) (hg : w.grownBy w' row) (hne : v.ownBlock = none ∨ v.ownBlock ≠ row) : OwnR w' base v rs := World.ownsRow.kept h hg hne
theorem OwnR.base_le {w : World} {base : Nat} {v : Value} {rs : List R} (h : OwnR w base v rs) : ∀ k, v.ownBlock = some k → base ≤ k := fun k hk => (World.ownsRow.lt h k hk).1
theorem OwnR.below {w w' : World} {base : Nat} {v : Value} {rs : List R} (h : OwnR w base v rs) (hb : Below w.heap.size w w') : OwnR w' base v rs :=
  h.kept (row := none) ⟨hb.os, hb.tape, hb.output, hb.size, fun i hi _ => hb.block i hi⟩ (by cases v.ownBlock <;> simp)
theorem OwnR.arg {w : World} {base : Nat} {v : Value} {rs : List R} (h : OwnR w base v rs) : RowsArg w v rs := by
  have h' := h
  rcases h.2 with ⟨rfl, h0⟩ | ⟨g, cap, cur, rfl, hb, hg, hn, hm, hc, ht⟩
  · exact ⟨none, 0, by rw [h0], by omega, Nat.zero_le _, fun h => by omega⟩
  · refine ⟨_, cap, rfl, hn, hm, fun _ => ⟨g, 0, rfl, (World.ownsRow.lt h' g rfl).2, fun j hj k hk => ?_⟩⟩
    rw [Nat.zero_add, World.ownsRow.cellAt h' (j * 10 + k) (by omega), cellsR_at rs j k hj hk]
theorem OwnR.at {w : World} {base g n cap : Nat} {rs : List R} (h : OwnR w base (.slice (some ⟨g, 0, none⟩) n cap) rs) (hn : rs.length = n) (j : Nat) (hj : j < n) : Row10 w g (j * 10) (rs.getD j zeroR) := by
  subst hn
  exact fun k hk => by rw [World.ownsRow.cellAt h (j * 10 + k) (by omega), cellsR_at rs j k hj hk]
theorem OwnR.frz {w : World} {base g n cap : Nat} {rs : List R} (h : OwnR w base (.slice (some ⟨g, 0, none⟩) n cap) rs) (hn : rs.length = n) (j : Nat) : w.frozen? ⟨g, j, none⟩ = false := by
  subst hn
  exact World.ownsRow.frozenAt h j
/-- Ten stores: row r into block g from cell o on. -/
def put10 (w : World) (g o : Nat) (r : R) : World :=
  (((((((((w.setCell ⟨g, o, none⟩ (.string r.key)).setCell ⟨g, o + 1, none⟩ (.int .i64 r.kind)).setCell ⟨g, o + 2, none⟩ (.int .i64 r.sum)).setCell ⟨g, o + 3, none⟩ (.bool r.set)).setCell ⟨g, o + 4, none⟩ (.int .i64 r.last)).setCell ⟨g, o + 5, none⟩ (.int .i64 r.n)).setCell ⟨g, o + 6, none⟩ (.int .i64 r.mn)).setCell ⟨g, o + 7, none⟩ (.int .i64 r.mx)).setCell ⟨g, o + 8, none⟩ (.int .i64 r.total)).setCell ⟨g, o + 9, none⟩ (.int .i64 r.dropped)
theorem set_append {α : Type} (la bs cs : List α) (i : Nat) (x : α) (hi : i < bs.length) : (la ++ (bs ++ cs)).set (la.length + i) x = la ++ (bs.set i x ++ cs) := by
  rw [List.set_append_right _ _ (by omega), Nat.add_sub_cancel_left, List.set_append_left _ _ hi]
theorem cellsR_set (rs : List R) (j : Nat) (r : R) (hj : j < rs.length) :
    (((((((((((cellsR rs).set (j * 10) (.string r.key)).set (j * 10 + 1) (.int .i64 r.kind)).set (j * 10 + 2) (.int .i64 r.sum)).set (j * 10 + 3) (.bool r.set)).set (j * 10 + 4) (.int .i64 r.last)).set (j * 10 + 5) (.int .i64 r.n)).set (j * 10 + 6) (.int .i64 r.mn)).set (j * 10 + 7) (.int .i64 r.mx)).set (j * 10 + 8) (.int .i64 r.total)).set (j * 10 + 9) (.int .i64 r.dropped)) = cellsR (rs.set j r) := by
  have e : rs = rs.take j ++ (rs.getD j zeroR :: rs.drop (j + 1)) := by
    rw [List.getD_eq_getElem?_getD, List.getElem?_eq_getElem hj, Option.getD_some, ← List.drop_eq_getElem_cons hj, List.take_append_drop]
  generalize rs.getD j zeroR = z at e
  have e2 : rs.set j r = rs.take j ++ (r :: rs.drop (j + 1)) := by
    conv => lhs; rw [e]
    rw [List.set_append_right _ _ (by rw [List.length_take]; omega), List.length_take, show j - min j rs.length = 0 by omega, List.set_cons_zero]
  have e3 : cellsR rs = cellsR (rs.take j) ++ ((rowCells z).toList ++ cellsR (rs.drop (j + 1))) := by
    conv => lhs; rw [e]
    rw [cellsR_append]; rfl
  have e4 : cellsR (rs.set j r) = cellsR (rs.take j) ++ ((rowCells r).toList ++ cellsR (rs.drop (j + 1))) := by rw [e2, cellsR_append]; rfl
  have e5 : (cellsR (rs.take j)).length = j * 10 := by rw [cellsR_length, List.length_take]; omega
  rw [e3, e4, ← e5]
  have S := fun (bs : List Value) (i : Nat) (x : Value) (hi : i < bs.length) => set_append (cellsR (rs.take j)) bs (cellsR (rs.drop (j + 1))) i x hi
  have S0 := fun (bs : List Value) (x : Value) (hi : 0 < bs.length) => S bs 0 x hi
  simp only [Nat.add_zero] at S0
  rw [S0 _ _ (by simp [rowCells]), S _ 1 _ (by simp [rowCells]), S _ 2 _ (by simp [rowCells]), S _ 3 _ (by simp [rowCells]), S _ 4 _ (by simp [rowCells]), S _ 5 _ (by simp [rowCells]), S _ 6 _ (by simp [rowCells]), S _ 7 _ (by simp [rowCells]), S _ 8 _ (by simp [rowCells]), S _ 9 _ (by simp [rowCells])]
  rfl
theorem grownR_trans {a b c : World} {o : Option Nat} (h : a.grownBy b o) (k : b.grownBy c o) : a.grownBy c o :=
  ⟨k.os.trans h.os, k.tape.trans h.tape, k.output.trans h.output, Nat.le_trans h.size k.size, fun i hi hne => (k.block i (Nat.lt_of_lt_of_le hi h.size) hne).trans (h.block i hi hne)⟩
theorem OwnR.put {w : World} {base g n cap : Nat} {rs : List R} (h : OwnR w base (.slice (some ⟨g, 0, none⟩) n cap) rs) (hn : rs.length = n) (j : Nat) (hj : j < n) (r : R) :
    OwnR (put10 w g (j * 10) r) base (.slice (some ⟨g, 0, none⟩) n cap) (rs.set j r) ∧ w.grownBy (put10 w g (j * 10) r) (some g) := by
  subst hn
  have h0 := World.ownsRow.stored h (j * 10) (.string r.key)
  have h1 := World.ownsRow.stored h0.1 (j * 10 + 1) (.int .i64 r.kind)
  have h2 := World.ownsRow.stored h1.1 (j * 10 + 2) (.int .i64 r.sum)
  have h3 := World.ownsRow.stored h2.1 (j * 10 + 3) (.bool r.set)
  have h4 := World.ownsRow.stored h3.1 (j * 10 + 4) (.int .i64 r.last)
  have h5 := World.ownsRow.stored h4.1 (j * 10 + 5) (.int .i64 r.n)
  have h6 := World.ownsRow.stored h5.1 (j * 10 + 6) (.int .i64 r.mn)
  have h7 := World.ownsRow.stored h6.1 (j * 10 + 7) (.int .i64 r.mx)
  have h8 := World.ownsRow.stored h7.1 (j * 10 + 8) (.int .i64 r.total)
  have h9 := World.ownsRow.stored h8.1 (j * 10 + 9) (.int .i64 r.dropped)
  refine ⟨?_, grownR_trans (grownR_trans (grownR_trans (grownR_trans (grownR_trans (grownR_trans (grownR_trans (grownR_trans (grownR_trans h0.2 h1.2) h2.2) h3.2) h4.2) h5.2) h6.2) h7.2) h8.2) h9.2⟩
  unfold OwnR
  rw [List.length_set, ← cellsR_set rs j r hj]
  exact h9.1
/-- A call hands back a new row of rows of its own, and turns nothing that was there. -/
def MadeR (w : World) (rs : List R) (e : Ending) (w' : World) : Prop := ∃ v, e = .returned v ∧ OwnR w' w.heap.size v rs ∧ Below w.heap.size w w'
/-- An empty one that was just built. -/
theorem OwnR.empty (w : World) (base : Nat) (hb : base ≤ w.heap.size) : OwnR (w.alloc (.cells #[] 42)) base (.slice (some ⟨w.heap.size, 0, none⟩) 0 0) [] :=
  World.ownsRow_lit w #[] 0 hb (Nat.zero_le _) rfl
theorem info_row : (Try.prog.info? 42).map (fun i => (i.zero, i.size, i.bytes)) = some (some zeroR.v, 10, 88) := by kernel_rfl
/-- append(v, x) onto an own row of rows, x being a row that lies alone in a new block. -/
theorem wpR_append (w : World) {ops : Array Oper} {rest : List Oper} {o : Oper} {a : Act} {Q : Exit → Act → World → Prop} (hgd : o.guard = none) (s x : Operand)
    (ho : o.op = .call { callee := .builtin .append, args := #[s, x], argTypes := #[29, 29] })
    (base : Nat) (v : Value) (l : List R) (hown : OwnR w base v l) (hs : a.eval s = v)
    (c : R) (cs : Array Value) (hcs : cs = rowCells c) (hx : a.eval x = .slice (some ⟨w.heap.size, 0, none⟩) 1 1)
    (hlen : l.length + 1 ≤ 8796093022) (hbase : base ≤ w.heap.size)
    (h : ∀ v' w', OwnR w' base v' (l ++ [c]) → (w.alloc (.cells cs 42)).grownBy w' v.ownBlock → wpList Try.prog ops Q rest (a.put o.dst v') w') : wpList Try.prog ops Q (o :: rest) a (w.alloc (.cells cs 42)) := by
  subst hcs
  obtain ⟨i0, hi, hz0, hz1, hz2⟩ := info_parts info_row
  refine wpList_append_own (w.alloc (.cells (rowCells c) 42)) hgd s x 29 ho base 42 i0 zeroR.v 10 88 Try.underlying29 hi hz0 hz1 hz2 rfl (by decide) v l.length (cellsR l) hs (hown.alloc _) ⟨w.heap.size, 0, none⟩ 1 1 (rowCells c).toList hx rfl ?_ ?_ (by unfold maxLen; omega) (by omega) (by simp [go_sem]; omega) ?_
  · intro j u hu
    have hj : j < 10 := by have := (List.getElem?_eq_some_iff.1 hu).1; simpa [rowCells] using this
    rw [Addr.add_lit, Nat.zero_add, cell_of_row _ _ _ _ _ _ (heap_alloc_new w _)]
    rw [Array.getElem?_toList] at hu
    exact hu
  · intro u hu
    exact cellsR_one [c] u (by simpa [cellsR] using hu)
  · intro v' w' h1 h2 _
    refine h v' w' ?_ h2
    unfold OwnR
    rw [List.length_append, cellsR_append]
    simpa [cellsR] using h1
end Go.Proofs.Ytfhkfhpbalbgkaa
/-
  Two rows compared by the program: they are alike exactly if each field is.
-/
namespace Go.Proofs.Ytfhkfhpbalbgkaa
open Go.RowKit M
set_option linter.unusedVariables false
instance decR : DecidableEq R := fun a b =>
  if h : (a.key = b.key ∧ a.kind = b.kind ∧ a.sum = b.sum ∧ a.set = b.set ∧ a.last = b.last) ∧ a.n = b.n ∧ a.mn = b.mn ∧ a.mx = b.mx ∧ a.total = b.total ∧ a.dropped = b.dropped then
    .isTrue (by
      obtain ⟨⟨h0, h1, h2, h3, h4⟩, h5, h6, h7, h8, h9⟩ := h
      cases a; cases b
      simp only at *
      subst h0; subst h1; subst h2; subst h3; subst h4; subst h5; subst h6; subst h7; subst h8; subst h9
      rfl)
  else .isFalse (fun e => h (by subst e; exact ⟨⟨rfl, rfl, rfl, rfl, rfl⟩, rfl, rfl, rfl, rfl, rfl⟩))
theorem stood_row : Try.prog.stoodInHeld 42 = false := by kernel_rfl
set_option maxRecDepth 100000 in
set_option maxHeartbeats 4000000 in
theorem neq_row (w : World) (r s : R) (h : r ≠ s) : (binOp .neq 42 r.v s.v).run Try.prog w = .ok (.bool true) w := by
  obtain ⟨key, kind, sum, st, last, n', mn, mx, total, dropped⟩ := r
  obtain ⟨key', kind', sum', st', last', n'', mn', mx', total', dropped'⟩ := s
  unfold R.v
  simp only at *
  rw [run_neq_struct, run_equalIn_struct _ _ _ _ _ (by kernel_rfl) stood_row]
  by_cases e0 : key = key'
  · subst e0
    by_cases e1 : kind = kind'
    · subst e1
      simp [go_sem]
      rintro rfl rfl rfl rfl rfl rfl rfl rfl
      exact h rfl
    · simp [go_sem, e1]
  · have e := txt_ne e0
    simp [go_sem, e]
end Go.Proofs.Ytfhkfhpbalbgkaa
/-
  Chapter 7 on rows of rows, in plain words and the model's: SameReport, ReportOk.
-/
namespace Go.Proofs.Ytfhkfhpbalbgkaa
open Go.RowKit M
set_option linter.unusedVariables false
def sameRV (xs ys : List R) : Bool := decide (xs = ys)
def EqTo (xs ys : List R) (j : Nat) : Prop := ∀ m, m < j → xs.getD m zeroR = ys.getD m zeroR
theorem EqTo.zero (xs ys : List R) : EqTo xs ys 0 := fun m h => absurd h (Nat.not_lt_zero _)
theorem EqTo.next {xs ys : List R} {j : Nat} (h : EqTo xs ys j) (k : xs.getD j zeroR = ys.getD j zeroR) : EqTo xs ys (j + 1) := fun m hm => by
  by_cases e : m = j
  · subst e; exact k
  · exact h m (by omega)
theorem EqTo.all {xs ys : List R} (hl : xs.length = ys.length) (h : EqTo xs ys xs.length) : sameRV xs ys = true := by
  apply decide_eq_true
  apply List.ext_getElem? 
  intro i
  by_cases hi : i < xs.length
  · have := h i hi
    rw [List.getD_eq_getElem?_getD, List.getD_eq_getElem?_getD, List.getElem?_eq_getElem hi, List.getElem?_eq_getElem (by omega)] at this
    rw [List.getElem?_eq_getElem hi, List.getElem?_eq_getElem (by omega)]
    exact congrArg some this
  · rw [List.getElem?_eq_none (by omega), List.getElem?_eq_none (by omega)]
theorem sameRV_len {xs ys : List R} (hl : xs.length ≠ ys.length) : sameRV xs ys = false := decide_eq_false fun e => hl (by rw [e])
theorem sameRV_ne {xs ys : List R} {j : Nat} (h : xs.getD j zeroR ≠ ys.getD j zeroR) : sameRV xs ys = false := decide_eq_false fun e => h (by rw [e])
end Go.Proofs.Ytfhkfhpbalbgkaa
/-
  Chapter 7 on rows of rows: ReportOk, in plain words and the model's.
-/
namespace Go.Proofs.Ytfhkfhpbalbgkaa
open Go.RowKit M
set_option linter.unusedVariables false
/-- x is not behind y, byte by byte. -/
def strLe (x y : ByteArray) : Bool := Go.Op.bytesLess x.toList y.toList || x.toList == y.toList
/-- Is the row at place i not as a report has it? -/
def badAt (rs : List R) (i : Nat) : Bool := !rowOkV (rs.getD i zeroR) || (quietV (rs.getD i zeroR) || (decide (0 < i) && strLe (rs.getD i zeroR).key (rs.getD (i - 1) zeroR).key))
def reportOkV (rs : List R) : Bool := decide (rs.length ≤ 4) && (List.range rs.length).all fun i => !badAt rs i
def GoodTo (rs : List R) (j : Nat) : Prop := ∀ m, m < j → badAt rs m = false
theorem GoodTo.zero (rs : List R) : GoodTo rs 0 := fun m h => absurd h (Nat.not_lt_zero _)
theorem GoodTo.next {rs : List R} {j : Nat} (h : GoodTo rs j) (k : badAt rs j = false) : GoodTo rs (j + 1) := fun m hm => by
  by_cases e : m = j
  · subst e; exact k
  · exact h m (by omega)
theorem reportOk_bad {rs : List R} {j : Nat} (hj : j < rs.length) (h : badAt rs j = true) : reportOkV rs = false := by
  unfold reportOkV
  rw [Bool.and_eq_false_iff]
  right
  rw [← Bool.not_eq_true, List.all_eq_true]
  intro k
  have := k j (List.mem_range.2 hj)
  rw [h] at this; cases this
theorem reportOk_all {rs : List R} (h : GoodTo rs rs.length) : reportOkV rs = decide ((rs.length : Int) ≤ 4) := by
  have e : ((List.range rs.length).all fun i => !badAt rs i) = true := by
    rw [List.all_eq_true]
    intro i hi
    rw [h i (List.mem_range.1 hi)]; rfl
  unfold reportOkV
  rw [e, Bool.and_true]
  congr 1
  simp only [eq_iff_iff]
  omega
/-- What the walk keeps while it reads a row and the key ahead of it. -/
def RpHeld (w0 : World) (b : Nat) (w : World) : Prop := Below w0.heap.size w0 w ∧ b < w0.heap.size
def RowHeld (w0 : World) (b o p : Nat) (r : R) (pk : ByteArray) (w : World) : Prop :=
  w.cell? ⟨b, o, none⟩ = some (.string r.key) ∧ w.cell? ⟨b, o + 1, none⟩ = some (.int .i64 r.kind) ∧ w.cell? ⟨b, o + 2, none⟩ = some (.int .i64 r.sum) ∧ w.cell? ⟨b, o + 3, none⟩ = some (.bool r.set) ∧ w.cell? ⟨b, o + 4, none⟩ = some (.int .i64 r.last) ∧
  w.cell? ⟨b, o + 5, none⟩ = some (.int .i64 r.n) ∧ w.cell? ⟨b, o + 6, none⟩ = some (.int .i64 r.mn) ∧ w.cell? ⟨b, o + 7, none⟩ = some (.int .i64 r.mx) ∧ w.cell? ⟨b, o + 8, none⟩ = some (.int .i64 r.total) ∧ w.cell? ⟨b, o + 9, none⟩ = some (.int .i64 r.dropped) ∧
  w.cell? ⟨b, p, none⟩ = some (.string pk) ∧ RpHeld w0 b w
theorem RowHeld.next {w0 w1 w2 : World} {b o p : Nat} {r : R} {pk : ByteArray} (hb : Below w1.heap.size w1 w2) (h : RowHeld w0 b o p r pk w1) : RowHeld w0 b o p r pk w2 := by
  obtain ⟨h0, h1, h2, h3, h4, h5, h6, h7, h8, h9, hp, hw, hlt⟩ := h
  have lt : b < w1.heap.size := Nat.lt_of_lt_of_le hlt hw.size
  exact ⟨(hb.cell (p := ⟨b, o, none⟩) lt).trans h0, (hb.cell (p := ⟨b, o + 1, none⟩) lt).trans h1, (hb.cell (p := ⟨b, o + 2, none⟩) lt).trans h2, (hb.cell (p := ⟨b, o + 3, none⟩) lt).trans h3, (hb.cell (p := ⟨b, o + 4, none⟩) lt).trans h4,
    (hb.cell (p := ⟨b, o + 5, none⟩) lt).trans h5, (hb.cell (p := ⟨b, o + 6, none⟩) lt).trans h6, (hb.cell (p := ⟨b, o + 7, none⟩) lt).trans h7, (hb.cell (p := ⟨b, o + 8, none⟩) lt).trans h8, (hb.cell (p := ⟨b, o + 9, none⟩) lt).trans h9,
    (hb.cell (p := ⟨b, p, none⟩) lt).trans hp, hw.trans (hb.mono hw.size), hlt⟩
theorem RowHeld.drew {w0 w1 : World} {b o p : Nat} {r : R} {pk : ByteArray} (h : RowHeld w0 b o p r pk w1) : RowHeld w0 b o p r pk w1.drew := h.next (below_drew _ _)
theorem rowHeld_get {w0 w1 : World} {b o p : Nat} {key : ByteArray} {kind sum : Int} {st : Bool} {last n mn mx total dropped : Int} {pk : ByteArray} (h : RowHeld w0 b o p ⟨key, kind, sum, st, last, n, mn, mx, total, dropped⟩ pk w1) :
    w1.cell? ⟨b, o, none⟩ = some (.string key) ∧ w1.cell? ⟨b, o + 1, none⟩ = some (.int .i64 kind) ∧ w1.cell? ⟨b, o + 2, none⟩ = some (.int .i64 sum) ∧ w1.cell? ⟨b, o + 3, none⟩ = some (.bool st) ∧ w1.cell? ⟨b, o + 4, none⟩ = some (.int .i64 last) ∧
      w1.cell? ⟨b, o + 5, none⟩ = some (.int .i64 n) ∧ w1.cell? ⟨b, o + 6, none⟩ = some (.int .i64 mn) ∧ w1.cell? ⟨b, o + 7, none⟩ = some (.int .i64 mx) ∧ w1.cell? ⟨b, o + 8, none⟩ = some (.int .i64 total) ∧ w1.cell? ⟨b, o + 9, none⟩ = some (.int .i64 dropped) ∧ w1.cell? ⟨b, p, none⟩ = some (.string pk) ∧ RpHeld w0 b w1 := h
theorem rowHeld_bel {w0 w1 : World} {b : Nat} {p0 p1 p2 p3 p4 p5 p6 p7 p8 p9 pp : Prop} (h : p0 ∧ p1 ∧ p2 ∧ p3 ∧ p4 ∧ p5 ∧ p6 ∧ p7 ∧ p8 ∧ p9 ∧ pp ∧ RpHeld w0 b w1) : Below w0.heap.size w0 w1 := h.2.2.2.2.2.2.2.2.2.2.2.1
theorem bad_row {rs : List R} {j : Nat} (h : rowOkV (rs.getD j zeroR) = false) : badAt rs j = true := by unfold badAt; rw [h]; rfl
theorem bad_quiet {rs : List R} {j : Nat} (h : rowOkV (rs.getD j zeroR) = true) (k : quietV (rs.getD j zeroR) = true) : badAt rs j = true := by unfold badAt; rw [h, k]; rfl
theorem bad_first {rs : List R} (h : rowOkV (rs.getD 0 zeroR) = true) (k : quietV (rs.getD 0 zeroR) = false) : badAt rs 0 = false := by unfold badAt; rw [h, k]; rfl
theorem bad_next {rs : List R} {m : Nat} (h : rowOkV (rs.getD (m + 1) zeroR) = true) (k : quietV (rs.getD (m + 1) zeroR) = false) : badAt rs (m + 1) = strLe (rs.getD (m + 1) zeroR).key (rs.getD m zeroR).key := by
  unfold badAt; rw [h, k]; simp
set_option maxRecDepth 100000 in
set_option maxHeartbeats 8000000 in
theorem sReportOk_any (w : World) (v : Value) (rs : List R) (h : RowsArg w v rs) (hk : ∀ j, j < rs.length → (rs.getD j zeroR).key.size ≤ maxLen) : Calls Try.prog 13 #[v] w (Gives (.bool (reportOkV rs)) w) := by
  obtain ⟨A, cap, rfl, h1, h2, h3⟩ := h
  unfold maxLen at h2
  have HALL := Lib.hid (fun (q : GoodTo rs rs.length) => reportOk_all q)
  have HBAD := Lib.hid (fun j (hj : j < rs.length) (hb : badAt rs j = true) => reportOk_bad hj hb)
  have HKS := Lib.hid hk
  generalize rs.length = n at *
  have H4 := Lib.hid h3
  clear h3 hk
  go_enter Try.func13, Try.ntmps13
  go_wp2_with fail
  go_loopw [3] (fun i wr => ∃ j : Nat, j ≤ n ∧ i = .int .i64 j ∧ GoodTo rs j ∧ Below w.heap.size w wr) (fun i _ => n - (intOf i).toNat)
  case atStart => exact ⟨0, Nat.zero_le _, rfl, GoodTo.zero _, Below.refl _ _⟩
  case round =>
    obtain ⟨j, hj, rfl, hg, hbl⟩ := hrel
    have HG := Lib.hid hg
    clear hg
    by_cases hlt : j < n
    · obtain ⟨b, off, rfl, hb, hc⟩ := H4.out (by omega)
      have HO := fun W => Lib.hid (sRowOk_any W (rs.getD j zeroR) (HKS.out j hlt))
      have HQ := fun W => Lib.hid (sQuiet_any W (rs.getD j zeroR))
      have HBD := Lib.hid (HBAD.out j hlt)
      have HN := Lib.hid (fun q => HG.out.next (j := j) q)
      have hr := ((hc j hlt).below hb hbl).get
      cases hok : rowOkV (rs.getD j zeroR) with
      | false =>
        have HB1 := Lib.hid (HBD.out (bad_row hok))
        rw [hok] at HO
        have HS := Lib.hid (RowHeld.drew (⟨hr.1, hr.2.1, hr.2.2.1, hr.2.2.2.1, hr.2.2.2.2.1, hr.2.2.2.2.2.1, hr.2.2.2.2.2.2.1, hr.2.2.2.2.2.2.2.1, hr.2.2.2.2.2.2.2.2.1, hr.2.2.2.2.2.2.2.2.2, hr.1, hbl, hb⟩ : RowHeld w b (off + j * 10) (off + j * 10) (rs.getD j zeroR) _ wr))
        clear hc hbl hr hok
        generalize rs.getD j zeroR = r at *
        obtain ⟨key, kind, sum, st, last, n', mn, mx, total, dropped⟩ := r
        unfold R.v at HO HQ
        simp only at *
        go_wp2_with fail
        have hall : ∀ p : Prop, (∀ W, RowHeld w b (off + j * 10) (off + j * 10) ⟨key, kind, sum, st, last, n', mn, mx, total, dropped⟩ key W → p) ↔ p := fun p => ⟨fun h => h _ HS.out, fun h _ _ => h⟩
        refine wp_region_wq (C := RowHeld w b (off + j * 10) (off + j * 10) ⟨key, kind, sum, st, last, n', mn, mx, total, dropped⟩ key) (by kernel_rfl) (by kernel_rfl) HS.out ?_
        repeat (refine WQ.step (fun K hK => ?_); go_simp; first | (refine hK _ ?_; clear hK K) | (apply Exists.intro; refine ⟨fun W hW => ?_, hK _ ?_⟩; (focus (first | (go_at_call 26; refine (HO W).out.mono ?_; rintro e w' ⟨rfl, hb'⟩; exact ⟨rfl, hW.next hb'⟩) | (go_at_call 27; refine (HQ W).out.mono ?_; rintro e w' ⟨rfl, hb'⟩; exact ⟨rfl, hW.next hb'⟩) | exact rfl | (obtain ⟨y0, y1, y2, y3, y4, y5, y6, y7, y8, y9, y10, hy⟩ := rowHeld_get hW; go_simp; rfl))); clear hK K))
        refine WQ.nil ?_
        intro w2 hw2
        have HW2 := hw2.2.2.2.2.2.2.2.2.2.2.2.1
        clear hw2
        go_wp2_with fail
        go_ret
        exact ⟨ret_bool HB1.out.symm, HW2⟩
      | true =>
        cases hqu : quietV (rs.getD j zeroR) with
        | true =>
          have HB1 := Lib.hid (HBD.out (bad_quiet hok hqu))
          rw [hok] at HO
          rw [hqu] at HQ
          have HS := Lib.hid (RowHeld.drew (⟨hr.1, hr.2.1, hr.2.2.1, hr.2.2.2.1, hr.2.2.2.2.1, hr.2.2.2.2.2.1, hr.2.2.2.2.2.2.1, hr.2.2.2.2.2.2.2.1, hr.2.2.2.2.2.2.2.2.1, hr.2.2.2.2.2.2.2.2.2, hr.1, hbl, hb⟩ : RowHeld w b (off + j * 10) (off + j * 10) (rs.getD j zeroR) _ wr))
          clear hc hbl hr hok hqu
          generalize rs.getD j zeroR = r at *
          obtain ⟨key, kind, sum, st, last, n', mn, mx, total, dropped⟩ := r
          unfold R.v at HO HQ
          simp only at *
          go_wp2_with fail
          have hall : ∀ p : Prop, (∀ W, RowHeld w b (off + j * 10) (off + j * 10) ⟨key, kind, sum, st, last, n', mn, mx, total, dropped⟩ key W → p) ↔ p := fun p => ⟨fun h => h _ HS.out, fun h _ _ => h⟩
          refine wp_region_wq (C := RowHeld w b (off + j * 10) (off + j * 10) ⟨key, kind, sum, st, last, n', mn, mx, total, dropped⟩ key) (by kernel_rfl) (by kernel_rfl) HS.out ?_
          repeat (refine WQ.step (fun K hK => ?_); go_simp; first | (refine hK _ ?_; clear hK K) | (apply Exists.intro; refine ⟨fun W hW => ?_, hK _ ?_⟩; (focus (first | (go_at_call 26; refine (HO W).out.mono ?_; rintro e w' ⟨rfl, hb'⟩; exact ⟨rfl, hW.next hb'⟩) | (go_at_call 27; refine (HQ W).out.mono ?_; rintro e w' ⟨rfl, hb'⟩; exact ⟨rfl, hW.next hb'⟩) | exact rfl | (obtain ⟨y0, y1, y2, y3, y4, y5, y6, y7, y8, y9, y10, hy⟩ := rowHeld_get hW; go_simp; rfl))); clear hK K))
          refine WQ.nil ?_
          intro w2 hw2
          have HW2 := hw2.2.2.2.2.2.2.2.2.2.2.2.1
          clear hw2
          go_wp2_with fail
          go_ret
          exact ⟨ret_bool HB1.out.symm, HW2⟩
        | false =>
          cases j with
          | zero =>
            have HB1 := Lib.hid (bad_first hok hqu)
            rw [hok] at HO
            rw [hqu] at HQ
            have HS := Lib.hid (RowHeld.drew (⟨hr.1, hr.2.1, hr.2.2.1, hr.2.2.2.1, hr.2.2.2.2.1, hr.2.2.2.2.2.1, hr.2.2.2.2.2.2.1, hr.2.2.2.2.2.2.2.1, hr.2.2.2.2.2.2.2.2.1, hr.2.2.2.2.2.2.2.2.2, hr.1, hbl, hb⟩ : RowHeld w b (off + 0 * 10) (off + 0 * 10) (rs.getD 0 zeroR) _ wr))
            clear hc hbl hr hok hqu
            generalize rs.getD 0 zeroR = r at *
            obtain ⟨key, kind, sum, st, last, n', mn, mx, total, dropped⟩ := r
            unfold R.v at HO HQ
            simp only at *
            go_wp2_with fail
            have hall : ∀ p : Prop, (∀ W, RowHeld w b (off + 0 * 10) (off + 0 * 10) ⟨key, kind, sum, st, last, n', mn, mx, total, dropped⟩ key W → p) ↔ p := fun p => ⟨fun h => h _ HS.out, fun h _ _ => h⟩
            refine wp_region_wq (C := RowHeld w b (off + 0 * 10) (off + 0 * 10) ⟨key, kind, sum, st, last, n', mn, mx, total, dropped⟩ key) (by kernel_rfl) (by kernel_rfl) HS.out ?_
            repeat (refine WQ.step (fun K hK => ?_); go_simp; first | (refine hK _ ?_; clear hK K) | (apply Exists.intro; refine ⟨fun W hW => ?_, hK _ ?_⟩; (focus (first | (go_at_call 26; refine (HO W).out.mono ?_; rintro e w' ⟨rfl, hb'⟩; exact ⟨rfl, hW.next hb'⟩) | (go_at_call 27; refine (HQ W).out.mono ?_; rintro e w' ⟨rfl, hb'⟩; exact ⟨rfl, hW.next hb'⟩) | exact rfl | (obtain ⟨y0, y1, y2, y3, y4, y5, y6, y7, y8, y9, y10, hy⟩ := rowHeld_get hW; go_simp; rfl))); clear hK K))
            refine WQ.nil ?_
            intro w2 hw2
            have HW2 := hw2.2.2.2.2.2.2.2.2.2.2.2.1
            clear hw2
            go_wp2_with fail
            go_roundw
            case rel => exact ⟨1, by omega, by go_num, HN.out HB1.out, HW2⟩
            case measure => simp [intOf]; omega
          | succ m =>
            have hbn := bad_next hok hqu
            rw [hok] at HO
            rw [hqu] at HQ
            cases hle : strLe (rs.getD (m + 1) zeroR).key (rs.getD m zeroR).key with
            | true =>
              have HB1 := Lib.hid (HBD.out (hbn.trans hle))
              clear hbn
              have hp := ((hc m (by omega)).below hb hbl).get
              have HS := Lib.hid (RowHeld.drew (⟨hr.1, hr.2.1, hr.2.2.1, hr.2.2.2.1, hr.2.2.2.2.1, hr.2.2.2.2.2.1, hr.2.2.2.2.2.2.1, hr.2.2.2.2.2.2.2.1, hr.2.2.2.2.2.2.2.2.1, hr.2.2.2.2.2.2.2.2.2, hp.1, hbl, hb⟩ : RowHeld w b (off + (m + 1) * 10) (off + m * 10) (rs.getD (m + 1) zeroR) _ wr))
              clear hc hbl hr hok hqu hp
              generalize rs.getD (m + 1) zeroR = r at *
              generalize (rs.getD m zeroR).key = pk at *
              obtain ⟨key, kind, sum, st, last, n', mn, mx, total, dropped⟩ := r
              unfold R.v at HO HQ
              simp only at *
              unfold strLe at hle
              have i1 : (m : Int) + 1 < (n : Int) := by omega
              have i2 : (m : Int) < (n : Int) := by omega
              have i3 : ((m : Int) + 1).toNat = m + 1 := by omega
              have i4 : decide ((0 : Int) < (m : Int) + 1) = true := by rw [decide_eq_true_eq]; omega
              have i5 : (0 : Int) ≤ (m : Int) + 1 := by omega
              have i6 : (m : Int) ≤ 9223372036854775807 := by omega
              have i7 : IntKind.i64.wrap (m : Int) = (m : Int) := by rw [IntKind.wrap_i64]; omega
              go_wp2_with fail
              have hall : ∀ p : Prop, (∀ W, RowHeld w b (off + (m + 1) * 10) (off + m * 10) ⟨key, kind, sum, st, last, n', mn, mx, total, dropped⟩ pk W → p) ↔ p := fun p => ⟨fun h => h _ HS.out, fun h _ _ => h⟩
              refine wp_region_wq (C := RowHeld w b (off + (m + 1) * 10) (off + m * 10) ⟨key, kind, sum, st, last, n', mn, mx, total, dropped⟩ pk) (by kernel_rfl) (by kernel_rfl) HS.out ?_
              repeat (refine WQ.step (fun K hK => ?_); go_simp; first | (refine hK _ ?_; clear hK K) | (apply Exists.intro; refine ⟨fun W hW => ?_, hK _ ?_⟩; (focus (first | (go_at_call 26; refine (HO W).out.mono ?_; rintro e w' ⟨rfl, hb'⟩; exact ⟨rfl, hW.next hb'⟩) | (go_at_call 27; refine (HQ W).out.mono ?_; rintro e w' ⟨rfl, hb'⟩; exact ⟨rfl, hW.next hb'⟩) | exact rfl | (obtain ⟨y0, y1, y2, y3, y4, y5, y6, y7, y8, y9, y10, hy⟩ := rowHeld_get hW; go_simp; rfl))); clear hK K))
              refine WQ.nil ?_
              intro w2 hw2
              have HW2 := hw2.2.2.2.2.2.2.2.2.2.2.2.1
              clear hw2
              go_wp2_with fail
              go_ret
              exact ⟨ret_bool HB1.out.symm, HW2⟩
            | false =>
              have HB1 := Lib.hid (hbn.trans hle)
              clear hbn
              have hp := ((hc m (by omega)).below hb hbl).get
              have HS := Lib.hid (RowHeld.drew (⟨hr.1, hr.2.1, hr.2.2.1, hr.2.2.2.1, hr.2.2.2.2.1, hr.2.2.2.2.2.1, hr.2.2.2.2.2.2.1, hr.2.2.2.2.2.2.2.1, hr.2.2.2.2.2.2.2.2.1, hr.2.2.2.2.2.2.2.2.2, hp.1, hbl, hb⟩ : RowHeld w b (off + (m + 1) * 10) (off + m * 10) (rs.getD (m + 1) zeroR) _ wr))
              clear hc hbl hr hok hqu hp
              generalize rs.getD (m + 1) zeroR = r at *
              generalize (rs.getD m zeroR).key = pk at *
              obtain ⟨key, kind, sum, st, last, n', mn, mx, total, dropped⟩ := r
              unfold R.v at HO HQ
              simp only at *
              unfold strLe at hle
              have i1 : (m : Int) + 1 < (n : Int) := by omega
              have i2 : (m : Int) < (n : Int) := by omega
              have i3 : ((m : Int) + 1).toNat = m + 1 := by omega
              have i4 : decide ((0 : Int) < (m : Int) + 1) = true := by rw [decide_eq_true_eq]; omega
              have i5 : (0 : Int) ≤ (m : Int) + 1 := by omega
              have i6 : (m : Int) ≤ 9223372036854775807 := by omega
              have i7 : IntKind.i64.wrap (m : Int) = (m : Int) := by rw [IntKind.wrap_i64]; omega
              go_wp2_with fail
              have hall : ∀ p : Prop, (∀ W, RowHeld w b (off + (m + 1) * 10) (off + m * 10) ⟨key, kind, sum, st, last, n', mn, mx, total, dropped⟩ pk W → p) ↔ p := fun p => ⟨fun h => h _ HS.out, fun h _ _ => h⟩
              refine wp_region_wq (C := RowHeld w b (off + (m + 1) * 10) (off + m * 10) ⟨key, kind, sum, st, last, n', mn, mx, total, dropped⟩ pk) (by kernel_rfl) (by kernel_rfl) HS.out ?_
              repeat (refine WQ.step (fun K hK => ?_); go_simp; first | (refine hK _ ?_; clear hK K) | (apply Exists.intro; refine ⟨fun W hW => ?_, hK _ ?_⟩; (focus (first | (go_at_call 26; refine (HO W).out.mono ?_; rintro e w' ⟨rfl, hb'⟩; exact ⟨rfl, hW.next hb'⟩) | (go_at_call 27; refine (HQ W).out.mono ?_; rintro e w' ⟨rfl, hb'⟩; exact ⟨rfl, hW.next hb'⟩) | exact rfl | (obtain ⟨y0, y1, y2, y3, y4, y5, y6, y7, y8, y9, y10, hy⟩ := rowHeld_get hW; go_simp; rfl))); clear hK K))
              refine WQ.nil ?_
              intro w2 hw2
              have HW2 := hw2.2.2.2.2.2.2.2.2.2.2.2.1
              clear hw2
              go_wp2_with fail
              go_roundw
              case rel => exact ⟨m + 2, by omega, by go_num, HN.out HB1.out, HW2⟩
              case measure => simp [intOf]; omega
    · have hjn : j = n := by omega
      subst hjn
      have HN := Lib.hid (HALL.out HG.out)
      have HB := Lib.hid hbl
      clear hbl
      go_wp2_with fail
      go_ret
      exact ⟨ret_bool HN.out.symm, HB.out⟩
end Go.Proofs.Ytfhkfhpbalbgkaa
/-
  An argument that is a row of rows, opened: some rows each of whose fields fits its type.
-/
namespace Go.Proofs.Ytfhkfhpbalbgkaa
open Go.ChangeShapes Go.WideShapes Go.Deep Go.RowKit M
set_option linter.unusedVariables false
def FitR (rs : List R) : Prop := ∀ j, j < rs.length → (rs.getD j zeroR).Fit
theorem FitR.key {rs : List R} (h : FitR rs) : ∀ j, j < rs.length → (rs.getD j zeroR).key.size ≤ maxLen := fun j hj => (h j hj).key
instance : Inhabited R := ⟨zeroR⟩
set_option maxRecDepth 100000 in
theorem open_rows {H : Type} {enc : TypeId × Value → H} {w : World} {base : Nat} {spare : Nat → Bool} {held : Bool} {fuel : Nat} {A : Option Addr} {len cap : Nat} {x : DataW H × List MemPlace}
    (h : DataW.trod enc Try.prog w base spare held fuel 23 [.slice A len cap] = some x) : ∃ rs, RowsArg w (.slice A len cap) rs ∧ FitR rs := by
  have hC : Try.prog.cellsOf 52 = 10 := by kernel_rfl
  rcases open_slice Try.underlying23 h with ⟨hcs, _⟩ | ⟨a, l, c, m, n, D, Pl, hcs, _, hl, hm, hmm, _, hi⟩
  · simp at hcs
    obtain ⟨rfl, rfl, rfl⟩ := hcs
    exact ⟨[], RowsArg.nil _, fun j hj => by simp at hj⟩
  · simp at hcs
    obtain ⟨rfl, rfl, rfl⟩ := hcs
    have hle : len ≤ m := by rw [hmm]; split <;> omega
    rw [hC] at hi
    have hr : ∀ i, i < len → ∃ r : R, r.Fit ∧ ∀ k, k < 10 → w.cell? ((a.add (i * 10)).add k) = (rowCells r)[k]? := fun i him => by
      obtain ⟨cs', hc, ht⟩ := hi i (by omega)
      obtain ⟨_, hcl, hat⟩ := World.cells?_some hc
      obtain ⟨r, hr, hf⟩ := read_row hcl ht
      refine ⟨r, hf, fun k hk => ?_⟩
      rw [hat k hk, hr, Array.getElem?_toList]
    obtain ⟨f, hf⟩ := choose_lt hr
    have hg : ∀ j, j < len → ((List.range len).map f).getD j zeroR = f j := fun j hj => by simp [List.getD_eq_getElem?_getD, hj]
    have hln : ((List.range len).map f).length = len := by simp
    refine ⟨(List.range len).map f, ⟨some a, cap, by rw [hln], by rw [hln]; exact hl, hm, fun hp => ?_⟩, fun j hj => ?_⟩
    · rw [hln] at hp
      obtain ⟨b, off, spot⟩ := a
      have h0 := (hf 0 hp).2 0 (by decide)
      have hspot : spot = none := by simpa [Addr.add] using World.cell?_spot h0
      subst hspot
      refine ⟨b, off, rfl, by simpa [Addr.add] using World.block_lt_of_cell? w _ h0, fun j hj k hk => ?_⟩
      rw [hln] at hj
      rw [hg j hj, ← (hf j hj).2 k hk, add_add]
      congr 1
      unfold Addr.add
      split
      · simp_all
      · simp [Nat.add_assoc]
    · rw [hln] at hj
      rw [hg j hj]
      exact (hf j hj).1
end Go.Proofs.Ytfhkfhpbalbgkaa
/-
  Chapter 13 in plain words: the model's keys and rows; the kind and the row of a key; when a model is valid; what an operation makes of it.
-/
namespace Go.Proofs.Ytfhkfhpbalbgkaa.M
open Go.RowKit
set_option linter.unusedVariables false
structure Mo where
  keys : List KR
  rows : List R
/-- A key with its kind as a row of which the rest is zero: so what is known of rows in order is known of keys. -/
def kr (k : KR) : R := { zeroR with key := k.key, kind := k.kind }
end Go.Proofs.Ytfhkfhpbalbgkaa.M
namespace Go.Proofs.Ytfhkfhpbalbgkaa
open Go.RowKit M
set_option linter.unusedVariables false
/-- The kind of the first of the keys that is s, or 0. -/
def mKindV (s : ByteArray) : List KR → Int
  | [] => 0
  | k :: l => if k.key = s then k.kind else mKindV s l
/-- The row of a key that has none. -/
def newRow (m : Mo) (s : ByteArray) : R := if mKindV s m.keys = 0 then zeroR else { zeroR with key := s, kind := mKindV s m.keys }
/-- The first of the rows whose key is s, or z. -/
def mFindV (s : ByteArray) (z : R) : List R → R
  | [] => z
  | r :: l => if r.key = s then r else mFindV s z l
def mRowV (m : Mo) (s : ByteArray) : R := mFindV s (newRow m s) m.rows
/-- Is the key at place i not as a valid model has it? -/
def kBad (l : List KR) (i : Nat) : Bool := decide (tagV (l.getD i zeroKR).key (l.getD i zeroKR).kind = 0) || (decide (0 < i) && strLe (l.getD i zeroKR).key (l.getD (i - 1) zeroKR).key)
def keysOkV (l : List KR) : Bool := (List.range l.length).all fun i => !kBad l i
def kindsIn (m : Mo) : Bool := m.rows.all fun r => decide (mKindV r.key m.keys = r.kind)
def modelOkV (m : Mo) : Bool := decide (m.keys.length ≤ 4) && (keysOkV m.keys && (reportOkV m.rows && kindsIn m))
/-- A key put into its place, ahead of the first greater one. -/
def insK (k : KR) : List KR → List KR
  | [] => [k]
  | x :: l => if strLt k.key x.key = true then k :: x :: l else x :: insK k l
def noKey (s : ByteArray) (l : List R) : List R := l.filter fun x => !decide (x.key = s)
/-- A row put in the place of that of its key; a quiet one is left out. -/
def rowPutV (l : List R) (r : R) : List R := if quietV r = true then noKey r.key l else putV (noKey r.key l) r
def regV (m : Mo) (o : O) : Mo × Int :=
  if mKindV o.key m.keys = o.what then (m, 0)
  else if mKindV o.key m.keys ≠ 0 then (m, 4)
  else if m.keys.length = 4 then (m, 3)
  else (⟨insK ⟨o.key, o.what⟩ m.keys, m.rows⟩, 0)
/-- A row with the value recorded. -/
def withV (r : R) (v : Int) : R := if r.kind = 1 then countedV r v else if r.kind = 2 then { r with set := true, last := v } else sampledV r v
def recV (m : Mo) (o : O) : Mo × Int :=
  if (mRowV m o.key).kind = 0 then (m, 2)
  else (⟨m.keys, rowPutV m.rows (withV (mRowV m o.key) o.val)⟩, if (mRowV m o.key).kind ≠ 1 ∧ (mRowV m o.key).kind ≠ 2 ∧ (mRowV m o.key).n = 3 then 5 else 0)
def mDoV (m : Mo) (o : O) : Mo × Int × List R :=
  if modelOkV m = true ∧ opOkV o = true then
    (if o.kind = 1 then ((regV m o).1, (regV m o).2, []) else if o.kind = 2 then ((recV m o).1, (recV m o).2, []) else (⟨m.keys, []⟩, 0, m.rows))
  else (m, 1, [])
/- Facts. -/
/-- Strictly in order. -/
def Asc (l : List R) : Prop := l.Pairwise fun a b => strLt a.key b.key = true
theorem strLe_lt (x y : ByteArray) : strLe x y = !strLt y x := by
  unfold strLe strLt
  have e : ∀ a b : List UInt8, (Go.Op.bytesLess a b || a == b) = !Go.Op.bytesLess b a := by
    intro a b
    cases h : Go.Op.bytesLess b a with
    | true =>
      cases h2 : Go.Op.bytesLess a b with
      | true => have := bl_trans _ _ _ h h2; rw [bl_irrefl] at this; cases this
      | false =>
        have : (a == b) = false := by
          rw [beq_eq_false_iff_ne]; intro e; subst e; rw [bl_irrefl] at h; cases h
        rw [this]; rfl
    | false =>
      cases h2 : Go.Op.bytesLess a b with
      | true => rfl
      | false => rw [bl_total _ _ h2 h]; simp
  exact e _ _
theorem asc_of {l : List R} (h : ∀ i, i + 1 < l.length → strLt (l.getD i zeroR).key (l.getD (i + 1) zeroR).key = true) : Asc l := by
  induction l with
  | nil => exact List.Pairwise.nil
  | cons x l ih =>
    have hl : Asc l := ih fun i hi => h (i + 1) (by simp only [List.length_cons]; omega)
    refine List.Pairwise.cons (fun y hy => ?_) hl
    cases l with
    | nil => cases hy
    | cons z l =>
      have h0 : strLt x.key z.key = true := h 0 (by simp)
      rcases List.mem_cons.1 hy with rfl | hy
      · exact h0
      · exact strLt_trans h0 ((List.pairwise_cons.1 hl).1 y hy)
theorem insV_end {l : List R} {r : R} (h : ∀ x ∈ l, strLt x.key r.key = true) : insV r l = l ++ [r] := by
  induction l with
  | nil => rfl
  | cons x l ih =>
    have h0 := h x List.mem_cons_self
    have h1 : strLt r.key x.key = false := by
      cases e : strLt r.key x.key with
      | false => rfl
      | true => have := strLt_trans h0 e; rw [strLt_irrefl] at this; cases this
    simp only [insV, h1, Bool.false_eq_true, if_false, List.cons_append]
    rw [ih fun y hy => h y (List.mem_cons_of_mem _ hy)]
theorem foldl_ins {l acc : List R} (h : Asc (acc ++ l)) : l.foldl (fun s r => insV r s) acc = acc ++ l := by
  induction l generalizing acc with
  | nil => simp
  | cons x l ih =>
    have hx : ∀ y ∈ acc, strLt y.key x.key = true := fun y hy => (List.pairwise_append.1 h).2.2 y hy x List.mem_cons_self
    rw [List.foldl_cons, insV_end hx, ih (by rw [List.append_assoc]; exact h), List.append_assoc]
    rfl
theorem sortV_asc {l : List R} (h : Asc l) : sortV l = l := by
  have := foldl_ins (l := l) (acc := []) (by simpa using h)
  simpa [sortV] using this
theorem foldl_add {l acc : List R} (h : Asc (acc ++ l)) (hq : ∀ x ∈ l, x.kind ≠ 0 ∧ quietV x = false) : l.foldl addV acc = acc ++ l := by
  induction l generalizing acc with
  | nil => simp
  | cons x l ih =>
    have hx : ∀ y ∈ acc, strLt y.key x.key = true := fun y hy => (List.pairwise_append.1 h).2.2 y hy x List.mem_cons_self
    have hn : (acc.any fun y => decide (y.key = x.key)) = false := by
      rw [List.any_eq_false]
      intro y hy
      have := strLt_ne (hx y hy)
      simpa using this
    have e : addV acc x = acc ++ [x] := by
      unfold addV putV
      rw [if_pos (hq x List.mem_cons_self), hn, if_neg (by simp), insV_end hx]
    rw [List.foldl_cons, e, ih (by rw [List.append_assoc]; exact h) (fun y hy => hq y (List.mem_cons_of_mem _ hy)), List.append_assoc]
    rfl
theorem insK_kr (k : KR) (l : List KR) : (insK k l).map kr = insV (kr k) (l.map kr) := by
  induction l with
  | nil => rfl
  | cons x l ih =>
    simp only [insK, List.map_cons, insV]
    show List.map kr (if strLt k.key x.key = true then k :: x :: l else x :: insK k l) = if strLt k.key x.key = true then kr k :: kr x :: l.map kr else kr x :: insV (kr k) (l.map kr)
    cases e : strLt k.key x.key with
    | true => rfl
    | false =>
      show kr x :: (insK k l).map kr = kr x :: insV (kr k) (l.map kr)
      rw [ih]
theorem insK_len (k : KR) (l : List KR) : (insK k l).length = l.length + 1 := by
  induction l with
  | nil => rfl
  | cons x l ih => unfold insK; split; rfl; rw [List.length_cons, ih, List.length_cons]
theorem kr_getD (l : List KR) (i : Nat) : (l.map kr).getD i zeroR = kr (l.getD i zeroKR) := by
  simp only [List.getD_eq_getElem?_getD, List.getElem?_map]
  cases l[i]? <;> rfl
theorem keysOk_at {l : List KR} (h : keysOkV l = true) : ∀ i, i < l.length → kBad l i = false := fun i hi => by
  have := List.all_eq_true.1 h i (List.mem_range.2 hi)
  simpa using this
theorem keys_asc {l : List KR} (h : keysOkV l = true) : Asc (l.map kr) := by
  refine asc_of fun i hi => ?_
  rw [List.length_map] at hi
  have := keysOk_at h (i + 1) hi
  unfold kBad at this
  rw [Bool.or_eq_false_iff] at this
  have h2 := this.2
  rw [show i + 1 - 1 = i by omega, show decide (0 < i + 1) = true from decide_eq_true (by omega), Bool.true_and, strLe_lt] at h2
  rw [kr_getD, kr_getD]
  show strLt (l.getD i zeroKR).key (l.getD (i + 1) zeroKR).key = true
  simpa using h2
theorem report_at {l : List R} (h : reportOkV l = true) : l.length ≤ 4 ∧ ∀ i, i < l.length → badAt l i = false := by
  unfold reportOkV at h
  rw [Bool.and_eq_true, decide_eq_true_eq] at h
  refine ⟨h.1, fun i hi => ?_⟩
  have := List.all_eq_true.1 h.2 i (List.mem_range.2 hi)
  simpa using this
theorem badAt_parts {l : List R} {i : Nat} (h : badAt l i = false) : rowOkV (l.getD i zeroR) = true ∧ quietV (l.getD i zeroR) = false ∧ (0 < i → strLt (l.getD (i - 1) zeroR).key (l.getD i zeroR).key = true) := by
  unfold badAt at h
  simp only [Bool.or_eq_false_iff, Bool.not_eq_false', Bool.and_eq_false_iff, decide_eq_false_iff_not, strLe_lt] at h
  exact ⟨h.1, h.2.1, fun hi => by rcases h.2.2 with k | k; exact absurd hi k; simpa using k⟩
theorem report_asc {l : List R} (h : reportOkV l = true) : Asc l := asc_of fun i hi => by
  have := (badAt_parts ((report_at h).2 (i + 1) hi)).2.2 (by omega)
  rwa [show i + 1 - 1 = i by omega] at this
theorem report_mem {l : List R} (h : reportOkV l = true) : ∀ x ∈ l, rowOkV x = true ∧ quietV x = false := fun x hx => by
  obtain ⟨i, hi, rfl⟩ := List.getElem_of_mem hx
  have := badAt_parts ((report_at h).2 i hi)
  rw [List.getD_eq_getElem?_getD, List.getElem?_eq_getElem hi] at this
  exact ⟨this.1, this.2.1⟩
theorem rowOk_kind {r : R} (h : rowOkV r = true) : r.kind = 1 ∨ r.kind = 2 ∨ r.kind = 3 := by
  unfold rowOkV at h
  by_cases h1 : r.kind = 1
  · exact .inl h1
  · by_cases h2 : r.kind = 2
    · exact .inr (.inl h2)
    · by_cases h3 : r.kind = 3
      · exact .inr (.inr h3)
      · rw [if_neg h1, if_neg h2, if_neg h3] at h; simp at h
theorem report_ok_of {l : List R} (h4 : l.length ≤ 4) (ha : Asc l) (hm : ∀ x ∈ l, rowOkV x = true ∧ quietV x = false) : reportOkV l = true := by
  unfold reportOkV
  rw [decide_eq_true h4, Bool.true_and, List.all_eq_true]
  intro i hi
  have hi := List.mem_range.1 hi
  have hx := hm (l.getD i zeroR) (by rw [List.getD_eq_getElem?_getD, List.getElem?_eq_getElem hi]; exact List.getElem_mem hi)
  unfold badAt
  rw [hx.1, hx.2]
  cases i with
  | zero => rfl
  | succ i =>
    have := List.pairwise_iff_getElem.1 ha i (i + 1) (by omega) hi (by omega)
    have e : ∀ k (hk : k < l.length), l.getD k zeroR = l[k] := fun k hk => by rw [List.getD_eq_getElem?_getD, List.getElem?_eq_getElem hk]; rfl
    simp only [Nat.add_sub_cancel, strLe_lt]
    rw [e (i + 1) hi, e i (by omega), this]
    simp
/-- What the program makes of the rows: struck, appended, sorted, one of each key. -/
theorem rowPut_prog {l : List R} {x : R} (h : reportOkV l = true) (hx : x.kind ≠ 0) : oneV (sortV ((noKey x.key l ++ [x]).filter fun r => !quietV r)) = rowPutV l x := by
  have hm := report_mem h
  have hs : ∀ y ∈ noKey x.key l, y.kind ≠ 0 ∧ quietV y = false := fun y hy => by
    have := hm y (List.mem_filter.1 hy).1
    refine ⟨?_, this.2⟩
    rcases rowOk_kind this.1 with k | k | k <;> omega
  rw [report_sorted _ (fun y hy _ => by
    rcases List.mem_append.1 hy with hy | hy
    · exact (hs y hy).1
    · rw [List.mem_singleton] at hy; rw [hy]; exact hx), List.foldl_append]
  have ha : Asc (noKey x.key l) := List.Pairwise.filter _ (report_asc h)
  have e := foldl_add (acc := []) (l := noKey x.key l) (by simpa using ha) hs
  rw [e, List.nil_append, List.foldl_cons, List.foldl_nil]
  unfold addV rowPutV
  cases q : quietV x with
  | true => simp
  | false => simp [hx]
theorem key_len {l : List R} {x : R} (h : reportOkV l = true) : (noKey x.key l ++ [x]).length ≤ 5 := by
  have := (report_at h).1
  have h2 : (noKey x.key l).length ≤ l.length := List.length_filter_le _ _
  rw [List.length_append, List.length_singleton]; omega
theorem keyPut_prog {l : List KR} (h : keysOkV l = true) (k : KR) : sortV ((l ++ [k]).map kr) = (insK k l).map kr := by
  rw [List.map_append, List.map_cons, List.map_nil, sortV_snoc, sortV_asc (keys_asc h), insK_kr]
theorem rowPut_len (l : List R) (x : R) : (rowPutV l x).length ≤ l.length + 1 := by
  have h2 : (noKey x.key l).length ≤ l.length := List.length_filter_le _ _
  have hi : ∀ l : List R, (insV x l).length = l.length + 1 := by
    intro l
    induction l with
    | nil => rfl
    | cons y l ih => unfold insV; split; rfl; rw [List.length_cons, ih, List.length_cons]
  unfold rowPutV putV
  split
  · omega
  · split
    · omega
    · rw [hi]; omega
theorem regV_len (m : Mo) (o : O) : (regV m o).1.keys.length ≤ m.keys.length + 1 ∧ (regV m o).1.rows = m.rows := by
  unfold regV
  split
  · exact ⟨Nat.le_succ _, rfl⟩
  · split
    · exact ⟨Nat.le_succ _, rfl⟩
    · split
      · exact ⟨Nat.le_succ _, rfl⟩
      · exact ⟨by rw [insK_len]; exact Nat.le_refl _, rfl⟩
theorem recV_len (m : Mo) (o : O) : (recV m o).1.keys = m.keys ∧ (recV m o).1.rows.length ≤ m.rows.length + 1 := by
  unfold recV
  split
  · exact ⟨rfl, Nat.le_succ _⟩
  · exact ⟨rfl, rowPut_len _ _⟩
theorem mDoV_len (m : Mo) (o : O) : (mDoV m o).1.keys.length ≤ m.keys.length + 1 ∧ (mDoV m o).1.rows.length ≤ m.rows.length + 1 ∧ (mDoV m o).2.2.length ≤ m.rows.length := by
  unfold mDoV
  split
  · split
    · have := regV_len m o; exact ⟨this.1, by rw [this.2]; omega, Nat.zero_le _⟩
    · split
      · have := recV_len m o; exact ⟨by rw [this.1]; omega, this.2, Nat.zero_le _⟩
      · exact ⟨Nat.le_succ _, Nat.zero_le _, Nat.le_refl _⟩
  · exact ⟨Nat.le_succ _, Nat.le_succ _, Nat.zero_le _⟩
theorem row_n {r : R} (h : rowOkV r = true) (hk : r.kind = 1 ∨ r.kind = 2) : r.n = 0 := by
  unfold rowOkV at h
  rcases hk with k | k
  · rw [if_pos k, Bool.and_eq_true] at h
    have := h.2; unfold countV at this; simp only [decide_eq_true_eq] at this; exact this.2.2.2.1
  · rw [if_neg (by omega), if_pos k, Bool.and_eq_true] at h
    have := h.2; unfold gaugeRV at this; simp only [decide_eq_true_eq] at this; exact this.2.2.2.1
theorem mFind_or (s : ByteArray) (z : R) (l : List R) : mFindV s z l = z ∧ (∀ x ∈ l, x.key ≠ s) ∨ mFindV s z l ∈ l ∧ (mFindV s z l).key = s := by
  induction l with
  | nil => exact .inl ⟨rfl, fun x hx => by cases hx⟩
  | cons y l ih =>
    by_cases e : y.key = s
    · right; rw [mFindV, if_pos e]; exact ⟨List.mem_cons_self, e⟩
    · rw [mFindV, if_neg e]
      rcases ih with ⟨h1, h2⟩ | ⟨h1, h2⟩
      · exact .inl ⟨h1, fun x hx => by rcases List.mem_cons.1 hx with rfl | hx; exact e; exact h2 x hx⟩
      · exact .inr ⟨List.mem_cons_of_mem _ h1, h2⟩
theorem mKind_or (s : ByteArray) (l : List KR) : mKindV s l = 0 ∧ (∀ x ∈ l, x.key ≠ s) ∨ ∃ x ∈ l, x.key = s ∧ mKindV s l = x.kind := by
  induction l with
  | nil => exact .inl ⟨rfl, fun x hx => by cases hx⟩
  | cons y l ih =>
    by_cases e : y.key = s
    · right; rw [mKindV, if_pos e]; exact ⟨y, List.mem_cons_self, e, rfl⟩
    · rw [mKindV, if_neg e]
      rcases ih with ⟨h1, h2⟩ | ⟨x, h1, h2, h3⟩
      · exact .inl ⟨h1, fun x hx => by rcases List.mem_cons.1 hx with rfl | hx; exact e; exact h2 x hx⟩
      · exact .inr ⟨x, List.mem_cons_of_mem _ h1, h2, h3⟩
end Go.Proofs.Ytfhkfhpbalbgkaa
/-
  Arguments opened: numbers, texts, rows, operations: each reads as some record whose fields fit their types.
-/
namespace Go.Proofs.Ytfhkfhpbalbgkaa
open Go.ChangeShapes Go.WideShapes Go.Deep Go.RowKit M
set_option linter.unusedVariables false
section
variable {H : Type} {enc : TypeId × Value → H} {P : Program} {w : World} {base : Nat} {spare : Nat → Bool} {held : Bool} {α : Type} [Inhabited α]
/-- An argument that is a slice: its elements, each read as its type tells. -/
theorem open_elts {t te : TypeId} {F : Nat} (ht : P.underlying t = some (.slice te)) (hC : P.cellsOf te = F) (hF : 0 < F) (z : α) (Rel : List Value → α → Prop)
    (hread : ∀ (fuel : Nat) (cs : List Value) (x : DataW H × List MemPlace), cs.length = F → DataW.trod enc P w base spare held fuel te cs = some x → ∃ r, Rel cs r)
    {fuel : Nat} {c : Value} {x : DataW H × List MemPlace} (h : DataW.trod enc P w base spare held fuel t [c] = some x) :
    ∃ (l : List α) (A : Option Addr) (cap : Nat), c = .slice A l.length cap ∧ l.length ≤ cap ∧ cap ≤ maxLen ∧ (0 < l.length → ∃ b off, A = some ⟨b, off, none⟩ ∧ b < w.heap.size ∧ ∀ j, j < l.length → ∃ cs, cs.length = F ∧ (∀ k, k < F → w.cell? ⟨b, off + j * F + k, none⟩ = cs[k]?) ∧ Rel cs (l.getD j z)) := by
  rcases open_slice ht h with ⟨hcs, _⟩ | ⟨a, len, cap, m, n, D, Pl, hcs, _, hl, hm, hmm, _, hi⟩
  · simp at hcs
    subst hcs
    exact ⟨[], none, 0, rfl, Nat.le_refl _, Nat.zero_le _, fun h => absurd h (Nat.lt_irrefl _)⟩
  · simp at hcs
    subst hcs
    have hle : len ≤ m := by rw [hmm]; split <;> omega
    rw [hC] at hi
    have hr : ∀ i, i < len → ∃ r : α, ∃ cs : List Value, cs.length = F ∧ (∀ k, k < F → w.cell? ((a.add (i * F)).add k) = cs[k]?) ∧ Rel cs r := fun i him => by
      obtain ⟨cs', hc, ht⟩ := hi i (by omega)
      obtain ⟨_, hcl, hat⟩ := World.cells?_some hc
      obtain ⟨r, hr⟩ := hread _ _ _ hcl ht
      exact ⟨r, cs', hcl, fun k hk => hat k hk, hr⟩
    obtain ⟨f, hf⟩ := choose_lt hr
    have hg : ∀ j, j < len → ((List.range len).map f).getD j z = f j := fun j hj => by simp [List.getD_eq_getElem?_getD, hj]
    have hlen : ((List.range len).map f).length = len := by simp
    refine ⟨(List.range len).map f, some a, cap, by rw [hlen], by rw [hlen]; exact hl, hm, fun hp => ?_⟩
    rw [hlen] at hp ⊢
    obtain ⟨b, off, spot⟩ := a
    obtain ⟨cs0, hl0, hc0, _⟩ := hf 0 hp
    have h0 := hc0 0 hF
    rw [List.getElem?_eq_getElem (by omega : 0 < cs0.length)] at h0
    have hspot : spot = none := by simpa [Addr.add] using World.cell?_spot h0
    subst hspot
    refine ⟨b, off, rfl, by simpa [Addr.add] using World.block_lt_of_cell? w _ h0, fun j hj => ?_⟩
    obtain ⟨cs, hcl, hc, hrel⟩ := hf j hj
    refine ⟨cs, hcl, fun k hk => ?_, by rw [hg j hj]; exact hrel⟩
    rw [← hc k hk, add_add]
    congr 1
    unfold Addr.add
    split
    · simp_all
    · simp [Nat.add_assoc]
/-- The reading of a struct gives the reading of each of its fields. -/
theorem field_readN {fs : Array Field} {cs : List Value} {xs : List (DataW H × List MemPlace)} {n : Nat}
    (hg : ∀ (i : Nat) (f : Field), fs[i]? = some f → DataW.trod enc P w base spare held n f.type ((cs.drop f.offset).take (P.cellsOf f.type)) = xs[i]?)
    {i : Nat} {f : Field} (hf : fs[i]? = some f) (hx : i < xs.length) {k m : Nat} (ho : f.offset = k) (hm : P.cellsOf f.type = m) : ∃ y, DataW.trod enc P w base spare held n f.type ((cs.drop k).take m) = some y := by
  have h := hg i f hf
  rw [ho, hm, List.getElem?_eq_getElem hx] at h
  exact ⟨_, h⟩
end
section
variable {H : Type} {enc : TypeId × Value → H} {w : World} {base : Nat} {spare : Nat → Bool} {held : Bool} {fuel : Nat} {x : DataW H × List MemPlace} {c : Value}
set_option maxRecDepth 100000 in
theorem rd_bool (h : DataW.trod enc Try.prog w base spare held fuel 4 [c] = some x) : ∃ b, c = .bool b := by
  obtain ⟨b, e, _⟩ := DataW.trod_bool Try.underlying4 h
  exact ⟨b, by simpa using e⟩
set_option maxRecDepth 100000 in
theorem rd_int (h : DataW.trod enc Try.prog w base spare held fuel 3 [c] = some x) : ∃ z, inW z ∧ c = .int .i64 z := by
  obtain ⟨z, e, _, f⟩ := DataW.trod_int Try.underlying3 h
  exact ⟨z, fit_of f, by simpa using e⟩
set_option maxRecDepth 100000 in
theorem rd_str (h : DataW.trod enc Try.prog w base spare held fuel 9 [c] = some x) : ∃ s : ByteArray, s.size ≤ maxLen ∧ c = .string s := by
  obtain ⟨s, e, _, f⟩ := DataW.trod_string Try.underlying9 h
  exact ⟨s, f, by simpa using e⟩
set_option maxRecDepth 100000 in
theorem rd_rows (h : DataW.trod enc Try.prog w base spare held fuel 23 [c] = some x) : ∃ rs, RowsArg w c rs ∧ FitR rs := by
  rcases open_slice Try.underlying23 h with ⟨hcs, _⟩ | ⟨a, l, cp, m, n, D, Pl, hcs, _⟩
  · simp at hcs; subst hcs; exact open_rows h
  · simp at hcs; subst hcs; exact open_rows h
instance : Inhabited O := ⟨zeroO⟩
def FitOs (l : List O) : Prop := ∀ i, i < l.length → (l.getD i zeroO).Fit
end
section
variable {H : Type} {enc : TypeId × Value → H} {w : World} {base : Nat} {spare : Nat → Bool} {held : Bool} {r : Reach} {b0 : Nat} {v : Value} {d : DataW H} {p : List MemPlace}
end
end Go.Proofs.Ytfhkfhpbalbgkaa
/-
  Rows that lie in blocks of their own: apart from one another; what a mark on one leaves of another.
-/
namespace Go.Proofs.Ytfhkfhpbalbgkaa
open Go.RowKit M
set_option linter.unusedVariables false
theorem OwnI.lt {w : World} {b : Nat} {v : Value} {l : List Int} (h : OwnI w b v l) : ∀ k, v.ownBlock = some k → k < w.heap.size := fun k hk => (World.ownsRow.lt h.1 k hk).2
theorem OwnT.lt {w : World} {b : Nat} {v : Value} {l : List ByteArray} (h : OwnT w b v l) : ∀ k, v.ownBlock = some k → k < w.heap.size := fun k hk => (World.ownsRow.lt h k hk).2
theorem OwnR.lt {w : World} {b : Nat} {v : Value} {l : List R} (h : OwnR w b v l) : ∀ k, v.ownBlock = some k → k < w.heap.size := fun k hk => (World.ownsRow.lt h k hk).2
theorem OwnI.keptA {w w' : World} {base : Nat} {v u : Value} {zs : List Int} (h : OwnI w base v zs) (hg : w.grownBy w' u.ownBlock) (ha : Ap v u) : OwnI w' base v zs := by
  obtain ⟨g, hgv, _⟩ := h.block
  rcases ha with h' | h'
  · rw [hgv] at h'; cases h'
  · exact h.kept hg h'
theorem OwnT.keptA {w w' : World} {base : Nat} {v u : Value} {l : List ByteArray} (h : OwnT w base v l) (hg : w.grownBy w' u.ownBlock) (ha : Ap v u) : OwnT w' base v l := h.kept hg ha
theorem OwnR.keptA {w w' : World} {base : Nat} {v u : Value} {l : List R} (h : OwnR w base v l) (hg : w.grownBy w' u.ownBlock) (ha : Ap v u) : OwnR w' base v l := h.kept hg ha
end Go.Proofs.Ytfhkfhpbalbgkaa
/-
  A row in a block of the call's own: what one store into a field makes of it, with all else that is known of the world carried along.
-/
namespace Go.Proofs.Ytfhkfhpbalbgkaa
open Go.RowKit M
set_option linter.unusedVariables false
theorem RowAt.store {w : World} {g : Nat} {r : R} (h : RowAt w g r) (i : Nat) (v : Value) (r' : R) (e : (rowCells r).setIfInBounds i v = rowCells r') : RowAt (w.setCell ⟨g, i, none⟩ v) g r' := by
  unfold RowAt
  rw [← e]
  exact heap_setCell_same w g i _ _ v h
theorem RowAt.far {w : World} {g : Nat} {r : R} (h : RowAt w g r) (k i : Nat) (v : Value) (hk : g ≠ k) : RowAt (w.setCell ⟨k, i, none⟩ v) g r :=
  (heap_setCell_other w ⟨k, i, none⟩ g v hk).trans h
/-- The walk stands behind a store into field i of the row in block g; block o holds another row. -/
theorem wp_row {C : Go.Code} {Q : Exit → Act → World → Prop} {a : Act} {w0 w : World} {B g o : Nat} {r z : R} {i : Nat} {v : Value} (r' : R) (hx : RowAt w g r) (hz : RowAt w o z) (hb : Below B w0 w) (hg : B ≤ g) (ho : o ≠ g)
    (e : (rowCells r).setIfInBounds i v = rowCells r') (k : ∀ w', RowAt w' g r' → RowAt w' o z → Below B w0 w' → Code.wp Try.prog C Q a w') : Code.wp Try.prog C Q a (w.setCell ⟨g, i, none⟩ v) :=
  k _ (hx.store i v r' e) (hz.far g i v ho) (hb.setCell hg v)
/-- The row that ten stores lay into a block. -/
theorem RowAt.all {w : World} {g : Nat} {z : R} (h : RowAt w g z) (r : R) :
    RowAt ((((((((((w.setCell ⟨g, 0, none⟩ (.string r.key)).setCell ⟨g, 1, none⟩ (.int .i64 r.kind)).setCell ⟨g, 2, none⟩ (.int .i64 r.sum)).setCell ⟨g, 3, none⟩ (.bool r.set)).setCell ⟨g, 4, none⟩ (.int .i64 r.last)).setCell ⟨g, 5, none⟩ (.int .i64 r.n)).setCell ⟨g, 6, none⟩ (.int .i64 r.mn)).setCell ⟨g, 7, none⟩ (.int .i64 r.mx)).setCell ⟨g, 8, none⟩ (.int .i64 r.total)).setCell ⟨g, 9, none⟩ (.int .i64 r.dropped)) g r := by
  obtain ⟨key, kind, sum, st, last, n, mn, mx, total, dropped⟩ := r
  obtain ⟨zkey, zkind, zsum, zst, zlast, zn, zmn, zmx, ztotal, zdropped⟩ := z
  exact (((((((((h.store 0 _ ⟨key, zkind, zsum, zst, zlast, zn, zmn, zmx, ztotal, zdropped⟩ rfl).store 1 _ ⟨key, kind, zsum, zst, zlast, zn, zmn, zmx, ztotal, zdropped⟩ rfl).store 2 _ ⟨key, kind, sum, zst, zlast, zn, zmn, zmx, ztotal, zdropped⟩ rfl).store 3 _ ⟨key, kind, sum, st, zlast, zn, zmn, zmx, ztotal, zdropped⟩ rfl).store 4 _ ⟨key, kind, sum, st, last, zn, zmn, zmx, ztotal, zdropped⟩ rfl).store 5 _ ⟨key, kind, sum, st, last, n, zmn, zmx, ztotal, zdropped⟩ rfl).store 6 _ ⟨key, kind, sum, st, last, n, mn, zmx, ztotal, zdropped⟩ rfl).store 7 _ ⟨key, kind, sum, st, last, n, mn, mx, ztotal, zdropped⟩ rfl).store 8 _ ⟨key, kind, sum, st, last, n, mn, mx, total, zdropped⟩ rfl).store 9 _ ⟨key, kind, sum, st, last, n, mn, mx, total, dropped⟩ rfl
end Go.Proofs.Ytfhkfhpbalbgkaa
/-
  Chapter 5, the program's functions: each answers what the plain words say. They turn nothing that was there.
-/
namespace Go.Proofs.Ytfhkfhpbalbgkaa
open Go.RowKit M
set_option linter.unusedVariables false
theorem isKind_yes (k : Int) (w : World) (h0 : 1 ≤ k) (h1 : k ≤ 3) : Calls Try.prog 39 #[.int .i64 k] w (Same w (.bool true)) := by
  go_enter Try.func39, Try.ntmps39
  go_wp2
  go_ret
  exact ⟨rfl, rfl⟩
theorem isKind_no (k : Int) (w : World) (h : ¬ (1 ≤ k ∧ k ≤ 3)) : Calls Try.prog 39 #[.int .i64 k] w (Same w (.bool false)) := by
  by_cases h0 : 1 ≤ k
  · have h1 : decide (k ≤ 3) = false := by rw [decide_eq_false]; omega
    go_enter Try.func39, Try.ntmps39
    go_wp2
    go_ret
    exact ⟨rfl, rfl⟩
  · have h1 : decide (1 ≤ k) = false := by rw [decide_eq_false]; omega
    go_enter Try.func39, Try.ntmps39
    go_wp2
    go_ret
    exact ⟨rfl, rfl⟩
theorem isValue_yes (k : Int) (w : World) (h0 : 0 ≤ k) (h1 : k ≤ 65535) : Calls Try.prog 43 #[.int .i64 k] w (Same w (.bool true)) := by
  go_enter Try.func43, Try.ntmps43
  go_wp2
  go_ret
  exact ⟨rfl, rfl⟩
theorem isValue_no (k : Int) (w : World) (h : ¬ (0 ≤ k ∧ k ≤ 65535)) : Calls Try.prog 43 #[.int .i64 k] w (Same w (.bool false)) := by
  by_cases h0 : 0 ≤ k
  · have h1 : decide (k ≤ 65535) = false := by rw [decide_eq_false]; omega
    go_enter Try.func43, Try.ntmps43
    go_wp2
    go_ret
    exact ⟨rfl, rfl⟩
  · have h1 : decide (0 ≤ k) = false := by rw [decide_eq_false]; omega
    go_enter Try.func43, Try.ntmps43
    go_wp2
    go_ret
    exact ⟨rfl, rfl⟩
set_option maxRecDepth 100000 in
theorem iTagged_same (w : World) (s : ByteArray) (k : Int) (hs : s.size ≤ maxLen) : Calls Try.prog 30 #[.string s, .int .i64 k] w (Same w (.int .i64 (tagV s k))) := by
  have HO := Lib.hid (iKeyOk_same w s hs)
  have HP := Lib.hid (iPack_same w s hs)
  cases hk : keyOkV s with
  | false =>
    have E := Lib.hid (show tagV s k = 0 from tagV_no (by rw [hk]; simp))
    rw [hk] at HO
    clear hk
    go_enter Try.func30, Try.ntmps30
    go_wp2_with (go_at_call 38; refine HO.out.mono ?_; rintro e w' ⟨rfl, rfl⟩)
    go_ret
    exact ⟨ret_i E.out.symm, rfl⟩
  | true =>
    rw [hk] at HO
    have hp := packV_lt s
    by_cases h : 1 ≤ k ∧ k ≤ 3
    · have E := Lib.hid (tagV_yes hk h)
      obtain ⟨h1, h3⟩ := h
      generalize packV s = p at *
      clear hk
      go_enter Try.func30, Try.ntmps30
      go_wp2_with (first | (go_at_call 38; refine HO.out.mono ?_; rintro e w' ⟨rfl, rfl⟩) | (go_at_call 39; refine (isKind_yes _ _ (by omega) (by omega)).mono ?_; rintro e w' ⟨rfl, rfl⟩) | (go_at_call 40; refine HP.out.mono ?_; rintro e w' ⟨rfl, rfl⟩))
      go_ret
      exact ⟨ret_i (by rw [E.out]; omega), rfl⟩
    · have E := Lib.hid (show tagV s k = 0 from tagV_no (fun x => h x.2))
      clear hk
      go_enter Try.func30, Try.ntmps30
      go_wp2_with (first | (go_at_call 38; refine HO.out.mono ?_; rintro e w' ⟨rfl, rfl⟩) | (go_at_call 39; refine (isKind_no _ _ h).mono ?_; rintro e w' ⟨rfl, rfl⟩))
      go_ret
      exact ⟨ret_i E.out.symm, rfl⟩
theorem iTagged_any (w : World) (s : ByteArray) (k : Int) (hs : s.size ≤ maxLen) (h0 : -9223372036854775808 ≤ k) (h1 : k ≤ 9223372036854775807) : Calls Try.prog 30 #[.string s, .int .i64 k] w (Gives (.int .i64 (tagV s k)) w) := same_gives (iTagged_same w s k hs)
end Go.Proofs.Ytfhkfhpbalbgkaa
