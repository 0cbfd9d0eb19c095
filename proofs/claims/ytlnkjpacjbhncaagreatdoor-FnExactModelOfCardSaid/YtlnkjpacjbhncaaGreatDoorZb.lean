/-
  Several small texts of this proof, one behind another: each says ahead of itself what it proves.
-/
import Derived.Test.YtlnkjpacjbhncaaGreatDoorRowC
import Derived.OwnWalk
import Derived.Test.YtlnkjpacjbhncaaGreatDoorZa
import Derived.Test.YtlnkjpacjbhncaaGreatDoorRowO
import Derived.Deep.QuietTactic
import Derived.BigQuiet
import Derived.ProofKit
import Derived.OpenShut
import Derived.BigGuardPart
import Derived.Deep.RegionHeld3
import Derived.Laws.Cover1
import Derived.Deep.Slices
import Derived.Deep.Fields
import Derived.KernelRfl
import Derived.Deep.Cut
import Derived.Test.YtlnkjpacjbhncaaGreatDoorKeyI
import Derived.Shelf.Strings.Trim
import Derived.Shelf.Small.Utf8
import Derived.Shelf.Small.Bits
import Derived.Shelf.Small.Strs
import Derived.Shelf.Strconv.Itoa0
import Derived.Shelf.Strings.Search1
import Derived.Shelf.Sort.Plain
import Derived.Shelf.Unicode.Decode
import Derived.Shelf.Strings.Runes
import Derived.Shelf.Strings.AsciiSet
import Derived.Shelf.Unicode.DecodeSlow
import Derived.Shelf.Unicode.DecodeAny
import Derived.Shelf.Slices.In.SortNone
import Derived.Test.YtlnkjpacjbhncaaGreatDoorProg
import Derived.Lib.Bytealg
import Derived.Laws.Externs
import Derived.Lib.AtoiAllCases
import Derived.Lib.ItoaNum
import Derived.Lib.Hide
import Derived.Test.YtlnkjpacjbhncaaGreatDoorRows
import Derived.WalkKit
import Derived.Deep.DeepHandedRow
import Derived.Deep.DeepWitnessRowRef
import Derived.LaidLaws
import Derived.LaidSub
import Derived.MakeChecks
/-
  Rows of rows: reading one that came in or was made; one that a call made itself: storing a row, appending one.
-/
namespace Go.Proofs.YtlnkjpacjbhncaaGreatDoor
open Go.RowKit M
set_option linter.unusedVariables false
/-- Row r lies in block b from cell o on. -/
def Row10 (w : World) (b o : Nat) (r : R) : Prop := ∀ k, k < 10 → w.cell? ⟨b, o + k, none⟩ = (rowCells r)[k]?
theorem Row10.get {w : World} {b o : Nat} {r : R} (h : Row10 w b o r) :
    w.cell? ⟨b, o, none⟩ = some (.string r.key) ∧ w.cell? ⟨b, o + 1, none⟩ = some (.int .i64 r.kind) ∧ w.cell? ⟨b, o + 2, none⟩ = some (.int .i64 r.sum) ∧ w.cell? ⟨b, o + 3, none⟩ = some (.bool r.set) ∧ w.cell? ⟨b, o + 4, none⟩ = some (.int .i64 r.last) ∧
    w.cell? ⟨b, o + 5, none⟩ = some (.int .i64 r.n) ∧ w.cell? ⟨b, o + 6, none⟩ = some (.int .i64 r.mn) ∧ w.cell? ⟨b, o + 7, none⟩ = some (.int .i64 r.mx) ∧ w.cell? ⟨b, o + 8, none⟩ = some (.int .i64 r.total) ∧ w.cell? ⟨b, o + 9, none⟩ = some (.int .i64 r.dropped) :=
  ⟨h 0 (by decide), h 1 (by decide), h 2 (by decide), h 3 (by decide), h 4 (by decide), h 5 (by decide), h 6 (by decide), h 7 (by decide), h 8 (by decide), h 9 (by decide)⟩
theorem Row10.below {w w' : World} {b o : Nat} {r : R} (h : Row10 w b o r) (hlt : b < w.heap.size) (hb : Below w.heap.size w w') : Row10 w' b o r :=
  fun k hk => (hb.cell (p := ⟨b, o + k, none⟩) hlt).trans (h k hk)
/-- The slice value v reads as the rows rs (nil, or of no length, or one whose cells are there). -/
def RowsArg (w : World) (v : Value) (rs : List R) : Prop :=
  ∃ A cap, v = .slice A rs.length cap ∧ rs.length ≤ cap ∧ cap ≤ maxLen ∧ (0 < rs.length → ∃ b off, A = some ⟨b, off, none⟩ ∧ b < w.heap.size ∧ ∀ j, j < rs.length → Row10 w b (off + j * 10) (rs.getD j zeroR))
theorem RowsArg.below {w w' : World} {v : Value} {rs : List R} (h : RowsArg w v rs) (hb : Below w.heap.size w w') : RowsArg w' v rs := by
  obtain ⟨A, cap, e, h1, h2, h3⟩ := h
  refine ⟨A, cap, e, h1, h2, fun hp => ?_⟩
  obtain ⟨b, off, ea, h4, h5⟩ := h3 hp
  exact ⟨b, off, ea, Nat.lt_of_lt_of_le h4 hb.size, fun j hj => (h5 j hj).below h4 hb⟩
theorem RowsArg.nil (w : World) : RowsArg w (.slice none 0 0) [] := ⟨none, 0, rfl, Nat.zero_le _, Nat.zero_le _, fun h => absurd h (by simp)⟩
/-- The cells of the rows. -/
def cellsR (rs : List R) : List Value := rs.flatMap fun r => (rowCells r).toList
theorem cells10 (r : R) : (rowCells r).toList.length = 10 := rfl
theorem cellsR_length (rs : List R) : (cellsR rs).length = rs.length * 10 := by
  induction rs with
  | nil => rfl
  | cons r rs ih => simp only [cellsR, List.flatMap_cons, List.length_append, List.length_cons] at *; rw [ih, cells10]; omega
theorem cellsR_append (xs ys : List R) : cellsR (xs ++ ys) = cellsR xs ++ cellsR ys := by simp [cellsR]
theorem cellsR_at (rs : List R) (j k : Nat) (hj : j < rs.length) (hk : k < 10) : (cellsR rs)[j * 10 + k]? = (rowCells (rs.getD j zeroR))[k]? := by
  induction rs generalizing j with
  | nil => simp at hj
  | cons r rs ih =>
    show ((rowCells r).toList ++ cellsR rs)[j * 10 + k]? = _
    cases j with
    | zero => rw [List.getElem?_append_left (by rw [cells10]; omega)]; simp
    | succ j =>
      rw [List.getElem?_append_right (by rw [cells10]; omega), cells10, show (j + 1) * 10 + k - 10 = j * 10 + k by omega, ih j (by simpa using hj)]
      simp
theorem cellsR_one (rs : List R) : ∀ u ∈ cellsR rs, u.oneCell' = true := by
  intro u hu
  obtain ⟨r, _, hr⟩ := List.mem_flatMap.1 hu
  simp [rowCells] at hr
  rcases hr with rfl | rfl | rfl | rfl | rfl | rfl | rfl | rfl | rfl | rfl <;> rfl
/-- The row of rows is the call's own: in a block from base on. -/
def OwnR (w : World) (base : Nat) (v : Value) (rs : List R) : Prop := w.ownsRow base 60 10 v rs.length (cellsR rs)
theorem OwnR.alloc {w : World} {base : Nat} {v : Value} {rs : List R} (h : OwnR w base v rs) (o : Obj) : OwnR (w.alloc o) base v rs := World.ownsRow.alloc h o
theorem OwnR.kept {w w' : World} {base : Nat} {v : Value} {rs : List R} {row : Option Nat} (h : OwnR w base v rs) (hg : w.grownBy w' row) (hne : v.ownBlock = none ∨ v.ownBlock ≠ row) : OwnR w' base v rs := World.ownsRow.kept h hg hne
theorem OwnR.base_le {w : World} {base : Nat} {v : Value} {rs : List R} (h : OwnR w base v rs) : ∀ k, v.ownBlock = some k → base ≤ k := fun k hk => (World.ownsRow.lt h k hk).1
theorem OwnR.below {w w' : World} {base : Nat} {v : Value} {rs : List R} (h : OwnR w base v rs) (hb : Below w.heap.size w w') : OwnR w' base v rs :=
  h.kept (row := none) ⟨hb.os, hb.tape, hb.output, hb.size, fun i hi _ => hb.block i hi⟩ (by cases v.ownBlock <;> simp)
theorem OwnR.arg {w : World} {base : Nat} {v : Value} {rs : List R} (h : OwnR w base v rs) : RowsArg w v rs := by
  have h' := h
  rcases h.2 with ⟨rfl, h0⟩ | ⟨g, cap, cur, rfl, hb, hg, hn, hm, hc, ht⟩
  · exact ⟨none, 0, by rw [h0], by omega, Nat.zero_le _, fun h => by omega⟩
  · refine ⟨_, cap, rfl, hn, hm, fun _ => ⟨g, 0, rfl, (World.ownsRow.lt h' g rfl).2, fun j hj k hk => ?_⟩⟩
    rw [Nat.zero_add, World.ownsRow.cellAt h' (j * 10 + k) (by omega), cellsR_at rs j k hj hk]
theorem OwnR.at {w : World} {base g n cap : Nat} {rs : List R} (h : OwnR w base (.slice (some ⟨g, 0, none⟩) n cap) rs) (hn : rs.length = n) (j : Nat) (hj : j < n) : Row10 w g (j * 10) (rs.getD j zeroR) := by
  subst hn
  exact fun k hk => by rw [World.ownsRow.cellAt h (j * 10 + k) (by omega), cellsR_at rs j k hj hk]
theorem OwnR.frz {w : World} {base g n cap : Nat} {rs : List R} (h : OwnR w base (.slice (some ⟨g, 0, none⟩) n cap) rs) (hn : rs.length = n) (j : Nat) : w.frozen? ⟨g, j, none⟩ = false := by
  subst hn
  exact World.ownsRow.frozenAt h j
/-- Ten stores: row r into block g from cell o on. -/
def put10 (w : World) (g o : Nat) (r : R) : World :=
  (((((((((w.setCell ⟨g, o, none⟩ (.string r.key)).setCell ⟨g, o + 1, none⟩ (.int .i64 r.kind)).setCell ⟨g, o + 2, none⟩ (.int .i64 r.sum)).setCell ⟨g, o + 3, none⟩ (.bool r.set)).setCell ⟨g, o + 4, none⟩ (.int .i64 r.last)).setCell ⟨g, o + 5, none⟩ (.int .i64 r.n)).setCell ⟨g, o + 6, none⟩ (.int .i64 r.mn)).setCell ⟨g, o + 7, none⟩ (.int .i64 r.mx)).setCell ⟨g, o + 8, none⟩ (.int .i64 r.total)).setCell ⟨g, o + 9, none⟩ (.int .i64 r.dropped)
theorem set_append {α : Type} (la bs cs : List α) (i : Nat) (x : α) (hi : i < bs.length) : (la ++ (bs ++ cs)).set (la.length + i) x = la ++ (bs.set i x ++ cs) := by
  rw [List.set_append_right _ _ (by omega), Nat.add_sub_cancel_left, List.set_append_left _ _ hi]
theorem cellsR_set (rs : List R) (j : Nat) (r : R) (hj : j < rs.length) :
    (((((((((((cellsR rs).set (j * 10) (.string r.key)).set (j * 10 + 1) (.int .i64 r.kind)).set (j * 10 + 2) (.int .i64 r.sum)).set (j * 10 + 3) (.bool r.set)).set (j * 10 + 4) (.int .i64 r.last)).set (j * 10 + 5) (.int .i64 r.n)).set (j * 10 + 6) (.int .i64 r.mn)).set (j * 10 + 7) (.int .i64 r.mx)).set (j * 10 + 8) (.int .i64 r.total)).set (j * 10 + 9) (.int .i64 r.dropped)) = cellsR (rs.set j r) := by
  have e : rs = rs.take j ++ (rs.getD j zeroR :: rs.drop (j + 1)) := by
    rw [List.getD_eq_getElem?_getD, List.getElem?_eq_getElem hj, Option.getD_some, ← List.drop_eq_getElem_cons hj, List.take_append_drop]
  generalize rs.getD j zeroR = z at e
  have e2 : rs.set j r = rs.take j ++ (r :: rs.drop (j + 1)) := by
    conv => lhs; rw [e]
    rw [List.set_append_right _ _ (by rw [List.length_take]; omega), List.length_take, show j - min j rs.length = 0 by omega, List.set_cons_zero]
  have e3 : cellsR rs = cellsR (rs.take j) ++ ((rowCells z).toList ++ cellsR (rs.drop (j + 1))) := by
    conv => lhs; rw [e]
    rw [cellsR_append]; rfl
  have e4 : cellsR (rs.set j r) = cellsR (rs.take j) ++ ((rowCells r).toList ++ cellsR (rs.drop (j + 1))) := by rw [e2, cellsR_append]; rfl
  have e5 : (cellsR (rs.take j)).length = j * 10 := by rw [cellsR_length, List.length_take]; omega
  rw [e3, e4, ← e5]
  have S := fun (bs : List Value) (i : Nat) (x : Value) (hi : i < bs.length) => set_append (cellsR (rs.take j)) bs (cellsR (rs.drop (j + 1))) i x hi
  have S0 := fun (bs : List Value) (x : Value) (hi : 0 < bs.length) => S bs 0 x hi
  simp only [Nat.add_zero] at S0
  rw [S0 _ _ (by simp [rowCells]), S _ 1 _ (by simp [rowCells]), S _ 2 _ (by simp [rowCells]), S _ 3 _ (by simp [rowCells]), S _ 4 _ (by simp [rowCells]), S _ 5 _ (by simp [rowCells]), S _ 6 _ (by simp [rowCells]), S _ 7 _ (by simp [rowCells]), S _ 8 _ (by simp [rowCells]), S _ 9 _ (by simp [rowCells])]
  rfl
theorem grownR_trans {a b c : World} {o : Option Nat} (h : a.grownBy b o) (k : b.grownBy c o) : a.grownBy c o :=
  ⟨k.os.trans h.os, k.tape.trans h.tape, k.output.trans h.output, Nat.le_trans h.size k.size, fun i hi hne => (k.block i (Nat.lt_of_lt_of_le hi h.size) hne).trans (h.block i hi hne)⟩
theorem OwnR.put {w : World} {base g n cap : Nat} {rs : List R} (h : OwnR w base (.slice (some ⟨g, 0, none⟩) n cap) rs) (hn : rs.length = n) (j : Nat) (hj : j < n) (r : R) :
    OwnR (put10 w g (j * 10) r) base (.slice (some ⟨g, 0, none⟩) n cap) (rs.set j r) ∧ w.grownBy (put10 w g (j * 10) r) (some g) := by
  subst hn
  have h0 := World.ownsRow.stored h (j * 10) (.string r.key)
  have h1 := World.ownsRow.stored h0.1 (j * 10 + 1) (.int .i64 r.kind)
  have h2 := World.ownsRow.stored h1.1 (j * 10 + 2) (.int .i64 r.sum)
  have h3 := World.ownsRow.stored h2.1 (j * 10 + 3) (.bool r.set)
  have h4 := World.ownsRow.stored h3.1 (j * 10 + 4) (.int .i64 r.last)
  have h5 := World.ownsRow.stored h4.1 (j * 10 + 5) (.int .i64 r.n)
  have h6 := World.ownsRow.stored h5.1 (j * 10 + 6) (.int .i64 r.mn)
  have h7 := World.ownsRow.stored h6.1 (j * 10 + 7) (.int .i64 r.mx)
  have h8 := World.ownsRow.stored h7.1 (j * 10 + 8) (.int .i64 r.total)
  have h9 := World.ownsRow.stored h8.1 (j * 10 + 9) (.int .i64 r.dropped)
  refine ⟨?_, grownR_trans (grownR_trans (grownR_trans (grownR_trans (grownR_trans (grownR_trans (grownR_trans (grownR_trans (grownR_trans h0.2 h1.2) h2.2) h3.2) h4.2) h5.2) h6.2) h7.2) h8.2) h9.2⟩
  unfold OwnR
  rw [List.length_set, ← cellsR_set rs j r hj]
  exact h9.1
/-- A call hands back a new row of rows of its own, and turns nothing that was there. -/
def MadeR (w : World) (rs : List R) (e : Ending) (w' : World) : Prop := ∃ v, e = .returned v ∧ OwnR w' w.heap.size v rs ∧ Below w.heap.size w w'
/-- An empty one that was just built. -/
theorem OwnR.empty (w : World) (base : Nat) (hb : base ≤ w.heap.size) : OwnR (w.alloc (.cells #[] 60)) base (.slice (some ⟨w.heap.size, 0, none⟩) 0 0) [] :=
  World.ownsRow_lit w #[] 0 hb (Nat.zero_le _) rfl
theorem info_row : (Tryz.prog.info? 60).map (fun i => (i.zero, i.size, i.bytes)) = some (some zeroR.v, 10, 88) := by kernel_rfl
/-- append(v, x) onto an own row of rows, x being a row that lies alone in a new block. -/
theorem wpR_append (w : World) {ops : Array Oper} {rest : List Oper} {o : Oper} {a : Act} {Q : Exit → Act → World → Prop} (hgd : o.guard = none) (s x : Operand)
    (ho : o.op = .call { callee := .builtin .append, args := #[s, x], argTypes := #[24, 24] })
    (base : Nat) (v : Value) (l : List R) (hown : OwnR w base v l) (hs : a.eval s = v)
    (c : R) (cs : Array Value) (hcs : cs = rowCells c) (hx : a.eval x = .slice (some ⟨w.heap.size, 0, none⟩) 1 1)
    (hlen : l.length + 1 ≤ 8796093022) (hbase : base ≤ w.heap.size)
    (h : ∀ v' w', OwnR w' base v' (l ++ [c]) → (w.alloc (.cells cs 60)).grownBy w' v.ownBlock → wpList Tryz.prog ops Q rest (a.put o.dst v') w') : wpList Tryz.prog ops Q (o :: rest) a (w.alloc (.cells cs 60)) := by
  subst hcs
  obtain ⟨i0, hi, hz0, hz1, hz2⟩ := info_parts info_row
  refine wpList_append_own (w.alloc (.cells (rowCells c) 60)) hgd s x 24 ho base 60 i0 zeroR.v 10 88 Tryz.underlying24 hi hz0 hz1 hz2 rfl (by decide) v l.length (cellsR l) hs (hown.alloc _) ⟨w.heap.size, 0, none⟩ 1 1 (rowCells c).toList hx rfl ?_ ?_ (by unfold maxLen; omega) (by omega) (by simp [go_sem]; omega) ?_
  · intro j u hu
    have hj : j < 10 := by have := (List.getElem?_eq_some_iff.1 hu).1; simpa [rowCells] using this
    rw [Addr.add_lit, Nat.zero_add, cell_of_row _ _ _ _ _ _ (heap_alloc_new w _)]
    rw [Array.getElem?_toList] at hu
    exact hu
  · intro u hu
    exact cellsR_one [c] u (by simpa [cellsR] using hu)
  · intro v' w' h1 h2 _
    refine h v' w' ?_ h2
    unfold OwnR
    rw [List.length_append, cellsR_append]
    simpa [cellsR] using h1
end Go.Proofs.YtlnkjpacjbhncaaGreatDoor
/-
  Two rows compared by the program: they are alike exactly if each field is.
-/
namespace Go.Proofs.YtlnkjpacjbhncaaGreatDoor
open Go.RowKit M
set_option linter.unusedVariables false
instance decR : DecidableEq R := fun a b =>
  if h : (a.key = b.key ∧ a.kind = b.kind ∧ a.sum = b.sum ∧ a.set = b.set ∧ a.last = b.last) ∧ a.n = b.n ∧ a.mn = b.mn ∧ a.mx = b.mx ∧ a.total = b.total ∧ a.dropped = b.dropped then
    .isTrue (by
      obtain ⟨⟨h0, h1, h2, h3, h4⟩, h5, h6, h7, h8, h9⟩ := h
      cases a; cases b
      simp only at *
      subst h0; subst h1; subst h2; subst h3; subst h4; subst h5; subst h6; subst h7; subst h8; subst h9
      rfl)
  else .isFalse (fun e => h (by subst e; exact ⟨⟨rfl, rfl, rfl, rfl, rfl⟩, rfl, rfl, rfl, rfl, rfl⟩))
theorem stood_row : Tryz.prog.stoodInHeld 60 = false := by kernel_rfl
set_option maxRecDepth 100000 in
set_option maxHeartbeats 4000000 in
theorem neq_row (w : World) (r s : R) (h : r ≠ s) : (binOp .neq 60 r.v s.v).run Tryz.prog w = .ok (.bool true) w := by
  obtain ⟨key, kind, sum, st, last, n', mn, mx, total, dropped⟩ := r
  obtain ⟨key', kind', sum', st', last', n'', mn', mx', total', dropped'⟩ := s
  unfold R.v
  simp only at *
  rw [run_neq_struct, run_equalIn_struct _ _ _ _ _ (by kernel_rfl) stood_row]
  by_cases e0 : key = key'
  · subst e0
    by_cases e1 : kind = kind'
    · subst e1
      simp [go_sem]
      rintro rfl rfl rfl rfl rfl rfl rfl rfl
      exact h rfl
    · simp [go_sem, e1]
  · have e := txt_ne e0
    simp [go_sem, e]
end Go.Proofs.YtlnkjpacjbhncaaGreatDoor
/-
  Chapter 7 on rows of rows, in plain words and the model's: SameReport, ReportOk.
-/
namespace Go.Proofs.YtlnkjpacjbhncaaGreatDoor
open Go.RowKit M
set_option linter.unusedVariables false
def sameRV (xs ys : List R) : Bool := decide (xs = ys)
def EqTo (xs ys : List R) (j : Nat) : Prop := ∀ m, m < j → xs.getD m zeroR = ys.getD m zeroR
theorem EqTo.zero (xs ys : List R) : EqTo xs ys 0 := fun m h => absurd h (Nat.not_lt_zero _)
theorem EqTo.next {xs ys : List R} {j : Nat} (h : EqTo xs ys j) (k : xs.getD j zeroR = ys.getD j zeroR) : EqTo xs ys (j + 1) := fun m hm => by
  by_cases e : m = j
  · subst e; exact k
  · exact h m (by omega)
theorem EqTo.all {xs ys : List R} (hl : xs.length = ys.length) (h : EqTo xs ys xs.length) : sameRV xs ys = true := by
  apply decide_eq_true
  apply List.ext_getElem? 
  intro i
  by_cases hi : i < xs.length
  · have := h i hi
    rw [List.getD_eq_getElem?_getD, List.getD_eq_getElem?_getD, List.getElem?_eq_getElem hi, List.getElem?_eq_getElem (by omega)] at this
    rw [List.getElem?_eq_getElem hi, List.getElem?_eq_getElem (by omega)]
    exact congrArg some this
  · rw [List.getElem?_eq_none (by omega), List.getElem?_eq_none (by omega)]
theorem sameRV_len {xs ys : List R} (hl : xs.length ≠ ys.length) : sameRV xs ys = false := decide_eq_false fun e => hl (by rw [e])
theorem sameRV_ne {xs ys : List R} {j : Nat} (h : xs.getD j zeroR ≠ ys.getD j zeroR) : sameRV xs ys = false := decide_eq_false fun e => h (by rw [e])
end Go.Proofs.YtlnkjpacjbhncaaGreatDoor
/-
  Chapter 7 on rows of rows: ReportOk, in plain words and the model's.
-/
namespace Go.Proofs.YtlnkjpacjbhncaaGreatDoor
open Go.RowKit M
set_option linter.unusedVariables false
/-- x is not behind y, byte by byte. -/
def strLe (x y : ByteArray) : Bool := Go.Op.bytesLess x.toList y.toList || x.toList == y.toList
/-- Is the row at place i not as a report has it? -/
def badAt (rs : List R) (i : Nat) : Bool := !rowOkV (rs.getD i zeroR) || (quietV (rs.getD i zeroR) || (decide (0 < i) && strLe (rs.getD i zeroR).key (rs.getD (i - 1) zeroR).key))
def reportOkV (rs : List R) : Bool := decide (rs.length ≤ 4) && (List.range rs.length).all fun i => !badAt rs i
def GoodTo (rs : List R) (j : Nat) : Prop := ∀ m, m < j → badAt rs m = false
theorem GoodTo.zero (rs : List R) : GoodTo rs 0 := fun m h => absurd h (Nat.not_lt_zero _)
theorem GoodTo.next {rs : List R} {j : Nat} (h : GoodTo rs j) (k : badAt rs j = false) : GoodTo rs (j + 1) := fun m hm => by
  by_cases e : m = j
  · subst e; exact k
  · exact h m (by omega)
theorem reportOk_bad {rs : List R} {j : Nat} (hj : j < rs.length) (h : badAt rs j = true) : reportOkV rs = false := by
  unfold reportOkV
  rw [Bool.and_eq_false_iff]
  right
  rw [← Bool.not_eq_true, List.all_eq_true]
  intro k
  have := k j (List.mem_range.2 hj)
  rw [h] at this; cases this
theorem reportOk_all {rs : List R} (h : GoodTo rs rs.length) : reportOkV rs = decide ((rs.length : Int) ≤ 4) := by
  have e : ((List.range rs.length).all fun i => !badAt rs i) = true := by
    rw [List.all_eq_true]
    intro i hi
    rw [h i (List.mem_range.1 hi)]; rfl
  unfold reportOkV
  rw [e, Bool.and_true]
  congr 1
  simp only [eq_iff_iff]
  omega
/-- What the walk keeps while it reads a row and the key ahead of it. -/
def RpHeld (w0 : World) (b : Nat) (w : World) : Prop := Below w0.heap.size w0 w ∧ b < w0.heap.size
def RowHeld (w0 : World) (b o p : Nat) (r : R) (pk : ByteArray) (w : World) : Prop :=
  w.cell? ⟨b, o, none⟩ = some (.string r.key) ∧ w.cell? ⟨b, o + 1, none⟩ = some (.int .i64 r.kind) ∧ w.cell? ⟨b, o + 2, none⟩ = some (.int .i64 r.sum) ∧ w.cell? ⟨b, o + 3, none⟩ = some (.bool r.set) ∧ w.cell? ⟨b, o + 4, none⟩ = some (.int .i64 r.last) ∧
  w.cell? ⟨b, o + 5, none⟩ = some (.int .i64 r.n) ∧ w.cell? ⟨b, o + 6, none⟩ = some (.int .i64 r.mn) ∧ w.cell? ⟨b, o + 7, none⟩ = some (.int .i64 r.mx) ∧ w.cell? ⟨b, o + 8, none⟩ = some (.int .i64 r.total) ∧ w.cell? ⟨b, o + 9, none⟩ = some (.int .i64 r.dropped) ∧
  w.cell? ⟨b, p, none⟩ = some (.string pk) ∧ RpHeld w0 b w
theorem RowHeld.next {w0 w1 w2 : World} {b o p : Nat} {r : R} {pk : ByteArray} (hb : Below w1.heap.size w1 w2) (h : RowHeld w0 b o p r pk w1) : RowHeld w0 b o p r pk w2 := by
  obtain ⟨h0, h1, h2, h3, h4, h5, h6, h7, h8, h9, hp, hw, hlt⟩ := h
  have lt : b < w1.heap.size := Nat.lt_of_lt_of_le hlt hw.size
  exact ⟨(hb.cell (p := ⟨b, o, none⟩) lt).trans h0, (hb.cell (p := ⟨b, o + 1, none⟩) lt).trans h1, (hb.cell (p := ⟨b, o + 2, none⟩) lt).trans h2, (hb.cell (p := ⟨b, o + 3, none⟩) lt).trans h3, (hb.cell (p := ⟨b, o + 4, none⟩) lt).trans h4,
    (hb.cell (p := ⟨b, o + 5, none⟩) lt).trans h5, (hb.cell (p := ⟨b, o + 6, none⟩) lt).trans h6, (hb.cell (p := ⟨b, o + 7, none⟩) lt).trans h7, (hb.cell (p := ⟨b, o + 8, none⟩) lt).trans h8, (hb.cell (p := ⟨b, o + 9, none⟩) lt).trans h9,
    (hb.cell (p := ⟨b, p, none⟩) lt).trans hp, hw.trans (hb.mono hw.size), hlt⟩
theorem RowHeld.drew {w0 w1 : World} {b o p : Nat} {r : R} {pk : ByteArray} (h : RowHeld w0 b o p r pk w1) : RowHeld w0 b o p r pk w1.drew := h.next (below_drew _ _)
theorem rowHeld_get {w0 w1 : World} {b o p : Nat} {key : ByteArray} {kind sum : Int} {st : Bool} {last n mn mx total dropped : Int} {pk : ByteArray} (h : RowHeld w0 b o p ⟨key, kind, sum, st, last, n, mn, mx, total, dropped⟩ pk w1) :
    w1.cell? ⟨b, o, none⟩ = some (.string key) ∧ w1.cell? ⟨b, o + 1, none⟩ = some (.int .i64 kind) ∧ w1.cell? ⟨b, o + 2, none⟩ = some (.int .i64 sum) ∧ w1.cell? ⟨b, o + 3, none⟩ = some (.bool st) ∧ w1.cell? ⟨b, o + 4, none⟩ = some (.int .i64 last) ∧
      w1.cell? ⟨b, o + 5, none⟩ = some (.int .i64 n) ∧ w1.cell? ⟨b, o + 6, none⟩ = some (.int .i64 mn) ∧ w1.cell? ⟨b, o + 7, none⟩ = some (.int .i64 mx) ∧ w1.cell? ⟨b, o + 8, none⟩ = some (.int .i64 total) ∧ w1.cell? ⟨b, o + 9, none⟩ = some (.int .i64 dropped) ∧ w1.cell? ⟨b, p, none⟩ = some (.string pk) ∧ RpHeld w0 b w1 := h
theorem rowHeld_bel {w0 w1 : World} {b : Nat} {p0 p1 p2 p3 p4 p5 p6 p7 p8 p9 pp : Prop} (h : p0 ∧ p1 ∧ p2 ∧ p3 ∧ p4 ∧ p5 ∧ p6 ∧ p7 ∧ p8 ∧ p9 ∧ pp ∧ RpHeld w0 b w1) : Below w0.heap.size w0 w1 := h.2.2.2.2.2.2.2.2.2.2.2.1
theorem bad_row {rs : List R} {j : Nat} (h : rowOkV (rs.getD j zeroR) = false) : badAt rs j = true := by unfold badAt; rw [h]; rfl
theorem bad_quiet {rs : List R} {j : Nat} (h : rowOkV (rs.getD j zeroR) = true) (k : quietV (rs.getD j zeroR) = true) : badAt rs j = true := by unfold badAt; rw [h, k]; rfl
theorem bad_first {rs : List R} (h : rowOkV (rs.getD 0 zeroR) = true) (k : quietV (rs.getD 0 zeroR) = false) : badAt rs 0 = false := by unfold badAt; rw [h, k]; rfl
theorem bad_next {rs : List R} {m : Nat} (h : rowOkV (rs.getD (m + 1) zeroR) = true) (k : quietV (rs.getD (m + 1) zeroR) = false) : badAt rs (m + 1) = strLe (rs.getD (m + 1) zeroR).key (rs.getD m zeroR).key := by
  unfold badAt; rw [h, k]; simp
end Go.Proofs.YtlnkjpacjbhncaaGreatDoor
/-
  An argument that is a row of rows, opened: some rows each of whose fields fits its type.
-/
namespace Go.Proofs.YtlnkjpacjbhncaaGreatDoor
open Go.ChangeShapes Go.WideShapes Go.Deep Go.RowKit M
set_option linter.unusedVariables false
def FitR (rs : List R) : Prop := ∀ j, j < rs.length → (rs.getD j zeroR).Fit
theorem FitR.key {rs : List R} (h : FitR rs) : ∀ j, j < rs.length → (rs.getD j zeroR).key.size ≤ maxLen := fun j hj => (h j hj).key
instance : Inhabited R := ⟨zeroR⟩
end Go.Proofs.YtlnkjpacjbhncaaGreatDoor
/-
  Chapter 13 in plain words: the model's keys and rows; the kind and the row of a key; when a model is valid; what an operation makes of it.
-/
namespace Go.Proofs.YtlnkjpacjbhncaaGreatDoor.M
open Go.RowKit
set_option linter.unusedVariables false
structure Mo where
  keys : List KR
  rows : List R
/-- A key with its kind as a row of which the rest is zero: so what is known of rows in order is known of keys. -/
def kr (k : KR) : R := { zeroR with key := k.key, kind := k.kind }
end Go.Proofs.YtlnkjpacjbhncaaGreatDoor.M
namespace Go.Proofs.YtlnkjpacjbhncaaGreatDoor
open Go.RowKit M
set_option linter.unusedVariables false
/-- The kind of the first of the keys that is s, or 0. -/
def mKindV (s : ByteArray) : List KR → Int
  | [] => 0
  | k :: l => if k.key = s then k.kind else mKindV s l
/-- The row of a key that has none. -/
def newRow (m : Mo) (s : ByteArray) : R := if mKindV s m.keys = 0 then zeroR else { zeroR with key := s, kind := mKindV s m.keys }
/-- The first of the rows whose key is s, or z. -/
def mFindV (s : ByteArray) (z : R) : List R → R
  | [] => z
  | r :: l => if r.key = s then r else mFindV s z l
def mRowV (m : Mo) (s : ByteArray) : R := mFindV s (newRow m s) m.rows
/-- Is the key at place i not as a valid model has it? -/
def kBad (l : List KR) (i : Nat) : Bool := decide (tagV (l.getD i zeroKR).key (l.getD i zeroKR).kind = 0) || (decide (0 < i) && strLe (l.getD i zeroKR).key (l.getD (i - 1) zeroKR).key)
def keysOkV (l : List KR) : Bool := (List.range l.length).all fun i => !kBad l i
def kindsIn (m : Mo) : Bool := m.rows.all fun r => decide (mKindV r.key m.keys = r.kind)
def modelOkV (m : Mo) : Bool := decide (m.keys.length ≤ 4) && (keysOkV m.keys && (reportOkV m.rows && kindsIn m))
/-- A key put into its place, ahead of the first greater one. -/
def insK (k : KR) : List KR → List KR
  | [] => [k]
  | x :: l => if strLt k.key x.key = true then k :: x :: l else x :: insK k l
def noKey (s : ByteArray) (l : List R) : List R := l.filter fun x => !decide (x.key = s)
/-- A row put in the place of that of its key; a quiet one is left out. -/
def rowPutV (l : List R) (r : R) : List R := if quietV r = true then noKey r.key l else putV (noKey r.key l) r
def regV (m : Mo) (o : O) : Mo × Int :=
  if mKindV o.key m.keys = o.what then (m, 0)
  else if mKindV o.key m.keys ≠ 0 then (m, 4)
  else if m.keys.length = 4 then (m, 3)
  else (⟨insK ⟨o.key, o.what⟩ m.keys, m.rows⟩, 0)
/-- A row with the value recorded. -/
def withV (r : R) (v : Int) : R := if r.kind = 1 then countedV r v else if r.kind = 2 then { r with set := true, last := v } else sampledV r v
def recV (m : Mo) (o : O) : Mo × Int :=
  if (mRowV m o.key).kind = 0 then (m, 2)
  else (⟨m.keys, rowPutV m.rows (withV (mRowV m o.key) o.val)⟩, if (mRowV m o.key).kind ≠ 1 ∧ (mRowV m o.key).kind ≠ 2 ∧ (mRowV m o.key).n = 3 then 5 else 0)
def mDoV (m : Mo) (o : O) : Mo × Int × List R :=
  if modelOkV m = true ∧ opOkV o = true then
    (if o.kind = 1 then ((regV m o).1, (regV m o).2, []) else if o.kind = 2 then ((recV m o).1, (recV m o).2, []) else (⟨m.keys, []⟩, 0, m.rows))
  else (m, 1, [])
/- Facts. -/
/-- Strictly in order. -/
def Asc (l : List R) : Prop := l.Pairwise fun a b => strLt a.key b.key = true
theorem strLe_lt (x y : ByteArray) : strLe x y = !strLt y x := by
  unfold strLe strLt
  have e : ∀ a b : List UInt8, (Go.Op.bytesLess a b || a == b) = !Go.Op.bytesLess b a := by
    intro a b
    cases h : Go.Op.bytesLess b a with
    | true =>
      cases h2 : Go.Op.bytesLess a b with
      | true => have := bl_trans _ _ _ h h2; rw [bl_irrefl] at this; cases this
      | false =>
        have : (a == b) = false := by
          rw [beq_eq_false_iff_ne]; intro e; subst e; rw [bl_irrefl] at h; cases h
        rw [this]; rfl
    | false =>
      cases h2 : Go.Op.bytesLess a b with
      | true => rfl
      | false => rw [bl_total _ _ h2 h]; simp
  exact e _ _
theorem asc_of {l : List R} (h : ∀ i, i + 1 < l.length → strLt (l.getD i zeroR).key (l.getD (i + 1) zeroR).key = true) : Asc l := by
  induction l with
  | nil => exact List.Pairwise.nil
  | cons x l ih =>
    have hl : Asc l := ih fun i hi => h (i + 1) (by simp only [List.length_cons]; omega)
    refine List.Pairwise.cons (fun y hy => ?_) hl
    cases l with
    | nil => cases hy
    | cons z l =>
      have h0 : strLt x.key z.key = true := h 0 (by simp)
      rcases List.mem_cons.1 hy with rfl | hy
      · exact h0
      · exact strLt_trans h0 ((List.pairwise_cons.1 hl).1 y hy)
theorem insV_end {l : List R} {r : R} (h : ∀ x ∈ l, strLt x.key r.key = true) : insV r l = l ++ [r] := by
  induction l with
  | nil => rfl
  | cons x l ih =>
    have h0 := h x List.mem_cons_self
    have h1 : strLt r.key x.key = false := by
      cases e : strLt r.key x.key with
      | false => rfl
      | true => have := strLt_trans h0 e; rw [strLt_irrefl] at this; cases this
    simp only [insV, h1, Bool.false_eq_true, if_false, List.cons_append]
    rw [ih fun y hy => h y (List.mem_cons_of_mem _ hy)]
theorem foldl_ins {l acc : List R} (h : Asc (acc ++ l)) : l.foldl (fun s r => insV r s) acc = acc ++ l := by
  induction l generalizing acc with
  | nil => simp
  | cons x l ih =>
    have hx : ∀ y ∈ acc, strLt y.key x.key = true := fun y hy => (List.pairwise_append.1 h).2.2 y hy x List.mem_cons_self
    rw [List.foldl_cons, insV_end hx, ih (by rw [List.append_assoc]; exact h), List.append_assoc]
    rfl
theorem sortV_asc {l : List R} (h : Asc l) : sortV l = l := by
  have := foldl_ins (l := l) (acc := []) (by simpa using h)
  simpa [sortV] using this
theorem foldl_add {l acc : List R} (h : Asc (acc ++ l)) (hq : ∀ x ∈ l, x.kind ≠ 0 ∧ quietV x = false) : l.foldl addV acc = acc ++ l := by
  induction l generalizing acc with
  | nil => simp
  | cons x l ih =>
    have hx : ∀ y ∈ acc, strLt y.key x.key = true := fun y hy => (List.pairwise_append.1 h).2.2 y hy x List.mem_cons_self
    have hn : (acc.any fun y => decide (y.key = x.key)) = false := by
      rw [List.any_eq_false]
      intro y hy
      have := strLt_ne (hx y hy)
      simpa using this
    have e : addV acc x = acc ++ [x] := by
      unfold addV putV
      rw [if_pos (hq x List.mem_cons_self), hn, if_neg (by simp), insV_end hx]
    rw [List.foldl_cons, e, ih (by rw [List.append_assoc]; exact h) (fun y hy => hq y (List.mem_cons_of_mem _ hy)), List.append_assoc]
    rfl
theorem insK_kr (k : KR) (l : List KR) : (insK k l).map kr = insV (kr k) (l.map kr) := by
  induction l with
  | nil => rfl
  | cons x l ih =>
    simp only [insK, List.map_cons, insV]
    show List.map kr (if strLt k.key x.key = true then k :: x :: l else x :: insK k l) = if strLt k.key x.key = true then kr k :: kr x :: l.map kr else kr x :: insV (kr k) (l.map kr)
    cases e : strLt k.key x.key with
    | true => rfl
    | false =>
      show kr x :: (insK k l).map kr = kr x :: insV (kr k) (l.map kr)
      rw [ih]
theorem insK_len (k : KR) (l : List KR) : (insK k l).length = l.length + 1 := by
  induction l with
  | nil => rfl
  | cons x l ih => unfold insK; split; rfl; rw [List.length_cons, ih, List.length_cons]
theorem kr_getD (l : List KR) (i : Nat) : (l.map kr).getD i zeroR = kr (l.getD i zeroKR) := by
  simp only [List.getD_eq_getElem?_getD, List.getElem?_map]
  cases l[i]? <;> rfl
theorem keysOk_at {l : List KR} (h : keysOkV l = true) : ∀ i, i < l.length → kBad l i = false := fun i hi => by
  have := List.all_eq_true.1 h i (List.mem_range.2 hi)
  simpa using this
theorem keys_asc {l : List KR} (h : keysOkV l = true) : Asc (l.map kr) := by
  refine asc_of fun i hi => ?_
  rw [List.length_map] at hi
  have := keysOk_at h (i + 1) hi
  unfold kBad at this
  rw [Bool.or_eq_false_iff] at this
  have h2 := this.2
  rw [show i + 1 - 1 = i by omega, show decide (0 < i + 1) = true from decide_eq_true (by omega), Bool.true_and, strLe_lt] at h2
  rw [kr_getD, kr_getD]
  show strLt (l.getD i zeroKR).key (l.getD (i + 1) zeroKR).key = true
  simpa using h2
theorem report_at {l : List R} (h : reportOkV l = true) : l.length ≤ 4 ∧ ∀ i, i < l.length → badAt l i = false := by
  unfold reportOkV at h
  rw [Bool.and_eq_true, decide_eq_true_eq] at h
  refine ⟨h.1, fun i hi => ?_⟩
  have := List.all_eq_true.1 h.2 i (List.mem_range.2 hi)
  simpa using this
theorem badAt_parts {l : List R} {i : Nat} (h : badAt l i = false) : rowOkV (l.getD i zeroR) = true ∧ quietV (l.getD i zeroR) = false ∧ (0 < i → strLt (l.getD (i - 1) zeroR).key (l.getD i zeroR).key = true) := by
  unfold badAt at h
  simp only [Bool.or_eq_false_iff, Bool.not_eq_false', Bool.and_eq_false_iff, decide_eq_false_iff_not, strLe_lt] at h
  exact ⟨h.1, h.2.1, fun hi => by rcases h.2.2 with k | k; exact absurd hi k; simpa using k⟩
theorem report_asc {l : List R} (h : reportOkV l = true) : Asc l := asc_of fun i hi => by
  have := (badAt_parts ((report_at h).2 (i + 1) hi)).2.2 (by omega)
  rwa [show i + 1 - 1 = i by omega] at this
theorem report_mem {l : List R} (h : reportOkV l = true) : ∀ x ∈ l, rowOkV x = true ∧ quietV x = false := fun x hx => by
  obtain ⟨i, hi, rfl⟩ := List.getElem_of_mem hx
  have := badAt_parts ((report_at h).2 i hi)
  rw [List.getD_eq_getElem?_getD, List.getElem?_eq_getElem hi] at this
  exact ⟨this.1, this.2.1⟩
theorem rowOk_kind {r : R} (h : rowOkV r = true) : r.kind = 1 ∨ r.kind = 2 ∨ r.kind = 3 := by
  unfold rowOkV at h
  by_cases h1 : r.kind = 1
  · exact .inl h1
  · by_cases h2 : r.kind = 2
    · exact .inr (.inl h2)
    · by_cases h3 : r.kind = 3
      · exact .inr (.inr h3)
      · rw [if_neg h1, if_neg h2, if_neg h3] at h; simp at h
theorem report_ok_of {l : List R} (h4 : l.length ≤ 4) (ha : Asc l) (hm : ∀ x ∈ l, rowOkV x = true ∧ quietV x = false) : reportOkV l = true := by
  unfold reportOkV
  rw [decide_eq_true h4, Bool.true_and, List.all_eq_true]
  intro i hi
  have hi := List.mem_range.1 hi
  have hx := hm (l.getD i zeroR) (by rw [List.getD_eq_getElem?_getD, List.getElem?_eq_getElem hi]; exact List.getElem_mem hi)
  unfold badAt
  rw [hx.1, hx.2]
  cases i with
  | zero => rfl
  | succ i =>
    have := List.pairwise_iff_getElem.1 ha i (i + 1) (by omega) hi (by omega)
    have e : ∀ k (hk : k < l.length), l.getD k zeroR = l[k] := fun k hk => by rw [List.getD_eq_getElem?_getD, List.getElem?_eq_getElem hk]; rfl
    simp only [Nat.add_sub_cancel, strLe_lt]
    rw [e (i + 1) hi, e i (by omega), this]
    simp
/-- What the program makes of the rows: struck, appended, sorted, one of each key. -/
theorem rowPut_prog {l : List R} {x : R} (h : reportOkV l = true) (hx : x.kind ≠ 0) : oneV (sortV ((noKey x.key l ++ [x]).filter fun r => !quietV r)) = rowPutV l x := by
  have hm := report_mem h
  have hs : ∀ y ∈ noKey x.key l, y.kind ≠ 0 ∧ quietV y = false := fun y hy => by
    have := hm y (List.mem_filter.1 hy).1
    refine ⟨?_, this.2⟩
    rcases rowOk_kind this.1 with k | k | k <;> omega
  rw [report_sorted _ (fun y hy _ => by
    rcases List.mem_append.1 hy with hy | hy
    · exact (hs y hy).1
    · rw [List.mem_singleton] at hy; rw [hy]; exact hx), List.foldl_append]
  have ha : Asc (noKey x.key l) := List.Pairwise.filter _ (report_asc h)
  have e := foldl_add (acc := []) (l := noKey x.key l) (by simpa using ha) hs
  rw [e, List.nil_append, List.foldl_cons, List.foldl_nil]
  unfold addV rowPutV
  cases q : quietV x with
  | true => simp
  | false => simp [hx]
theorem key_len {l : List R} {x : R} (h : reportOkV l = true) : (noKey x.key l ++ [x]).length ≤ 5 := by
  have := (report_at h).1
  have h2 : (noKey x.key l).length ≤ l.length := List.length_filter_le _ _
  rw [List.length_append, List.length_singleton]; omega
theorem keyPut_prog {l : List KR} (h : keysOkV l = true) (k : KR) : sortV ((l ++ [k]).map kr) = (insK k l).map kr := by
  rw [List.map_append, List.map_cons, List.map_nil, sortV_snoc, sortV_asc (keys_asc h), insK_kr]
theorem rowPut_len (l : List R) (x : R) : (rowPutV l x).length ≤ l.length + 1 := by
  have h2 : (noKey x.key l).length ≤ l.length := List.length_filter_le _ _
  have hi : ∀ l : List R, (insV x l).length = l.length + 1 := by
    intro l
    induction l with
    | nil => rfl
    | cons y l ih => unfold insV; split; rfl; rw [List.length_cons, ih, List.length_cons]
  unfold rowPutV putV
  split
  · omega
  · split
    · omega
    · rw [hi]; omega
theorem regV_len (m : Mo) (o : O) : (regV m o).1.keys.length ≤ m.keys.length + 1 ∧ (regV m o).1.rows = m.rows := by
  unfold regV
  split
  · exact ⟨Nat.le_succ _, rfl⟩
  · split
    · exact ⟨Nat.le_succ _, rfl⟩
    · split
      · exact ⟨Nat.le_succ _, rfl⟩
      · exact ⟨by rw [insK_len]; exact Nat.le_refl _, rfl⟩
theorem recV_len (m : Mo) (o : O) : (recV m o).1.keys = m.keys ∧ (recV m o).1.rows.length ≤ m.rows.length + 1 := by
  unfold recV
  split
  · exact ⟨rfl, Nat.le_succ _⟩
  · exact ⟨rfl, rowPut_len _ _⟩
theorem mDoV_len (m : Mo) (o : O) : (mDoV m o).1.keys.length ≤ m.keys.length + 1 ∧ (mDoV m o).1.rows.length ≤ m.rows.length + 1 ∧ (mDoV m o).2.2.length ≤ m.rows.length := by
  unfold mDoV
  split
  · split
    · have := regV_len m o; exact ⟨this.1, by rw [this.2]; omega, Nat.zero_le _⟩
    · split
      · have := recV_len m o; exact ⟨by rw [this.1]; omega, this.2, Nat.zero_le _⟩
      · exact ⟨Nat.le_succ _, Nat.zero_le _, Nat.le_refl _⟩
  · exact ⟨Nat.le_succ _, Nat.le_succ _, Nat.zero_le _⟩
theorem row_n {r : R} (h : rowOkV r = true) (hk : r.kind = 1 ∨ r.kind = 2) : r.n = 0 := by
  unfold rowOkV at h
  rcases hk with k | k
  · rw [if_pos k, Bool.and_eq_true] at h
    have := h.2; unfold countV at this; simp only [decide_eq_true_eq] at this; exact this.2.2.2.1
  · rw [if_neg (by omega), if_pos k, Bool.and_eq_true] at h
    have := h.2; unfold gaugeRV at this; simp only [decide_eq_true_eq] at this; exact this.2.2.2.1
theorem mFind_or (s : ByteArray) (z : R) (l : List R) : mFindV s z l = z ∧ (∀ x ∈ l, x.key ≠ s) ∨ mFindV s z l ∈ l ∧ (mFindV s z l).key = s := by
  induction l with
  | nil => exact .inl ⟨rfl, fun x hx => by cases hx⟩
  | cons y l ih =>
    by_cases e : y.key = s
    · right; rw [mFindV, if_pos e]; exact ⟨List.mem_cons_self, e⟩
    · rw [mFindV, if_neg e]
      rcases ih with ⟨h1, h2⟩ | ⟨h1, h2⟩
      · exact .inl ⟨h1, fun x hx => by rcases List.mem_cons.1 hx with rfl | hx; exact e; exact h2 x hx⟩
      · exact .inr ⟨List.mem_cons_of_mem _ h1, h2⟩
theorem mKind_or (s : ByteArray) (l : List KR) : mKindV s l = 0 ∧ (∀ x ∈ l, x.key ≠ s) ∨ ∃ x ∈ l, x.key = s ∧ mKindV s l = x.kind := by
  induction l with
  | nil => exact .inl ⟨rfl, fun x hx => by cases hx⟩
  | cons y l ih =>
    by_cases e : y.key = s
    · right; rw [mKindV, if_pos e]; exact ⟨y, List.mem_cons_self, e, rfl⟩
    · rw [mKindV, if_neg e]
      rcases ih with ⟨h1, h2⟩ | ⟨x, h1, h2, h3⟩
      · exact .inl ⟨h1, fun x hx => by rcases List.mem_cons.1 hx with rfl | hx; exact e; exact h2 x hx⟩
      · exact .inr ⟨x, List.mem_cons_of_mem _ h1, h2, h3⟩
end Go.Proofs.YtlnkjpacjbhncaaGreatDoor
/-
  Arguments opened: numbers, texts, rows, operations: each reads as some record whose fields fit their types.
-/
namespace Go.Proofs.YtlnkjpacjbhncaaGreatDoor
open Go.ChangeShapes Go.WideShapes Go.Deep Go.RowKit M
set_option linter.unusedVariables false
section
variable {H : Type} {enc : TypeId × Value → H} {P : Program} {w : World} {base : Nat} {spare : Nat → Bool} {held : Bool} {α : Type} [Inhabited α]
/-- An argument that is a slice: its elements, each read as its type tells. -/
theorem open_elts {t te : TypeId} {F : Nat} (ht : P.underlying t = some (.slice te)) (hC : P.cellsOf te = F) (hF : 0 < F) (z : α) (Rel : List Value → α → Prop)
    (hread : ∀ (fuel : Nat) (cs : List Value) (x : DataW H × List MemPlace), cs.length = F → DataW.trod enc P w base spare held fuel te cs = some x → ∃ r, Rel cs r)
    {fuel : Nat} {c : Value} {x : DataW H × List MemPlace} (h : DataW.trod enc P w base spare held fuel t [c] = some x) :
    ∃ (l : List α) (A : Option Addr) (cap : Nat), c = .slice A l.length cap ∧ l.length ≤ cap ∧ cap ≤ maxLen ∧ (0 < l.length → ∃ b off, A = some ⟨b, off, none⟩ ∧ b < w.heap.size ∧ ∀ j, j < l.length → ∃ cs, cs.length = F ∧ (∀ k, k < F → w.cell? ⟨b, off + j * F + k, none⟩ = cs[k]?) ∧ Rel cs (l.getD j z)) := by
  rcases open_slice ht h with ⟨hcs, _⟩ | ⟨a, len, cap, m, n, D, Pl, hcs, _, hl, hm, hmm, _, hi⟩
  · simp at hcs
    subst hcs
    exact ⟨[], none, 0, rfl, Nat.le_refl _, Nat.zero_le _, fun h => absurd h (Nat.lt_irrefl _)⟩
  · simp at hcs
    subst hcs
    have hle : len ≤ m := by rw [hmm]; split <;> omega
    rw [hC] at hi
    have hr : ∀ i, i < len → ∃ r : α, ∃ cs : List Value, cs.length = F ∧ (∀ k, k < F → w.cell? ((a.add (i * F)).add k) = cs[k]?) ∧ Rel cs r := fun i him => by
      obtain ⟨cs', hc, ht⟩ := hi i (by omega)
      obtain ⟨_, hcl, hat⟩ := World.cells?_some hc
      obtain ⟨r, hr⟩ := hread _ _ _ hcl ht
      exact ⟨r, cs', hcl, fun k hk => hat k hk, hr⟩
    obtain ⟨f, hf⟩ := choose_lt hr
    have hg : ∀ j, j < len → ((List.range len).map f).getD j z = f j := fun j hj => by simp [List.getD_eq_getElem?_getD, hj]
    have hlen : ((List.range len).map f).length = len := by simp
    refine ⟨(List.range len).map f, some a, cap, by rw [hlen], by rw [hlen]; exact hl, hm, fun hp => ?_⟩
    rw [hlen] at hp ⊢
    obtain ⟨b, off, spot⟩ := a
    obtain ⟨cs0, hl0, hc0, _⟩ := hf 0 hp
    have h0 := hc0 0 hF
    rw [List.getElem?_eq_getElem (by omega : 0 < cs0.length)] at h0
    have hspot : spot = none := by simpa [Addr.add] using World.cell?_spot h0
    subst hspot
    refine ⟨b, off, rfl, by simpa [Addr.add] using World.block_lt_of_cell? w _ h0, fun j hj => ?_⟩
    obtain ⟨cs, hcl, hc, hrel⟩ := hf j hj
    refine ⟨cs, hcl, fun k hk => ?_, by rw [hg j hj]; exact hrel⟩
    rw [← hc k hk, add_add]
    congr 1
    unfold Addr.add
    split
    · simp_all
    · simp [Nat.add_assoc]
/-- The reading of a struct gives the reading of each of its fields. -/
theorem field_readN {fs : Array Field} {cs : List Value} {xs : List (DataW H × List MemPlace)} {n : Nat}
    (hg : ∀ (i : Nat) (f : Field), fs[i]? = some f → DataW.trod enc P w base spare held n f.type ((cs.drop f.offset).take (P.cellsOf f.type)) = xs[i]?)
    {i : Nat} {f : Field} (hf : fs[i]? = some f) (hx : i < xs.length) {k m : Nat} (ho : f.offset = k) (hm : P.cellsOf f.type = m) : ∃ y, DataW.trod enc P w base spare held n f.type ((cs.drop k).take m) = some y := by
  have h := hg i f hf
  rw [ho, hm, List.getElem?_eq_getElem hx] at h
  exact ⟨_, h⟩
end
section
variable {H : Type} {enc : TypeId × Value → H} {w : World} {base : Nat} {spare : Nat → Bool} {held : Bool} {fuel : Nat} {x : DataW H × List MemPlace} {c : Value}
set_option maxRecDepth 100000 in
theorem rd_bool (h : DataW.trod enc Tryz.prog w base spare held fuel 4 [c] = some x) : ∃ b, c = .bool b := by
  obtain ⟨b, e, _⟩ := DataW.trod_bool Tryz.underlying4 h
  exact ⟨b, by simpa using e⟩
set_option maxRecDepth 100000 in
theorem rd_int (h : DataW.trod enc Tryz.prog w base spare held fuel 3 [c] = some x) : ∃ z, inW z ∧ c = .int .i64 z := by
  obtain ⟨z, e, _, f⟩ := DataW.trod_int Tryz.underlying3 h
  exact ⟨z, fit_of f, by simpa using e⟩
set_option maxRecDepth 100000 in
theorem rd_str (h : DataW.trod enc Tryz.prog w base spare held fuel 9 [c] = some x) : ∃ s : ByteArray, s.size ≤ maxLen ∧ c = .string s := by
  obtain ⟨s, e, _, f⟩ := DataW.trod_string Tryz.underlying9 h
  exact ⟨s, f, by simpa using e⟩
set_option maxRecDepth 100000 in
theorem rd_ints (h : DataW.trod enc Tryz.prog w base spare held fuel 22 [c] = some x) : ∃ zs, IntsArg w c zs ∧ Fit zs := by
  obtain ⟨l, A, cap, rfl, h1, h2, h3⟩ := open_elts (F := 1) Tryz.underlying22 (by kernel_rfl) (by decide) (0 : Int) (fun cs z => cs = [.int .i64 z] ∧ inW z) (fun fuel cs x hl ht => by
    match cs, hl with
    | [c0], _ => obtain ⟨z, h1, rfl⟩ := rd_int ht; exact ⟨z, rfl, h1⟩) h
  have hfit : ∀ j, j < l.length → inW (l.getD j 0) := fun j hj => by
    obtain ⟨b, off, _, _, h5⟩ := h3 (by omega)
    obtain ⟨cs, _, _, _, hw⟩ := h5 j hj
    exact hw
  refine ⟨l, ⟨A, cap, rfl, h1, h2, fun hp => ?_⟩, fun z hz => ?_⟩
  · obtain ⟨b, off, ea, h4, h5⟩ := h3 hp
    refine ⟨b, off, ea, h4, fun j hj => ?_⟩
    obtain ⟨cs, _, hc, rfl, _⟩ := h5 j hj
    have := hc 0 (by decide)
    rwa [Nat.mul_one, Nat.add_zero] at this
  · obtain ⟨j, hj, e⟩ := List.getElem_of_mem hz
    have := hfit j hj
    rw [List.getD_eq_getElem?_getD, List.getElem?_eq_getElem hj, Option.getD_some, e] at this
    exact this
instance : Inhabited O := ⟨zeroO⟩
def FitOs (l : List O) : Prop := ∀ i, i < l.length → (l.getD i zeroO).Fit
end
section
variable {H : Type} {enc : TypeId × Value → H} {w : World} {base : Nat} {spare : Nat → Bool} {held : Bool} {r : Reach} {b0 : Nat} {v : Value} {d : DataW H} {p : List MemPlace}
end
end Go.Proofs.YtlnkjpacjbhncaaGreatDoor
/-
  Rows that lie in blocks of their own: apart from one another; what a mark on one leaves of another.
-/
namespace Go.Proofs.YtlnkjpacjbhncaaGreatDoor
open Go.RowKit M
set_option linter.unusedVariables false
theorem OwnI.lt {w : World} {b : Nat} {v : Value} {l : List Int} (h : OwnI w b v l) : ∀ k, v.ownBlock = some k → k < w.heap.size := fun k hk => (World.ownsRow.lt h.1 k hk).2
theorem OwnT.lt {w : World} {b : Nat} {v : Value} {l : List ByteArray} (h : OwnT w b v l) : ∀ k, v.ownBlock = some k → k < w.heap.size := fun k hk => (World.ownsRow.lt h k hk).2
theorem OwnR.lt {w : World} {b : Nat} {v : Value} {l : List R} (h : OwnR w b v l) : ∀ k, v.ownBlock = some k → k < w.heap.size := fun k hk => (World.ownsRow.lt h k hk).2
theorem OwnI.keptA {w w' : World} {base : Nat} {v u : Value} {zs : List Int} (h : OwnI w base v zs) (hg : w.grownBy w' u.ownBlock) (ha : Ap v u) : OwnI w' base v zs := by
  obtain ⟨g, hgv, _⟩ := h.block
  rcases ha with h' | h'
  · rw [hgv] at h'; cases h'
  · exact h.kept hg h'
theorem OwnT.keptA {w w' : World} {base : Nat} {v u : Value} {l : List ByteArray} (h : OwnT w base v l) (hg : w.grownBy w' u.ownBlock) (ha : Ap v u) : OwnT w' base v l := h.kept hg ha
theorem OwnR.keptA {w w' : World} {base : Nat} {v u : Value} {l : List R} (h : OwnR w base v l) (hg : w.grownBy w' u.ownBlock) (ha : Ap v u) : OwnR w' base v l := h.kept hg ha
end Go.Proofs.YtlnkjpacjbhncaaGreatDoor
/-
  A row in a block of the call's own: what one store into a field makes of it, with all else that is known of the world carried along.
-/
namespace Go.Proofs.YtlnkjpacjbhncaaGreatDoor
open Go.RowKit M
set_option linter.unusedVariables false
theorem RowAt.store {w : World} {g : Nat} {r : R} (h : RowAt w g r) (i : Nat) (v : Value) (r' : R) (e : (rowCells r).setIfInBounds i v = rowCells r') : RowAt (w.setCell ⟨g, i, none⟩ v) g r' := by
  unfold RowAt
  rw [← e]
  exact heap_setCell_same w g i _ _ v h
theorem RowAt.far {w : World} {g : Nat} {r : R} (h : RowAt w g r) (k i : Nat) (v : Value) (hk : g ≠ k) : RowAt (w.setCell ⟨k, i, none⟩ v) g r :=
  (heap_setCell_other w ⟨k, i, none⟩ g v hk).trans h
/-- The walk stands behind a store into field i of the row in block g; block o holds another row. -/
theorem wp_row {C : Go.Code} {Q : Exit → Act → World → Prop} {a : Act} {w0 w : World} {B g o : Nat} {r z : R} {i : Nat} {v : Value} (r' : R) (hx : RowAt w g r) (hz : RowAt w o z) (hb : Below B w0 w) (hg : B ≤ g) (ho : o ≠ g)
    (e : (rowCells r).setIfInBounds i v = rowCells r') (k : ∀ w', RowAt w' g r' → RowAt w' o z → Below B w0 w' → Code.wp Tryz.prog C Q a w') : Code.wp Tryz.prog C Q a (w.setCell ⟨g, i, none⟩ v) :=
  k _ (hx.store i v r' e) (hz.far g i v ho) (hb.setCell hg v)
/-- The row that ten stores lay into a block. -/
theorem RowAt.all {w : World} {g : Nat} {z : R} (h : RowAt w g z) (r : R) :
    RowAt ((((((((((w.setCell ⟨g, 0, none⟩ (.string r.key)).setCell ⟨g, 1, none⟩ (.int .i64 r.kind)).setCell ⟨g, 2, none⟩ (.int .i64 r.sum)).setCell ⟨g, 3, none⟩ (.bool r.set)).setCell ⟨g, 4, none⟩ (.int .i64 r.last)).setCell ⟨g, 5, none⟩ (.int .i64 r.n)).setCell ⟨g, 6, none⟩ (.int .i64 r.mn)).setCell ⟨g, 7, none⟩ (.int .i64 r.mx)).setCell ⟨g, 8, none⟩ (.int .i64 r.total)).setCell ⟨g, 9, none⟩ (.int .i64 r.dropped)) g r := by
  obtain ⟨key, kind, sum, st, last, n, mn, mx, total, dropped⟩ := r
  obtain ⟨zkey, zkind, zsum, zst, zlast, zn, zmn, zmx, ztotal, zdropped⟩ := z
  exact (((((((((h.store 0 _ ⟨key, zkind, zsum, zst, zlast, zn, zmn, zmx, ztotal, zdropped⟩ rfl).store 1 _ ⟨key, kind, zsum, zst, zlast, zn, zmn, zmx, ztotal, zdropped⟩ rfl).store 2 _ ⟨key, kind, sum, zst, zlast, zn, zmn, zmx, ztotal, zdropped⟩ rfl).store 3 _ ⟨key, kind, sum, st, zlast, zn, zmn, zmx, ztotal, zdropped⟩ rfl).store 4 _ ⟨key, kind, sum, st, last, zn, zmn, zmx, ztotal, zdropped⟩ rfl).store 5 _ ⟨key, kind, sum, st, last, n, zmn, zmx, ztotal, zdropped⟩ rfl).store 6 _ ⟨key, kind, sum, st, last, n, mn, zmx, ztotal, zdropped⟩ rfl).store 7 _ ⟨key, kind, sum, st, last, n, mn, mx, ztotal, zdropped⟩ rfl).store 8 _ ⟨key, kind, sum, st, last, n, mn, mx, total, zdropped⟩ rfl).store 9 _ ⟨key, kind, sum, st, last, n, mn, mx, total, dropped⟩ rfl
end Go.Proofs.YtlnkjpacjbhncaaGreatDoor
/-
  Chapter 5, the program's functions: each answers what the plain words say. They turn nothing that was there.
-/
namespace Go.Proofs.YtlnkjpacjbhncaaGreatDoor
open Go.RowKit M
set_option linter.unusedVariables false
theorem isKind_yes (k : Int) (w : World) (h0 : 1 ≤ k) (h1 : k ≤ 3) : Calls Tryz.prog 60 #[.int .i64 k] w (Same w (.bool true)) := by
  go_enter Tryz.func60, Tryz.ntmps60
  go_wp2
  go_ret
  exact ⟨rfl, rfl⟩
theorem isKind_no (k : Int) (w : World) (h : ¬ (1 ≤ k ∧ k ≤ 3)) : Calls Tryz.prog 60 #[.int .i64 k] w (Same w (.bool false)) := by
  by_cases h0 : 1 ≤ k
  · have h1 : decide (k ≤ 3) = false := by rw [decide_eq_false]; omega
    go_enter Tryz.func60, Tryz.ntmps60
    go_wp2
    go_ret
    exact ⟨rfl, rfl⟩
  · have h1 : decide (1 ≤ k) = false := by rw [decide_eq_false]; omega
    go_enter Tryz.func60, Tryz.ntmps60
    go_wp2
    go_ret
    exact ⟨rfl, rfl⟩
theorem isValue_yes (k : Int) (w : World) (h0 : 0 ≤ k) (h1 : k ≤ 65535) : Calls Tryz.prog 122 #[.int .i64 k] w (Same w (.bool true)) := by
  go_enter Tryz.func122, Tryz.ntmps122
  go_wp2
  go_ret
  exact ⟨rfl, rfl⟩
theorem isValue_no (k : Int) (w : World) (h : ¬ (0 ≤ k ∧ k ≤ 65535)) : Calls Tryz.prog 122 #[.int .i64 k] w (Same w (.bool false)) := by
  by_cases h0 : 0 ≤ k
  · have h1 : decide (k ≤ 65535) = false := by rw [decide_eq_false]; omega
    go_enter Tryz.func122, Tryz.ntmps122
    go_wp2
    go_ret
    exact ⟨rfl, rfl⟩
  · have h1 : decide (0 ≤ k) = false := by rw [decide_eq_false]; omega
    go_enter Tryz.func122, Tryz.ntmps122
    go_wp2
    go_ret
    exact ⟨rfl, rfl⟩
theorem isStamp_yes (k : Int) (w : World) (h0 : 1 ≤ k) (h1 : k ≤ 65535) : Calls Tryz.prog 106 #[.int .i64 k] w (Same w (.bool true)) := by
  go_enter Tryz.func106, Tryz.ntmps106
  go_wp2
  go_ret
  exact ⟨rfl, rfl⟩
theorem isStamp_no (k : Int) (w : World) (h : ¬ (1 ≤ k ∧ k ≤ 65535)) : Calls Tryz.prog 106 #[.int .i64 k] w (Same w (.bool false)) := by
  by_cases h0 : 1 ≤ k
  · have h1 : decide (k ≤ 65535) = false := by rw [decide_eq_false]; omega
    go_enter Tryz.func106, Tryz.ntmps106
    go_wp2
    go_ret
    exact ⟨rfl, rfl⟩
  · have h1 : decide (1 ≤ k) = false := by rw [decide_eq_false]; omega
    go_enter Tryz.func106, Tryz.ntmps106
    go_wp2
    go_ret
    exact ⟨rfl, rfl⟩
theorem iUnpackGauge_same (w : World) (n : Int) (h0 : -9223372036854775808 ≤ n) (h1 : n ≤ 9223372036854775807) :
    Calls Tryz.prog 84 #[.int .i64 n] w (Same w (.tuple #[.int .i64 (ungA n), .int .i64 (ungV n)])) := by
  by_cases hn : 0 ≤ n
  · by_cases h : 65536 ≤ n ∧ n ≤ 4294967295
    · have E := Lib.hid (show ungA n = n / 65536 from if_pos h)
      have E2 := Lib.hid (show ungV n = n % 65536 from if_pos h)
      have d1 : 1 ≤ n / 65536 := by omega
      have d2 : n / 65536 ≤ 65535 := by omega
      go_enter Tryz.func84, Tryz.ntmps84
      go_wp2_with (go_at_call 106; refine (isStamp_yes _ _ d1 d2).mono ?_; rintro e w' ⟨rfl, rfl⟩)
      go_ret2
      exact ⟨ret_ii E.out.symm E2.out.symm, rfl⟩
    · have E := Lib.hid (show ungA n = 0 from if_neg h)
      have E2 := Lib.hid (show ungV n = 0 from if_neg h)
      have d : ¬ (1 ≤ n / 65536 ∧ n / 65536 ≤ 65535) := by omega
      go_enter Tryz.func84, Tryz.ntmps84
      go_wp2_with (go_at_call 106; refine (isStamp_no _ _ d).mono ?_; rintro e w' ⟨rfl, rfl⟩)
      go_ret2
      exact ⟨ret_ii E.out.symm E2.out.symm, rfl⟩
  · have E := Lib.hid (show ungA n = 0 from if_neg (by omega))
    have E2 := Lib.hid (show ungV n = 0 from if_neg (by omega))
    have hq : n.tdiv 65536 ≤ 0 := by
      have := Int.tdiv_nonneg (a := -n) (b := 65536) (by omega) (by omega)
      rw [Int.neg_tdiv] at this; omega
    have d : ¬ (1 ≤ n.tdiv 65536 ∧ n.tdiv 65536 ≤ 65535) := by omega
    clear hq
    go_enter Tryz.func84, Tryz.ntmps84
    go_wp2_with (go_at_call 106; refine (isStamp_no _ _ d).mono ?_; rintro e w' ⟨rfl, rfl⟩)
    go_ret2
    exact ⟨ret_ii E.out.symm E2.out.symm, rfl⟩
theorem iUnpackGauge_any (w : World) (n : Int) (h0 : -9223372036854775808 ≤ n) (h1 : n ≤ 9223372036854775807) : Calls Tryz.prog 84 #[.int .i64 n] w (Gives (.tuple #[.int .i64 (ungA n), .int .i64 (ungV n)]) w) := same_gives (iUnpackGauge_same w n h0 h1)
end Go.Proofs.YtlnkjpacjbhncaaGreatDoor
/-
  Chapter 6, the model's functions: each answers what the plain words say. They turn nothing that was there.
-/
namespace Go.Proofs.YtlnkjpacjbhncaaGreatDoor
open Go.RowKit M
set_option linter.unusedVariables false
theorem key_ne {key : ByteArray} (h : keyOkV key = true) : key ≠ ⟨#[]⟩ := fun e => by subst e; exact absurd h (by decide)
theorem cellK_at {w : World} {b off : Nat} {zs : List Int} {s : Int} (h4 : ∀ j, j < zs.length → w.cell? ⟨b, off + j, none⟩ = some (.int .i64 (zs.getD j 0))) (hl : zs.length = 71) (h0 : 0 ≤ s) (h3 : s ≤ 3) : w.cell? ⟨b, off + (3 + s).toNat, none⟩ = some (.int .i64 (cellK zs s)) :=
  h4 _ (by omega)
/-- Three numbers. -/
def find3 (r : Int × Int × Int) : Value := .tuple #[.int .i64 r.1, .int .i64 r.2.1, .int .i64 r.2.2]
theorem ret_find {a b c : Int} {r : Int × Int × Int} (h : r = (a, b, c)) : Ending.returned (.tuple #[.int .i64 a, .int .i64 b, .int .i64 c]) = .returned (find3 r) := by subst h; rfl
set_option maxRecDepth 100000 in
set_option maxHeartbeats 1600000 in
theorem sFind_any (w : World) (v : Value) (zs : List Int) (key : ByteArray) (hz : Ints w v zs) (hc : okC zs = true) (hk : keyOkV key = true) :
    Calls Tryz.prog 31 #[v, .string key] w (Gives (find3 (findV zs key)) w) := by
  have hks : key.size ≤ maxLen := by have := (keyOkV_iff.1 hk).1; unfold maxLen; omega
  have hl := okC_len hc
  have HZ := Lib.hid hz
  have HC := Lib.hid hc
  have HK := Lib.hid hk
  have HKN := Lib.hid (key_ne hk)
  obtain ⟨b, off, cap, rfl, hcl, hcm, _, _⟩ := hz
  rw [hl] at *
  clear hc hk
  go_enter Tryz.func31, Tryz.ntmps31
  go_wp2
  go_loopw [7] (fun x wr => ∃ n : Nat, n ≤ 4 ∧ x = .int .i64 n ∧ (∀ m : Nat, m < n → stepF zs key m = none) ∧ Below w.heap.size w wr) (fun x _ => 4 - (intOf x).toNat)
  case atStart => exact ⟨0, Nat.zero_le _, rfl, fun m hm => absurd hm (Nat.not_lt_zero _), Below.refl _ _⟩
  case round =>
    obtain ⟨n, hn, rfl, hd, hb⟩ := hrel
    have HD := Lib.hid hd
    have HB := Lib.hid hb
    clear hd hb
    by_cases hlt : n < 4
    · obtain ⟨p0, p3⟩ := probe_bd HK.out hlt
      have HP := Lib.hid (sProbe_any wr key n hks)
      have HKC := Lib.hid (sKey_any (probeV key n) wr)
      rw [keyV_yes ⟨p0, p3⟩] at HKC
      have hcell : ∀ W, Below w.heap.size w W → W.cell? ⟨b, off + (3 + probeV key n).toNat, none⟩ = some (.int .i64 (cellK zs (probeV key n))) := fun W hW => by
        obtain ⟨b', off', cap', e, _, _, _, h4⟩ := HZ.out.below hW
        injection e with e1 _ _
        injection e1 with e1
        injection e1 with e1 e2 _
        subst e1; subst e2
        exact cellK_at h4 (okC_len HC.out) p0 p3
      have hcr := hcell wr HB.out
      have hp71 : 3 + probeV key n < 71 := by omega
      have HS := Lib.hid (show stepF zs key n = if cellK zs (probeV key n) = 0 then some (-1, 0, probeV key n) else match untagV (cellK zs (probeV key n)) with | some (k, kd) => if k = key then some (probeV key n, kd, -1) else none | none => none from rfl)
      by_cases hx : cellK zs (probeV key n) = 0
      · have HF := Lib.hid (findV_at hlt HD.out (HS.out.trans (if_pos hx)))
        rw [hx] at hcr
        clear hcell hx HS
        generalize probeV key n = p at *
        go_wp2_with (first | (go_at_call 52; refine HP.out.mono ?_; rintro e w' ⟨rfl, rfl⟩) | (go_at_call 14; refine HKC.out.mono ?_; rintro e w' ⟨rfl, rfl⟩))
        go_ret3
        exact ⟨ret_find HF.out, HB.out⟩
      · have hxne : (cellK zs (probeV key n) == 0) = false := by rw [beq_eq_false_iff_ne]; exact hx
        have HU := Lib.hid (sUntag_any wr (cellK zs (probeV key n)))
        have HS2 := Lib.hid (HS.out.trans (if_neg hx))
        clear HS hx hcell
        cases hu : untagV (cellK zs (probeV key n)) with
        | none =>
          rw [hu] at HS2
          rw [hu, untT_none] at HU
          have HN := Lib.hid (none_next HD.out HS2.out)
          have hkn := txt_ne (Ne.symm HKN.out)
          have hkn2 := txt_full HKN.out
          clear hu HS2
          generalize cellK zs (probeV key n) = x at *
          generalize probeV key n = p at *
          go_wp2_with (first | (go_at_call 52; refine HP.out.mono ?_; rintro e w' ⟨rfl, rfl⟩) | (go_at_call 14; refine HKC.out.mono ?_; rintro e w' ⟨rfl, rfl⟩) | (go_at_call 13; refine HU.out.mono ?_; rintro e w2 ⟨rfl, hb2⟩))
          go_roundw
          case rel => exact ⟨n + 1, by omega, by go_num, HN.out, HB.out.trans (hb2.mono HB.out.size)⟩
          case measure => simp [intOf]; omega
        | some u =>
          obtain ⟨k, kd⟩ := u
          rw [hu] at HS2
          rw [hu, untT_some] at HU
          by_cases he : k = key
          · have HF := Lib.hid (findV_at hlt HD.out (HS2.out.trans (if_pos he)))
            subst he
            clear hu HS2
            generalize cellK zs (probeV k n) = x at *
            generalize probeV k n = p at *
            go_wp2_with (first | (go_at_call 52; refine HP.out.mono ?_; rintro e w' ⟨rfl, rfl⟩) | (go_at_call 14; refine HKC.out.mono ?_; rintro e w' ⟨rfl, rfl⟩) | (go_at_call 13; refine HU.out.mono ?_; rintro e w2 ⟨rfl, hb2⟩))
            go_ret3
            exact ⟨ret_find HF.out, HB.out.trans (hb2.mono HB.out.size)⟩
          · have HN := Lib.hid (none_next HD.out (HS2.out.trans (if_neg he)))
            have hkn := txt_ne he
            clear hu HS2 he
            generalize cellK zs (probeV key n) = x at *
            generalize probeV key n = p at *
            go_wp2_with (first | (go_at_call 52; refine HP.out.mono ?_; rintro e w' ⟨rfl, rfl⟩) | (go_at_call 14; refine HKC.out.mono ?_; rintro e w' ⟨rfl, rfl⟩) | (go_at_call 13; refine HU.out.mono ?_; rintro e w2 ⟨rfl, hb2⟩))
            go_roundw
            case rel => exact ⟨n + 1, by omega, by go_num, HN.out, HB.out.trans (hb2.mono HB.out.size)⟩
            case measure => simp [intOf]; omega
    · have hge : decide ((n : Int) < 4) = false := by simp; omega
      have HF := Lib.hid (findV_none (fun m hm => HD.out m (by omega)))
      go_wp2
      go_ret3
      exact ⟨ret_find HF.out, HB.out⟩
set_option maxRecDepth 100000 in
set_option maxHeartbeats 1600000 in
theorem sTableOk_any (w : World) (v : Value) (zs : List Int) (hz : Ints w v zs) : Calls Tryz.prog 12 #[v] w (Gives (.bool (tableV zs)) w) := by
  have HC := Lib.hid (sOk_any w v zs hz)
  have HZ := Lib.hid hz
  cases hc : okC zs with
  | false =>
    obtain ⟨b, off, cap, rfl, _, _, _, _⟩ := hz
    have E := Lib.hid (tableV_cells hc)
    rw [hc] at HC
    clear hc
    go_enter Tryz.func12, Tryz.ntmps12
    go_wp2_with (go_at_call 30; refine HC.out.mono ?_; rintro e w' ⟨rfl, rfl⟩)
    go_ret
    exact ⟨ret_bool E.out.symm, Below.refl _ _⟩
  | true =>
    have hl := okC_len hc
    have HCC := Lib.hid hc
    rw [hc] at HC
    obtain ⟨b, off, cap, rfl, hcl, hcm, _, _⟩ := hz
    rw [hl] at *
    clear hc
    go_enter Tryz.func12, Tryz.ntmps12
    go_wp2_with (go_at_call 30; refine HC.out.mono ?_; rintro e w' ⟨rfl, rfl⟩)
    go_loopw [3] (fun x wr => ∃ s : Nat, s ≤ 4 ∧ x = .int .i64 s ∧ (∀ m : Nat, m < s → slotR zs m = true) ∧ Below w.heap.size w wr) (fun x _ => 4 - (intOf x).toNat)
    case atStart => exact ⟨0, Nat.zero_le _, rfl, fun m hm => absurd hm (Nat.not_lt_zero _), Below.refl _ _⟩
    case round =>
      obtain ⟨s, hs, rfl, hd, hb⟩ := hrel
      have HD := Lib.hid hd
      have HB := Lib.hid hb
      clear hd hb
      by_cases hlt : s < 4
      · have hnext : slotR zs s = true → ∀ m : Nat, m < s + 1 → slotR zs m = true := fun h m hm => by
          by_cases e : m = s
          · subst e; exact h
          · exact HD.out m (by omega)
        have HNX := Lib.hid hnext
        have HNO := Lib.hid (fun h => tableV_no (zs := zs) hlt h)
        have HKC := Lib.hid (sKey_any (s : Int) wr)
        rw [keyV_yes ⟨by omega, by omega⟩] at HKC
        have hp71 : 3 + (s : Int) < 71 := by omega
        have hcr : wr.cell? ⟨b, off + (3 + (s : Int)).toNat, none⟩ = some (.int .i64 (cellK zs s)) := by
          obtain ⟨b', off', cap', e, _, _, _, h4⟩ := HZ.out.below HB.out
          injection e with e1 _ _
          injection e1 with e1
          injection e1 with e1 e2 _
          subst e1; subst e2
          exact cellK_at h4 (okC_len HCC.out) (by omega) (by omega)
        rw [show (3 + (s : Int)).toNat = 3 + s by omega] at hcr
        clear hnext
        by_cases hx : cellK zs s = 0
        · have HN := Lib.hid (HNX.out (slotR_free hx))
          rw [hx] at hcr
          clear hx
          go_wp2_with (go_at_call 14; refine HKC.out.mono ?_; rintro e w' ⟨rfl, rfl⟩)
          go_roundw
          case rel => exact ⟨s + 1, by omega, by go_num, HN.out, HB.out⟩
          case measure => simp [intOf]; omega
        · have hxne : (cellK zs s == 0) = false := by rw [beq_eq_false_iff_ne]; exact hx
          have HU := Lib.hid (sUntag_any wr (cellK zs s))
          cases hu : untagV (cellK zs s) with
          | none =>
            have HN := Lib.hid (HNO.out (slotR_none hx hu))
            rw [hu, untT_none] at HU
            clear hu hx
            generalize cellK zs s = x at *
            go_wp2_with (first | (go_at_call 14; refine HKC.out.mono ?_; rintro e w' ⟨rfl, rfl⟩) | (go_at_call 13; refine HU.out.mono ?_; rintro e w2 ⟨rfl, hb2⟩))
            go_ret
            exact ⟨ret_bool HN.out.symm, HB.out.trans (hb2.mono HB.out.size)⟩
          | some u =>
            obtain ⟨k, kd⟩ := u
            obtain ⟨_, hkk, hk1, hk3⟩ := tag_untag hu
            have HF := fun W hW => Lib.hid (sFind_any W _ zs k (HZ.out.below hW) HCC.out hkk)
            have hkd : (kd == 0) = false := by rw [beq_eq_false_iff_ne]; omega
            have hSR := slotR_some hx hu
            rw [hu, untT_some] at HU
            unfold find3 at HF
            obtain ⟨⟨r0, r1⟩, _⟩ := findV_bd (zs := zs) hkk
            generalize hr : findV zs k = r at *
            by_cases he : r.1 = (s : Int)
            · have HN := Lib.hid (HNX.out (hSR.trans (by rw [decide_eq_true]; exact he)))
              have hee : (r.1 != (s : Int)) = false := by rw [he]; simp
              clear hu hx hSR hr he
              generalize cellK zs s = x at *
              go_wp2_with (first | (go_at_call 14; refine HKC.out.mono ?_; rintro e w' ⟨rfl, rfl⟩) | (go_at_call 13; refine HU.out.mono ?_; rintro e w2 ⟨rfl, hb2⟩))
              have HB2 := Lib.hid (HB.out.trans (hb2.mono HB.out.size))
              refine (HF w2 HB2.out).out.mono ?_
              rintro e w3 ⟨rfl, hb3⟩
              go_wp2_with fail
              go_roundw
              case rel => exact ⟨s + 1, by omega, by go_num, HN.out, HB2.out.trans (hb3.mono HB2.out.size)⟩
              case measure => simp [intOf]; omega
            · have HN := Lib.hid (HNO.out (hSR.trans (by rw [decide_eq_false]; exact he)))
              have hee : (r.1 != (s : Int)) = true := by rw [bne_iff_ne]; exact he
              clear hu hx hSR hr he
              generalize cellK zs s = x at *
              go_wp2_with (first | (go_at_call 14; refine HKC.out.mono ?_; rintro e w' ⟨rfl, rfl⟩) | (go_at_call 13; refine HU.out.mono ?_; rintro e w2 ⟨rfl, hb2⟩))
              have HB2 := Lib.hid (HB.out.trans (hb2.mono HB.out.size))
              refine (HF w2 HB2.out).out.mono ?_
              rintro e w3 ⟨rfl, hb3⟩
              go_wp2_with fail
              go_ret
              exact ⟨ret_bool HN.out.symm, HB2.out.trans (hb3.mono HB2.out.size)⟩
      · have hge : decide ((s : Int) < 4) = false := by simp; omega
        have HN := Lib.hid (tableV_all HCC.out (fun m hm => HD.out m (by omega)))
        go_wp2
        go_ret
        exact ⟨ret_bool HN.out.symm, HB.out⟩
end Go.Proofs.YtlnkjpacjbhncaaGreatDoor
/-
  Chapter 8, the model's ClearBuf and BufClear: each answers what the plain words say. They turn nothing that was there.
-/
namespace Go.Proofs.YtlnkjpacjbhncaaGreatDoor
open Go.RowKit M
set_option linter.unusedVariables false
set_option linter.unusedSimpArgs false
theorem bufOk_iff {b : Int} : bufOk b = true ↔ 0 ≤ b ∧ b ≤ 1 := by simp [bufOk]
theorem slotOk_iff {b : Int} : slotOk b = true ↔ 0 ≤ b ∧ b ≤ 3 := by simp [slotOk]
theorem bufOk_no {b : Int} (h : bufOk b = false) : ¬ (0 ≤ b ∧ b ≤ 1) := by simpa [bufOk] using h
theorem slotOk_no {b : Int} (h : slotOk b = false) : ¬ (0 ≤ b ∧ b ≤ 3) := by simpa [slotOk] using h
theorem okC_fit {zs : List Int} (h : okC zs = true) : Fit zs := by
  intro z hz
  simp only [okC, Bool.and_eq_true, List.all_eq_true] at h
  have := isW_iff.1 (h.2 z hz)
  omega
theorem clearT_zero (a : List Int) (b : Int) : clearT a b 0 = a := rfl
theorem clearT_succ (a : List Int) (b : Int) (n : Nat) : clearT a b (n + 1) = (clearT a b n).set (7 + b * 32 + n).toNat 0 := by
  unfold clearT; rw [List.range_succ, List.foldl_append]; rfl
theorem clearT_len (a : List Int) (b : Int) (n : Nat) : (clearT a b n).length = a.length := by
  induction n with
  | zero => rfl
  | succ n ih => rw [clearT_succ, List.length_set, ih]
theorem clearV_len (a : List Int) (b : Int) : (clearV a b).length = a.length := by unfold clearV; split; exact clearT_len _ _ _; rfl
theorem clearV_no {a : List Int} {b : Int} (h : ¬ (okC a = true ∧ bufOk b = true)) : clearV a b = a := if_neg h
theorem list_getD_ext {x y : List Int} (hl : x.length = y.length) (h : ∀ j, j < x.length → x.getD j 0 = y.getD j 0) : x = y := by
  apply List.ext_getElem hl
  intro j h1 h2
  have := h j h1
  rw [List.getD_eq_getElem?_getD, List.getD_eq_getElem?_getD, List.getElem?_eq_getElem h1, List.getElem?_eq_getElem h2] at this
  exact this
theorem getD_setZ (zs : List Int) (i j : Nat) (h : i ≠ j) (z : Int) : (zs.set i z).getD j 0 = zs.getD j 0 := by
  rw [List.getD_eq_getElem?_getD, List.getElem?_set_ne h, List.getD_eq_getElem?_getD]
theorem getD_setZ0 (zs : List Int) (i : Nat) : (zs.set i 0).getD i 0 = 0 := by
  rw [List.getD_eq_getElem?_getD]
  by_cases h : i < zs.length
  · rw [List.getElem?_set_self h]; rfl
  · rw [List.getElem?_eq_none (by rw [List.length_set]; omega)]; rfl
/-- What clearing the first n cells of a buffer leaves. -/
theorem clearT_get {a : List Int} {b : Int} (hb : 0 ≤ b ∧ b ≤ 1) (n : Nat) (hn : n ≤ 32) (j : Nat) :
    (clearT a b n).getD j 0 = if 7 + b * 32 ≤ (j : Int) ∧ (j : Int) < 7 + b * 32 + n then 0 else a.getD j 0 := by
  induction n with
  | zero => rw [clearT_zero, if_neg (by omega)]
  | succ n ih =>
    rw [clearT_succ]
    by_cases e : (7 + b * 32 + (n : Int)).toNat = j
    · rw [← e, getD_setZ0, if_pos (by omega)]
    · rw [getD_setZ _ _ _ e, ih (by omega)]
      by_cases hin : 7 + b * 32 ≤ (j : Int) ∧ (j : Int) < 7 + b * 32 + (n : Int)
      · rw [if_pos hin, if_pos (by omega)]
      · rw [if_neg hin, if_neg (by omega)]
theorem clearV_yes {a : List Int} {b : Int} (h : okC a = true) (hb : 0 ≤ b ∧ b ≤ 1) : clearV a b = clearT a b 32 := if_pos ⟨h, bufOk_iff.2 hb⟩
end Go.Proofs.YtlnkjpacjbhncaaGreatDoor
/-
  What Go's library functions answer, at this program's numbers: contracts of the library, laid by its own tool, in plain words.
-/
namespace Go.Proofs
open Go.Shelf
def Tryz.lays231_ren : Go.Shelf.Ren := ⟨fun | 231 => 102 | n => n, fun | 9 => 9 | 5 => 5 | 3 => 3 | 4 => 4 | n => n, fun | n => n⟩
theorem Tryz.lays231 : Go.Proofs.Lays.n231 Tryz.prog Tryz.lays231_ren := {
  mixed := by kernel_rfl
  f231 := Tryz.func102.trans (congrArg some (by kernel_rfl))
  t3 := Tryz.underlying3
  a3 := Tryz.isAgg3
  z3 := Tryz.sizeOf3
  v3 := Tryz.zeroValue3
  t4 := Tryz.underlying4
  a4 := Tryz.isAgg4
  z4 := Tryz.sizeOf4
  v4 := Tryz.zeroValue4
  t5 := Tryz.underlying5
  a5 := Tryz.isAgg5
  z5 := Tryz.sizeOf5
  v5 := Tryz.zeroValue5
  t9 := Tryz.underlying9
  a9 := Tryz.isAgg9
  z9 := Tryz.sizeOf9
  v9 := Tryz.zeroValue9 }
open Go.RowKit in
/-- strings.trimLeftByte (no doc; what TrimLeft and Trim call at a cutset of one ASCII byte): the leading bytes that are c are cut off. The world is as it was. (LAID: no walk: one application.) -/
theorem Tryz.strings_trimLeftByte (s : ByteArray) (c : UInt8) (w : World) :
    Calls Tryz.prog 102 #[.string s, .int .u8 c.toNat] w fun e w' => e = .returned (.string ⟨(Lib.trimLeftB s.data.toList c).toArray⟩) ∧ w' = w := Any.strings_trimLeftByte Tryz.lays231 s c w
def Tryz.lays161_ren : Go.Shelf.Ren := ⟨fun | 161 => 81 | 231 => 102 | 227 => 103 | 233 => 104 | 235 => 105 | 228 => 118 | 197 => 119 | 151 => 120 | 260 => 125 | 152 => 126 | 137 => 130 | 119 => 131 | 224 => 132 | 225 => 133 | 217 => 134 | 266 => 135 | n => n, fun | 9 => 9 | 4 => 4 | 3 => 3 | 5 => 5 | 117 => 112 | 116 => 111 | 0 => 0 | 124 => 115 | 105 => 124 | 21 => 21 | 119 => 131 | 46 => 85 | 139 => 134 | 138 => 133 | n => n, fun | 3 => 1 | 4 => 2 | n => n⟩
theorem Tryz.lays161 : Go.Proofs.Lays.n161 Tryz.prog Tryz.lays161_ren := {
  mixed := by kernel_rfl
  f119 := Tryz.func131.trans (congrArg some (by kernel_rfl))
  f137 := Tryz.func130.trans (congrArg some (by kernel_rfl))
  f151 := Tryz.func120.trans (congrArg some (by kernel_rfl))
  f152 := Tryz.func126.trans (congrArg some (by kernel_rfl))
  f161 := Tryz.func81.trans (congrArg some (by kernel_rfl))
  f197 := Tryz.func119.trans (congrArg some (by kernel_rfl))
  f217 := Tryz.func134.trans (congrArg some (by kernel_rfl))
  f224 := Tryz.func132.trans (congrArg some (by kernel_rfl))
  f225 := Tryz.func133.trans (congrArg some (by kernel_rfl))
  f227 := Tryz.func103.trans (congrArg some (by kernel_rfl))
  f228 := Tryz.func118.trans (congrArg some (by kernel_rfl))
  f231 := Tryz.func102.trans (congrArg some (by kernel_rfl))
  f233 := Tryz.func104.trans (congrArg some (by kernel_rfl))
  f235 := Tryz.func105.trans (congrArg some (by kernel_rfl))
  f260 := Tryz.func125.trans (congrArg some (by kernel_rfl))
  f266 := Tryz.func135.trans (congrArg some (by kernel_rfl))
  t0 := Tryz.underlying0
  a0 := Tryz.isAgg0
  z0 := Tryz.sizeOf0
  v0 := Tryz.zeroValue0
  t3 := Tryz.underlying3
  a3 := Tryz.isAgg3
  z3 := Tryz.sizeOf3
  v3 := Tryz.zeroValue3
  t4 := Tryz.underlying4
  a4 := Tryz.isAgg4
  z4 := Tryz.sizeOf4
  v4 := Tryz.zeroValue4
  t5 := Tryz.underlying5
  a5 := Tryz.isAgg5
  z5 := Tryz.sizeOf5
  v5 := Tryz.zeroValue5
  t9 := Tryz.underlying9
  a9 := Tryz.isAgg9
  z9 := Tryz.sizeOf9
  v9 := Tryz.zeroValue9
  t21 := Tryz.underlying21
  a21 := Tryz.isAgg21
  z21 := Tryz.sizeOf21
  v21 := Tryz.zeroValue21
  t46 := Tryz.underlying85
  a46 := Tryz.isAgg85
  z46 := Tryz.sizeOf85
  v46 := Tryz.zeroValue85
  t105 := Tryz.underlying124
  a105 := Tryz.isAgg124
  z105 := Tryz.sizeOf124
  v105 := Tryz.zeroValue124
  t116 := Tryz.underlying111
  a116 := Tryz.isAgg111
  z116 := Tryz.sizeOf111
  t117 := Tryz.underlying112
  a117 := Tryz.isAgg112
  z117 := Tryz.sizeOf112
  v117 := Tryz.zeroValue112
  t119 := Tryz.underlying131
  a119 := Tryz.isAgg131
  z119 := Tryz.sizeOf131
  t124 := Tryz.underlying115
  a124 := Tryz.isAgg115
  z124 := Tryz.sizeOf115
  v124 := Tryz.zeroValue115
  t138 := Tryz.underlying133
  a138 := Tryz.isAgg133
  z138 := Tryz.sizeOf133
  v138 := Tryz.zeroValue133
  t139 := Tryz.underlying134
  a139 := Tryz.isAgg134
  z139 := Tryz.sizeOf134
  v139 := Tryz.zeroValue134
  g3 := by kernel_rfl
  g4 := by kernel_rfl }
open Go.RowKit in
/-- strings.TrimLeft: "TrimLeft returns a slice of the string s with all leading Unicode code points contained in cutset removed.": AT A cutset OF ONE ASCII BYTE. The world is as it was. (LAID: no walk: one application.) -/
theorem Tryz.strings_TrimLeft_one (s : ByteArray) (c : UInt8) (hc : c.toNat < 128) (w : World) :
    Calls Tryz.prog 81 #[.string s, .string ⟨#[c]⟩] w fun e w' => e = .returned (.string ⟨(Lib.trimLeftB s.data.toList c).toArray⟩) ∧ w' = w := Any.strings_TrimLeft_one Tryz.lays161 s c hc w
def Tryz.lays119_ren : Go.Shelf.Ren := ⟨fun | 119 => 131 | n => n, fun | 21 => 21 | 4 => 4 | n => n, fun | n => n⟩
theorem Tryz.lays119 : Go.Proofs.Lays.n119 Tryz.prog Tryz.lays119_ren := {
  mixed := by kernel_rfl
  f119 := Tryz.func131.trans (congrArg some (by kernel_rfl))
  t4 := Tryz.underlying4
  a4 := Tryz.isAgg4
  z4 := Tryz.sizeOf4
  v4 := Tryz.zeroValue4
  t21 := Tryz.underlying21
  a21 := Tryz.isAgg21
  z21 := Tryz.sizeOf21
  v21 := Tryz.zeroValue21 }
/-- utf8.ValidRune: "ValidRune reports whether r can be legally encoded as UTF-8. Code points that are out of range or a surrogate half are illegal.": IT RETURNS 'Lib.validRune r'; the world is as it was. (LAID: no walk: one application.) -/
theorem Tryz.utf8_ValidRune (r : Int) (w : World) :
    Calls Tryz.prog 131 #[.int .i32 r] w fun e w' => e = .returned (.bool (Lib.validRune r)) ∧ w' = w := Any.utf8_ValidRune Tryz.lays119 r w
def Tryz.lays128_ren : Go.Shelf.Ren := ⟨fun | 128 => 98 | n => n, fun | 51 => 106 | 3 => 3 | 4 => 4 | 46 => 85 | 5 => 5 | 9 => 9 | n => n, fun | n => n⟩
theorem Tryz.lays128 : Go.Proofs.Lays.n128 Tryz.prog Tryz.lays128_ren := {
  mixed := by kernel_rfl
  f128 := Tryz.func98.trans (congrArg some (by kernel_rfl))
  t3 := Tryz.underlying3
  a3 := Tryz.isAgg3
  z3 := Tryz.sizeOf3
  v3 := Tryz.zeroValue3
  t4 := Tryz.underlying4
  a4 := Tryz.isAgg4
  z4 := Tryz.sizeOf4
  v4 := Tryz.zeroValue4
  t5 := Tryz.underlying5
  a5 := Tryz.isAgg5
  z5 := Tryz.sizeOf5
  v5 := Tryz.zeroValue5
  t9 := Tryz.underlying9
  a9 := Tryz.isAgg9
  z9 := Tryz.sizeOf9
  v9 := Tryz.zeroValue9
  t46 := Tryz.underlying85
  a46 := Tryz.isAgg85
  z46 := Tryz.sizeOf85
  v46 := Tryz.zeroValue85
  t51 := Tryz.underlying106
  a51 := Tryz.isAgg106
  z51 := Tryz.sizeOf106
  v51 := Tryz.zeroValue106 }
/-- bits.Len32: "Len32 returns the minimum number of bits required to represent x; the result is 0 for x == 0.": IT RETURNS 'Lib.bitLen x'; the world is as it was. ('h0', 'h1': x is a uint32.) (LAID: no walk: one application.) -/
theorem Tryz.bits_Len32 (x : Int) (w : World) (h0 : 0 ≤ x) (h1 : x ≤ 4294967295) :
    Calls Tryz.prog 98 #[.int .u32 x] w fun e w' => e = .returned (.int .i64 (Lib.bitLen x.toNat)) ∧ w' = w := Any.bits_Len32 Tryz.lays128 x w h0 h1
def Tryz.lays125_ren : Go.Shelf.Ren := ⟨fun | 125 => 73 | 128 => 98 | 129 => 99 | n => n, fun | 46 => 85 | 3 => 3 | 51 => 106 | 53 => 108 | 4 => 4 | 5 => 5 | 9 => 9 | n => n, fun | n => n⟩
theorem Tryz.lays125 : Go.Proofs.Lays.n125 Tryz.prog Tryz.lays125_ren := {
  mixed := by kernel_rfl
  f125 := Tryz.func73.trans (congrArg some (by kernel_rfl))
  f128 := Tryz.func98.trans (congrArg some (by kernel_rfl))
  f129 := Tryz.func99.trans (congrArg some (by kernel_rfl))
  t3 := Tryz.underlying3
  a3 := Tryz.isAgg3
  z3 := Tryz.sizeOf3
  v3 := Tryz.zeroValue3
  t4 := Tryz.underlying4
  a4 := Tryz.isAgg4
  z4 := Tryz.sizeOf4
  v4 := Tryz.zeroValue4
  t5 := Tryz.underlying5
  a5 := Tryz.isAgg5
  z5 := Tryz.sizeOf5
  v5 := Tryz.zeroValue5
  t9 := Tryz.underlying9
  a9 := Tryz.isAgg9
  z9 := Tryz.sizeOf9
  v9 := Tryz.zeroValue9
  t46 := Tryz.underlying85
  a46 := Tryz.isAgg85
  z46 := Tryz.sizeOf85
  v46 := Tryz.zeroValue85
  t51 := Tryz.underlying106
  a51 := Tryz.isAgg106
  z51 := Tryz.sizeOf106
  v51 := Tryz.zeroValue106
  t53 := Tryz.underlying108
  a53 := Tryz.isAgg108
  z53 := Tryz.sizeOf108
  v53 := Tryz.zeroValue108 }
/-- bits.Len: "Len returns the minimum number of bits required to represent x; the result is 0 for x == 0.": IT RETURNS 'Lib.bitLen x'; the world is as it was. (A uint has 64 bits in the model.) ITS CALLEE bits.Len64 IS MET BY ITS OWN CONTRACT OFF THE SHELF (lay that first). (LAID: no walk: one application.) -/
theorem Tryz.bits_Len (x : Int) (w : World) (h0 : 0 ≤ x) (h1 : x ≤ 18446744073709551615) :
    Calls Tryz.prog 73 #[.int .u64 x] w fun e w' => e = .returned (.int .i64 (Lib.bitLen x.toNat)) ∧ w' = w := Any.bits_Len Tryz.lays125 x w h0 h1
def Tryz.lays213_ren : Go.Shelf.Ren := ⟨fun | 213 => 88 | 265 => 110 | n => n, fun | 9 => 9 | 3 => 3 | n => n, fun | n => n⟩
theorem Tryz.lays213 : Go.Proofs.Lays.n213 Tryz.prog Tryz.lays213_ren := {
  mixed := by kernel_rfl
  f213 := Tryz.func88.trans (congrArg some (by kernel_rfl))
  f265 := Tryz.func110.trans (congrArg some (by kernel_rfl))
  t3 := Tryz.underlying3
  a3 := Tryz.isAgg3
  z3 := Tryz.sizeOf3
  v3 := Tryz.zeroValue3
  t9 := Tryz.underlying9
  a9 := Tryz.isAgg9
  z9 := Tryz.sizeOf9
  v9 := Tryz.zeroValue9 }
open Go.RowKit in
/-- internal/bytealg.CompareString (what strings.Compare calls): IT RETURNS 'Lib.compareBytes a b'; the world is as it was. (LAID: no walk: one application.) -/
theorem Tryz.bytealg_CompareString (a b : ByteArray) (w : World) :
    Calls Tryz.prog 88 #[.string a, .string b] w fun e w' => e = .returned (.int .i64 (Lib.compareBytes a.data.toList b.data.toList)) ∧ w' = w := Any.bytealg_CompareString Tryz.lays213 a b w
def Tryz.lays106_ren : Go.Shelf.Ren := ⟨fun | 106 => 68 | 213 => 88 | 265 => 110 | n => n, fun | 9 => 9 | 3 => 3 | n => n, fun | n => n⟩
theorem Tryz.lays106 : Go.Proofs.Lays.n106 Tryz.prog Tryz.lays106_ren := {
  mixed := by kernel_rfl
  f106 := Tryz.func68.trans (congrArg some (by kernel_rfl))
  f213 := Tryz.func88.trans (congrArg some (by kernel_rfl))
  f265 := Tryz.func110.trans (congrArg some (by kernel_rfl))
  t3 := Tryz.underlying3
  a3 := Tryz.isAgg3
  z3 := Tryz.sizeOf3
  v3 := Tryz.zeroValue3
  t9 := Tryz.underlying9
  a9 := Tryz.isAgg9
  z9 := Tryz.sizeOf9
  v9 := Tryz.zeroValue9 }
open Go.RowKit in
/-- strings.Compare: "Compare returns an integer comparing two strings lexicographically. The result will be 0 if a == b, -1 if a < b, and +1 if a > b.": IT RETURNS 'Lib.compareBytes a b'; the world is as it was. (LAID: no walk: one application.) -/
theorem Tryz.strings_Compare (a b : ByteArray) (w : World) :
    Calls Tryz.prog 68 #[.string a, .string b] w fun e w' => e = .returned (.int .i64 (Lib.compareBytes a.data.toList b.data.toList)) ∧ w' = w := Any.strings_Compare Tryz.lays106 a b w
def Tryz.lays137_ren : Go.Shelf.Ren := ⟨fun | 137 => 130 | 217 => 134 | 266 => 135 | n => n, fun | 9 => 9 | 5 => 5 | 3 => 3 | n => n, fun | n => n⟩
theorem Tryz.lays137 : Go.Proofs.Lays.n137 Tryz.prog Tryz.lays137_ren := {
  mixed := by kernel_rfl
  f137 := Tryz.func130.trans (congrArg some (by kernel_rfl))
  f217 := Tryz.func134.trans (congrArg some (by kernel_rfl))
  f266 := Tryz.func135.trans (congrArg some (by kernel_rfl))
  t3 := Tryz.underlying3
  a3 := Tryz.isAgg3
  z3 := Tryz.sizeOf3
  v3 := Tryz.zeroValue3
  t5 := Tryz.underlying5
  a5 := Tryz.isAgg5
  z5 := Tryz.sizeOf5
  v5 := Tryz.zeroValue5
  t9 := Tryz.underlying9
  a9 := Tryz.isAgg9
  z9 := Tryz.sizeOf9
  v9 := Tryz.zeroValue9 }
open Go.RowKit in
/-- strings.IndexByte: "IndexByte returns the index of the first instance of c in s, or -1 if c is not present in s.": IT RETURNS 'Lib.indexByte s c'; the world is as it was. (LAID: no walk: one application.) -/
theorem Tryz.strings_IndexByte (s : ByteArray) (c : Int) (w : World) :
    Calls Tryz.prog 130 #[.string s, .int .u8 c] w fun e w' => e = .returned (.int .i64 (Lib.indexByte s.data.toList c.toNat.toUInt8)) ∧ w' = w := Any.strings_IndexByte Tryz.lays137 s c w
def Tryz.lays129_ren : Go.Shelf.Ren := ⟨fun | 129 => 99 | n => n, fun | 53 => 108 | 3 => 3 | 4 => 4 | 46 => 85 | 5 => 5 | 9 => 9 | n => n, fun | n => n⟩
theorem Tryz.lays129 : Go.Proofs.Lays.n129 Tryz.prog Tryz.lays129_ren := {
  mixed := by kernel_rfl
  f129 := Tryz.func99.trans (congrArg some (by kernel_rfl))
  t3 := Tryz.underlying3
  a3 := Tryz.isAgg3
  z3 := Tryz.sizeOf3
  v3 := Tryz.zeroValue3
  t4 := Tryz.underlying4
  a4 := Tryz.isAgg4
  z4 := Tryz.sizeOf4
  v4 := Tryz.zeroValue4
  t5 := Tryz.underlying5
  a5 := Tryz.isAgg5
  z5 := Tryz.sizeOf5
  v5 := Tryz.zeroValue5
  t9 := Tryz.underlying9
  a9 := Tryz.isAgg9
  z9 := Tryz.sizeOf9
  v9 := Tryz.zeroValue9
  t46 := Tryz.underlying85
  a46 := Tryz.isAgg85
  z46 := Tryz.sizeOf85
  v46 := Tryz.zeroValue85
  t53 := Tryz.underlying108
  a53 := Tryz.isAgg108
  z53 := Tryz.sizeOf108
  v53 := Tryz.zeroValue108 }
/-- bits.Len64: "Len64 returns the minimum number of bits required to represent x; the result is 0 for x == 0.": IT RETURNS 'Lib.bitLen x'; the world is as it was. ('h0', 'h1': x is a uint64.) (LAID: no walk: one application.) -/
theorem Tryz.bits_Len64 (x : Int) (w : World) (h0 : 0 ≤ x) (h1 : x ≤ 18446744073709551615) :
    Calls Tryz.prog 99 #[.int .u64 x] w fun e w' => e = .returned (.int .i64 (Lib.bitLen x.toNat)) ∧ w' = w := Any.bits_Len64 Tryz.lays129 x w h0 h1
def Tryz.lays217_ren : Go.Shelf.Ren := ⟨fun | 217 => 134 | 266 => 135 | n => n, fun | 9 => 9 | 5 => 5 | 3 => 3 | n => n, fun | n => n⟩
theorem Tryz.lays217 : Go.Proofs.Lays.n217 Tryz.prog Tryz.lays217_ren := {
  mixed := by kernel_rfl
  f217 := Tryz.func134.trans (congrArg some (by kernel_rfl))
  f266 := Tryz.func135.trans (congrArg some (by kernel_rfl))
  t3 := Tryz.underlying3
  a3 := Tryz.isAgg3
  z3 := Tryz.sizeOf3
  v3 := Tryz.zeroValue3
  t5 := Tryz.underlying5
  a5 := Tryz.isAgg5
  z5 := Tryz.sizeOf5
  v5 := Tryz.zeroValue5
  t9 := Tryz.underlying9
  a9 := Tryz.isAgg9
  z9 := Tryz.sizeOf9
  v9 := Tryz.zeroValue9 }
open Go.RowKit Go.Lib in
/-- internal/stringslite.IndexByte (what strings.IndexByte calls): IT RETURNS 'Lib.indexByte s c'; the world is as it was. (LAID: no walk: one application.) -/
theorem Tryz.stringslite_IndexByte (s : ByteArray) (c : Int) (w : World) :
    Calls Tryz.prog 134 #[.string s, .int .u8 c] w fun e w' => e = .returned (.int .i64 (Lib.indexByte s.data.toList c.toNat.toUInt8)) ∧ w' = w := Any.stringslite_IndexByte Tryz.lays217 s c w
def Tryz.lays224_ren : Go.Shelf.Ren := ⟨fun | 224 => 132 | n => n, fun | 3 => 3 | n => n, fun | n => n⟩
theorem Tryz.lays224 : Go.Proofs.Lays.n224 Tryz.prog Tryz.lays224_ren := {
  mixed := by kernel_rfl
  f224 := Tryz.func132.trans (congrArg some (by kernel_rfl))
  t3 := Tryz.underlying3
  a3 := Tryz.isAgg3
  z3 := Tryz.sizeOf3
  v3 := Tryz.zeroValue3 }
open Go.RowKit Go.Lib in
/-- internal/bytealg.Cutover: "Cutover reports the number of failures of IndexByte we should tolerate before switching over to Index. n is the number of bytes processed so far.": on amd64: (n + 16) / 8. (LAID: no walk: one application.) -/
theorem Tryz.bytealg_Cutover (n : Int) (h0 : 0 ≤ n) (h1 : n < 4611686018427387904) (w : World) :
    Calls Tryz.prog 132 #[.int .i64 n] w fun e w' => e = .returned (.int .i64 ((n + 16) / 8)) ∧ w' = w := Any.bytealg_Cutover Tryz.lays224 n h0 h1 w
def Tryz.lays190_ren : Go.Shelf.Ren := ⟨fun | 190 => 45 | 125 => 73 | 258 => 72 | 128 => 98 | 129 => 99 | 302 => 89 | 303 => 90 | 304 => 91 | 305 => 92 | 306 => 93 | 307 => 94 | 308 => 95 | 309 => 96 | 310 => 97 | 333 => 111 | 329 => 112 | 330 => 113 | 334 => 114 | 335 => 115 | 336 => 116 | 344 => 124 | n => n, fun | 31 => 41 | 9 => 9 | 3 => 3 | 46 => 85 | 0 => 0 | 51 => 106 | 53 => 108 | 4 => 4 | 183 => 98 | 182 => 97 | 131 => 103 | 5 => 5 | 218 => 118 | 222 => 122 | 228 => 127 | 229 => 47 | n => n, fun | n => n⟩
theorem Tryz.lays190 : Go.Proofs.Lays.n190 Tryz.prog Tryz.lays190_ren := {
  mixed := by kernel_rfl
  f125 := Tryz.func73.trans (congrArg some (by kernel_rfl))
  f128 := Tryz.func98.trans (congrArg some (by kernel_rfl))
  f129 := Tryz.func99.trans (congrArg some (by kernel_rfl))
  f190 := Tryz.func45.trans (congrArg some (by kernel_rfl))
  f258 := Tryz.func72.trans (congrArg some (by kernel_rfl))
  f302 := Tryz.func89.trans (congrArg some (by kernel_rfl))
  f303 := Tryz.func90.trans (congrArg some (by kernel_rfl))
  f304 := Tryz.func91.trans (congrArg some (by kernel_rfl))
  f305 := Tryz.func92.trans (congrArg some (by kernel_rfl))
  f306 := Tryz.func93.trans (congrArg some (by kernel_rfl))
  f307 := Tryz.func94.trans (congrArg some (by kernel_rfl))
  f308 := Tryz.func95.trans (congrArg some (by kernel_rfl))
  f309 := Tryz.func96.trans (congrArg some (by kernel_rfl))
  f310 := Tryz.func97.trans (congrArg some (by kernel_rfl))
  f329 := Tryz.func112.trans (congrArg some (by kernel_rfl))
  f330 := Tryz.func113.trans (congrArg some (by kernel_rfl))
  f333 := Tryz.func111.trans (congrArg some (by kernel_rfl))
  f334 := Tryz.func114.trans (congrArg some (by kernel_rfl))
  f335 := Tryz.func115.trans (congrArg some (by kernel_rfl))
  f336 := Tryz.func116.trans (congrArg some (by kernel_rfl))
  f344 := Tryz.func124.trans (congrArg some (by kernel_rfl))
  t0 := Tryz.underlying0
  a0 := Tryz.isAgg0
  z0 := Tryz.sizeOf0
  v0 := Tryz.zeroValue0
  t3 := Tryz.underlying3
  a3 := Tryz.isAgg3
  z3 := Tryz.sizeOf3
  v3 := Tryz.zeroValue3
  t4 := Tryz.underlying4
  a4 := Tryz.isAgg4
  z4 := Tryz.sizeOf4
  v4 := Tryz.zeroValue4
  t5 := Tryz.underlying5
  a5 := Tryz.isAgg5
  z5 := Tryz.sizeOf5
  v5 := Tryz.zeroValue5
  t9 := Tryz.underlying9
  a9 := Tryz.isAgg9
  z9 := Tryz.sizeOf9
  v9 := Tryz.zeroValue9
  t31 := Tryz.underlying41
  a31 := Tryz.isAgg41
  z31 := Tryz.sizeOf41
  v31 := Tryz.zeroValue41
  t46 := Tryz.underlying85
  a46 := Tryz.isAgg85
  z46 := Tryz.sizeOf85
  v46 := Tryz.zeroValue85
  t51 := Tryz.underlying106
  a51 := Tryz.isAgg106
  z51 := Tryz.sizeOf106
  v51 := Tryz.zeroValue106
  t53 := Tryz.underlying108
  a53 := Tryz.isAgg108
  z53 := Tryz.sizeOf108
  v53 := Tryz.zeroValue108
  t131 := Tryz.underlying103
  a131 := Tryz.isAgg103
  z131 := Tryz.sizeOf103
  v131 := Tryz.zeroValue103
  t182 := Tryz.underlying97
  a182 := Tryz.isAgg97
  z182 := Tryz.sizeOf97
  v182 := Tryz.zeroValue97
  t183 := Tryz.underlying98
  a183 := Tryz.isAgg98
  z183 := Tryz.sizeOf98
  v183 := Tryz.zeroValue98
  t218 := Tryz.underlying118
  a218 := Tryz.isAgg118
  z218 := Tryz.sizeOf118
  v218 := Tryz.zeroValue118
  t222 := Tryz.underlying122
  a222 := Tryz.isAgg122
  z222 := Tryz.sizeOf122
  v222 := Tryz.zeroValue122
  t228 := Tryz.underlying127
  a228 := Tryz.isAgg127
  z228 := Tryz.sizeOf127
  v228 := Tryz.zeroValue127
  t229 := Tryz.underlying47
  a229 := Tryz.isAgg47
  z229 := Tryz.sizeOf47
  v229 := Tryz.zeroValue47 }
open Go.Sort Go.RowKit in
theorem Tryz.slices_Sort_string (blk off cap : Nat) (ss : List (List UInt8)) (w : World) (hH : Holds encStr w blk off ss.toArray) (hblk : blk < w.heap.size) (hsz : ss.length < 4611686018427387904) :
    Calls Tryz.prog 45 #[.slice (some ⟨blk, off, none⟩) ss.length cap] w fun e w' =>
      e = .returned (.tuple #[]) ∧ ∃ n os, w' = grow (putRow encStr (Sort.ahead w n) blk off (ss.mergeSort fun x y => decide (x ≤ y)).toArray) os := Any.slices_Sort_string Tryz.lays190 blk off cap ss w hH hblk hsz
def Tryz.lays197_ren : Go.Shelf.Ren := ⟨fun | 197 => 119 | 260 => 125 | n => n, fun | 9 => 9 | 21 => 21 | 3 => 3 | 4 => 4 | 5 => 5 | 105 => 124 | 119 => 131 | 0 => 0 | 46 => 85 | 139 => 134 | 138 => 133 | n => n, fun | 3 => 1 | 4 => 2 | n => n⟩
theorem Tryz.lays197 : Go.Proofs.Lays.n197 Tryz.prog Tryz.lays197_ren := {
  mixed := by kernel_rfl
  f197 := Tryz.func119.trans (congrArg some (by kernel_rfl))
  f260 := Tryz.func125.trans (congrArg some (by kernel_rfl))
  t0 := Tryz.underlying0
  a0 := Tryz.isAgg0
  z0 := Tryz.sizeOf0
  v0 := Tryz.zeroValue0
  t3 := Tryz.underlying3
  a3 := Tryz.isAgg3
  z3 := Tryz.sizeOf3
  v3 := Tryz.zeroValue3
  t4 := Tryz.underlying4
  a4 := Tryz.isAgg4
  z4 := Tryz.sizeOf4
  v4 := Tryz.zeroValue4
  t5 := Tryz.underlying5
  a5 := Tryz.isAgg5
  z5 := Tryz.sizeOf5
  v5 := Tryz.zeroValue5
  t9 := Tryz.underlying9
  a9 := Tryz.isAgg9
  z9 := Tryz.sizeOf9
  v9 := Tryz.zeroValue9
  t21 := Tryz.underlying21
  a21 := Tryz.isAgg21
  z21 := Tryz.sizeOf21
  v21 := Tryz.zeroValue21
  t46 := Tryz.underlying85
  a46 := Tryz.isAgg85
  z46 := Tryz.sizeOf85
  v46 := Tryz.zeroValue85
  t105 := Tryz.underlying124
  a105 := Tryz.isAgg124
  z105 := Tryz.sizeOf124
  v105 := Tryz.zeroValue124
  t119 := Tryz.underlying131
  a119 := Tryz.isAgg131
  z119 := Tryz.sizeOf131
  t138 := Tryz.underlying133
  a138 := Tryz.isAgg133
  z138 := Tryz.sizeOf133
  v138 := Tryz.zeroValue133
  t139 := Tryz.underlying134
  a139 := Tryz.isAgg134
  z139 := Tryz.sizeOf134
  v139 := Tryz.zeroValue134
  g3 := by kernel_rfl
  g4 := by kernel_rfl }
open Go.RowKit Go.Lib in
/-- unicode/utf8.DecodeRuneInString: "DecodeRuneInString is like DecodeRune but its input is a string.": ("DecodeRune unpacks the first UTF-8 encoding in p and returns the rune and its width in bytes."): WHERE s BEGINS WITH AN ASCII BYTE x: (x, 1). (LAID: no walk: one application.) -/
theorem Tryz.utf8_DecodeRuneInString_ascii (s : ByteArray) (x : UInt8) (w : World) (h0 : s.data.toList[0]? = some x) (hx : x.toNat < 128) :
    Calls Tryz.prog 119 #[.string s] w fun e w' => e = .returned (.tuple #[.int .i32 x.toNat, .int .i64 1]) ∧ w' = w := Any.utf8_DecodeRuneInString_ascii Tryz.lays197 s x w h0 hx
def Tryz.lays152_ren : Go.Shelf.Ren := ⟨fun | 152 => 126 | 137 => 130 | 119 => 131 | 224 => 132 | 225 => 133 | 217 => 134 | 266 => 135 | n => n, fun | 9 => 9 | 21 => 21 | 3 => 3 | 4 => 4 | 5 => 5 | 0 => 0 | 46 => 85 | n => n, fun | n => n⟩
theorem Tryz.lays152 : Go.Proofs.Lays.n152 Tryz.prog Tryz.lays152_ren := {
  mixed := by kernel_rfl
  f119 := Tryz.func131.trans (congrArg some (by kernel_rfl))
  f137 := Tryz.func130.trans (congrArg some (by kernel_rfl))
  f152 := Tryz.func126.trans (congrArg some (by kernel_rfl))
  f217 := Tryz.func134.trans (congrArg some (by kernel_rfl))
  f224 := Tryz.func132.trans (congrArg some (by kernel_rfl))
  f225 := Tryz.func133.trans (congrArg some (by kernel_rfl))
  f266 := Tryz.func135.trans (congrArg some (by kernel_rfl))
  t0 := Tryz.underlying0
  a0 := Tryz.isAgg0
  z0 := Tryz.sizeOf0
  v0 := Tryz.zeroValue0
  t3 := Tryz.underlying3
  a3 := Tryz.isAgg3
  z3 := Tryz.sizeOf3
  v3 := Tryz.zeroValue3
  t4 := Tryz.underlying4
  a4 := Tryz.isAgg4
  z4 := Tryz.sizeOf4
  v4 := Tryz.zeroValue4
  t5 := Tryz.underlying5
  a5 := Tryz.isAgg5
  z5 := Tryz.sizeOf5
  v5 := Tryz.zeroValue5
  t9 := Tryz.underlying9
  a9 := Tryz.isAgg9
  z9 := Tryz.sizeOf9
  v9 := Tryz.zeroValue9
  t21 := Tryz.underlying21
  a21 := Tryz.isAgg21
  z21 := Tryz.sizeOf21
  v21 := Tryz.zeroValue21
  t46 := Tryz.underlying85
  a46 := Tryz.isAgg85
  z46 := Tryz.sizeOf85
  v46 := Tryz.zeroValue85 }
open Go.RowKit Go.Lib in
theorem Tryz.strings_IndexRune_ascii (s : ByteArray) (r : Int) (w : World) (h0 : 0 ≤ r) (h1 : r < 128) :
    Calls Tryz.prog 126 #[.string s, .int .i32 r] w fun e w' => e = .returned (.int .i64 (Lib.indexByte s.data.toList r.toNat.toUInt8)) ∧ w' = w := Any.strings_IndexRune_ascii Tryz.lays152 s r w h0 h1
def Tryz.lays151_ren : Go.Shelf.Ren := ⟨fun | 151 => 120 | 152 => 126 | 137 => 130 | 119 => 131 | 224 => 132 | 225 => 133 | 217 => 134 | 266 => 135 | n => n, fun | 9 => 9 | 21 => 21 | 4 => 4 | 3 => 3 | 5 => 5 | 0 => 0 | 46 => 85 | n => n, fun | n => n⟩
theorem Tryz.lays151 : Go.Proofs.Lays.n151 Tryz.prog Tryz.lays151_ren := {
  mixed := by kernel_rfl
  f119 := Tryz.func131.trans (congrArg some (by kernel_rfl))
  f137 := Tryz.func130.trans (congrArg some (by kernel_rfl))
  f151 := Tryz.func120.trans (congrArg some (by kernel_rfl))
  f152 := Tryz.func126.trans (congrArg some (by kernel_rfl))
  f217 := Tryz.func134.trans (congrArg some (by kernel_rfl))
  f224 := Tryz.func132.trans (congrArg some (by kernel_rfl))
  f225 := Tryz.func133.trans (congrArg some (by kernel_rfl))
  f266 := Tryz.func135.trans (congrArg some (by kernel_rfl))
  t0 := Tryz.underlying0
  a0 := Tryz.isAgg0
  z0 := Tryz.sizeOf0
  v0 := Tryz.zeroValue0
  t3 := Tryz.underlying3
  a3 := Tryz.isAgg3
  z3 := Tryz.sizeOf3
  v3 := Tryz.zeroValue3
  t4 := Tryz.underlying4
  a4 := Tryz.isAgg4
  z4 := Tryz.sizeOf4
  v4 := Tryz.zeroValue4
  t5 := Tryz.underlying5
  a5 := Tryz.isAgg5
  z5 := Tryz.sizeOf5
  v5 := Tryz.zeroValue5
  t9 := Tryz.underlying9
  a9 := Tryz.isAgg9
  z9 := Tryz.sizeOf9
  v9 := Tryz.zeroValue9
  t21 := Tryz.underlying21
  a21 := Tryz.isAgg21
  z21 := Tryz.sizeOf21
  v21 := Tryz.zeroValue21
  t46 := Tryz.underlying85
  a46 := Tryz.isAgg85
  z46 := Tryz.sizeOf85
  v46 := Tryz.zeroValue85 }
open Go.RowKit Go.Lib in
theorem Tryz.strings_ContainsRune_ascii (s : ByteArray) (r : Int) (w : World) (h0 : 0 ≤ r) (h1 : r < 128) :
    Calls Tryz.prog 120 #[.string s, .int .i32 r] w fun e w' => e = .returned (.bool (decide (0 ≤ Lib.indexByte s.data.toList r.toNat.toUInt8))) ∧ w' = w := Any.strings_ContainsRune_ascii Tryz.lays151 s r w h0 h1
def Tryz.lays227_ren : Go.Shelf.Ren := ⟨fun | 227 => 103 | n => n, fun | 9 => 9 | 116 => 111 | 4 => 4 | 0 => 0 | 3 => 3 | 5 => 5 | n => n, fun | n => n⟩
theorem Tryz.lays227 : Go.Proofs.Lays.n227 Tryz.prog Tryz.lays227_ren := {
  mixed := by kernel_rfl
  f227 := Tryz.func103.trans (congrArg some (by kernel_rfl))
  t0 := Tryz.underlying0
  a0 := Tryz.isAgg0
  z0 := Tryz.sizeOf0
  v0 := Tryz.zeroValue0
  t3 := Tryz.underlying3
  a3 := Tryz.isAgg3
  z3 := Tryz.sizeOf3
  v3 := Tryz.zeroValue3
  t4 := Tryz.underlying4
  a4 := Tryz.isAgg4
  z4 := Tryz.sizeOf4
  v4 := Tryz.zeroValue4
  t5 := Tryz.underlying5
  a5 := Tryz.isAgg5
  z5 := Tryz.sizeOf5
  v5 := Tryz.zeroValue5
  t9 := Tryz.underlying9
  a9 := Tryz.isAgg9
  z9 := Tryz.sizeOf9
  v9 := Tryz.zeroValue9
  t116 := Tryz.underlying111
  a116 := Tryz.isAgg111
  z116 := Tryz.sizeOf111 }
open Go.RowKit Go.Lib in
theorem Tryz.strings_makeASCIISet (hv116 : ∀ w, (zeroValue 111).run Tryz.prog w = .ok (.agg (Array.replicate 256 (.bool false))) w) (chars : ByteArray) (w : World) (hs : chars.size < 4294967281) (hascii : ∀ (j : Nat) b, chars.data.toList[j]? = some b → b.toNat < 128) :
    Calls Tryz.prog 103 #[.string chars] w fun e w' => e = .returned (.tuple #[.agg (Lib.setCells chars.data.toList), .bool true]) ∧ w' = w.alloc (.cells (Lib.setCells chars.data.toList) 111) := Any.strings_makeASCIISet Tryz.lays227 hv116 (by kernel_rfl) chars w hs hascii
def Tryz.lays228_ren : Go.Shelf.Ren := ⟨fun | 228 => 118 | n => n, fun | 124 => 115 | 5 => 5 | 4 => 4 | 0 => 0 | 116 => 111 | n => n, fun | n => n⟩
theorem Tryz.lays228 : Go.Proofs.Lays.n228 Tryz.prog Tryz.lays228_ren := {
  mixed := by kernel_rfl
  f228 := Tryz.func118.trans (congrArg some (by kernel_rfl))
  t0 := Tryz.underlying0
  a0 := Tryz.isAgg0
  z0 := Tryz.sizeOf0
  v0 := Tryz.zeroValue0
  t4 := Tryz.underlying4
  a4 := Tryz.isAgg4
  z4 := Tryz.sizeOf4
  v4 := Tryz.zeroValue4
  t5 := Tryz.underlying5
  a5 := Tryz.isAgg5
  z5 := Tryz.sizeOf5
  v5 := Tryz.zeroValue5
  t116 := Tryz.underlying111
  a116 := Tryz.isAgg111
  z116 := Tryz.sizeOf111
  t124 := Tryz.underlying115
  a124 := Tryz.isAgg115
  z124 := Tryz.sizeOf115
  v124 := Tryz.zeroValue115 }
open Go.RowKit Go.Lib in
/-- '(as *asciiSet) contains(c)': 'as[c]': the set lies at block b, whole. (LAID: no walk: one application.) -/
theorem Tryz.asciiSet_contains (b : Nat) (x : UInt8) (v : Bool) (w : World) (hc : w.cell? ⟨b, x.toNat, none⟩ = some (.bool v)) :
    Calls Tryz.prog 118 #[.pointer (some ⟨b, 0, none⟩), .int .u8 x.toNat] w fun e w' => e = .returned (.bool v) ∧ w' = w := Any.asciiSet_contains Tryz.lays228 b x v w hc
def Tryz.lays260_ren : Go.Shelf.Ren := ⟨fun | 260 => 125 | n => n, fun | 9 => 9 | 21 => 21 | 3 => 3 | 4 => 4 | 5 => 5 | 119 => 131 | 0 => 0 | 46 => 85 | 139 => 134 | 138 => 133 | n => n, fun | 3 => 1 | 4 => 2 | n => n⟩
theorem Tryz.lays260 : Go.Proofs.Lays.n260 Tryz.prog Tryz.lays260_ren := {
  mixed := by kernel_rfl
  f260 := Tryz.func125.trans (congrArg some (by kernel_rfl))
  t0 := Tryz.underlying0
  a0 := Tryz.isAgg0
  z0 := Tryz.sizeOf0
  v0 := Tryz.zeroValue0
  t3 := Tryz.underlying3
  a3 := Tryz.isAgg3
  z3 := Tryz.sizeOf3
  v3 := Tryz.zeroValue3
  t4 := Tryz.underlying4
  a4 := Tryz.isAgg4
  z4 := Tryz.sizeOf4
  v4 := Tryz.zeroValue4
  t5 := Tryz.underlying5
  a5 := Tryz.isAgg5
  z5 := Tryz.sizeOf5
  v5 := Tryz.zeroValue5
  t9 := Tryz.underlying9
  a9 := Tryz.isAgg9
  z9 := Tryz.sizeOf9
  v9 := Tryz.zeroValue9
  t21 := Tryz.underlying21
  a21 := Tryz.isAgg21
  z21 := Tryz.sizeOf21
  v21 := Tryz.zeroValue21
  t46 := Tryz.underlying85
  a46 := Tryz.isAgg85
  z46 := Tryz.sizeOf85
  v46 := Tryz.zeroValue85
  t119 := Tryz.underlying131
  a119 := Tryz.isAgg131
  z119 := Tryz.sizeOf131
  t138 := Tryz.underlying133
  a138 := Tryz.isAgg133
  z138 := Tryz.sizeOf133
  v138 := Tryz.zeroValue133
  t139 := Tryz.underlying134
  a139 := Tryz.isAgg134
  z139 := Tryz.sizeOf134
  v139 := Tryz.zeroValue134
  g3 := by kernel_rfl
  g4 := by kernel_rfl }
open Go.RowKit Go.Lib in
theorem Tryz.utf8_decodeRuneInStringSlow (s : ByteArray) (w : World) (hT : Lib.Utf8Tabs 1 2 w) :
    Calls Tryz.prog 125 #[.string s] w fun e w' => e = .returned (.tuple #[.int .i32 (Lib.decodeGo s).1, .int .i64 (Lib.decodeGo s).2]) ∧ Below w.heap.size w w' := Any.utf8_decodeRuneInStringSlow Tryz.lays260 s w hT
open Go.RowKit Go.Lib in
/-- **unicode/utf8.DecodeRuneInString AT EVERY STRING.** (LAID: no walk: one application.) -/
theorem Tryz.utf8_DecodeRuneInString (s : ByteArray) (w : World) (hT : Lib.Utf8Tabs 1 2 w) :
    Calls Tryz.prog 119 #[.string s] w fun e w' => e = .returned (.tuple #[.int .i32 (Lib.decodeGo s).1, .int .i64 (Lib.decodeGo s).2]) ∧ Below w.heap.size w w' := Any.utf8_DecodeRuneInString Tryz.lays197 s w hT
open Go.RowKit Go.Sort in
/-- .. and plain. (LAID: no walk: one application.) -/
theorem Tryz.slices_Sort_string_none (p : Option Addr) (cap : Nat) (w : World) :
    Calls Tryz.prog 45 #[.slice p 0 cap] w fun e w' => e = .returned (.tuple #[]) ∧ w' = w := Any.slices_Sort_string_none Tryz.lays190 p cap w
end Go.Proofs
/-
  Chapter 4, the program's UnpackKey: the key that a number has, or none. It makes new memory and turns none that was there.
-/
namespace Go.Proofs.YtlnkjpacjbhncaaGreatDoor
open Go.RowKit M
set_option linter.unusedVariables false
/-- The four bytes of a number; none where it has more, or is negative. -/
def four (n : Int) : ByteArray := if 0 ≤ n ∧ n ≤ 4294967295 then fxs n.toNat 4 else ⟨#[]⟩
theorem iFx4 (n : Int) (w : World) (h0 : -9223372036854775808 ≤ n) (h1 : n ≤ 9223372036854775807) :
    Calls Tryz.prog 82 #[.int .i64 n, .int .i64 4] w (Gives (.string (four n)) w) := by
  by_cases h : 0 ≤ n
  · obtain ⟨m, rfl⟩ := Int.eq_ofNat_of_zero_le h
    by_cases k : 256 ^ 4 ≤ m
    · have e : four (m : Int) = ⟨#[]⟩ := if_neg (by omega)
      rw [e]
      exact (iFx_big m 4 w (by omega) (by decide) (by decide) k).mono fun _ _ q => gives_same q
    · have e : four (m : Int) = fxs m 4 := if_pos (by omega)
      rw [e]
      exact (iFx_good m 4 w (by omega) (by decide) (by decide) k).mono fun _ _ q => q
  · have e : four n = ⟨#[]⟩ := if_neg (by omega)
    rw [e]
    exact (iFx_bad n 4 w (by omega)).mono fun _ _ q => gives_same q
theorem u8_zero (m : Nat) : (UInt8.ofNat m == 0) = decide (m % 256 = 0) := by
  by_cases h : m % 256 = 0
  · rw [decide_eq_true h, beq_iff_eq]
    apply UInt8.toNat_inj.1
    simpa using h
  · rw [decide_eq_false h, beq_eq_false_iff_ne]
    intro e
    apply h
    have := congrArg UInt8.toNat e
    simpa using this
theorem trim_fx {n : Nat} (h : n ≤ 4294967295) : Lib.trimLeftB (fx n 4) 0 = fx n (nbV n) := by
  have hd : n / 256 ^ 3 = n / 16777216 ∧ n / 256 ^ 2 = n / 65536 ∧ n / 256 ^ 1 = n / 256 ∧ n / 256 ^ 0 = n := ⟨rfl, rfl, rfl, by simp⟩
  by_cases h0 : n = 0
  · subst h0; decide
  · by_cases h1 : n < 256
    · rw [nb_1 (by omega)]
      have a3 : decide (dv n 3 % 256 = 0) = true := decide_eq_true (by unfold dv; omega)
      have a2 : decide (dv n 2 % 256 = 0) = true := decide_eq_true (by unfold dv; omega)
      have a1 : decide (dv n 1 % 256 = 0) = true := decide_eq_true (by unfold dv; omega)
      have a0 : decide (dv n 0 % 256 = 0) = false := decide_eq_false (by unfold dv; omega)
      simp [fx, Lib.trimLeftB, List.dropWhile, u8_zero, a3, a2, a1, a0, -decide_eq_true_eq, -decide_eq_false_iff_not]
    · by_cases h2 : n < 65536
      · rw [nb_2 (by omega)]
        have a3 : decide (dv n 3 % 256 = 0) = true := decide_eq_true (by unfold dv; omega)
        have a2 : decide (dv n 2 % 256 = 0) = true := decide_eq_true (by unfold dv; omega)
        have a1 : decide (dv n 1 % 256 = 0) = false := decide_eq_false (by unfold dv; omega)
        simp [fx, Lib.trimLeftB, List.dropWhile, u8_zero, a3, a2, a1, -decide_eq_true_eq, -decide_eq_false_iff_not]
      · by_cases h3 : n < 16777216
        · rw [nb_3 (by omega)]
          have a3 : decide (dv n 3 % 256 = 0) = true := decide_eq_true (by unfold dv; omega)
          have a2 : decide (dv n 2 % 256 = 0) = false := decide_eq_false (by unfold dv; omega)
          simp [fx, Lib.trimLeftB, List.dropWhile, u8_zero, a3, a2, -decide_eq_true_eq, -decide_eq_false_iff_not]
        · rw [nb_4 (by omega)]
          have a3 : decide (dv n 3 % 256 = 0) = false := decide_eq_false (by unfold dv; omega)
          simp [fx, Lib.trimLeftB, u8_zero, a3, -decide_eq_true_eq, -decide_eq_false_iff_not]
/-- What stands behind the zeros. -/
def bare (n : Int) : ByteArray := ⟨(Lib.trimLeftB (four n).data.toList 0).toArray⟩
theorem bare_in {n : Int} (h : 0 ≤ n ∧ n ≤ 4294967295) : bare n = unb n.toNat := by
  have e : four n = fxs n.toNat 4 := if_pos h
  have t := trim_fx (n := n.toNat) (by omega)
  unfold bare
  rw [e, show (fxs n.toNat 4).data.toList = fx n.toNat 4 from rfl, t]
  rfl
theorem bare_out {n : Int} (h : ¬ (0 ≤ n ∧ n ≤ 4294967295)) : bare n = ⟨#[]⟩ := by
  have e : four n = ⟨#[]⟩ := if_neg h
  unfold bare; rw [e]; rfl
theorem bare_size (n : Int) : (bare n).size ≤ 4 := by
  by_cases h : 0 ≤ n ∧ n ≤ 4294967295
  · rw [bare_in h, unb_size]; exact nbV_le _
  · rw [bare_out h]; exact Nat.zero_le _
theorem key_empty : keyOkV ⟨#[]⟩ = false := by decide
theorem unV_bare (n : Int) : unV n = if keyOkV (bare n) = true then some (bare n) else none := by
  by_cases h : 1 ≤ n ∧ n ≤ 4294967295
  · rw [bare_in (by omega)]; exact if_pos h
  · have e : unV n = none := if_neg h
    by_cases h' : 0 ≤ n ∧ n ≤ 4294967295
    · obtain rfl : n = 0 := by omega
      rw [e, bare_in h']
      rfl
    · rw [e, bare_out h', key_empty]; rfl
set_option maxRecDepth 100000 in
theorem iUnpack_any (w : World) (n : Int) (h0 : -9223372036854775808 ≤ n) (h1 : n ≤ 9223372036854775807) :
    Calls Tryz.prog 59 #[.int .i64 n] w (Gives (unT (unV n)) w) := by
  have HF := Lib.hid (iFx4 n w h0 h1)
  have HT := fun W => Lib.hid (Tryz.strings_TrimLeft_one (four n) 0 (by decide) W)
  have hs : (bare n).size ≤ maxLen := by have := bare_size n; unfold maxLen; omega
  have HK := fun W => Lib.hid (iKeyOk_same W (bare n) hs)
  have E := Lib.hid (unV_bare n)
  have HB := Lib.hid (show (⟨(Lib.trimLeftB (four n).data.toList 0).toArray⟩ : ByteArray) = bare n from rfl)
  rw [HB.out] at HT
  clear HB hs
  generalize bare n = s at *
  generalize four n = f at *
  cases hk : keyOkV s with
  | false =>
    rw [hk] at HK
    rw [if_neg (by rw [hk]; simp)] at E
    clear hk
    go_enter Tryz.func59, Tryz.ntmps59
    go_wp2_with fail
    refine HF.out.mono ?_
    rintro e w1 ⟨rfl, hb1⟩
    go_wp2_with fail
    refine (HT w1).out.mono ?_
    rintro e w2 ⟨rfl, rfl⟩
    go_wp2_with fail
    refine (HK _).out.mono ?_
    rintro e w3 ⟨rfl, rfl⟩
    go_wp2_with fail
    go_ret2
    exact ⟨by rw [E.out]; rfl, hb1⟩
  | true =>
    rw [hk] at HK
    rw [if_pos hk] at E
    clear hk
    go_enter Tryz.func59, Tryz.ntmps59
    go_wp2_with fail
    refine HF.out.mono ?_
    rintro e w1 ⟨rfl, hb1⟩
    go_wp2_with fail
    refine (HT w1).out.mono ?_
    rintro e w2 ⟨rfl, rfl⟩
    go_wp2_with fail
    refine (HK _).out.mono ?_
    rintro e w3 ⟨rfl, rfl⟩
    go_wp2_with fail
    go_ret2
    exact ⟨by rw [E.out]; rfl, hb1⟩
end Go.Proofs.YtlnkjpacjbhncaaGreatDoor
/-
  Chapter 5, the program's Untag: the key and the kind of a number, or none. It makes new memory and turns none that was there.
-/
namespace Go.Proofs.YtlnkjpacjbhncaaGreatDoor
open Go.RowKit M
set_option linter.unusedVariables false
theorem untagV_pos {n : Int} (h : 0 ≤ n) : untagV n = (match unV (n / 4) with | some s => if 1 ≤ n % 4 then some (s, n % 4) else none | none => none) := by
  by_cases hn : 1 ≤ n ∧ n ≤ 17179869183
  · exact if_pos hn
  · have e : unV (n / 4) = none := if_neg (by omega)
    rw [e]
    exact if_neg hn
theorem unV_low {n : Int} (h : n ≤ 0) : unV n = none := if_neg (by omega)
set_option maxRecDepth 100000 in
theorem iUntag_any (w : World) (n : Int) (h0 : -9223372036854775808 ≤ n) (h1 : n ≤ 9223372036854775807) :
    Calls Tryz.prog 41 #[.int .i64 n] w (Gives (untT (untagV n)) w) := by
  by_cases hn : 0 ≤ n
  · have E := untagV_pos hn
    have HU := Lib.hid (iUnpack_any w (n / 4) (by omega) (by omega))
    have m0 : 0 ≤ n % 4 := by omega
    have m3 : n % 4 ≤ 3 := by omega
    cases hu : unV (n / 4) with
    | none =>
      rw [hu] at E
      rw [hu, unT_none] at HU
      have HE := Lib.hid E
      clear hu E
      go_enter Tryz.func41, Tryz.ntmps41
      go_wp2_with (go_at_call 59; refine HU.out.mono ?_; rintro e w2 ⟨rfl, hb⟩)
      go_ret2
      exact ⟨by rw [HE.out]; rfl, hb⟩
    | some s =>
      rw [hu] at E
      rw [hu, unT_some] at HU
      simp only at E
      by_cases hr : 1 ≤ n % 4
      · rw [if_pos hr] at E
        have HE := Lib.hid E
        clear hu E
        go_enter Tryz.func41, Tryz.ntmps41
        go_wp2_with (first | (go_at_call 59; refine HU.out.mono ?_; rintro e w2 ⟨rfl, hb⟩) | (go_at_call 60; refine (isKind_yes _ _ (by omega) (by omega)).mono ?_; rintro e w' ⟨rfl, rfl⟩))
        go_ret2
        exact ⟨by rw [HE.out]; rfl, hb⟩
      · rw [if_neg hr] at E
        have HE := Lib.hid E
        clear hu E
        go_enter Tryz.func41, Tryz.ntmps41
        go_wp2_with (first | (go_at_call 59; refine HU.out.mono ?_; rintro e w2 ⟨rfl, hb⟩) | (go_at_call 60; refine (isKind_no _ _ (by omega)).mono ?_; rintro e w' ⟨rfl, rfl⟩))
        go_ret2
        exact ⟨by rw [HE.out]; rfl, hb⟩
  · have E := Lib.hid (show untagV n = none from if_neg (by omega))
    have hq : n.tdiv 4 ≤ 0 := by
      have := Int.tdiv_nonneg (a := -n) (b := 4) (by omega) (by omega)
      rw [Int.neg_tdiv] at this; omega
    have hq2 : -9223372036854775808 ≤ n.tdiv 4 := by
      have : (-n).tdiv 4 = (-n) / 4 := Int.tdiv_eq_ediv_of_nonneg (by omega)
      rw [Int.neg_tdiv] at this; omega
    have HU := Lib.hid (iUnpack_any w (n.tdiv 4) hq2 (by omega))
    rw [unV_low hq, unT_none] at HU
    clear hq
    go_enter Tryz.func41, Tryz.ntmps41
    go_wp2_with (go_at_call 59; refine HU.out.mono ?_; rintro e w2 ⟨rfl, hb⟩)
    go_ret2
    exact ⟨by rw [E.out]; rfl, hb⟩
end Go.Proofs.YtlnkjpacjbhncaaGreatDoor
/-
  Chapter 3, the program's: each function of a cell's number answers what the plain words say, and leaves the world alone.
-/
namespace Go.Proofs.YtlnkjpacjbhncaaGreatDoor
open Go.RowKit M
set_option linter.unusedVariables false
theorem iKey_any (x : Int) (w : World) : Calls Tryz.prog 40 #[.int .i64 x] w (Same w (.int .i64 (keyV x))) := by
  by_cases h : 0 ≤ x ∧ x ≤ 3
  · have E := Lib.hid (keyV_yes h)
    obtain ⟨h0, h1⟩ := h
    go_enter Tryz.func40, Tryz.ntmps40
    go_wp2_with (go_at_call 58; first | (refine (isIdx_yes _ _ _ (by omega) (by omega)).mono ?_; rintro e w' ⟨rfl, rfl⟩) | (refine (isIdx_no _ _ _ (by omega)).mono ?_; rintro e w' ⟨rfl, rfl⟩))
    go_ret
    exact ⟨ret_i (by rw [E.out]), rfl⟩
  · have E := Lib.hid (keyV_no h)
    go_enter Tryz.func40, Tryz.ntmps40
    go_wp2_with (go_at_call 58; first | (refine (isIdx_yes _ _ _ (by omega) (by omega)).mono ?_; rintro e w' ⟨rfl, rfl⟩) | (refine (isIdx_no _ _ _ (by omega)).mono ?_; rintro e w' ⟨rfl, rfl⟩))
    go_ret
    exact ⟨ret_i (by rw [E.out]), rfl⟩
theorem iBase_any (b s : Int) (w : World) : Calls Tryz.prog 61 #[.int .i64 b, .int .i64 s] w (Same w (.int .i64 (cellV b s 0))) := by
  by_cases h : 0 ≤ b ∧ b ≤ 1
  · by_cases h' : 0 ≤ s ∧ s ≤ 3
    · have E := Lib.hid (cellV_yes (k := 0) h h')
      obtain ⟨h0, h1⟩ := h
      obtain ⟨h2, h3⟩ := h'
      go_enter Tryz.func61, Tryz.ntmps61
      go_wp2_with (go_at_call 58; first | (refine (isIdx_yes _ _ _ (by omega) (by omega)).mono ?_; rintro e w' ⟨rfl, rfl⟩) | (refine (isIdx_no _ _ _ (by omega)).mono ?_; rintro e w' ⟨rfl, rfl⟩))
      go_ret
      exact ⟨ret_i (by rw [E.out, Int.add_zero]), rfl⟩
    · have E := Lib.hid (cellV_noS (b := b) (k := 0) h')
      obtain ⟨h0, h1⟩ := h
      go_enter Tryz.func61, Tryz.ntmps61
      go_wp2_with (go_at_call 58; first | (refine (isIdx_yes _ _ _ (by omega) (by omega)).mono ?_; rintro e w' ⟨rfl, rfl⟩) | (refine (isIdx_no _ _ _ (by omega)).mono ?_; rintro e w' ⟨rfl, rfl⟩))
      go_ret
      exact ⟨ret_i (by rw [E.out]), rfl⟩
  · have E := Lib.hid (cellV_noB (s := s) (k := 0) h)
    go_enter Tryz.func61, Tryz.ntmps61
    go_wp2_with (go_at_call 58; first | (refine (isIdx_yes _ _ _ (by omega) (by omega)).mono ?_; rintro e w' ⟨rfl, rfl⟩) | (refine (isIdx_no _ _ _ (by omega)).mono ?_; rintro e w' ⟨rfl, rfl⟩))
    go_ret
    exact ⟨ret_i (by rw [E.out]), rfl⟩
end Go.Proofs.YtlnkjpacjbhncaaGreatDoor
/-
  Contracts of chapter 2, the model's and the program's: looking at a cell; copying the row.
-/
namespace Go.Proofs.YtlnkjpacjbhncaaGreatDoor
open Go.RowKit M
set_option linter.unusedVariables false
end Go.Proofs.YtlnkjpacjbhncaaGreatDoor
/-
  Contracts of chapter 2, the model's and the program's: storing into a cell, at once, by comparison, by exchange, by a sum; comparing two rows.
-/
namespace Go.Proofs.YtlnkjpacjbhncaaGreatDoor
open Go.RowKit M
set_option linter.unusedVariables false
/-- A call hands back a new row that reads zs, and r beside it; it turns nothing that was there. -/
def TupI (w : World) (zs : List Int) (r : Value) (e : Ending) (w' : World) : Prop := ∃ v, e = .returned (.tuple #[v, r]) ∧ OwnI w' w.heap.size v zs ∧ Below w.heap.size w w'
/-- What a store makes of the row. -/
def storeC (zs : List Int) (i n : Int) : List Int := if atC zs i && isW n then zs.set i.toNat n else zs
def storeOk (zs : List Int) (i n : Int) : Bool := atC zs i && isW n
theorem store_yes {zs : List Int} {i n : Int} (h : storeOk zs i n = true) : storeC zs i n = zs.set i.toNat n := if_pos h
theorem store_no {zs : List Int} {i n : Int} (h : storeOk zs i n = false) : storeC zs i n = zs := if_neg (by unfold storeOk at h; rw [h]; decide)
theorem storeC_length (zs : List Int) (i n : Int) : (storeC zs i n).length = zs.length := by unfold storeC; split <;> simp
end Go.Proofs.YtlnkjpacjbhncaaGreatDoor
/-
  Contracts of chapter 2, the model's and the program's: exchange, comparison and exchange, sum; comparing two rows.
-/
namespace Go.Proofs.YtlnkjpacjbhncaaGreatDoor
open Go.RowKit M
set_option linter.unusedVariables false
theorem below_drewN {B : Nat} {a w : World} (h : Below B a w) (n : Nat) : Below B a (w.drewN n) := ⟨h.os, h.tape, h.output, h.size, h.block⟩
theorem OwnI.drewN {w : World} {base : Nat} {v : Value} {zs : List Int} (h : OwnI w base v zs) (n : Nat) : OwnI (w.drewN n) base v zs := h
/-- What an exchange answers beside the row. -/
def swapR (zs : List Int) (i n : Int) : Int := if storeOk zs i n then zs.getD i.toNat 0 else -1
/-- What comparison and exchange makes of the row, and answers beside it. -/
def casOk (zs : List Int) (i old : Int) : Bool := atC zs i && (zs.getD i.toNat 0 == old)
def casC (zs : List Int) (i old tw : Int) : List Int := if casOk zs i old then storeC zs i tw else zs
def casR (zs : List Int) (i old tw : Int) : Bool := casOk zs i old && storeOk zs i tw
theorem casC_length (zs : List Int) (i o n : Int) : (casC zs i o n).length = zs.length := by unfold casC; split <;> simp [storeC_length]
end Go.Proofs.YtlnkjpacjbhncaaGreatDoor
/-
  Two rows compared by their keys, as the program hands it to the library.
-/
namespace Go.Proofs.YtlnkjpacjbhncaaGreatDoor
open Go.RowKit M
set_option linter.unusedVariables false
set_option linter.unusedSimpArgs false
/-- Which of two strings comes first: -1, 0 or 1. -/
def cmpV (a b : ByteArray) : Int := Lib.compareBytes a.data.toList b.data.toList
theorem compare_less : ∀ (a b : List UInt8), decide (Lib.compareBytes a b < 0) = Go.Op.bytesLess a b
  | [], [] => rfl
  | [], _ :: _ => rfl
  | _ :: _, [] => rfl
  | a :: x, b :: y => by
    have ih := compare_less x y
    simp only [Lib.compareBytes, Go.Op.bytesLess]
    by_cases h : a < b
    · simp [h]
    · by_cases h2 : b < a
      · have hne : (a == b) = false := by rw [beq_eq_false_iff_ne]; intro e; subst e; exact h h2
        simp [h, h2, hne]
      · have e : a = b := by
          have a1 : ¬ a.toNat < b.toNat := h
          have a2 : ¬ b.toNat < a.toNat := h2
          exact UInt8.toNat_inj.1 (by omega)
        subst e
        simp [h, ih]
theorem cmpV_less (a b : ByteArray) : decide (cmpV a b < 0) = strLt a b := by
  unfold cmpV strLt
  rw [compare_less, Lib.toList_data, Lib.toList_data]
set_option maxRecDepth 100000 in
theorem iCompareString (w : World) (a b : ByteArray) : Calls Tryz.prog 88 #[.string a, .string b] w (Same w (.int .i64 (cmpV a b))) := by
  go_enter Tryz.func88, Tryz.ntmps88
  go_wp2
  rw [run_callFunc_extern Tryz.func110 (by kernel_rfl) (by kernel_rfl) (by kernel_rfl) (e := Extern.BytealgCompare.compare) (by kernel_rfl), Lib.run_compareString]
  simp only [Result.andThen]
  rw [Oper.upon_value]
  have HC := Lib.hid (show Ending.returned (.int .i64 (Lib.compareBytes a.data.toList b.data.toList)) = .returned (.int .i64 (cmpV a b)) from rfl)
  generalize cmpV a b = c at *
  generalize Lib.compareBytes a.data.toList b.data.toList = d at *
  go_wp2
  go_ret
  exact ⟨HC.out, rfl⟩
set_option maxRecDepth 100000 in
theorem iCompare (w : World) (a b : ByteArray) : Calls Tryz.prog 68 #[.string a, .string b] w (Same w (.int .i64 (cmpV a b))) := by
  have HC := fun W => Lib.hid (iCompareString W a b)
  generalize cmpV a b = c at *
  go_enter Tryz.func68, Tryz.ntmps68
  go_wp2_with fail
  refine (HC _).out.mono ?_
  rintro e w2 ⟨rfl, rfl⟩
  go_wp2_with fail
  go_ret
  exact ⟨rfl, rfl⟩
set_option maxRecDepth 100000 in
set_option maxHeartbeats 4000000 in
theorem iCmp_any (w : World) (r s : R) : Calls Tryz.prog 67 #[r.v, s.v] w (Gives (.int .i64 (cmpV r.key s.key)) w) := by
  obtain ⟨key, kind, sum, st, last, n, mn, mx, total, dropped⟩ := r
  obtain ⟨key', kind', sum', st', last', n', mn', mx', total', dropped'⟩ := s
  have HC := fun W => Lib.hid (iCompare W key key')
  unfold R.v
  simp only
  generalize cmpV key key' = c at *
  go_enter Tryz.func67, Tryz.ntmps67
  go_wp2_with fail
  refine (HC _).out.mono ?_
  rintro e w2 ⟨rfl, rfl⟩
  go_wp2_with fail
  go_ret
  exact ⟨rfl, ((Below.refl _ _).alloc (Nat.le_refl _) _).alloc (by simp [go_sem]) _⟩
set_option maxRecDepth 100000 in
set_option maxHeartbeats 4000000 in
theorem iEq_any (w : World) (r s : R) : Calls Tryz.prog 70 #[r.v, s.v] w (Gives (.bool (decide (r.key = s.key))) w) := by
  obtain ⟨key, kind, sum, st, last, n, mn, mx, total, dropped⟩ := r
  obtain ⟨key', kind', sum', st', last', n', mn', mx', total', dropped'⟩ := s
  unfold R.v
  simp only
  by_cases h : key = key'
  · subst h
    have hd : decide (key = key) = true := by simp
    rw [hd]
    have hs := txt_self key
    go_enter Tryz.func70, Tryz.ntmps70
    go_wp2_with fail
    go_ret
    exact ⟨rfl, ((Below.refl _ _).alloc (Nat.le_refl _) _).alloc (by simp [go_sem]) _⟩
  · have hd : decide (key = key') = false := by simp [h]
    rw [hd]
    have hs := txt_ne h
    clear h hd
    go_enter Tryz.func70, Tryz.ntmps70
    go_wp2_with fail
    go_ret
    exact ⟨rfl, ((Below.refl _ _).alloc (Nat.le_refl _) _).alloc (by simp [go_sem]) _⟩
end Go.Proofs.YtlnkjpacjbhncaaGreatDoor
/-
  Plain mathematics of reading a varint, with no program in sight: how many bytes of a string are the varint of the number that they say, and which number.
-/
namespace Go.Proofs.YtlnkjpacjbhncaaGreatDoor.M
open Go.RowKit
theorem len_data (s : ByteArray) : s.data.toList.length = s.size := Array.length_toList
/-- The number of a varint's bytes, least significant group first, high bits ignored. -/
def val : List UInt8 → Nat
  | [] => 0
  | c :: l => c.toNat % 128 + 128 * val l
theorem val_append (l m : List UInt8) : val (l ++ m) = val l + 128 ^ l.length * val m := by
  induction l with
  | nil => simp [val]
  | cons c l ih =>
    simp only [List.cons_append, val, ih, List.length_cons, Nat.pow_succ, Nat.mul_add, Nat.mul_assoc, Nat.mul_comm, Nat.add_assoc]
theorem val_lt (l : List UInt8) : val l < 128 ^ l.length := by
  induction l with
  | nil => simp [val]
  | cons c l ih =>
    have : c.toNat % 128 < 128 := Nat.mod_lt _ (by decide)
    simp only [val, List.length_cons, Nat.pow_succ]
    omega
theorem val_take_le (l : List UInt8) (k : Nat) (h : k ≤ 7) : val (l.take k) ≤ 562949953421311 := by
  have h1 := val_lt (l.take k)
  have h2 : (l.take k).length ≤ 7 := Nat.le_trans (List.length_take_le _ _) h
  have h3 : 128 ^ (l.take k).length ≤ 128 ^ 7 := Nat.pow_le_pow_right (by decide) h2
  have h4 : (128 : Nat) ^ 7 = 562949953421312 := by decide
  omega
theorem val_take (s : ByteArray) (k : Nat) (h : k < s.size) : val (s.data.toList.take (k + 1)) = val (s.data.toList.take k) + 128 ^ k * (s[k].toNat % 128) := by
  rw [take_snoc s k h, val_append]
  have : (s.data.toList.take k).length = k := by rw [List.length_take, len_data]; omega
  rw [this]
  simp [val]
theorem val_drop (s : ByteArray) (k j : Nat) (hk : k ≤ s.size) (h : j < k) : val ((s.data.toList.take k).drop j) = s[j].toNat % 128 + 128 * val ((s.data.toList.take k).drop (j + 1)) := by
  have hl : j < (s.data.toList.take k).length := by rw [List.length_take, len_data]; omega
  rw [List.drop_eq_getElem_cons hl, val]
  simp only [List.getElem_take]
  rfl
theorem val_drop_lt (s : ByteArray) (k j : Nat) (h7 : k ≤ 7) : val ((s.data.toList.take k).drop j) ≤ 562949953421311 := by
  have h1 := val_lt ((s.data.toList.take k).drop j)
  have h2 : ((s.data.toList.take k).drop j).length ≤ 7 := by rw [List.length_drop, List.length_take]; omega
  have h3 : 128 ^ ((s.data.toList.take k).drop j).length ≤ 128 ^ 7 := Nat.pow_le_pow_right (by decide) h2
  have h4 : (128 : Nat) ^ 7 = 562949953421312 := by decide
  omega
theorem take_all (s : ByteArray) : s.data.toList.take s.size = s.data.toList := List.take_of_length_le (Nat.le_of_eq (len_data s))
/-- The first k bytes are the varint of their number. -/
def good (l : List UInt8) (k : Nat) : Bool := vb 6 (val (l.take k)) == l.take k
/-- How many bytes of l are a varint (0: it begins with none). -/
def rvK (l : List UInt8) : Nat := ((List.range 8).find? fun k => decide (1 ≤ k) && (decide (k ≤ l.length) && good l k)).getD 0
def rvN (l : List UInt8) : Nat := if rvK l = 0 then 0 else val (l.take (rvK l))
theorem rvK_first (l : List UInt8) (k : Nat) (h1 : 1 ≤ k) (h7 : k ≤ 7) (hk : k ≤ l.length) (hg : good l k = true) (hn : ∀ j, 1 ≤ j → j < k → good l j = false) : rvK l = k := by
  unfold rvK
  have : (List.range 8).find? (fun k => decide (1 ≤ k) && (decide (k ≤ l.length) && good l k)) = some k := by
    rw [List.find?_range_eq_some]
    refine ⟨by simp [h1, hk, hg], by simp; omega, ?_⟩
    intro j hj
    by_cases h : 1 ≤ j
    · simp [hn j h hj]
    · simp [h]
  rw [this]; rfl
theorem rvK_none (l : List UInt8) (hn : ∀ j, 1 ≤ j → j ≤ 7 → j ≤ l.length → good l j = false) : rvK l = 0 := by
  unfold rvK
  have : (List.range 8).find? (fun k => decide (1 ≤ k) && (decide (k ≤ l.length) && good l k)) = none := by
    rw [List.find?_range_eq_none]
    intro j hj
    by_cases h : 1 ≤ j
    · by_cases hl : j ≤ l.length
      · simp [hn j h (by omega) hl]
      · simp [hl]
    · simp [h]
  rw [this]; rfl
theorem vb_high (f : Nat) : ∀ (n i : Nat) (c : UInt8), (vb f n)[i]? = some c → i + 1 < (vb f n).length → 128 ≤ c.toNat := by
  induction f with
  | zero => intro n i c _ h; simp [vb] at h
  | succ f ih =>
    intro n i c hc h
    by_cases hn : n < 128
    · rw [vb_small _ _ hn] at h; simp at h
    · rw [vb_big _ _ hn] at h hc
      cases i with
      | zero =>
        obtain rfl : UInt8.ofNat (128 + n % 128) = c := by simpa using hc
        simp; omega
      | succ i =>
        simp only [List.getElem?_cons_succ, List.length_cons] at hc h
        exact ih _ i c hc (by omega)
theorem vb_low (f : Nat) : ∀ (n i : Nat) (c : UInt8), n < 128 ^ (f + 1) → (vb f n)[i]? = some c → i + 1 = (vb f n).length → c.toNat < 128 := by
  induction f with
  | zero =>
    intro n i c hn hc h
    simp [vb] at h hn hc
    subst h
    obtain rfl : UInt8.ofNat n = c := by simpa using hc
    simp; omega
  | succ f ih =>
    intro n i c hb hc h
    by_cases hn : n < 128
    · rw [vb_small _ _ hn] at h hc
      simp at h
      subst h
      obtain rfl : UInt8.ofNat n = c := by simpa using hc
      simp; omega
    · rw [vb_big _ _ hn] at h hc
      cases i with
      | zero => have := (vb_le f (n / 128)).1; simp only [List.length_cons] at h; omega
      | succ i =>
        simp only [List.getElem?_cons_succ, List.length_cons] at hc h
        exact ih _ i c (by rw [Nat.pow_succ] at hb; omega) hc (by omega)
/-- Where the first k bytes are a varint, the last of them has no high bit and all others have it. -/
theorem good_high (l : List UInt8) (k i : Nat) (c : UInt8) (hk : k ≤ l.length) (hg : good l k = true) (hc : l[i]? = some c) (hi : i + 1 < k) : 128 ≤ c.toNat := by
  have h : vb 6 (val (l.take k)) = l.take k := by simpa [good] using hg
  have hc' : (l.take k)[i]? = some c := by rw [List.getElem?_take_of_lt (by omega)]; exact hc
  rw [← h] at hc'
  exact vb_high 6 _ i c hc' (by rw [h, List.length_take]; omega)
theorem good_low (l : List UInt8) (k i : Nat) (c : UInt8) (hk : k ≤ l.length) (h7 : k ≤ 7) (hg : good l k = true) (hc : l[i]? = some c) (hi : i + 1 = k) : c.toNat < 128 := by
  have h : vb 6 (val (l.take k)) = l.take k := by simpa [good] using hg
  have hc' : (l.take k)[i]? = some c := by rw [List.getElem?_take_of_lt (by omega)]; exact hc
  rw [← h] at hc'
  refine vb_low 6 _ i c ?_ hc' (by rw [h, List.length_take]; omega)
  have := val_take_le l k h7
  have h4 : (128 : Nat) ^ 7 = 562949953421312 := by decide
  show _ < 128 ^ 7
  omega
theorem extract_front (s : ByteArray) (k : Nat) : (s.extract 0 k).toList = s.data.toList.take k := by
  simp [ByteArray.toList_eq, ByteArray.data_extract, Array.toList_extract]
theorem good_eq (s : ByteArray) (k : Nat) : ((vbs (val (s.data.toList.take k))).toList == (s.extract 0 k).toList) = good s.data.toList k := by
  rw [extract_front]
  have : (vbs (val (s.data.toList.take k))).toList = vb 6 (val (s.data.toList.take k)) := ByteArray.toList_mk _
  rw [this]; rfl
theorem u8_and127 (x : Nat) (h : x < 256) : bits .and .u8 (x : Int) 127 = (x : Int) % 128 :=
  bits_mask .u8 8 (by decide) wraps_u8 7 (by decide) _ (by omega) (by omega)
theorem wrap64_small (n : Int) (h0 : 0 ≤ n) (h1 : n < 9223372036854775808) : wrap64 n = n := by unfold wrap64; omega
/-- Or-ing seven bits onto a number below them adds them. -/
theorem or_val (v c j : Nat) (hv : v < 128 ^ j) (hj : j < 7) : bits .or .i64 (v : Int) (wrap64 ((c : Int) % 128 * 2 ^ (7 * j))) = ((v + 128 ^ j * (c % 128) : Nat) : Int) := by
  have hp : (2 : Int) ^ (7 * j) = ((128 ^ j : Nat) : Int) := by rw [Int.pow_mul, Int.natCast_pow]; rfl
  have hm : c % 128 < 128 := Nat.mod_lt _ (by decide)
  have hle : 128 ^ j ≤ 128 ^ 6 := Nat.pow_le_pow_right (by decide) (by omega)
  have h6 : (128 : Nat) ^ 6 = 4398046511104 := by decide
  have hx : 128 ^ j * (c % 128) ≤ 4398046511104 * 127 := Nat.mul_le_mul (by omega) (by omega)
  have e : (c : Int) % 128 * 2 ^ (7 * j) = ((128 ^ j * (c % 128) : Nat) : Int) := by
    rw [hp, Int.natCast_mul, Int.mul_comm]; rfl
  rw [e, wrap64_small _ (by omega) (by omega)]
  have hcomm : ∀ a b : Int, bits .or .i64 a b = bits .or .i64 b a := fun a b => by simp only [bits, BitVec.or_comm]
  rw [hcomm, bits_join .i64 63 (by decide) wraps_i64 (7 * j) _ _ (by omega) ?_ (by omega) (by omega) ?_ (by omega)]
  · rw [← Int.natCast_add, Nat.add_comm]
  · rw [hp, ← Int.natCast_emod, Nat.mul_mod_right]; rfl
  · rw [hp]; omega
/-- The first p bytes all have the high bit. -/
def HighTo (l : List UInt8) (p : Nat) : Prop := ∀ (i : Nat) (c : UInt8), i < p → l[i]? = some c → 128 ≤ c.toNat
theorem HighTo.bad {l : List UInt8} {p j : Nat} (h : HighTo l p) (h1 : 1 ≤ j) (h7 : j ≤ 7) (hj : j ≤ p) (hl : j ≤ l.length) : good l j = false := by
  cases hg : good l j with
  | false => rfl
  | true =>
    exfalso
    have hlt : j - 1 < l.length := by omega
    have hc := List.getElem?_eq_getElem hlt
    have h2 := good_low l j (j - 1) _ hl h7 hg hc (by omega)
    have h3 := h (j - 1) _ (by omega) hc
    omega
theorem HighTo.succ {s : ByteArray} {p : Nat} (h : HighTo s.data.toList p) (hp : p < s.size) (hc : 127 < s[p].toNat) : HighTo s.data.toList (p + 1) := by
  intro i c hi hget
  rcases Nat.lt_or_ge i p with h1 | h1
  · exact h i c h1 hget
  · obtain rfl : i = p := by omega
    have e : s.data.toList[i]? = some s[i] := by rw [List.getElem?_eq_getElem (by rw [len_data]; exact hp)]; rfl
    rw [e] at hget
    obtain rfl : s[i] = c := by simpa using hget
    omega
theorem get_data (s : ByteArray) (p : Nat) (hp : p < s.size) : s.data.toList[p]? = some s[p] := by
  rw [List.getElem?_eq_getElem (by rw [len_data]; exact hp)]; rfl
theorem val_take_lt (l : List UInt8) (k : Nat) : val (l.take k) < 128 ^ k :=
  Nat.lt_of_lt_of_le (val_lt _) (Nat.pow_le_pow_right (by decide) (List.length_take_le _ _))
theorem rvK_high {l : List UInt8} {p : Nat} (h : HighTo l p) (hp : p = 7 ∨ l.length ≤ p) : rvK l = 0 :=
  rvK_none l fun j h1 h7 hl => h.bad h1 h7 (by omega) hl
theorem rvK_hit {l : List UInt8} {p : Nat} (h : HighTo l p) (h7 : p < 7) (hl : p < l.length) (hg : good l (p + 1) = true) : rvK l = p + 1 :=
  rvK_first l (p + 1) (by omega) (by omega) (by omega) hg fun j h1 hj => h.bad h1 (by omega) (by omega) (by omega)
theorem rvK_miss {l : List UInt8} {p : Nat} {c : UInt8} (h : HighTo l p) (hc : l[p]? = some c) (hlow : c.toNat < 128) (hg : good l (p + 1) = false) : rvK l = 0 := by
  refine rvK_none l fun j h1 h7 hl => ?_
  rcases Nat.lt_trichotomy j (p + 1) with hj | hj | hj
  · exact h.bad h1 h7 (by omega) hl
  · rw [hj]; exact hg
  · cases hg' : good l j with
    | false => rfl
    | true =>
      have := good_high l j p c hl hg' hc (by omega)
      omega
theorem rvN_of {l : List UInt8} {k : Nat} (h : rvK l = k) (hk : k ≠ 0) : rvN l = val (l.take k) := by unfold rvN; rw [h, if_neg hk]
theorem rvN_zero {l : List UInt8} (h : rvK l = 0) : rvN l = 0 := by unfold rvN; rw [if_pos h]
end Go.Proofs.YtlnkjpacjbhncaaGreatDoor.M
/-
  Plain mathematics of decimal numerals, with no program in sight: the numeral of a number, what reading its digits one by one comes to, and when a numeral of at most nine digits is read.
-/
namespace Go.Proofs.YtlnkjpacjbhncaaGreatDoor.M
open Go.RowKit
theorem dec_small {u : Nat} (h : u < 10) : Lib.decDigits u = [UInt8.ofNat (48 + u)] := by rw [Lib.decDigits, dif_pos h]
theorem dec_big {u : Nat} (h : ¬ u < 10) : Lib.decDigits u = Lib.decDigits (u / 10) ++ [UInt8.ofNat (48 + u % 10)] := by rw [Lib.decDigits, dif_neg h]
/-- What a call that writes the numeral of m from its last digit on knows: u is what is left, acc what lies already. -/
def DecAt (m u : Nat) (acc : List UInt8) : Prop := (u = 0 ∧ acc = Lib.decDigits m) ∨ (0 < u ∧ Lib.decDigits u ++ acc = Lib.decDigits m)
theorem DecAt.start {m : Nat} (h : 0 < m) : DecAt m m [] := Or.inr ⟨h, by simp⟩
theorem DecAt.step {m u : Nat} {acc : List UInt8} (h : DecAt m u acc) (hu : 0 < u) : DecAt m (u / 10) (UInt8.ofNat (48 + u % 10) :: acc) := by
  rcases h with ⟨h0, _⟩ | ⟨_, h1⟩
  · omega
  · by_cases hs : u < 10
    · left
      rw [dec_small hs] at h1
      rw [Nat.mod_eq_of_lt hs]
      exact ⟨by omega, by rw [← h1]; rfl⟩
    · right
      rw [dec_big hs] at h1
      exact ⟨by omega, by rw [← h1]; simp⟩
theorem DecAt.stop {m : Nat} {acc : List UInt8} (h : DecAt m 0 acc) : acc = Lib.decDigits m := by
  rcases h with ⟨_, h1⟩ | ⟨h0, _⟩
  · exact h1
  · omega
theorem nDigits_le {u : Nat} (h : u ≤ 9223372036854775808) : Lib.nDigits u ≤ 19 := by
  rcases Nat.lt_or_ge 19 (Lib.nDigits u) with hc | hc
  · exfalso
    have : ∀ k u, 10 ^ k ≤ u → k + 1 ≤ Lib.nDigits u := by
      intro k
      induction k with
      | zero => intro u _; exact Lib.nDigits_pos u
      | succ k ih =>
        intro u hu
        have h10 : ¬ u < 10 := by
          have : 10 ^ 1 ≤ 10 ^ (k + 1) := Nat.pow_le_pow_right (by decide) (by omega)
          omega
        rw [Lib.nDigits_big h10]
        have := ih (u / 10) (by rw [Nat.pow_succ] at hu; omega)
        omega
    have h2 : ∀ k u, u < 10 ^ k → 1 ≤ k → Lib.nDigits u ≤ k := by
      intro k
      induction k with
      | zero => intro u _ h; omega
      | succ k ih =>
        intro u hu _
        by_cases h10 : u < 10
        · rw [Lib.nDigits_small h10]; omega
        · rw [Lib.nDigits_big h10]
          have hk : 1 ≤ k := by
            rcases Nat.eq_zero_or_pos k with h0 | h0
            · subst h0; simp at hu; omega
            · exact h0
          have := ih (u / 10) (by rw [Nat.pow_succ] at hu; omega) hk
          omega
    have := h2 19 u (by omega) (by decide)
    omega
  · exact hc
theorem DecAt.len {m u : Nat} {acc : List UInt8} (h : DecAt m u acc) (hm : m ≤ 9223372036854775808) : acc.length ≤ 19 := by
  have hl : (Lib.decDigits m).length ≤ 19 := by rw [Lib.decDigits_length]; exact nDigits_le hm
  rcases h with ⟨_, h1⟩ | ⟨_, h1⟩
  · rw [h1]; exact hl
  · rw [← h1, List.length_append] at hl; omega
def decs (n : Int) : ByteArray := ⟨(Lib.itoa n).toArray⟩
theorem mod10_neg (u : Nat) : (-(u : Int)).tmod 10 = -((u % 10 : Nat) : Int) := by
  rw [Int.neg_tmod, Int.tmod_eq_emod_of_nonneg (by omega)]; rfl
theorem div10_neg (u : Nat) : (-(u : Int)).tdiv 10 = -((u / 10 : Nat) : Int) := by
  rw [Int.neg_tdiv, Int.tdiv_eq_ediv_of_nonneg (by omega)]; rfl
def accs (acc : List UInt8) : ByteArray := ⟨acc.toArray⟩
theorem d48 (k : Nat) : (48 : UInt8) + UInt8.ofNat k = UInt8.ofNat (48 + k) := by rw [UInt8.ofNat_add]; rfl
theorem accs_size (acc : List UInt8) : (accs acc).size = acc.length := by simp [accs, ByteArray.size]
theorem accs_cons (c : UInt8) (acc : List UInt8) : (⟨#[c]⟩ : ByteArray) ++ accs acc = accs (c :: acc) := ByteArray.mk_append_mk [c] acc
theorem decs_pos {n : Int} (h : 0 ≤ n) (acc : List UInt8) (ha : acc = Lib.decDigits n.toNat) : accs acc = decs n := by
  unfold decs Lib.itoa; rw [if_neg (by omega), ha]; rfl
theorem decs_neg {n : Int} (h : n < 0) (acc : List UInt8) (ha : acc = Lib.decDigits n.natAbs) : accs (45 :: acc) = decs n := by
  unfold decs Lib.itoa; rw [if_pos h, ha]; rfl
end Go.Proofs.YtlnkjpacjbhncaaGreatDoor.M
/-
  The exact laws' helpers on rows of strings: comparing two rows, marking a row, checking the marks.
-/
namespace Go.Proofs.YtlnkjpacjbhncaaGreatDoor
open Go.RowKit M
set_option linter.unusedVariables false
/-- The text of mark k. -/
def markV (k : Int) : ByteArray := (⟨#[109]⟩ : ByteArray) ++ decs k
theorem mark_byte (u : Nat) : UInt8.ofNat (48 + (u : Int) % 10).toNat = UInt8.ofNat (48 + u % 10) := by congr 1
set_option maxRecDepth 100000 in
set_option maxHeartbeats 400000 in
theorem markText_nat (m : Nat) (w : World) (h0 : 0 < m) (h1 : m ≤ 9223372036854775807) : Calls Tryz.prog 51 #[.int .i64 m] w (Gives (.string (markV m)) w) := by
  have hcv := conv_one
  go_enter Tryz.func51, Tryz.ntmps51
  go_wp2
  go_loopw [0, 3] (fun x o wr => ∃ (u : Nat) (acc : List UInt8), DecAt m u acc ∧ u ≤ m ∧ x = .int .i64 u ∧ o = .string (accs acc) ∧ Below w.heap.size w wr) (fun x _ _ => (intOf x).toNat)
  case atStart => exact ⟨m, [], DecAt.start h0, Nat.le_refl _, rfl, rfl, Below.refl _ _⟩
  case round =>
    obtain ⟨u, acc, hd, hu, rfl, rfl, hb⟩ := hrel
    have hl : (accs acc).size ≤ 19 := by rw [accs_size]; exact hd.len (by omega)
    by_cases hp : 0 < u
    · have hd2 := Lib.hid (hd.step hp)
      go_wp2
      go_roundw
      case rel => exact ⟨u / 10, _, hd2.out, by omega, by go_num, by rw [accs_cons, d48], hb.alloc hb.size _⟩
      case measure => simp [intOf]; omega
    · obtain rfl : u = 0 := by omega
      have HE := Lib.hid (decs_pos (n := (m : Int)) (by omega) acc (by rw [Int.toNat_natCast]; exact hd.stop))
      go_wp2
      go_ret
      exact ⟨ret_str (by rw [HE.out]; rfl), hb⟩
theorem markText_any (k : Int) (w : World) (h0 : 1 ≤ k) (h1 : k ≤ 9223372036854775807) : Calls Tryz.prog 51 #[.int .i64 k] w (Gives (.string (markV k)) w) := by
  obtain ⟨m, rfl⟩ := Int.eq_ofNat_of_zero_le (show 0 ≤ k by omega)
  exact markText_nat m w (by omega) (by omega)
/-- Marks from k on. -/
def marksT (k : Int) (n : Nat) : List ByteArray := (List.range n).map fun j : Nat => markV (k + (j : Int))
theorem marksT_length (k : Int) (n : Nat) : (marksT k n).length = n := by simp [marksT]
theorem marksT_getD (k : Int) (n j : Nat) (h : j < n) : (marksT k n).getD j ⟨#[]⟩ = markV (k + j) := by simp [marksT, List.getD_eq_getElem?_getD, h]
def mpartT (l : List ByteArray) (k : Int) (j : Nat) : List ByteArray := marksT k j ++ l.drop j
theorem mpartT_length (l : List ByteArray) (k : Int) (j : Nat) (h : j ≤ l.length) : (mpartT l k j).length = l.length := by
  simp only [mpartT, List.length_append, marksT_length, List.length_drop]; omega
theorem mpartT_zero (l : List ByteArray) (k : Int) : mpartT l k 0 = l := by simp [mpartT, marksT]
theorem mpartT_all (l : List ByteArray) (k : Int) : mpartT l k l.length = marksT k l.length := by simp [mpartT]
theorem mpartT_set (l : List ByteArray) (k : Int) (j : Nat) (h : j < l.length) : (mpartT l k j).set j (markV (k + j)) = mpartT l k (j + 1) := by
  unfold mpartT
  rw [List.set_append_right _ _ (by rw [marksT_length]; exact Nat.le_refl _), marksT_length, Nat.sub_self, List.drop_eq_getElem_cons h]
  have : marksT k (j + 1) = marksT k j ++ [markV (k + (j : Int))] := by simp [marksT, List.range_succ]
  rw [this, List.set_cons_zero, List.append_assoc]; rfl
theorem OwnT.set {w : World} {base g n cap : Nat} {l : List ByteArray} (h : OwnT w base (.slice (some ⟨g, 0, none⟩) n cap) l) (hn : l.length = n) (j : Nat) (x : ByteArray) :
    OwnT (w.setCell ⟨g, j, none⟩ (.string x)) base (.slice (some ⟨g, 0, none⟩) n cap) (l.set j x) ∧ w.grownBy (w.setCell ⟨g, j, none⟩ (.string x)) (some g) := by
  subst hn
  have hs := World.ownsRow.stored h j (.string x)
  refine ⟨?_, hs.2⟩
  unfold OwnT
  rw [List.length_set, List.map_set]
  exact hs.1
theorem OwnT.frz {w : World} {base g n cap : Nat} {l : List ByteArray} (h : OwnT w base (.slice (some ⟨g, 0, none⟩) n cap) l) (hn : l.length = n) (j : Nat) : w.frozen? ⟨g, j, none⟩ = false := by
  subst hn
  exact World.ownsRow.frozenAt h j
theorem OwnT.cell {w : World} {base g n cap : Nat} {l : List ByteArray} (h : OwnT w base (.slice (some ⟨g, 0, none⟩) n cap) l) (hn : l.length = n) (j : Nat) (hj : j < n) : w.cell? ⟨g, j, none⟩ = some (.string (l.getD j ⟨#[]⟩)) := by
  subst hn
  rw [World.ownsRow.cellAt h j (by omega), List.getElem?_map, List.getElem?_eq_getElem hj, List.getD_eq_getElem?_getD, List.getElem?_eq_getElem hj]
  rfl
def MarkedT (w : World) (base : Nat) (v : Value) (k : Int) (n : Nat) (e : Ending) (w' : World) : Prop := e = .returned (.int .i64 (k + n)) ∧ OwnT w' base v (marksT k n) ∧ w.grownBy w' v.ownBlock
theorem grown_any {w w1 w2 : World} {r : Option Nat} (h : w.grownBy w1 r) (hb : Below w1.heap.size w1 w2) : w.grownBy w2 r :=
  ⟨hb.os.trans h.os, hb.tape.trans h.tape, hb.output.trans h.output, Nat.le_trans h.size hb.size, fun i hi hne => (hb.block i (Nat.lt_of_lt_of_le hi h.size)).trans (h.block i hi hne)⟩
/-- What holds of each world in a statement that draws and calls. -/
def HeldB (w0 : World) (b : Nat) (w : World) : Prop := Below w0.heap.size w0 w ∧ b < w.heap.size
theorem heldB_next {w0 w1 w2 : World} {b i : Nat} {x : Value} (hb : Below w1.heap.size w1 w2) (h : w1.cell? ⟨b, i, none⟩ = some x ∧ HeldB w0 b w1) : w2.cell? ⟨b, i, none⟩ = some x ∧ HeldB w0 b w2 := by
  obtain ⟨h1, h2, h3⟩ := h
  exact ⟨(hb.cell (p := ⟨b, i, none⟩) h3).trans h1, h2.trans (hb.mono h2.size), Nat.lt_of_lt_of_le h3 hb.size⟩
theorem heldB_bel {w0 w : World} {b : Nat} {p : Prop} (h : p ∧ HeldB w0 b w) : Below w0.heap.size w0 w := h.2.1
/-- Two rows of which one was made behind the other lie in two blocks. -/
theorem apart_IT {w w' : World} {b0 B : Nat} {v u : Value} {xs : List Int} {l : List ByteArray} (h : OwnI w b0 v xs) (k : OwnT w' B u l) (hB : w.heap.size ≤ B) : ∀ g, v.ownBlock = some g → u.ownBlock ≠ some g := fun g hg e => by
  obtain ⟨g', hg', _, h2⟩ := h.block
  have := k.base_le g e
  rw [hg'] at hg; injection hg with hg; omega
theorem apart_TI {w w' : World} {b0 B : Nat} {v u : Value} {xs : List Int} {l : List ByteArray} (h : OwnT w b0 v l) (k : OwnI w' B u xs) (hB : w.heap.size ≤ B) : ∀ g, v.ownBlock = some g → u.ownBlock ≠ some g := fun g hg e => by
  obtain ⟨g', hg', h1, _⟩ := k.block
  have := (World.ownsRow.lt h g hg).2
  rw [hg'] at e; injection e with e; omega
theorem OwnT.apart {w w' : World} {b0 B : Nat} {v u : Value} {xs l : List ByteArray} (h : OwnT w b0 v xs) (k : OwnT w' B u l) (hB : w.heap.size ≤ B) : ∀ g, v.ownBlock = some g → u.ownBlock ≠ some g := fun g hg e => by
  have h1 := (World.ownsRow.lt h g hg).2
  have := k.base_le g e
  omega
theorem ne_of {v u : Value} (h : ∀ g, v.ownBlock = some g → u.ownBlock ≠ some g) : v.ownBlock = none ∨ v.ownBlock ≠ u.ownBlock := by
  cases e : v.ownBlock with
  | none => exact Or.inl rfl
  | some g => exact Or.inr fun x => h g e x.symm
theorem ne_sym {v u : Value} (h : ∀ g, v.ownBlock = some g → u.ownBlock ≠ some g) : u.ownBlock = none ∨ u.ownBlock ≠ v.ownBlock := by
  cases e : u.ownBlock with
  | none => exact Or.inl rfl
  | some g => exact Or.inr fun x => h g x.symm e
end Go.Proofs.YtlnkjpacjbhncaaGreatDoor
/-
  The exact laws' marks on rows of KRow, and the look whether they are held.
-/
namespace Go.Proofs.YtlnkjpacjbhncaaGreatDoor
open Go.RowKit M
set_option linter.unusedVariables false
set_option linter.unusedSimpArgs false
/-- A record marked from k on. -/
def markKRow (k : Int) : KR := ⟨markV (k), k + 1⟩
def marksKRow (k : Int) (n : Nat) : List KR := (List.range n).map fun j : Nat => markKRow (k + 2 * (j : Int))
theorem marksKRow_length (k : Int) (n : Nat) : (marksKRow k n).length = n := by simp [marksKRow]
theorem marksKRow_getD (k : Int) (n j : Nat) (h : j < n) : (marksKRow k n).getD j zeroKR = markKRow (k + 2 * j) := by simp [marksKRow, List.getD_eq_getElem?_getD, h]
def OwnKRowF (w : World) (base : Nat) (v : Value) (l : List KR) : Prop := w.ownsRow base 39 2 v l.length (cellsF krCells l)
def MarkedKRow (w : World) (base : Nat) (v : Value) (k : Int) (n : Nat) (e : Ending) (w' : World) : Prop := e = .returned (.int .i64 (k + 2 * n)) ∧ OwnKRowF w' base v (marksKRow k n) ∧ w.grownBy w' v.ownBlock
set_option maxRecDepth 100000 in
set_option maxHeartbeats 8000000 in
theorem markKRowS_any (w : World) (base : Nat) (v : Value) (l : List KR) (k : Int) (h : OwnKRowF w base v l) (hl : l.length ≤ 1048576) (hk0 : 1 ≤ k) (hk1 : k ≤ 1000000000000) :
    Calls Tryz.prog 26 #[v, .int .i64 k] w (MarkedKRow w base v k l.length) := by
  have h' := h
  rcases h.2 with ⟨rfl, h0⟩ | ⟨g, cap, cur, rfl, _, _, _, _, _, _⟩
  · have HO := Lib.hid h'
    have hl0 : l = [] := List.eq_nil_of_length_eq_zero h0
    subst hl0
    clear h h' h0
    go_enter Tryz.func26, Tryz.ntmps26
    go_wp2_with fail
    go_loopw [1, 5] (fun c i wr => i = .int .i64 0 ∧ c = .int .i64 k ∧ wr = w) (fun _ i _ => 0)
    case atStart => exact ⟨rfl, rfl, rfl⟩
    case round =>
      obtain ⟨rfl, rfl, rfl⟩ := hrel
      go_wp2_with fail
      go_ret
      exact ⟨ret_i (by simp), HO.out, World.grownBy.refl _ _⟩
  · have HST := Lib.hid (fun j (hj : j < l.length) => mpartF_set (fun j : Nat => markKRow (k + 2 * (j : Int))) l j hj)
    have HSC := Lib.hid (fun j (hj : j < l.length) => cellsF_set (c := krCells) sizeKRow (mpartF (fun j : Nat => markKRow (k + 2 * (j : Int))) l j) j (by rw [mpartF_length _ _ _ (Nat.le_of_lt hj)]; exact hj) (markKRow (k + 2 * (j : Int))))
    have HFI := Lib.hid (show mpartF (fun j : Nat => markKRow (k + 2 * (j : Int))) l l.length = marksKRow k l.length from mpartF_all _ _)
    have HFL := Lib.hid (marksKRow_length k l.length)
    have HZ := Lib.hid (show w.ownsRow base 39 2 (.slice (some ⟨g, 0, none⟩) l.length cap) l.length (cellsF krCells (mpartF (fun j : Nat => markKRow (k + 2 * (j : Int))) l 0)) from by rw [mpartF_zero]; exact h')
    generalize l.length = n at *
    have hcap : n ≤ 9223372036854775807 := by omega
    clear h h'
    go_enter Tryz.func26, Tryz.ntmps26
    go_wp2_with fail
    go_loopw [1, 5] (fun c i wr => ∃ j : Nat, j ≤ n ∧ i = .int .i64 j ∧ c = .int .i64 (k + 2 * j) ∧ wr.ownsRow base 39 2 (.slice (some ⟨g, 0, none⟩) n cap) n (cellsF krCells (mpartF (fun j : Nat => markKRow (k + 2 * (j : Int))) l j)) ∧ w.grownBy wr (some g)) (fun _ i _ => n - (intOf i).toNat)
    case atStart => exact ⟨0, Nat.zero_le _, rfl, by simp, HZ.out, World.grownBy.refl _ _⟩
    case round =>
      obtain ⟨j, hj, rfl, rfl, ho, hg⟩ := hrel
      clear HZ
      by_cases hlt : j < n
      · have hj0 : j * 2 < n * 2 := by omega
        have hsc := HSC.out j hlt
        rw [HST.out j hlt] at hsc
        generalize cellsF krCells (mpartF (fun j : Nat => markKRow (k + 2 * (j : Int))) l j) = cs at *
        have b0 : 1 ≤ k + 2 * (j : Int) := by omega
        have b1 : k + 2 * (j : Int) ≤ 1000011000000 := by omega
        generalize hkk : k + 2 * (j : Int) = kk at *
        have HKK := Lib.hid hkk
        clear hkk
        have HSC2 := Lib.hid hsc
        clear hsc
        have hjn : (j : Int) < (n : Int) := by omega
        have HM0 := fun W => Lib.hid (markText_any (kk) W (by omega) (by omega))
        obtain ⟨z0, c0⟩ := ownsRow_some ho (j * 2) (by omega)
        have f0 := World.ownsRow.frozenAt ho (j * 2)
        have HO := Lib.hid ho
        have HG := Lib.hid hg
        clear ho hg
        go_upto_region 5 with (go_at_call 51; (with_reducible refine Calls.mono (Hid.out (HM0 _)) ?_); rintro e w5 ⟨rfl, hb5⟩; have HB5 := Lib.hid hb5; clear hb5; have c0 := (HB5.out.cell (p := ⟨g, j * 2, none⟩) (World.ownsRow.lt HO.out g rfl).2).trans c0; have f0 := World.ownsRow.frozenAt (World.ownsRow.kept HO.out (row := none) ⟨HB5.out.os, HB5.out.tape, HB5.out.output, HB5.out.size, fun i hi _ => HB5.out.block i hi⟩ (Or.inr (by intro h; cases h))) (j * 2))
        have ho5 := World.ownsRow.kept HO.out (row := none) ⟨HB5.out.os, HB5.out.tape, HB5.out.output, HB5.out.size, fun i hi _ => HB5.out.block i hi⟩ (Or.inr (by intro h; cases h))
        refine wp_gen (fun w' => w'.ownsRow base 39 2 (.slice (some ⟨g, 0, none⟩) n cap) n ((cs).set (j * 2) (.string (markV (kk)))) ∧ w.grownBy w' (some g)) ⟨(World.ownsRow.stored ho5 (j * 2) _).1, grownF (grown_any HG.out HB5.out) (World.ownsRow.stored ho5 (j * 2) _).2⟩ ?_
        clear ho5 HB5 HO HG HM0
        rintro w10 ⟨ho, hg⟩
        obtain ⟨z1, c1⟩ := ownsRow_some ho (j * 2 + 1) (by omega)
        have f1 := World.ownsRow.frozenAt ho (j * 2 + 1)
        have HO := Lib.hid ho
        have HG := Lib.hid hg
        clear ho hg
        go_upto_region 7 with fail
        refine wp_gen (fun w' => w'.ownsRow base 39 2 (.slice (some ⟨g, 0, none⟩) n cap) n (((cs).set (j * 2) (.string (markV (kk)))).set (j * 2 + 1) (.int .i64 (kk + 1))) ∧ w.grownBy w' (some g)) ⟨(World.ownsRow.stored HO.out (j * 2 + 1) _).1, grownF HG.out (World.ownsRow.stored HO.out (j * 2 + 1) _).2⟩ ?_
        clear HO HG
        clear z1 c1 f1
        rintro w11 ⟨ho, hg⟩
        have HO := Lib.hid ho
        have HG := Lib.hid hg
        clear ho hg
        go_wp2_with fail
        go_roundw
        case rel => exact ⟨j + 1, by omega, by go_num, by rw [← HKK.out]; go_num, by have := HO.out; (try simp only [Int.add_assoc, Int.reduceAdd] at this); rw [← HSC2.out]; exact this, HG.out⟩
        case measure => simp [intOf]; omega
      · have hjn : j = n := by omega
        subst hjn
        have HO := Lib.hid ho
        have HG := Lib.hid hg
        clear ho hg
        go_wp2_with fail
        go_ret
        refine ⟨rfl, ?_, HG.out⟩
        unfold OwnKRowF
        rw [HFL.out, ← HFI.out]
        exact HO.out
set_option maxRecDepth 100000 in
set_option maxHeartbeats 8000000 in
theorem heldKRowS_any (w : World) (base : Nat) (v : Value) (k : Int) (n : Nat) (h : OwnKRowF w base v (marksKRow k n)) (hk0 : 1 ≤ k) (hk1 : k ≤ 1000000000000) (hl : n ≤ 1048576) :
    Calls Tryz.prog 28 #[v, .int .i64 k] w (Gives (.int .i64 (k + 2 * n)) w) := by
  have h' := h
  unfold OwnKRowF at h'
  have hln := marksKRow_length k n
  rcases h.2 with ⟨rfl, h0⟩ | ⟨g, cap, cur, rfl, _, _, hcn, hcm, _, _⟩
  · rw [hln] at h0
    subst h0
    clear h h' hln
    go_enter Tryz.func28, Tryz.ntmps28
    go_wp2_with fail
    go_loopw [1, 5] (fun c i wr => i = .int .i64 0 ∧ c = .int .i64 k ∧ wr = w) (fun _ i _ => 0)
    case atStart => exact ⟨rfl, rfl, rfl⟩
    case round =>
      obtain ⟨rfl, rfl, rfl⟩ := hrel
      go_wp2_with fail
      go_ret
      exact ⟨ret_i (by simp), Below.refl _ _⟩
  · have hglt := (World.ownsRow.lt h' g rfl).2
    have HC := Lib.hid (show ∀ j, j < n → ∀ f, f < 2 → w.cell? ⟨g, j * 2 + f, none⟩ = (krCells (markKRow (k + 2 * (j : Int))))[f]? from fun j hj f hf => by
      rw [World.ownsRow.cellAt h' (j * 2 + f) (by rw [hln]; omega), cellsF_at sizeKRow zeroKR _ j f (by rw [hln]; exact hj) hf, marksKRow_getD k n j hj])
    rw [hln] at hcn ⊢
    unfold maxLen at hcm
    clear h h' hln
    go_enter Tryz.func28, Tryz.ntmps28
    go_wp2_with fail
    go_loopw [1, 5] (fun c i wr => ∃ j : Nat, j ≤ n ∧ i = .int .i64 j ∧ c = .int .i64 (k + 2 * j) ∧ Below w.heap.size w wr) (fun _ i _ => n - (intOf i).toNat)
    case atStart => exact ⟨0, Nat.zero_le _, rfl, by simp, Below.refl _ _⟩
    case round =>
      obtain ⟨j, hj, rfl, rfl, hb⟩ := hrel
      by_cases hlt : j < n
      · have HCJ := Lib.hid (HC.out j hlt)
        have b0 : 1 ≤ k + 2 * (j : Int) := by omega
        have b1 : k + 2 * (j : Int) ≤ 1000011000000 := by omega
        generalize hkk : k + 2 * (j : Int) = kk at *
        have HKK := Lib.hid hkk
        clear hkk
        have hjn : (j : Int) < (n : Int) := by omega
        have HB := Lib.hid hb
        have y0 : wr.cell? ⟨g, j * 2, none⟩ = some (.string (markV (kk))) := (hb.cell (p := ⟨g, j * 2, none⟩) hglt).trans (HCJ.out 0 (by decide))
        have y1 : wr.cell? ⟨g, j * 2 + 1, none⟩ = some (.int .i64 (kk + 1)) := (hb.cell (p := ⟨g, j * 2 + 1, none⟩) hglt).trans (HCJ.out 1 (by decide))
        clear hb
        have HM0 := fun W => Lib.hid (markText_any (kk) W (by omega) (by omega))
        generalize markV (kk) = mv0 at *
        have ym0 := txt_self mv0
        go_upto_region 4 with fail
        have HS0 := Lib.hid (show wr.drew.cell? ⟨g, j * 2, none⟩ = some (.string mv0) ∧ Below w.heap.size w wr.drew from ⟨y0, HB.out.trans (below_drew _ _)⟩)
        clear y0 y1
        have HCL := (⟨HS0.out⟩ : HoldsC (fun W => W.cell? ⟨g, j * 2, none⟩ = some (.string mv0) ∧ Below w.heap.size w W) _)
        have hall : ∀ p : Prop, (∀ W, HoldsC (fun W => W.cell? ⟨g, j * 2, none⟩ = some (.string mv0) ∧ Below w.heap.size w W) W → p) ↔ p := fun p => ⟨fun h => h _ HCL, fun h _ _ => h⟩
        refine wp_region_wq (C := HoldsC (fun W => W.cell? ⟨g, j * 2, none⟩ = some (.string mv0) ∧ Below w.heap.size w W)) (by kernel_rfl) (by kernel_rfl) HCL ?_
        repeat (refine WQ.step (fun K hK => ?_); go_simp; first | (refine hK _ ?_; clear hK K) | (apply Exists.intro; refine ⟨fun W hW => ?_, hK _ ?_⟩; (focus (first | (go_at_call 51; (with_reducible refine Calls.mono (Hid.out (HM0 _)) ?_); rintro e w' ⟨rfl, hb'⟩; exact ⟨rfl, ⟨⟨(hb'.cell (p := ⟨g, j * 2, none⟩) (Nat.lt_of_lt_of_le hglt hW.out.2.size)).trans hW.out.1, hW.out.2.trans (hb'.mono hW.out.2.size)⟩⟩⟩) | exact rfl | (obtain ⟨ya, yb⟩ := hW.out; go_simp; rfl))); clear hK K))
        refine WQ.nil ?_
        intro W hW
        obtain ⟨ya, yb⟩ := hW.out
        clear hall HCL
        have HB0 := Lib.hid yb
        have y1 : W.cell? ⟨g, j * 2 + 1, none⟩ = some (.int .i64 (kk + 1)) := (HB0.out.cell (p := ⟨g, j * 2 + 1, none⟩) hglt).trans (HCJ.out 1 (by decide))
        clear hW ya yb HS0 HM0
        go_wp2_with fail
        go_roundw
        case rel => exact ⟨j + 1, by omega, by go_num, by rw [← HKK.out]; go_num, HB0.out⟩
        case measure => simp [intOf]; omega
      · have hjn : j = n := by omega
        subst hjn
        go_wp2_with fail
        go_ret
        exact ⟨rfl, hb⟩
end Go.Proofs.YtlnkjpacjbhncaaGreatDoor
/-
  The package-level variables that the program's text lays (two tables of package unicode/utf8): one world that holds them.
-/
namespace Go.Proofs.YtlnkjpacjbhncaaGreatDoor
open Go.ChangeShapes Go.WideShapes Go.ChangeAt Go.RowKit
theorem own : ownKnob Tryz.prog.godebug = none := by kernel_rfl
def accept : List Int := [128, 191, 160, 191, 128, 159, 144, 191, 128, 143, 0, 0, 0, 0, 0, 0, 0, 0, 0, 0, 0, 0, 0, 0, 0, 0, 0, 0, 0, 0, 0, 0]
def setTab (k : IntKind) (zs : List Int) : Obj → Obj
  | .cells _ t frozen => .cells (zs.map (Value.int k)).toArray t frozen
  | o => o
/-- The settled world with the two tables laid. -/
noncomputable def laidWorld (os : Os) : World :=
  let w0 := World.holding Tryz.prog os ⟨#[], #[], []⟩
  { w0 with heap := (w0.heap.modify 2 (setTab .u8 accept)).modify 1 (setTab .u8 (Go.Pinned.utf8FirstZ.map Int.ofNat)) }
end Go.Proofs.YtlnkjpacjbhncaaGreatDoor
