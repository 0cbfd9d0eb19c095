/-
  Several small texts of this proof, one behind another: each says ahead of itself what it proves.
-/
import Derived.Test.YtbhhhakfjmaglaaGreatRowC
import Derived.OwnWalk
import Derived.Test.YtbhhhakfjmaglaaGreatZa
import Derived.Test.YtbhhhakfjmaglaaGreatRowO
import Derived.Deep.QuietTactic
import Derived.BigQuiet
import Derived.ProofKit
import Derived.OpenShut
import Derived.BigGuardPart
import Derived.Deep.RegionHeld3
import Derived.Laws.Cover1
import Derived.Deep.Slices
import Derived.Deep.Fields
import Derived.KernelRfl
import Derived.Deep.Cut
import Derived.Test.YtbhhhakfjmaglaaGreatKeyI
import Derived.Lib.Bytealg
import Derived.Laws.Externs
/-
  Rows of rows: reading one that came in or was made; one that a call made itself: storing a row, appending one.
-/
namespace Go.Proofs.YtbhhhakfjmaglaaGreat
open Go.RowKit M
set_option linter.unusedVariables false
/-- Row r lies in block b from cell o on. -/
def Row10 (w : World) (b o : Nat) (r : R) : Prop := ∀ k, k < 10 → w.cell? ⟨b, o + k, none⟩ = (rowCells r)[k]?
theorem Row10.get {w : World} {b o : Nat} {r : R} (h : Row10 w b o r) :
    w.cell? ⟨b, o, none⟩ = some (.string r.key) ∧ w.cell? ⟨b, o + 1, none⟩ = some (.int .i64 r.kind) ∧ w.cell? ⟨b, o + 2, none⟩ = some (.int .i64 r.sum) ∧ w.cell? ⟨b, o + 3, none⟩ = some (.bool r.set) ∧ w.cell? ⟨b, o + 4, none⟩ = some (.int .i64 r.last) ∧
    w.cell? ⟨b, o + 5, none⟩ = some (.int .i64 r.n) ∧ w.cell? ⟨b, o + 6, none⟩ = some (.int .i64 r.mn) ∧ w.cell? ⟨b, o + 7, none⟩ = some (.int .i64 r.mx) ∧ w.cell? ⟨b, o + 8, none⟩ = some (.int .i64 r.total) ∧ w.cell? ⟨b, o + 9, none⟩ = some (.int .i64 r.dropped) :=
  ⟨h 0 (by decide), h 1 (by decide), h 2 (by decide), h 3 (by decide), h 4 (by decide), h 5 (by decide), h 6 (by decide), h 7 (by decide), h 8 (by decide), h 9 (by decide)⟩
theorem Row10.below {w w' : World} {b o : Nat} {r : R} (h : Row10 w b o r) (hlt : b < w.heap.size) (hb : Below w.heap.size w w') : Row10 w' b o r :=
  fun k hk => (hb.cell (p := ⟨b, o + k, none⟩) hlt).trans (h k hk)
/-- The slice value v reads as the rows rs (nil, or of no length, or one whose cells are there). -/
def RowsArg (w : World) (v : Value) (rs : List R) : Prop :=
  ∃ A cap, v = .slice A rs.length cap ∧ rs.length ≤ cap ∧ cap ≤ maxLen ∧ (0 < rs.length → ∃ b off, A = some ⟨b, off, none⟩ ∧ b < w.heap.size ∧ ∀ j, j < rs.length → Row10 w b (off + j * 10) (rs.getD j zeroR))
theorem RowsArg.below {w w' : World} {v : Value} {rs : List R} (h : RowsArg w v rs) (hb : Below w.heap.size w w') : RowsArg w' v rs := by
  obtain ⟨A, cap, e, h1, h2, h3⟩ := h
  refine ⟨A, cap, e, h1, h2, fun hp => ?_⟩
  obtain ⟨b, off, ea, h4, h5⟩ := h3 hp
  exact ⟨b, off, ea, Nat.lt_of_lt_of_le h4 hb.size, fun j hj => (h5 j hj).below h4 hb⟩
theorem RowsArg.nil (w : World) : RowsArg w (.slice none 0 0) [] := ⟨none, 0, rfl, Nat.zero_le _, Nat.zero_le _, fun h => absurd h (by simp)⟩
/-- The cells of the rows. -/
def cellsR (rs : List R) : List Value := rs.flatMap fun r => (rowCells r).toList
theorem cells10 (r : R) : (rowCells r).toList.length = 10 := rfl
theorem cellsR_length (rs : List R) : (cellsR rs).length = rs.length * 10 := by
  induction rs with
  | nil => rfl
  | cons r rs ih => simp only [cellsR, List.flatMap_cons, List.length_append, List.length_cons] at *; rw [ih, cells10]; omega
theorem cellsR_append (xs ys : List R) : cellsR (xs ++ ys) = cellsR xs ++ cellsR ys := by simp [cellsR]
theorem cellsR_at (rs : List R) (j k : Nat) (hj : j < rs.length) (hk : k < 10) : (cellsR rs)[j * 10 + k]? = (rowCells (rs.getD j zeroR))[k]? := by
  induction rs generalizing j with
  | nil => simp at hj
  | cons r rs ih =>
    show ((rowCells r).toList ++ cellsR rs)[j * 10 + k]? = _
    cases j with
    | zero => rw [List.getElem?_append_left (by rw [cells10]; omega)]; simp
    | succ j =>
      rw [List.getElem?_append_right (by rw [cells10]; omega), cells10, show (j + 1) * 10 + k - 10 = j * 10 + k by omega, ih j (by simpa using hj)]
      simp
theorem cellsR_one (rs : List R) : ∀ u ∈ cellsR rs, u.oneCell' = true := by
  intro u hu
  obtain ⟨r, _, hr⟩ := List.mem_flatMap.1 hu
  simp [rowCells] at hr
  rcases hr with rfl | rfl | rfl | rfl | rfl | rfl | rfl | rfl | rfl | rfl <;> rfl
/-- The row of rows is the call's own: in a block from base on. -/
def OwnR (w : World) (base : Nat) (v : Value) (rs : List R) : Prop := w.ownsRow base 42 10 v rs.length (cellsR rs)
theorem OwnR.alloc {w : World} {base : Nat} {v : Value} {rs : List R} (h : OwnR w base v rs) (o : Obj) : OwnR (w.alloc o) base v rs := World.ownsRow.alloc h o
theorem OwnR.kept {w w' : World} {base : Nat} {v : Value} {rs : List R} {row : Option Nat} (h : OwnR w base v rs) (hg : w.grownBy w' row) (hne : v.ownBlock = none ∨ v.ownBlock ≠ row) : OwnR w' base v rs := World.ownsRow.kept h hg hne
theorem OwnR.base_le {w : World} {base : Nat} {v : Value} {rs : List R} (h : OwnR w base v rs) : ∀ k, v.ownBlock = some k → base ≤ k := fun k hk => (World.ownsRow.lt h k hk).1
theorem OwnR.below {w w' : World} {base : Nat} {v : Value} {rs : List R} (h : OwnR w base v rs) (hb : Below w.heap.size w w') : OwnR w' base v rs :=
  h.kept (row := none) ⟨hb.os, hb.tape, hb.output, hb.size, fun i hi _ => hb.block i hi⟩ (by cases v.ownBlock <;> simp)
theorem OwnR.arg {w : World} {base : Nat} {v : Value} {rs : List R} (h : OwnR w base v rs) : RowsArg w v rs := by
  have h' := h
  rcases h.2 with ⟨rfl, h0⟩ | ⟨g, cap, cur, rfl, hb, hg, hn, hm, hc, ht⟩
  · exact ⟨none, 0, by rw [h0], by omega, Nat.zero_le _, fun h => by omega⟩
  · refine ⟨_, cap, rfl, hn, hm, fun _ => ⟨g, 0, rfl, (World.ownsRow.lt h' g rfl).2, fun j hj k hk => ?_⟩⟩
    rw [Nat.zero_add, World.ownsRow.cellAt h' (j * 10 + k) (by omega), cellsR_at rs j k hj hk]
theorem OwnR.at {w : World} {base g n cap : Nat} {rs : List R} (h : OwnR w base (.slice (some ⟨g, 0, none⟩) n cap) rs) (hn : rs.length = n) (j : Nat) (hj : j < n) : Row10 w g (j * 10) (rs.getD j zeroR) := by
  subst hn
  exact fun k hk => by rw [World.ownsRow.cellAt h (j * 10 + k) (by omega), cellsR_at rs j k hj hk]
theorem OwnR.frz {w : World} {base g n cap : Nat} {rs : List R} (h : OwnR w base (.slice (some ⟨g, 0, none⟩) n cap) rs) (hn : rs.length = n) (j : Nat) : w.frozen? ⟨g, j, none⟩ = false := by
  subst hn
  exact World.ownsRow.frozenAt h j
/-- Ten stores: row r into block g from cell o on. -/
def put10 (w : World) (g o : Nat) (r : R) : World :=
  (((((((((w.setCell ⟨g, o, none⟩ (.string r.key)).setCell ⟨g, o + 1, none⟩ (.int .i64 r.kind)).setCell ⟨g, o + 2, none⟩ (.int .i64 r.sum)).setCell ⟨g, o + 3, none⟩ (.bool r.set)).setCell ⟨g, o + 4, none⟩ (.int .i64 r.last)).setCell ⟨g, o + 5, none⟩ (.int .i64 r.n)).setCell ⟨g, o + 6, none⟩ (.int .i64 r.mn)).setCell ⟨g, o + 7, none⟩ (.int .i64 r.mx)).setCell ⟨g, o + 8, none⟩ (.int .i64 r.total)).setCell ⟨g, o + 9, none⟩ (.int .i64 r.dropped)
theorem set_append {α : Type} (la bs cs : List α) (i : Nat) (x : α) (hi : i < bs.length) : (la ++ (bs ++ cs)).set (la.length + i) x = la ++ (bs.set i x ++ cs) := by
  rw [List.set_append_right _ _ (by omega), Nat.add_sub_cancel_left, List.set_append_left _ _ hi]
theorem cellsR_set (rs : List R) (j : Nat) (r : R) (hj : j < rs.length) :
    (((((((((((cellsR rs).set (j * 10) (.string r.key)).set (j * 10 + 1) (.int .i64 r.kind)).set (j * 10 + 2) (.int .i64 r.sum)).set (j * 10 + 3) (.bool r.set)).set (j * 10 + 4) (.int .i64 r.last)).set (j * 10 + 5) (.int .i64 r.n)).set (j * 10 + 6) (.int .i64 r.mn)).set (j * 10 + 7) (.int .i64 r.mx)).set (j * 10 + 8) (.int .i64 r.total)).set (j * 10 + 9) (.int .i64 r.dropped)) = cellsR (rs.set j r) := by
  have e : rs = rs.take j ++ (rs.getD j zeroR :: rs.drop (j + 1)) := by
    rw [List.getD_eq_getElem?_getD, List.getElem?_eq_getElem hj, Option.getD_some, ← List.drop_eq_getElem_cons hj, List.take_append_drop]
  generalize rs.getD j zeroR = z at e
  have e2 : rs.set j r = rs.take j ++ (r :: rs.drop (j + 1)) := by
    conv => lhs; rw [e]
    rw [List.set_append_right _ _ (by rw [List.length_take]; omega), List.length_take, show j - min j rs.length = 0 by omega, List.set_cons_zero]
  have e3 : cellsR rs = cellsR (rs.take j) ++ ((rowCells z).toList ++ cellsR (rs.drop (j + 1))) := by
    conv => lhs; rw [e]
    rw [cellsR_append]; rfl
  have e4 : cellsR (rs.set j r) = cellsR (rs.take j) ++ ((rowCells r).toList ++ cellsR (rs.drop (j + 1))) := by rw [e2, cellsR_append]; rfl
  have e5 : (cellsR (rs.take j)).length = j * 10 := by rw [cellsR_length, List.length_take]; omega
  rw [e3, e4, ← e5]
  have S := fun (bs : List Value) (i : Nat) (x : Value) (hi : i < bs.length) => set_append (cellsR (rs.take j)) bs (cellsR (rs.drop (j + 1))) i x hi
  have S0 := fun (bs : List Value) (x : Value) (hi : 0 < bs.length) => S bs 0 x hi
  simp only [Nat.add_zero] at S0
  rw [S0 _ _ (by simp [rowCells]), S _ 1 _ (by simp [rowCells]), S _ 2 _ (by simp [rowCells]), S _ 3 _ (by simp [rowCells]), S _ 4 _ (by simp [rowCells]), S _ 5 _ (by simp [rowCells]), S _ 6 _ (by simp [rowCells]), S _ 7 _ (by simp [rowCells]), S _ 8 _ (by simp [rowCells]), S _ 9 _ (by simp [rowCells])]
  rfl
theorem grownR_trans {a b c : World} {o : Option Nat} (h : a.grownBy b o) (k : b.grownBy c o) : a.grownBy c o :=
  ⟨k.os.trans h.os, k.tape.trans h.tape, k.output.trans h.output, Nat.le_trans h.size k.size, fun i hi hne => (k.block i (Nat.lt_of_lt_of_le hi h.size) hne).trans (h.block i hi hne)⟩
theorem OwnR.put {w : World} {base g n cap : Nat} {rs : List R} (h : OwnR w base (.slice (some ⟨g, 0, none⟩) n cap) rs) (hn : rs.length = n) (j : Nat) (hj : j < n) (r : R) :
    OwnR (put10 w g (j * 10) r) base (.slice (some ⟨g, 0, none⟩) n cap) (rs.set j r) ∧ w.grownBy (put10 w g (j * 10) r) (some g) := by
  subst hn
  have h0 := World.ownsRow.stored h (j * 10) (.string r.key)
  have h1 := World.ownsRow.stored h0.1 (j * 10 + 1) (.int .i64 r.kind)
  have h2 := World.ownsRow.stored h1.1 (j * 10 + 2) (.int .i64 r.sum)
  have h3 := World.ownsRow.stored h2.1 (j * 10 + 3) (.bool r.set)
  have h4 := World.ownsRow.stored h3.1 (j * 10 + 4) (.int .i64 r.last)
  have h5 := World.ownsRow.stored h4.1 (j * 10 + 5) (.int .i64 r.n)
  have h6 := World.ownsRow.stored h5.1 (j * 10 + 6) (.int .i64 r.mn)
  have h7 := World.ownsRow.stored h6.1 (j * 10 + 7) (.int .i64 r.mx)
  have h8 := World.ownsRow.stored h7.1 (j * 10 + 8) (.int .i64 r.total)
  have h9 := World.ownsRow.stored h8.1 (j * 10 + 9) (.int .i64 r.dropped)
  refine ⟨?_, grownR_trans (grownR_trans (grownR_trans (grownR_trans (grownR_trans (grownR_trans (grownR_trans (grownR_trans (grownR_trans h0.2 h1.2) h2.2) h3.2) h4.2) h5.2) h6.2) h7.2) h8.2) h9.2⟩
  unfold OwnR
  rw [List.length_set, ← cellsR_set rs j r hj]
  exact h9.1
/-- A call hands back a new row of rows of its own, and turns nothing that was there. -/
def MadeR (w : World) (rs : List R) (e : Ending) (w' : World) : Prop := ∃ v, e = .returned v ∧ OwnR w' w.heap.size v rs ∧ Below w.heap.size w w'
/-- An empty one that was just built. -/
theorem OwnR.empty (w : World) (base : Nat) (hb : base ≤ w.heap.size) : OwnR (w.alloc (.cells #[] 42)) base (.slice (some ⟨w.heap.size, 0, none⟩) 0 0) [] :=
  World.ownsRow_lit w #[] 0 hb (Nat.zero_le _) rfl
theorem info_row : (Tryz.prog.info? 42).map (fun i => (i.zero, i.size, i.bytes)) = some (some zeroR.v, 10, 88) := by kernel_rfl
/-- append(v, x) onto an own row of rows, x being a row that lies alone in a new block. -/
theorem wpR_append (w : World) {ops : Array Oper} {rest : List Oper} {o : Oper} {a : Act} {Q : Exit → Act → World → Prop} (hgd : o.guard = none) (s x : Operand)
    (ho : o.op = .call { callee := .builtin .append, args := #[s, x], argTypes := #[25, 25] })
    (base : Nat) (v : Value) (l : List R) (hown : OwnR w base v l) (hs : a.eval s = v)
    (c : R) (cs : Array Value) (hcs : cs = rowCells c) (hx : a.eval x = .slice (some ⟨w.heap.size, 0, none⟩) 1 1)
    (hlen : l.length + 1 ≤ 8796093022) (hbase : base ≤ w.heap.size)
    (h : ∀ v' w', OwnR w' base v' (l ++ [c]) → (w.alloc (.cells cs 42)).grownBy w' v.ownBlock → wpList Tryz.prog ops Q rest (a.put o.dst v') w') : wpList Tryz.prog ops Q (o :: rest) a (w.alloc (.cells cs 42)) := by
  subst hcs
  obtain ⟨i0, hi, hz0, hz1, hz2⟩ := info_parts info_row
  refine wpList_append_own (w.alloc (.cells (rowCells c) 42)) hgd s x 25 ho base 42 i0 zeroR.v 10 88 Tryz.underlying25 hi hz0 hz1 hz2 rfl (by decide) v l.length (cellsR l) hs (hown.alloc _) ⟨w.heap.size, 0, none⟩ 1 1 (rowCells c).toList hx rfl ?_ ?_ (by unfold maxLen; omega) (by omega) (by simp [go_sem]; omega) ?_
  · intro j u hu
    have hj : j < 10 := by have := (List.getElem?_eq_some_iff.1 hu).1; simpa [rowCells] using this
    rw [Addr.add_lit, Nat.zero_add, cell_of_row _ _ _ _ _ _ (heap_alloc_new w _)]
    rw [Array.getElem?_toList] at hu
    exact hu
  · intro u hu
    exact cellsR_one [c] u (by simpa [cellsR] using hu)
  · intro v' w' h1 h2 _
    refine h v' w' ?_ h2
    unfold OwnR
    rw [List.length_append, cellsR_append]
    simpa [cellsR] using h1
end Go.Proofs.YtbhhhakfjmaglaaGreat
/-
  Two rows compared by the program: they are alike exactly if each field is.
-/
namespace Go.Proofs.YtbhhhakfjmaglaaGreat
open Go.RowKit M
set_option linter.unusedVariables false
instance decR : DecidableEq R := fun a b =>
  if h : (a.key = b.key ∧ a.kind = b.kind ∧ a.sum = b.sum ∧ a.set = b.set ∧ a.last = b.last) ∧ a.n = b.n ∧ a.mn = b.mn ∧ a.mx = b.mx ∧ a.total = b.total ∧ a.dropped = b.dropped then
    .isTrue (by
      obtain ⟨⟨h0, h1, h2, h3, h4⟩, h5, h6, h7, h8, h9⟩ := h
      cases a; cases b
      simp only at *
      subst h0; subst h1; subst h2; subst h3; subst h4; subst h5; subst h6; subst h7; subst h8; subst h9
      rfl)
  else .isFalse (fun e => h (by subst e; exact ⟨⟨rfl, rfl, rfl, rfl, rfl⟩, rfl, rfl, rfl, rfl, rfl⟩))
theorem stood_row : Tryz.prog.stoodInHeld 42 = false := by kernel_rfl
set_option maxRecDepth 100000 in
set_option maxHeartbeats 4000000 in
theorem neq_row (w : World) (r s : R) (h : r ≠ s) : (binOp .neq 42 r.v s.v).run Tryz.prog w = .ok (.bool true) w := by
  obtain ⟨key, kind, sum, st, last, n', mn, mx, total, dropped⟩ := r
  obtain ⟨key', kind', sum', st', last', n'', mn', mx', total', dropped'⟩ := s
  unfold R.v
  simp only at *
  rw [run_neq_struct, run_equalIn_struct _ _ _ _ _ (by kernel_rfl) stood_row]
  by_cases e0 : key = key'
  · subst e0
    by_cases e1 : kind = kind'
    · subst e1
      simp [go_sem]
      rintro rfl rfl rfl rfl rfl rfl rfl rfl
      exact h rfl
    · simp [go_sem, e1]
  · have e := txt_ne e0
    simp [go_sem, e]
end Go.Proofs.YtbhhhakfjmaglaaGreat
/-
  Chapter 7 on rows of rows, in plain words and the model's: SameReport, ReportOk.
-/
namespace Go.Proofs.YtbhhhakfjmaglaaGreat
open Go.RowKit M
set_option linter.unusedVariables false
def sameRV (xs ys : List R) : Bool := decide (xs = ys)
def EqTo (xs ys : List R) (j : Nat) : Prop := ∀ m, m < j → xs.getD m zeroR = ys.getD m zeroR
theorem EqTo.zero (xs ys : List R) : EqTo xs ys 0 := fun m h => absurd h (Nat.not_lt_zero _)
theorem EqTo.next {xs ys : List R} {j : Nat} (h : EqTo xs ys j) (k : xs.getD j zeroR = ys.getD j zeroR) : EqTo xs ys (j + 1) := fun m hm => by
  by_cases e : m = j
  · subst e; exact k
  · exact h m (by omega)
theorem EqTo.all {xs ys : List R} (hl : xs.length = ys.length) (h : EqTo xs ys xs.length) : sameRV xs ys = true := by
  apply decide_eq_true
  apply List.ext_getElem? 
  intro i
  by_cases hi : i < xs.length
  · have := h i hi
    rw [List.getD_eq_getElem?_getD, List.getD_eq_getElem?_getD, List.getElem?_eq_getElem hi, List.getElem?_eq_getElem (by omega)] at this
    rw [List.getElem?_eq_getElem hi, List.getElem?_eq_getElem (by omega)]
    exact congrArg some this
  · rw [List.getElem?_eq_none (by omega), List.getElem?_eq_none (by omega)]
theorem sameRV_len {xs ys : List R} (hl : xs.length ≠ ys.length) : sameRV xs ys = false := decide_eq_false fun e => hl (by rw [e])
theorem sameRV_ne {xs ys : List R} {j : Nat} (h : xs.getD j zeroR ≠ ys.getD j zeroR) : sameRV xs ys = false := decide_eq_false fun e => h (by rw [e])
set_option maxRecDepth 100000 in
set_option maxHeartbeats 4000000 in
theorem sSameReport_any (w : World) (v u : Value) (xs ys : List R) (h : RowsArg w v xs) (k : RowsArg w u ys) : Calls Tryz.prog 11 #[v, u] w (Gives (.bool (sameRV xs ys)) w) := by
  obtain ⟨A, cap, rfl, h1, h2, h3⟩ := h
  obtain ⟨A', cap', rfl, k1, k2, k3⟩ := k
  unfold maxLen at h2 k2
  by_cases hl : xs.length = ys.length
  case neg =>
    have HE := Lib.hid (sameRV_len hl)
    have d : ((xs.length : Int) == (ys.length : Int)) = false := by rw [beq_eq_false_iff_ne]; omega
    generalize xs.length = n at *
    generalize ys.length = m at *
    clear h3 k3
    go_enter Tryz.func11, Tryz.ntmps11
    go_wp2_with fail
    go_ret
    exact ⟨ret_bool HE.out.symm, Below.refl _ _⟩
  have HALL := Lib.hid (fun (q : EqTo xs ys xs.length) => EqTo.all hl q)
  rw [← hl] at k1 k3 ⊢
  generalize hn : xs.length = n at *
  clear hn hl
  have H4 := Lib.hid h3
  have K4 := Lib.hid k3
  clear h3 k3
  go_enter Tryz.func11, Tryz.ntmps11
  go_wp2_with fail
  go_loopw [5] (fun i wr => ∃ j : Nat, j ≤ n ∧ i = .int .i64 j ∧ EqTo xs ys j ∧ Below w.heap.size w wr) (fun i _ => n - (intOf i).toNat)
  case atStart => exact ⟨0, Nat.zero_le _, rfl, EqTo.zero _ _, Below.refl _ _⟩
  case round =>
    obtain ⟨j, hj, rfl, he, hbl⟩ := hrel
    have HQ := Lib.hid he
    clear he
    by_cases hlt : j < n
    · obtain ⟨b, off, rfl, hb, hc⟩ := H4.out (by omega)
      obtain ⟨b', off', rfl, hb', hc'⟩ := K4.out (by omega)
      obtain ⟨x0, x1, x2, x3, x4, x5, x6, x7, x8, x9⟩ := ((hc j hlt).below hb hbl).get
      obtain ⟨y0, y1, y2, y3, y4, y5, y6, y7, y8, y9⟩ := ((hc' j hlt).below hb' hbl).get
      have HB := Lib.hid hbl
      clear hc hc' hbl
      by_cases hr : xs.getD j zeroR = ys.getD j zeroR
      · have HN := Lib.hid (HQ.out.next hr)
        rw [← hr] at y0 y1 y2 y3 y4 y5 y6 y7 y8 y9
        generalize xs.getD j zeroR = r at *
        clear hr
        obtain ⟨key, kind, sum, st, last, n', mn, mx, total, dropped⟩ := r
        simp only at *
        go_wp2_with fail
        go_quiet (fail)
        go_wp2_with fail
        go_roundw
        case rel => exact ⟨j + 1, by omega, by go_num, HN.out, HB.out.trans ⟨rfl, rfl, rfl, Nat.le_refl _, fun _ _ => rfl⟩⟩
        case measure => simp [intOf]; omega
      · have HN := Lib.hid (sameRV_ne hr)
        have HR := Lib.hid hr
        generalize xs.getD j zeroR = r at *
        generalize ys.getD j zeroR = r' at *
        have hne := fun W => neq_row W r r' hr
        clear hr
        obtain ⟨key, kind, sum, st, last, n', mn, mx, total, dropped⟩ := r
        obtain ⟨key', kind', sum', st', last', n'', mn', mx', total', dropped'⟩ := r'
        unfold R.v at hne
        simp only at *
        go_wp2_with fail
        go_quiet (fail)
        go_wp2_with fail
        go_ret
        exact ⟨ret_bool HN.out.symm, HB.out.trans ⟨rfl, rfl, rfl, Nat.le_refl _, fun _ _ => rfl⟩⟩
    · have hjn : j = n := by omega
      subst hjn
      have HN := Lib.hid (HALL.out HQ.out)
      have HB := Lib.hid hbl
      clear hbl
      go_wp2_with fail
      go_ret
      exact ⟨ret_bool HN.out.symm, HB.out⟩
end Go.Proofs.YtbhhhakfjmaglaaGreat
/-
  Chapter 7 on rows of rows: ReportOk, in plain words and the model's.
-/
namespace Go.Proofs.YtbhhhakfjmaglaaGreat
open Go.RowKit M
set_option linter.unusedVariables false
/-- x is not behind y, byte by byte. -/
def strLe (x y : ByteArray) : Bool := Go.Op.bytesLess x.toList y.toList || x.toList == y.toList
/-- Is the row at place i not as a report has it? -/
def badAt (rs : List R) (i : Nat) : Bool := !rowOkV (rs.getD i zeroR) || (quietV (rs.getD i zeroR) || (decide (0 < i) && strLe (rs.getD i zeroR).key (rs.getD (i - 1) zeroR).key))
def reportOkV (rs : List R) : Bool := decide (rs.length ≤ 4) && (List.range rs.length).all fun i => !badAt rs i
def GoodTo (rs : List R) (j : Nat) : Prop := ∀ m, m < j → badAt rs m = false
theorem GoodTo.zero (rs : List R) : GoodTo rs 0 := fun m h => absurd h (Nat.not_lt_zero _)
theorem GoodTo.next {rs : List R} {j : Nat} (h : GoodTo rs j) (k : badAt rs j = false) : GoodTo rs (j + 1) := fun m hm => by
  by_cases e : m = j
  · subst e; exact k
  · exact h m (by omega)
theorem reportOk_bad {rs : List R} {j : Nat} (hj : j < rs.length) (h : badAt rs j = true) : reportOkV rs = false := by
  unfold reportOkV
  rw [Bool.and_eq_false_iff]
  right
  rw [← Bool.not_eq_true, List.all_eq_true]
  intro k
  have := k j (List.mem_range.2 hj)
  rw [h] at this; cases this
theorem reportOk_all {rs : List R} (h : GoodTo rs rs.length) : reportOkV rs = decide ((rs.length : Int) ≤ 4) := by
  have e : ((List.range rs.length).all fun i => !badAt rs i) = true := by
    rw [List.all_eq_true]
    intro i hi
    rw [h i (List.mem_range.1 hi)]; rfl
  unfold reportOkV
  rw [e, Bool.and_true]
  congr 1
  simp only [eq_iff_iff]
  omega
/-- What the walk keeps while it reads a row and the key ahead of it. -/
def RpHeld (w0 : World) (b : Nat) (w : World) : Prop := Below w0.heap.size w0 w ∧ b < w0.heap.size
def RowHeld (w0 : World) (b o p : Nat) (r : R) (pk : ByteArray) (w : World) : Prop :=
  w.cell? ⟨b, o, none⟩ = some (.string r.key) ∧ w.cell? ⟨b, o + 1, none⟩ = some (.int .i64 r.kind) ∧ w.cell? ⟨b, o + 2, none⟩ = some (.int .i64 r.sum) ∧ w.cell? ⟨b, o + 3, none⟩ = some (.bool r.set) ∧ w.cell? ⟨b, o + 4, none⟩ = some (.int .i64 r.last) ∧
  w.cell? ⟨b, o + 5, none⟩ = some (.int .i64 r.n) ∧ w.cell? ⟨b, o + 6, none⟩ = some (.int .i64 r.mn) ∧ w.cell? ⟨b, o + 7, none⟩ = some (.int .i64 r.mx) ∧ w.cell? ⟨b, o + 8, none⟩ = some (.int .i64 r.total) ∧ w.cell? ⟨b, o + 9, none⟩ = some (.int .i64 r.dropped) ∧
  w.cell? ⟨b, p, none⟩ = some (.string pk) ∧ RpHeld w0 b w
theorem RowHeld.next {w0 w1 w2 : World} {b o p : Nat} {r : R} {pk : ByteArray} (hb : Below w1.heap.size w1 w2) (h : RowHeld w0 b o p r pk w1) : RowHeld w0 b o p r pk w2 := by
  obtain ⟨h0, h1, h2, h3, h4, h5, h6, h7, h8, h9, hp, hw, hlt⟩ := h
  have lt : b < w1.heap.size := Nat.lt_of_lt_of_le hlt hw.size
  exact ⟨(hb.cell (p := ⟨b, o, none⟩) lt).trans h0, (hb.cell (p := ⟨b, o + 1, none⟩) lt).trans h1, (hb.cell (p := ⟨b, o + 2, none⟩) lt).trans h2, (hb.cell (p := ⟨b, o + 3, none⟩) lt).trans h3, (hb.cell (p := ⟨b, o + 4, none⟩) lt).trans h4,
    (hb.cell (p := ⟨b, o + 5, none⟩) lt).trans h5, (hb.cell (p := ⟨b, o + 6, none⟩) lt).trans h6, (hb.cell (p := ⟨b, o + 7, none⟩) lt).trans h7, (hb.cell (p := ⟨b, o + 8, none⟩) lt).trans h8, (hb.cell (p := ⟨b, o + 9, none⟩) lt).trans h9,
    (hb.cell (p := ⟨b, p, none⟩) lt).trans hp, hw.trans (hb.mono hw.size), hlt⟩
theorem RowHeld.drew {w0 w1 : World} {b o p : Nat} {r : R} {pk : ByteArray} (h : RowHeld w0 b o p r pk w1) : RowHeld w0 b o p r pk w1.drew := h.next (below_drew _ _)
theorem rowHeld_get {w0 w1 : World} {b o p : Nat} {key : ByteArray} {kind sum : Int} {st : Bool} {last n mn mx total dropped : Int} {pk : ByteArray} (h : RowHeld w0 b o p ⟨key, kind, sum, st, last, n, mn, mx, total, dropped⟩ pk w1) :
    w1.cell? ⟨b, o, none⟩ = some (.string key) ∧ w1.cell? ⟨b, o + 1, none⟩ = some (.int .i64 kind) ∧ w1.cell? ⟨b, o + 2, none⟩ = some (.int .i64 sum) ∧ w1.cell? ⟨b, o + 3, none⟩ = some (.bool st) ∧ w1.cell? ⟨b, o + 4, none⟩ = some (.int .i64 last) ∧
      w1.cell? ⟨b, o + 5, none⟩ = some (.int .i64 n) ∧ w1.cell? ⟨b, o + 6, none⟩ = some (.int .i64 mn) ∧ w1.cell? ⟨b, o + 7, none⟩ = some (.int .i64 mx) ∧ w1.cell? ⟨b, o + 8, none⟩ = some (.int .i64 total) ∧ w1.cell? ⟨b, o + 9, none⟩ = some (.int .i64 dropped) ∧ w1.cell? ⟨b, p, none⟩ = some (.string pk) ∧ RpHeld w0 b w1 := h
theorem rowHeld_bel {w0 w1 : World} {b : Nat} {p0 p1 p2 p3 p4 p5 p6 p7 p8 p9 pp : Prop} (h : p0 ∧ p1 ∧ p2 ∧ p3 ∧ p4 ∧ p5 ∧ p6 ∧ p7 ∧ p8 ∧ p9 ∧ pp ∧ RpHeld w0 b w1) : Below w0.heap.size w0 w1 := h.2.2.2.2.2.2.2.2.2.2.2.1
theorem bad_row {rs : List R} {j : Nat} (h : rowOkV (rs.getD j zeroR) = false) : badAt rs j = true := by unfold badAt; rw [h]; rfl
theorem bad_quiet {rs : List R} {j : Nat} (h : rowOkV (rs.getD j zeroR) = true) (k : quietV (rs.getD j zeroR) = true) : badAt rs j = true := by unfold badAt; rw [h, k]; rfl
theorem bad_first {rs : List R} (h : rowOkV (rs.getD 0 zeroR) = true) (k : quietV (rs.getD 0 zeroR) = false) : badAt rs 0 = false := by unfold badAt; rw [h, k]; rfl
theorem bad_next {rs : List R} {m : Nat} (h : rowOkV (rs.getD (m + 1) zeroR) = true) (k : quietV (rs.getD (m + 1) zeroR) = false) : badAt rs (m + 1) = strLe (rs.getD (m + 1) zeroR).key (rs.getD m zeroR).key := by
  unfold badAt; rw [h, k]; simp
set_option maxRecDepth 100000 in
set_option maxHeartbeats 8000000 in
theorem sReportOk_any (w : World) (v : Value) (rs : List R) (h : RowsArg w v rs) (hk : ∀ j, j < rs.length → (rs.getD j zeroR).key.size ≤ maxLen) : Calls Tryz.prog 44 #[v] w (Gives (.bool (reportOkV rs)) w) := by
  obtain ⟨A, cap, rfl, h1, h2, h3⟩ := h
  unfold maxLen at h2
  have HALL := Lib.hid (fun (q : GoodTo rs rs.length) => reportOk_all q)
  have HBAD := Lib.hid (fun j (hj : j < rs.length) (hb : badAt rs j = true) => reportOk_bad hj hb)
  have HKS := Lib.hid hk
  generalize rs.length = n at *
  have H4 := Lib.hid h3
  clear h3 hk
  go_enter Tryz.func44, Tryz.ntmps44
  go_wp2_with fail
  go_loopw [3] (fun i wr => ∃ j : Nat, j ≤ n ∧ i = .int .i64 j ∧ GoodTo rs j ∧ Below w.heap.size w wr) (fun i _ => n - (intOf i).toNat)
  case atStart => exact ⟨0, Nat.zero_le _, rfl, GoodTo.zero _, Below.refl _ _⟩
  case round =>
    obtain ⟨j, hj, rfl, hg, hbl⟩ := hrel
    have HG := Lib.hid hg
    clear hg
    by_cases hlt : j < n
    · obtain ⟨b, off, rfl, hb, hc⟩ := H4.out (by omega)
      have HO := fun W => Lib.hid (sRowOk_any W (rs.getD j zeroR) (HKS.out j hlt))
      have HQ := fun W => Lib.hid (sQuiet_any W (rs.getD j zeroR))
      have HBD := Lib.hid (HBAD.out j hlt)
      have HN := Lib.hid (fun q => HG.out.next (j := j) q)
      have hr := ((hc j hlt).below hb hbl).get
      cases hok : rowOkV (rs.getD j zeroR) with
      | false =>
        have HB1 := Lib.hid (HBD.out (bad_row hok))
        rw [hok] at HO
        have HS := Lib.hid (RowHeld.drew (⟨hr.1, hr.2.1, hr.2.2.1, hr.2.2.2.1, hr.2.2.2.2.1, hr.2.2.2.2.2.1, hr.2.2.2.2.2.2.1, hr.2.2.2.2.2.2.2.1, hr.2.2.2.2.2.2.2.2.1, hr.2.2.2.2.2.2.2.2.2, hr.1, hbl, hb⟩ : RowHeld w b (off + j * 10) (off + j * 10) (rs.getD j zeroR) _ wr))
        clear hc hbl hr hok
        generalize rs.getD j zeroR = r at *
        obtain ⟨key, kind, sum, st, last, n', mn, mx, total, dropped⟩ := r
        unfold R.v at HO HQ
        simp only at *
        go_wp2_with fail
        have hall : ∀ p : Prop, (∀ W, RowHeld w b (off + j * 10) (off + j * 10) ⟨key, kind, sum, st, last, n', mn, mx, total, dropped⟩ key W → p) ↔ p := fun p => ⟨fun h => h _ HS.out, fun h _ _ => h⟩
        refine wp_region_wq (C := RowHeld w b (off + j * 10) (off + j * 10) ⟨key, kind, sum, st, last, n', mn, mx, total, dropped⟩ key) (by kernel_rfl) (by kernel_rfl) HS.out ?_
        repeat (refine WQ.step (fun K hK => ?_); go_simp; first | (refine hK _ ?_; clear hK K) | (apply Exists.intro; refine ⟨fun W hW => ?_, hK _ ?_⟩; (focus (first | (go_at_call 83; refine (HO W).out.mono ?_; rintro e w' ⟨rfl, hb'⟩; exact ⟨rfl, hW.next hb'⟩) | (go_at_call 84; refine (HQ W).out.mono ?_; rintro e w' ⟨rfl, hb'⟩; exact ⟨rfl, hW.next hb'⟩) | exact rfl | (obtain ⟨y0, y1, y2, y3, y4, y5, y6, y7, y8, y9, y10, hy⟩ := rowHeld_get hW; go_simp; rfl))); clear hK K))
        refine WQ.nil ?_
        intro w2 hw2
        have HW2 := hw2.2.2.2.2.2.2.2.2.2.2.2.1
        clear hw2
        go_wp2_with fail
        go_ret
        exact ⟨ret_bool HB1.out.symm, HW2⟩
      | true =>
        cases hqu : quietV (rs.getD j zeroR) with
        | true =>
          have HB1 := Lib.hid (HBD.out (bad_quiet hok hqu))
          rw [hok] at HO
          rw [hqu] at HQ
          have HS := Lib.hid (RowHeld.drew (⟨hr.1, hr.2.1, hr.2.2.1, hr.2.2.2.1, hr.2.2.2.2.1, hr.2.2.2.2.2.1, hr.2.2.2.2.2.2.1, hr.2.2.2.2.2.2.2.1, hr.2.2.2.2.2.2.2.2.1, hr.2.2.2.2.2.2.2.2.2, hr.1, hbl, hb⟩ : RowHeld w b (off + j * 10) (off + j * 10) (rs.getD j zeroR) _ wr))
          clear hc hbl hr hok hqu
          generalize rs.getD j zeroR = r at *
          obtain ⟨key, kind, sum, st, last, n', mn, mx, total, dropped⟩ := r
          unfold R.v at HO HQ
          simp only at *
          go_wp2_with fail
          have hall : ∀ p : Prop, (∀ W, RowHeld w b (off + j * 10) (off + j * 10) ⟨key, kind, sum, st, last, n', mn, mx, total, dropped⟩ key W → p) ↔ p := fun p => ⟨fun h => h _ HS.out, fun h _ _ => h⟩
          refine wp_region_wq (C := RowHeld w b (off + j * 10) (off + j * 10) ⟨key, kind, sum, st, last, n', mn, mx, total, dropped⟩ key) (by kernel_rfl) (by kernel_rfl) HS.out ?_
          repeat (refine WQ.step (fun K hK => ?_); go_simp; first | (refine hK _ ?_; clear hK K) | (apply Exists.intro; refine ⟨fun W hW => ?_, hK _ ?_⟩; (focus (first | (go_at_call 83; refine (HO W).out.mono ?_; rintro e w' ⟨rfl, hb'⟩; exact ⟨rfl, hW.next hb'⟩) | (go_at_call 84; refine (HQ W).out.mono ?_; rintro e w' ⟨rfl, hb'⟩; exact ⟨rfl, hW.next hb'⟩) | exact rfl | (obtain ⟨y0, y1, y2, y3, y4, y5, y6, y7, y8, y9, y10, hy⟩ := rowHeld_get hW; go_simp; rfl))); clear hK K))
          refine WQ.nil ?_
          intro w2 hw2
          have HW2 := hw2.2.2.2.2.2.2.2.2.2.2.2.1
          clear hw2
          go_wp2_with fail
          go_ret
          exact ⟨ret_bool HB1.out.symm, HW2⟩
        | false =>
          cases j with
          | zero =>
            have HB1 := Lib.hid (bad_first hok hqu)
            rw [hok] at HO
            rw [hqu] at HQ
            have HS := Lib.hid (RowHeld.drew (⟨hr.1, hr.2.1, hr.2.2.1, hr.2.2.2.1, hr.2.2.2.2.1, hr.2.2.2.2.2.1, hr.2.2.2.2.2.2.1, hr.2.2.2.2.2.2.2.1, hr.2.2.2.2.2.2.2.2.1, hr.2.2.2.2.2.2.2.2.2, hr.1, hbl, hb⟩ : RowHeld w b (off + 0 * 10) (off + 0 * 10) (rs.getD 0 zeroR) _ wr))
            clear hc hbl hr hok hqu
            generalize rs.getD 0 zeroR = r at *
            obtain ⟨key, kind, sum, st, last, n', mn, mx, total, dropped⟩ := r
            unfold R.v at HO HQ
            simp only at *
            go_wp2_with fail
            have hall : ∀ p : Prop, (∀ W, RowHeld w b (off + 0 * 10) (off + 0 * 10) ⟨key, kind, sum, st, last, n', mn, mx, total, dropped⟩ key W → p) ↔ p := fun p => ⟨fun h => h _ HS.out, fun h _ _ => h⟩
            refine wp_region_wq (C := RowHeld w b (off + 0 * 10) (off + 0 * 10) ⟨key, kind, sum, st, last, n', mn, mx, total, dropped⟩ key) (by kernel_rfl) (by kernel_rfl) HS.out ?_
            repeat (refine WQ.step (fun K hK => ?_); go_simp; first | (refine hK _ ?_; clear hK K) | (apply Exists.intro; refine ⟨fun W hW => ?_, hK _ ?_⟩; (focus (first | (go_at_call 83; refine (HO W).out.mono ?_; rintro e w' ⟨rfl, hb'⟩; exact ⟨rfl, hW.next hb'⟩) | (go_at_call 84; refine (HQ W).out.mono ?_; rintro e w' ⟨rfl, hb'⟩; exact ⟨rfl, hW.next hb'⟩) | exact rfl | (obtain ⟨y0, y1, y2, y3, y4, y5, y6, y7, y8, y9, y10, hy⟩ := rowHeld_get hW; go_simp; rfl))); clear hK K))
            refine WQ.nil ?_
            intro w2 hw2
            have HW2 := hw2.2.2.2.2.2.2.2.2.2.2.2.1
            clear hw2
            go_wp2_with fail
            go_roundw
            case rel => exact ⟨1, by omega, by go_num, HN.out HB1.out, HW2⟩
            case measure => simp [intOf]; omega
          | succ m =>
            have hbn := bad_next hok hqu
            rw [hok] at HO
            rw [hqu] at HQ
            cases hle : strLe (rs.getD (m + 1) zeroR).key (rs.getD m zeroR).key with
            | true =>
              have HB1 := Lib.hid (HBD.out (hbn.trans hle))
              clear hbn
              have hp := ((hc m (by omega)).below hb hbl).get
              have HS := Lib.hid (RowHeld.drew (⟨hr.1, hr.2.1, hr.2.2.1, hr.2.2.2.1, hr.2.2.2.2.1, hr.2.2.2.2.2.1, hr.2.2.2.2.2.2.1, hr.2.2.2.2.2.2.2.1, hr.2.2.2.2.2.2.2.2.1, hr.2.2.2.2.2.2.2.2.2, hp.1, hbl, hb⟩ : RowHeld w b (off + (m + 1) * 10) (off + m * 10) (rs.getD (m + 1) zeroR) _ wr))
              clear hc hbl hr hok hqu hp
              generalize rs.getD (m + 1) zeroR = r at *
              generalize (rs.getD m zeroR).key = pk at *
              obtain ⟨key, kind, sum, st, last, n', mn, mx, total, dropped⟩ := r
              unfold R.v at HO HQ
              simp only at *
              unfold strLe at hle
              have i1 : (m : Int) + 1 < (n : Int) := by omega
              have i2 : (m : Int) < (n : Int) := by omega
              have i3 : ((m : Int) + 1).toNat = m + 1 := by omega
              have i4 : decide ((0 : Int) < (m : Int) + 1) = true := by rw [decide_eq_true_eq]; omega
              have i5 : (0 : Int) ≤ (m : Int) + 1 := by omega
              have i6 : (m : Int) ≤ 9223372036854775807 := by omega
              have i7 : IntKind.i64.wrap (m : Int) = (m : Int) := by rw [IntKind.wrap_i64]; omega
              go_wp2_with fail
              have hall : ∀ p : Prop, (∀ W, RowHeld w b (off + (m + 1) * 10) (off + m * 10) ⟨key, kind, sum, st, last, n', mn, mx, total, dropped⟩ pk W → p) ↔ p := fun p => ⟨fun h => h _ HS.out, fun h _ _ => h⟩
              refine wp_region_wq (C := RowHeld w b (off + (m + 1) * 10) (off + m * 10) ⟨key, kind, sum, st, last, n', mn, mx, total, dropped⟩ pk) (by kernel_rfl) (by kernel_rfl) HS.out ?_
              repeat (refine WQ.step (fun K hK => ?_); go_simp; first | (refine hK _ ?_; clear hK K) | (apply Exists.intro; refine ⟨fun W hW => ?_, hK _ ?_⟩; (focus (first | (go_at_call 83; refine (HO W).out.mono ?_; rintro e w' ⟨rfl, hb'⟩; exact ⟨rfl, hW.next hb'⟩) | (go_at_call 84; refine (HQ W).out.mono ?_; rintro e w' ⟨rfl, hb'⟩; exact ⟨rfl, hW.next hb'⟩) | exact rfl | (obtain ⟨y0, y1, y2, y3, y4, y5, y6, y7, y8, y9, y10, hy⟩ := rowHeld_get hW; go_simp; rfl))); clear hK K))
              refine WQ.nil ?_
              intro w2 hw2
              have HW2 := hw2.2.2.2.2.2.2.2.2.2.2.2.1
              clear hw2
              go_wp2_with fail
              go_ret
              exact ⟨ret_bool HB1.out.symm, HW2⟩
            | false =>
              have HB1 := Lib.hid (hbn.trans hle)
              clear hbn
              have hp := ((hc m (by omega)).below hb hbl).get
              have HS := Lib.hid (RowHeld.drew (⟨hr.1, hr.2.1, hr.2.2.1, hr.2.2.2.1, hr.2.2.2.2.1, hr.2.2.2.2.2.1, hr.2.2.2.2.2.2.1, hr.2.2.2.2.2.2.2.1, hr.2.2.2.2.2.2.2.2.1, hr.2.2.2.2.2.2.2.2.2, hp.1, hbl, hb⟩ : RowHeld w b (off + (m + 1) * 10) (off + m * 10) (rs.getD (m + 1) zeroR) _ wr))
              clear hc hbl hr hok hqu hp
              generalize rs.getD (m + 1) zeroR = r at *
              generalize (rs.getD m zeroR).key = pk at *
              obtain ⟨key, kind, sum, st, last, n', mn, mx, total, dropped⟩ := r
              unfold R.v at HO HQ
              simp only at *
              unfold strLe at hle
              have i1 : (m : Int) + 1 < (n : Int) := by omega
              have i2 : (m : Int) < (n : Int) := by omega
              have i3 : ((m : Int) + 1).toNat = m + 1 := by omega
              have i4 : decide ((0 : Int) < (m : Int) + 1) = true := by rw [decide_eq_true_eq]; omega
              have i5 : (0 : Int) ≤ (m : Int) + 1 := by omega
              have i6 : (m : Int) ≤ 9223372036854775807 := by omega
              have i7 : IntKind.i64.wrap (m : Int) = (m : Int) := by rw [IntKind.wrap_i64]; omega
              go_wp2_with fail
              have hall : ∀ p : Prop, (∀ W, RowHeld w b (off + (m + 1) * 10) (off + m * 10) ⟨key, kind, sum, st, last, n', mn, mx, total, dropped⟩ pk W → p) ↔ p := fun p => ⟨fun h => h _ HS.out, fun h _ _ => h⟩
              refine wp_region_wq (C := RowHeld w b (off + (m + 1) * 10) (off + m * 10) ⟨key, kind, sum, st, last, n', mn, mx, total, dropped⟩ pk) (by kernel_rfl) (by kernel_rfl) HS.out ?_
              repeat (refine WQ.step (fun K hK => ?_); go_simp; first | (refine hK _ ?_; clear hK K) | (apply Exists.intro; refine ⟨fun W hW => ?_, hK _ ?_⟩; (focus (first | (go_at_call 83; refine (HO W).out.mono ?_; rintro e w' ⟨rfl, hb'⟩; exact ⟨rfl, hW.next hb'⟩) | (go_at_call 84; refine (HQ W).out.mono ?_; rintro e w' ⟨rfl, hb'⟩; exact ⟨rfl, hW.next hb'⟩) | exact rfl | (obtain ⟨y0, y1, y2, y3, y4, y5, y6, y7, y8, y9, y10, hy⟩ := rowHeld_get hW; go_simp; rfl))); clear hK K))
              refine WQ.nil ?_
              intro w2 hw2
              have HW2 := hw2.2.2.2.2.2.2.2.2.2.2.2.1
              clear hw2
              go_wp2_with fail
              go_roundw
              case rel => exact ⟨m + 2, by omega, by go_num, HN.out HB1.out, HW2⟩
              case measure => simp [intOf]; omega
    · have hjn : j = n := by omega
      subst hjn
      have HN := Lib.hid (HALL.out HG.out)
      have HB := Lib.hid hbl
      clear hbl
      go_wp2_with fail
      go_ret
      exact ⟨ret_bool HN.out.symm, HB.out⟩
end Go.Proofs.YtbhhhakfjmaglaaGreat
/-
  An argument that is a row of rows, opened: some rows each of whose fields fits its type.
-/
namespace Go.Proofs.YtbhhhakfjmaglaaGreat
open Go.ChangeShapes Go.WideShapes Go.Deep Go.RowKit M
set_option linter.unusedVariables false
def FitR (rs : List R) : Prop := ∀ j, j < rs.length → (rs.getD j zeroR).Fit
theorem FitR.key {rs : List R} (h : FitR rs) : ∀ j, j < rs.length → (rs.getD j zeroR).key.size ≤ maxLen := fun j hj => (h j hj).key
instance : Inhabited R := ⟨zeroR⟩
set_option maxRecDepth 100000 in
theorem open_rows {H : Type} {enc : TypeId × Value → H} {w : World} {base : Nat} {spare : Nat → Bool} {held : Bool} {fuel : Nat} {A : Option Addr} {len cap : Nat} {x : DataW H × List MemPlace}
    (h : DataW.trod enc Tryz.prog w base spare held fuel 46 [.slice A len cap] = some x) : ∃ rs, RowsArg w (.slice A len cap) rs ∧ FitR rs := by
  have hC : Tryz.prog.cellsOf 106 = 10 := by kernel_rfl
  rcases open_slice Tryz.underlying46 h with ⟨hcs, _⟩ | ⟨a, l, c, m, n, D, Pl, hcs, _, hl, hm, hmm, _, hi⟩
  · simp at hcs
    obtain ⟨rfl, rfl, rfl⟩ := hcs
    exact ⟨[], RowsArg.nil _, fun j hj => by simp at hj⟩
  · simp at hcs
    obtain ⟨rfl, rfl, rfl⟩ := hcs
    have hle : len ≤ m := by rw [hmm]; split <;> omega
    rw [hC] at hi
    have hr : ∀ i, i < len → ∃ r : R, r.Fit ∧ ∀ k, k < 10 → w.cell? ((a.add (i * 10)).add k) = (rowCells r)[k]? := fun i him => by
      obtain ⟨cs', hc, ht⟩ := hi i (by omega)
      obtain ⟨_, hcl, hat⟩ := World.cells?_some hc
      obtain ⟨r, hr, hf⟩ := read_row hcl ht
      refine ⟨r, hf, fun k hk => ?_⟩
      rw [hat k hk, hr, Array.getElem?_toList]
    obtain ⟨f, hf⟩ := choose_lt hr
    have hg : ∀ j, j < len → ((List.range len).map f).getD j zeroR = f j := fun j hj => by simp [List.getD_eq_getElem?_getD, hj]
    have hln : ((List.range len).map f).length = len := by simp
    refine ⟨(List.range len).map f, ⟨some a, cap, by rw [hln], by rw [hln]; exact hl, hm, fun hp => ?_⟩, fun j hj => ?_⟩
    · rw [hln] at hp
      obtain ⟨b, off, spot⟩ := a
      have h0 := (hf 0 hp).2 0 (by decide)
      have hspot : spot = none := by simpa [Addr.add] using World.cell?_spot h0
      subst hspot
      refine ⟨b, off, rfl, by simpa [Addr.add] using World.block_lt_of_cell? w _ h0, fun j hj k hk => ?_⟩
      rw [hln] at hj
      rw [hg j hj, ← (hf j hj).2 k hk, add_add]
      congr 1
      unfold Addr.add
      split
      · simp_all
      · simp [Nat.add_assoc]
    · rw [hln] at hj
      rw [hg j hj]
      exact (hf j hj).1
end Go.Proofs.YtbhhhakfjmaglaaGreat
/-
  Chapter 13 in plain words: the model's keys and rows; the kind and the row of a key; when a model is valid; what an operation makes of it.
-/
namespace Go.Proofs.YtbhhhakfjmaglaaGreat.M
open Go.RowKit
set_option linter.unusedVariables false
structure Mo where
  keys : List KR
  rows : List R
/-- A key with its kind as a row of which the rest is zero: so what is known of rows in order is known of keys. -/
def kr (k : KR) : R := { zeroR with key := k.key, kind := k.kind }
end Go.Proofs.YtbhhhakfjmaglaaGreat.M
namespace Go.Proofs.YtbhhhakfjmaglaaGreat
open Go.RowKit M
set_option linter.unusedVariables false
/-- The kind of the first of the keys that is s, or 0. -/
def mKindV (s : ByteArray) : List KR → Int
  | [] => 0
  | k :: l => if k.key = s then k.kind else mKindV s l
/-- The row of a key that has none. -/
def newRow (m : Mo) (s : ByteArray) : R := if mKindV s m.keys = 0 then zeroR else { zeroR with key := s, kind := mKindV s m.keys }
/-- The first of the rows whose key is s, or z. -/
def mFindV (s : ByteArray) (z : R) : List R → R
  | [] => z
  | r :: l => if r.key = s then r else mFindV s z l
def mRowV (m : Mo) (s : ByteArray) : R := mFindV s (newRow m s) m.rows
/-- Is the key at place i not as a valid model has it? -/
def kBad (l : List KR) (i : Nat) : Bool := decide (tagV (l.getD i zeroKR).key (l.getD i zeroKR).kind = 0) || (decide (0 < i) && strLe (l.getD i zeroKR).key (l.getD (i - 1) zeroKR).key)
def keysOkV (l : List KR) : Bool := (List.range l.length).all fun i => !kBad l i
def kindsIn (m : Mo) : Bool := m.rows.all fun r => decide (mKindV r.key m.keys = r.kind)
def modelOkV (m : Mo) : Bool := decide (m.keys.length ≤ 4) && (keysOkV m.keys && (reportOkV m.rows && kindsIn m))
/-- A key put into its place, ahead of the first greater one. -/
def insK (k : KR) : List KR → List KR
  | [] => [k]
  | x :: l => if strLt k.key x.key = true then k :: x :: l else x :: insK k l
def noKey (s : ByteArray) (l : List R) : List R := l.filter fun x => !decide (x.key = s)
/-- A row put in the place of that of its key; a quiet one is left out. -/
def rowPutV (l : List R) (r : R) : List R := if quietV r = true then noKey r.key l else putV (noKey r.key l) r
def regV (m : Mo) (o : O) : Mo × Int :=
  if mKindV o.key m.keys = o.what then (m, 0)
  else if mKindV o.key m.keys ≠ 0 then (m, 4)
  else if m.keys.length = 4 then (m, 3)
  else (⟨insK ⟨o.key, o.what⟩ m.keys, m.rows⟩, 0)
/-- A row with the value recorded. -/
def withV (r : R) (v : Int) : R := if r.kind = 1 then countedV r v else if r.kind = 2 then { r with set := true, last := v } else sampledV r v
def recV (m : Mo) (o : O) : Mo × Int :=
  if (mRowV m o.key).kind = 0 then (m, 2)
  else (⟨m.keys, rowPutV m.rows (withV (mRowV m o.key) o.val)⟩, if (mRowV m o.key).kind ≠ 1 ∧ (mRowV m o.key).kind ≠ 2 ∧ (mRowV m o.key).n = 3 then 5 else 0)
def mDoV (m : Mo) (o : O) : Mo × Int × List R :=
  if modelOkV m = true ∧ opOkV o = true then
    (if o.kind = 1 then ((regV m o).1, (regV m o).2, []) else if o.kind = 2 then ((recV m o).1, (recV m o).2, []) else (⟨m.keys, []⟩, 0, m.rows))
  else (m, 1, [])
/- Facts. -/
/-- Strictly in order. -/
def Asc (l : List R) : Prop := l.Pairwise fun a b => strLt a.key b.key = true
theorem strLe_lt (x y : ByteArray) : strLe x y = !strLt y x := by
  unfold strLe strLt
  have e : ∀ a b : List UInt8, (Go.Op.bytesLess a b || a == b) = !Go.Op.bytesLess b a := by
    intro a b
    cases h : Go.Op.bytesLess b a with
    | true =>
      cases h2 : Go.Op.bytesLess a b with
      | true => have := bl_trans _ _ _ h h2; rw [bl_irrefl] at this; cases this
      | false =>
        have : (a == b) = false := by
          rw [beq_eq_false_iff_ne]; intro e; subst e; rw [bl_irrefl] at h; cases h
        rw [this]; rfl
    | false =>
      cases h2 : Go.Op.bytesLess a b with
      | true => rfl
      | false => rw [bl_total _ _ h2 h]; simp
  exact e _ _
theorem asc_of {l : List R} (h : ∀ i, i + 1 < l.length → strLt (l.getD i zeroR).key (l.getD (i + 1) zeroR).key = true) : Asc l := by
  induction l with
  | nil => exact List.Pairwise.nil
  | cons x l ih =>
    have hl : Asc l := ih fun i hi => h (i + 1) (by simp only [List.length_cons]; omega)
    refine List.Pairwise.cons (fun y hy => ?_) hl
    cases l with
    | nil => cases hy
    | cons z l =>
      have h0 : strLt x.key z.key = true := h 0 (by simp)
      rcases List.mem_cons.1 hy with rfl | hy
      · exact h0
      · exact strLt_trans h0 ((List.pairwise_cons.1 hl).1 y hy)
theorem insV_end {l : List R} {r : R} (h : ∀ x ∈ l, strLt x.key r.key = true) : insV r l = l ++ [r] := by
  induction l with
  | nil => rfl
  | cons x l ih =>
    have h0 := h x List.mem_cons_self
    have h1 : strLt r.key x.key = false := by
      cases e : strLt r.key x.key with
      | false => rfl
      | true => have := strLt_trans h0 e; rw [strLt_irrefl] at this; cases this
    simp only [insV, h1, Bool.false_eq_true, if_false, List.cons_append]
    rw [ih fun y hy => h y (List.mem_cons_of_mem _ hy)]
theorem foldl_ins {l acc : List R} (h : Asc (acc ++ l)) : l.foldl (fun s r => insV r s) acc = acc ++ l := by
  induction l generalizing acc with
  | nil => simp
  | cons x l ih =>
    have hx : ∀ y ∈ acc, strLt y.key x.key = true := fun y hy => (List.pairwise_append.1 h).2.2 y hy x List.mem_cons_self
    rw [List.foldl_cons, insV_end hx, ih (by rw [List.append_assoc]; exact h), List.append_assoc]
    rfl
theorem sortV_asc {l : List R} (h : Asc l) : sortV l = l := by
  have := foldl_ins (l := l) (acc := []) (by simpa using h)
  simpa [sortV] using this
theorem foldl_add {l acc : List R} (h : Asc (acc ++ l)) (hq : ∀ x ∈ l, x.kind ≠ 0 ∧ quietV x = false) : l.foldl addV acc = acc ++ l := by
  induction l generalizing acc with
  | nil => simp
  | cons x l ih =>
    have hx : ∀ y ∈ acc, strLt y.key x.key = true := fun y hy => (List.pairwise_append.1 h).2.2 y hy x List.mem_cons_self
    have hn : (acc.any fun y => decide (y.key = x.key)) = false := by
      rw [List.any_eq_false]
      intro y hy
      have := strLt_ne (hx y hy)
      simpa using this
    have e : addV acc x = acc ++ [x] := by
      unfold addV putV
      rw [if_pos (hq x List.mem_cons_self), hn, if_neg (by simp), insV_end hx]
    rw [List.foldl_cons, e, ih (by rw [List.append_assoc]; exact h) (fun y hy => hq y (List.mem_cons_of_mem _ hy)), List.append_assoc]
    rfl
theorem insK_kr (k : KR) (l : List KR) : (insK k l).map kr = insV (kr k) (l.map kr) := by
  induction l with
  | nil => rfl
  | cons x l ih =>
    simp only [insK, List.map_cons, insV]
    show List.map kr (if strLt k.key x.key = true then k :: x :: l else x :: insK k l) = if strLt k.key x.key = true then kr k :: kr x :: l.map kr else kr x :: insV (kr k) (l.map kr)
    cases e : strLt k.key x.key with
    | true => rfl
    | false =>
      show kr x :: (insK k l).map kr = kr x :: insV (kr k) (l.map kr)
      rw [ih]
theorem insK_len (k : KR) (l : List KR) : (insK k l).length = l.length + 1 := by
  induction l with
  | nil => rfl
  | cons x l ih => unfold insK; split; rfl; rw [List.length_cons, ih, List.length_cons]
theorem kr_getD (l : List KR) (i : Nat) : (l.map kr).getD i zeroR = kr (l.getD i zeroKR) := by
  simp only [List.getD_eq_getElem?_getD, List.getElem?_map]
  cases l[i]? <;> rfl
theorem keysOk_at {l : List KR} (h : keysOkV l = true) : ∀ i, i < l.length → kBad l i = false := fun i hi => by
  have := List.all_eq_true.1 h i (List.mem_range.2 hi)
  simpa using this
theorem keys_asc {l : List KR} (h : keysOkV l = true) : Asc (l.map kr) := by
  refine asc_of fun i hi => ?_
  rw [List.length_map] at hi
  have := keysOk_at h (i + 1) hi
  unfold kBad at this
  rw [Bool.or_eq_false_iff] at this
  have h2 := this.2
  rw [show i + 1 - 1 = i by omega, show decide (0 < i + 1) = true from decide_eq_true (by omega), Bool.true_and, strLe_lt] at h2
  rw [kr_getD, kr_getD]
  show strLt (l.getD i zeroKR).key (l.getD (i + 1) zeroKR).key = true
  simpa using h2
theorem report_at {l : List R} (h : reportOkV l = true) : l.length ≤ 4 ∧ ∀ i, i < l.length → badAt l i = false := by
  unfold reportOkV at h
  rw [Bool.and_eq_true, decide_eq_true_eq] at h
  refine ⟨h.1, fun i hi => ?_⟩
  have := List.all_eq_true.1 h.2 i (List.mem_range.2 hi)
  simpa using this
theorem badAt_parts {l : List R} {i : Nat} (h : badAt l i = false) : rowOkV (l.getD i zeroR) = true ∧ quietV (l.getD i zeroR) = false ∧ (0 < i → strLt (l.getD (i - 1) zeroR).key (l.getD i zeroR).key = true) := by
  unfold badAt at h
  simp only [Bool.or_eq_false_iff, Bool.not_eq_false', Bool.and_eq_false_iff, decide_eq_false_iff_not, strLe_lt] at h
  exact ⟨h.1, h.2.1, fun hi => by rcases h.2.2 with k | k; exact absurd hi k; simpa using k⟩
theorem report_asc {l : List R} (h : reportOkV l = true) : Asc l := asc_of fun i hi => by
  have := (badAt_parts ((report_at h).2 (i + 1) hi)).2.2 (by omega)
  rwa [show i + 1 - 1 = i by omega] at this
theorem report_mem {l : List R} (h : reportOkV l = true) : ∀ x ∈ l, rowOkV x = true ∧ quietV x = false := fun x hx => by
  obtain ⟨i, hi, rfl⟩ := List.getElem_of_mem hx
  have := badAt_parts ((report_at h).2 i hi)
  rw [List.getD_eq_getElem?_getD, List.getElem?_eq_getElem hi] at this
  exact ⟨this.1, this.2.1⟩
theorem rowOk_kind {r : R} (h : rowOkV r = true) : r.kind = 1 ∨ r.kind = 2 ∨ r.kind = 3 := by
  unfold rowOkV at h
  by_cases h1 : r.kind = 1
  · exact .inl h1
  · by_cases h2 : r.kind = 2
    · exact .inr (.inl h2)
    · by_cases h3 : r.kind = 3
      · exact .inr (.inr h3)
      · rw [if_neg h1, if_neg h2, if_neg h3] at h; simp at h
theorem report_ok_of {l : List R} (h4 : l.length ≤ 4) (ha : Asc l) (hm : ∀ x ∈ l, rowOkV x = true ∧ quietV x = false) : reportOkV l = true := by
  unfold reportOkV
  rw [decide_eq_true h4, Bool.true_and, List.all_eq_true]
  intro i hi
  have hi := List.mem_range.1 hi
  have hx := hm (l.getD i zeroR) (by rw [List.getD_eq_getElem?_getD, List.getElem?_eq_getElem hi]; exact List.getElem_mem hi)
  unfold badAt
  rw [hx.1, hx.2]
  cases i with
  | zero => rfl
  | succ i =>
    have := List.pairwise_iff_getElem.1 ha i (i + 1) (by omega) hi (by omega)
    have e : ∀ k (hk : k < l.length), l.getD k zeroR = l[k] := fun k hk => by rw [List.getD_eq_getElem?_getD, List.getElem?_eq_getElem hk]; rfl
    simp only [Nat.add_sub_cancel, strLe_lt]
    rw [e (i + 1) hi, e i (by omega), this]
    simp
/-- What the program makes of the rows: struck, appended, sorted, one of each key. -/
theorem rowPut_prog {l : List R} {x : R} (h : reportOkV l = true) (hx : x.kind ≠ 0) : oneV (sortV ((noKey x.key l ++ [x]).filter fun r => !quietV r)) = rowPutV l x := by
  have hm := report_mem h
  have hs : ∀ y ∈ noKey x.key l, y.kind ≠ 0 ∧ quietV y = false := fun y hy => by
    have := hm y (List.mem_filter.1 hy).1
    refine ⟨?_, this.2⟩
    rcases rowOk_kind this.1 with k | k | k <;> omega
  rw [report_sorted _ (fun y hy _ => by
    rcases List.mem_append.1 hy with hy | hy
    · exact (hs y hy).1
    · rw [List.mem_singleton] at hy; rw [hy]; exact hx), List.foldl_append]
  have ha : Asc (noKey x.key l) := List.Pairwise.filter _ (report_asc h)
  have e := foldl_add (acc := []) (l := noKey x.key l) (by simpa using ha) hs
  rw [e, List.nil_append, List.foldl_cons, List.foldl_nil]
  unfold addV rowPutV
  cases q : quietV x with
  | true => simp
  | false => simp [hx]
theorem key_len {l : List R} {x : R} (h : reportOkV l = true) : (noKey x.key l ++ [x]).length ≤ 5 := by
  have := (report_at h).1
  have h2 : (noKey x.key l).length ≤ l.length := List.length_filter_le _ _
  rw [List.length_append, List.length_singleton]; omega
theorem keyPut_prog {l : List KR} (h : keysOkV l = true) (k : KR) : sortV ((l ++ [k]).map kr) = (insK k l).map kr := by
  rw [List.map_append, List.map_cons, List.map_nil, sortV_snoc, sortV_asc (keys_asc h), insK_kr]
theorem rowPut_len (l : List R) (x : R) : (rowPutV l x).length ≤ l.length + 1 := by
  have h2 : (noKey x.key l).length ≤ l.length := List.length_filter_le _ _
  have hi : ∀ l : List R, (insV x l).length = l.length + 1 := by
    intro l
    induction l with
    | nil => rfl
    | cons y l ih => unfold insV; split; rfl; rw [List.length_cons, ih, List.length_cons]
  unfold rowPutV putV
  split
  · omega
  · split
    · omega
    · rw [hi]; omega
theorem regV_len (m : Mo) (o : O) : (regV m o).1.keys.length ≤ m.keys.length + 1 ∧ (regV m o).1.rows = m.rows := by
  unfold regV
  split
  · exact ⟨Nat.le_succ _, rfl⟩
  · split
    · exact ⟨Nat.le_succ _, rfl⟩
    · split
      · exact ⟨Nat.le_succ _, rfl⟩
      · exact ⟨by rw [insK_len]; exact Nat.le_refl _, rfl⟩
theorem recV_len (m : Mo) (o : O) : (recV m o).1.keys = m.keys ∧ (recV m o).1.rows.length ≤ m.rows.length + 1 := by
  unfold recV
  split
  · exact ⟨rfl, Nat.le_succ _⟩
  · exact ⟨rfl, rowPut_len _ _⟩
theorem mDoV_len (m : Mo) (o : O) : (mDoV m o).1.keys.length ≤ m.keys.length + 1 ∧ (mDoV m o).1.rows.length ≤ m.rows.length + 1 ∧ (mDoV m o).2.2.length ≤ m.rows.length := by
  unfold mDoV
  split
  · split
    · have := regV_len m o; exact ⟨this.1, by rw [this.2]; omega, Nat.zero_le _⟩
    · split
      · have := recV_len m o; exact ⟨by rw [this.1]; omega, this.2, Nat.zero_le _⟩
      · exact ⟨Nat.le_succ _, Nat.zero_le _, Nat.le_refl _⟩
  · exact ⟨Nat.le_succ _, Nat.le_succ _, Nat.zero_le _⟩
theorem row_n {r : R} (h : rowOkV r = true) (hk : r.kind = 1 ∨ r.kind = 2) : r.n = 0 := by
  unfold rowOkV at h
  rcases hk with k | k
  · rw [if_pos k, Bool.and_eq_true] at h
    have := h.2; unfold countV at this; simp only [decide_eq_true_eq] at this; exact this.2.2.2.1
  · rw [if_neg (by omega), if_pos k, Bool.and_eq_true] at h
    have := h.2; unfold gaugeRV at this; simp only [decide_eq_true_eq] at this; exact this.2.2.2.1
theorem mFind_or (s : ByteArray) (z : R) (l : List R) : mFindV s z l = z ∧ (∀ x ∈ l, x.key ≠ s) ∨ mFindV s z l ∈ l ∧ (mFindV s z l).key = s := by
  induction l with
  | nil => exact .inl ⟨rfl, fun x hx => by cases hx⟩
  | cons y l ih =>
    by_cases e : y.key = s
    · right; rw [mFindV, if_pos e]; exact ⟨List.mem_cons_self, e⟩
    · rw [mFindV, if_neg e]
      rcases ih with ⟨h1, h2⟩ | ⟨h1, h2⟩
      · exact .inl ⟨h1, fun x hx => by rcases List.mem_cons.1 hx with rfl | hx; exact e; exact h2 x hx⟩
      · exact .inr ⟨List.mem_cons_of_mem _ h1, h2⟩
theorem mKind_or (s : ByteArray) (l : List KR) : mKindV s l = 0 ∧ (∀ x ∈ l, x.key ≠ s) ∨ ∃ x ∈ l, x.key = s ∧ mKindV s l = x.kind := by
  induction l with
  | nil => exact .inl ⟨rfl, fun x hx => by cases hx⟩
  | cons y l ih =>
    by_cases e : y.key = s
    · right; rw [mKindV, if_pos e]; exact ⟨y, List.mem_cons_self, e, rfl⟩
    · rw [mKindV, if_neg e]
      rcases ih with ⟨h1, h2⟩ | ⟨x, h1, h2, h3⟩
      · exact .inl ⟨h1, fun x hx => by rcases List.mem_cons.1 hx with rfl | hx; exact e; exact h2 x hx⟩
      · exact .inr ⟨x, List.mem_cons_of_mem _ h1, h2, h3⟩
end Go.Proofs.YtbhhhakfjmaglaaGreat
/-
  Arguments opened: numbers, texts, rows, operations: each reads as some record whose fields fit their types.
-/
namespace Go.Proofs.YtbhhhakfjmaglaaGreat
open Go.ChangeShapes Go.WideShapes Go.Deep Go.RowKit M
set_option linter.unusedVariables false
section
variable {H : Type} {enc : TypeId × Value → H} {P : Program} {w : World} {base : Nat} {spare : Nat → Bool} {held : Bool} {α : Type} [Inhabited α]
/-- An argument that is a slice: its elements, each read as its type tells. -/
theorem open_elts {t te : TypeId} {F : Nat} (ht : P.underlying t = some (.slice te)) (hC : P.cellsOf te = F) (hF : 0 < F) (z : α) (Rel : List Value → α → Prop)
    (hread : ∀ (fuel : Nat) (cs : List Value) (x : DataW H × List MemPlace), cs.length = F → DataW.trod enc P w base spare held fuel te cs = some x → ∃ r, Rel cs r)
    {fuel : Nat} {c : Value} {x : DataW H × List MemPlace} (h : DataW.trod enc P w base spare held fuel t [c] = some x) :
    ∃ (l : List α) (A : Option Addr) (cap : Nat), c = .slice A l.length cap ∧ l.length ≤ cap ∧ cap ≤ maxLen ∧ (0 < l.length → ∃ b off, A = some ⟨b, off, none⟩ ∧ b < w.heap.size ∧ ∀ j, j < l.length → ∃ cs, cs.length = F ∧ (∀ k, k < F → w.cell? ⟨b, off + j * F + k, none⟩ = cs[k]?) ∧ Rel cs (l.getD j z)) := by
  rcases open_slice ht h with ⟨hcs, _⟩ | ⟨a, len, cap, m, n, D, Pl, hcs, _, hl, hm, hmm, _, hi⟩
  · simp at hcs
    subst hcs
    exact ⟨[], none, 0, rfl, Nat.le_refl _, Nat.zero_le _, fun h => absurd h (Nat.lt_irrefl _)⟩
  · simp at hcs
    subst hcs
    have hle : len ≤ m := by rw [hmm]; split <;> omega
    rw [hC] at hi
    have hr : ∀ i, i < len → ∃ r : α, ∃ cs : List Value, cs.length = F ∧ (∀ k, k < F → w.cell? ((a.add (i * F)).add k) = cs[k]?) ∧ Rel cs r := fun i him => by
      obtain ⟨cs', hc, ht⟩ := hi i (by omega)
      obtain ⟨_, hcl, hat⟩ := World.cells?_some hc
      obtain ⟨r, hr⟩ := hread _ _ _ hcl ht
      exact ⟨r, cs', hcl, fun k hk => hat k hk, hr⟩
    obtain ⟨f, hf⟩ := choose_lt hr
    have hg : ∀ j, j < len → ((List.range len).map f).getD j z = f j := fun j hj => by simp [List.getD_eq_getElem?_getD, hj]
    have hlen : ((List.range len).map f).length = len := by simp
    refine ⟨(List.range len).map f, some a, cap, by rw [hlen], by rw [hlen]; exact hl, hm, fun hp => ?_⟩
    rw [hlen] at hp ⊢
    obtain ⟨b, off, spot⟩ := a
    obtain ⟨cs0, hl0, hc0, _⟩ := hf 0 hp
    have h0 := hc0 0 hF
    rw [List.getElem?_eq_getElem (by omega : 0 < cs0.length)] at h0
    have hspot : spot = none := by simpa [Addr.add] using World.cell?_spot h0
    subst hspot
    refine ⟨b, off, rfl, by simpa [Addr.add] using World.block_lt_of_cell? w _ h0, fun j hj => ?_⟩
    obtain ⟨cs, hcl, hc, hrel⟩ := hf j hj
    refine ⟨cs, hcl, fun k hk => ?_, by rw [hg j hj]; exact hrel⟩
    rw [← hc k hk, add_add]
    congr 1
    unfold Addr.add
    split
    · simp_all
    · simp [Nat.add_assoc]
/-- The reading of a struct gives the reading of each of its fields. -/
theorem field_readN {fs : Array Field} {cs : List Value} {xs : List (DataW H × List MemPlace)} {n : Nat}
    (hg : ∀ (i : Nat) (f : Field), fs[i]? = some f → DataW.trod enc P w base spare held n f.type ((cs.drop f.offset).take (P.cellsOf f.type)) = xs[i]?)
    {i : Nat} {f : Field} (hf : fs[i]? = some f) (hx : i < xs.length) {k m : Nat} (ho : f.offset = k) (hm : P.cellsOf f.type = m) : ∃ y, DataW.trod enc P w base spare held n f.type ((cs.drop k).take m) = some y := by
  have h := hg i f hf
  rw [ho, hm, List.getElem?_eq_getElem hx] at h
  exact ⟨_, h⟩
end
section
variable {H : Type} {enc : TypeId × Value → H} {w : World} {base : Nat} {spare : Nat → Bool} {held : Bool} {fuel : Nat} {x : DataW H × List MemPlace} {c : Value}
set_option maxRecDepth 100000 in
theorem rd_bool (h : DataW.trod enc Tryz.prog w base spare held fuel 4 [c] = some x) : ∃ b, c = .bool b := by
  obtain ⟨b, e, _⟩ := DataW.trod_bool Tryz.underlying4 h
  exact ⟨b, by simpa using e⟩
set_option maxRecDepth 100000 in
theorem rd_int (h : DataW.trod enc Tryz.prog w base spare held fuel 3 [c] = some x) : ∃ z, inW z ∧ c = .int .i64 z := by
  obtain ⟨z, e, _, f⟩ := DataW.trod_int Tryz.underlying3 h
  exact ⟨z, fit_of f, by simpa using e⟩
set_option maxRecDepth 100000 in
theorem rd_str (h : DataW.trod enc Tryz.prog w base spare held fuel 9 [c] = some x) : ∃ s : ByteArray, s.size ≤ maxLen ∧ c = .string s := by
  obtain ⟨s, e, _, f⟩ := DataW.trod_string Tryz.underlying9 h
  exact ⟨s, f, by simpa using e⟩
set_option maxRecDepth 100000 in
theorem rd_ints (h : DataW.trod enc Tryz.prog w base spare held fuel 92 [c] = some x) : ∃ zs, IntsArg w c zs ∧ Fit zs := by
  obtain ⟨l, A, cap, rfl, h1, h2, h3⟩ := open_elts (F := 1) Tryz.underlying92 (by kernel_rfl) (by decide) (0 : Int) (fun cs z => cs = [.int .i64 z] ∧ inW z) (fun fuel cs x hl ht => by
    match cs, hl with
    | [c0], _ => obtain ⟨z, h1, rfl⟩ := rd_int ht; exact ⟨z, rfl, h1⟩) h
  have hfit : ∀ j, j < l.length → inW (l.getD j 0) := fun j hj => by
    obtain ⟨b, off, _, _, h5⟩ := h3 (by omega)
    obtain ⟨cs, _, _, _, hw⟩ := h5 j hj
    exact hw
  refine ⟨l, ⟨A, cap, rfl, h1, h2, fun hp => ?_⟩, fun z hz => ?_⟩
  · obtain ⟨b, off, ea, h4, h5⟩ := h3 hp
    refine ⟨b, off, ea, h4, fun j hj => ?_⟩
    obtain ⟨cs, _, hc, rfl, _⟩ := h5 j hj
    have := hc 0 (by decide)
    rwa [Nat.mul_one, Nat.add_zero] at this
  · obtain ⟨j, hj, e⟩ := List.getElem_of_mem hz
    have := hfit j hj
    rw [List.getD_eq_getElem?_getD, List.getElem?_eq_getElem hj, Option.getD_some, e] at this
    exact this
set_option maxRecDepth 100000 in
theorem rd_rows (h : DataW.trod enc Tryz.prog w base spare held fuel 46 [c] = some x) : ∃ rs, RowsArg w c rs ∧ FitR rs := by
  rcases open_slice Tryz.underlying46 h with ⟨hcs, _⟩ | ⟨a, l, cp, m, n, D, Pl, hcs, _⟩
  · simp at hcs; subst hcs; exact open_rows h
  · simp at hcs; subst hcs; exact open_rows h
set_option maxRecDepth 100000 in
theorem rd_op {cs : List Value} (hsz : cs.length = 4) (h : DataW.trod enc Tryz.prog w base spare held fuel 49 cs = some x) : ∃ r : O, cs = (opCells r).toList ∧ r.Fit := by
  obtain ⟨xs, n, _, _, hlen, hxl, hg⟩ := DataW.trod_struct Tryz.underlying49 h
  have hx : xs.length = 4 := hxl
  match cs, hsz with
  | [c0, c1, c2, c3], _ =>
    obtain ⟨y0, h0⟩ := field_readN hg (i := 0) rfl (by omega) (k := 0) rfl (m := 1) (by kernel_rfl)
    obtain ⟨y1, h1⟩ := field_readN hg (i := 1) rfl (by omega) (k := 1) rfl (m := 1) (by kernel_rfl)
    obtain ⟨y2, h2⟩ := field_readN hg (i := 2) rfl (by omega) (k := 2) rfl (m := 1) (by kernel_rfl)
    obtain ⟨y3, h3⟩ := field_readN hg (i := 3) rfl (by omega) (k := 3) rfl (m := 1) (by kernel_rfl)
    obtain ⟨x0, f0, rfl⟩ := rd_int (c := c0) h0
    obtain ⟨x1, f1, rfl⟩ := rd_str (c := c1) h1
    obtain ⟨x2, f2, rfl⟩ := rd_int (c := c2) h2
    obtain ⟨x3, f3, rfl⟩ := rd_int (c := c3) h3
    exact ⟨⟨x0, x1, x2, x3⟩, rfl, ⟨f0, f1, f2, f3⟩⟩
instance : Inhabited O := ⟨zeroO⟩
def FitOs (l : List O) : Prop := ∀ i, i < l.length → (l.getD i zeroO).Fit
end
section
variable {H : Type} {enc : TypeId × Value → H} {w : World} {base : Nat} {spare : Nat → Bool} {held : Bool} {r : Reach} {b0 : Nat} {v : Value} {d : DataW H} {p : List MemPlace}
set_option maxRecDepth 100000 in
theorem open_op (hv : Value.okWide Tryz.prog w r b0 49 v) (h : DataW.Trod enc Tryz.prog w base spare held 49 v d p) : ∃ x : O, v = x.v ∧ x.Fit := by
  obtain ⟨cs, rfl, hsz⟩ := okWide_struct Tryz.underlying49 hv
  obtain ⟨fuel, hf⟩ := h
  have hC : Tryz.prog.cellsOf 49 = 4 := by kernel_rfl
  rw [hC] at hsz
  obtain ⟨x, hx, hfit⟩ := rd_op (cs := cs.toList) (by simpa using hsz) hf
  obtain rfl : cs = opCells x := Array.ext' hx
  exact ⟨x, rfl, hfit⟩
end
end Go.Proofs.YtbhhhakfjmaglaaGreat
/-
  Rows that lie in blocks of their own: apart from one another; what a mark on one leaves of another.
-/
namespace Go.Proofs.YtbhhhakfjmaglaaGreat
open Go.RowKit M
set_option linter.unusedVariables false
theorem OwnI.lt {w : World} {b : Nat} {v : Value} {l : List Int} (h : OwnI w b v l) : ∀ k, v.ownBlock = some k → k < w.heap.size := fun k hk => (World.ownsRow.lt h.1 k hk).2
theorem OwnT.lt {w : World} {b : Nat} {v : Value} {l : List ByteArray} (h : OwnT w b v l) : ∀ k, v.ownBlock = some k → k < w.heap.size := fun k hk => (World.ownsRow.lt h k hk).2
theorem OwnR.lt {w : World} {b : Nat} {v : Value} {l : List R} (h : OwnR w b v l) : ∀ k, v.ownBlock = some k → k < w.heap.size := fun k hk => (World.ownsRow.lt h k hk).2
theorem OwnI.keptA {w w' : World} {base : Nat} {v u : Value} {zs : List Int} (h : OwnI w base v zs) (hg : w.grownBy w' u.ownBlock) (ha : Ap v u) : OwnI w' base v zs := by
  obtain ⟨g, hgv, _⟩ := h.block
  rcases ha with h' | h'
  · rw [hgv] at h'; cases h'
  · exact h.kept hg h'
theorem OwnT.keptA {w w' : World} {base : Nat} {v u : Value} {l : List ByteArray} (h : OwnT w base v l) (hg : w.grownBy w' u.ownBlock) (ha : Ap v u) : OwnT w' base v l := h.kept hg ha
theorem OwnR.keptA {w w' : World} {base : Nat} {v u : Value} {l : List R} (h : OwnR w base v l) (hg : w.grownBy w' u.ownBlock) (ha : Ap v u) : OwnR w' base v l := h.kept hg ha
end Go.Proofs.YtbhhhakfjmaglaaGreat
/-
  A row in a block of the call's own: what one store into a field makes of it, with all else that is known of the world carried along.
-/
namespace Go.Proofs.YtbhhhakfjmaglaaGreat
open Go.RowKit M
set_option linter.unusedVariables false
theorem RowAt.store {w : World} {g : Nat} {r : R} (h : RowAt w g r) (i : Nat) (v : Value) (r' : R) (e : (rowCells r).setIfInBounds i v = rowCells r') : RowAt (w.setCell ⟨g, i, none⟩ v) g r' := by
  unfold RowAt
  rw [← e]
  exact heap_setCell_same w g i _ _ v h
theorem RowAt.far {w : World} {g : Nat} {r : R} (h : RowAt w g r) (k i : Nat) (v : Value) (hk : g ≠ k) : RowAt (w.setCell ⟨k, i, none⟩ v) g r :=
  (heap_setCell_other w ⟨k, i, none⟩ g v hk).trans h
/-- The walk stands behind a store into field i of the row in block g; block o holds another row. -/
theorem wp_row {C : Go.Code} {Q : Exit → Act → World → Prop} {a : Act} {w0 w : World} {B g o : Nat} {r z : R} {i : Nat} {v : Value} (r' : R) (hx : RowAt w g r) (hz : RowAt w o z) (hb : Below B w0 w) (hg : B ≤ g) (ho : o ≠ g)
    (e : (rowCells r).setIfInBounds i v = rowCells r') (k : ∀ w', RowAt w' g r' → RowAt w' o z → Below B w0 w' → Code.wp Tryz.prog C Q a w') : Code.wp Tryz.prog C Q a (w.setCell ⟨g, i, none⟩ v) :=
  k _ (hx.store i v r' e) (hz.far g i v ho) (hb.setCell hg v)
/-- The row that ten stores lay into a block. -/
theorem RowAt.all {w : World} {g : Nat} {z : R} (h : RowAt w g z) (r : R) :
    RowAt ((((((((((w.setCell ⟨g, 0, none⟩ (.string r.key)).setCell ⟨g, 1, none⟩ (.int .i64 r.kind)).setCell ⟨g, 2, none⟩ (.int .i64 r.sum)).setCell ⟨g, 3, none⟩ (.bool r.set)).setCell ⟨g, 4, none⟩ (.int .i64 r.last)).setCell ⟨g, 5, none⟩ (.int .i64 r.n)).setCell ⟨g, 6, none⟩ (.int .i64 r.mn)).setCell ⟨g, 7, none⟩ (.int .i64 r.mx)).setCell ⟨g, 8, none⟩ (.int .i64 r.total)).setCell ⟨g, 9, none⟩ (.int .i64 r.dropped)) g r := by
  obtain ⟨key, kind, sum, st, last, n, mn, mx, total, dropped⟩ := r
  obtain ⟨zkey, zkind, zsum, zst, zlast, zn, zmn, zmx, ztotal, zdropped⟩ := z
  exact (((((((((h.store 0 _ ⟨key, zkind, zsum, zst, zlast, zn, zmn, zmx, ztotal, zdropped⟩ rfl).store 1 _ ⟨key, kind, zsum, zst, zlast, zn, zmn, zmx, ztotal, zdropped⟩ rfl).store 2 _ ⟨key, kind, sum, zst, zlast, zn, zmn, zmx, ztotal, zdropped⟩ rfl).store 3 _ ⟨key, kind, sum, st, zlast, zn, zmn, zmx, ztotal, zdropped⟩ rfl).store 4 _ ⟨key, kind, sum, st, last, zn, zmn, zmx, ztotal, zdropped⟩ rfl).store 5 _ ⟨key, kind, sum, st, last, n, zmn, zmx, ztotal, zdropped⟩ rfl).store 6 _ ⟨key, kind, sum, st, last, n, mn, zmx, ztotal, zdropped⟩ rfl).store 7 _ ⟨key, kind, sum, st, last, n, mn, mx, ztotal, zdropped⟩ rfl).store 8 _ ⟨key, kind, sum, st, last, n, mn, mx, total, zdropped⟩ rfl).store 9 _ ⟨key, kind, sum, st, last, n, mn, mx, total, dropped⟩ rfl
end Go.Proofs.YtbhhhakfjmaglaaGreat
/-
  Chapter 5, the program's functions: each answers what the plain words say. They turn nothing that was there.
-/
namespace Go.Proofs.YtbhhhakfjmaglaaGreat
open Go.RowKit M
set_option linter.unusedVariables false
theorem isKind_yes (k : Int) (w : World) (h0 : 1 ≤ k) (h1 : k ≤ 3) : Calls Tryz.prog 69 #[.int .i64 k] w (Same w (.bool true)) := by
  go_enter Tryz.func69, Tryz.ntmps69
  go_wp2
  go_ret
  exact ⟨rfl, rfl⟩
theorem isKind_no (k : Int) (w : World) (h : ¬ (1 ≤ k ∧ k ≤ 3)) : Calls Tryz.prog 69 #[.int .i64 k] w (Same w (.bool false)) := by
  by_cases h0 : 1 ≤ k
  · have h1 : decide (k ≤ 3) = false := by rw [decide_eq_false]; omega
    go_enter Tryz.func69, Tryz.ntmps69
    go_wp2
    go_ret
    exact ⟨rfl, rfl⟩
  · have h1 : decide (1 ≤ k) = false := by rw [decide_eq_false]; omega
    go_enter Tryz.func69, Tryz.ntmps69
    go_wp2
    go_ret
    exact ⟨rfl, rfl⟩
theorem isValue_yes (k : Int) (w : World) (h0 : 0 ≤ k) (h1 : k ≤ 65535) : Calls Tryz.prog 70 #[.int .i64 k] w (Same w (.bool true)) := by
  go_enter Tryz.func70, Tryz.ntmps70
  go_wp2
  go_ret
  exact ⟨rfl, rfl⟩
theorem isValue_no (k : Int) (w : World) (h : ¬ (0 ≤ k ∧ k ≤ 65535)) : Calls Tryz.prog 70 #[.int .i64 k] w (Same w (.bool false)) := by
  by_cases h0 : 0 ≤ k
  · have h1 : decide (k ≤ 65535) = false := by rw [decide_eq_false]; omega
    go_enter Tryz.func70, Tryz.ntmps70
    go_wp2
    go_ret
    exact ⟨rfl, rfl⟩
  · have h1 : decide (0 ≤ k) = false := by rw [decide_eq_false]; omega
    go_enter Tryz.func70, Tryz.ntmps70
    go_wp2
    go_ret
    exact ⟨rfl, rfl⟩
set_option maxRecDepth 100000 in
theorem iTagged_same (w : World) (s : ByteArray) (k : Int) (hs : s.size ≤ maxLen) : Calls Tryz.prog 86 #[.string s, .int .i64 k] w (Same w (.int .i64 (tagV s k))) := by
  have HO := Lib.hid (iKeyOk_same w s hs)
  have HP := Lib.hid (iPack_same w s hs)
  cases hk : keyOkV s with
  | false =>
    have E := Lib.hid (show tagV s k = 0 from tagV_no (by rw [hk]; simp))
    rw [hk] at HO
    clear hk
    go_enter Tryz.func86, Tryz.ntmps86
    go_wp2_with (go_at_call 68; refine HO.out.mono ?_; rintro e w' ⟨rfl, rfl⟩)
    go_ret
    exact ⟨ret_i E.out.symm, rfl⟩
  | true =>
    rw [hk] at HO
    have hp := packV_lt s
    by_cases h : 1 ≤ k ∧ k ≤ 3
    · have E := Lib.hid (tagV_yes hk h)
      obtain ⟨h1, h3⟩ := h
      generalize packV s = p at *
      clear hk
      go_enter Tryz.func86, Tryz.ntmps86
      go_wp2_with (first | (go_at_call 68; refine HO.out.mono ?_; rintro e w' ⟨rfl, rfl⟩) | (go_at_call 69; refine (isKind_yes _ _ (by omega) (by omega)).mono ?_; rintro e w' ⟨rfl, rfl⟩) | (go_at_call 110; refine HP.out.mono ?_; rintro e w' ⟨rfl, rfl⟩))
      go_ret
      exact ⟨ret_i (by rw [E.out]; omega), rfl⟩
    · have E := Lib.hid (show tagV s k = 0 from tagV_no (fun x => h x.2))
      clear hk
      go_enter Tryz.func86, Tryz.ntmps86
      go_wp2_with (first | (go_at_call 68; refine HO.out.mono ?_; rintro e w' ⟨rfl, rfl⟩) | (go_at_call 69; refine (isKind_no _ _ h).mono ?_; rintro e w' ⟨rfl, rfl⟩))
      go_ret
      exact ⟨ret_i E.out.symm, rfl⟩
theorem iTagged_any (w : World) (s : ByteArray) (k : Int) (hs : s.size ≤ maxLen) (h0 : -9223372036854775808 ≤ k) (h1 : k ≤ 9223372036854775807) : Calls Tryz.prog 86 #[.string s, .int .i64 k] w (Gives (.int .i64 (tagV s k)) w) := same_gives (iTagged_same w s k hs)
end Go.Proofs.YtbhhhakfjmaglaaGreat
/-
  The exact laws' helpers on rows of strings: comparing two rows, marking a row, checking the marks.
-/
namespace Go.Proofs.YtbhhhakfjmaglaaGreat
open Go.RowKit M
set_option linter.unusedVariables false
/-- The text of mark k. -/
def markV (k : Int) : ByteArray := (⟨#[109]⟩ : ByteArray) ++ decs k
theorem mark_byte (u : Nat) : UInt8.ofNat (48 + (u : Int) % 10).toNat = UInt8.ofNat (48 + u % 10) := by congr 1
set_option maxRecDepth 100000 in
set_option maxHeartbeats 400000 in
theorem markText_nat (m : Nat) (w : World) (h0 : 0 < m) (h1 : m ≤ 9223372036854775807) : Calls Tryz.prog 57 #[.int .i64 m] w (Gives (.string (markV m)) w) := by
  have hcv := conv_one
  go_enter Tryz.func57, Tryz.ntmps57
  go_wp2
  go_loopw [0, 3] (fun x o wr => ∃ (u : Nat) (acc : List UInt8), DecAt m u acc ∧ u ≤ m ∧ x = .int .i64 u ∧ o = .string (accs acc) ∧ Below w.heap.size w wr) (fun x _ _ => (intOf x).toNat)
  case atStart => exact ⟨m, [], DecAt.start h0, Nat.le_refl _, rfl, rfl, Below.refl _ _⟩
  case round =>
    obtain ⟨u, acc, hd, hu, rfl, rfl, hb⟩ := hrel
    have hl : (accs acc).size ≤ 19 := by rw [accs_size]; exact hd.len (by omega)
    by_cases hp : 0 < u
    · have hd2 := Lib.hid (hd.step hp)
      go_wp2
      go_roundw
      case rel => exact ⟨u / 10, _, hd2.out, by omega, by go_num, by rw [accs_cons, d48], hb.alloc hb.size _⟩
      case measure => simp [intOf]; omega
    · obtain rfl : u = 0 := by omega
      have HE := Lib.hid (decs_pos (n := (m : Int)) (by omega) acc (by rw [Int.toNat_natCast]; exact hd.stop))
      go_wp2
      go_ret
      exact ⟨ret_str (by rw [HE.out]; rfl), hb⟩
theorem markText_any (k : Int) (w : World) (h0 : 1 ≤ k) (h1 : k ≤ 9223372036854775807) : Calls Tryz.prog 57 #[.int .i64 k] w (Gives (.string (markV k)) w) := by
  obtain ⟨m, rfl⟩ := Int.eq_ofNat_of_zero_le (show 0 ≤ k by omega)
  exact markText_nat m w (by omega) (by omega)
/-- Marks from k on. -/
def marksT (k : Int) (n : Nat) : List ByteArray := (List.range n).map fun j : Nat => markV (k + (j : Int))
theorem marksT_length (k : Int) (n : Nat) : (marksT k n).length = n := by simp [marksT]
theorem marksT_getD (k : Int) (n j : Nat) (h : j < n) : (marksT k n).getD j ⟨#[]⟩ = markV (k + j) := by simp [marksT, List.getD_eq_getElem?_getD, h]
def mpartT (l : List ByteArray) (k : Int) (j : Nat) : List ByteArray := marksT k j ++ l.drop j
theorem mpartT_length (l : List ByteArray) (k : Int) (j : Nat) (h : j ≤ l.length) : (mpartT l k j).length = l.length := by
  simp only [mpartT, List.length_append, marksT_length, List.length_drop]; omega
theorem mpartT_zero (l : List ByteArray) (k : Int) : mpartT l k 0 = l := by simp [mpartT, marksT]
theorem mpartT_all (l : List ByteArray) (k : Int) : mpartT l k l.length = marksT k l.length := by simp [mpartT]
theorem mpartT_set (l : List ByteArray) (k : Int) (j : Nat) (h : j < l.length) : (mpartT l k j).set j (markV (k + j)) = mpartT l k (j + 1) := by
  unfold mpartT
  rw [List.set_append_right _ _ (by rw [marksT_length]; exact Nat.le_refl _), marksT_length, Nat.sub_self, List.drop_eq_getElem_cons h]
  have : marksT k (j + 1) = marksT k j ++ [markV (k + (j : Int))] := by simp [marksT, List.range_succ]
  rw [this, List.set_cons_zero, List.append_assoc]; rfl
theorem OwnT.set {w : World} {base g n cap : Nat} {l : List ByteArray} (h : OwnT w base (.slice (some ⟨g, 0, none⟩) n cap) l) (hn : l.length = n) (j : Nat) (x : ByteArray) :
    OwnT (w.setCell ⟨g, j, none⟩ (.string x)) base (.slice (some ⟨g, 0, none⟩) n cap) (l.set j x) ∧ w.grownBy (w.setCell ⟨g, j, none⟩ (.string x)) (some g) := by
  subst hn
  have hs := World.ownsRow.stored h j (.string x)
  refine ⟨?_, hs.2⟩
  unfold OwnT
  rw [List.length_set, List.map_set]
  exact hs.1
theorem OwnT.frz {w : World} {base g n cap : Nat} {l : List ByteArray} (h : OwnT w base (.slice (some ⟨g, 0, none⟩) n cap) l) (hn : l.length = n) (j : Nat) : w.frozen? ⟨g, j, none⟩ = false := by
  subst hn
  exact World.ownsRow.frozenAt h j
theorem OwnT.cell {w : World} {base g n cap : Nat} {l : List ByteArray} (h : OwnT w base (.slice (some ⟨g, 0, none⟩) n cap) l) (hn : l.length = n) (j : Nat) (hj : j < n) : w.cell? ⟨g, j, none⟩ = some (.string (l.getD j ⟨#[]⟩)) := by
  subst hn
  rw [World.ownsRow.cellAt h j (by omega), List.getElem?_map, List.getElem?_eq_getElem hj, List.getD_eq_getElem?_getD, List.getElem?_eq_getElem hj]
  rfl
def MarkedT (w : World) (base : Nat) (v : Value) (k : Int) (n : Nat) (e : Ending) (w' : World) : Prop := e = .returned (.int .i64 (k + n)) ∧ OwnT w' base v (marksT k n) ∧ w.grownBy w' v.ownBlock
theorem grown_any {w w1 w2 : World} {r : Option Nat} (h : w.grownBy w1 r) (hb : Below w1.heap.size w1 w2) : w.grownBy w2 r :=
  ⟨hb.os.trans h.os, hb.tape.trans h.tape, hb.output.trans h.output, Nat.le_trans h.size hb.size, fun i hi hne => (hb.block i (Nat.lt_of_lt_of_le hi h.size)).trans (h.block i hi hne)⟩
/-- What holds of each world in a statement that draws and calls. -/
def HeldB (w0 : World) (b : Nat) (w : World) : Prop := Below w0.heap.size w0 w ∧ b < w.heap.size
theorem heldB_next {w0 w1 w2 : World} {b i : Nat} {x : Value} (hb : Below w1.heap.size w1 w2) (h : w1.cell? ⟨b, i, none⟩ = some x ∧ HeldB w0 b w1) : w2.cell? ⟨b, i, none⟩ = some x ∧ HeldB w0 b w2 := by
  obtain ⟨h1, h2, h3⟩ := h
  exact ⟨(hb.cell (p := ⟨b, i, none⟩) h3).trans h1, h2.trans (hb.mono h2.size), Nat.lt_of_lt_of_le h3 hb.size⟩
theorem heldB_bel {w0 w : World} {b : Nat} {p : Prop} (h : p ∧ HeldB w0 b w) : Below w0.heap.size w0 w := h.2.1
/-- Two rows of which one was made behind the other lie in two blocks. -/
theorem apart_IT {w w' : World} {b0 B : Nat} {v u : Value} {xs : List Int} {l : List ByteArray} (h : OwnI w b0 v xs) (k : OwnT w' B u l) (hB : w.heap.size ≤ B) : ∀ g, v.ownBlock = some g → u.ownBlock ≠ some g := fun g hg e => by
  obtain ⟨g', hg', _, h2⟩ := h.block
  have := k.base_le g e
  rw [hg'] at hg; injection hg with hg; omega
theorem apart_TI {w w' : World} {b0 B : Nat} {v u : Value} {xs : List Int} {l : List ByteArray} (h : OwnT w b0 v l) (k : OwnI w' B u xs) (hB : w.heap.size ≤ B) : ∀ g, v.ownBlock = some g → u.ownBlock ≠ some g := fun g hg e => by
  obtain ⟨g', hg', h1, _⟩ := k.block
  have := (World.ownsRow.lt h g hg).2
  rw [hg'] at e; injection e with e; omega
theorem OwnT.apart {w w' : World} {b0 B : Nat} {v u : Value} {xs l : List ByteArray} (h : OwnT w b0 v xs) (k : OwnT w' B u l) (hB : w.heap.size ≤ B) : ∀ g, v.ownBlock = some g → u.ownBlock ≠ some g := fun g hg e => by
  have h1 := (World.ownsRow.lt h g hg).2
  have := k.base_le g e
  omega
theorem ne_of {v u : Value} (h : ∀ g, v.ownBlock = some g → u.ownBlock ≠ some g) : v.ownBlock = none ∨ v.ownBlock ≠ u.ownBlock := by
  cases e : v.ownBlock with
  | none => exact Or.inl rfl
  | some g => exact Or.inr fun x => h g e x.symm
theorem ne_sym {v u : Value} (h : ∀ g, v.ownBlock = some g → u.ownBlock ≠ some g) : u.ownBlock = none ∨ u.ownBlock ≠ v.ownBlock := by
  cases e : u.ownBlock with
  | none => exact Or.inl rfl
  | some g => exact Or.inr fun x => h g x.symm e
end Go.Proofs.YtbhhhakfjmaglaaGreat
/-
  The exact laws' marks on rows of KRow, and the look whether they are held.
-/
namespace Go.Proofs.YtbhhhakfjmaglaaGreat
open Go.RowKit M
set_option linter.unusedVariables false
set_option linter.unusedSimpArgs false
/-- A record marked from k on. -/
def markKRow (k : Int) : KR := ⟨markV (k), k + 1⟩
def marksKRow (k : Int) (n : Nat) : List KR := (List.range n).map fun j : Nat => markKRow (k + 2 * (j : Int))
theorem marksKRow_length (k : Int) (n : Nat) : (marksKRow k n).length = n := by simp [marksKRow]
theorem marksKRow_getD (k : Int) (n j : Nat) (h : j < n) : (marksKRow k n).getD j zeroKR = markKRow (k + 2 * j) := by simp [marksKRow, List.getD_eq_getElem?_getD, h]
def OwnKRowF (w : World) (base : Nat) (v : Value) (l : List KR) : Prop := w.ownsRow base 40 2 v l.length (cellsF krCells l)
def MarkedKRow (w : World) (base : Nat) (v : Value) (k : Int) (n : Nat) (e : Ending) (w' : World) : Prop := e = .returned (.int .i64 (k + 2 * n)) ∧ OwnKRowF w' base v (marksKRow k n) ∧ w.grownBy w' v.ownBlock
set_option maxRecDepth 100000 in
set_option maxHeartbeats 8000000 in
theorem markKRowS_any (w : World) (base : Nat) (v : Value) (l : List KR) (k : Int) (h : OwnKRowF w base v l) (hl : l.length ≤ 1048576) (hk0 : 1 ≤ k) (hk1 : k ≤ 1000000000000) :
    Calls Tryz.prog 56 #[v, .int .i64 k] w (MarkedKRow w base v k l.length) := by
  have h' := h
  rcases h.2 with ⟨rfl, h0⟩ | ⟨g, cap, cur, rfl, _, _, _, _, _, _⟩
  · have HO := Lib.hid h'
    have hl0 : l = [] := List.eq_nil_of_length_eq_zero h0
    subst hl0
    clear h h' h0
    go_enter Tryz.func56, Tryz.ntmps56
    go_wp2_with fail
    go_loopw [1, 5] (fun c i wr => i = .int .i64 0 ∧ c = .int .i64 k ∧ wr = w) (fun _ i _ => 0)
    case atStart => exact ⟨rfl, rfl, rfl⟩
    case round =>
      obtain ⟨rfl, rfl, rfl⟩ := hrel
      go_wp2_with fail
      go_ret
      exact ⟨ret_i (by simp), HO.out, World.grownBy.refl _ _⟩
  · have HST := Lib.hid (fun j (hj : j < l.length) => mpartF_set (fun j : Nat => markKRow (k + 2 * (j : Int))) l j hj)
    have HSC := Lib.hid (fun j (hj : j < l.length) => cellsF_set (c := krCells) sizeKRow (mpartF (fun j : Nat => markKRow (k + 2 * (j : Int))) l j) j (by rw [mpartF_length _ _ _ (Nat.le_of_lt hj)]; exact hj) (markKRow (k + 2 * (j : Int))))
    have HFI := Lib.hid (show mpartF (fun j : Nat => markKRow (k + 2 * (j : Int))) l l.length = marksKRow k l.length from mpartF_all _ _)
    have HFL := Lib.hid (marksKRow_length k l.length)
    have HZ := Lib.hid (show w.ownsRow base 40 2 (.slice (some ⟨g, 0, none⟩) l.length cap) l.length (cellsF krCells (mpartF (fun j : Nat => markKRow (k + 2 * (j : Int))) l 0)) from by rw [mpartF_zero]; exact h')
    generalize l.length = n at *
    have hcap : n ≤ 9223372036854775807 := by omega
    clear h h'
    go_enter Tryz.func56, Tryz.ntmps56
    go_wp2_with fail
    go_loopw [1, 5] (fun c i wr => ∃ j : Nat, j ≤ n ∧ i = .int .i64 j ∧ c = .int .i64 (k + 2 * j) ∧ wr.ownsRow base 40 2 (.slice (some ⟨g, 0, none⟩) n cap) n (cellsF krCells (mpartF (fun j : Nat => markKRow (k + 2 * (j : Int))) l j)) ∧ w.grownBy wr (some g)) (fun _ i _ => n - (intOf i).toNat)
    case atStart => exact ⟨0, Nat.zero_le _, rfl, by simp, HZ.out, World.grownBy.refl _ _⟩
    case round =>
      obtain ⟨j, hj, rfl, rfl, ho, hg⟩ := hrel
      clear HZ
      by_cases hlt : j < n
      · have hj0 : j * 2 < n * 2 := by omega
        have hsc := HSC.out j hlt
        rw [HST.out j hlt] at hsc
        generalize cellsF krCells (mpartF (fun j : Nat => markKRow (k + 2 * (j : Int))) l j) = cs at *
        have b0 : 1 ≤ k + 2 * (j : Int) := by omega
        have b1 : k + 2 * (j : Int) ≤ 1000011000000 := by omega
        generalize hkk : k + 2 * (j : Int) = kk at *
        have HKK := Lib.hid hkk
        clear hkk
        have HSC2 := Lib.hid hsc
        clear hsc
        have hjn : (j : Int) < (n : Int) := by omega
        have HM0 := fun W => Lib.hid (markText_any (kk) W (by omega) (by omega))
        obtain ⟨z0, c0⟩ := ownsRow_some ho (j * 2) (by omega)
        have f0 := World.ownsRow.frozenAt ho (j * 2)
        have HO := Lib.hid ho
        have HG := Lib.hid hg
        clear ho hg
        go_upto_region 5 with (go_at_call 57; (with_reducible refine Calls.mono (Hid.out (HM0 _)) ?_); rintro e w5 ⟨rfl, hb5⟩; have HB5 := Lib.hid hb5; clear hb5; have c0 := (HB5.out.cell (p := ⟨g, j * 2, none⟩) (World.ownsRow.lt HO.out g rfl).2).trans c0; have f0 := World.ownsRow.frozenAt (World.ownsRow.kept HO.out (row := none) ⟨HB5.out.os, HB5.out.tape, HB5.out.output, HB5.out.size, fun i hi _ => HB5.out.block i hi⟩ (Or.inr (by intro h; cases h))) (j * 2))
        have ho5 := World.ownsRow.kept HO.out (row := none) ⟨HB5.out.os, HB5.out.tape, HB5.out.output, HB5.out.size, fun i hi _ => HB5.out.block i hi⟩ (Or.inr (by intro h; cases h))
        refine wp_gen (fun w' => w'.ownsRow base 40 2 (.slice (some ⟨g, 0, none⟩) n cap) n ((cs).set (j * 2) (.string (markV (kk)))) ∧ w.grownBy w' (some g)) ⟨(World.ownsRow.stored ho5 (j * 2) _).1, grownF (grown_any HG.out HB5.out) (World.ownsRow.stored ho5 (j * 2) _).2⟩ ?_
        clear ho5 HB5 HO HG HM0
        rintro w10 ⟨ho, hg⟩
        obtain ⟨z1, c1⟩ := ownsRow_some ho (j * 2 + 1) (by omega)
        have f1 := World.ownsRow.frozenAt ho (j * 2 + 1)
        have HO := Lib.hid ho
        have HG := Lib.hid hg
        clear ho hg
        go_upto_region 7 with fail
        refine wp_gen (fun w' => w'.ownsRow base 40 2 (.slice (some ⟨g, 0, none⟩) n cap) n (((cs).set (j * 2) (.string (markV (kk)))).set (j * 2 + 1) (.int .i64 (kk + 1))) ∧ w.grownBy w' (some g)) ⟨(World.ownsRow.stored HO.out (j * 2 + 1) _).1, grownF HG.out (World.ownsRow.stored HO.out (j * 2 + 1) _).2⟩ ?_
        clear HO HG
        clear z1 c1 f1
        rintro w11 ⟨ho, hg⟩
        have HO := Lib.hid ho
        have HG := Lib.hid hg
        clear ho hg
        go_wp2_with fail
        go_roundw
        case rel => exact ⟨j + 1, by omega, by go_num, by rw [← HKK.out]; go_num, by have := HO.out; (try simp only [Int.add_assoc, Int.reduceAdd] at this); rw [← HSC2.out]; exact this, HG.out⟩
        case measure => simp [intOf]; omega
      · have hjn : j = n := by omega
        subst hjn
        have HO := Lib.hid ho
        have HG := Lib.hid hg
        clear ho hg
        go_wp2_with fail
        go_ret
        refine ⟨rfl, ?_, HG.out⟩
        unfold OwnKRowF
        rw [HFL.out, ← HFI.out]
        exact HO.out
set_option maxRecDepth 100000 in
set_option maxHeartbeats 8000000 in
theorem heldKRowS_any (w : World) (base : Nat) (v : Value) (k : Int) (n : Nat) (h : OwnKRowF w base v (marksKRow k n)) (hk0 : 1 ≤ k) (hk1 : k ≤ 1000000000000) (hl : n ≤ 1048576) :
    Calls Tryz.prog 58 #[v, .int .i64 k] w (Gives (.int .i64 (k + 2 * n)) w) := by
  have h' := h
  unfold OwnKRowF at h'
  have hln := marksKRow_length k n
  rcases h.2 with ⟨rfl, h0⟩ | ⟨g, cap, cur, rfl, _, _, hcn, hcm, _, _⟩
  · rw [hln] at h0
    subst h0
    clear h h' hln
    go_enter Tryz.func58, Tryz.ntmps58
    go_wp2_with fail
    go_loopw [1, 5] (fun c i wr => i = .int .i64 0 ∧ c = .int .i64 k ∧ wr = w) (fun _ i _ => 0)
    case atStart => exact ⟨rfl, rfl, rfl⟩
    case round =>
      obtain ⟨rfl, rfl, rfl⟩ := hrel
      go_wp2_with fail
      go_ret
      exact ⟨ret_i (by simp), Below.refl _ _⟩
  · have hglt := (World.ownsRow.lt h' g rfl).2
    have HC := Lib.hid (show ∀ j, j < n → ∀ f, f < 2 → w.cell? ⟨g, j * 2 + f, none⟩ = (krCells (markKRow (k + 2 * (j : Int))))[f]? from fun j hj f hf => by
      rw [World.ownsRow.cellAt h' (j * 2 + f) (by rw [hln]; omega), cellsF_at sizeKRow zeroKR _ j f (by rw [hln]; exact hj) hf, marksKRow_getD k n j hj])
    rw [hln] at hcn ⊢
    unfold maxLen at hcm
    clear h h' hln
    go_enter Tryz.func58, Tryz.ntmps58
    go_wp2_with fail
    go_loopw [1, 5] (fun c i wr => ∃ j : Nat, j ≤ n ∧ i = .int .i64 j ∧ c = .int .i64 (k + 2 * j) ∧ Below w.heap.size w wr) (fun _ i _ => n - (intOf i).toNat)
    case atStart => exact ⟨0, Nat.zero_le _, rfl, by simp, Below.refl _ _⟩
    case round =>
      obtain ⟨j, hj, rfl, rfl, hb⟩ := hrel
      by_cases hlt : j < n
      · have HCJ := Lib.hid (HC.out j hlt)
        have b0 : 1 ≤ k + 2 * (j : Int) := by omega
        have b1 : k + 2 * (j : Int) ≤ 1000011000000 := by omega
        generalize hkk : k + 2 * (j : Int) = kk at *
        have HKK := Lib.hid hkk
        clear hkk
        have hjn : (j : Int) < (n : Int) := by omega
        have HB := Lib.hid hb
        have y0 : wr.cell? ⟨g, j * 2, none⟩ = some (.string (markV (kk))) := (hb.cell (p := ⟨g, j * 2, none⟩) hglt).trans (HCJ.out 0 (by decide))
        have y1 : wr.cell? ⟨g, j * 2 + 1, none⟩ = some (.int .i64 (kk + 1)) := (hb.cell (p := ⟨g, j * 2 + 1, none⟩) hglt).trans (HCJ.out 1 (by decide))
        clear hb
        have HM0 := fun W => Lib.hid (markText_any (kk) W (by omega) (by omega))
        generalize markV (kk) = mv0 at *
        have ym0 := txt_self mv0
        go_upto_region 4 with fail
        have HS0 := Lib.hid (show wr.drew.cell? ⟨g, j * 2, none⟩ = some (.string mv0) ∧ Below w.heap.size w wr.drew from ⟨y0, HB.out.trans (below_drew _ _)⟩)
        clear y0 y1
        have HCL := (⟨HS0.out⟩ : HoldsC (fun W => W.cell? ⟨g, j * 2, none⟩ = some (.string mv0) ∧ Below w.heap.size w W) _)
        have hall : ∀ p : Prop, (∀ W, HoldsC (fun W => W.cell? ⟨g, j * 2, none⟩ = some (.string mv0) ∧ Below w.heap.size w W) W → p) ↔ p := fun p => ⟨fun h => h _ HCL, fun h _ _ => h⟩
        refine wp_region_wq (C := HoldsC (fun W => W.cell? ⟨g, j * 2, none⟩ = some (.string mv0) ∧ Below w.heap.size w W)) (by kernel_rfl) (by kernel_rfl) HCL ?_
        repeat (refine WQ.step (fun K hK => ?_); go_simp; first | (refine hK _ ?_; clear hK K) | (apply Exists.intro; refine ⟨fun W hW => ?_, hK _ ?_⟩; (focus (first | (go_at_call 57; (with_reducible refine Calls.mono (Hid.out (HM0 _)) ?_); rintro e w' ⟨rfl, hb'⟩; exact ⟨rfl, ⟨⟨(hb'.cell (p := ⟨g, j * 2, none⟩) (Nat.lt_of_lt_of_le hglt hW.out.2.size)).trans hW.out.1, hW.out.2.trans (hb'.mono hW.out.2.size)⟩⟩⟩) | exact rfl | (obtain ⟨ya, yb⟩ := hW.out; go_simp; rfl))); clear hK K))
        refine WQ.nil ?_
        intro W hW
        obtain ⟨ya, yb⟩ := hW.out
        clear hall HCL
        have HB0 := Lib.hid yb
        have y1 : W.cell? ⟨g, j * 2 + 1, none⟩ = some (.int .i64 (kk + 1)) := (HB0.out.cell (p := ⟨g, j * 2 + 1, none⟩) hglt).trans (HCJ.out 1 (by decide))
        clear hW ya yb HS0 HM0
        go_wp2_with fail
        go_roundw
        case rel => exact ⟨j + 1, by omega, by go_num, by rw [← HKK.out]; go_num, HB0.out⟩
        case measure => simp [intOf]; omega
      · have hjn : j = n := by omega
        subst hjn
        go_wp2_with fail
        go_ret
        exact ⟨rfl, hb⟩
end Go.Proofs.YtbhhhakfjmaglaaGreat
/-
  Two rows compared by their keys, as the program hands it to the library.
-/
namespace Go.Proofs.YtbhhhakfjmaglaaGreat
open Go.RowKit M
set_option linter.unusedVariables false
set_option linter.unusedSimpArgs false
/-- Which of two strings comes first: -1, 0 or 1. -/
def cmpV (a b : ByteArray) : Int := Lib.compareBytes a.data.toList b.data.toList
theorem compare_less : ∀ (a b : List UInt8), decide (Lib.compareBytes a b < 0) = Go.Op.bytesLess a b
  | [], [] => rfl
  | [], _ :: _ => rfl
  | _ :: _, [] => rfl
  | a :: x, b :: y => by
    have ih := compare_less x y
    simp only [Lib.compareBytes, Go.Op.bytesLess]
    by_cases h : a < b
    · simp [h]
    · by_cases h2 : b < a
      · have hne : (a == b) = false := by rw [beq_eq_false_iff_ne]; intro e; subst e; exact h h2
        simp [h, h2, hne]
      · have e : a = b := by
          have a1 : ¬ a.toNat < b.toNat := h
          have a2 : ¬ b.toNat < a.toNat := h2
          exact UInt8.toNat_inj.1 (by omega)
        subst e
        simp [h, ih]
theorem cmpV_less (a b : ByteArray) : decide (cmpV a b < 0) = strLt a b := by
  unfold cmpV strLt
  rw [compare_less, Lib.toList_data, Lib.toList_data]
set_option maxRecDepth 100000 in
theorem iCompareString (w : World) (a b : ByteArray) : Calls Tryz.prog 99 #[.string a, .string b] w (Same w (.int .i64 (cmpV a b))) := by
  go_enter Tryz.func99, Tryz.ntmps99
  go_wp2
  rw [run_callFunc_extern Tryz.func124 (by kernel_rfl) (by kernel_rfl) (by kernel_rfl) (e := Extern.BytealgCompare.compare) (by kernel_rfl), Lib.run_compareString]
  simp only [Result.andThen]
  rw [Oper.upon_value]
  have HC := Lib.hid (show Ending.returned (.int .i64 (Lib.compareBytes a.data.toList b.data.toList)) = .returned (.int .i64 (cmpV a b)) from rfl)
  generalize cmpV a b = c at *
  generalize Lib.compareBytes a.data.toList b.data.toList = d at *
  go_wp2
  go_ret
  exact ⟨HC.out, rfl⟩
set_option maxRecDepth 100000 in
theorem iCompare (w : World) (a b : ByteArray) : Calls Tryz.prog 73 #[.string a, .string b] w (Same w (.int .i64 (cmpV a b))) := by
  have HC := fun W => Lib.hid (iCompareString W a b)
  generalize cmpV a b = c at *
  go_enter Tryz.func73, Tryz.ntmps73
  go_wp2_with fail
  refine (HC _).out.mono ?_
  rintro e w2 ⟨rfl, rfl⟩
  go_wp2_with fail
  go_ret
  exact ⟨rfl, rfl⟩
set_option maxRecDepth 100000 in
set_option maxHeartbeats 4000000 in
theorem iCmp_any (w : World) (r s : R) : Calls Tryz.prog 102 #[r.v, s.v] w (Gives (.int .i64 (cmpV r.key s.key)) w) := by
  obtain ⟨key, kind, sum, st, last, n, mn, mx, total, dropped⟩ := r
  obtain ⟨key', kind', sum', st', last', n', mn', mx', total', dropped'⟩ := s
  have HC := fun W => Lib.hid (iCompare W key key')
  unfold R.v
  simp only
  generalize cmpV key key' = c at *
  go_enter Tryz.func102, Tryz.ntmps102
  go_wp2_with fail
  refine (HC _).out.mono ?_
  rintro e w2 ⟨rfl, rfl⟩
  go_wp2_with fail
  go_ret
  exact ⟨rfl, ((Below.refl _ _).alloc (Nat.le_refl _) _).alloc (by simp [go_sem]) _⟩
set_option maxRecDepth 100000 in
set_option maxHeartbeats 4000000 in
theorem iEq_any (w : World) (r s : R) : Calls Tryz.prog 104 #[r.v, s.v] w (Gives (.bool (decide (r.key = s.key))) w) := by
  obtain ⟨key, kind, sum, st, last, n, mn, mx, total, dropped⟩ := r
  obtain ⟨key', kind', sum', st', last', n', mn', mx', total', dropped'⟩ := s
  unfold R.v
  simp only
  by_cases h : key = key'
  · subst h
    have hd : decide (key = key) = true := by simp
    rw [hd]
    have hs := txt_self key
    go_enter Tryz.func104, Tryz.ntmps104
    go_wp2_with fail
    go_ret
    exact ⟨rfl, ((Below.refl _ _).alloc (Nat.le_refl _) _).alloc (by simp [go_sem]) _⟩
  · have hd : decide (key = key') = false := by simp [h]
    rw [hd]
    have hs := txt_ne h
    clear h hd
    go_enter Tryz.func104, Tryz.ntmps104
    go_wp2_with fail
    go_ret
    exact ⟨rfl, ((Below.refl _ _).alloc (Nat.le_refl _) _).alloc (by simp [go_sem]) _⟩
end Go.Proofs.YtbhhhakfjmaglaaGreat
