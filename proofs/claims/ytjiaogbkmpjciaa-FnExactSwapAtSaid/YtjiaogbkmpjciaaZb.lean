/-
  Several small texts of this proof, one behind another: each says ahead of itself what it proves.
-/
import Derived.Test.YtjiaogbkmpjciaaRowC
import Derived.OwnWalk
import Derived.Test.YtjiaogbkmpjciaaZa
import Derived.Test.YtjiaogbkmpjciaaOpC
import Derived.Test.YtjiaogbkmpjciaaOpK
import Derived.Deep.Slices
import Derived.Deep.Fields
import Derived.OpenShut
import Derived.KernelRfl
/-
  Rows of rows: reading one that came in or was made; one that a call made itself: storing a row, appending one.
-/
namespace Go.Proofs.Ytjiaogbkmpjciaa
open Go.RowKit M
set_option linter.unusedVariables false
/-- Row r lies in block b from cell o on. -/
def Row10 (w : World) (b o : Nat) (r : R) : Prop := ∀ k, k < 10 → w.cell? ⟨b, o + k, none⟩ = (rowCells r)[k]?
theorem Row10.get {w : World} {b o : Nat} {r : R} (h : Row10 w b o r) :
    w.cell? ⟨b, o, none⟩ = some (.string r.key) ∧ w.cell? ⟨b, o + 1, none⟩ = some (.int .i64 r.kind) ∧ w.cell? ⟨b, o + 2, none⟩ = some (.int .i64 r.sum) ∧ w.cell? ⟨b, o + 3, none⟩ = some (.bool r.set) ∧ w.cell? ⟨b, o + 4, none⟩ = some (.int .i64 r.last) ∧
    w.cell? ⟨b, o + 5, none⟩ = some (.int .i64 r.n) ∧ w.cell? ⟨b, o + 6, none⟩ = some (.int .i64 r.mn) ∧ w.cell? ⟨b, o + 7, none⟩ = some (.int .i64 r.mx) ∧ w.cell? ⟨b, o + 8, none⟩ = some (.int .i64 r.total) ∧ w.cell? ⟨b, o + 9, none⟩ = some (.int .i64 r.dropped) :=
  ⟨h 0 (by decide), h 1 (by decide), h 2 (by decide), h 3 (by decide), h 4 (by decide), h 5 (by decide), h 6 (by decide), h 7 (by decide), h 8 (by decide), h 9 (by decide)⟩
theorem Row10.below {w w' : World} {b o : Nat} {r : R} (h : Row10 w b o r) (hlt : b < w.heap.size) (hb : Below w.heap.size w w') : Row10 w' b o r :=
  fun k hk => (hb.cell (p := ⟨b, o + k, none⟩) hlt).trans (h k hk)
/-- The slice value v reads as the rows rs (nil, or of no length, or one whose cells are there). -/
def RowsArg (w : World) (v : Value) (rs : List R) : Prop :=
  ∃ A cap, v = .slice A rs.length cap ∧ rs.length ≤ cap ∧ cap ≤ maxLen ∧ (0 < rs.length → ∃ b off, A = some ⟨b, off, none⟩ ∧ b < w.heap.size ∧ ∀ j, j < rs.length → Row10 w b (off + j * 10) (rs.getD j zeroR))
theorem RowsArg.below {w w' : World} {v : Value} {rs : List R} (h : RowsArg w v rs) (hb : Below w.heap.size w w') : RowsArg w' v rs := by
  obtain ⟨A, cap, e, h1, h2, h3⟩ := h
  refine ⟨A, cap, e, h1, h2, fun hp => ?_⟩
  obtain ⟨b, off, ea, h4, h5⟩ := h3 hp
  exact ⟨b, off, ea, Nat.lt_of_lt_of_le h4 hb.size, fun j hj => (h5 j hj).below h4 hb⟩
theorem RowsArg.nil (w : World) : RowsArg w (.slice none 0 0) [] := ⟨none, 0, rfl, Nat.zero_le _, Nat.zero_le _, fun h => absurd h (by simp)⟩
/-- The cells of the rows. -/
def cellsR (rs : List R) : List Value := rs.flatMap fun r => (rowCells r).toList
theorem cells10 (r : R) : (rowCells r).toList.length = 10 := rfl
theorem cellsR_length (rs : List R) : (cellsR rs).length = rs.length * 10 := by
  induction rs with
  | nil => rfl
  | cons r rs ih => simp only [cellsR, List.flatMap_cons, List.length_append, List.length_cons] at *; rw [ih, cells10]; omega
theorem cellsR_append (xs ys : List R) : cellsR (xs ++ ys) = cellsR xs ++ cellsR ys := by simp [cellsR]
theorem cellsR_at (rs : List R) (j k : Nat) (hj : j < rs.length) (hk : k < 10) : (cellsR rs)[j * 10 + k]? = (rowCells (rs.getD j zeroR))[k]? := by
  induction rs generalizing j with
  | nil => simp at hj
  | cons r rs ih =>
    show ((rowCells r).toList ++ cellsR rs)[j * 10 + k]? = _
    cases j with
    | zero => rw [List.getElem?_append_left (by rw [cells10]; omega)]; simp
    | succ j =>
      rw [List.getElem?_append_right (by rw [cells10]; omega), cells10, show (j + 1) * 10 + k - 10 = j * 10 + k by omega, ih j (by simpa using hj)]
      simp
theorem cellsR_one (rs : List R) : ∀ u ∈ cellsR rs, u.oneCell' = true := by
  intro u hu
  obtain ⟨r, _, hr⟩ := List.mem_flatMap.1 hu
  simp [rowCells] at hr
  rcases hr with rfl | rfl | rfl | rfl | rfl | rfl | rfl | rfl | rfl | rfl <;> rfl
/-- The row of rows is the call's own: in a block from base on. -/
def OwnR (w : World) (base : Nat) (v : Value) (rs : List R) : Prop := w.ownsRow base 81 10 v rs.length (cellsR rs)
theorem OwnR.alloc {w : World} {base : Nat} {v : Value} {rs : List R} (h : OwnR w base v rs) (o : Obj) : OwnR (w.alloc o) base v rs := World.ownsRow.alloc h o
theorem OwnR.kept {w w' : World} {base : Nat} {v : Value} {rs : List R} {row : Option Nat} (h : OwnR w base v rs) (hg : w.grownBy w' row) (hne : v.ownBlock = none ∨ v.ownBlock ≠ row) : OwnR w' base v rs := World.ownsRow.kept h hg hne
theorem OwnR.base_le {w : World} {base : Nat} {v : Value} {rs : List R} (h : OwnR w base v rs) : ∀ k, v.ownBlock = some k → base ≤ k := fun k hk => (World.ownsRow.lt h k hk).1
theorem OwnR.below {w w' : World} {base : Nat} {v : Value} {rs : List R} (h : OwnR w base v rs) (hb : Below w.heap.size w w') : OwnR w' base v rs :=
  h.kept (row := none) ⟨hb.os, hb.tape, hb.output, hb.size, fun i hi _ => hb.block i hi⟩ (by cases v.ownBlock <;> simp)
theorem OwnR.arg {w : World} {base : Nat} {v : Value} {rs : List R} (h : OwnR w base v rs) : RowsArg w v rs := by
  have h' := h
  rcases h.2 with ⟨rfl, h0⟩ | ⟨g, cap, cur, rfl, hb, hg, hn, hm, hc, ht⟩
  · exact ⟨none, 0, by rw [h0], by omega, Nat.zero_le _, fun h => by omega⟩
  · refine ⟨_, cap, rfl, hn, hm, fun _ => ⟨g, 0, rfl, (World.ownsRow.lt h' g rfl).2, fun j hj k hk => ?_⟩⟩
    rw [Nat.zero_add, World.ownsRow.cellAt h' (j * 10 + k) (by omega), cellsR_at rs j k hj hk]
theorem OwnR.at {w : World} {base g n cap : Nat} {rs : List R} (h : OwnR w base (.slice (some ⟨g, 0, none⟩) n cap) rs) (hn : rs.length = n) (j : Nat) (hj : j < n) : Row10 w g (j * 10) (rs.getD j zeroR) := by
  subst hn
  exact fun k hk => by rw [World.ownsRow.cellAt h (j * 10 + k) (by omega), cellsR_at rs j k hj hk]
theorem OwnR.frz {w : World} {base g n cap : Nat} {rs : List R} (h : OwnR w base (.slice (some ⟨g, 0, none⟩) n cap) rs) (hn : rs.length = n) (j : Nat) : w.frozen? ⟨g, j, none⟩ = false := by
  subst hn
  exact World.ownsRow.frozenAt h j
/-- Ten stores: row r into block g from cell o on. -/
def put10 (w : World) (g o : Nat) (r : R) : World :=
  (((((((((w.setCell ⟨g, o, none⟩ (.string r.key)).setCell ⟨g, o + 1, none⟩ (.int .i64 r.kind)).setCell ⟨g, o + 2, none⟩ (.int .i64 r.sum)).setCell ⟨g, o + 3, none⟩ (.bool r.set)).setCell ⟨g, o + 4, none⟩ (.int .i64 r.last)).setCell ⟨g, o + 5, none⟩ (.int .i64 r.n)).setCell ⟨g, o + 6, none⟩ (.int .i64 r.mn)).setCell ⟨g, o + 7, none⟩ (.int .i64 r.mx)).setCell ⟨g, o + 8, none⟩ (.int .i64 r.total)).setCell ⟨g, o + 9, none⟩ (.int .i64 r.dropped)
theorem set_append {α : Type} (la bs cs : List α) (i : Nat) (x : α) (hi : i < bs.length) : (la ++ (bs ++ cs)).set (la.length + i) x = la ++ (bs.set i x ++ cs) := by
  rw [List.set_append_right _ _ (by omega), Nat.add_sub_cancel_left, List.set_append_left _ _ hi]
theorem cellsR_set (rs : List R) (j : Nat) (r : R) (hj : j < rs.length) :
    (((((((((((cellsR rs).set (j * 10) (.string r.key)).set (j * 10 + 1) (.int .i64 r.kind)).set (j * 10 + 2) (.int .i64 r.sum)).set (j * 10 + 3) (.bool r.set)).set (j * 10 + 4) (.int .i64 r.last)).set (j * 10 + 5) (.int .i64 r.n)).set (j * 10 + 6) (.int .i64 r.mn)).set (j * 10 + 7) (.int .i64 r.mx)).set (j * 10 + 8) (.int .i64 r.total)).set (j * 10 + 9) (.int .i64 r.dropped)) = cellsR (rs.set j r) := by
  have e : rs = rs.take j ++ (rs.getD j zeroR :: rs.drop (j + 1)) := by
    rw [List.getD_eq_getElem?_getD, List.getElem?_eq_getElem hj, Option.getD_some, ← List.drop_eq_getElem_cons hj, List.take_append_drop]
  generalize rs.getD j zeroR = z at e
  have e2 : rs.set j r = rs.take j ++ (r :: rs.drop (j + 1)) := by
    conv => lhs; rw [e]
    rw [List.set_append_right _ _ (by rw [List.length_take]; omega), List.length_take, show j - min j rs.length = 0 by omega, List.set_cons_zero]
  have e3 : cellsR rs = cellsR (rs.take j) ++ ((rowCells z).toList ++ cellsR (rs.drop (j + 1))) := by
    conv => lhs; rw [e]
    rw [cellsR_append]; rfl
  have e4 : cellsR (rs.set j r) = cellsR (rs.take j) ++ ((rowCells r).toList ++ cellsR (rs.drop (j + 1))) := by rw [e2, cellsR_append]; rfl
  have e5 : (cellsR (rs.take j)).length = j * 10 := by rw [cellsR_length, List.length_take]; omega
  rw [e3, e4, ← e5]
  have S := fun (bs : List Value) (i : Nat) (x : Value) (hi : i < bs.length) => set_append (cellsR (rs.take j)) bs (cellsR (rs.drop (j + 1))) i x hi
  have S0 := fun (bs : List Value) (x : Value) (hi : 0 < bs.length) => S bs 0 x hi
  simp only [Nat.add_zero] at S0
  rw [S0 _ _ (by simp [rowCells]), S _ 1 _ (by simp [rowCells]), S _ 2 _ (by simp [rowCells]), S _ 3 _ (by simp [rowCells]), S _ 4 _ (by simp [rowCells]), S _ 5 _ (by simp [rowCells]), S _ 6 _ (by simp [rowCells]), S _ 7 _ (by simp [rowCells]), S _ 8 _ (by simp [rowCells]), S _ 9 _ (by simp [rowCells])]
  rfl
theorem grownR_trans {a b c : World} {o : Option Nat} (h : a.grownBy b o) (k : b.grownBy c o) : a.grownBy c o :=
  ⟨k.os.trans h.os, k.tape.trans h.tape, k.output.trans h.output, Nat.le_trans h.size k.size, fun i hi hne => (k.block i (Nat.lt_of_lt_of_le hi h.size) hne).trans (h.block i hi hne)⟩
theorem OwnR.put {w : World} {base g n cap : Nat} {rs : List R} (h : OwnR w base (.slice (some ⟨g, 0, none⟩) n cap) rs) (hn : rs.length = n) (j : Nat) (hj : j < n) (r : R) :
    OwnR (put10 w g (j * 10) r) base (.slice (some ⟨g, 0, none⟩) n cap) (rs.set j r) ∧ w.grownBy (put10 w g (j * 10) r) (some g) := by
  subst hn
  have h0 := World.ownsRow.stored h (j * 10) (.string r.key)
  have h1 := World.ownsRow.stored h0.1 (j * 10 + 1) (.int .i64 r.kind)
  have h2 := World.ownsRow.stored h1.1 (j * 10 + 2) (.int .i64 r.sum)
  have h3 := World.ownsRow.stored h2.1 (j * 10 + 3) (.bool r.set)
  have h4 := World.ownsRow.stored h3.1 (j * 10 + 4) (.int .i64 r.last)
  have h5 := World.ownsRow.stored h4.1 (j * 10 + 5) (.int .i64 r.n)
  have h6 := World.ownsRow.stored h5.1 (j * 10 + 6) (.int .i64 r.mn)
  have h7 := World.ownsRow.stored h6.1 (j * 10 + 7) (.int .i64 r.mx)
  have h8 := World.ownsRow.stored h7.1 (j * 10 + 8) (.int .i64 r.total)
  have h9 := World.ownsRow.stored h8.1 (j * 10 + 9) (.int .i64 r.dropped)
  refine ⟨?_, grownR_trans (grownR_trans (grownR_trans (grownR_trans (grownR_trans (grownR_trans (grownR_trans (grownR_trans (grownR_trans h0.2 h1.2) h2.2) h3.2) h4.2) h5.2) h6.2) h7.2) h8.2) h9.2⟩
  unfold OwnR
  rw [List.length_set, ← cellsR_set rs j r hj]
  exact h9.1
/-- A call hands back a new row of rows of its own, and turns nothing that was there. -/
def MadeR (w : World) (rs : List R) (e : Ending) (w' : World) : Prop := ∃ v, e = .returned v ∧ OwnR w' w.heap.size v rs ∧ Below w.heap.size w w'
/-- An empty one that was just built. -/
theorem OwnR.empty (w : World) (base : Nat) (hb : base ≤ w.heap.size) : OwnR (w.alloc (.cells #[] 81)) base (.slice (some ⟨w.heap.size, 0, none⟩) 0 0) [] :=
  World.ownsRow_lit w #[] 0 hb (Nat.zero_le _) rfl
theorem info_row : (Try.prog.info? 81).map (fun i => (i.zero, i.size, i.bytes)) = some (some zeroR.v, 10, 88) := by kernel_rfl
/-- append(v, x) onto an own row of rows, x being a row that lies alone in a new block. -/
theorem wpR_append (w : World) {ops : Array Oper} {rest : List Oper} {o : Oper} {a : Act} {Q : Exit → Act → World → Prop} (hgd : o.guard = none) (s x : Operand)
    (ho : o.op = .call { callee := .builtin .append, args := #[s, x], argTypes := #[45, 45] })
    (base : Nat) (v : Value) (l : List R) (hown : OwnR w base v l) (hs : a.eval s = v)
    (c : R) (cs : Array Value) (hcs : cs = rowCells c) (hx : a.eval x = .slice (some ⟨w.heap.size, 0, none⟩) 1 1)
    (hlen : l.length + 1 ≤ 8796093022) (hbase : base ≤ w.heap.size)
    (h : ∀ v' w', OwnR w' base v' (l ++ [c]) → (w.alloc (.cells cs 81)).grownBy w' v.ownBlock → wpList Try.prog ops Q rest (a.put o.dst v') w') : wpList Try.prog ops Q (o :: rest) a (w.alloc (.cells cs 81)) := by
  subst hcs
  obtain ⟨i0, hi, hz0, hz1, hz2⟩ := info_parts info_row
  refine wpList_append_own (w.alloc (.cells (rowCells c) 81)) hgd s x 45 ho base 81 i0 zeroR.v 10 88 Try.underlying45 hi hz0 hz1 hz2 rfl (by decide) v l.length (cellsR l) hs (hown.alloc _) ⟨w.heap.size, 0, none⟩ 1 1 (rowCells c).toList hx rfl ?_ ?_ (by unfold maxLen; omega) (by omega) (by simp [go_sem]; omega) ?_
  · intro j u hu
    have hj : j < 10 := by have := (List.getElem?_eq_some_iff.1 hu).1; simpa [rowCells] using this
    rw [Addr.add_lit, Nat.zero_add, cell_of_row _ _ _ _ _ _ (heap_alloc_new w _)]
    rw [Array.getElem?_toList] at hu
    exact hu
  · intro u hu
    exact cellsR_one [c] u (by simpa [cellsR] using hu)
  · intro v' w' h1 h2 _
    refine h v' w' ?_ h2
    unfold OwnR
    rw [List.length_append, cellsR_append]
    simpa [cellsR] using h1
end Go.Proofs.Ytjiaogbkmpjciaa
/-
  The record Job: its cells as values and rows.
-/
namespace Go.Proofs.Ytjiaogbkmpjciaa
open Go.RowKit M
set_option linter.unusedVariables false
/-- Reading a row of numbers. -/
theorem reads_ints {w : World} {v : Value} {zs : List Int} (h : (Dat.row 3 1 zs.length (zs.map (Value.int .i64))).reads w v) : IntsArg w v zs := by
  obtain ⟨_, A, cap, e, h1, h2, h3⟩ := h
  refine ⟨A, cap, e, h1, h2, fun hp => ?_⟩
  obtain ⟨b, off, ea, h4, h5⟩ := h3 hp
  refine ⟨b, off, ea, h4, fun j hj => ?_⟩
  rw [h5 j (by omega), List.getElem?_map, List.getElem?_eq_getElem hj, List.getD_eq_getElem?_getD, List.getElem?_eq_getElem hj]
  rfl
def jobDat (r : J) : List Dat := [.val (.bool r.busy), .val (.int .i64 r.op.kind), .val (.string r.op.key), .val (.int .i64 r.op.what), .val (.int .i64 r.op.val), .val (.int .i64 r.serial), .val (.int .i64 r.pc), .val (.int .i64 r.k), .val (.int .i64 r.slot), .val (.int .i64 r.what), .val (.int .i64 r.e), .val (.int .i64 r.stamp), .val (.int .i64 r.old), .val (.int .i64 r.flips), .val (.int .i64 r.steps), .val (.int .i64 r.code), .row 3 1 r.keys.length (r.keys.map (Value.int .i64)), .row 3 1 r.raw.length (r.raw.map (Value.int .i64))]
/-- The cells, the inner rows being these values. -/
def jobVals (r : J) (vkeys vraw : Value) : Array Value := #[.bool r.busy, .int .i64 r.op.kind, .string r.op.key, .int .i64 r.op.what, .int .i64 r.op.val, .int .i64 r.serial, .int .i64 r.pc, .int .i64 r.k, .int .i64 r.slot, .int .i64 r.what, .int .i64 r.e, .int .i64 r.stamp, .int .i64 r.old, .int .i64 r.flips, .int .i64 r.steps, .int .i64 r.code, vkeys, vraw]
theorem jobDat_len (r : J) : (jobDat r).length = 18 := rfl
theorem jobDat_wf (r : J) : ∀ d ∈ jobDat r, d.wf := by
  intro d hd
  simp only [jobDat, List.mem_cons, List.not_mem_nil, or_false] at hd
  rcases hd with rfl | rfl | rfl | rfl | rfl | rfl | rfl | rfl | rfl | rfl | rfl | rfl | rfl | rfl | rfl | rfl | rfl | rfl <;> first | trivial | (simp [Dat.wf]; done) | simp [Dat.wf, cellsR_length]
theorem jobVals_ok (r : J) (vkeys vraw : Value) : valsD (jobVals r vkeys vraw).toList (jobDat r) := by
  simp [jobVals, jobDat, valsD]
theorem jobVals_in (r : J) (vkeys vraw : Value) : innerD (jobVals r vkeys vraw).toList (jobDat r) = [⟨vkeys, 3, 1, r.keys.length, (r.keys.map (Value.int .i64))⟩, ⟨vraw, 3, 1, r.raw.length, (r.raw.map (Value.int .i64))⟩] := rfl

/-- The inner rows read as they should. -/
def jobIn (w : World) (r : J) (vkeys vraw : Value) : Prop := IntsArg w vkeys r.keys ∧ IntsArg w vraw r.raw
theorem jobIn_below {w w' : World} {r : J} {vkeys vraw : Value} (h : jobIn w r vkeys vraw) (hb : Below w.heap.size w w') : jobIn w' r vkeys vraw := ⟨h.1.below hb, h.2.below hb⟩
/-- A call hands back such a record, its inner rows new. -/
def MadeJob (w : World) (r : J) (e : Ending) (w' : World) : Prop := ∃ vkeys vraw, e = .returned (.agg (jobVals r vkeys vraw)) ∧ Heap w' w.heap.size [⟨vkeys, 3, 1, r.keys.length, (r.keys.map (Value.int .i64))⟩, ⟨vraw, 3, 1, r.raw.length, (r.raw.map (Value.int .i64))⟩] ∧ Below w.heap.size w w'
theorem jobZero_ok : valsD (#[.bool false, .int .i64 0, .string ⟨#[]⟩, .int .i64 0, .int .i64 0, .int .i64 0, .int .i64 0, .int .i64 0, .int .i64 0, .int .i64 0, .int .i64 0, .int .i64 0, .int .i64 0, .int .i64 0, .int .i64 0, .int .i64 0, .slice none 0 0, .slice none 0 0] : Array Value).toList (jobDat zeroJ) ∧ ∀ x ∈ innerD (#[.bool false, .int .i64 0, .string ⟨#[]⟩, .int .i64 0, .int .i64 0, .int .i64 0, .int .i64 0, .int .i64 0, .int .i64 0, .int .i64 0, .int .i64 0, .int .i64 0, .int .i64 0, .int .i64 0, .int .i64 0, .int .i64 0, .slice none 0 0, .slice none 0 0] : Array Value).toList (jobDat zeroJ), x.v = .slice none 0 0 ∧ x.n = 0 ∧ x.cs = [] := by
  refine ⟨by simp [valsD, jobDat, zeroJ, zeroO], ?_⟩
  intro x hx
  simp only [innerD, jobDat, zeroJ, List.mem_cons, List.not_mem_nil, or_false] at hx
  rcases hx with rfl | rfl <;> exact ⟨rfl, rfl, rfl⟩
/-- An element that lies somewhere: its cells. -/
theorem job_at {w : World} {b o : Nat} {r : J} (h : EltAt jobDat w b o r) : ∃ vkeys vraw, w.rangeAt b o (jobVals r vkeys vraw).toList ∧ jobIn w r vkeys vraw := by
  obtain ⟨_, q0, rfl⟩ := h 0 _ rfl
  obtain ⟨_, q1, rfl⟩ := h 1 _ rfl
  obtain ⟨_, q2, rfl⟩ := h 2 _ rfl
  obtain ⟨_, q3, rfl⟩ := h 3 _ rfl
  obtain ⟨_, q4, rfl⟩ := h 4 _ rfl
  obtain ⟨_, q5, rfl⟩ := h 5 _ rfl
  obtain ⟨_, q6, rfl⟩ := h 6 _ rfl
  obtain ⟨_, q7, rfl⟩ := h 7 _ rfl
  obtain ⟨_, q8, rfl⟩ := h 8 _ rfl
  obtain ⟨_, q9, rfl⟩ := h 9 _ rfl
  obtain ⟨_, q10, rfl⟩ := h 10 _ rfl
  obtain ⟨_, q11, rfl⟩ := h 11 _ rfl
  obtain ⟨_, q12, rfl⟩ := h 12 _ rfl
  obtain ⟨_, q13, rfl⟩ := h 13 _ rfl
  obtain ⟨_, q14, rfl⟩ := h 14 _ rfl
  obtain ⟨_, q15, rfl⟩ := h 15 _ rfl
  obtain ⟨vkeys, q16, rkeys⟩ := h 16 _ rfl
  obtain ⟨vraw, q17, rraw⟩ := h 17 _ rfl
  refine ⟨vkeys, vraw, ?_, ⟨reads_ints rkeys, reads_ints rraw⟩⟩
  intro j v hv
  match j with
  | 0 => injection hv with hv; subst hv; exact q0
  | 1 => injection hv with hv; subst hv; exact q1
  | 2 => injection hv with hv; subst hv; exact q2
  | 3 => injection hv with hv; subst hv; exact q3
  | 4 => injection hv with hv; subst hv; exact q4
  | 5 => injection hv with hv; subst hv; exact q5
  | 6 => injection hv with hv; subst hv; exact q6
  | 7 => injection hv with hv; subst hv; exact q7
  | 8 => injection hv with hv; subst hv; exact q8
  | 9 => injection hv with hv; subst hv; exact q9
  | 10 => injection hv with hv; subst hv; exact q10
  | 11 => injection hv with hv; subst hv; exact q11
  | 12 => injection hv with hv; subst hv; exact q12
  | 13 => injection hv with hv; subst hv; exact q13
  | 14 => injection hv with hv; subst hv; exact q14
  | 15 => injection hv with hv; subst hv; exact q15
  | 16 => injection hv with hv; subst hv; exact q16
  | 17 => injection hv with hv; subst hv; exact q17
  | j + 18 => exact absurd (List.getElem?_eq_some_iff.1 hv).1 (by show ¬ j + 18 < 18; omega)
end Go.Proofs.Ytjiaogbkmpjciaa
/-
  The record Ev: its cells as values and rows.
-/
namespace Go.Proofs.Ytjiaogbkmpjciaa
open Go.RowKit M
set_option linter.unusedVariables false
/-- Reading a row of rows. -/
theorem reads_rows {w : World} {v : Value} {rs : List R} (h : (Dat.row 81 10 rs.length (cellsR rs)).reads w v) : RowsArg w v rs := by
  obtain ⟨_, A, cap, e, h1, h2, h3⟩ := h
  refine ⟨A, cap, e, h1, h2, fun hp => ?_⟩
  obtain ⟨b, off, ea, h4, h5⟩ := h3 hp
  refine ⟨b, off, ea, h4, fun j hj k hk => ?_⟩
  rw [Nat.add_assoc, h5 (j * 10 + k) (by omega), cellsR_at rs j k hj hk]
def evDat (r : E) : List Dat := [.val (.int .i64 r.kind), .val (.int .i64 r.who), .val (.int .i64 r.serial), .val (.int .i64 r.at_), .val (.int .i64 r.op.kind), .val (.string r.op.key), .val (.int .i64 r.op.what), .val (.int .i64 r.op.val), .val (.int .i64 r.code), .val (.int .i64 r.win), .val (.int .i64 r.steps), .val (.int .i64 r.flips), .row 81 10 r.rows.length (cellsR r.rows)]
/-- The cells, the inner rows being these values. -/
def evVals (r : E) (vrows : Value) : Array Value := #[.int .i64 r.kind, .int .i64 r.who, .int .i64 r.serial, .int .i64 r.at_, .int .i64 r.op.kind, .string r.op.key, .int .i64 r.op.what, .int .i64 r.op.val, .int .i64 r.code, .int .i64 r.win, .int .i64 r.steps, .int .i64 r.flips, vrows]
theorem evDat_len (r : E) : (evDat r).length = 13 := rfl
theorem evDat_wf (r : E) : ∀ d ∈ evDat r, d.wf := by
  intro d hd
  simp only [evDat, List.mem_cons, List.not_mem_nil, or_false] at hd
  rcases hd with rfl | rfl | rfl | rfl | rfl | rfl | rfl | rfl | rfl | rfl | rfl | rfl | rfl <;> first | trivial | (simp [Dat.wf]; done) | simp [Dat.wf, cellsR_length]
theorem evVals_ok (r : E) (vrows : Value) : valsD (evVals r vrows).toList (evDat r) := by
  simp [evVals, evDat, valsD]
theorem evVals_in (r : E) (vrows : Value) : innerD (evVals r vrows).toList (evDat r) = [⟨vrows, 81, 10, r.rows.length, (cellsR r.rows)⟩] := rfl

/-- The inner rows read as they should. -/
def evIn (w : World) (r : E) (vrows : Value) : Prop := RowsArg w vrows r.rows
theorem evIn_below {w w' : World} {r : E} {vrows : Value} (h : evIn w r vrows) (hb : Below w.heap.size w w') : evIn w' r vrows := RowsArg.below h hb
/-- A call hands back such a record, its inner rows new. -/
def MadeEv (w : World) (r : E) (e : Ending) (w' : World) : Prop := ∃ vrows, e = .returned (.agg (evVals r vrows)) ∧ Heap w' w.heap.size [⟨vrows, 81, 10, r.rows.length, (cellsR r.rows)⟩] ∧ Below w.heap.size w w'
theorem info_Ev : (Try.prog.info? 47).map (fun i => (i.zero, i.size, i.bytes)) = some (some (.agg #[.int .i64 0, .int .i64 0, .int .i64 0, .int .i64 0, .int .i64 0, .string ⟨#[]⟩, .int .i64 0, .int .i64 0, .int .i64 0, .int .i64 0, .int .i64 0, .int .i64 0, .slice none 0 0]), 13, 128) := by kernel_rfl
theorem evZero_ok : valsD (#[.int .i64 0, .int .i64 0, .int .i64 0, .int .i64 0, .int .i64 0, .string ⟨#[]⟩, .int .i64 0, .int .i64 0, .int .i64 0, .int .i64 0, .int .i64 0, .int .i64 0, .slice none 0 0] : Array Value).toList (evDat zeroE) ∧ ∀ x ∈ innerD (#[.int .i64 0, .int .i64 0, .int .i64 0, .int .i64 0, .int .i64 0, .string ⟨#[]⟩, .int .i64 0, .int .i64 0, .int .i64 0, .int .i64 0, .int .i64 0, .int .i64 0, .slice none 0 0] : Array Value).toList (evDat zeroE), x.v = .slice none 0 0 ∧ x.n = 0 ∧ x.cs = [] := by
  refine ⟨by simp [valsD, evDat, zeroE, zeroO], ?_⟩
  intro x hx
  simp only [innerD, evDat, zeroE, List.mem_cons, List.not_mem_nil, or_false] at hx
  rcases hx with rfl <;> exact ⟨rfl, rfl, rfl⟩
/-- An element that lies somewhere: its cells. -/
theorem ev_at {w : World} {b o : Nat} {r : E} (h : EltAt evDat w b o r) : ∃ vrows, w.rangeAt b o (evVals r vrows).toList ∧ evIn w r vrows := by
  obtain ⟨_, q0, rfl⟩ := h 0 _ rfl
  obtain ⟨_, q1, rfl⟩ := h 1 _ rfl
  obtain ⟨_, q2, rfl⟩ := h 2 _ rfl
  obtain ⟨_, q3, rfl⟩ := h 3 _ rfl
  obtain ⟨_, q4, rfl⟩ := h 4 _ rfl
  obtain ⟨_, q5, rfl⟩ := h 5 _ rfl
  obtain ⟨_, q6, rfl⟩ := h 6 _ rfl
  obtain ⟨_, q7, rfl⟩ := h 7 _ rfl
  obtain ⟨_, q8, rfl⟩ := h 8 _ rfl
  obtain ⟨_, q9, rfl⟩ := h 9 _ rfl
  obtain ⟨_, q10, rfl⟩ := h 10 _ rfl
  obtain ⟨_, q11, rfl⟩ := h 11 _ rfl
  obtain ⟨vrows, q12, rrows⟩ := h 12 _ rfl
  refine ⟨vrows, ?_, reads_rows rrows⟩
  intro j v hv
  match j with
  | 0 => injection hv with hv; subst hv; exact q0
  | 1 => injection hv with hv; subst hv; exact q1
  | 2 => injection hv with hv; subst hv; exact q2
  | 3 => injection hv with hv; subst hv; exact q3
  | 4 => injection hv with hv; subst hv; exact q4
  | 5 => injection hv with hv; subst hv; exact q5
  | 6 => injection hv with hv; subst hv; exact q6
  | 7 => injection hv with hv; subst hv; exact q7
  | 8 => injection hv with hv; subst hv; exact q8
  | 9 => injection hv with hv; subst hv; exact q9
  | 10 => injection hv with hv; subst hv; exact q10
  | 11 => injection hv with hv; subst hv; exact q11
  | 12 => injection hv with hv; subst hv; exact q12
  | j + 13 => exact absurd (List.getElem?_eq_some_iff.1 hv).1 (by show ¬ j + 13 < 13; omega)
end Go.Proofs.Ytjiaogbkmpjciaa
/-
  The exact laws' helpers on queues and on rows of queues: the copy, comparing two.
-/
namespace Go.Proofs.Ytjiaogbkmpjciaa
open Go.RowKit M
set_option linter.unusedVariables false
set_option linter.unusedSimpArgs false
/-- A call hands back a queue whose operations lie in a new row. -/
def MadeQ (w : World) (l : List O) (e : Ending) (w' : World) : Prop := ∃ u, e = .returned (.agg #[u]) ∧ OwnF 44 4 opCells w' w.heap.size u l ∧ Below w.heap.size w w'
def ArgQ (w : World) (v : Value) (ls : List (List O)) : Prop := ArgD 4 opCells zeroO w v ls
theorem zipWith_snoc {α β γ : Type} (h : α → β → γ) (xs : List α) (ys : List β) (x : α) (y : β) (hl : xs.length = ys.length) : List.zipWith h (xs ++ [x]) (ys ++ [y]) = List.zipWith h xs ys ++ [h x y] := by
  induction xs generalizing ys with
  | nil => cases ys with
    | nil => rfl
    | cons b ys => simp at hl
  | cons a xs ih => cases ys with
    | nil => simp at hl
    | cons b ys => simp only [List.cons_append, List.zipWith_cons_cons]; rw [ih ys (by simpa using hl)]
theorem set_fill {α : Type} (vs : List α) (z u : α) (m : Nat) (h : 0 < m) : (vs ++ List.replicate m z).set vs.length u = (vs ++ [u]) ++ List.replicate (m - 1) z := by
  rw [List.set_append_right _ _ (Nat.le_refl _), Nat.sub_self]
  cases m with
  | zero => omega
  | succ m => simp [List.replicate_succ]
/-- The budget behind queues. -/
def szQ1 (q : List O) (l : Int) : Int := if szVF (fun r : O => r.key.size) q l < 0 then -1 else szVF (fun r : O => r.key.size) q l
def szQL : List (List O) → Int → Int
  | [], l => l
  | q :: qs, l => if szVF (fun r : O => r.key.size) q l < 0 then -1 else szQL qs (szVF (fun r : O => r.key.size) q l)
def szQV (ls : List (List O)) (l : Int) : Int := if l - (ls.length : Int) < 0 then -1 else szQL ls (l - (ls.length : Int))
theorem szQL_drop (ls : List (List O)) (j : Nat) (hj : j < ls.length) (c : Int) : szQL (ls.drop j) c = if szVF (fun r : O => r.key.size) (ls.getD j []) c < 0 then -1 else szQL (ls.drop (j + 1)) (szVF (fun r : O => r.key.size) (ls.getD j []) c) := by
  rw [List.drop_eq_getElem_cons hj, List.getD_eq_getElem?_getD, List.getElem?_eq_getElem hj]
  rfl
theorem szVF_tot {q : List O} {l : Int} (h : 0 ≤ szVF (fun r : O => r.key.size) q l) : (q.length : Int) + szVF (fun r : O => r.key.size) q l ≤ l := by
  unfold szVF at *
  split at h
  · omega
  · rename_i h2
    rw [if_neg h2]
    rcases szLF_le (fun r : O => r.key.size) q (l - (q.length : Int)) with h3 | h3 <;> omega
theorem szQL_tot (ls : List (List O)) (l : Int) (h : 0 ≤ szQL ls l) (hl : 0 ≤ l) : ((ls.map List.length).sum : Int) + szQL ls l ≤ l := by
  induction ls generalizing l with
  | nil => simp [szQL]
  | cons q qs ih =>
    have e : szQL (q :: qs) l = if szVF (fun r : O => r.key.size) q l < 0 then -1 else szQL qs (szVF (fun r : O => r.key.size) q l) := rfl
    rw [e] at h ⊢
    by_cases h2 : szVF (fun r : O => r.key.size) q l < 0
    · rw [if_pos h2] at h; omega
    · rw [if_neg h2] at h ⊢
      have h3 := szVF_tot (q := q) (l := l) (by omega)
      have h4 := ih _ h (by omega)
      simp only [List.map_cons, List.sum_cons]
      omega
/-- A budget that holds out bounds the queues and what they hold. -/
theorem szQV_tot {ls : List (List O)} {l : Int} (h : 0 ≤ szQV ls l) : (ls.length : Int) + ((ls.map List.length).sum : Int) + szQV ls l ≤ l := by
  unfold szQV at *
  split at h
  · omega
  · rename_i h2
    rw [if_neg h2]
    have := szQL_tot ls (l - (ls.length : Int)) h (by omega)
    omega
def FitQ (ls : List (List O)) : Prop := ∀ j, j < ls.length → ∀ i, i < (ls.getD j []).length → ((ls.getD j []).getD i zeroO).Fit
end Go.Proofs.Ytjiaogbkmpjciaa
/-
  The exact laws' marks on rows of queues, and the look whether they are held.
-/
namespace Go.Proofs.Ytjiaogbkmpjciaa
open Go.RowKit M
set_option linter.unusedVariables false
set_option linter.unusedSimpArgs false
/-- Queues marked from k on; where the marks end. -/
def marksQ : Int → List (List O) → List (List O)
  | _, [] => []
  | k, q :: qs => marksOp k q.length :: marksQ (k + 4 * (q.length : Int)) qs
def endQ : Int → List (List O) → Int
  | k, [] => k
  | k, q :: qs => endQ (k + 4 * (q.length : Int)) qs
theorem marksQ_length (k : Int) (ls : List (List O)) : (marksQ k ls).length = ls.length := by
  induction ls generalizing k with
  | nil => rfl
  | cons q qs ih => simp only [marksQ, List.length_cons, ih]
theorem marksQ_snoc (k : Int) (ls : List (List O)) (q : List O) : marksQ k (ls ++ [q]) = marksQ k ls ++ [marksOp (endQ k ls) q.length] := by
  induction ls generalizing k with
  | nil => rfl
  | cons p ls ih => simp only [List.cons_append, marksQ, endQ, ih]
theorem endQ_snoc (k : Int) (ls : List (List O)) (q : List O) : endQ k (ls ++ [q]) = endQ k ls + 4 * (q.length : Int) := by
  induction ls generalizing k with
  | nil => rfl
  | cons p ls ih => simp only [List.cons_append, endQ, ih]
/-- How many operations there are. -/
def totQ (ls : List (List O)) : Nat := (ls.map List.length).sum
theorem endQ_tot (k : Int) (ls : List (List O)) : endQ k ls = k + 4 * (totQ ls : Int) := by
  induction ls generalizing k with
  | nil => simp [endQ, totQ]
  | cons q qs ih => simp only [endQ, ih, totQ, List.map_cons, List.sum_cons]; omega
theorem totQ_take (ls : List (List O)) (j : Nat) (hj : j < ls.length) : totQ (ls.take j) + (ls.getD j []).length ≤ totQ ls := by
  have e : ls = ls.take j ++ (ls.getD j [] :: ls.drop (j + 1)) := by
    rw [List.getD_eq_getElem?_getD, List.getElem?_eq_getElem hj, Option.getD_some, ← List.drop_eq_getElem_cons hj, List.take_append_drop]
  have : totQ ls = totQ (ls.take j) + ((ls.getD j []).length + totQ (ls.drop (j + 1))) := by
    conv => lhs; rw [e]
    simp [totQ]
  omega
theorem marksQ_getD (k : Int) (ls : List (List O)) (j : Nat) (hj : j < ls.length) : (marksQ k ls).getD j [] = marksOp (endQ k (ls.take j)) (ls.getD j []).length := by
  induction ls generalizing k j with
  | nil => simp at hj
  | cons q qs ih =>
    cases j with
    | zero => rfl
    | succ j =>
      have := ih (k + 4 * (q.length : Int)) j (by simpa using hj)
      simpa [marksQ, endQ] using this
end Go.Proofs.Ytjiaogbkmpjciaa
/-
  An argument that is a row of rows, opened: some rows each of whose fields fits its type.
-/
namespace Go.Proofs.Ytjiaogbkmpjciaa
open Go.ChangeShapes Go.WideShapes Go.Deep Go.RowKit M
set_option linter.unusedVariables false
def FitR (rs : List R) : Prop := ∀ j, j < rs.length → (rs.getD j zeroR).Fit
theorem FitR.key {rs : List R} (h : FitR rs) : ∀ j, j < rs.length → (rs.getD j zeroR).key.size ≤ maxLen := fun j hj => (h j hj).key
instance : Inhabited R := ⟨zeroR⟩
set_option maxRecDepth 100000 in
theorem open_rows {H : Type} {enc : TypeId × Value → H} {w : World} {base : Nat} {spare : Nat → Bool} {held : Bool} {fuel : Nat} {A : Option Addr} {len cap : Nat} {x : DataW H × List MemPlace}
    (h : DataW.trod enc Try.prog w base spare held fuel 41 [.slice A len cap] = some x) : ∃ rs, RowsArg w (.slice A len cap) rs ∧ FitR rs := by
  have hC : Try.prog.cellsOf 83 = 10 := by kernel_rfl
  rcases open_slice Try.underlying41 h with ⟨hcs, _⟩ | ⟨a, l, c, m, n, D, Pl, hcs, _, hl, hm, hmm, _, hi⟩
  · simp at hcs
    obtain ⟨rfl, rfl, rfl⟩ := hcs
    exact ⟨[], RowsArg.nil _, fun j hj => by simp at hj⟩
  · simp at hcs
    obtain ⟨rfl, rfl, rfl⟩ := hcs
    have hle : len ≤ m := by rw [hmm]; split <;> omega
    rw [hC] at hi
    have hr : ∀ i, i < len → ∃ r : R, r.Fit ∧ ∀ k, k < 10 → w.cell? ((a.add (i * 10)).add k) = (rowCells r)[k]? := fun i him => by
      obtain ⟨cs', hc, ht⟩ := hi i (by omega)
      obtain ⟨_, hcl, hat⟩ := World.cells?_some hc
      obtain ⟨r, hr, hf⟩ := read_row hcl ht
      refine ⟨r, hf, fun k hk => ?_⟩
      rw [hat k hk, hr, Array.getElem?_toList]
    obtain ⟨f, hf⟩ := choose_lt hr
    have hg : ∀ j, j < len → ((List.range len).map f).getD j zeroR = f j := fun j hj => by simp [List.getD_eq_getElem?_getD, hj]
    have hln : ((List.range len).map f).length = len := by simp
    refine ⟨(List.range len).map f, ⟨some a, cap, by rw [hln], by rw [hln]; exact hl, hm, fun hp => ?_⟩, fun j hj => ?_⟩
    · rw [hln] at hp
      obtain ⟨b, off, spot⟩ := a
      have h0 := (hf 0 hp).2 0 (by decide)
      have hspot : spot = none := by simpa [Addr.add] using World.cell?_spot h0
      subst hspot
      refine ⟨b, off, rfl, by simpa [Addr.add] using World.block_lt_of_cell? w _ h0, fun j hj k hk => ?_⟩
      rw [hln] at hj
      rw [hg j hj, ← (hf j hj).2 k hk, add_add]
      congr 1
      unfold Addr.add
      split
      · simp_all
      · simp [Nat.add_assoc]
    · rw [hln] at hj
      rw [hg j hj]
      exact (hf j hj).1
end Go.Proofs.Ytjiaogbkmpjciaa
/-
  Arguments opened: numbers, texts, rows, operations: each reads as some record whose fields fit their types.
-/
namespace Go.Proofs.Ytjiaogbkmpjciaa
open Go.ChangeShapes Go.WideShapes Go.Deep Go.RowKit M
set_option linter.unusedVariables false
section
variable {H : Type} {enc : TypeId × Value → H} {P : Program} {w : World} {base : Nat} {spare : Nat → Bool} {held : Bool} {α : Type} [Inhabited α]
/-- An argument that is a slice: its elements, each read as its type tells. -/
theorem open_elts {t te : TypeId} {F : Nat} (ht : P.underlying t = some (.slice te)) (hC : P.cellsOf te = F) (hF : 0 < F) (z : α) (Rel : List Value → α → Prop)
    (hread : ∀ (fuel : Nat) (cs : List Value) (x : DataW H × List MemPlace), cs.length = F → DataW.trod enc P w base spare held fuel te cs = some x → ∃ r, Rel cs r)
    {fuel : Nat} {c : Value} {x : DataW H × List MemPlace} (h : DataW.trod enc P w base spare held fuel t [c] = some x) :
    ∃ (l : List α) (A : Option Addr) (cap : Nat), c = .slice A l.length cap ∧ l.length ≤ cap ∧ cap ≤ maxLen ∧ (0 < l.length → ∃ b off, A = some ⟨b, off, none⟩ ∧ b < w.heap.size ∧ ∀ j, j < l.length → ∃ cs, cs.length = F ∧ (∀ k, k < F → w.cell? ⟨b, off + j * F + k, none⟩ = cs[k]?) ∧ Rel cs (l.getD j z)) := by
  rcases open_slice ht h with ⟨hcs, _⟩ | ⟨a, len, cap, m, n, D, Pl, hcs, _, hl, hm, hmm, _, hi⟩
  · simp at hcs
    subst hcs
    exact ⟨[], none, 0, rfl, Nat.le_refl _, Nat.zero_le _, fun h => absurd h (Nat.lt_irrefl _)⟩
  · simp at hcs
    subst hcs
    have hle : len ≤ m := by rw [hmm]; split <;> omega
    rw [hC] at hi
    have hr : ∀ i, i < len → ∃ r : α, ∃ cs : List Value, cs.length = F ∧ (∀ k, k < F → w.cell? ((a.add (i * F)).add k) = cs[k]?) ∧ Rel cs r := fun i him => by
      obtain ⟨cs', hc, ht⟩ := hi i (by omega)
      obtain ⟨_, hcl, hat⟩ := World.cells?_some hc
      obtain ⟨r, hr⟩ := hread _ _ _ hcl ht
      exact ⟨r, cs', hcl, fun k hk => hat k hk, hr⟩
    obtain ⟨f, hf⟩ := choose_lt hr
    have hg : ∀ j, j < len → ((List.range len).map f).getD j z = f j := fun j hj => by simp [List.getD_eq_getElem?_getD, hj]
    have hlen : ((List.range len).map f).length = len := by simp
    refine ⟨(List.range len).map f, some a, cap, by rw [hlen], by rw [hlen]; exact hl, hm, fun hp => ?_⟩
    rw [hlen] at hp ⊢
    obtain ⟨b, off, spot⟩ := a
    obtain ⟨cs0, hl0, hc0, _⟩ := hf 0 hp
    have h0 := hc0 0 hF
    rw [List.getElem?_eq_getElem (by omega : 0 < cs0.length)] at h0
    have hspot : spot = none := by simpa [Addr.add] using World.cell?_spot h0
    subst hspot
    refine ⟨b, off, rfl, by simpa [Addr.add] using World.block_lt_of_cell? w _ h0, fun j hj => ?_⟩
    obtain ⟨cs, hcl, hc, hrel⟩ := hf j hj
    refine ⟨cs, hcl, fun k hk => ?_, by rw [hg j hj]; exact hrel⟩
    rw [← hc k hk, add_add]
    congr 1
    unfold Addr.add
    split
    · simp_all
    · simp [Nat.add_assoc]
/-- The reading of a struct gives the reading of each of its fields. -/
theorem field_readN {fs : Array Field} {cs : List Value} {xs : List (DataW H × List MemPlace)} {n : Nat}
    (hg : ∀ (i : Nat) (f : Field), fs[i]? = some f → DataW.trod enc P w base spare held n f.type ((cs.drop f.offset).take (P.cellsOf f.type)) = xs[i]?)
    {i : Nat} {f : Field} (hf : fs[i]? = some f) (hx : i < xs.length) {k m : Nat} (ho : f.offset = k) (hm : P.cellsOf f.type = m) : ∃ y, DataW.trod enc P w base spare held n f.type ((cs.drop k).take m) = some y := by
  have h := hg i f hf
  rw [ho, hm, List.getElem?_eq_getElem hx] at h
  exact ⟨_, h⟩
end
section
variable {H : Type} {enc : TypeId × Value → H} {w : World} {base : Nat} {spare : Nat → Bool} {held : Bool} {fuel : Nat} {x : DataW H × List MemPlace} {c : Value}
set_option maxRecDepth 100000 in
theorem rd_bool (h : DataW.trod enc Try.prog w base spare held fuel 4 [c] = some x) : ∃ b, c = .bool b := by
  obtain ⟨b, e, _⟩ := DataW.trod_bool Try.underlying4 h
  exact ⟨b, by simpa using e⟩
set_option maxRecDepth 100000 in
theorem rd_int (h : DataW.trod enc Try.prog w base spare held fuel 3 [c] = some x) : ∃ z, inW z ∧ c = .int .i64 z := by
  obtain ⟨z, e, _, f⟩ := DataW.trod_int Try.underlying3 h
  exact ⟨z, fit_of f, by simpa using e⟩
set_option maxRecDepth 100000 in
theorem rd_str (h : DataW.trod enc Try.prog w base spare held fuel 9 [c] = some x) : ∃ s : ByteArray, s.size ≤ maxLen ∧ c = .string s := by
  obtain ⟨s, e, _, f⟩ := DataW.trod_string Try.underlying9 h
  exact ⟨s, f, by simpa using e⟩
set_option maxRecDepth 100000 in
theorem rd_ints (h : DataW.trod enc Try.prog w base spare held fuel 32 [c] = some x) : ∃ zs, IntsArg w c zs ∧ Fit zs := by
  obtain ⟨l, A, cap, rfl, h1, h2, h3⟩ := open_elts (F := 1) Try.underlying32 (by kernel_rfl) (by decide) (0 : Int) (fun cs z => cs = [.int .i64 z] ∧ inW z) (fun fuel cs x hl ht => by
    match cs, hl with
    | [c0], _ => obtain ⟨z, h1, rfl⟩ := rd_int ht; exact ⟨z, rfl, h1⟩) h
  have hfit : ∀ j, j < l.length → inW (l.getD j 0) := fun j hj => by
    obtain ⟨b, off, _, _, h5⟩ := h3 (by omega)
    obtain ⟨cs, _, _, _, hw⟩ := h5 j hj
    exact hw
  refine ⟨l, ⟨A, cap, rfl, h1, h2, fun hp => ?_⟩, fun z hz => ?_⟩
  · obtain ⟨b, off, ea, h4, h5⟩ := h3 hp
    refine ⟨b, off, ea, h4, fun j hj => ?_⟩
    obtain ⟨cs, _, hc, rfl, _⟩ := h5 j hj
    have := hc 0 (by decide)
    rwa [Nat.mul_one, Nat.add_zero] at this
  · obtain ⟨j, hj, e⟩ := List.getElem_of_mem hz
    have := hfit j hj
    rw [List.getD_eq_getElem?_getD, List.getElem?_eq_getElem hj, Option.getD_some, e] at this
    exact this
set_option maxRecDepth 100000 in
theorem rd_rows (h : DataW.trod enc Try.prog w base spare held fuel 41 [c] = some x) : ∃ rs, RowsArg w c rs ∧ FitR rs := by
  rcases open_slice Try.underlying41 h with ⟨hcs, _⟩ | ⟨a, l, cp, m, n, D, Pl, hcs, _⟩
  · simp at hcs; subst hcs; exact open_rows h
  · simp at hcs; subst hcs; exact open_rows h
set_option maxRecDepth 100000 in
theorem rd_op {cs : List Value} (hsz : cs.length = 4) (h : DataW.trod enc Try.prog w base spare held fuel 40 cs = some x) : ∃ r : O, cs = (opCells r).toList ∧ r.Fit := by
  obtain ⟨xs, n, _, _, hlen, hxl, hg⟩ := DataW.trod_struct Try.underlying40 h
  have hx : xs.length = 4 := hxl
  match cs, hsz with
  | [c0, c1, c2, c3], _ =>
    obtain ⟨y0, h0⟩ := field_readN hg (i := 0) rfl (by omega) (k := 0) rfl (m := 1) (by kernel_rfl)
    obtain ⟨y1, h1⟩ := field_readN hg (i := 1) rfl (by omega) (k := 1) rfl (m := 1) (by kernel_rfl)
    obtain ⟨y2, h2⟩ := field_readN hg (i := 2) rfl (by omega) (k := 2) rfl (m := 1) (by kernel_rfl)
    obtain ⟨y3, h3⟩ := field_readN hg (i := 3) rfl (by omega) (k := 3) rfl (m := 1) (by kernel_rfl)
    obtain ⟨x0, f0, rfl⟩ := rd_int (c := c0) h0
    obtain ⟨x1, f1, rfl⟩ := rd_str (c := c1) h1
    obtain ⟨x2, f2, rfl⟩ := rd_int (c := c2) h2
    obtain ⟨x3, f3, rfl⟩ := rd_int (c := c3) h3
    exact ⟨⟨x0, x1, x2, x3⟩, rfl, ⟨f0, f1, f2, f3⟩⟩
instance : Inhabited O := ⟨zeroO⟩
def FitOs (l : List O) : Prop := ∀ i, i < l.length → (l.getD i zeroO).Fit
end
section
variable {H : Type} {enc : TypeId × Value → H} {w : World} {base : Nat} {spare : Nat → Bool} {held : Bool} {r : Reach} {b0 : Nat} {v : Value} {d : DataW H} {p : List MemPlace}
set_option maxRecDepth 100000 in
theorem open_op (hv : Value.okWide Try.prog w r b0 40 v) (h : DataW.Trod enc Try.prog w base spare held 40 v d p) : ∃ x : O, v = x.v ∧ x.Fit := by
  obtain ⟨cs, rfl, hsz⟩ := okWide_struct Try.underlying40 hv
  obtain ⟨fuel, hf⟩ := h
  have hC : Try.prog.cellsOf 40 = 4 := by kernel_rfl
  rw [hC] at hsz
  obtain ⟨x, hx, hfit⟩ := rd_op (cs := cs.toList) (by simpa using hsz) hf
  obtain rfl : cs = opCells x := Array.ext' hx
  exact ⟨x, rfl, hfit⟩
end
end Go.Proofs.Ytjiaogbkmpjciaa
