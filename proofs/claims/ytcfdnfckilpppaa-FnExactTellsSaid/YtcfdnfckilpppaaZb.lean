/-
  Several small texts of this proof, one behind another: each says ahead of itself what it proves.
-/
import Derived.Test.YtcfdnfckilpppaaRowC
import Derived.OwnWalk
import Derived.Test.YtcfdnfckilpppaaZa
import Derived.Test.YtcfdnfckilpppaaOpC
import Derived.Test.YtcfdnfckilpppaaOpK
import Derived.Deep.Slices
/-
  Rows of rows: reading one that came in or was made; one that a call made itself: storing a row, appending one.
-/
namespace Go.Proofs.Ytcfdnfckilpppaa
open Go.RowKit M
set_option linter.unusedVariables false
/-- Row r lies in block b from cell o on. -/
def Row10 (w : World) (b o : Nat) (r : R) : Prop := ∀ k, k < 10 → w.cell? ⟨b, o + k, none⟩ = (rowCells r)[k]?
theorem Row10.get {w : World} {b o : Nat} {r : R} (h : Row10 w b o r) :
    w.cell? ⟨b, o, none⟩ = some (.string r.key) ∧ w.cell? ⟨b, o + 1, none⟩ = some (.int .i64 r.kind) ∧ w.cell? ⟨b, o + 2, none⟩ = some (.int .i64 r.sum) ∧ w.cell? ⟨b, o + 3, none⟩ = some (.bool r.set) ∧ w.cell? ⟨b, o + 4, none⟩ = some (.int .i64 r.last) ∧
    w.cell? ⟨b, o + 5, none⟩ = some (.int .i64 r.n) ∧ w.cell? ⟨b, o + 6, none⟩ = some (.int .i64 r.mn) ∧ w.cell? ⟨b, o + 7, none⟩ = some (.int .i64 r.mx) ∧ w.cell? ⟨b, o + 8, none⟩ = some (.int .i64 r.total) ∧ w.cell? ⟨b, o + 9, none⟩ = some (.int .i64 r.dropped) :=
  ⟨h 0 (by decide), h 1 (by decide), h 2 (by decide), h 3 (by decide), h 4 (by decide), h 5 (by decide), h 6 (by decide), h 7 (by decide), h 8 (by decide), h 9 (by decide)⟩
theorem Row10.below {w w' : World} {b o : Nat} {r : R} (h : Row10 w b o r) (hlt : b < w.heap.size) (hb : Below w.heap.size w w') : Row10 w' b o r :=
  fun k hk => (hb.cell (p := ⟨b, o + k, none⟩) hlt).trans (h k hk)
/-- The slice value v reads as the rows rs (nil, or of no length, or one whose cells are there). -/
def RowsArg (w : World) (v : Value) (rs : List R) : Prop :=
  ∃ A cap, v = .slice A rs.length cap ∧ rs.length ≤ cap ∧ cap ≤ maxLen ∧ (0 < rs.length → ∃ b off, A = some ⟨b, off, none⟩ ∧ b < w.heap.size ∧ ∀ j, j < rs.length → Row10 w b (off + j * 10) (rs.getD j zeroR))
theorem RowsArg.below {w w' : World} {v : Value} {rs : List R} (h : RowsArg w v rs) (hb : Below w.heap.size w w') : RowsArg w' v rs := by
  obtain ⟨A, cap, e, h1, h2, h3⟩ := h
  refine ⟨A, cap, e, h1, h2, fun hp => ?_⟩
  obtain ⟨b, off, ea, h4, h5⟩ := h3 hp
  exact ⟨b, off, ea, Nat.lt_of_lt_of_le h4 hb.size, fun j hj => (h5 j hj).below h4 hb⟩
theorem RowsArg.nil (w : World) : RowsArg w (.slice none 0 0) [] := ⟨none, 0, rfl, Nat.zero_le _, Nat.zero_le _, fun h => absurd h (by simp)⟩
/-- The cells of the rows. -/
def cellsR (rs : List R) : List Value := rs.flatMap fun r => (rowCells r).toList
theorem cells10 (r : R) : (rowCells r).toList.length = 10 := rfl
theorem cellsR_length (rs : List R) : (cellsR rs).length = rs.length * 10 := by
  induction rs with
  | nil => rfl
  | cons r rs ih => simp only [cellsR, List.flatMap_cons, List.length_append, List.length_cons] at *; rw [ih, cells10]; omega
theorem cellsR_append (xs ys : List R) : cellsR (xs ++ ys) = cellsR xs ++ cellsR ys := by simp [cellsR]
theorem cellsR_at (rs : List R) (j k : Nat) (hj : j < rs.length) (hk : k < 10) : (cellsR rs)[j * 10 + k]? = (rowCells (rs.getD j zeroR))[k]? := by
  induction rs generalizing j with
  | nil => simp at hj
  | cons r rs ih =>
    show ((rowCells r).toList ++ cellsR rs)[j * 10 + k]? = _
    cases j with
    | zero => rw [List.getElem?_append_left (by rw [cells10]; omega)]; simp
    | succ j =>
      rw [List.getElem?_append_right (by rw [cells10]; omega), cells10, show (j + 1) * 10 + k - 10 = j * 10 + k by omega, ih j (by simpa using hj)]
      simp
theorem cellsR_one (rs : List R) : ∀ u ∈ cellsR rs, u.oneCell' = true := by
  intro u hu
  obtain ⟨r, _, hr⟩ := List.mem_flatMap.1 hu
  simp [rowCells] at hr
  rcases hr with rfl | rfl | rfl | rfl | rfl | rfl | rfl | rfl | rfl | rfl <;> rfl
/-- The row of rows is the call's own: in a block from base on. -/
def OwnR (w : World) (base : Nat) (v : Value) (rs : List R) : Prop := w.ownsRow base 62 10 v rs.length (cellsR rs)
theorem OwnR.alloc {w : World} {base : Nat} {v : Value} {rs : List R} (h : OwnR w base v rs) (o : Obj) : OwnR (w.alloc o) base v rs := World.ownsRow.alloc h o
theorem OwnR.kept {w w' : World} {base : Nat} {v : Value} {rs : List R} {row : Option Nat} (h : OwnR w base v rs) (hg : w.grownBy w' row) (hne : v.ownBlock = none ∨ v.ownBlock ≠ row) : OwnR w' base v rs := World.ownsRow.kept h hg hne
theorem OwnR.base_le {w : World} {base : Nat} {v : Value} {rs : List R} (h : OwnR w base v rs) : ∀ k, v.ownBlock = some k → base ≤ k := fun k hk => (World.ownsRow.lt h k hk).1
theorem OwnR.below {w w' : World} {base : Nat} {v : Value} {rs : List R} (h : OwnR w base v rs) (hb : Below w.heap.size w w') : OwnR w' base v rs :=
  h.kept (row := none) ⟨hb.os, hb.tape, hb.output, hb.size, fun i hi _ => hb.block i hi⟩ (by cases v.ownBlock <;> simp)
theorem OwnR.arg {w : World} {base : Nat} {v : Value} {rs : List R} (h : OwnR w base v rs) : RowsArg w v rs := by
  have h' := h
  rcases h.2 with ⟨rfl, h0⟩ | ⟨g, cap, cur, rfl, hb, hg, hn, hm, hc, ht⟩
  · exact ⟨none, 0, by rw [h0], by omega, Nat.zero_le _, fun h => by omega⟩
  · refine ⟨_, cap, rfl, hn, hm, fun _ => ⟨g, 0, rfl, (World.ownsRow.lt h' g rfl).2, fun j hj k hk => ?_⟩⟩
    rw [Nat.zero_add, World.ownsRow.cellAt h' (j * 10 + k) (by omega), cellsR_at rs j k hj hk]
theorem OwnR.at {w : World} {base g n cap : Nat} {rs : List R} (h : OwnR w base (.slice (some ⟨g, 0, none⟩) n cap) rs) (hn : rs.length = n) (j : Nat) (hj : j < n) : Row10 w g (j * 10) (rs.getD j zeroR) := by
  subst hn
  exact fun k hk => by rw [World.ownsRow.cellAt h (j * 10 + k) (by omega), cellsR_at rs j k hj hk]
theorem OwnR.frz {w : World} {base g n cap : Nat} {rs : List R} (h : OwnR w base (.slice (some ⟨g, 0, none⟩) n cap) rs) (hn : rs.length = n) (j : Nat) : w.frozen? ⟨g, j, none⟩ = false := by
  subst hn
  exact World.ownsRow.frozenAt h j
/-- Ten stores: row r into block g from cell o on. -/
def put10 (w : World) (g o : Nat) (r : R) : World :=
  (((((((((w.setCell ⟨g, o, none⟩ (.string r.key)).setCell ⟨g, o + 1, none⟩ (.int .i64 r.kind)).setCell ⟨g, o + 2, none⟩ (.int .i64 r.sum)).setCell ⟨g, o + 3, none⟩ (.bool r.set)).setCell ⟨g, o + 4, none⟩ (.int .i64 r.last)).setCell ⟨g, o + 5, none⟩ (.int .i64 r.n)).setCell ⟨g, o + 6, none⟩ (.int .i64 r.mn)).setCell ⟨g, o + 7, none⟩ (.int .i64 r.mx)).setCell ⟨g, o + 8, none⟩ (.int .i64 r.total)).setCell ⟨g, o + 9, none⟩ (.int .i64 r.dropped)
theorem set_append {α : Type} (la bs cs : List α) (i : Nat) (x : α) (hi : i < bs.length) : (la ++ (bs ++ cs)).set (la.length + i) x = la ++ (bs.set i x ++ cs) := by
  rw [List.set_append_right _ _ (by omega), Nat.add_sub_cancel_left, List.set_append_left _ _ hi]
theorem cellsR_set (rs : List R) (j : Nat) (r : R) (hj : j < rs.length) :
    (((((((((((cellsR rs).set (j * 10) (.string r.key)).set (j * 10 + 1) (.int .i64 r.kind)).set (j * 10 + 2) (.int .i64 r.sum)).set (j * 10 + 3) (.bool r.set)).set (j * 10 + 4) (.int .i64 r.last)).set (j * 10 + 5) (.int .i64 r.n)).set (j * 10 + 6) (.int .i64 r.mn)).set (j * 10 + 7) (.int .i64 r.mx)).set (j * 10 + 8) (.int .i64 r.total)).set (j * 10 + 9) (.int .i64 r.dropped)) = cellsR (rs.set j r) := by
  have e : rs = rs.take j ++ (rs.getD j zeroR :: rs.drop (j + 1)) := by
    rw [List.getD_eq_getElem?_getD, List.getElem?_eq_getElem hj, Option.getD_some, ← List.drop_eq_getElem_cons hj, List.take_append_drop]
  generalize rs.getD j zeroR = z at e
  have e2 : rs.set j r = rs.take j ++ (r :: rs.drop (j + 1)) := by
    conv => lhs; rw [e]
    rw [List.set_append_right _ _ (by rw [List.length_take]; omega), List.length_take, show j - min j rs.length = 0 by omega, List.set_cons_zero]
  have e3 : cellsR rs = cellsR (rs.take j) ++ ((rowCells z).toList ++ cellsR (rs.drop (j + 1))) := by
    conv => lhs; rw [e]
    rw [cellsR_append]; rfl
  have e4 : cellsR (rs.set j r) = cellsR (rs.take j) ++ ((rowCells r).toList ++ cellsR (rs.drop (j + 1))) := by rw [e2, cellsR_append]; rfl
  have e5 : (cellsR (rs.take j)).length = j * 10 := by rw [cellsR_length, List.length_take]; omega
  rw [e3, e4, ← e5]
  have S := fun (bs : List Value) (i : Nat) (x : Value) (hi : i < bs.length) => set_append (cellsR (rs.take j)) bs (cellsR (rs.drop (j + 1))) i x hi
  have S0 := fun (bs : List Value) (x : Value) (hi : 0 < bs.length) => S bs 0 x hi
  simp only [Nat.add_zero] at S0
  rw [S0 _ _ (by simp [rowCells]), S _ 1 _ (by simp [rowCells]), S _ 2 _ (by simp [rowCells]), S _ 3 _ (by simp [rowCells]), S _ 4 _ (by simp [rowCells]), S _ 5 _ (by simp [rowCells]), S _ 6 _ (by simp [rowCells]), S _ 7 _ (by simp [rowCells]), S _ 8 _ (by simp [rowCells]), S _ 9 _ (by simp [rowCells])]
  rfl
theorem grownR_trans {a b c : World} {o : Option Nat} (h : a.grownBy b o) (k : b.grownBy c o) : a.grownBy c o :=
  ⟨k.os.trans h.os, k.tape.trans h.tape, k.output.trans h.output, Nat.le_trans h.size k.size, fun i hi hne => (k.block i (Nat.lt_of_lt_of_le hi h.size) hne).trans (h.block i hi hne)⟩
theorem OwnR.put {w : World} {base g n cap : Nat} {rs : List R} (h : OwnR w base (.slice (some ⟨g, 0, none⟩) n cap) rs) (hn : rs.length = n) (j : Nat) (hj : j < n) (r : R) :
    OwnR (put10 w g (j * 10) r) base (.slice (some ⟨g, 0, none⟩) n cap) (rs.set j r) ∧ w.grownBy (put10 w g (j * 10) r) (some g) := by
  subst hn
  have h0 := World.ownsRow.stored h (j * 10) (.string r.key)
  have h1 := World.ownsRow.stored h0.1 (j * 10 + 1) (.int .i64 r.kind)
  have h2 := World.ownsRow.stored h1.1 (j * 10 + 2) (.int .i64 r.sum)
  have h3 := World.ownsRow.stored h2.1 (j * 10 + 3) (.bool r.set)
  have h4 := World.ownsRow.stored h3.1 (j * 10 + 4) (.int .i64 r.last)
  have h5 := World.ownsRow.stored h4.1 (j * 10 + 5) (.int .i64 r.n)
  have h6 := World.ownsRow.stored h5.1 (j * 10 + 6) (.int .i64 r.mn)
  have h7 := World.ownsRow.stored h6.1 (j * 10 + 7) (.int .i64 r.mx)
  have h8 := World.ownsRow.stored h7.1 (j * 10 + 8) (.int .i64 r.total)
  have h9 := World.ownsRow.stored h8.1 (j * 10 + 9) (.int .i64 r.dropped)
  refine ⟨?_, grownR_trans (grownR_trans (grownR_trans (grownR_trans (grownR_trans (grownR_trans (grownR_trans (grownR_trans (grownR_trans h0.2 h1.2) h2.2) h3.2) h4.2) h5.2) h6.2) h7.2) h8.2) h9.2⟩
  unfold OwnR
  rw [List.length_set, ← cellsR_set rs j r hj]
  exact h9.1
/-- A call hands back a new row of rows of its own, and turns nothing that was there. -/
def MadeR (w : World) (rs : List R) (e : Ending) (w' : World) : Prop := ∃ v, e = .returned v ∧ OwnR w' w.heap.size v rs ∧ Below w.heap.size w w'
/-- An empty one that was just built. -/
theorem OwnR.empty (w : World) (base : Nat) (hb : base ≤ w.heap.size) : OwnR (w.alloc (.cells #[] 62)) base (.slice (some ⟨w.heap.size, 0, none⟩) 0 0) [] :=
  World.ownsRow_lit w #[] 0 hb (Nat.zero_le _) rfl
theorem info_row : (Try.prog.info? 62).map (fun i => (i.zero, i.size, i.bytes)) = some (some zeroR.v, 10, 88) := by kernel_rfl
/-- append(v, x) onto an own row of rows, x being a row that lies alone in a new block. -/
theorem wpR_append (w : World) {ops : Array Oper} {rest : List Oper} {o : Oper} {a : Act} {Q : Exit → Act → World → Prop} (hgd : o.guard = none) (s x : Operand)
    (ho : o.op = .call { callee := .builtin .append, args := #[s, x], argTypes := #[54, 54] })
    (base : Nat) (v : Value) (l : List R) (hown : OwnR w base v l) (hs : a.eval s = v)
    (c : R) (cs : Array Value) (hcs : cs = rowCells c) (hx : a.eval x = .slice (some ⟨w.heap.size, 0, none⟩) 1 1)
    (hlen : l.length + 1 ≤ 8796093022) (hbase : base ≤ w.heap.size)
    (h : ∀ v' w', OwnR w' base v' (l ++ [c]) → (w.alloc (.cells cs 62)).grownBy w' v.ownBlock → wpList Try.prog ops Q rest (a.put o.dst v') w') : wpList Try.prog ops Q (o :: rest) a (w.alloc (.cells cs 62)) := by
  subst hcs
  obtain ⟨i0, hi, hz0, hz1, hz2⟩ := info_parts info_row
  refine wpList_append_own (w.alloc (.cells (rowCells c) 62)) hgd s x 54 ho base 62 i0 zeroR.v 10 88 Try.underlying54 hi hz0 hz1 hz2 rfl (by decide) v l.length (cellsR l) hs (hown.alloc _) ⟨w.heap.size, 0, none⟩ 1 1 (rowCells c).toList hx rfl ?_ ?_ (by unfold maxLen; omega) (by omega) (by simp [go_sem]; omega) ?_
  · intro j u hu
    have hj : j < 10 := by have := (List.getElem?_eq_some_iff.1 hu).1; simpa [rowCells] using this
    rw [Addr.add_lit, Nat.zero_add, cell_of_row _ _ _ _ _ _ (heap_alloc_new w _)]
    rw [Array.getElem?_toList] at hu
    exact hu
  · intro u hu
    exact cellsR_one [c] u (by simpa [cellsR] using hu)
  · intro v' w' h1 h2 _
    refine h v' w' ?_ h2
    unfold OwnR
    rw [List.length_append, cellsR_append]
    simpa [cellsR] using h1
end Go.Proofs.Ytcfdnfckilpppaa
/-
  The record Job: its cells as values and rows.
-/
namespace Go.Proofs.Ytcfdnfckilpppaa
open Go.RowKit M
set_option linter.unusedVariables false
/-- Reading a row of numbers. -/
theorem reads_ints {w : World} {v : Value} {zs : List Int} (h : (Dat.row 3 1 zs.length (zs.map (Value.int .i64))).reads w v) : IntsArg w v zs := by
  obtain ⟨_, A, cap, e, h1, h2, h3⟩ := h
  refine ⟨A, cap, e, h1, h2, fun hp => ?_⟩
  obtain ⟨b, off, ea, h4, h5⟩ := h3 hp
  refine ⟨b, off, ea, h4, fun j hj => ?_⟩
  rw [h5 j (by omega), List.getElem?_map, List.getElem?_eq_getElem hj, List.getD_eq_getElem?_getD, List.getElem?_eq_getElem hj]
  rfl
def jobDat (r : J) : List Dat := [.val (.bool r.busy), .val (.int .i64 r.op.kind), .val (.string r.op.key), .val (.int .i64 r.op.what), .val (.int .i64 r.op.val), .val (.int .i64 r.serial), .val (.int .i64 r.pc), .val (.int .i64 r.k), .val (.int .i64 r.slot), .val (.int .i64 r.what), .val (.int .i64 r.e), .val (.int .i64 r.stamp), .val (.int .i64 r.old), .val (.int .i64 r.flips), .val (.int .i64 r.steps), .val (.int .i64 r.code), .row 3 1 r.keys.length (r.keys.map (Value.int .i64)), .row 3 1 r.raw.length (r.raw.map (Value.int .i64))]
/-- The cells, the inner rows being these values. -/
def jobVals (r : J) (vkeys vraw : Value) : Array Value := #[.bool r.busy, .int .i64 r.op.kind, .string r.op.key, .int .i64 r.op.what, .int .i64 r.op.val, .int .i64 r.serial, .int .i64 r.pc, .int .i64 r.k, .int .i64 r.slot, .int .i64 r.what, .int .i64 r.e, .int .i64 r.stamp, .int .i64 r.old, .int .i64 r.flips, .int .i64 r.steps, .int .i64 r.code, vkeys, vraw]
theorem jobDat_len (r : J) : (jobDat r).length = 18 := rfl
theorem jobDat_wf (r : J) : ∀ d ∈ jobDat r, d.wf := by
  intro d hd
  simp only [jobDat, List.mem_cons, List.not_mem_nil, or_false] at hd
  rcases hd with rfl | rfl | rfl | rfl | rfl | rfl | rfl | rfl | rfl | rfl | rfl | rfl | rfl | rfl | rfl | rfl | rfl | rfl <;> first | trivial | (simp [Dat.wf]; done) | simp [Dat.wf, cellsR_length]
theorem jobVals_ok (r : J) (vkeys vraw : Value) : valsD (jobVals r vkeys vraw).toList (jobDat r) := by
  simp [jobVals, jobDat, valsD]
theorem jobVals_in (r : J) (vkeys vraw : Value) : innerD (jobVals r vkeys vraw).toList (jobDat r) = [⟨vkeys, 3, 1, r.keys.length, (r.keys.map (Value.int .i64))⟩, ⟨vraw, 3, 1, r.raw.length, (r.raw.map (Value.int .i64))⟩] := rfl

/-- The inner rows read as they should. -/
def jobIn (w : World) (r : J) (vkeys vraw : Value) : Prop := IntsArg w vkeys r.keys ∧ IntsArg w vraw r.raw
theorem jobIn_below {w w' : World} {r : J} {vkeys vraw : Value} (h : jobIn w r vkeys vraw) (hb : Below w.heap.size w w') : jobIn w' r vkeys vraw := ⟨h.1.below hb, h.2.below hb⟩
/-- A call hands back such a record, its inner rows new. -/
def MadeJob (w : World) (r : J) (e : Ending) (w' : World) : Prop := ∃ vkeys vraw, e = .returned (.agg (jobVals r vkeys vraw)) ∧ Heap w' w.heap.size [⟨vkeys, 3, 1, r.keys.length, (r.keys.map (Value.int .i64))⟩, ⟨vraw, 3, 1, r.raw.length, (r.raw.map (Value.int .i64))⟩] ∧ Below w.heap.size w w'
theorem info_Job : (Try.prog.info? 86).map (fun i => (i.zero, i.size, i.bytes)) = some (some (.agg #[.bool false, .int .i64 0, .string ⟨#[]⟩, .int .i64 0, .int .i64 0, .int .i64 0, .int .i64 0, .int .i64 0, .int .i64 0, .int .i64 0, .int .i64 0, .int .i64 0, .int .i64 0, .int .i64 0, .int .i64 0, .int .i64 0, .slice none 0 0, .slice none 0 0]), 18, 184) := by kernel_rfl
theorem jobZero_ok : valsD (#[.bool false, .int .i64 0, .string ⟨#[]⟩, .int .i64 0, .int .i64 0, .int .i64 0, .int .i64 0, .int .i64 0, .int .i64 0, .int .i64 0, .int .i64 0, .int .i64 0, .int .i64 0, .int .i64 0, .int .i64 0, .int .i64 0, .slice none 0 0, .slice none 0 0] : Array Value).toList (jobDat zeroJ) ∧ ∀ x ∈ innerD (#[.bool false, .int .i64 0, .string ⟨#[]⟩, .int .i64 0, .int .i64 0, .int .i64 0, .int .i64 0, .int .i64 0, .int .i64 0, .int .i64 0, .int .i64 0, .int .i64 0, .int .i64 0, .int .i64 0, .int .i64 0, .int .i64 0, .slice none 0 0, .slice none 0 0] : Array Value).toList (jobDat zeroJ), x.v = .slice none 0 0 ∧ x.n = 0 ∧ x.cs = [] := by
  refine ⟨by simp [valsD, jobDat, zeroJ, zeroO], ?_⟩
  intro x hx
  simp only [innerD, jobDat, zeroJ, List.mem_cons, List.not_mem_nil, or_false] at hx
  rcases hx with rfl | rfl <;> exact ⟨rfl, rfl, rfl⟩
/-- An element that lies somewhere: its cells. -/
theorem job_at {w : World} {b o : Nat} {r : J} (h : EltAt jobDat w b o r) : ∃ vkeys vraw, w.rangeAt b o (jobVals r vkeys vraw).toList ∧ jobIn w r vkeys vraw := by
  obtain ⟨_, q0, rfl⟩ := h 0 _ rfl
  obtain ⟨_, q1, rfl⟩ := h 1 _ rfl
  obtain ⟨_, q2, rfl⟩ := h 2 _ rfl
  obtain ⟨_, q3, rfl⟩ := h 3 _ rfl
  obtain ⟨_, q4, rfl⟩ := h 4 _ rfl
  obtain ⟨_, q5, rfl⟩ := h 5 _ rfl
  obtain ⟨_, q6, rfl⟩ := h 6 _ rfl
  obtain ⟨_, q7, rfl⟩ := h 7 _ rfl
  obtain ⟨_, q8, rfl⟩ := h 8 _ rfl
  obtain ⟨_, q9, rfl⟩ := h 9 _ rfl
  obtain ⟨_, q10, rfl⟩ := h 10 _ rfl
  obtain ⟨_, q11, rfl⟩ := h 11 _ rfl
  obtain ⟨_, q12, rfl⟩ := h 12 _ rfl
  obtain ⟨_, q13, rfl⟩ := h 13 _ rfl
  obtain ⟨_, q14, rfl⟩ := h 14 _ rfl
  obtain ⟨_, q15, rfl⟩ := h 15 _ rfl
  obtain ⟨vkeys, q16, rkeys⟩ := h 16 _ rfl
  obtain ⟨vraw, q17, rraw⟩ := h 17 _ rfl
  refine ⟨vkeys, vraw, ?_, ⟨reads_ints rkeys, reads_ints rraw⟩⟩
  intro j v hv
  match j with
  | 0 => injection hv with hv; subst hv; exact q0
  | 1 => injection hv with hv; subst hv; exact q1
  | 2 => injection hv with hv; subst hv; exact q2
  | 3 => injection hv with hv; subst hv; exact q3
  | 4 => injection hv with hv; subst hv; exact q4
  | 5 => injection hv with hv; subst hv; exact q5
  | 6 => injection hv with hv; subst hv; exact q6
  | 7 => injection hv with hv; subst hv; exact q7
  | 8 => injection hv with hv; subst hv; exact q8
  | 9 => injection hv with hv; subst hv; exact q9
  | 10 => injection hv with hv; subst hv; exact q10
  | 11 => injection hv with hv; subst hv; exact q11
  | 12 => injection hv with hv; subst hv; exact q12
  | 13 => injection hv with hv; subst hv; exact q13
  | 14 => injection hv with hv; subst hv; exact q14
  | 15 => injection hv with hv; subst hv; exact q15
  | 16 => injection hv with hv; subst hv; exact q16
  | 17 => injection hv with hv; subst hv; exact q17
  | j + 18 => exact absurd (List.getElem?_eq_some_iff.1 hv).1 (by show ¬ j + 18 < 18; omega)
end Go.Proofs.Ytcfdnfckilpppaa
/-
  The record Ev: its cells as values and rows.
-/
namespace Go.Proofs.Ytcfdnfckilpppaa
open Go.RowKit M
set_option linter.unusedVariables false
/-- Reading a row of rows. -/
theorem reads_rows {w : World} {v : Value} {rs : List R} (h : (Dat.row 62 10 rs.length (cellsR rs)).reads w v) : RowsArg w v rs := by
  obtain ⟨_, A, cap, e, h1, h2, h3⟩ := h
  refine ⟨A, cap, e, h1, h2, fun hp => ?_⟩
  obtain ⟨b, off, ea, h4, h5⟩ := h3 hp
  refine ⟨b, off, ea, h4, fun j hj k hk => ?_⟩
  rw [Nat.add_assoc, h5 (j * 10 + k) (by omega), cellsR_at rs j k hj hk]
def evDat (r : E) : List Dat := [.val (.int .i64 r.kind), .val (.int .i64 r.who), .val (.int .i64 r.serial), .val (.int .i64 r.at_), .val (.int .i64 r.op.kind), .val (.string r.op.key), .val (.int .i64 r.op.what), .val (.int .i64 r.op.val), .val (.int .i64 r.code), .val (.int .i64 r.win), .val (.int .i64 r.steps), .val (.int .i64 r.flips), .row 62 10 r.rows.length (cellsR r.rows)]
/-- The cells, the inner rows being these values. -/
def evVals (r : E) (vrows : Value) : Array Value := #[.int .i64 r.kind, .int .i64 r.who, .int .i64 r.serial, .int .i64 r.at_, .int .i64 r.op.kind, .string r.op.key, .int .i64 r.op.what, .int .i64 r.op.val, .int .i64 r.code, .int .i64 r.win, .int .i64 r.steps, .int .i64 r.flips, vrows]
theorem evDat_len (r : E) : (evDat r).length = 13 := rfl
theorem evDat_wf (r : E) : ∀ d ∈ evDat r, d.wf := by
  intro d hd
  simp only [evDat, List.mem_cons, List.not_mem_nil, or_false] at hd
  rcases hd with rfl | rfl | rfl | rfl | rfl | rfl | rfl | rfl | rfl | rfl | rfl | rfl | rfl <;> first | trivial | (simp [Dat.wf]; done) | simp [Dat.wf, cellsR_length]
theorem evVals_ok (r : E) (vrows : Value) : valsD (evVals r vrows).toList (evDat r) := by
  simp [evVals, evDat, valsD]
theorem evVals_in (r : E) (vrows : Value) : innerD (evVals r vrows).toList (evDat r) = [⟨vrows, 62, 10, r.rows.length, (cellsR r.rows)⟩] := rfl

/-- The inner rows read as they should. -/
def evIn (w : World) (r : E) (vrows : Value) : Prop := RowsArg w vrows r.rows
theorem evIn_below {w w' : World} {r : E} {vrows : Value} (h : evIn w r vrows) (hb : Below w.heap.size w w') : evIn w' r vrows := RowsArg.below h hb
/-- A call hands back such a record, its inner rows new. -/
def MadeEv (w : World) (r : E) (e : Ending) (w' : World) : Prop := ∃ vrows, e = .returned (.agg (evVals r vrows)) ∧ Heap w' w.heap.size [⟨vrows, 62, 10, r.rows.length, (cellsR r.rows)⟩] ∧ Below w.heap.size w w'
theorem info_Ev : (Try.prog.info? 56).map (fun i => (i.zero, i.size, i.bytes)) = some (some (.agg #[.int .i64 0, .int .i64 0, .int .i64 0, .int .i64 0, .int .i64 0, .string ⟨#[]⟩, .int .i64 0, .int .i64 0, .int .i64 0, .int .i64 0, .int .i64 0, .int .i64 0, .slice none 0 0]), 13, 128) := by kernel_rfl
theorem evZero_ok : valsD (#[.int .i64 0, .int .i64 0, .int .i64 0, .int .i64 0, .int .i64 0, .string ⟨#[]⟩, .int .i64 0, .int .i64 0, .int .i64 0, .int .i64 0, .int .i64 0, .int .i64 0, .slice none 0 0] : Array Value).toList (evDat zeroE) ∧ ∀ x ∈ innerD (#[.int .i64 0, .int .i64 0, .int .i64 0, .int .i64 0, .int .i64 0, .string ⟨#[]⟩, .int .i64 0, .int .i64 0, .int .i64 0, .int .i64 0, .int .i64 0, .int .i64 0, .slice none 0 0] : Array Value).toList (evDat zeroE), x.v = .slice none 0 0 ∧ x.n = 0 ∧ x.cs = [] := by
  refine ⟨by simp [valsD, evDat, zeroE, zeroO], ?_⟩
  intro x hx
  simp only [innerD, evDat, zeroE, List.mem_cons, List.not_mem_nil, or_false] at hx
  rcases hx with rfl <;> exact ⟨rfl, rfl, rfl⟩
/-- An element that lies somewhere: its cells. -/
theorem ev_at {w : World} {b o : Nat} {r : E} (h : EltAt evDat w b o r) : ∃ vrows, w.rangeAt b o (evVals r vrows).toList ∧ evIn w r vrows := by
  obtain ⟨_, q0, rfl⟩ := h 0 _ rfl
  obtain ⟨_, q1, rfl⟩ := h 1 _ rfl
  obtain ⟨_, q2, rfl⟩ := h 2 _ rfl
  obtain ⟨_, q3, rfl⟩ := h 3 _ rfl
  obtain ⟨_, q4, rfl⟩ := h 4 _ rfl
  obtain ⟨_, q5, rfl⟩ := h 5 _ rfl
  obtain ⟨_, q6, rfl⟩ := h 6 _ rfl
  obtain ⟨_, q7, rfl⟩ := h 7 _ rfl
  obtain ⟨_, q8, rfl⟩ := h 8 _ rfl
  obtain ⟨_, q9, rfl⟩ := h 9 _ rfl
  obtain ⟨_, q10, rfl⟩ := h 10 _ rfl
  obtain ⟨_, q11, rfl⟩ := h 11 _ rfl
  obtain ⟨vrows, q12, rrows⟩ := h 12 _ rfl
  refine ⟨vrows, ?_, reads_rows rrows⟩
  intro j v hv
  match j with
  | 0 => injection hv with hv; subst hv; exact q0
  | 1 => injection hv with hv; subst hv; exact q1
  | 2 => injection hv with hv; subst hv; exact q2
  | 3 => injection hv with hv; subst hv; exact q3
  | 4 => injection hv with hv; subst hv; exact q4
  | 5 => injection hv with hv; subst hv; exact q5
  | 6 => injection hv with hv; subst hv; exact q6
  | 7 => injection hv with hv; subst hv; exact q7
  | 8 => injection hv with hv; subst hv; exact q8
  | 9 => injection hv with hv; subst hv; exact q9
  | 10 => injection hv with hv; subst hv; exact q10
  | 11 => injection hv with hv; subst hv; exact q11
  | 12 => injection hv with hv; subst hv; exact q12
  | j + 13 => exact absurd (List.getElem?_eq_some_iff.1 hv).1 (by show ¬ j + 13 < 13; omega)
end Go.Proofs.Ytcfdnfckilpppaa
/-
  The exact laws' helpers on queues and on rows of queues: the copy, comparing two.
-/
namespace Go.Proofs.Ytcfdnfckilpppaa
open Go.RowKit M
set_option linter.unusedVariables false
set_option linter.unusedSimpArgs false
theorem info_Queue : (Try.prog.info? 90).map (fun i => (i.zero, i.size, i.bytes)) = some (some (.agg #[.slice none 0 0]), 1, 24) := by kernel_rfl
/-- A call hands back a queue whose operations lie in a new row. -/
def MadeQ (w : World) (l : List O) (e : Ending) (w' : World) : Prop := ∃ u, e = .returned (.agg #[u]) ∧ OwnF 53 4 opCells w' w.heap.size u l ∧ Below w.heap.size w w'
set_option maxRecDepth 100000 in
set_option maxHeartbeats 1000000 in
theorem toQueue_any (w : World) (v : Value) (l : List O) (h : RecsArg 4 opCells zeroO w v l) (hl : l.length ≤ 1048576) : Calls Try.prog 48 #[.agg #[v]] w (MadeQ w l) := by
  have HO := fun W h => Lib.hid (toOpS_any W v l h hl)
  have HV := Lib.hid h
  obtain ⟨A, cap, rfl, _, _, _⟩ := h
  generalize hn0 : l.length = n0 at *
  go_enter Try.func48, Try.ntmps48
  go_upto_region 2 with fail
  refine wp_gen (fun W => Blk W w.heap.size 84 #[.slice A n0 cap] ∧ Blk W (w.heap.size + 1) 90 #[.slice none 0 0] ∧ Blk W (w.heap.size + 2) 90 #[.slice none 0 0] ∧ Below w.heap.size w W)
    ⟨((Blk.new w _ _ _ rfl).alloc _).alloc _, (Blk.new _ _ _ _ (by simp [go_sem])).alloc _, Blk.new _ _ _ _ (by simp [go_sem]), (((Below.refl _ _).alloc (Nat.le_refl _) _).alloc (by simp [go_sem]) _).alloc (by simp [go_sem]; omega) _⟩ ?_
  rintro W ⟨h0, h1, h2, hb⟩
  have c0 := h0.get 0
  simp at c0
  have HC := Lib.hid (HO W (HV.out.below hb)).out
  have H1 := Lib.hid h1
  have H2 := Lib.hid h2
  have HB := Lib.hid hb
  clear h0 h1 h2 hb
  go_wp2_with fail
  refine HC.out.mono ?_
  rintro e w2 ⟨u, rfl, ho, hb2⟩
  obtain ⟨A2, cap2, rfl⟩ := ho.shape
  rw [hn0] at ho ⊢
  have G1 := H1.out.below hb2
  have G2 := H2.out.below hb2
  have c1 := G1.get 0
  have c2 := G2.get 0
  have f1 := G1.frz 0
  have f2 := G2.frz 0
  simp at c1 c2
  have HO2 := Lib.hid ho
  have HB2 := Lib.hid hb2
  clear ho hb2 c0
  go_wp2_with fail
  have HW := HB.out.size
  refine bodyPost_ret (v := .agg #[.slice A2 n0 cap2]) (by simp [results, Try.results48, go_sem, c1, c2]) rfl ⟨.slice A2 n0 cap2, rfl, ?_, ?_⟩
  · refine OwnF.base (b := W.heap.size) ?_ HW
    have k1 : ∀ k, (Value.slice A2 n0 cap2).ownBlock = some k → W.heap.size ≤ k := HO2.out.base_le
    have l1 := H1.out.lt
    have l2 := H2.out.lt
    refine OwnF.kept (row := some (w.heap.size + 1)) (OwnF.kept (row := some (w.heap.size + 2)) HO2.out (row_store G2 0 _) ?_) (row_store (G1.far _ _ _ (by omega)) 0 _) ?_
    · exact .inr (fun e => by have := k1 _ e; omega)
    · exact .inr (fun e => by have := k1 _ e; omega)
  · exact ((HB.out.trans (HB2.out.mono HW)).setCell (show w.heap.size ≤ w.heap.size + 2 by omega) _).setCell (show w.heap.size ≤ w.heap.size + 1 by omega) _
/-- Rows of queues, all of the call's own; read. -/
def OwnQ (w : World) (base : Nat) (v : Value) (ls : List (List O)) : Prop := OwnD 90 53 4 opCells w base v ls
def ArgQ (w : World) (v : Value) (ls : List (List O)) : Prop := ArgD 4 opCells zeroO w v ls
def MadeQS (w : World) (ls : List (List O)) (e : Ending) (w' : World) : Prop := ∃ v, e = .returned v ∧ OwnQ w' w.heap.size v ls ∧ Below w.heap.size w w'
theorem zipWith_snoc {α β γ : Type} (h : α → β → γ) (xs : List α) (ys : List β) (x : α) (y : β) (hl : xs.length = ys.length) : List.zipWith h (xs ++ [x]) (ys ++ [y]) = List.zipWith h xs ys ++ [h x y] := by
  induction xs generalizing ys with
  | nil => cases ys with
    | nil => rfl
    | cons b ys => simp at hl
  | cons a xs ih => cases ys with
    | nil => simp at hl
    | cons b ys => simp only [List.cons_append, List.zipWith_cons_cons]; rw [ih ys (by simpa using hl)]
theorem set_fill {α : Type} (vs : List α) (z u : α) (m : Nat) (h : 0 < m) : (vs ++ List.replicate m z).set vs.length u = (vs ++ [u]) ++ List.replicate (m - 1) z := by
  rw [List.set_append_right _ _ (Nat.le_refl _), Nat.sub_self]
  cases m with
  | zero => omega
  | succ m => simp [List.replicate_succ]
set_option maxRecDepth 100000 in
set_option maxHeartbeats 2000000 in
theorem toQueueS_any (w : World) (v : Value) (ls : List (List O)) (h : ArgQ w v ls) (hl : ls.length ≤ 1048576) (hi : ∀ j, j < ls.length → (ls.getD j []).length ≤ 1048576) :
    Calls Try.prog 30 #[v] w (MadeQS w ls) := by
  obtain ⟨i0, hi0, hz0, hz1, hz2⟩ := info_parts info_Queue
  obtain ⟨A, cap, rfl, h1, h2, h3⟩ := h
  have HTK := Lib.hid (List.take_length (l := ls))
  have HIL := Lib.hid hi
  have HSN := Lib.hid (fun j (hj : j < ls.length) => show ls.take (j + 1) = ls.take j ++ [ls.getD j []] by
    rw [List.take_add_one, List.getD_eq_getElem?_getD, List.getElem?_eq_getElem hj]; rfl)
  have HTL := Lib.hid (fun j (hj : j ≤ ls.length) => show (ls.take j).length = j by rw [List.length_take]; omega)
  generalize hn : ls.length = n at *
  have HN := Lib.hid hn
  have HC := Lib.hid h3
  clear hn h3 hi
  unfold maxLen at h2
  go_enter Try.func30, Try.ntmps30
  go_wp2_with (refine wpList_make_full _ rfl _ _ 32 rfl w.heap.size 90 i0 (.agg #[.slice none 0 0]) 1 Try.underlying32 hi0 hz0 hz1 .i64 .i64 _ _ n rfl rfl rfl rfl ?c1 ?c2 ?c3 ?_; rotate_left 3; intro w1 hown hg; have HO := Lib.hid hown; have HG := Lib.hid hg; clear hown hg)
  case c1 => rw [hz2]; omega
  case c2 => unfold maxLen; omega
  case c3 => exact Nat.le_refl _
  clear hi0 hz0 hz1 hz2
  go_loopw [4] (fun i wr => ∃ (j : Nat) (vs : List Value), j ≤ n ∧ i = .int .i64 j ∧ vs.length = j ∧ Heap wr w.heap.size (⟨.slice (some ⟨w.heap.size, 0, none⟩) n n, 90, 1, n, vs ++ List.replicate (n - j) (.slice none 0 0)⟩ :: inner 53 4 opCells vs (ls.take j)) ∧ Below w.heap.size w wr) (fun i _ => n - (intOf i).toNat)
  case atStart =>
    refine ⟨0, [], Nat.zero_le _, rfl, rfl, ?_, below_madeF HG.out⟩
    have := HO.out
    rw [show (madeCells (Value.agg #[.slice none 0 0]).cells (n * 1)).toList = List.replicate n (.slice none 0 0) from by rw [Nat.mul_one]; exact toList_madeCells_one _ _] at this
    exact Heap.one this
  case round =>
    obtain ⟨j, vs, hj, rfl, hvs, hh, hbl⟩ := hrel
    by_cases hlt : j < n
    · obtain ⟨b, off, hA, hb, hC⟩ := HC.out (by omega)
      obtain ⟨u0, hu0, ha0⟩ := hC j hlt
      have c0 := (hbl.cell (p := ⟨b, off + j, none⟩) hb).trans hu0
      have HQ := Lib.hid (toQueue_any wr u0 (ls.getD j []) (ha0.below hbl) (HIL.out j hlt))
      obtain ⟨A0, cap0, rfl, _, _, _⟩ := ha0
      subst hA
      have HH := Lib.hid hh
      have HB := Lib.hid hbl
      clear hh hbl hC hu0
      generalize (ls.getD j []).length = m0 at *
      have hjn : (j : Int) < (n : Int) := by omega
      go_wp2_with fail
      refine HQ.out.mono ?_
      rintro e w2 ⟨u, rfl, ho, hb2⟩
      obtain ⟨A2, cap2, rfl⟩ := ho.shape
      generalize hq : ls.getD j [] = q at *
      generalize hm2 : q.length = m2 at *
      have HQE := Lib.hid hq
      have HM2 := Lib.hid hm2
      clear hq hm2
      have HH2 := Lib.hid (HH.out.below hb2)
      have HB2 := Lib.hid (HB.out.trans (hb2.mono HB.out.size))
      have HO2 := Lib.hid ho
      have hr := HH2.out.own _ (List.mem_cons_self)
      obtain ⟨zz, cz⟩ := ownsRow_some hr j (show j < n * 1 by omega)
      have fz := World.ownsRow.frozenAt hr j
      clear ho hb2 hr
      go_wp2_with fail
      go_roundw
      case rel =>
        have hset := Heap.set (A := []) HH2.out j (.slice A2 m2 cap2)
        have hw := HH.out.lt (List.mem_cons_self) w.heap.size rfl
        have hu : OwnF 53 4 opCells (w2.setCell ⟨w.heap.size, j, none⟩ (.slice A2 m2 cap2)) wr.heap.size (.slice A2 m2 cap2) q := HO2.out.kept hset.2 (.inr (fun e => by have := HO2.out.base_le _ e; omega))
        have hjo := Heap.join hset.1 (Heap.one (r := ⟨.slice A2 m2 cap2, 53, 4, q.length, cellsF opCells q⟩) hu) HB.out.size (fun r hr b hb => by
          simp only [List.nil_append] at hr
          rcases List.mem_cons.1 hr with rfl | h2
          · have e : w.heap.size = b := Option.some.inj hb
            omega
          · exact HH.out.lt (List.mem_cons_of_mem _ h2) b hb)
        refine ⟨j + 1, vs ++ [.slice A2 m2 cap2], by omega, by go_num, by simp [hvs], ?_, HB2.out.setCell (Nat.le_refl _) _⟩
        have e1 := set_fill vs (.slice none 0 0) (.slice A2 m2 cap2) (n - j) (by omega)
        rw [hvs] at e1
        rw [show n - (j + 1) = n - j - 1 by omega, HSN.out j hlt, HQE.out]
        unfold inner
        rw [zipWith_snoc _ _ _ _ _ (by rw [hvs, HTL.out j (by omega)]), ← e1]
        exact hjo
      case measure => simp [intOf]; omega
    · have hjn : j = n := by omega
      subst hjn
      have HH2 := Lib.hid hh
      have HB2 := Lib.hid hbl
      clear hh hbl
      go_wp2_with fail
      go_ret
      refine ⟨_, rfl, ⟨vs, by rw [hvs, HN.out], ?_⟩, HB2.out⟩
      have := HH2.out
      rw [HTK.out, Nat.sub_self, List.replicate_zero, List.append_nil] at this
      rw [HN.out]
      exact this
set_option maxRecDepth 100000 in
theorem eqQueue_same (w : World) (v u : Value) (l : List O) (h : RecsArg 4 opCells zeroO w v l) (k : RecsArg 4 opCells zeroO w u l) : Calls Try.prog 51 #[.agg #[v], .agg #[u]] w (Gives (.bool true) w) := by
  have HE := fun W h k => Lib.hid (eqOpS_same W v u l h k)
  have HV := Lib.hid h
  have HU := Lib.hid k
  obtain ⟨A, cap, rfl, _, _, _⟩ := h
  obtain ⟨A', cap', rfl, _, _, _⟩ := k
  generalize l.length = n at *
  go_enter Try.func51, Try.ntmps51
  go_wp2_with fail
  have HB := Lib.hid (((Below.refl w.heap.size w).alloc (Nat.le_refl _) (.cells #[.slice A n cap] 90)).alloc (by simp [go_sem]) (.cells #[.slice A' n cap'] 90))
  refine (HE _ (HV.out.below HB.out) (HU.out.below HB.out)).out.mono ?_
  rintro e w2 ⟨rfl, hb2⟩
  have HB2 := Lib.hid (HB.out.trans (hb2.mono HB.out.size))
  clear hb2
  go_wp2_with fail
  go_ret
  exact ⟨rfl, HB2.out⟩
set_option maxRecDepth 100000 in
set_option maxHeartbeats 1000000 in
theorem eqQueueS_same (w : World) (v u : Value) (ls : List (List O)) (h : ArgQ w v ls) (k : ArgQ w u ls) : Calls Try.prog 35 #[v, u] w (Gives (.bool true) w) := by
  obtain ⟨A, cap, rfl, h1, h2, h3⟩ := h
  obtain ⟨A', cap', rfl, k1, k2, k3⟩ := k
  generalize hn : ls.length = n at *
  clear hn
  unfold maxLen at h2 k2
  have H4 := Lib.hid h3
  have K4 := Lib.hid k3
  clear h3 k3
  go_enter Try.func35, Try.ntmps35
  go_wp2_with fail
  go_loopw [5] (fun i wr => ∃ j : Nat, j ≤ n ∧ i = .int .i64 j ∧ Below w.heap.size w wr) (fun i _ => n - (intOf i).toNat)
  case atStart => exact ⟨0, Nat.zero_le _, rfl, Below.refl _ _⟩
  case round =>
    obtain ⟨j, hj, rfl, hbl⟩ := hrel
    by_cases hlt : j < n
    · obtain ⟨b, off, rfl, hb, hc⟩ := H4.out (by omega)
      obtain ⟨b', off', rfl, hb', hc'⟩ := K4.out (by omega)
      obtain ⟨p, hp, ha⟩ := hc j hlt
      obtain ⟨p', hp', ha'⟩ := hc' j hlt
      have HR := fun W h k => Lib.hid (eqQueue_same W p p' (ls.getD j []) h k)
      have HA := Lib.hid ha
      have HA' := Lib.hid ha'
      have HP := Lib.hid hp
      have HP' := Lib.hid hp'
      have HS := Lib.hid (show Below w.heap.size w wr.drew from hbl.trans (below_drew _ _))
      obtain ⟨B1, c1, rfl, _, _, _⟩ := ha
      obtain ⟨B2, c2, rfl, _, _, _⟩ := ha'
      clear hc hc' hbl hp hp'
      generalize ls.getD j [] = q at *
      generalize q.length = m0 at *
      have hjn : (j : Int) < (n : Int) := by omega
      go_wp2_with fail
      have HCL := (⟨HS.out⟩ : HoldsC (fun W => Below w.heap.size w W) _)
      have hall : ∀ p : Prop, (∀ W, HoldsC (fun W => Below w.heap.size w W) W → p) ↔ p := fun p => ⟨fun h => h _ HCL, fun h _ _ => h⟩
      refine wp_region_wq (C := HoldsC (fun W => Below w.heap.size w W)) (by kernel_rfl) (by kernel_rfl) HCL ?_
      repeat (refine WQ.step (fun K hK => ?_); go_simp; first | (refine hK _ ?_; clear hK K) | (apply Exists.intro; refine ⟨fun W hW => ?_, hK _ ?_⟩; (focus (first | (go_at_call 51; (with_reducible refine Calls.mono (Hid.out (HR _ (HA.out.below hW.out) (HA'.out.below hW.out))) ?_); rintro e w' ⟨rfl, hb'⟩; exact ⟨rfl, ⟨hW.out.trans (hb'.mono hW.out.size)⟩⟩) | exact rfl | (obtain hB := hW.out; have y0 := (hB.cell (p := ⟨b, off + j, none⟩) hb).trans HP.out; have y1 := (hB.cell (p := ⟨b', off' + j, none⟩) hb').trans HP'.out; go_simp; rfl))); clear hK K))
      refine WQ.nil ?_
      intro W hW
      obtain hB := hW.out; have y0 := (hB.cell (p := ⟨b, off + j, none⟩) hb).trans HP.out; have y1 := (hB.cell (p := ⟨b', off' + j, none⟩) hb').trans HP'.out
      clear hall HCL
      have HB := Lib.hid hW.out
      clear hW
      go_wp2_with fail
      go_roundw
      case rel => exact ⟨j + 1, by omega, by go_num, HB.out⟩
      case measure => simp [intOf]; omega
    · have HB := Lib.hid hbl
      clear hbl
      go_wp2_with fail
      go_ret
      exact ⟨rfl, HB.out⟩
/-- The budget behind queues. -/
def szQ1 (q : List O) (l : Int) : Int := if szVF (fun r : O => r.key.size) q l < 0 then -1 else szVF (fun r : O => r.key.size) q l
def szQL : List (List O) → Int → Int
  | [], l => l
  | q :: qs, l => if szVF (fun r : O => r.key.size) q l < 0 then -1 else szQL qs (szVF (fun r : O => r.key.size) q l)
def szQV (ls : List (List O)) (l : Int) : Int := if l - (ls.length : Int) < 0 then -1 else szQL ls (l - (ls.length : Int))
theorem szQL_drop (ls : List (List O)) (j : Nat) (hj : j < ls.length) (c : Int) : szQL (ls.drop j) c = if szVF (fun r : O => r.key.size) (ls.getD j []) c < 0 then -1 else szQL (ls.drop (j + 1)) (szVF (fun r : O => r.key.size) (ls.getD j []) c) := by
  rw [List.drop_eq_getElem_cons hj, List.getD_eq_getElem?_getD, List.getElem?_eq_getElem hj]
  rfl
theorem szVF_tot {q : List O} {l : Int} (h : 0 ≤ szVF (fun r : O => r.key.size) q l) : (q.length : Int) + szVF (fun r : O => r.key.size) q l ≤ l := by
  unfold szVF at *
  split at h
  · omega
  · rename_i h2
    rw [if_neg h2]
    rcases szLF_le (fun r : O => r.key.size) q (l - (q.length : Int)) with h3 | h3 <;> omega
theorem szQL_tot (ls : List (List O)) (l : Int) (h : 0 ≤ szQL ls l) (hl : 0 ≤ l) : ((ls.map List.length).sum : Int) + szQL ls l ≤ l := by
  induction ls generalizing l with
  | nil => simp [szQL]
  | cons q qs ih =>
    have e : szQL (q :: qs) l = if szVF (fun r : O => r.key.size) q l < 0 then -1 else szQL qs (szVF (fun r : O => r.key.size) q l) := rfl
    rw [e] at h ⊢
    by_cases h2 : szVF (fun r : O => r.key.size) q l < 0
    · rw [if_pos h2] at h; omega
    · rw [if_neg h2] at h ⊢
      have h3 := szVF_tot (q := q) (l := l) (by omega)
      have h4 := ih _ h (by omega)
      simp only [List.map_cons, List.sum_cons]
      omega
/-- A budget that holds out bounds the queues and what they hold. -/
theorem szQV_tot {ls : List (List O)} {l : Int} (h : 0 ≤ szQV ls l) : (ls.length : Int) + ((ls.map List.length).sum : Int) + szQV ls l ≤ l := by
  unfold szQV at *
  split at h
  · omega
  · rename_i h2
    rw [if_neg h2]
    have := szQL_tot ls (l - (ls.length : Int)) h (by omega)
    omega
def FitQ (ls : List (List O)) : Prop := ∀ j, j < ls.length → ∀ i, i < (ls.getD j []).length → ((ls.getD j []).getD i zeroO).Fit
set_option maxRecDepth 100000 in
theorem szQueue_any (w : World) (v : Value) (q : List O) (left : Int) (h : RecsArg 4 opCells zeroO w v q) (hk : ∀ j, j < q.length → (q.getD j zeroO).key.size ≤ maxLen) (h0 : 0 ≤ left) (h1 : left ≤ 1048576) :
    Calls Try.prog 46 #[.agg #[v], .int .i64 left] w (Gives (.int .i64 (szQ1 q left)) w) := by
  have HO := fun W h => Lib.hid (szOpS_any W v q left h hk h0 h1)
  have HV := Lib.hid h
  obtain ⟨A, cap, rfl, _, _, _⟩ := h
  generalize q.length = n0 at *
  have HB := Lib.hid ((Below.refl w.heap.size w).alloc (Nat.le_refl _) (.cells #[.slice A n0 cap] 84))
  by_cases hn : szVF (fun r : O => r.key.size) q left < 0
  · have E := Lib.hid (show szQ1 q left = -1 from if_pos hn)
    have d1 : decide (szVF (fun r : O => r.key.size) q left < 0) = true := decide_eq_true hn
    generalize szVF (fun r : O => r.key.size) q left = x at *
    go_enter Try.func46, Try.ntmps46
    go_wp2_with fail
    refine (HO _ (HV.out.below HB.out)).out.mono ?_
    rintro e w2 ⟨rfl, hb2⟩
    go_wp2_with fail
    go_ret
    exact ⟨ret_i E.out.symm, HB.out.trans (hb2.mono HB.out.size)⟩
  · have E := Lib.hid (show szQ1 q left = szVF (fun r : O => r.key.size) q left from if_neg hn)
    have d1 : decide (szVF (fun r : O => r.key.size) q left < 0) = false := decide_eq_false hn
    generalize szVF (fun r : O => r.key.size) q left = x at *
    go_enter Try.func46, Try.ntmps46
    go_wp2_with fail
    refine (HO _ (HV.out.below HB.out)).out.mono ?_
    rintro e w2 ⟨rfl, hb2⟩
    go_wp2_with fail
    go_ret
    exact ⟨ret_i E.out.symm, HB.out.trans (hb2.mono HB.out.size)⟩
set_option maxRecDepth 100000 in
set_option maxHeartbeats 1000000 in
theorem szQueueS_any (w : World) (v : Value) (ls : List (List O)) (left : Int) (h : ArgQ w v ls) (hk : FitQ ls) (h0 : 0 ≤ left) (h1 : left ≤ 1048576) :
    Calls Try.prog 26 #[v, .int .i64 left] w (Gives (.int .i64 (szQV ls left)) w) := by
  obtain ⟨A, cap, rfl, h2, h3, h4⟩ := h
  have HC := Lib.hid h4
  have HK := Lib.hid hk
  have HL := Lib.hid (fun j (hj : j < ls.length) => szQL_drop ls j hj)
  have HE := Lib.hid (show ls.drop ls.length = [] by simp)
  unfold maxLen at h3
  unfold FitQ at HK
  clear h4 hk
  by_cases hb : left - (ls.length : Int) < 0
  · have HV := Lib.hid (show szQV ls left = -1 from if_pos hb)
    have d1 : decide (left - (ls.length : Int) < 0) = true := decide_eq_true hb
    generalize ls.length = n at *
    go_enter Try.func26, Try.ntmps26
    go_wp2_with fail
    go_ret
    exact ⟨ret_i HV.out.symm, Below.refl _ _⟩
  · have HV := Lib.hid (show szQV ls left = szQL (ls.drop 0) (left - (ls.length : Int)) by unfold szQV; rw [if_neg hb, List.drop_zero])
    have d1 : decide (left - (ls.length : Int) < 0) = false := decide_eq_false hb
    have hn : ls.length ≤ 1048576 := by omega
    generalize hln : ls.length = n at *
    clear hln
    go_enter Try.func26, Try.ntmps26
    go_wp2_with fail
    go_loopw [1, 5] (fun c i wr => ∃ (j : Nat) (x : Int), j ≤ n ∧ i = .int .i64 j ∧ c = .int .i64 x ∧ 0 ≤ x ∧ x ≤ 1048576 ∧ szQL (ls.drop 0) (left - (n : Int)) = szQL (ls.drop j) x ∧ Below w.heap.size w wr) (fun _ i _ => n - (intOf i).toNat)
    case atStart => exact ⟨0, _, Nat.zero_le _, rfl, rfl, by omega, by omega, rfl, Below.refl _ _⟩
    case round =>
      obtain ⟨j, x, hj, rfl, rfl, hx0, hx1, he, hbl⟩ := hrel
      have HB := Lib.hid hbl
      have HX := Lib.hid he
      clear hbl he
      by_cases hlt : j < n
      · obtain ⟨b, off, hA, h3', hC⟩ := HC.out (by omega)
        obtain ⟨p, hp, ha⟩ := hC j hlt
        have c0 := (HB.out.cell (p := ⟨b, off + j, none⟩) h3').trans hp
        have HS := Lib.hid (HL.out j hlt x)
        have HR := Lib.hid (szQueue_any wr p (ls.getD j []) x (ha.below HB.out) (fun i hi => (HK.out j hlt i hi).key) hx0 hx1)
        have HT := Lib.hid (fun h => szVF_tot (q := ls.getD j []) (l := x) h)
        have HQ1 := Lib.hid (show szQ1 (ls.getD j []) x = if szVF (fun r : O => r.key.size) (ls.getD j []) x < 0 then -1 else szVF (fun r : O => r.key.size) (ls.getD j []) x from rfl)
        obtain ⟨A0, cap0, rfl, _, _, _⟩ := ha
        subst hA
        clear hC hp
        generalize ls.getD j [] = q at *
        generalize q.length = m0 at *
        have hjn : (j : Int) < (n : Int) := by omega
        by_cases hneg : szVF (fun r : O => r.key.size) q x < 0
        · rw [if_pos hneg] at HQ1 HS
          rw [HQ1.out] at HR
          go_wp2_with fail
          refine HR.out.mono ?_
          rintro e w2 ⟨rfl, hb2⟩
          go_wp2_with fail
          go_ret
          exact ⟨ret_i (by rw [HV.out, HX.out, HS.out]), HB.out.trans (hb2.mono HB.out.size)⟩
        · rw [if_neg hneg] at HQ1 HS
          rw [HQ1.out] at HR
          have ht := HT.out (by omega)
          have d2 : decide (szVF (fun r : O => r.key.size) q x < 0) = false := decide_eq_false hneg
          generalize szVF (fun r : O => r.key.size) q x = y at *
          go_wp2_with fail
          refine HR.out.mono ?_
          rintro e w2 ⟨rfl, hb2⟩
          go_wp2_with fail
          go_roundw
          case rel => exact ⟨j + 1, _, by omega, by go_num, rfl, by omega, by omega, by rw [HX.out, HS.out], HB.out.trans (hb2.mono HB.out.size)⟩
          case measure => simp [intOf]; omega
      · have hjn : j = n := by omega
        subst hjn
        go_wp2_with fail
        go_ret
        exact ⟨ret_i (by rw [HV.out, HX.out, HE.out]; rfl), HB.out⟩
end Go.Proofs.Ytcfdnfckilpppaa
/-
  The exact laws' marks on rows of queues, and the look whether they are held.
-/
namespace Go.Proofs.Ytcfdnfckilpppaa
open Go.RowKit M
set_option linter.unusedVariables false
set_option linter.unusedSimpArgs false
/-- Queues marked from k on; where the marks end. -/
def marksQ : Int → List (List O) → List (List O)
  | _, [] => []
  | k, q :: qs => marksOp k q.length :: marksQ (k + 4 * (q.length : Int)) qs
def endQ : Int → List (List O) → Int
  | k, [] => k
  | k, q :: qs => endQ (k + 4 * (q.length : Int)) qs
theorem marksQ_length (k : Int) (ls : List (List O)) : (marksQ k ls).length = ls.length := by
  induction ls generalizing k with
  | nil => rfl
  | cons q qs ih => simp only [marksQ, List.length_cons, ih]
theorem marksQ_snoc (k : Int) (ls : List (List O)) (q : List O) : marksQ k (ls ++ [q]) = marksQ k ls ++ [marksOp (endQ k ls) q.length] := by
  induction ls generalizing k with
  | nil => rfl
  | cons p ls ih => simp only [List.cons_append, marksQ, endQ, ih]
theorem endQ_snoc (k : Int) (ls : List (List O)) (q : List O) : endQ k (ls ++ [q]) = endQ k ls + 4 * (q.length : Int) := by
  induction ls generalizing k with
  | nil => rfl
  | cons p ls ih => simp only [List.cons_append, endQ, ih]
/-- How many operations there are. -/
def totQ (ls : List (List O)) : Nat := (ls.map List.length).sum
theorem endQ_tot (k : Int) (ls : List (List O)) : endQ k ls = k + 4 * (totQ ls : Int) := by
  induction ls generalizing k with
  | nil => simp [endQ, totQ]
  | cons q qs ih => simp only [endQ, ih, totQ, List.map_cons, List.sum_cons]; omega
theorem totQ_take (ls : List (List O)) (j : Nat) (hj : j < ls.length) : totQ (ls.take j) + (ls.getD j []).length ≤ totQ ls := by
  have e : ls = ls.take j ++ (ls.getD j [] :: ls.drop (j + 1)) := by
    rw [List.getD_eq_getElem?_getD, List.getElem?_eq_getElem hj, Option.getD_some, ← List.drop_eq_getElem_cons hj, List.take_append_drop]
  have : totQ ls = totQ (ls.take j) + ((ls.getD j []).length + totQ (ls.drop (j + 1))) := by
    conv => lhs; rw [e]
    simp [totQ]
  omega
def MarkedQ (w : World) (B E : Nat) (v : Value) (k : Int) (ls : List (List O)) (e : Ending) (w' : World) : Prop :=
  e = .returned (.int .i64 (endQ k ls)) ∧ OwnDE 90 53 4 opCells w' B E v (marksQ k ls) ∧ Chg (Within B E) w w'
set_option maxRecDepth 100000 in
set_option maxHeartbeats 4000000 in
theorem markQueueS_any (w : World) (B E : Nat) (v : Value) (ls : List (List O)) (k : Int) (h : OwnDE 90 53 4 opCells w B E v ls) (hl : ls.length ≤ 1048576) (ht : totQ ls ≤ 1048576) (hk0 : 1 ≤ k) (hk1 : k ≤ 900000000000) :
    Calls Try.prog 38 #[v, .int .i64 k] w (MarkedQ w B E v k ls) := by
  obtain ⟨vs, hvs, hh⟩ := h
  obtain ⟨A, cap, rfl⟩ : ∃ A cap, v = .slice A ls.length cap := by
    rcases (hh.1.own _ (List.mem_cons_self)).2 with ⟨e, h0⟩ | ⟨g, cap, cur, e, _⟩
    · have h00 : ls.length = 0 := h0
      exact ⟨none, 0, by rw [h00]; exact e⟩
    · exact ⟨_, cap, e⟩
  have HH := Lib.hid hh
  have HVS := Lib.hid hvs
  have HTT := Lib.hid (fun j (hj : j < ls.length) => totQ_take ls j hj)
  have HEJ := Lib.hid (fun j => endQ_tot k (ls.take j))
  have HTA := Lib.hid (List.take_length (l := ls))
  have HSN := Lib.hid (fun j (hj : j < ls.length) => show ls.take (j + 1) = ls.take j ++ [ls.getD j []] by
    rw [List.take_add_one, List.getD_eq_getElem?_getD, List.getElem?_eq_getElem hj]; rfl)
  have HDR := Lib.hid (fun j (hj : j < ls.length) => show ls.drop j = ls.getD j [] :: ls.drop (j + 1) by
    rw [List.drop_eq_getElem_cons hj, List.getD_eq_getElem?_getD, List.getElem?_eq_getElem hj]; rfl)
  have HMT := Lib.hid (fun j (hj : j ≤ ls.length) => show (marksQ k (ls.take j)).length = j by rw [marksQ_length, List.length_take]; omega)
  have HDL := Lib.hid (fun j => List.length_drop (i := j) (l := ls))
  generalize hn : ls.length = n at *
  have HNN := Lib.hid hn
  clear hn hh hvs
  go_enter Try.func38, Try.ntmps38
  go_wp2_with fail
  go_loopw [1, 5] (fun c i wr => ∃ j : Nat, j ≤ n ∧ i = .int .i64 j ∧ c = .int .i64 (endQ k (ls.take j)) ∧ HeapE wr B E (⟨.slice A n cap, 90, 1, n, vs⟩ :: inner 53 4 opCells vs (marksQ k (ls.take j) ++ ls.drop j)) ∧ Chg (Within B E) w wr) (fun _ i _ => n - (intOf i).toNat)
  case atStart => exact ⟨0, Nat.zero_le _, rfl, rfl, HH.out, Chg.refl _ _⟩
  case round =>
    obtain ⟨j, hj, rfl, rfl, hh, hc⟩ := hrel
    by_cases hlt : j < n
    · have hdr := HDR.out j hlt
      have htt := HTT.out j hlt
      have hej := HEJ.out j
      rw [hdr] at hh
      generalize hq : ls.getD j [] = q at *
      have HQ := Lib.hid hq
      clear hq hdr
      have hvj : j < vs.length := by have := HVS.out; omega
      have ev : vs = vs.take j ++ (vs.getD j undef :: vs.drop (j + 1)) := by
        rw [List.getD_eq_getElem?_getD, List.getElem?_eq_getElem hvj, Option.getD_some, ← List.drop_eq_getElem_cons hvj, List.take_append_drop]
      have hin : inner 53 4 opCells vs (marksQ k (ls.take j) ++ q :: ls.drop (j + 1)) = inner 53 4 opCells (vs.take j) (marksQ k (ls.take j)) ++ ⟨vs.getD j undef, 53, 4, q.length, cellsF opCells q⟩ :: inner 53 4 opCells (vs.drop (j + 1)) (ls.drop (j + 1)) := by
        conv => lhs; rw [ev]
        exact inner_cons _ _ _ _ _ _ (by rw [HMT.out j hj, List.length_take]; omega)
      rw [hin] at hh
      have ho := hh.1.own _ (List.mem_cons_self)
      obtain ⟨g, rfl⟩ : ∃ g, A = some ⟨g, 0, none⟩ := by
        rcases ho.2 with ⟨e, h0⟩ | ⟨g, cap', cur, e, _⟩
        · have h00 : n = 0 := h0
          omega
        · injection e with e1; exact ⟨g, e1⟩
      have cu := World.ownsRow.cellAt (w := wr) (size := 1) (xs := vs) ho j (show j < n * 1 by omega)
      rw [show vs[j]? = some (vs.getD j undef) by rw [List.getD_eq_getElem?_getD, List.getElem?_eq_getElem hvj]; rfl] at cu
      have hu : OwnOpF wr B (vs.getD j undef) q := hh.1.own _ (List.mem_cons_of_mem _ (List.mem_append_right _ (List.mem_cons_self)))
      have HM := Lib.hid (markOpS_any wr B (vs.getD j undef) q (endQ k (ls.take j)) hu (by omega) (by omega) (by omega))
      obtain ⟨A2, cap2, hA2⟩ := OwnF.shape hu
      have HH1 := Lib.hid hh
      have HC1 := Lib.hid hc
      have HEV := Lib.hid ev
      clear hh hc ho hu hin ev
      generalize vs.getD j undef = u at *
      subst hA2
      generalize hm2 : q.length = m2 at *
      have HM2 := Lib.hid hm2
      clear hm2
      have HEQ := Lib.hid (endQ_snoc k (ls.take j) q)
      have HMS := Lib.hid (marksQ_snoc k (ls.take j) q)
      have kb0 : 1 ≤ endQ k (ls.take j) := by rw [hej]; omega
      have kb1 : endQ k (ls.take j) ≤ 1000000000000 := by rw [hej]; omega
      clear hej
      generalize endQ k (ls.take j) = kk at *
      have hjn : (j : Int) < (n : Int) := by omega
      go_wp2_with fail
      refine HM.out.mono ?_
      rintro e w2 ⟨rfl, ho2, hg2⟩
      have HO2 := Lib.hid ho2
      have HG2 := Lib.hid hg2
      clear ho2 hg2
      go_wp2_with fail
      go_roundw
      case rel =>
        have hmem : (⟨.slice A2 m2 cap2, 53, 4, m2, cellsF opCells q⟩ : Rw) ∈ ((⟨.slice (some ⟨g, 0, none⟩) n cap, 90, 1, n, vs⟩ : Rw) :: (inner 53 4 opCells (vs.take j) (marksQ k (ls.take j)) ++ ⟨.slice A2 m2 cap2, 53, 4, m2, cellsF opCells q⟩ :: inner 53 4 opCells (vs.drop (j + 1)) (ls.drop (j + 1)))) :=
          List.mem_cons_of_mem _ (List.mem_append_right _ (List.mem_cons_self))
        have ht := Heap.turn (A := (⟨.slice (some ⟨g, 0, none⟩) n cap, 90, 1, n, vs⟩ : Rw) :: inner 53 4 opCells (vs.take j) (marksQ k (ls.take j))) (r' := ⟨.slice A2 m2 cap2, 53, 4, (marksOp kk m2).length, cellsF opCells (marksOp kk m2)⟩) HH1.out.1 HG2.out HO2.out (.inl rfl)
        have hE : ∀ r ∈ ((⟨.slice (some ⟨g, 0, none⟩) n cap, 90, 1, n, vs⟩ : Rw) :: (inner 53 4 opCells (vs.take j) (marksQ k (ls.take j)) ++ ⟨.slice A2 m2 cap2, 53, 4, (marksOp kk m2).length, cellsF opCells (marksOp kk m2)⟩ :: inner 53 4 opCells (vs.drop (j + 1)) (ls.drop (j + 1)))), ∀ k, r.v.ownBlock = some k → k < E := by
          intro r hr b hb
          rcases List.mem_cons.1 hr with rfl | h1
          · exact HH1.out.2 _ (List.mem_cons_self) b hb
          · rcases List.mem_append.1 h1 with h2 | h2
            · exact HH1.out.2 r (List.mem_cons_of_mem _ (List.mem_append_left _ h2)) b hb
            · rcases List.mem_cons.1 h2 with rfl | h3
              · exact HH1.out.2 _ hmem b hb
              · exact HH1.out.2 r (List.mem_cons_of_mem _ (List.mem_append_right _ (List.mem_cons_of_mem _ h3))) b hb
        have hin2 : inner 53 4 opCells vs (marksQ k (ls.take (j + 1)) ++ ls.drop (j + 1)) = inner 53 4 opCells (vs.take j) (marksQ k (ls.take j)) ++ ⟨.slice A2 m2 cap2, 53, 4, (marksOp kk m2).length, cellsF opCells (marksOp kk m2)⟩ :: inner 53 4 opCells (vs.drop (j + 1)) (ls.drop (j + 1)) := by
          rw [HSN.out j hlt, HQ.out, HMS.out, HM2.out, List.append_assoc]
          conv => lhs; rw [HEV.out]
          exact inner_cons _ _ _ _ _ _ (by rw [HMT.out j hj, List.length_take]; omega)
        refine ⟨j + 1, by omega, by go_num, ?_, ?_, ?_⟩
        · rw [HSN.out j hlt, HQ.out, HEQ.out, HM2.out]
        · rw [hin2]; exact ⟨ht, hE⟩
        · exact HC1.out.trans (Chg.of_grown HG2.out (fun i e => ⟨HH1.out.1.base_le hmem i e, HH1.out.2 _ hmem i e⟩))
      case measure => simp [intOf]; omega
    · have hjn : j = n := by omega
      subst hjn
      have HH1 := Lib.hid hh
      have HC1 := Lib.hid hc
      clear hh hc
      rw [HTA.out] at HH1 ⊢
      generalize hee : endQ k ls = ee at *
      have HEE := Lib.hid hee
      clear hee
      go_wp2_with fail
      go_ret
      refine ⟨by rw [HEE.out]; rfl, ⟨vs, by rw [marksQ_length, HNN.out]; exact HVS.out, ?_⟩, HC1.out⟩
      have := HH1.out
      rw [show ls.drop j = [] from by rw [← HNN.out]; simp, List.append_nil] at this
      rw [marksQ_length, HNN.out]
      exact this
theorem marksQ_getD (k : Int) (ls : List (List O)) (j : Nat) (hj : j < ls.length) : (marksQ k ls).getD j [] = marksOp (endQ k (ls.take j)) (ls.getD j []).length := by
  induction ls generalizing k j with
  | nil => simp at hj
  | cons q qs ih =>
    cases j with
    | zero => rfl
    | succ j =>
      have := ih (k + 4 * (q.length : Int)) j (by simpa using hj)
      simpa [marksQ, endQ] using this
end Go.Proofs.Ytcfdnfckilpppaa
/-
  An argument that is a row of rows, opened: some rows each of whose fields fits its type.
-/
namespace Go.Proofs.Ytcfdnfckilpppaa
open Go.ChangeShapes Go.WideShapes Go.Deep Go.RowKit M
set_option linter.unusedVariables false
def FitR (rs : List R) : Prop := ∀ j, j < rs.length → (rs.getD j zeroR).Fit
theorem FitR.key {rs : List R} (h : FitR rs) : ∀ j, j < rs.length → (rs.getD j zeroR).key.size ≤ maxLen := fun j hj => (h j hj).key
instance : Inhabited R := ⟨zeroR⟩
set_option maxRecDepth 100000 in
theorem open_rows {H : Type} {enc : TypeId × Value → H} {w : World} {base : Nat} {spare : Nat → Bool} {held : Bool} {fuel : Nat} {A : Option Addr} {len cap : Nat} {x : DataW H × List MemPlace}
    (h : DataW.trod enc Try.prog w base spare held fuel 73 [.slice A len cap] = some x) : ∃ rs, RowsArg w (.slice A len cap) rs ∧ FitR rs := by
  have hC : Try.prog.cellsOf 106 = 10 := by kernel_rfl
  rcases open_slice Try.underlying73 h with ⟨hcs, _⟩ | ⟨a, l, c, m, n, D, Pl, hcs, _, hl, hm, hmm, _, hi⟩
  · simp at hcs
    obtain ⟨rfl, rfl, rfl⟩ := hcs
    exact ⟨[], RowsArg.nil _, fun j hj => by simp at hj⟩
  · simp at hcs
    obtain ⟨rfl, rfl, rfl⟩ := hcs
    have hle : len ≤ m := by rw [hmm]; split <;> omega
    rw [hC] at hi
    have hr : ∀ i, i < len → ∃ r : R, r.Fit ∧ ∀ k, k < 10 → w.cell? ((a.add (i * 10)).add k) = (rowCells r)[k]? := fun i him => by
      obtain ⟨cs', hc, ht⟩ := hi i (by omega)
      obtain ⟨_, hcl, hat⟩ := World.cells?_some hc
      obtain ⟨r, hr, hf⟩ := read_row hcl ht
      refine ⟨r, hf, fun k hk => ?_⟩
      rw [hat k hk, hr, Array.getElem?_toList]
    obtain ⟨f, hf⟩ := choose_lt hr
    have hg : ∀ j, j < len → ((List.range len).map f).getD j zeroR = f j := fun j hj => by simp [List.getD_eq_getElem?_getD, hj]
    have hln : ((List.range len).map f).length = len := by simp
    refine ⟨(List.range len).map f, ⟨some a, cap, by rw [hln], by rw [hln]; exact hl, hm, fun hp => ?_⟩, fun j hj => ?_⟩
    · rw [hln] at hp
      obtain ⟨b, off, spot⟩ := a
      have h0 := (hf 0 hp).2 0 (by decide)
      have hspot : spot = none := by simpa [Addr.add] using World.cell?_spot h0
      subst hspot
      refine ⟨b, off, rfl, by simpa [Addr.add] using World.block_lt_of_cell? w _ h0, fun j hj k hk => ?_⟩
      rw [hln] at hj
      rw [hg j hj, ← (hf j hj).2 k hk, add_add]
      congr 1
      unfold Addr.add
      split
      · simp_all
      · simp [Nat.add_assoc]
    · rw [hln] at hj
      rw [hg j hj]
      exact (hf j hj).1
end Go.Proofs.Ytcfdnfckilpppaa
