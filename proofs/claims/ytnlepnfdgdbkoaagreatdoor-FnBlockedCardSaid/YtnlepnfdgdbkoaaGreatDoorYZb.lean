/-
  Texts of this seat, laid together.
-/
import Derived.Test.YtnlepnfdgdbkoaaGreatDoorYMd
import Derived.Test.YtnlepnfdgdbkoaaGreatDoorYZa
import Derived.Shelf.Slices.Empties2
import Derived.Test.YtnlepnfdgdbkoaaGreatDoorRows
import Derived.OpenShut
import Derived.Deep.Slices
import Derived.Ground.SlgnProg
import Derived.Shelf.Strings.Trim
import Derived.Shelf.Strings.Runes
import Derived.Shelf.Unicode.Decode
import Derived.Deep.QuietTactic
import Derived.Ground.Names2Prog
import Derived.Laws.Cover1
import Derived.Laws.Externs
import Derived.Shelf.Unicode.DecodeAny
import Derived.Shelf.Small.Strs
import Derived.Shelf.Slices.Equal
import Derived.Shelf.SlicesE.Clone
import Derived.Shelf.Unicode.DecodeSlow
import Derived.Shelf.Strings.Search1
import Derived.BigQuiet
import Derived.BigFrame
import Derived.Deep.Cut
import Derived.BigGuardPart
import Derived.Shelf.Slices.Clone
import Derived.Lib.Bytealg
import Derived.Deep.RegionHeld3
import Derived.OwnWalk
import Derived.LaidLaws
import Derived.ProofKit
import Derived.Deep.Fields
import Derived.Deep.DeepWitnessRowRef
import Derived.MakeChecks
import Derived.WalkKit
import Derived.Deep.DeepHandedRow
import Derived.Test.YtnlepnfdgdbkoaaGreatDoorProg
import Derived.Shelf.Strings.AsciiSet
import Derived.Lib.Strings
import Derived.Shelf.Small.Utf8
import Derived.KernelRfl
import Derived.LaidSub
namespace Go.Proofs.YtnlepnfdgdbkoaaGreatDoor
open Go.RowKit M
set_option linter.unusedVariables false
set_option linter.unusedSimpArgs false
theorem info_Queue : (Tryz.prog.info? 46).map (fun i => (i.zero, i.size, i.bytes)) = some (some (.agg #[.slice none 0 0]), 1, 24) := by kernel_rfl
def OwnQ (w : World) (base : Nat) (v : Value) (ls : List (List O)) : Prop := OwnD 46 36 4 opCells w base v ls
def ArgQ (w : World) (v : Value) (ls : List (List O)) : Prop := ArgD 4 opCells zeroO w v ls
def MadeQS (w : World) (ls : List (List O)) (e : Ending) (w' : World) : Prop := ∃ v, e = .returned v ∧ OwnQ w' w.heap.size v ls ∧ Below w.heap.size w w'
theorem zipWith_snoc {α β γ : Type} (h : α → β → γ) (xs : List α) (ys : List β) (x : α) (y : β) (hl : xs.length = ys.length) : List.zipWith h (xs ++ [x]) (ys ++ [y]) = List.zipWith h xs ys ++ [h x y] := by
  induction xs generalizing ys with
  | nil => cases ys with
    | nil => rfl
    | cons b ys => simp at hl
  | cons a xs ih => cases ys with
    | nil => simp at hl
    | cons b ys => simp only [List.cons_append, List.zipWith_cons_cons]; rw [ih ys (by simpa using hl)]
theorem set_fill {α : Type} (vs : List α) (z u : α) (m : Nat) (h : 0 < m) : (vs ++ List.replicate m z).set vs.length u = (vs ++ [u]) ++ List.replicate (m - 1) z := by
  rw [List.set_append_right _ _ (Nat.le_refl _), Nat.sub_self]
  cases m with
  | zero => omega
  | succ m => simp [List.replicate_succ]
def FitQ (ls : List (List O)) : Prop := ∀ j, j < ls.length → ∀ i, i < (ls.getD j []).length → ((ls.getD j []).getD i zeroO).Fit
end Go.Proofs.YtnlepnfdgdbkoaaGreatDoor
namespace Go.Proofs.YtnlepnfdgdbkoaaGreatDoor
open Go.RowKit M
set_option linter.unusedVariables false
def Row10 (w : World) (b o : Nat) (r : R) : Prop := ∀ k, k < 10 → w.cell? ⟨b, o + k, none⟩ = (rowCells r)[k]?
theorem Row10.get {w : World} {b o : Nat} {r : R} (h : Row10 w b o r) :
    w.cell? ⟨b, o, none⟩ = some (.string r.key) ∧ w.cell? ⟨b, o + 1, none⟩ = some (.int .i64 r.kind) ∧ w.cell? ⟨b, o + 2, none⟩ = some (.int .i64 r.sum) ∧ w.cell? ⟨b, o + 3, none⟩ = some (.bool r.set) ∧ w.cell? ⟨b, o + 4, none⟩ = some (.int .i64 r.last) ∧
    w.cell? ⟨b, o + 5, none⟩ = some (.int .i64 r.n) ∧ w.cell? ⟨b, o + 6, none⟩ = some (.int .i64 r.mn) ∧ w.cell? ⟨b, o + 7, none⟩ = some (.int .i64 r.mx) ∧ w.cell? ⟨b, o + 8, none⟩ = some (.int .i64 r.total) ∧ w.cell? ⟨b, o + 9, none⟩ = some (.int .i64 r.dropped) :=
  ⟨h 0 (by decide), h 1 (by decide), h 2 (by decide), h 3 (by decide), h 4 (by decide), h 5 (by decide), h 6 (by decide), h 7 (by decide), h 8 (by decide), h 9 (by decide)⟩
theorem Row10.below {w w' : World} {b o : Nat} {r : R} (h : Row10 w b o r) (hlt : b < w.heap.size) (hb : Below w.heap.size w w') : Row10 w' b o r :=
  fun k hk => (hb.cell (p := ⟨b, o + k, none⟩) hlt).trans (h k hk)
def RowsArg (w : World) (v : Value) (rs : List R) : Prop :=
  ∃ A cap, v = .slice A rs.length cap ∧ rs.length ≤ cap ∧ cap ≤ maxLen ∧ (0 < rs.length → ∃ b off, A = some ⟨b, off, none⟩ ∧ b < w.heap.size ∧ ∀ j, j < rs.length → Row10 w b (off + j * 10) (rs.getD j zeroR))
theorem RowsArg.below {w w' : World} {v : Value} {rs : List R} (h : RowsArg w v rs) (hb : Below w.heap.size w w') : RowsArg w' v rs := by
  obtain ⟨A, cap, e, h1, h2, h3⟩ := h
  refine ⟨A, cap, e, h1, h2, fun hp => ?_⟩
  obtain ⟨b, off, ea, h4, h5⟩ := h3 hp
  exact ⟨b, off, ea, Nat.lt_of_lt_of_le h4 hb.size, fun j hj => (h5 j hj).below h4 hb⟩
theorem RowsArg.nil (w : World) : RowsArg w (.slice none 0 0) [] := ⟨none, 0, rfl, Nat.zero_le _, Nat.zero_le _, fun h => absurd h (by simp)⟩
def cellsR (rs : List R) : List Value := rs.flatMap fun r => (rowCells r).toList
theorem cells10 (r : R) : (rowCells r).toList.length = 10 := rfl
theorem cellsR_length (rs : List R) : (cellsR rs).length = rs.length * 10 := by
  induction rs with
  | nil => rfl
  | cons r rs ih => simp only [cellsR, List.flatMap_cons, List.length_append, List.length_cons] at *; rw [ih, cells10]; omega
theorem cellsR_append (xs ys : List R) : cellsR (xs ++ ys) = cellsR xs ++ cellsR ys := by simp [cellsR]
theorem cellsR_at (rs : List R) (j k : Nat) (hj : j < rs.length) (hk : k < 10) : (cellsR rs)[j * 10 + k]? = (rowCells (rs.getD j zeroR))[k]? := by
  induction rs generalizing j with
  | nil => simp at hj
  | cons r rs ih =>
    show ((rowCells r).toList ++ cellsR rs)[j * 10 + k]? = _
    cases j with
    | zero => rw [List.getElem?_append_left (by rw [cells10]; omega)]; simp
    | succ j =>
      rw [List.getElem?_append_right (by rw [cells10]; omega), cells10, show (j + 1) * 10 + k - 10 = j * 10 + k by omega, ih j (by simpa using hj)]
      simp
theorem cellsR_one (rs : List R) : ∀ u ∈ cellsR rs, u.oneCell' = true := by
  intro u hu
  obtain ⟨r, _, hr⟩ := List.mem_flatMap.1 hu
  simp [rowCells] at hr
  rcases hr with rfl | rfl | rfl | rfl | rfl | rfl | rfl | rfl | rfl | rfl <;> rfl
def OwnR (w : World) (base : Nat) (v : Value) (rs : List R) : Prop := w.ownsRow base 55 10 v rs.length (cellsR rs)
theorem OwnR.alloc {w : World} {base : Nat} {v : Value} {rs : List R} (h : OwnR w base v rs) (o : Obj) : OwnR (w.alloc o) base v rs := World.ownsRow.alloc h o
theorem OwnR.kept {w w' : World} {base : Nat} {v : Value} {rs : List R} {row : Option Nat} (h : OwnR w base v rs) (hg : w.grownBy w' row) (hne : v.ownBlock = none ∨ v.ownBlock ≠ row) : OwnR w' base v rs := World.ownsRow.kept h hg hne
theorem OwnR.base_le {w : World} {base : Nat} {v : Value} {rs : List R} (h : OwnR w base v rs) : ∀ k, v.ownBlock = some k → base ≤ k := fun k hk => (World.ownsRow.lt h k hk).1
theorem OwnR.below {w w' : World} {base : Nat} {v : Value} {rs : List R} (h : OwnR w base v rs) (hb : Below w.heap.size w w') : OwnR w' base v rs :=
  h.kept (row := none) ⟨hb.os, hb.tape, hb.output, hb.size, fun i hi _ => hb.block i hi⟩ (by cases v.ownBlock <;> simp)
theorem OwnR.arg {w : World} {base : Nat} {v : Value} {rs : List R} (h : OwnR w base v rs) : RowsArg w v rs := by
  have h' := h
  rcases h.2 with ⟨rfl, h0⟩ | ⟨g, cap, cur, rfl, hb, hg, hn, hm, hc, ht⟩
  · exact ⟨none, 0, by rw [h0], by omega, Nat.zero_le _, fun h => by omega⟩
  · refine ⟨_, cap, rfl, hn, hm, fun _ => ⟨g, 0, rfl, (World.ownsRow.lt h' g rfl).2, fun j hj k hk => ?_⟩⟩
    rw [Nat.zero_add, World.ownsRow.cellAt h' (j * 10 + k) (by omega), cellsR_at rs j k hj hk]
theorem OwnR.at {w : World} {base g n cap : Nat} {rs : List R} (h : OwnR w base (.slice (some ⟨g, 0, none⟩) n cap) rs) (hn : rs.length = n) (j : Nat) (hj : j < n) : Row10 w g (j * 10) (rs.getD j zeroR) := by
  subst hn
  exact fun k hk => by rw [World.ownsRow.cellAt h (j * 10 + k) (by omega), cellsR_at rs j k hj hk]
theorem OwnR.frz {w : World} {base g n cap : Nat} {rs : List R} (h : OwnR w base (.slice (some ⟨g, 0, none⟩) n cap) rs) (hn : rs.length = n) (j : Nat) : w.frozen? ⟨g, j, none⟩ = false := by
  subst hn
  exact World.ownsRow.frozenAt h j
def put10 (w : World) (g o : Nat) (r : R) : World :=
  (((((((((w.setCell ⟨g, o, none⟩ (.string r.key)).setCell ⟨g, o + 1, none⟩ (.int .i64 r.kind)).setCell ⟨g, o + 2, none⟩ (.int .i64 r.sum)).setCell ⟨g, o + 3, none⟩ (.bool r.set)).setCell ⟨g, o + 4, none⟩ (.int .i64 r.last)).setCell ⟨g, o + 5, none⟩ (.int .i64 r.n)).setCell ⟨g, o + 6, none⟩ (.int .i64 r.mn)).setCell ⟨g, o + 7, none⟩ (.int .i64 r.mx)).setCell ⟨g, o + 8, none⟩ (.int .i64 r.total)).setCell ⟨g, o + 9, none⟩ (.int .i64 r.dropped)
theorem set_append {α : Type} (la bs cs : List α) (i : Nat) (x : α) (hi : i < bs.length) : (la ++ (bs ++ cs)).set (la.length + i) x = la ++ (bs.set i x ++ cs) := by
  rw [List.set_append_right _ _ (by omega), Nat.add_sub_cancel_left, List.set_append_left _ _ hi]
theorem cellsR_set (rs : List R) (j : Nat) (r : R) (hj : j < rs.length) :
    (((((((((((cellsR rs).set (j * 10) (.string r.key)).set (j * 10 + 1) (.int .i64 r.kind)).set (j * 10 + 2) (.int .i64 r.sum)).set (j * 10 + 3) (.bool r.set)).set (j * 10 + 4) (.int .i64 r.last)).set (j * 10 + 5) (.int .i64 r.n)).set (j * 10 + 6) (.int .i64 r.mn)).set (j * 10 + 7) (.int .i64 r.mx)).set (j * 10 + 8) (.int .i64 r.total)).set (j * 10 + 9) (.int .i64 r.dropped)) = cellsR (rs.set j r) := by
  have e : rs = rs.take j ++ (rs.getD j zeroR :: rs.drop (j + 1)) := by
    rw [List.getD_eq_getElem?_getD, List.getElem?_eq_getElem hj, Option.getD_some, ← List.drop_eq_getElem_cons hj, List.take_append_drop]
  generalize rs.getD j zeroR = z at e
  have e2 : rs.set j r = rs.take j ++ (r :: rs.drop (j + 1)) := by
    conv => lhs; rw [e]
    rw [List.set_append_right _ _ (by rw [List.length_take]; omega), List.length_take, show j - min j rs.length = 0 by omega, List.set_cons_zero]
  have e3 : cellsR rs = cellsR (rs.take j) ++ ((rowCells z).toList ++ cellsR (rs.drop (j + 1))) := by
    conv => lhs; rw [e]
    rw [cellsR_append]; rfl
  have e4 : cellsR (rs.set j r) = cellsR (rs.take j) ++ ((rowCells r).toList ++ cellsR (rs.drop (j + 1))) := by rw [e2, cellsR_append]; rfl
  have e5 : (cellsR (rs.take j)).length = j * 10 := by rw [cellsR_length, List.length_take]; omega
  rw [e3, e4, ← e5]
  have S := fun (bs : List Value) (i : Nat) (x : Value) (hi : i < bs.length) => set_append (cellsR (rs.take j)) bs (cellsR (rs.drop (j + 1))) i x hi
  have S0 := fun (bs : List Value) (x : Value) (hi : 0 < bs.length) => S bs 0 x hi
  simp only [Nat.add_zero] at S0
  rw [S0 _ _ (by simp [rowCells]), S _ 1 _ (by simp [rowCells]), S _ 2 _ (by simp [rowCells]), S _ 3 _ (by simp [rowCells]), S _ 4 _ (by simp [rowCells]), S _ 5 _ (by simp [rowCells]), S _ 6 _ (by simp [rowCells]), S _ 7 _ (by simp [rowCells]), S _ 8 _ (by simp [rowCells]), S _ 9 _ (by simp [rowCells])]
  rfl
theorem grownR_trans {a b c : World} {o : Option Nat} (h : a.grownBy b o) (k : b.grownBy c o) : a.grownBy c o :=
  ⟨k.os.trans h.os, k.tape.trans h.tape, k.output.trans h.output, Nat.le_trans h.size k.size, fun i hi hne => (k.block i (Nat.lt_of_lt_of_le hi h.size) hne).trans (h.block i hi hne)⟩
theorem OwnR.put {w : World} {base g n cap : Nat} {rs : List R} (h : OwnR w base (.slice (some ⟨g, 0, none⟩) n cap) rs) (hn : rs.length = n) (j : Nat) (hj : j < n) (r : R) :
    OwnR (put10 w g (j * 10) r) base (.slice (some ⟨g, 0, none⟩) n cap) (rs.set j r) ∧ w.grownBy (put10 w g (j * 10) r) (some g) := by
  subst hn
  have h0 := World.ownsRow.stored h (j * 10) (.string r.key)
  have h1 := World.ownsRow.stored h0.1 (j * 10 + 1) (.int .i64 r.kind)
  have h2 := World.ownsRow.stored h1.1 (j * 10 + 2) (.int .i64 r.sum)
  have h3 := World.ownsRow.stored h2.1 (j * 10 + 3) (.bool r.set)
  have h4 := World.ownsRow.stored h3.1 (j * 10 + 4) (.int .i64 r.last)
  have h5 := World.ownsRow.stored h4.1 (j * 10 + 5) (.int .i64 r.n)
  have h6 := World.ownsRow.stored h5.1 (j * 10 + 6) (.int .i64 r.mn)
  have h7 := World.ownsRow.stored h6.1 (j * 10 + 7) (.int .i64 r.mx)
  have h8 := World.ownsRow.stored h7.1 (j * 10 + 8) (.int .i64 r.total)
  have h9 := World.ownsRow.stored h8.1 (j * 10 + 9) (.int .i64 r.dropped)
  refine ⟨?_, grownR_trans (grownR_trans (grownR_trans (grownR_trans (grownR_trans (grownR_trans (grownR_trans (grownR_trans (grownR_trans h0.2 h1.2) h2.2) h3.2) h4.2) h5.2) h6.2) h7.2) h8.2) h9.2⟩
  unfold OwnR
  rw [List.length_set, ← cellsR_set rs j r hj]
  exact h9.1
def MadeR (w : World) (rs : List R) (e : Ending) (w' : World) : Prop := ∃ v, e = .returned v ∧ OwnR w' w.heap.size v rs ∧ Below w.heap.size w w'
theorem info_row : (Tryz.prog.info? 55).map (fun i => (i.zero, i.size, i.bytes)) = some (some zeroR.v, 10, 88) := by kernel_rfl
end Go.Proofs.YtnlepnfdgdbkoaaGreatDoor
namespace Go.Proofs.YtnlepnfdgdbkoaaGreatDoor
open Go.RowKit M
set_option linter.unusedVariables false
theorem reads_ints {w : World} {v : Value} {zs : List Int} (h : (Dat.row 3 1 zs.length (zs.map (Value.int .i64))).reads w v) : IntsArg w v zs := by
  obtain ⟨_, A, cap, e, h1, h2, h3⟩ := h
  refine ⟨A, cap, e, h1, h2, fun hp => ?_⟩
  obtain ⟨b, off, ea, h4, h5⟩ := h3 hp
  refine ⟨b, off, ea, h4, fun j hj => ?_⟩
  rw [h5 j (by omega), List.getElem?_map, List.getElem?_eq_getElem hj, List.getD_eq_getElem?_getD, List.getElem?_eq_getElem hj]
  rfl
def jobDat (r : J) : List Dat := [.val (.bool r.busy), .val (.int .i64 r.op.kind), .val (.string r.op.key), .val (.int .i64 r.op.what), .val (.int .i64 r.op.val), .val (.int .i64 r.serial), .val (.int .i64 r.pc), .val (.int .i64 r.k), .val (.int .i64 r.slot), .val (.int .i64 r.what), .val (.int .i64 r.e), .val (.int .i64 r.stamp), .val (.int .i64 r.old), .val (.int .i64 r.flips), .val (.int .i64 r.steps), .val (.int .i64 r.code), .row 3 1 r.keys.length (r.keys.map (Value.int .i64)), .row 3 1 r.raw.length (r.raw.map (Value.int .i64))]
def jobVals (r : J) (vkeys vraw : Value) : Array Value := #[.bool r.busy, .int .i64 r.op.kind, .string r.op.key, .int .i64 r.op.what, .int .i64 r.op.val, .int .i64 r.serial, .int .i64 r.pc, .int .i64 r.k, .int .i64 r.slot, .int .i64 r.what, .int .i64 r.e, .int .i64 r.stamp, .int .i64 r.old, .int .i64 r.flips, .int .i64 r.steps, .int .i64 r.code, vkeys, vraw]
theorem jobDat_len (r : J) : (jobDat r).length = 18 := rfl
theorem jobDat_wf (r : J) : ∀ d ∈ jobDat r, d.wf := by
  intro d hd
  simp only [jobDat, List.mem_cons, List.not_mem_nil, or_false] at hd
  rcases hd with rfl | rfl | rfl | rfl | rfl | rfl | rfl | rfl | rfl | rfl | rfl | rfl | rfl | rfl | rfl | rfl | rfl | rfl <;> first | trivial | (simp [Dat.wf]; done) | simp [Dat.wf, cellsR_length]
theorem jobVals_ok (r : J) (vkeys vraw : Value) : valsD (jobVals r vkeys vraw).toList (jobDat r) := by
  simp [jobVals, jobDat, valsD]
def jobIn (w : World) (r : J) (vkeys vraw : Value) : Prop := IntsArg w vkeys r.keys ∧ IntsArg w vraw r.raw
theorem jobIn_below {w w' : World} {r : J} {vkeys vraw : Value} (h : jobIn w r vkeys vraw) (hb : Below w.heap.size w w') : jobIn w' r vkeys vraw := ⟨h.1.below hb, h.2.below hb⟩
theorem info_Job : (Tryz.prog.info? 50).map (fun i => (i.zero, i.size, i.bytes)) = some (some (.agg #[.bool false, .int .i64 0, .string ⟨#[]⟩, .int .i64 0, .int .i64 0, .int .i64 0, .int .i64 0, .int .i64 0, .int .i64 0, .int .i64 0, .int .i64 0, .int .i64 0, .int .i64 0, .int .i64 0, .int .i64 0, .int .i64 0, .slice none 0 0, .slice none 0 0]), 18, 184) := by kernel_rfl
theorem jobZero_ok : valsD (#[.bool false, .int .i64 0, .string ⟨#[]⟩, .int .i64 0, .int .i64 0, .int .i64 0, .int .i64 0, .int .i64 0, .int .i64 0, .int .i64 0, .int .i64 0, .int .i64 0, .int .i64 0, .int .i64 0, .int .i64 0, .int .i64 0, .slice none 0 0, .slice none 0 0] : Array Value).toList (jobDat zeroJ) ∧ ∀ x ∈ innerD (#[.bool false, .int .i64 0, .string ⟨#[]⟩, .int .i64 0, .int .i64 0, .int .i64 0, .int .i64 0, .int .i64 0, .int .i64 0, .int .i64 0, .int .i64 0, .int .i64 0, .int .i64 0, .int .i64 0, .int .i64 0, .int .i64 0, .slice none 0 0, .slice none 0 0] : Array Value).toList (jobDat zeroJ), x.v = .slice none 0 0 ∧ x.n = 0 ∧ x.cs = [] := by
  refine ⟨by simp [valsD, jobDat, zeroJ, zeroO], ?_⟩
  intro x hx
  simp only [innerD, jobDat, zeroJ, List.mem_cons, List.not_mem_nil, or_false] at hx
  rcases hx with rfl | rfl <;> exact ⟨rfl, rfl, rfl⟩
theorem job_at {w : World} {b o : Nat} {r : J} (h : EltAt jobDat w b o r) : ∃ vkeys vraw, w.rangeAt b o (jobVals r vkeys vraw).toList ∧ jobIn w r vkeys vraw := by
  obtain ⟨_, q0, rfl⟩ := h 0 _ rfl
  obtain ⟨_, q1, rfl⟩ := h 1 _ rfl
  obtain ⟨_, q2, rfl⟩ := h 2 _ rfl
  obtain ⟨_, q3, rfl⟩ := h 3 _ rfl
  obtain ⟨_, q4, rfl⟩ := h 4 _ rfl
  obtain ⟨_, q5, rfl⟩ := h 5 _ rfl
  obtain ⟨_, q6, rfl⟩ := h 6 _ rfl
  obtain ⟨_, q7, rfl⟩ := h 7 _ rfl
  obtain ⟨_, q8, rfl⟩ := h 8 _ rfl
  obtain ⟨_, q9, rfl⟩ := h 9 _ rfl
  obtain ⟨_, q10, rfl⟩ := h 10 _ rfl
  obtain ⟨_, q11, rfl⟩ := h 11 _ rfl
  obtain ⟨_, q12, rfl⟩ := h 12 _ rfl
  obtain ⟨_, q13, rfl⟩ := h 13 _ rfl
  obtain ⟨_, q14, rfl⟩ := h 14 _ rfl
  obtain ⟨_, q15, rfl⟩ := h 15 _ rfl
  obtain ⟨vkeys, q16, rkeys⟩ := h 16 _ rfl
  obtain ⟨vraw, q17, rraw⟩ := h 17 _ rfl
  refine ⟨vkeys, vraw, ?_, ⟨reads_ints rkeys, reads_ints rraw⟩⟩
  intro j v hv
  match j with
  | 0 => injection hv with hv; subst hv; exact q0
  | 1 => injection hv with hv; subst hv; exact q1
  | 2 => injection hv with hv; subst hv; exact q2
  | 3 => injection hv with hv; subst hv; exact q3
  | 4 => injection hv with hv; subst hv; exact q4
  | 5 => injection hv with hv; subst hv; exact q5
  | 6 => injection hv with hv; subst hv; exact q6
  | 7 => injection hv with hv; subst hv; exact q7
  | 8 => injection hv with hv; subst hv; exact q8
  | 9 => injection hv with hv; subst hv; exact q9
  | 10 => injection hv with hv; subst hv; exact q10
  | 11 => injection hv with hv; subst hv; exact q11
  | 12 => injection hv with hv; subst hv; exact q12
  | 13 => injection hv with hv; subst hv; exact q13
  | 14 => injection hv with hv; subst hv; exact q14
  | 15 => injection hv with hv; subst hv; exact q15
  | 16 => injection hv with hv; subst hv; exact q16
  | 17 => injection hv with hv; subst hv; exact q17
  | j + 18 => exact absurd (List.getElem?_eq_some_iff.1 hv).1 (by show ¬ j + 18 < 18; omega)
end Go.Proofs.YtnlepnfdgdbkoaaGreatDoor
namespace Go.Proofs.YtnlepnfdgdbkoaaGreatDoor
open Go.RowKit M
set_option linter.unusedVariables false
theorem reads_rows {w : World} {v : Value} {rs : List R} (h : (Dat.row 55 10 rs.length (cellsR rs)).reads w v) : RowsArg w v rs := by
  obtain ⟨_, A, cap, e, h1, h2, h3⟩ := h
  refine ⟨A, cap, e, h1, h2, fun hp => ?_⟩
  obtain ⟨b, off, ea, h4, h5⟩ := h3 hp
  refine ⟨b, off, ea, h4, fun j hj k hk => ?_⟩
  rw [Nat.add_assoc, h5 (j * 10 + k) (by omega), cellsR_at rs j k hj hk]
def evDat (r : E) : List Dat := [.val (.int .i64 r.kind), .val (.int .i64 r.who), .val (.int .i64 r.serial), .val (.int .i64 r.at_), .val (.int .i64 r.op.kind), .val (.string r.op.key), .val (.int .i64 r.op.what), .val (.int .i64 r.op.val), .val (.int .i64 r.code), .val (.int .i64 r.win), .val (.int .i64 r.steps), .val (.int .i64 r.flips), .row 55 10 r.rows.length (cellsR r.rows)]
def evVals (r : E) (vrows : Value) : Array Value := #[.int .i64 r.kind, .int .i64 r.who, .int .i64 r.serial, .int .i64 r.at_, .int .i64 r.op.kind, .string r.op.key, .int .i64 r.op.what, .int .i64 r.op.val, .int .i64 r.code, .int .i64 r.win, .int .i64 r.steps, .int .i64 r.flips, vrows]
theorem evDat_len (r : E) : (evDat r).length = 13 := rfl
theorem evDat_wf (r : E) : ∀ d ∈ evDat r, d.wf := by
  intro d hd
  simp only [evDat, List.mem_cons, List.not_mem_nil, or_false] at hd
  rcases hd with rfl | rfl | rfl | rfl | rfl | rfl | rfl | rfl | rfl | rfl | rfl | rfl | rfl <;> first | trivial | (simp [Dat.wf]; done) | simp [Dat.wf, cellsR_length]
theorem evVals_ok (r : E) (vrows : Value) : valsD (evVals r vrows).toList (evDat r) := by
  simp [evVals, evDat, valsD]
def evIn (w : World) (r : E) (vrows : Value) : Prop := RowsArg w vrows r.rows
theorem info_Ev : (Tryz.prog.info? 39).map (fun i => (i.zero, i.size, i.bytes)) = some (some (.agg #[.int .i64 0, .int .i64 0, .int .i64 0, .int .i64 0, .int .i64 0, .string ⟨#[]⟩, .int .i64 0, .int .i64 0, .int .i64 0, .int .i64 0, .int .i64 0, .int .i64 0, .slice none 0 0]), 13, 128) := by kernel_rfl
theorem ev_at {w : World} {b o : Nat} {r : E} (h : EltAt evDat w b o r) : ∃ vrows, w.rangeAt b o (evVals r vrows).toList ∧ evIn w r vrows := by
  obtain ⟨_, q0, rfl⟩ := h 0 _ rfl
  obtain ⟨_, q1, rfl⟩ := h 1 _ rfl
  obtain ⟨_, q2, rfl⟩ := h 2 _ rfl
  obtain ⟨_, q3, rfl⟩ := h 3 _ rfl
  obtain ⟨_, q4, rfl⟩ := h 4 _ rfl
  obtain ⟨_, q5, rfl⟩ := h 5 _ rfl
  obtain ⟨_, q6, rfl⟩ := h 6 _ rfl
  obtain ⟨_, q7, rfl⟩ := h 7 _ rfl
  obtain ⟨_, q8, rfl⟩ := h 8 _ rfl
  obtain ⟨_, q9, rfl⟩ := h 9 _ rfl
  obtain ⟨_, q10, rfl⟩ := h 10 _ rfl
  obtain ⟨_, q11, rfl⟩ := h 11 _ rfl
  obtain ⟨vrows, q12, rrows⟩ := h 12 _ rfl
  refine ⟨vrows, ?_, reads_rows rrows⟩
  intro j v hv
  match j with
  | 0 => injection hv with hv; subst hv; exact q0
  | 1 => injection hv with hv; subst hv; exact q1
  | 2 => injection hv with hv; subst hv; exact q2
  | 3 => injection hv with hv; subst hv; exact q3
  | 4 => injection hv with hv; subst hv; exact q4
  | 5 => injection hv with hv; subst hv; exact q5
  | 6 => injection hv with hv; subst hv; exact q6
  | 7 => injection hv with hv; subst hv; exact q7
  | 8 => injection hv with hv; subst hv; exact q8
  | 9 => injection hv with hv; subst hv; exact q9
  | 10 => injection hv with hv; subst hv; exact q10
  | 11 => injection hv with hv; subst hv; exact q11
  | 12 => injection hv with hv; subst hv; exact q12
  | j + 13 => exact absurd (List.getElem?_eq_some_iff.1 hv).1 (by show ¬ j + 13 < 13; omega)
end Go.Proofs.YtnlepnfdgdbkoaaGreatDoor
namespace Go.Proofs.YtnlepnfdgdbkoaaGreatDoor
open Go.RowKit M
set_option linter.unusedVariables false
set_option linter.unusedSimpArgs false
def endQ : Int → List (List O) → Int
  | k, [] => k
  | k, q :: qs => endQ (k + 4 * (q.length : Int)) qs
def totQ (ls : List (List O)) : Nat := (ls.map List.length).sum
theorem endQ_tot (k : Int) (ls : List (List O)) : endQ k ls = k + 4 * (totQ ls : Int) := by
  induction ls generalizing k with
  | nil => simp [endQ, totQ]
  | cons q qs ih => simp only [endQ, ih, totQ, List.map_cons, List.sum_cons]; omega
end Go.Proofs.YtnlepnfdgdbkoaaGreatDoor
namespace Go.Proofs.YtnlepnfdgdbkoaaGreatDoor
open Go.ChangeShapes Go.WideShapes Go.Deep Go.RowKit M
set_option linter.unusedVariables false
def FitR (rs : List R) : Prop := ∀ j, j < rs.length → (rs.getD j zeroR).Fit
theorem FitR.key {rs : List R} (h : FitR rs) : ∀ j, j < rs.length → (rs.getD j zeroR).key.size ≤ maxLen := fun j hj => (h j hj).key
instance : Inhabited R := ⟨zeroR⟩
end Go.Proofs.YtnlepnfdgdbkoaaGreatDoor
namespace Go.Proofs.YtnlepnfdgdbkoaaGreatDoor
open Go.ChangeShapes Go.WideShapes Go.Deep Go.RowKit M
set_option linter.unusedVariables false
section
variable {H : Type} {enc : TypeId × Value → H} {P : Program} {w : World} {base : Nat} {spare : Nat → Bool} {held : Bool} {α : Type} [Inhabited α]
end
section
variable {H : Type} {enc : TypeId × Value → H} {w : World} {base : Nat} {spare : Nat → Bool} {held : Bool} {fuel : Nat} {x : DataW H × List MemPlace} {c : Value}
instance : Inhabited O := ⟨zeroO⟩
def FitOs (l : List O) : Prop := ∀ i, i < l.length → (l.getD i zeroO).Fit
end
section
variable {H : Type} {enc : TypeId × Value → H} {w : World} {base : Nat} {spare : Nat → Bool} {held : Bool} {r : Reach} {b0 : Nat} {v : Value} {d : DataW H} {p : List MemPlace}
end
end Go.Proofs.YtnlepnfdgdbkoaaGreatDoor
namespace Go.Proofs.YtnlepnfdgdbkoaaGreatDoor
open Go.RowKit M
set_option linter.unusedVariables false
theorem RowAt.store {w : World} {g : Nat} {r : R} (h : RowAt w g r) (i : Nat) (v : Value) (r' : R) (e : (rowCells r).setIfInBounds i v = rowCells r') : RowAt (w.setCell ⟨g, i, none⟩ v) g r' := by
  unfold RowAt
  rw [← e]
  exact heap_setCell_same w g i _ _ v h
theorem RowAt.far {w : World} {g : Nat} {r : R} (h : RowAt w g r) (k i : Nat) (v : Value) (hk : g ≠ k) : RowAt (w.setCell ⟨k, i, none⟩ v) g r :=
  (heap_setCell_other w ⟨k, i, none⟩ g v hk).trans h
theorem wp_row {C : Go.Code} {Q : Exit → Act → World → Prop} {a : Act} {w0 w : World} {B g o : Nat} {r z : R} {i : Nat} {v : Value} (r' : R) (hx : RowAt w g r) (hz : RowAt w o z) (hb : Below B w0 w) (hg : B ≤ g) (ho : o ≠ g)
    (e : (rowCells r).setIfInBounds i v = rowCells r') (k : ∀ w', RowAt w' g r' → RowAt w' o z → Below B w0 w' → Code.wp Tryz.prog C Q a w') : Code.wp Tryz.prog C Q a (w.setCell ⟨g, i, none⟩ v) :=
  k _ (hx.store i v r' e) (hz.far g i v ho) (hb.setCell hg v)
theorem RowAt.all {w : World} {g : Nat} {z : R} (h : RowAt w g z) (r : R) :
    RowAt ((((((((((w.setCell ⟨g, 0, none⟩ (.string r.key)).setCell ⟨g, 1, none⟩ (.int .i64 r.kind)).setCell ⟨g, 2, none⟩ (.int .i64 r.sum)).setCell ⟨g, 3, none⟩ (.bool r.set)).setCell ⟨g, 4, none⟩ (.int .i64 r.last)).setCell ⟨g, 5, none⟩ (.int .i64 r.n)).setCell ⟨g, 6, none⟩ (.int .i64 r.mn)).setCell ⟨g, 7, none⟩ (.int .i64 r.mx)).setCell ⟨g, 8, none⟩ (.int .i64 r.total)).setCell ⟨g, 9, none⟩ (.int .i64 r.dropped)) g r := by
  obtain ⟨key, kind, sum, st, last, n, mn, mx, total, dropped⟩ := r
  obtain ⟨zkey, zkind, zsum, zst, zlast, zn, zmn, zmx, ztotal, zdropped⟩ := z
  exact (((((((((h.store 0 _ ⟨key, zkind, zsum, zst, zlast, zn, zmn, zmx, ztotal, zdropped⟩ rfl).store 1 _ ⟨key, kind, zsum, zst, zlast, zn, zmn, zmx, ztotal, zdropped⟩ rfl).store 2 _ ⟨key, kind, sum, zst, zlast, zn, zmn, zmx, ztotal, zdropped⟩ rfl).store 3 _ ⟨key, kind, sum, st, zlast, zn, zmn, zmx, ztotal, zdropped⟩ rfl).store 4 _ ⟨key, kind, sum, st, last, zn, zmn, zmx, ztotal, zdropped⟩ rfl).store 5 _ ⟨key, kind, sum, st, last, n, zmn, zmx, ztotal, zdropped⟩ rfl).store 6 _ ⟨key, kind, sum, st, last, n, mn, zmx, ztotal, zdropped⟩ rfl).store 7 _ ⟨key, kind, sum, st, last, n, mn, mx, ztotal, zdropped⟩ rfl).store 8 _ ⟨key, kind, sum, st, last, n, mn, mx, total, zdropped⟩ rfl).store 9 _ ⟨key, kind, sum, st, last, n, mn, mx, total, dropped⟩ rfl
end Go.Proofs.YtnlepnfdgdbkoaaGreatDoor
namespace Go.Proofs.YtnlepnfdgdbkoaaGreatDoor
open Go.RowKit M
set_option linter.unusedVariables false
theorem isKind_yes (k : Int) (w : World) (h0 : 1 ≤ k) (h1 : k ≤ 3) : Calls Tryz.prog 69 #[.int .i64 k] w (Same w (.bool true)) := by
  go_enter Tryz.func69, Tryz.ntmps69
  go_wp2
  go_ret
  exact ⟨rfl, rfl⟩
theorem isKind_no (k : Int) (w : World) (h : ¬ (1 ≤ k ∧ k ≤ 3)) : Calls Tryz.prog 69 #[.int .i64 k] w (Same w (.bool false)) := by
  by_cases h0 : 1 ≤ k
  · have h1 : decide (k ≤ 3) = false := by rw [decide_eq_false]; omega
    go_enter Tryz.func69, Tryz.ntmps69
    go_wp2
    go_ret
    exact ⟨rfl, rfl⟩
  · have h1 : decide (1 ≤ k) = false := by rw [decide_eq_false]; omega
    go_enter Tryz.func69, Tryz.ntmps69
    go_wp2
    go_ret
    exact ⟨rfl, rfl⟩
theorem isValue_yes (k : Int) (w : World) (h0 : 0 ≤ k) (h1 : k ≤ 65535) : Calls Tryz.prog 70 #[.int .i64 k] w (Same w (.bool true)) := by
  go_enter Tryz.func70, Tryz.ntmps70
  go_wp2
  go_ret
  exact ⟨rfl, rfl⟩
theorem isValue_no (k : Int) (w : World) (h : ¬ (0 ≤ k ∧ k ≤ 65535)) : Calls Tryz.prog 70 #[.int .i64 k] w (Same w (.bool false)) := by
  by_cases h0 : 0 ≤ k
  · have h1 : decide (k ≤ 65535) = false := by rw [decide_eq_false]; omega
    go_enter Tryz.func70, Tryz.ntmps70
    go_wp2
    go_ret
    exact ⟨rfl, rfl⟩
  · have h1 : decide (0 ≤ k) = false := by rw [decide_eq_false]; omega
    go_enter Tryz.func70, Tryz.ntmps70
    go_wp2
    go_ret
    exact ⟨rfl, rfl⟩
theorem isStamp_yes (k : Int) (w : World) (h0 : 1 ≤ k) (h1 : k ≤ 65535) : Calls Tryz.prog 123 #[.int .i64 k] w (Same w (.bool true)) := by
  go_enter Tryz.func123, Tryz.ntmps123
  go_wp2
  go_ret
  exact ⟨rfl, rfl⟩
theorem isStamp_no (k : Int) (w : World) (h : ¬ (1 ≤ k ∧ k ≤ 65535)) : Calls Tryz.prog 123 #[.int .i64 k] w (Same w (.bool false)) := by
  by_cases h0 : 1 ≤ k
  · have h1 : decide (k ≤ 65535) = false := by rw [decide_eq_false]; omega
    go_enter Tryz.func123, Tryz.ntmps123
    go_wp2
    go_ret
    exact ⟨rfl, rfl⟩
  · have h1 : decide (1 ≤ k) = false := by rw [decide_eq_false]; omega
    go_enter Tryz.func123, Tryz.ntmps123
    go_wp2
    go_ret
    exact ⟨rfl, rfl⟩
set_option maxRecDepth 100000 in
theorem iTagged_same (w : World) (s : ByteArray) (k : Int) (hs : s.size ≤ maxLen) : Calls Tryz.prog 100 #[.string s, .int .i64 k] w (Same w (.int .i64 (tagV s k))) := by
  have HO := Lib.hid (iKeyOk_same w s hs)
  have HP := Lib.hid (iPack_same w s hs)
  cases hk : keyOkV s with
  | false =>
    have E := Lib.hid (show tagV s k = 0 from tagV_no (by rw [hk]; simp))
    rw [hk] at HO
    clear hk
    go_enter Tryz.func100, Tryz.ntmps100
    go_wp2_with (go_at_call 68; refine HO.out.mono ?_; rintro e w' ⟨rfl, rfl⟩)
    go_ret
    exact ⟨ret_i E.out.symm, rfl⟩
  | true =>
    rw [hk] at HO
    have hp := packV_lt s
    by_cases h : 1 ≤ k ∧ k ≤ 3
    · have E := Lib.hid (tagV_yes hk h)
      obtain ⟨h1, h3⟩ := h
      generalize packV s = p at *
      clear hk
      go_enter Tryz.func100, Tryz.ntmps100
      go_wp2_with (first | (go_at_call 68; refine HO.out.mono ?_; rintro e w' ⟨rfl, rfl⟩) | (go_at_call 69; refine (isKind_yes _ _ (by omega) (by omega)).mono ?_; rintro e w' ⟨rfl, rfl⟩) | (go_at_call 119; refine HP.out.mono ?_; rintro e w' ⟨rfl, rfl⟩))
      go_ret
      exact ⟨ret_i (by rw [E.out]; omega), rfl⟩
    · have E := Lib.hid (show tagV s k = 0 from tagV_no (fun x => h x.2))
      clear hk
      go_enter Tryz.func100, Tryz.ntmps100
      go_wp2_with (first | (go_at_call 68; refine HO.out.mono ?_; rintro e w' ⟨rfl, rfl⟩) | (go_at_call 69; refine (isKind_no _ _ h).mono ?_; rintro e w' ⟨rfl, rfl⟩))
      go_ret
      exact ⟨ret_i E.out.symm, rfl⟩
theorem iPackGauge_same (w : World) (a v : Int) : Calls Tryz.prog 110 #[.int .i64 a, .int .i64 v] w (Same w (.int .i64 (gaugeV a v))) := by
  by_cases ha : 1 ≤ a ∧ a ≤ 65535
  · by_cases hv : 0 ≤ v ∧ v ≤ 65535
    · have E := Lib.hid (gaugeV_yes ⟨ha, hv⟩)
      obtain ⟨a1, a2⟩ := ha
      obtain ⟨v1, v2⟩ := hv
      go_enter Tryz.func110, Tryz.ntmps110
      go_wp2_with (first | (go_at_call 123; refine (isStamp_yes _ _ (by omega) (by omega)).mono ?_; rintro e w' ⟨rfl, rfl⟩) | (go_at_call 70; refine (isValue_yes _ _ (by omega) (by omega)).mono ?_; rintro e w' ⟨rfl, rfl⟩))
      go_ret
      exact ⟨ret_i (by rw [E.out]; omega), rfl⟩
    · have E := Lib.hid (gaugeV_no (a := a) (fun h => hv h.2))
      go_enter Tryz.func110, Tryz.ntmps110
      go_wp2_with (first | (go_at_call 123; refine (isStamp_yes _ _ ha.1 ha.2).mono ?_; rintro e w' ⟨rfl, rfl⟩) | (go_at_call 70; refine (isValue_no _ _ hv).mono ?_; rintro e w' ⟨rfl, rfl⟩))
      go_ret
      exact ⟨ret_i E.out.symm, rfl⟩
  · have E := Lib.hid (gaugeV_no (v := v) (fun h => ha h.1))
    go_enter Tryz.func110, Tryz.ntmps110
    go_wp2_with (go_at_call 123; refine (isStamp_no _ _ ha).mono ?_; rintro e w' ⟨rfl, rfl⟩)
    go_ret
    exact ⟨ret_i E.out.symm, rfl⟩
theorem iUnpackGauge_same (w : World) (n : Int) (h0 : -9223372036854775808 ≤ n) (h1 : n ≤ 9223372036854775807) :
    Calls Tryz.prog 109 #[.int .i64 n] w (Same w (.tuple #[.int .i64 (ungA n), .int .i64 (ungV n)])) := by
  by_cases hn : 0 ≤ n
  · by_cases h : 65536 ≤ n ∧ n ≤ 4294967295
    · have E := Lib.hid (show ungA n = n / 65536 from if_pos h)
      have E2 := Lib.hid (show ungV n = n % 65536 from if_pos h)
      have d1 : 1 ≤ n / 65536 := by omega
      have d2 : n / 65536 ≤ 65535 := by omega
      go_enter Tryz.func109, Tryz.ntmps109
      go_wp2_with (go_at_call 123; refine (isStamp_yes _ _ d1 d2).mono ?_; rintro e w' ⟨rfl, rfl⟩)
      go_ret2
      exact ⟨ret_ii E.out.symm E2.out.symm, rfl⟩
    · have E := Lib.hid (show ungA n = 0 from if_neg h)
      have E2 := Lib.hid (show ungV n = 0 from if_neg h)
      have d : ¬ (1 ≤ n / 65536 ∧ n / 65536 ≤ 65535) := by omega
      go_enter Tryz.func109, Tryz.ntmps109
      go_wp2_with (go_at_call 123; refine (isStamp_no _ _ d).mono ?_; rintro e w' ⟨rfl, rfl⟩)
      go_ret2
      exact ⟨ret_ii E.out.symm E2.out.symm, rfl⟩
  · have E := Lib.hid (show ungA n = 0 from if_neg (by omega))
    have E2 := Lib.hid (show ungV n = 0 from if_neg (by omega))
    have hq : n.tdiv 65536 ≤ 0 := by
      have := Int.tdiv_nonneg (a := -n) (b := 65536) (by omega) (by omega)
      rw [Int.neg_tdiv] at this; omega
    have d : ¬ (1 ≤ n.tdiv 65536 ∧ n.tdiv 65536 ≤ 65535) := by omega
    clear hq
    go_enter Tryz.func109, Tryz.ntmps109
    go_wp2_with (go_at_call 123; refine (isStamp_no _ _ d).mono ?_; rintro e w' ⟨rfl, rfl⟩)
    go_ret2
    exact ⟨ret_ii E.out.symm E2.out.symm, rfl⟩
theorem iUnpackGauge_any (w : World) (n : Int) (h0 : -9223372036854775808 ≤ n) (h1 : n ≤ 9223372036854775807) : Calls Tryz.prog 109 #[.int .i64 n] w (Gives (.tuple #[.int .i64 (ungA n), .int .i64 (ungV n)]) w) := same_gives (iUnpackGauge_same w n h0 h1)
end Go.Proofs.YtnlepnfdgdbkoaaGreatDoor
namespace Go.Proofs.YtnlepnfdgdbkoaaGreatDoor
open Go.RowKit M
set_option linter.unusedVariables false
theorem iIn_any (x : Int) (w : World) : Calls Tryz.prog 102 #[.int .i64 x] w (Same w (.int .i64 (inV x))) := by
  by_cases h : 0 ≤ x ∧ x ≤ 1
  · have E := Lib.hid (inV_yes h)
    obtain ⟨h0, h1⟩ := h
    go_enter Tryz.func102, Tryz.ntmps102
    go_wp2_with (go_at_call 44; first | (refine (isIdx_yes _ _ _ (by omega) (by omega)).mono ?_; rintro e w' ⟨rfl, rfl⟩) | (refine (isIdx_no _ _ _ (by omega)).mono ?_; rintro e w' ⟨rfl, rfl⟩))
    go_ret
    exact ⟨ret_i (by rw [E.out]), rfl⟩
  · have E := Lib.hid (inV_no h)
    go_enter Tryz.func102, Tryz.ntmps102
    go_wp2_with (go_at_call 44; first | (refine (isIdx_yes _ _ _ (by omega) (by omega)).mono ?_; rintro e w' ⟨rfl, rfl⟩) | (refine (isIdx_no _ _ _ (by omega)).mono ?_; rintro e w' ⟨rfl, rfl⟩))
    go_ret
    exact ⟨ret_i (by rw [E.out]), rfl⟩
theorem iKey_any (x : Int) (w : World) : Calls Tryz.prog 94 #[.int .i64 x] w (Same w (.int .i64 (keyV x))) := by
  by_cases h : 0 ≤ x ∧ x ≤ 3
  · have E := Lib.hid (keyV_yes h)
    obtain ⟨h0, h1⟩ := h
    go_enter Tryz.func94, Tryz.ntmps94
    go_wp2_with (go_at_call 44; first | (refine (isIdx_yes _ _ _ (by omega) (by omega)).mono ?_; rintro e w' ⟨rfl, rfl⟩) | (refine (isIdx_no _ _ _ (by omega)).mono ?_; rintro e w' ⟨rfl, rfl⟩))
    go_ret
    exact ⟨ret_i (by rw [E.out]), rfl⟩
  · have E := Lib.hid (keyV_no h)
    go_enter Tryz.func94, Tryz.ntmps94
    go_wp2_with (go_at_call 44; first | (refine (isIdx_yes _ _ _ (by omega) (by omega)).mono ?_; rintro e w' ⟨rfl, rfl⟩) | (refine (isIdx_no _ _ _ (by omega)).mono ?_; rintro e w' ⟨rfl, rfl⟩))
    go_ret
    exact ⟨ret_i (by rw [E.out]), rfl⟩
theorem iBase_any (b s : Int) (w : World) : Calls Tryz.prog 114 #[.int .i64 b, .int .i64 s] w (Same w (.int .i64 (cellV b s 0))) := by
  by_cases h : 0 ≤ b ∧ b ≤ 1
  · by_cases h' : 0 ≤ s ∧ s ≤ 3
    · have E := Lib.hid (cellV_yes (k := 0) h h')
      obtain ⟨h0, h1⟩ := h
      obtain ⟨h2, h3⟩ := h'
      go_enter Tryz.func114, Tryz.ntmps114
      go_wp2_with (go_at_call 44; first | (refine (isIdx_yes _ _ _ (by omega) (by omega)).mono ?_; rintro e w' ⟨rfl, rfl⟩) | (refine (isIdx_no _ _ _ (by omega)).mono ?_; rintro e w' ⟨rfl, rfl⟩))
      go_ret
      exact ⟨ret_i (by rw [E.out, Int.add_zero]), rfl⟩
    · have E := Lib.hid (cellV_noS (b := b) (k := 0) h')
      obtain ⟨h0, h1⟩ := h
      go_enter Tryz.func114, Tryz.ntmps114
      go_wp2_with (go_at_call 44; first | (refine (isIdx_yes _ _ _ (by omega) (by omega)).mono ?_; rintro e w' ⟨rfl, rfl⟩) | (refine (isIdx_no _ _ _ (by omega)).mono ?_; rintro e w' ⟨rfl, rfl⟩))
      go_ret
      exact ⟨ret_i (by rw [E.out]), rfl⟩
  · have E := Lib.hid (cellV_noB (s := s) (k := 0) h)
    go_enter Tryz.func114, Tryz.ntmps114
    go_wp2_with (go_at_call 44; first | (refine (isIdx_yes _ _ _ (by omega) (by omega)).mono ?_; rintro e w' ⟨rfl, rfl⟩) | (refine (isIdx_no _ _ _ (by omega)).mono ?_; rintro e w' ⟨rfl, rfl⟩))
    go_ret
    exact ⟨ret_i (by rw [E.out]), rfl⟩
theorem iCell_any (b s k : Int) (w : World) (k0 : 0 ≤ k) (k1 : k ≤ 7) : Calls Tryz.prog 121 #[.int .i64 b, .int .i64 s, .int .i64 k] w (Same w (.int .i64 (cellV b s k))) := by
  have H := Lib.hid (iBase_any b s w)
  by_cases h : (0 ≤ b ∧ b ≤ 1) ∧ (0 ≤ s ∧ s ≤ 3)
  · have E := Lib.hid (cellV_yes (k := k) h.1 h.2)
    rw [cellV_yes h.1 h.2] at H
    obtain ⟨⟨h0, h1⟩, h2, h3⟩ := h
    have t : decide (7 + b * 32 + s * 8 + 0 < 0) = false := by simp; omega
    go_enter Tryz.func121, Tryz.ntmps121
    go_wp2_with (go_at_call 114; refine H.out.mono ?_; rintro e w' ⟨rfl, rfl⟩)
    go_ret
    exact ⟨ret_i (by rw [E.out]), rfl⟩
  · have e0 : ∀ k, cellV b s k = -1 := fun k => if_neg h
    have E := Lib.hid (e0 k)
    rw [e0] at H
    clear e0
    go_enter Tryz.func121, Tryz.ntmps121
    go_wp2_with (go_at_call 114; refine H.out.mono ?_; rintro e w' ⟨rfl, rfl⟩)
    go_ret
    exact ⟨ret_i (by rw [E.out]), rfl⟩
theorem iStamp_any (b s : Int) (w : World) : Calls Tryz.prog 106 #[.int .i64 b, .int .i64 s] w (Same w (.int .i64 (cellV b s 2))) := by
  have H := Lib.hid (iCell_any b s 2 w (by decide) (by decide))
  go_enter Tryz.func106, Tryz.ntmps106
  go_wp2_with (go_at_call 121; refine H.out.mono ?_; rintro e w' ⟨rfl, rfl⟩)
  go_ret
  exact ⟨rfl, rfl⟩
theorem iGauge_any (b s : Int) (w : World) : Calls Tryz.prog 108 #[.int .i64 b, .int .i64 s] w (Same w (.int .i64 (cellV b s 3))) := by
  have H := Lib.hid (iCell_any b s 3 w (by decide) (by decide))
  go_enter Tryz.func108, Tryz.ntmps108
  go_wp2_with (go_at_call 121; refine H.out.mono ?_; rintro e w' ⟨rfl, rfl⟩)
  go_ret
  exact ⟨rfl, rfl⟩
theorem iTicket_any (b s : Int) (w : World) : Calls Tryz.prog 122 #[.int .i64 b, .int .i64 s] w (Same w (.int .i64 (cellV b s 4))) := by
  have H := Lib.hid (iCell_any b s 4 w (by decide) (by decide))
  go_enter Tryz.func122, Tryz.ntmps122
  go_wp2_with (go_at_call 121; refine H.out.mono ?_; rintro e w' ⟨rfl, rfl⟩)
  go_ret
  exact ⟨rfl, rfl⟩
theorem iStripe_any (b s k : Int) (w : World) : Calls Tryz.prog 104 #[.int .i64 b, .int .i64 s, .int .i64 k] w (Same w (.int .i64 (partV b s 2 0 k))) := by
  by_cases h : 0 ≤ k ∧ k < 2
  · have E := Lib.hid (partV_yes (b := b) (s := s) (at_ := 0) h)
    obtain ⟨h0, h1⟩ := h
    have H := Lib.hid (iCell_any b s (k) w (by omega) (by omega))
    go_enter Tryz.func104, Tryz.ntmps104
    go_wp2_with (first | (go_at_call 44; first | (refine (isIdx_yes _ _ _ (by omega) (by omega)).mono ?_; rintro e w' ⟨rfl, rfl⟩) | (refine (isIdx_no _ _ _ (by omega)).mono ?_; rintro e w' ⟨rfl, rfl⟩)) | (go_at_call 121; refine H.out.mono ?_; rintro e w' ⟨rfl, rfl⟩))
    go_ret
    exact ⟨ret_i (by rw [E.out]; rw [Int.zero_add]), rfl⟩
  · have E := Lib.hid (partV_no (b := b) (s := s) (at_ := 0) h)
    go_enter Tryz.func104, Tryz.ntmps104
    go_wp2_with (go_at_call 44; first | (refine (isIdx_yes _ _ _ (by omega) (by omega)).mono ?_; rintro e w' ⟨rfl, rfl⟩) | (refine (isIdx_no _ _ _ (by omega)).mono ?_; rintro e w' ⟨rfl, rfl⟩))
    go_ret
    exact ⟨ret_i (by rw [E.out]), rfl⟩
theorem iRing_any (b s k : Int) (w : World) : Calls Tryz.prog 111 #[.int .i64 b, .int .i64 s, .int .i64 k] w (Same w (.int .i64 (partV b s 3 5 k))) := by
  by_cases h : 0 ≤ k ∧ k < 3
  · have E := Lib.hid (partV_yes (b := b) (s := s) (at_ := 5) h)
    obtain ⟨h0, h1⟩ := h
    have H := Lib.hid (iCell_any b s (5 + k) w (by omega) (by omega))
    go_enter Tryz.func111, Tryz.ntmps111
    go_wp2_with (first | (go_at_call 44; first | (refine (isIdx_yes _ _ _ (by omega) (by omega)).mono ?_; rintro e w' ⟨rfl, rfl⟩) | (refine (isIdx_no _ _ _ (by omega)).mono ?_; rintro e w' ⟨rfl, rfl⟩)) | (go_at_call 121; refine H.out.mono ?_; rintro e w' ⟨rfl, rfl⟩))
    go_ret
    exact ⟨ret_i (by rw [E.out]), rfl⟩
  · have E := Lib.hid (partV_no (b := b) (s := s) (at_ := 5) h)
    go_enter Tryz.func111, Tryz.ntmps111
    go_wp2_with (go_at_call 44; first | (refine (isIdx_yes _ _ _ (by omega) (by omega)).mono ?_; rintro e w' ⟨rfl, rfl⟩) | (refine (isIdx_no _ _ _ (by omega)).mono ?_; rintro e w' ⟨rfl, rfl⟩))
    go_ret
    exact ⟨ret_i (by rw [E.out]), rfl⟩
end Go.Proofs.YtnlepnfdgdbkoaaGreatDoor
namespace Go.Proofs
open Go.Shelf
def Tryz.lays161_ren : Go.Shelf.Ren := ⟨fun | 161 => 126 | 231 => 138 | 227 => 139 | 233 => 140 | 235 => 141 | 228 => 146 | 197 => 147 | 151 => 148 | 260 => 153 | 152 => 154 | 137 => 158 | 119 => 159 | 224 => 160 | 225 => 161 | 217 => 163 | 266 => 164 | n => n, fun | 9 => 9 | 4 => 4 | 3 => 3 | 5 => 5 | 117 => 149 | 116 => 148 | 0 => 0 | 124 => 152 | 105 => 156 | 21 => 21 | 119 => 163 | 46 => 104 | 139 => 166 | 138 => 165 | n => n, fun | 3 => 1 | 4 => 2 | n => n⟩
theorem Tryz.lays161 : Go.Proofs.Lays.n161 Tryz.prog Tryz.lays161_ren := {
  mixed := by kernel_rfl
  f119 := Tryz.func159.trans (congrArg some (by kernel_rfl))
  f137 := Tryz.func158.trans (congrArg some (by kernel_rfl))
  f151 := Tryz.func148.trans (congrArg some (by kernel_rfl))
  f152 := Tryz.func154.trans (congrArg some (by kernel_rfl))
  f161 := Tryz.func126.trans (congrArg some (by kernel_rfl))
  f197 := Tryz.func147.trans (congrArg some (by kernel_rfl))
  f217 := Tryz.func163.trans (congrArg some (by kernel_rfl))
  f224 := Tryz.func160.trans (congrArg some (by kernel_rfl))
  f225 := Tryz.func161.trans (congrArg some (by kernel_rfl))
  f227 := Tryz.func139.trans (congrArg some (by kernel_rfl))
  f228 := Tryz.func146.trans (congrArg some (by kernel_rfl))
  f231 := Tryz.func138.trans (congrArg some (by kernel_rfl))
  f233 := Tryz.func140.trans (congrArg some (by kernel_rfl))
  f235 := Tryz.func141.trans (congrArg some (by kernel_rfl))
  f260 := Tryz.func153.trans (congrArg some (by kernel_rfl))
  f266 := Tryz.func164.trans (congrArg some (by kernel_rfl))
  t0 := Tryz.underlying0
  a0 := Tryz.isAgg0
  z0 := Tryz.sizeOf0
  v0 := Tryz.zeroValue0
  t3 := Tryz.underlying3
  a3 := Tryz.isAgg3
  z3 := Tryz.sizeOf3
  v3 := Tryz.zeroValue3
  t4 := Tryz.underlying4
  a4 := Tryz.isAgg4
  z4 := Tryz.sizeOf4
  v4 := Tryz.zeroValue4
  t5 := Tryz.underlying5
  a5 := Tryz.isAgg5
  z5 := Tryz.sizeOf5
  v5 := Tryz.zeroValue5
  t9 := Tryz.underlying9
  a9 := Tryz.isAgg9
  z9 := Tryz.sizeOf9
  v9 := Tryz.zeroValue9
  t21 := Tryz.underlying21
  a21 := Tryz.isAgg21
  z21 := Tryz.sizeOf21
  v21 := Tryz.zeroValue21
  t46 := Tryz.underlying104
  a46 := Tryz.isAgg104
  z46 := Tryz.sizeOf104
  v46 := Tryz.zeroValue104
  t105 := Tryz.underlying156
  a105 := Tryz.isAgg156
  z105 := Tryz.sizeOf156
  v105 := Tryz.zeroValue156
  t116 := Tryz.underlying148
  a116 := Tryz.isAgg148
  z116 := Tryz.sizeOf148
  t117 := Tryz.underlying149
  a117 := Tryz.isAgg149
  z117 := Tryz.sizeOf149
  v117 := Tryz.zeroValue149
  t119 := Tryz.underlying163
  a119 := Tryz.isAgg163
  z119 := Tryz.sizeOf163
  t124 := Tryz.underlying152
  a124 := Tryz.isAgg152
  z124 := Tryz.sizeOf152
  v124 := Tryz.zeroValue152
  t138 := Tryz.underlying165
  a138 := Tryz.isAgg165
  z138 := Tryz.sizeOf165
  v138 := Tryz.zeroValue165
  t139 := Tryz.underlying166
  a139 := Tryz.isAgg166
  z139 := Tryz.sizeOf166
  v139 := Tryz.zeroValue166
  g3 := by kernel_rfl
  g4 := by kernel_rfl }
open Go.RowKit in
theorem Tryz.strings_TrimLeft_one (s : ByteArray) (c : UInt8) (hc : c.toNat < 128) (w : World) :
    Calls Tryz.prog 126 #[.string s, .string ⟨#[c]⟩] w fun e w' => e = .returned (.string ⟨(Lib.trimLeftB s.data.toList c).toArray⟩) ∧ w' = w := Any.strings_TrimLeft_one Tryz.lays161 s c hc w
def Tryz.laysNm215_ren : Go.Shelf.Ren := ⟨fun | 15 => 39 | n => n, fun | 22 => 25 | 3 => 3 | 4 => 4 | n => n, fun | n => n⟩
theorem Tryz.laysNm215 : Go.Proofs.Lays2.n15 Tryz.prog Tryz.laysNm215_ren := {
  mixed := by kernel_rfl
  f15 := Tryz.func39.trans (congrArg some (by kernel_rfl))
  t3 := Tryz.underlying3
  a3 := Tryz.isAgg3
  z3 := Tryz.sizeOf3
  v3 := Tryz.zeroValue3
  t4 := Tryz.underlying4
  a4 := Tryz.isAgg4
  z4 := Tryz.sizeOf4
  v4 := Tryz.zeroValue4
  t22 := Tryz.underlying25
  a22 := Tryz.isAgg25
  z22 := Tryz.sizeOf25
  v22 := Tryz.zeroValue25
  i3 := by kernel_rfl }
open Go.RowKit Go.Lib in
theorem Tryz.slices_Clone_int (b off n c : Nat) (zs : List Int) (w : World) (hz : n ≤ zs.length) (hbig : n * 8 ≤ 140737488355328) (hc : ∀ j, j < zs.length → w.cell? ⟨b, off + j, none⟩ = some (.int .i64 (zs.getD j 0))) :
    Calls Tryz.prog 39 #[.slice (some ⟨b, off, none⟩) n c] w fun e w' => ∃ v', e = .returned v' ∧ w'.ownsRow w.heap.size 3 1 v' n ((zs.take n).map (Value.int .i64)) ∧ v' ≠ .slice none 0 0 ∧ Below w.heap.size w w' := Any.slices_Clone_int Tryz.laysNm215 b off n c zs w hz hbig hc
end Go.Proofs
namespace Go.Proofs.YtnlepnfdgdbkoaaGreatDoor
open Go.RowKit M
set_option linter.unusedVariables false
theorem iLoad_yes (w : World) (v : Value) (zs : List Int) (i : Int) (h : Ints w v zs) (ha : atC zs i = true) :
    Calls Tryz.prog 117 #[v, .int .i64 i] w (Same w (.tuple #[.int .i64 (zs.getD i.toNat 0), .bool true])) := by
  obtain ⟨h0, i0, i1⟩ := atC_iff.1 ha
  have H := Lib.hid (iOk_b w v zs h true h0)
  obtain ⟨b, off, cap, rfl, h1, h2, h3, h4⟩ := h
  have hl := okC_len h0
  obtain ⟨j, rfl⟩ := Int.eq_ofNat_of_zero_le i0
  rw [Int.toNat_natCast]
  have g1 := h4 j (by omega)
  generalize zs.getD j 0 = z at *
  have hj : j < zs.length := by omega
  generalize zs.length = n at *
  unfold maxLen at h2
  have t1 : decide (n ≤ j) = false := by simp; omega
  have t2 : decide ((j : Int) < 0) = false := by simp
  clear h4 h0 hl ha
  go_enter Tryz.func117, Tryz.ntmps117
  go_wp2_with (first | (go_at_call 43; refine H.out.mono ?_; rintro e w' ⟨rfl, rfl⟩))
  go_ret2
  exact ⟨rfl, rfl⟩
theorem iLoad_no (w : World) (v : Value) (zs : List Int) (i : Int) (h : Ints w v zs) (ha : atC zs i = false) :
    Calls Tryz.prog 117 #[v, .int .i64 i] w (Same w (.tuple #[.int .i64 0, .bool false])) := by
  by_cases i0 : i < 0
  · obtain ⟨b, off, cap, rfl, h1, h2, h3, h4⟩ := h
    have t1 : decide (i < 0) = true := by simp; omega
    clear h4 ha
    go_enter Tryz.func117, Tryz.ntmps117
    go_wp2
    go_ret2
    exact ⟨rfl, rfl⟩
  · have t1 : decide (i < 0) = false := by simp; omega
    by_cases i1 : (zs.length : Int) ≤ i
    · have t2 : decide ((zs.length : Int) ≤ i) = true := by simp; omega
      obtain ⟨b, off, cap, rfl, h1, h2, h3, h4⟩ := h
      generalize zs.length = n at *
      clear h4 ha
      go_enter Tryz.func117, Tryz.ntmps117
      go_wp2
      go_ret2
      exact ⟨rfl, rfl⟩
    · have t2 : decide ((zs.length : Int) ≤ i) = false := by simp; omega
      have hok : okC zs = false := by
        cases hok : okC zs with
        | false => rfl
        | true =>
          have := okC_len hok
          rcases atC_no.1 ha with h | h
          · rw [hok] at h; cases h
          · omega
      have H := Lib.hid (iOk_b w v zs h false hok)
      obtain ⟨b, off, cap, rfl, h1, h2, h3, h4⟩ := h
      generalize zs.length = n at *
      clear h4 ha hok
      go_enter Tryz.func117, Tryz.ntmps117
      go_wp2_with (first | (go_at_call 43; refine H.out.mono ?_; rintro e w' ⟨rfl, rfl⟩))
      go_ret2
      exact ⟨rfl, rfl⟩
theorem clone_any (w : World) (v : Value) (zs : List Int) (h : Ints w v zs) (hl : zs.length ≤ 1048576) :
    Calls Tryz.prog 39 #[v] w (MadeI w zs) := by
  obtain ⟨b, off, cap, rfl, h1, h2, h3, h4⟩ := h
  refine (Tryz.slices_Clone_int b off zs.length cap zs w (Nat.le_refl _) (by omega) h4).mono ?_
  rintro e w' ⟨v', rfl, ho, hne, hb⟩
  rw [List.take_length] at ho
  exact ⟨v', rfl, OwnI.of_row ho rfl hne, hb⟩
end Go.Proofs.YtnlepnfdgdbkoaaGreatDoor
namespace Go.Proofs.YtnlepnfdgdbkoaaGreatDoor
open Go.RowKit M
set_option linter.unusedVariables false
instance decR : DecidableEq R := fun a b =>
  if h : (a.key = b.key ∧ a.kind = b.kind ∧ a.sum = b.sum ∧ a.set = b.set ∧ a.last = b.last) ∧ a.n = b.n ∧ a.mn = b.mn ∧ a.mx = b.mx ∧ a.total = b.total ∧ a.dropped = b.dropped then
    .isTrue (by
      obtain ⟨⟨h0, h1, h2, h3, h4⟩, h5, h6, h7, h8, h9⟩ := h
      cases a; cases b
      simp only at *
      subst h0; subst h1; subst h2; subst h3; subst h4; subst h5; subst h6; subst h7; subst h8; subst h9
      rfl)
  else .isFalse (fun e => h (by subst e; exact ⟨⟨rfl, rfl, rfl, rfl, rfl⟩, rfl, rfl, rfl, rfl, rfl⟩))
theorem stood_row : Tryz.prog.stoodInHeld 55 = false := by kernel_rfl
set_option maxRecDepth 100000 in
set_option maxHeartbeats 4000000 in
theorem neq_row (w : World) (r s : R) (h : r ≠ s) : (binOp .neq 55 r.v s.v).run Tryz.prog w = .ok (.bool true) w := by
  obtain ⟨key, kind, sum, st, last, n', mn, mx, total, dropped⟩ := r
  obtain ⟨key', kind', sum', st', last', n'', mn', mx', total', dropped'⟩ := s
  unfold R.v
  simp only at *
  rw [run_neq_struct, run_equalIn_struct _ _ _ _ _ (by kernel_rfl) stood_row]
  by_cases e0 : key = key'
  · subst e0
    by_cases e1 : kind = kind'
    · subst e1
      simp [go_sem]
      rintro rfl rfl rfl rfl rfl rfl rfl rfl
      exact h rfl
    · simp [go_sem, e1]
  · have e := txt_ne e0
    simp [go_sem, e]
end Go.Proofs.YtnlepnfdgdbkoaaGreatDoor
namespace Go.Proofs.YtnlepnfdgdbkoaaGreatDoor
open Go.RowKit M
set_option linter.unusedVariables false
theorem fx_val (n m : Nat) : Value.int .u8 ((n : Int) / 2 ^ (8 * m) % 256) = b2v (UInt8.ofNat (dv n m)) := by
  rw [shr_dv]; unfold b2v; congr 1
set_option maxRecDepth 100000 in
theorem iFx_bad (n k : Int) (w : World) (h : k < 1 ∨ 7 < k ∨ n < 0) :
    Calls Tryz.prog 127 #[.int .i64 n, .int .i64 k] w fun e w' => e = .returned (.string ⟨#[]⟩) ∧ w = w' := by
  by_cases h1 : k < 1
  · go_enter Tryz.func127, Tryz.ntmps127
    go_wp2
    go_ret
    exact ⟨rfl, rfl⟩
  · by_cases h2 : 7 < k
    · go_enter Tryz.func127, Tryz.ntmps127
      go_wp2
      go_ret
      exact ⟨rfl, rfl⟩
    · have h3 : n < 0 := by omega
      go_enter Tryz.func127, Tryz.ntmps127
      go_wp2
      go_ret
      exact ⟨rfl, rfl⟩
set_option maxRecDepth 100000 in
theorem iFx_big (n k : Nat) (w : World) (hn : n ≤ 9223372036854775807) (h1 : 1 ≤ k) (h2 : k ≤ 7) (hb : 256 ^ k ≤ n) :
    Calls Tryz.prog 127 #[.int .i64 n, .int .i64 k] w fun e w' => e = .returned (.string ⟨#[]⟩) ∧ w = w' := by
  have hne := shr_dv_ne n k hb
  go_enter Tryz.func127, Tryz.ntmps127
  go_wp2
  all_goals first | (exfalso; omega) | (go_ret; exact ⟨rfl, rfl⟩)
set_option maxRecDepth 100000 in
theorem iFx_good (n k : Nat) (w : World) (hn : n ≤ 9223372036854775807) (h1 : 1 ≤ k) (h2 : k ≤ 7) (hb : ¬ 256 ^ k ≤ n) :
    Calls Tryz.prog 127 #[.int .i64 n, .int .i64 k] w fun e w' => e = .returned (.string (fxs n k)) ∧ Below w.heap.size w w' := by
  have hne := shr_dv_eq n k hb
  obtain ⟨i0, hi, hz0, hz1, hz2⟩ := info_parts info_u8
  go_enter Tryz.func127, Tryz.ntmps127
  go_wp2_with (refine wpList_make_full _ rfl _ _ 22 rfl w.heap.size 5 i0 (.int .u8 0) 1 Tryz.underlying22 hi hz0 hz1 .i64 .i64 _ _ k rfl rfl rfl rfl ?c1 ?c2 ?c3 ?_; rotate_left 3; intro w1 hown hg; have HO := Lib.hid hown; have HG := Lib.hid hg; clear hown hg)
  case c1 => omega
  case c2 => unfold maxLen; omega
  go_loopw [6, 28] (fun _ i wr => ∃ j : Nat, j ≤ k ∧ i = .int .i64 j ∧ OwnB wr w.heap.size (.slice (some ⟨w.heap.size, 0, none⟩) k k) (part (fx n k) j) ∧ Below w.heap.size w wr) (fun _ i _ => k - (intOf i).toNat)
  case atStart => exact ⟨0, Nat.zero_le _, rfl, OwnB.made HO.out _ (fx_length n k), (Below.refl _ _).grown HG.out (Nat.le_refl _) (by intro _ h; cases h)⟩
  case round =>
    obtain ⟨j, hj, rfl, ho, hbl⟩ := hrel
    by_cases hlt : j < k
    · obtain ⟨z, hc⟩ := ho.cellEx (by rw [part_length, fx_length]) hlt
      have hf := ho.frz (by rw [part_length, fx_length]) j
      have HO2 := Lib.hid ho
      clear ho
      go_wp2
      go_roundw
      case rel =>
        rw [fx_val]
        have hst := HO2.out.store (fx_length n k) _ (fx_get n k j hlt)
        exact ⟨j + 1, by omega, by go_num, hst.1, hbl.grown hst.2 hbl.size (by intro _ h; cases h; exact Nat.le_refl _)⟩
      case measure => simp [intOf]; omega
    · obtain rfl : j = k := by omega
      have hcv := conv_own ho
      have hp := Lib.hid (part_all (fx n j))
      rw [fx_length] at hp
      have HO2 := Lib.hid ho
      clear ho
      go_wp2
      go_ret
      exact ⟨ret_str (by rw [hp.out]; rfl), hbl⟩
end Go.Proofs.YtnlepnfdgdbkoaaGreatDoor
namespace Go.Proofs.YtnlepnfdgdbkoaaGreatDoor
open Go.RowKit M
set_option linter.unusedVariables false
def four (n : Int) : ByteArray := if 0 ≤ n ∧ n ≤ 4294967295 then fxs n.toNat 4 else ⟨#[]⟩
theorem iFx4 (n : Int) (w : World) (h0 : -9223372036854775808 ≤ n) (h1 : n ≤ 9223372036854775807) :
    Calls Tryz.prog 127 #[.int .i64 n, .int .i64 4] w (Gives (.string (four n)) w) := by
  by_cases h : 0 ≤ n
  · obtain ⟨m, rfl⟩ := Int.eq_ofNat_of_zero_le h
    by_cases k : 256 ^ 4 ≤ m
    · have e : four (m : Int) = ⟨#[]⟩ := if_neg (by omega)
      rw [e]
      exact (iFx_big m 4 w (by omega) (by decide) (by decide) k).mono fun _ _ q => gives_same q
    · have e : four (m : Int) = fxs m 4 := if_pos (by omega)
      rw [e]
      exact (iFx_good m 4 w (by omega) (by decide) (by decide) k).mono fun _ _ q => q
  · have e : four n = ⟨#[]⟩ := if_neg (by omega)
    rw [e]
    exact (iFx_bad n 4 w (by omega)).mono fun _ _ q => gives_same q
theorem u8_zero (m : Nat) : (UInt8.ofNat m == 0) = decide (m % 256 = 0) := by
  by_cases h : m % 256 = 0
  · rw [decide_eq_true h, beq_iff_eq]
    apply UInt8.toNat_inj.1
    simpa using h
  · rw [decide_eq_false h, beq_eq_false_iff_ne]
    intro e
    apply h
    have := congrArg UInt8.toNat e
    simpa using this
theorem trim_fx {n : Nat} (h : n ≤ 4294967295) : Lib.trimLeftB (fx n 4) 0 = fx n (nbV n) := by
  have hd : n / 256 ^ 3 = n / 16777216 ∧ n / 256 ^ 2 = n / 65536 ∧ n / 256 ^ 1 = n / 256 ∧ n / 256 ^ 0 = n := ⟨rfl, rfl, rfl, by simp⟩
  by_cases h0 : n = 0
  · subst h0; decide
  · by_cases h1 : n < 256
    · rw [nb_1 (by omega)]
      have a3 : decide (dv n 3 % 256 = 0) = true := decide_eq_true (by unfold dv; omega)
      have a2 : decide (dv n 2 % 256 = 0) = true := decide_eq_true (by unfold dv; omega)
      have a1 : decide (dv n 1 % 256 = 0) = true := decide_eq_true (by unfold dv; omega)
      have a0 : decide (dv n 0 % 256 = 0) = false := decide_eq_false (by unfold dv; omega)
      simp [fx, Lib.trimLeftB, List.dropWhile, u8_zero, a3, a2, a1, a0, -decide_eq_true_eq, -decide_eq_false_iff_not]
    · by_cases h2 : n < 65536
      · rw [nb_2 (by omega)]
        have a3 : decide (dv n 3 % 256 = 0) = true := decide_eq_true (by unfold dv; omega)
        have a2 : decide (dv n 2 % 256 = 0) = true := decide_eq_true (by unfold dv; omega)
        have a1 : decide (dv n 1 % 256 = 0) = false := decide_eq_false (by unfold dv; omega)
        simp [fx, Lib.trimLeftB, List.dropWhile, u8_zero, a3, a2, a1, -decide_eq_true_eq, -decide_eq_false_iff_not]
      · by_cases h3 : n < 16777216
        · rw [nb_3 (by omega)]
          have a3 : decide (dv n 3 % 256 = 0) = true := decide_eq_true (by unfold dv; omega)
          have a2 : decide (dv n 2 % 256 = 0) = false := decide_eq_false (by unfold dv; omega)
          simp [fx, Lib.trimLeftB, List.dropWhile, u8_zero, a3, a2, -decide_eq_true_eq, -decide_eq_false_iff_not]
        · rw [nb_4 (by omega)]
          have a3 : decide (dv n 3 % 256 = 0) = false := decide_eq_false (by unfold dv; omega)
          simp [fx, Lib.trimLeftB, u8_zero, a3, -decide_eq_true_eq, -decide_eq_false_iff_not]
def bare (n : Int) : ByteArray := ⟨(Lib.trimLeftB (four n).data.toList 0).toArray⟩
theorem bare_in {n : Int} (h : 0 ≤ n ∧ n ≤ 4294967295) : bare n = unb n.toNat := by
  have e : four n = fxs n.toNat 4 := if_pos h
  have t := trim_fx (n := n.toNat) (by omega)
  unfold bare
  rw [e, show (fxs n.toNat 4).data.toList = fx n.toNat 4 from rfl, t]
  rfl
theorem bare_out {n : Int} (h : ¬ (0 ≤ n ∧ n ≤ 4294967295)) : bare n = ⟨#[]⟩ := by
  have e : four n = ⟨#[]⟩ := if_neg h
  unfold bare; rw [e]; rfl
theorem bare_size (n : Int) : (bare n).size ≤ 4 := by
  by_cases h : 0 ≤ n ∧ n ≤ 4294967295
  · rw [bare_in h, unb_size]; exact nbV_le _
  · rw [bare_out h]; exact Nat.zero_le _
theorem key_empty : keyOkV ⟨#[]⟩ = false := by decide
theorem unV_bare (n : Int) : unV n = if keyOkV (bare n) = true then some (bare n) else none := by
  by_cases h : 1 ≤ n ∧ n ≤ 4294967295
  · rw [bare_in (by omega)]; exact if_pos h
  · have e : unV n = none := if_neg h
    by_cases h' : 0 ≤ n ∧ n ≤ 4294967295
    · obtain rfl : n = 0 := by omega
      rw [e, bare_in h']
      rfl
    · rw [e, bare_out h', key_empty]; rfl
set_option maxRecDepth 100000 in
theorem iUnpack_any (w : World) (n : Int) (h0 : -9223372036854775808 ≤ n) (h1 : n ≤ 9223372036854775807) :
    Calls Tryz.prog 116 #[.int .i64 n] w (Gives (unT (unV n)) w) := by
  have HF := Lib.hid (iFx4 n w h0 h1)
  have HT := fun W => Lib.hid (Tryz.strings_TrimLeft_one (four n) 0 (by decide) W)
  have hs : (bare n).size ≤ maxLen := by have := bare_size n; unfold maxLen; omega
  have HK := fun W => Lib.hid (iKeyOk_same W (bare n) hs)
  have E := Lib.hid (unV_bare n)
  have HB := Lib.hid (show (⟨(Lib.trimLeftB (four n).data.toList 0).toArray⟩ : ByteArray) = bare n from rfl)
  rw [HB.out] at HT
  clear HB hs
  generalize bare n = s at *
  generalize four n = f at *
  cases hk : keyOkV s with
  | false =>
    rw [hk] at HK
    rw [if_neg (by rw [hk]; simp)] at E
    clear hk
    go_enter Tryz.func116, Tryz.ntmps116
    go_wp2_with fail
    refine HF.out.mono ?_
    rintro e w1 ⟨rfl, hb1⟩
    go_wp2_with fail
    refine (HT w1).out.mono ?_
    rintro e w2 ⟨rfl, rfl⟩
    go_wp2_with fail
    refine (HK _).out.mono ?_
    rintro e w3 ⟨rfl, rfl⟩
    go_wp2_with fail
    go_ret2
    exact ⟨by rw [E.out]; rfl, hb1⟩
  | true =>
    rw [hk] at HK
    rw [if_pos hk] at E
    clear hk
    go_enter Tryz.func116, Tryz.ntmps116
    go_wp2_with fail
    refine HF.out.mono ?_
    rintro e w1 ⟨rfl, hb1⟩
    go_wp2_with fail
    refine (HT w1).out.mono ?_
    rintro e w2 ⟨rfl, rfl⟩
    go_wp2_with fail
    refine (HK _).out.mono ?_
    rintro e w3 ⟨rfl, rfl⟩
    go_wp2_with fail
    go_ret2
    exact ⟨by rw [E.out]; rfl, hb1⟩
end Go.Proofs.YtnlepnfdgdbkoaaGreatDoor
namespace Go.Proofs.YtnlepnfdgdbkoaaGreatDoor
open Go.RowKit M
set_option linter.unusedVariables false
theorem untagV_pos {n : Int} (h : 0 ≤ n) : untagV n = (match unV (n / 4) with | some s => if 1 ≤ n % 4 then some (s, n % 4) else none | none => none) := by
  by_cases hn : 1 ≤ n ∧ n ≤ 17179869183
  · exact if_pos hn
  · have e : unV (n / 4) = none := if_neg (by omega)
    rw [e]
    exact if_neg hn
theorem unV_low {n : Int} (h : n ≤ 0) : unV n = none := if_neg (by omega)
set_option maxRecDepth 100000 in
theorem iUntag_any (w : World) (n : Int) (h0 : -9223372036854775808 ≤ n) (h1 : n ≤ 9223372036854775807) :
    Calls Tryz.prog 95 #[.int .i64 n] w (Gives (untT (untagV n)) w) := by
  by_cases hn : 0 ≤ n
  · have E := untagV_pos hn
    have HU := Lib.hid (iUnpack_any w (n / 4) (by omega) (by omega))
    have m0 : 0 ≤ n % 4 := by omega
    have m3 : n % 4 ≤ 3 := by omega
    cases hu : unV (n / 4) with
    | none =>
      rw [hu] at E
      rw [hu, unT_none] at HU
      have HE := Lib.hid E
      clear hu E
      go_enter Tryz.func95, Tryz.ntmps95
      go_wp2_with (go_at_call 116; refine HU.out.mono ?_; rintro e w2 ⟨rfl, hb⟩)
      go_ret2
      exact ⟨by rw [HE.out]; rfl, hb⟩
    | some s =>
      rw [hu] at E
      rw [hu, unT_some] at HU
      simp only at E
      by_cases hr : 1 ≤ n % 4
      · rw [if_pos hr] at E
        have HE := Lib.hid E
        clear hu E
        go_enter Tryz.func95, Tryz.ntmps95
        go_wp2_with (first | (go_at_call 116; refine HU.out.mono ?_; rintro e w2 ⟨rfl, hb⟩) | (go_at_call 69; refine (isKind_yes _ _ (by omega) (by omega)).mono ?_; rintro e w' ⟨rfl, rfl⟩))
        go_ret2
        exact ⟨by rw [HE.out]; rfl, hb⟩
      · rw [if_neg hr] at E
        have HE := Lib.hid E
        clear hu E
        go_enter Tryz.func95, Tryz.ntmps95
        go_wp2_with (first | (go_at_call 116; refine HU.out.mono ?_; rintro e w2 ⟨rfl, hb⟩) | (go_at_call 69; refine (isKind_no _ _ (by omega)).mono ?_; rintro e w' ⟨rfl, rfl⟩))
        go_ret2
        exact ⟨by rw [HE.out]; rfl, hb⟩
  · have E := Lib.hid (show untagV n = none from if_neg (by omega))
    have hq : n.tdiv 4 ≤ 0 := by
      have := Int.tdiv_nonneg (a := -n) (b := 4) (by omega) (by omega)
      rw [Int.neg_tdiv] at this; omega
    have hq2 : -9223372036854775808 ≤ n.tdiv 4 := by
      have : (-n).tdiv 4 = (-n) / 4 := Int.tdiv_eq_ediv_of_nonneg (by omega)
      rw [Int.neg_tdiv] at this; omega
    have HU := Lib.hid (iUnpack_any w (n.tdiv 4) hq2 (by omega))
    rw [unV_low hq, unT_none] at HU
    clear hq
    go_enter Tryz.func95, Tryz.ntmps95
    go_wp2_with (go_at_call 116; refine HU.out.mono ?_; rintro e w2 ⟨rfl, hb⟩)
    go_ret2
    exact ⟨by rw [E.out]; rfl, hb⟩
end Go.Proofs.YtnlepnfdgdbkoaaGreatDoor
namespace Go.Proofs.YtnlepnfdgdbkoaaGreatDoor
open Go.RowKit M
set_option linter.unusedVariables false
theorem bl_irrefl (x : List UInt8) : Go.Op.bytesLess x x = false := by
  induction x with
  | nil => rfl
  | cons a x ih =>
    have : ¬ a < a := fun k => by have : a.toNat < a.toNat := k; omega
    simp [Go.Op.bytesLess, ih, this]
theorem bl_trans (x y z : List UInt8) (h1 : Go.Op.bytesLess x y = true) (h2 : Go.Op.bytesLess y z = true) : Go.Op.bytesLess x z = true := by
  induction x generalizing y z with
  | nil =>
    cases z with
    | nil => cases y <;> simp [Go.Op.bytesLess] at h2
    | cons c z => rfl
  | cons a x ih =>
    cases y with
    | nil => simp [Go.Op.bytesLess] at h1
    | cons b y =>
      cases z with
      | nil => simp [Go.Op.bytesLess] at h2
      | cons c z =>
        simp only [Go.Op.bytesLess, Bool.or_eq_true, Bool.and_eq_true, decide_eq_true_eq, beq_iff_eq] at h1 h2 ⊢
        rcases h1 with h1 | ⟨rfl, h1⟩
        · rcases h2 with h2 | ⟨rfl, h2⟩
          · exact .inl (by have a1 : a.toNat < b.toNat := h1; have a2 : b.toNat < c.toNat := h2; show a.toNat < c.toNat; omega)
          · exact .inl h1
        · rcases h2 with h2 | ⟨rfl, h2⟩
          · exact .inl h2
          · exact .inr ⟨rfl, ih _ _ h1 h2⟩
theorem bl_total (x y : List UInt8) (h1 : Go.Op.bytesLess x y = false) (h2 : Go.Op.bytesLess y x = false) : x = y := by
  induction x generalizing y with
  | nil => cases y with
    | nil => rfl
    | cons b y => simp [Go.Op.bytesLess] at h1
  | cons a x ih =>
    cases y with
    | nil => simp [Go.Op.bytesLess] at h2
    | cons b y =>
      simp only [Go.Op.bytesLess, Bool.or_eq_false_iff, decide_eq_false_iff_not, Bool.and_eq_false_iff, beq_eq_false_iff_ne] at h1 h2
      have e : a = b := by
        have a1 : ¬ a.toNat < b.toNat := h1.1
        have a2 : ¬ b.toNat < a.toNat := h2.1
        exact UInt8.toNat_inj.1 (by omega)
      subst e
      rw [ih y (by rcases h1.2 with k | k; exact absurd rfl k; exact k) (by rcases h2.2 with k | k; exact absurd rfl k; exact k)]
theorem strLt_irrefl (x : ByteArray) : strLt x x = false := bl_irrefl _
theorem strLt_trans {x y z : ByteArray} (h1 : strLt x y = true) (h2 : strLt y z = true) : strLt x z = true := bl_trans _ _ _ h1 h2
theorem strLt_total {x y : ByteArray} (h1 : strLt x y = false) (h2 : strLt y x = false) : x = y := by
  have := bl_total _ _ h1 h2
  have e : ∀ b : ByteArray, b.toList = b.data.toList := Go.Lib.toList_data
  rw [e, e] at this
  cases x; cases y
  simp only [ByteArray.mk.injEq]
  exact Array.ext' this
theorem strLt_le_trans {x y z : ByteArray} (h1 : strLt x y = true) (h2 : strLt z y = false) : strLt x z = true := by
  cases h : strLt x z with
  | true => rfl
  | false =>
    by_cases e : strLt z x = true
    · rw [strLt_trans e h1] at h2; cases h2
    · have := strLt_total h (by simpa using e)
      subst this; rw [h1] at h2; cases h2
theorem strLe_trans {x y z : ByteArray} (h1 : strLt y x = false) (h2 : strLt z y = false) : strLt z x = false := by
  cases h : strLt z x with
  | false => rfl
  | true => rw [strLt_le_trans h h1] at h2; cases h2
def sortV (l : List R) : List R := l.foldl (fun s r => insV r s) []
def UpV (k : ByteArray) : List R → Prop
  | [] => True
  | x :: l => strLt x.key k = false ∧ UpV x.key l
def AscV : List R → Prop
  | [] => True
  | x :: l => UpV x.key l
theorem UpV.ins {k : ByteArray} {l : List R} (h : UpV k l) (r : R) (hr : strLt r.key k = false) : UpV k (insV r l) := by
  induction l generalizing k with
  | nil => exact ⟨hr, trivial⟩
  | cons x l ih =>
    simp only [insV]
    cases e : strLt r.key x.key with
    | true =>
      refine ⟨hr, ?_, h.2⟩
      cases e2 : strLt x.key r.key with
      | false => rfl
      | true => have := strLt_trans e e2; rw [strLt_irrefl] at this; cases this
    | false => exact ⟨h.1, ih h.2 e⟩
theorem AscV.ins {l : List R} (h : AscV l) (r : R) : AscV (insV r l) := by
  cases l with
  | nil => exact trivial
  | cons x l =>
    simp only [insV]
    cases e : strLt r.key x.key with
    | true =>
      refine ⟨?_, h⟩
      cases e2 : strLt x.key r.key with
      | false => rfl
      | true => have := strLt_trans e e2; rw [strLt_irrefl] at this; cases this
    | false => exact UpV.ins h r e
theorem asc_sort (l : List R) : AscV (sortV l) := by
  have : ∀ (l s : List R), AscV s → AscV (l.foldl (fun s r => insV r s) s) := by
    intro l
    induction l with
    | nil => exact fun s h => h
    | cons x l ih => exact fun s h => ih _ (h.ins x)
  exact this l [] trivial
theorem UpV.all {k : ByteArray} {l : List R} (h : UpV k l) : ∀ x ∈ l, strLt x.key k = false := by
  induction l generalizing k with
  | nil => intro x hx; cases hx
  | cons y l ih =>
    intro x hx
    rcases List.mem_cons.1 hx with rfl | hx
    · exact h.1
    · exact strLe_trans h.1 (ih h.2 x hx)
theorem ins_at (r : R) (A B : List R) (hA : AscV (A ++ B)) (h1 : A = [] ∨ ∃ A' a, A = A' ++ [a] ∧ strLt r.key a.key = false) (h2 : B = [] ∨ ∃ b B', B = b :: B' ∧ strLt r.key b.key = true) : insV r (A ++ B) = A ++ r :: B := by
  have base : insV r B = r :: B := by
    rcases h2 with rfl | ⟨b, B', rfl, hb⟩
    · rfl
    · simp [insV, hb]
  have main : ∀ A : List R, (∀ x ∈ A, strLt r.key x.key = false) → insV r (A ++ B) = A ++ r :: B := by
    intro A hA
    induction A with
    | nil => exact base
    | cons x A ih =>
      simp only [List.cons_append, insV, hA x List.mem_cons_self, Bool.false_eq_true, if_false]
      rw [ih (fun y hy => hA y (List.mem_cons_of_mem _ hy))]
  apply main
  rcases h1 with rfl | ⟨A', a, rfl, ha⟩
  · intro x hx; cases hx
  · have up : ∀ (A' : List R) (k : ByteArray) (B : List R), UpV k (A' ++ [a] ++ B) → ∀ x ∈ A', strLt a.key x.key = false := by
      intro A'
      induction A' with
      | nil => intro k B _ x hx; cases hx
      | cons y A' ih =>
        intro k B h x hx
        rcases List.mem_cons.1 hx with rfl | hx
        · exact UpV.all h.2 a (by simp)
        · exact ih _ B h.2 x hx
    intro x hx
    rcases List.mem_append.1 hx with hx | hx
    · refine strLe_trans ?_ ha
      cases A' with
      | nil => cases hx
      | cons y A' =>
        rcases List.mem_cons.1 hx with rfl | hx
        · exact UpV.all (show UpV x.key (A' ++ [a] ++ B) from hA) a (by simp)
        · exact up A' y.key B hA x hx
    · rw [List.mem_singleton] at hx; subst hx; exact ha
def oneFrom (k : ByteArray) : List R → List R
  | [] => []
  | x :: l => if x.key = k then oneFrom k l else x :: oneFrom x.key l
def oneV : List R → List R
  | [] => []
  | x :: l => x :: oneFrom x.key l
theorem one_mem (k : ByteArray) (l : List R) (c : ByteArray) : c = k ∨ (∃ y ∈ oneFrom k l, y.key = c) ↔ c = k ∨ ∃ y ∈ l, y.key = c := by
  induction l generalizing k with
  | nil => rfl
  | cons x l ih =>
    simp only [oneFrom]
    by_cases e : x.key = k
    · rw [if_pos e, ih]
      constructor
      · rintro (h | ⟨y, hy, h⟩)
        · exact .inl h
        · exact .inr ⟨y, List.mem_cons_of_mem _ hy, h⟩
      · rintro (h | ⟨y, hy, h⟩)
        · exact .inl h
        · rcases List.mem_cons.1 hy with rfl | hy
          · exact .inl (h.symm.trans e)
          · exact .inr ⟨y, hy, h⟩
    · rw [if_neg e]
      have := ih x.key
      constructor
      · rintro (h | ⟨y, hy, h⟩)
        · exact .inl h
        · rcases List.mem_cons.1 hy with rfl | hy
          · exact .inr ⟨y, List.mem_cons_self, h⟩
          · rcases this.1 (.inr ⟨y, hy, h⟩) with h | ⟨y, hy, h⟩
            · exact .inr ⟨x, List.mem_cons_self, h.symm⟩
            · exact .inr ⟨y, List.mem_cons_of_mem _ hy, h⟩
      · rintro (h | ⟨y, hy, h⟩)
        · exact .inl h
        · rcases List.mem_cons.1 hy with rfl | hy
          · exact .inr ⟨y, List.mem_cons_self, h⟩
          · rcases this.2 (.inr ⟨y, hy, h⟩) with h | ⟨y, hy, h⟩
            · exact .inr ⟨x, List.mem_cons_self, h.symm⟩
            · exact .inr ⟨y, List.mem_cons_of_mem _ hy, h⟩
theorem strLt_ne {x y : ByteArray} (h : strLt x y = true) : x ≠ y := fun e => by subst e; rw [strLt_irrefl] at h; cases h
theorem oneFrom_ins (r : R) (k : ByteArray) (l : List R) (h : UpV k l) (hr : strLt r.key k = false) :
    oneFrom k (insV r l) = if r.key = k ∨ ∃ y ∈ l, y.key = r.key then oneFrom k l else insV r (oneFrom k l) := by
  classical
  induction l generalizing k with
  | nil => simp [insV, oneFrom]
  | cons x l ih =>
    simp only [insV]
    cases e : strLt r.key x.key with
    | true =>
      have hxr : x.key ≠ r.key := fun k => strLt_ne e k.symm
      have hall : ¬ ∃ y ∈ x :: l, y.key = r.key := by
        rintro ⟨y, hy, e2⟩
        rcases List.mem_cons.1 hy with rfl | hy
        · exact hxr e2
        · have := UpV.all h.2 y hy
          rw [e2, e] at this; cases this
      have hxk : x.key ≠ k := fun e2 => by rw [e2, hr] at e; cases e
      rw [if_pos rfl]
      by_cases hk : r.key = k
      · rw [if_pos (.inl hk)]
        show (if r.key = k then _ else _) = _
        rw [if_pos hk]
      · rw [if_neg (by rintro (h9 | h9); exact hk h9; exact hall h9)]
        simp only [oneFrom, if_neg hk, if_neg hxr, if_neg hxk, insV, e, if_true]
    | false =>
      rw [if_neg (by simp)]
      by_cases hxk : x.key = k
      · simp only [oneFrom, if_pos hxk]
        rw [ih k (hxk ▸ h.2) hr]
        have hiff : (r.key = k ∨ ∃ y ∈ l, y.key = r.key) ↔ (r.key = k ∨ ∃ y ∈ x :: l, y.key = r.key) := by
          constructor
          · rintro (h9 | ⟨y, hy, h9⟩)
            · exact .inl h9
            · exact .inr ⟨y, List.mem_cons_of_mem _ hy, h9⟩
          · rintro (h9 | ⟨y, hy, h9⟩)
            · exact .inl h9
            · rcases List.mem_cons.1 hy with rfl | hy
              · exact .inl (h9.symm.trans hxk)
              · exact .inr ⟨y, hy, h9⟩
        by_cases c : r.key = k ∨ ∃ y ∈ l, y.key = r.key
        · rw [if_pos c, if_pos (hiff.1 c)]
        · rw [if_neg c, if_neg (fun d => c (hiff.2 d))]
      · simp only [oneFrom, if_neg hxk]
        rw [ih x.key h.2 e]
        have hrk : r.key ≠ k := fun e2 => hxk (strLt_total h.1 (by rw [← e2]; exact e))
        have hiff : (r.key = x.key ∨ ∃ y ∈ l, y.key = r.key) ↔ (r.key = k ∨ ∃ y ∈ x :: l, y.key = r.key) := by
          constructor
          · rintro (h9 | ⟨y, hy, h9⟩)
            · exact .inr ⟨x, List.mem_cons_self, h9.symm⟩
            · exact .inr ⟨y, List.mem_cons_of_mem _ hy, h9⟩
          · rintro (h9 | ⟨y, hy, h9⟩)
            · exact absurd h9 hrk
            · rcases List.mem_cons.1 hy with rfl | hy
              · exact .inl h9.symm
              · exact .inr ⟨y, hy, h9⟩
        by_cases c : r.key = x.key ∨ ∃ y ∈ l, y.key = r.key
        · rw [if_pos c, if_pos (hiff.1 c)]
        · rw [if_neg c, if_neg (fun d => c (hiff.2 d))]
          simp only [insV, e, Bool.false_eq_true, if_false]
theorem oneV_ins (r : R) (l : List R) (h : AscV l) : oneV (insV r l) = putV (oneV l) r := by
  classical
  cases l with
  | nil => rfl
  | cons x l =>
    have hany : ((oneV (x :: l)).any fun y => decide (y.key = r.key)) = true ↔ r.key = x.key ∨ ∃ y ∈ l, y.key = r.key := by
      rw [← one_mem]
      simp only [oneV, List.any_cons, Bool.or_eq_true, decide_eq_true_eq, List.any_eq_true]
      constructor
      · rintro (h | h)
        · exact .inl h.symm
        · exact .inr h
      · rintro (h | h)
        · exact .inl h.symm
        · exact .inr h
    unfold putV
    simp only [insV]
    cases e : strLt r.key x.key with
    | true =>
      have hxr : x.key ≠ r.key := fun k => strLt_ne e k.symm
      have hall : ¬ (r.key = x.key ∨ ∃ y ∈ l, y.key = r.key) := by
        rintro (h1 | ⟨y, hy, e2⟩)
        · exact hxr h1.symm
        · have := UpV.all h y hy
          rw [e2, e] at this; cases this
      rw [if_pos rfl, if_neg (fun k => hall (hany.1 k))]
      simp only [oneV, oneFrom, if_neg hxr, insV, e, if_true]
    | false =>
      rw [if_neg (by simp)]
      show x :: oneFrom x.key (insV r l) = _
      rw [oneFrom_ins r x.key l h e]
      by_cases c : r.key = x.key ∨ ∃ y ∈ l, y.key = r.key
      · rw [if_pos c, if_pos (hany.2 c)]; rfl
      · rw [if_neg c, if_neg (fun k => c (hany.1 k))]
        simp only [oneV, insV, e, Bool.false_eq_true, if_false]
theorem sortV_snoc (l : List R) (r : R) : sortV (l ++ [r]) = insV r (sortV l) := by simp [sortV]
theorem report_sorted (l : List R) (h : ∀ r ∈ l, quietV r = false → r.kind ≠ 0) : oneV (sortV (l.filter fun r => !quietV r)) = l.foldl addV [] := by
  have main : ∀ (n : Nat) (l : List R), l.length = n → (∀ r ∈ l, quietV r = false → r.kind ≠ 0) → oneV (sortV (l.filter fun r => !quietV r)) = l.foldl addV [] := by
    intro n
    induction n with
    | zero => intro l hl _; rw [List.length_eq_zero_iff.1 hl]; rfl
    | succ n ih =>
      intro l hl h
      have hne : l ≠ [] := fun e => by rw [e] at hl; cases hl
      rw [← List.dropLast_concat_getLast hne] at h ⊢
      generalize hx : l.getLast hne = x at h ⊢
      have hl2 : l.dropLast.length = n := by rw [List.length_dropLast, hl]; omega
      generalize l.dropLast = m at h hl2 ⊢
      rw [List.filter_append, List.foldl_append, ← ih m hl2 (fun r hr => h r (List.mem_append_left _ hr))]
      simp only [List.foldl_cons, List.foldl_nil, addV]
      cases q : quietV x with
      | true => simp [q]
      | false =>
        rw [if_pos ⟨h x (by simp) q, rfl⟩, show [x].filter (fun r => !quietV r) = [x] by simp [q], sortV_snoc, oneV_ins _ _ (asc_sort _)]
  exact main _ l rfl h
def keptL (kp : Nat → Bool) (l : List R) (m : Nat) : List R := ((List.range m).filter kp).map fun j => l.getD j zeroR
theorem keptL_succ (kp : Nat → Bool) (l : List R) (m : Nat) : keptL kp l (m + 1) = keptL kp l m ++ (if kp m = true then [l.getD m zeroR] else []) := by
  unfold keptL
  rw [List.range_succ, List.filter_append, List.map_append]
  congr 1
  cases h : kp m <;> simp [h]
theorem take_next (l : List R) (m : Nat) (h : m < l.length) : l.take (m + 1) = l.take m ++ [l.getD m zeroR] := by
  rw [List.take_add_one, List.getD_eq_getElem?_getD, List.getElem?_eq_getElem h]
  rfl
theorem keptL_all {kp : Nat → Bool} {l : List R} {m : Nat} (hm : m ≤ l.length) (h : ∀ j, j < m → kp j = true) : keptL kp l m = l.take m := by
  induction m with
  | zero => rfl
  | succ m ih => rw [keptL_succ, ih (by omega) (fun j hj => h j (by omega)), h m (by omega), if_pos rfl, ← take_next l m (by omega)]
theorem keptL_le (kp : Nat → Bool) (l : List R) (m : Nat) : (keptL kp l m).length ≤ m := by
  unfold keptL
  rw [List.length_map]
  exact Nat.le_trans (List.length_filter_le _ _) (by simp)
def strikeV (kp : Nat → Bool) (l : List R) (m : Nat) : List R := keptL kp l m ++ l.drop (keptL kp l m).length
theorem strikeV_length {kp : Nat → Bool} {l : List R} {m : Nat} (hm : m ≤ l.length) : (strikeV kp l m).length = l.length := by
  have := keptL_le kp l m
  rw [strikeV, List.length_append, List.length_drop]; omega
theorem strikeV_start {kp : Nat → Bool} {l : List R} {k : Nat} (hk : k < l.length) (hall : ∀ j, j < k → kp j = true) (hno : kp k = false) : keptL kp l (k + 1) = l.take k ∧ strikeV kp l (k + 1) = l := by
  have e : keptL kp l (k + 1) = l.take k := by rw [keptL_succ, hno, keptL_all (by omega) hall]; simp
  refine ⟨e, ?_⟩
  rw [strikeV, e, List.length_take, Nat.min_eq_left (by omega), List.take_append_drop]
theorem strikeV_high {kp : Nat → Bool} {l : List R} {m : Nat} (j : Nat) (hj : (keptL kp l m).length ≤ j) : (strikeV kp l m).getD j zeroR = l.getD j zeroR := by
  rw [strikeV, List.getD_eq_getElem?_getD, List.getElem?_append_right hj, List.getElem?_drop, List.getD_eq_getElem?_getD]
  congr 2; omega
theorem strikeV_skip {kp : Nat → Bool} {l : List R} {m : Nat} (h : kp m = false) : keptL kp l (m + 1) = keptL kp l m ∧ strikeV kp l (m + 1) = strikeV kp l m := by
  have e : keptL kp l (m + 1) = keptL kp l m := by rw [keptL_succ, h]; simp
  exact ⟨e, by rw [strikeV, e]; rfl⟩
theorem strikeV_keep {kp : Nat → Bool} {l : List R} {m : Nat} (hm : m < l.length) (h : kp m = true) :
    (keptL kp l (m + 1)).length = (keptL kp l m).length + 1 ∧ strikeV kp l (m + 1) = (strikeV kp l m).set (keptL kp l m).length (l.getD m zeroR) := by
  have e : keptL kp l (m + 1) = keptL kp l m ++ [l.getD m zeroR] := by rw [keptL_succ, h]; simp
  have hle := keptL_le kp l m
  refine ⟨by rw [e]; simp, ?_⟩
  unfold strikeV
  rw [List.set_append_right _ _ (Nat.le_refl _), Nat.sub_self, e, List.append_assoc]
  congr 1
  rw [List.length_append, List.length_singleton, List.drop_eq_getElem_cons (by omega : (keptL kp l m).length < l.length), List.set_cons_zero]
  rfl
theorem strikeV_done (kp : Nat → Bool) (l : List R) (m : Nat) : (strikeV kp l m).take (keptL kp l m).length = keptL kp l m := by
  rw [strikeV, List.take_left]
theorem keptL_filter (f : R → Bool) (l : List R) : keptL (fun j => f (l.getD j zeroR)) l l.length = l.filter f := by
  have : ∀ m, m ≤ l.length → keptL (fun j => f (l.getD j zeroR)) l m = (l.take m).filter f := by
    intro m
    induction m with
    | zero => intro _; rfl
    | succ m ih =>
      intro hm
      rw [keptL_succ, ih (by omega), take_next l m (by omega), List.filter_append]
      congr 1
      generalize l.getD m zeroR = x
      cases h : f x <;> simp [h]
  rw [this _ (Nat.le_refl _), List.take_length]
def lastKey (k : ByteArray) : List R → ByteArray
  | [] => k
  | x :: l => lastKey x.key l
theorem lastKey_snoc (k : ByteArray) (l : List R) (x : R) : lastKey k (l ++ [x]) = x.key := by
  induction l generalizing k with
  | nil => rfl
  | cons y l ih => exact ih y.key
theorem oneFrom_snoc (k : ByteArray) (l : List R) (x : R) : oneFrom k (l ++ [x]) = oneFrom k l ++ (if x.key = lastKey k l then [] else [x]) := by
  induction l generalizing k with
  | nil =>
    show (if x.key = k then oneFrom k [] else x :: oneFrom x.key []) = [] ++ (if x.key = k then [] else [x])
    by_cases c : x.key = k
    · rw [if_pos c, if_pos c]; rfl
    · rw [if_neg c, if_neg c]; rfl
  | cons y l ih =>
    simp only [List.cons_append, oneFrom, lastKey]
    by_cases e : y.key = k
    · rw [if_pos e, if_pos e, ih, ← e]
      congr 1
    · rw [if_neg e, if_neg e, ih]; rfl
def newKey (l : List R) (j : Nat) : Bool := decide (j = 0) || !decide ((l.getD j zeroR).key = (l.getD (j - 1) zeroR).key)
theorem keptL_one (l : List R) : keptL (newKey l) l l.length = oneV l := by
  have : ∀ m, m ≤ l.length → keptL (newKey l) l m = oneV (l.take m) := by
    intro m
    induction m with
    | zero => intro _; rfl
    | succ m ih =>
      intro hm
      rw [keptL_succ, ih (by omega), take_next l m (by omega)]
      cases m with
      | zero => simp [newKey, oneV, oneFrom]
      | succ m =>
        obtain ⟨x, t, e⟩ : ∃ x t, l.take (m + 1) = x :: t := by
          cases hl : l with
          | nil => rw [hl] at hm; simp at hm
          | cons x t => exact ⟨x, _, List.take_succ_cons⟩
        have hlast : lastKey x.key t = (l.getD m zeroR).key := by
          have e2 := take_next l m (by omega)
          rw [e] at e2
          have : lastKey x.key (x :: t) = (l.getD m zeroR).key := by rw [e2]; exact lastKey_snoc _ _ _
          exact this
        rw [e]
        show oneV (x :: t) ++ _ = x :: oneFrom x.key (t ++ [_])
        rw [oneFrom_snoc, hlast]
        show x :: (oneFrom x.key t ++ _) = x :: (oneFrom x.key t ++ _)
        congr 2
        by_cases c : (l.getD (m + 1) zeroR).key = (l.getD m zeroR).key
        · simp only [newKey, Nat.add_sub_cancel, c, if_true]; simp
        · simp only [newKey, Nat.add_sub_cancel, c, if_false]; simp
  rw [this _ (Nat.le_refl _), List.take_length]
end Go.Proofs.YtnlepnfdgdbkoaaGreatDoor
namespace Go.Proofs.YtnlepnfdgdbkoaaGreatDoor
open Go.RowKit M
set_option linter.unusedVariables false
set_option linter.unusedSimpArgs false
def cmpV (a b : ByteArray) : Int := Lib.compareBytes a.data.toList b.data.toList
theorem compare_less : ∀ (a b : List UInt8), decide (Lib.compareBytes a b < 0) = Go.Op.bytesLess a b
  | [], [] => rfl
  | [], _ :: _ => rfl
  | _ :: _, [] => rfl
  | a :: x, b :: y => by
    have ih := compare_less x y
    simp only [Lib.compareBytes, Go.Op.bytesLess]
    by_cases h : a < b
    · simp [h]
    · by_cases h2 : b < a
      · have hne : (a == b) = false := by rw [beq_eq_false_iff_ne]; intro e; subst e; exact h h2
        simp [h, h2, hne]
      · have e : a = b := by
          have a1 : ¬ a.toNat < b.toNat := h
          have a2 : ¬ b.toNat < a.toNat := h2
          exact UInt8.toNat_inj.1 (by omega)
        subst e
        simp [h, ih]
theorem cmpV_less (a b : ByteArray) : decide (cmpV a b < 0) = strLt a b := by
  unfold cmpV strLt
  rw [compare_less, Lib.toList_data, Lib.toList_data]
set_option maxRecDepth 100000 in
theorem iCompareString (w : World) (a b : ByteArray) : Calls Tryz.prog 145 #[.string a, .string b] w (Same w (.int .i64 (cmpV a b))) := by
  go_enter Tryz.func145, Tryz.ntmps145
  go_wp2
  rw [run_callFunc_extern Tryz.func152 (by kernel_rfl) (by kernel_rfl) (by kernel_rfl) (e := Extern.BytealgCompare.compare) (by kernel_rfl), Lib.run_compareString]
  simp only [Result.andThen]
  rw [Oper.upon_value]
  have HC := Lib.hid (show Ending.returned (.int .i64 (Lib.compareBytes a.data.toList b.data.toList)) = .returned (.int .i64 (cmpV a b)) from rfl)
  generalize cmpV a b = c at *
  generalize Lib.compareBytes a.data.toList b.data.toList = d at *
  go_wp2
  go_ret
  exact ⟨HC.out, rfl⟩
set_option maxRecDepth 100000 in
theorem iCompare (w : World) (a b : ByteArray) : Calls Tryz.prog 135 #[.string a, .string b] w (Same w (.int .i64 (cmpV a b))) := by
  have HC := fun W => Lib.hid (iCompareString W a b)
  generalize cmpV a b = c at *
  go_enter Tryz.func135, Tryz.ntmps135
  go_wp2_with fail
  refine (HC _).out.mono ?_
  rintro e w2 ⟨rfl, rfl⟩
  go_wp2_with fail
  go_ret
  exact ⟨rfl, rfl⟩
set_option maxRecDepth 100000 in
set_option maxHeartbeats 4000000 in
theorem iCmp_any (w : World) (r s : R) : Calls Tryz.prog 134 #[r.v, s.v] w (Gives (.int .i64 (cmpV r.key s.key)) w) := by
  obtain ⟨key, kind, sum, st, last, n, mn, mx, total, dropped⟩ := r
  obtain ⟨key', kind', sum', st', last', n', mn', mx', total', dropped'⟩ := s
  have HC := fun W => Lib.hid (iCompare W key key')
  unfold R.v
  simp only
  generalize cmpV key key' = c at *
  go_enter Tryz.func134, Tryz.ntmps134
  go_wp2_with fail
  refine (HC _).out.mono ?_
  rintro e w2 ⟨rfl, rfl⟩
  go_wp2_with fail
  go_ret
  exact ⟨rfl, ((Below.refl _ _).alloc (Nat.le_refl _) _).alloc (by simp [go_sem]) _⟩
set_option maxRecDepth 100000 in
set_option maxHeartbeats 4000000 in
theorem iEq_any (w : World) (r s : R) : Calls Tryz.prog 137 #[r.v, s.v] w (Gives (.bool (decide (r.key = s.key))) w) := by
  obtain ⟨key, kind, sum, st, last, n, mn, mx, total, dropped⟩ := r
  obtain ⟨key', kind', sum', st', last', n', mn', mx', total', dropped'⟩ := s
  unfold R.v
  simp only
  by_cases h : key = key'
  · subst h
    have hd : decide (key = key) = true := by simp
    rw [hd]
    have hs := txt_self key
    go_enter Tryz.func137, Tryz.ntmps137
    go_wp2_with fail
    go_ret
    exact ⟨rfl, ((Below.refl _ _).alloc (Nat.le_refl _) _).alloc (by simp [go_sem]) _⟩
  · have hd : decide (key = key') = false := by simp [h]
    rw [hd]
    have hs := txt_ne h
    clear h hd
    go_enter Tryz.func137, Tryz.ntmps137
    go_wp2_with fail
    go_ret
    exact ⟨rfl, ((Below.refl _ _).alloc (Nat.le_refl _) _).alloc (by simp [go_sem]) _⟩
end Go.Proofs.YtnlepnfdgdbkoaaGreatDoor
namespace Go.Proofs.YtnlepnfdgdbkoaaGreatDoor
open Go.RowKit M
set_option linter.unusedVariables false
theorem untagV_zero : untagV 0 = none := rfl
end Go.Proofs.YtnlepnfdgdbkoaaGreatDoor
namespace Go.Proofs.YtnlepnfdgdbkoaaGreatDoor
open Go.RowKit M
set_option linter.unusedVariables false
def TupI (w : World) (zs : List Int) (r : Value) (e : Ending) (w' : World) : Prop := ∃ v, e = .returned (.tuple #[v, r]) ∧ OwnI w' w.heap.size v zs ∧ Below w.heap.size w w'
def storeC (zs : List Int) (i n : Int) : List Int := if atC zs i && isW n then zs.set i.toNat n else zs
def storeOk (zs : List Int) (i n : Int) : Bool := atC zs i && isW n
theorem store_yes {zs : List Int} {i n : Int} (h : storeOk zs i n = true) : storeC zs i n = zs.set i.toNat n := if_pos h
theorem store_no {zs : List Int} {i n : Int} (h : storeOk zs i n = false) : storeC zs i n = zs := if_neg (by unfold storeOk at h; rw [h]; decide)
theorem storeC_length (zs : List Int) (i n : Int) : (storeC zs i n).length = zs.length := by unfold storeC; split <;> simp
set_option maxRecDepth 100000 in
theorem iStore_yes (w : World) (v : Value) (zs : List Int) (i n : Int) (h : Ints w v zs) (hl : zs.length ≤ 1048576) (hs : storeOk zs i n = true) :
    Calls Tryz.prog 118 #[v, .int .i64 i, .int .i64 n] w (TupI w (storeC zs i n) (.bool true)) := by
  rw [store_yes hs]
  have hs' := hs
  simp only [storeOk, Bool.and_eq_true] at hs'
  obtain ⟨ha, hn⟩ := hs'
  obtain ⟨h0, i0, i1⟩ := atC_iff.1 ha
  have hlen := okC_len h0
  obtain ⟨j, rfl⟩ := Int.eq_ofNat_of_zero_le i0
  have hj : j < zs.length := by omega
  have HC := Lib.hid (clone_any w v zs h hl)
  have HI := Lib.hid h
  have HA := Lib.hid ha
  have HN := Lib.hid hn
  clear hs ha hn h0 h hlen
  go_enter Tryz.func118, Tryz.ntmps118
  go_wp2_with fail
  refine HC.out.mono ?_
  rintro e w1 ⟨u, rfl, ho, hb⟩
  obtain ⟨g, cap, rfl⟩ := ho.2
  have HS := Lib.hid (iLoad_yes w1 v zs _ (HI.out.below hb) HA.out)
  have hf := ho.frz j
  obtain ⟨z, hz⟩ : ∃ z, w1.cell? ⟨g, j, none⟩ = some z := ⟨_, ho.cell j hj⟩
  have HO := Lib.hid (own_set ho j n hb hb.size)
  generalize hm : zs.length = m at *
  have HM := Lib.hid hm
  have hm2 : m ≤ 9223372036854775807 := by omega
  clear hm ho hb
  go_wp2_with (first | (go_at_call 117; refine HS.out.mono ?_; rintro e w' ⟨rfl, rfl⟩) | (go_at_call 58; refine (isWord_yes _ _ HN.out).mono ?_; rintro e w' ⟨rfl, rfl⟩))
  go_ret2
  exact ⟨_, rfl, by rw [Int.toNat_natCast]; exact HO.out.1, HO.out.2⟩
set_option maxRecDepth 100000 in
theorem iStore_no (w : World) (v : Value) (zs : List Int) (i n : Int) (h : Ints w v zs) (hl : zs.length ≤ 1048576) (hs : storeOk zs i n = false) :
    Calls Tryz.prog 118 #[v, .int .i64 i, .int .i64 n] w (TupI w (storeC zs i n) (.bool false)) := by
  rw [store_no hs]
  have HC := Lib.hid (clone_any w v zs h hl)
  have HI := Lib.hid h
  cases ha : atC zs i with
  | false =>
    have HA := Lib.hid ha
    clear hs ha h
    go_enter Tryz.func118, Tryz.ntmps118
    go_wp2_with fail
    refine HC.out.mono ?_
    rintro e w1 ⟨u, rfl, ho, hb⟩
    have HS := Lib.hid (iLoad_no w1 v zs _ (HI.out.below hb) HA.out)
    have HO := Lib.hid ho
    have HB := Lib.hid hb
    clear ho hb
    go_wp2_with (first | (go_at_call 117; refine HS.out.mono ?_; rintro e w' ⟨rfl, rfl⟩))
    go_ret2
    exact ⟨_, rfl, HO.out, HB.out⟩
  | true =>
    have HA := Lib.hid ha
    have HN : Hid (isW n = false) := by
      simp only [storeOk, ha, Bool.true_and] at hs
      exact hs
    clear hs ha h
    go_enter Tryz.func118, Tryz.ntmps118
    go_wp2_with fail
    refine HC.out.mono ?_
    rintro e w1 ⟨u, rfl, ho, hb⟩
    have HS := Lib.hid (iLoad_yes w1 v zs _ (HI.out.below hb) HA.out)
    have HO := Lib.hid ho
    have HB := Lib.hid hb
    clear ho hb
    go_wp2_with (first | (go_at_call 117; refine HS.out.mono ?_; rintro e w' ⟨rfl, rfl⟩) | (go_at_call 58; refine (isWord_no _ _ HN.out).mono ?_; rintro e w' ⟨rfl, rfl⟩))
    go_ret2
    exact ⟨_, rfl, HO.out, HB.out⟩
theorem iStore_any (w : World) (v : Value) (zs : List Int) (i n : Int) (h : Ints w v zs) (hl : zs.length ≤ 1048576) (b : Bool) (hs : storeOk zs i n = b) :
    Calls Tryz.prog 118 #[v, .int .i64 i, .int .i64 n] w (TupI w (storeC zs i n) (.bool b)) := by
  cases b
  · exact iStore_no w v zs i n h hl hs
  · exact iStore_yes w v zs i n h hl hs
end Go.Proofs.YtnlepnfdgdbkoaaGreatDoor
namespace Go.Proofs.YtnlepnfdgdbkoaaGreatDoor
open Go.RowKit M
set_option linter.unusedVariables false
theorem below_drewN {B : Nat} {a w : World} (h : Below B a w) (n : Nat) : Below B a (w.drewN n) := ⟨h.os, h.tape, h.output, h.size, h.block⟩
theorem OwnI.drewN {w : World} {base : Nat} {v : Value} {zs : List Int} (h : OwnI w base v zs) (n : Nat) : OwnI (w.drewN n) base v zs := h
def swapR (zs : List Int) (i n : Int) : Int := if storeOk zs i n then zs.getD i.toNat 0 else -1
set_option maxRecDepth 100000 in
theorem iSwap_any (w : World) (v : Value) (zs : List Int) (i n : Int) (h : Ints w v zs) (hl : zs.length ≤ 1048576) :
    Calls Tryz.prog 113 #[v, .int .i64 i, .int .i64 n] w (TupI w (storeC zs i n) (.int .i64 (swapR zs i n))) := by
  cases hs : storeOk zs i n with
  | true =>
    have HC := Lib.hid (iStore_any w v zs i n h hl true hs)
    have HR := Lib.hid (show swapR zs i n = zs.getD i.toNat 0 from if_pos hs)
    have hs' := hs
    simp only [storeOk, Bool.and_eq_true] at hs'
    obtain ⟨ha, hn⟩ := hs'
    obtain ⟨h0, i0, i1⟩ := atC_iff.1 ha
    have hlen := okC_len h0
    obtain ⟨j, rfl⟩ := Int.eq_ofNat_of_zero_le i0
    rw [Int.toNat_natCast] at HR
    have hj : j < zs.length := by omega
    obtain ⟨b, off, cap0, rfl, h1, h2, h3, h4⟩ := h
    have H4 := h4 j hj
    generalize hz0 : zs.getD j 0 = z0 at *
    generalize hsw : swapR zs (j : Int) n = r at *
    obtain rfl : r = z0 := HR.out
    generalize hm : zs.length = m at *
    unfold maxLen at h2
    clear hs ha hn h0 hlen HR h4 hz0 hsw hm
    go_enter Tryz.func113, Tryz.ntmps113
    go_wp2_with fail
    refine HC.out.mono ?_
    rintro e w1 ⟨u, rfl, ho, hb⟩
    have g1 := (hb.cell (p := ⟨b, off + j, none⟩) h3).trans H4
    have HO := Lib.hid ho
    have HB := Lib.hid hb
    clear ho hb
    go_wp2_with fail
    go_quiet (fail)
    go_wp2
    go_ret2
    exact ⟨_, rfl, HO.out.drewN _, below_drewN HB.out _⟩
  | false =>
    have HC := Lib.hid (iStore_any w v zs i n h hl false hs)
    have HR := Lib.hid (show swapR zs i n = -1 from if_neg (by rw [hs]; decide))
    generalize hsw : swapR zs i n = r at *
    obtain rfl : r = -1 := HR.out
    clear hs h hsw HR
    go_enter Tryz.func113, Tryz.ntmps113
    go_wp2_with fail
    refine HC.out.mono ?_
    rintro e w1 ⟨u, rfl, ho, hb⟩
    have HO := Lib.hid ho
    have HB := Lib.hid hb
    clear ho hb
    go_wp2_with fail
    go_ret2
    exact ⟨_, rfl, HO.out, HB.out⟩
def casOk (zs : List Int) (i old : Int) : Bool := atC zs i && (zs.getD i.toNat 0 == old)
def casC (zs : List Int) (i old tw : Int) : List Int := if casOk zs i old then storeC zs i tw else zs
def casR (zs : List Int) (i old tw : Int) : Bool := casOk zs i old && storeOk zs i tw
theorem casC_length (zs : List Int) (i o n : Int) : (casC zs i o n).length = zs.length := by unfold casC; split <;> simp [storeC_length]
set_option maxRecDepth 100000 in
theorem iCas_any (w : World) (v : Value) (zs : List Int) (i old tw : Int) (h : Ints w v zs) (hl : zs.length ≤ 1048576) :
    Calls Tryz.prog 99 #[v, .int .i64 i, .int .i64 old, .int .i64 tw] w (TupI w (casC zs i old tw) (.bool (casR zs i old tw))) := by
  have HC := Lib.hid (clone_any w v zs h hl)
  cases ha : atC zs i with
  | false =>
    have HX := Lib.hid (show casC zs i old tw = zs from if_neg (by simp [casOk, ha]))
    have HY := Lib.hid (show casR zs i old tw = false by simp [casR, casOk, ha])
    have HA := Lib.hid (iLoad_no w v zs i h ha)
    clear ha h
    generalize casR zs i old tw = r at *
    obtain rfl : r = false := HY.out
    rw [HX.out]
    clear HX HY
    go_enter Tryz.func99, Tryz.ntmps99
    go_wp2_with fail
    refine HA.out.mono ?_
    rintro e w1 ⟨rfl, rfl⟩
    go_wp2_with fail
    refine HC.out.mono ?_
    rintro e w1 ⟨u, rfl, ho, hb⟩
    have HO := Lib.hid ho
    have HB := Lib.hid hb
    clear ho hb
    go_wp2_with fail
    go_ret2
    exact ⟨_, rfl, HO.out, HB.out⟩
  | true =>
    have HA := Lib.hid (iLoad_yes w v zs i h ha)
    by_cases hz : zs.getD i.toNat 0 = old
    · have HX := Lib.hid (show casC zs i old tw = storeC zs i tw from if_pos (by simp only [casOk, ha, hz]; simp))
      have HY := Lib.hid (show casR zs i old tw = storeOk zs i tw by simp only [casR, casOk, ha, hz]; simp)
      have HS := Lib.hid (iStore_any w v zs i tw h hl _ rfl)
      generalize casR zs i old tw = r at *
      obtain rfl : r = storeOk zs i tw := HY.out
      rw [HX.out]
      generalize storeOk zs i tw = r at *
      generalize zs.getD i.toNat 0 = z at *
      subst hz
      clear HX HY h ha
      go_enter Tryz.func99, Tryz.ntmps99
      go_wp2_with fail
      refine HA.out.mono ?_
      rintro e w1 ⟨rfl, rfl⟩
      go_wp2_with fail
      refine HS.out.mono ?_
      rintro e w1 ⟨u, rfl, ho, hb⟩
      have HO := Lib.hid ho
      have HB := Lib.hid hb
      clear ho hb
      go_wp2_with fail
      go_ret2
      exact ⟨_, rfl, HO.out, HB.out⟩
    · have HX := Lib.hid (show casC zs i old tw = zs from if_neg (by simp only [casOk, ha]; simpa using hz))
      have HY := Lib.hid (show casR zs i old tw = false by simp only [casR, casOk, ha]; simp; intro h; exact absurd h hz)
      generalize casR zs i old tw = r at *
      obtain rfl : r = false := HY.out
      rw [HX.out]
      generalize zs.getD i.toNat 0 = z at *
      have t1 : (z != old) = true := by rw [bne_iff_ne]; exact hz
      clear HX HY h ha hz
      go_enter Tryz.func99, Tryz.ntmps99
      go_wp2_with fail
      refine HA.out.mono ?_
      rintro e w1 ⟨rfl, rfl⟩
      go_wp2_with fail
      refine HC.out.mono ?_
      rintro e w1 ⟨u, rfl, ho, hb⟩
      have HO := Lib.hid ho
      have HB := Lib.hid hb
      clear ho hb
      go_wp2_with fail
      go_ret2
      exact ⟨_, rfl, HO.out, HB.out⟩
end Go.Proofs.YtnlepnfdgdbkoaaGreatDoor
namespace Go.Proofs.YtnlepnfdgdbkoaaGreatDoor
open Go.RowKit M
set_option linter.unusedVariables false
end Go.Proofs.YtnlepnfdgdbkoaaGreatDoor
namespace Go.Proofs.YtnlepnfdgdbkoaaGreatDoor
open Go.RowKit M
set_option linter.unusedVariables false
def addOk (zs : List Int) (i n : Int) : Bool := atC zs i && (decide (-281474976710655 ≤ n) && decide (n ≤ 281474976710655))
def addM (old n : Int) : Int := (old + n) % 281474976710656
def addC (zs : List Int) (i n : Int) : List Int := if addOk zs i n then zs.set i.toNat (addM (zs.getD i.toNat 0) n) else zs
def addR (zs : List Int) (i n : Int) : Int := if addOk zs i n then zs.getD i.toNat 0 else -1
theorem addM_bd (old n : Int) : 0 ≤ addM old n ∧ addM old n ≤ 281474976710655 := by unfold addM; omega
theorem addM_isW (old n : Int) : isW (addM old n) = true := isW_iff.2 (addM_bd old n)
theorem add_store {zs : List Int} {i n : Int} (h : addOk zs i n = true) (m : Int) (hm : m = addM (zs.getD i.toNat 0) n) : storeC zs i m = addC zs i n ∧ swapR zs i m = addR zs i n := by
  have ha : atC zs i = true := by simp only [addOk, Bool.and_eq_true] at h; exact h.1
  have hs : storeOk zs i m = true := by unfold storeOk; rw [ha, hm, addM_isW]; rfl
  constructor
  · rw [store_yes hs, addC, if_pos h, hm]
  · rw [swapR, if_pos hs, addR, if_pos h]
set_option maxRecDepth 100000 in
theorem iAdd_any (w : World) (v : Value) (zs : List Int) (i n : Int) (h : Ints w v zs) (hl : zs.length ≤ 1048576) (n0 : -9223372036854775808 ≤ n) (n1 : n ≤ 9223372036854775807) :
    Calls Tryz.prog 120 #[v, .int .i64 i, .int .i64 n] w (TupI w (addC zs i n) (.int .i64 (addR zs i n))) := by
  cases ha : atC zs i with
  | false =>
    have hs : addOk zs i n = false := by unfold addOk; rw [ha]; rfl
    have HR := Lib.hid (show addR zs i n = -1 from if_neg (by rw [hs]; decide))
    have HX := Lib.hid (show addC zs i n = zs from if_neg (by rw [hs]; decide))
    have HC := Lib.hid (clone_any w v zs h hl)
    have HA := Lib.hid (iLoad_no w v zs i h ha)
    rw [HX.out]
    generalize addR zs i n = r at *
    obtain rfl : r = -1 := HR.out
    clear hs ha h HR HX
    go_enter Tryz.func120, Tryz.ntmps120
    go_wp2_with fail
    refine HA.out.mono ?_
    rintro e w1 ⟨rfl, rfl⟩
    go_wp2_with fail
    refine HC.out.mono ?_
    rintro e w1 ⟨u, rfl, ho, hb⟩
    have HO := Lib.hid ho
    have HB := Lib.hid hb
    clear ho hb
    go_wp2_with fail
    go_ret2
    exact ⟨_, rfl, HO.out, HB.out⟩
  | true =>
    have HA := Lib.hid (iLoad_yes w v zs i h ha)
    by_cases b0 : n ≤ -281474976710656 ∨ 281474976710656 ≤ n
    · have hs : addOk zs i n = false := by
        simp only [addOk, ha, Bool.true_and, Bool.and_eq_false_iff, decide_eq_false_iff_not]; omega
      have HR := Lib.hid (show addR zs i n = -1 from if_neg (by rw [hs]; decide))
      have HX := Lib.hid (show addC zs i n = zs from if_neg (by rw [hs]; decide))
      have HC := Lib.hid (clone_any w v zs h hl)
      rw [HX.out]
      generalize addR zs i n = r at *
      obtain rfl : r = -1 := HR.out
      generalize zs.getD i.toNat 0 = z at *
      clear hs ha h HR HX
      by_cases b1 : n ≤ -281474976710656
      · have t1 : decide (n ≤ -281474976710656) = true := by simp; omega
        clear b0
        go_enter Tryz.func120, Tryz.ntmps120
        go_wp2_with fail
        refine HA.out.mono ?_
        rintro e w1 ⟨rfl, rfl⟩
        go_wp2_with fail
        refine HC.out.mono ?_
        rintro e w1 ⟨u, rfl, ho, hb⟩
        have HO := Lib.hid ho
        have HB := Lib.hid hb
        clear ho hb
        go_wp2_with fail
        go_ret2
        exact ⟨_, rfl, HO.out, HB.out⟩
      · have t1 : decide (n ≤ -281474976710656) = false := by simp; omega
        have t2 : decide (281474976710656 ≤ n) = true := by simp; omega
        clear b0
        go_enter Tryz.func120, Tryz.ntmps120
        go_wp2_with fail
        refine HA.out.mono ?_
        rintro e w1 ⟨rfl, rfl⟩
        go_wp2_with fail
        refine HC.out.mono ?_
        rintro e w1 ⟨u, rfl, ho, hb⟩
        have HO := Lib.hid ho
        have HB := Lib.hid hb
        clear ho hb
        go_wp2_with fail
        go_ret2
        exact ⟨_, rfl, HO.out, HB.out⟩
    · have hs : addOk zs i n = true := by
        simp only [addOk, ha, Bool.true_and, Bool.and_eq_true, decide_eq_true_eq]; omega
      obtain ⟨h0, i0, i1⟩ := atC_iff.1 ha
      have hlen := okC_len h0
      obtain ⟨z0, z1⟩ := okC_at h0 i.toNat (by omega)
      have hst := add_store hs ((zs.getD i.toNat 0 + n) % 281474976710656) rfl
      have HS := iSwap_any w v zs i ((zs.getD i.toNat 0 + n) % 281474976710656) h hl
      rw [hst.1, hst.2] at HS
      have HS2 := Lib.hid HS
      generalize addC zs i n = ys at *
      generalize addR zs i n = r at *
      generalize zs.getD i.toNat 0 = z at *
      have t1 : decide (n ≤ -281474976710656) = false := by simp; omega
      have t2 : decide (281474976710656 ≤ n) = false := by simp; omega
      have t3 : -281474976710656 < n := by omega
      have t4 : n < 281474976710656 := by omega
      clear hs ha h h0 hlen hst HS b0
      go_enter Tryz.func120, Tryz.ntmps120
      go_wp2_with fail
      refine HA.out.mono ?_
      rintro e w1 ⟨rfl, rfl⟩
      go_wp2_with fail
      refine HS2.out.mono ?_
      rintro e w1 ⟨u, rfl, ho, hb⟩
      have HO := Lib.hid ho
      have HB := Lib.hid hb
      clear ho hb
      go_wp2_with fail
      go_ret2
      exact ⟨_, rfl, HO.out, HB.out⟩
end Go.Proofs.YtnlepnfdgdbkoaaGreatDoor
namespace Go.Proofs.YtnlepnfdgdbkoaaGreatDoor
open Go.RowKit M
set_option linter.unusedVariables false
def sameRV (xs ys : List R) : Bool := decide (xs = ys)
def EqTo (xs ys : List R) (j : Nat) : Prop := ∀ m, m < j → xs.getD m zeroR = ys.getD m zeroR
theorem EqTo.zero (xs ys : List R) : EqTo xs ys 0 := fun m h => absurd h (Nat.not_lt_zero _)
theorem EqTo.next {xs ys : List R} {j : Nat} (h : EqTo xs ys j) (k : xs.getD j zeroR = ys.getD j zeroR) : EqTo xs ys (j + 1) := fun m hm => by
  by_cases e : m = j
  · subst e; exact k
  · exact h m (by omega)
theorem EqTo.all {xs ys : List R} (hl : xs.length = ys.length) (h : EqTo xs ys xs.length) : sameRV xs ys = true := by
  apply decide_eq_true
  apply List.ext_getElem?
  intro i
  by_cases hi : i < xs.length
  · have := h i hi
    rw [List.getD_eq_getElem?_getD, List.getD_eq_getElem?_getD, List.getElem?_eq_getElem hi, List.getElem?_eq_getElem (by omega)] at this
    rw [List.getElem?_eq_getElem hi, List.getElem?_eq_getElem (by omega)]
    exact congrArg some this
  · rw [List.getElem?_eq_none (by omega), List.getElem?_eq_none (by omega)]
end Go.Proofs.YtnlepnfdgdbkoaaGreatDoor
namespace Go.Proofs.YtnlepnfdgdbkoaaGreatDoor
open Go.RowKit M
set_option linter.unusedVariables false
set_option linter.unusedSimpArgs false
section
variable {α : Type}
def EqAt (z : α) (xs ys : List α) (j : Nat) : Prop := ∀ m, m < j → xs.getD m z = ys.getD m z
theorem EqAt.zero (z : α) (xs ys : List α) : EqAt z xs ys 0 := fun m h => absurd h (Nat.not_lt_zero _)
theorem EqAt.next {z : α} {xs ys : List α} {j : Nat} (h : EqAt z xs ys j) (k : xs.getD j z = ys.getD j z) : EqAt z xs ys (j + 1) := fun m hm => by
  by_cases e : m = j
  · subst e; exact k
  · exact h m (by omega)
theorem EqAt.all {z : α} {xs ys : List α} (hl : xs.length = ys.length) (h : EqAt z xs ys xs.length) : xs = ys := by
  apply List.ext_getElem hl
  intro i h1 h2
  have := h i h1
  rw [List.getD_eq_getElem?_getD, List.getD_eq_getElem?_getD, List.getElem?_eq_getElem h1, List.getElem?_eq_getElem h2] at this
  exact this
theorem eq_yes [DecidableEq α] {z : α} {xs ys : List α} (hl : xs.length = ys.length) (h : EqAt z xs ys xs.length) : decide (xs = ys) = true := decide_eq_true (h.all hl)
theorem eq_len [DecidableEq α] {xs ys : List α} (hl : xs.length ≠ ys.length) : decide (xs = ys) = false := decide_eq_false fun e => hl (by rw [e])
theorem eq_ne [DecidableEq α] {z : α} {xs ys : List α} {j : Nat} (h : xs.getD j z ≠ ys.getD j z) : decide (xs = ys) = false := decide_eq_false fun e => h (by rw [e])
def SameTo (f : α → α → Bool) (z : α) (xs ys : List α) (j : Nat) : Prop := ∀ m, m < j → f (xs.getD m z) (ys.getD m z) = true
theorem SameTo.zero (f : α → α → Bool) (z : α) (xs ys : List α) : SameTo f z xs ys 0 := fun m h => absurd h (Nat.not_lt_zero _)
theorem SameTo.next {f : α → α → Bool} {z : α} {xs ys : List α} {j : Nat} (h : SameTo f z xs ys j) (k : f (xs.getD j z) (ys.getD j z) = true) : SameTo f z xs ys (j + 1) := fun m hm => by
  by_cases e : m = j
  · subst e; exact k
  · exact h m (by omega)
end
def sameJV (a b : J) : Bool :=
  decide (a.busy = b.busy) && (decide (a.op = b.op) && (decide (a.serial = b.serial) && (decide (a.pc = b.pc) && (decide (a.k = b.k) && (decide (a.slot = b.slot) && (decide (a.what = b.what) && (decide (a.e = b.e) && (decide (a.stamp = b.stamp) && (decide (a.old = b.old) && (decide (a.flips = b.flips) && (decide (a.steps = b.steps) && (decide (a.code = b.code) && (decide (a.keys = b.keys) && decide (a.raw = b.raw))))))))))))))
end Go.Proofs.YtnlepnfdgdbkoaaGreatDoor
namespace Go.Proofs.YtnlepnfdgdbkoaaGreatDoor
open Go.RowKit M
set_option linter.unusedVariables false
def strLe (x y : ByteArray) : Bool := Go.Op.bytesLess x.toList y.toList || x.toList == y.toList
def badAt (rs : List R) (i : Nat) : Bool := !rowOkV (rs.getD i zeroR) || (quietV (rs.getD i zeroR) || (decide (0 < i) && strLe (rs.getD i zeroR).key (rs.getD (i - 1) zeroR).key))
def GoodTo (rs : List R) (j : Nat) : Prop := ∀ m, m < j → badAt rs m = false
theorem GoodTo.zero (rs : List R) : GoodTo rs 0 := fun m h => absurd h (Nat.not_lt_zero _)
theorem GoodTo.next {rs : List R} {j : Nat} (h : GoodTo rs j) (k : badAt rs j = false) : GoodTo rs (j + 1) := fun m hm => by
  by_cases e : m = j
  · subst e; exact k
  · exact h m (by omega)
def RpHeld (w0 : World) (b : Nat) (w : World) : Prop := Below w0.heap.size w0 w ∧ b < w0.heap.size
def RowHeld (w0 : World) (b o p : Nat) (r : R) (pk : ByteArray) (w : World) : Prop :=
  w.cell? ⟨b, o, none⟩ = some (.string r.key) ∧ w.cell? ⟨b, o + 1, none⟩ = some (.int .i64 r.kind) ∧ w.cell? ⟨b, o + 2, none⟩ = some (.int .i64 r.sum) ∧ w.cell? ⟨b, o + 3, none⟩ = some (.bool r.set) ∧ w.cell? ⟨b, o + 4, none⟩ = some (.int .i64 r.last) ∧
  w.cell? ⟨b, o + 5, none⟩ = some (.int .i64 r.n) ∧ w.cell? ⟨b, o + 6, none⟩ = some (.int .i64 r.mn) ∧ w.cell? ⟨b, o + 7, none⟩ = some (.int .i64 r.mx) ∧ w.cell? ⟨b, o + 8, none⟩ = some (.int .i64 r.total) ∧ w.cell? ⟨b, o + 9, none⟩ = some (.int .i64 r.dropped) ∧
  w.cell? ⟨b, p, none⟩ = some (.string pk) ∧ RpHeld w0 b w
theorem RowHeld.next {w0 w1 w2 : World} {b o p : Nat} {r : R} {pk : ByteArray} (hb : Below w1.heap.size w1 w2) (h : RowHeld w0 b o p r pk w1) : RowHeld w0 b o p r pk w2 := by
  obtain ⟨h0, h1, h2, h3, h4, h5, h6, h7, h8, h9, hp, hw, hlt⟩ := h
  have lt : b < w1.heap.size := Nat.lt_of_lt_of_le hlt hw.size
  exact ⟨(hb.cell (p := ⟨b, o, none⟩) lt).trans h0, (hb.cell (p := ⟨b, o + 1, none⟩) lt).trans h1, (hb.cell (p := ⟨b, o + 2, none⟩) lt).trans h2, (hb.cell (p := ⟨b, o + 3, none⟩) lt).trans h3, (hb.cell (p := ⟨b, o + 4, none⟩) lt).trans h4,
    (hb.cell (p := ⟨b, o + 5, none⟩) lt).trans h5, (hb.cell (p := ⟨b, o + 6, none⟩) lt).trans h6, (hb.cell (p := ⟨b, o + 7, none⟩) lt).trans h7, (hb.cell (p := ⟨b, o + 8, none⟩) lt).trans h8, (hb.cell (p := ⟨b, o + 9, none⟩) lt).trans h9,
    (hb.cell (p := ⟨b, p, none⟩) lt).trans hp, hw.trans (hb.mono hw.size), hlt⟩
theorem RowHeld.drew {w0 w1 : World} {b o p : Nat} {r : R} {pk : ByteArray} (h : RowHeld w0 b o p r pk w1) : RowHeld w0 b o p r pk w1.drew := h.next (below_drew _ _)
end Go.Proofs.YtnlepnfdgdbkoaaGreatDoor
namespace Go.Proofs.YtnlepnfdgdbkoaaGreatDoor
open Go.RowKit
set_option linter.unusedVariables false
set_option linter.unusedSimpArgs false
structure At (a : Act) (n A B : Nat) (pA pB : Value) (m : Nat) (b : Bool) : Prop where
  size : a.tmps.size = n
  hA : a.eval (.tmp A) = pA
  hB : a.eval (.tmp B) = pB
  hm : a.tmps[m]? = some (.bool b)
  df : a.defers = []
theorem ev_tmp (a : Act) (x : Nat) : a.eval (.tmp x) = a.tmps[x]?.getD undef := by
  show a.tmps.getD x undef = _
  rw [Array.getD_eq_getD_getElem?]
theorem put_eval (a : Act) (d x : Nat) (v : Value) (h : x ≠ d) : (a.put (some d) v).eval (.tmp x) = a.eval (.tmp x) := by
  show (a.tmps.setIfInBounds d v).getD x undef = a.tmps.getD x undef
  rw [Array.getD_eq_getD_getElem?, Array.getD_eq_getD_getElem?, Array.getElem?_setIfInBounds_ne (fun e => h e.symm)]
theorem put_own (a : Act) (d : Nat) (v : Value) (h : d < a.tmps.size) : (a.put (some d) v).eval (.tmp d) = v := by
  show (a.tmps.setIfInBounds d v).getD d undef = v
  rw [Array.getD_eq_getD_getElem?, Array.getElem?_setIfInBounds_self_of_lt h]; rfl
theorem put_size (a : Act) (d : Nat) (v : Value) : (a.put (some d) v).tmps.size = a.tmps.size := Array.size_setIfInBounds
theorem At.put {a : Act} {n A B : Nat} {pA pB : Value} {m : Nat} {b : Bool} (h : At a n A B pA pB m b) (d : Nat) (v : Value) (hd : A ≠ d ∧ B ≠ d ∧ m ≠ d) : At (a.put (some d) v) n A B pA pB m b :=
  ⟨(put_size a d v).trans h.size, (put_eval a d A v hd.1).trans h.hA, (put_eval a d B v hd.2.1).trans h.hB, (show (a.tmps.setIfInBounds d v)[m]? = _ by rw [Array.getElem?_setIfInBounds_ne (fun e => hd.2.2 e.symm)]; exact h.hm), h.df⟩
theorem At.turn {a : Act} {n A B : Nat} {pA pB : Value} {m : Nat} {b : Bool} (h : At a n A B pA pB m b) (d : Nat) (q : Bool) (hd : A ≠ d ∧ B ≠ d ∧ d < n) : At (a.put (some d) (.bool q)) n A B pA pB d q :=
  ⟨(put_size a d _).trans h.size, (put_eval a d A _ hd.1).trans h.hA, (put_eval a d B _ hd.2.1).trans h.hB, (show (a.tmps.setIfInBounds d _)[d]? = _ from Array.getElem?_setIfInBounds_self_of_lt (by rw [h.size]; exact hd.2.2)), h.df⟩
theorem At.bool {a : Act} {n A B : Nat} {pA pB : Value} {m : Nat} {b : Bool} (h : At a n A B pA pB m b) : a.eval (.tmp m) = .bool b := by
  show a.tmps.getD m undef = _
  rw [Array.getD_eq_getD_getElem?, h.hm]; rfl
theorem At.wants {a : Act} {n A B : Nat} {pA pB : Value} {m : Nat} {b : Bool} (h : At a n A B pA pB m b) {ops : Array Oper} {o : Oper} {j : Nat} {c : Bool} (g : o.guard = some (j, c)) (hj : (ops[j]?).bind (·.dst) = some m) : Region.wanted o (yielded ops a.tmps) = (b == c) := by
  unfold Region.wanted yielded
  rw [g]
  simp only [hj, Option.bind_some, h.hm]
  cases b <;> cases c <;> rfl
section
variable {P : Program} {ops : Array Oper} {Q : Exit → Act → World → Prop} {rest : List Oper} {a : Act} {w : World} {n A B m : Nat} {pA pB : Value} {b : Bool}
theorem wpList_val {o : Oper} {v : Value} (hw : Region.wanted o (yielded ops a.tmps) = true) (hr : (execOp a.eval o).run P w = .ok (.value v) w) (k : wpList P ops Q rest (a.put o.dst v) w) : wpList P ops Q (o :: rest) a w :=
  Go.BigFrame.wpList_want hw fun K hK => by
    unfold Oper.wp
    rw [hr]
    exact hK _ _ k
theorem wanted_plain {o : Oper} (g : o.guard = none) (ys : Nat → Option Bool) : Region.wanted o ys = true := by unfold Region.wanted; rw [g]
theorem link {o1 o2 o3 o4 o5 o6 : Oper} {j d1 d2 d3 d4 d5 d6 : Nat} {v1 x v2 y : Value} {q : Bool}
    (g1 : o1.guard = some (j, true)) (g2 : o2.guard = some (j, true)) (g3 : o3.guard = some (j, true)) (g4 : o4.guard = some (j, true)) (g5 : o5.guard = some (j, true)) (g6 : o6.guard = none)
    (e1 : o1.dst = some d1) (e2 : o2.dst = some d2) (e3 : o3.dst = some d3) (e4 : o4.dst = some d4) (e5 : o5.dst = some d5) (e6 : o6.dst = some d6)
    (hj : (ops[j]?).bind (·.dst) = some m)
    (hd : (A ≠ d1 ∧ B ≠ d1 ∧ m ≠ d1) ∧ (A ≠ d2 ∧ B ≠ d2 ∧ m ≠ d2) ∧ (A ≠ d3 ∧ B ≠ d3 ∧ m ≠ d3) ∧ (A ≠ d4 ∧ B ≠ d4 ∧ m ≠ d4) ∧ (A ≠ d5 ∧ B ≠ d5 ∧ m ≠ d5) ∧ (A ≠ d6 ∧ B ≠ d6 ∧ d6 < n))
    (hs : d1 < n ∧ d2 < n ∧ d3 < n ∧ d4 < n ∧ d5 < n) (hx : d2 ≠ d3 ∧ d2 ≠ d4)
    (r1 : ∀ a : Act, a.eval (.tmp A) = pA → (execOp a.eval o1).run P w = .ok (.value v1) w)
    (r2 : ∀ a : Act, a.eval (.tmp d1) = v1 → (execOp a.eval o2).run P w = .ok (.value x) w)
    (r3 : ∀ a : Act, a.eval (.tmp B) = pB → (execOp a.eval o3).run P w = .ok (.value v2) w)
    (r4 : ∀ a : Act, a.eval (.tmp d3) = v2 → (execOp a.eval o4).run P w = .ok (.value y) w)
    (r5 : ∀ a : Act, a.eval (.tmp d2) = x → a.eval (.tmp d4) = y → (execOp a.eval o5).run P w = .ok (.value (.bool q)) w)
    (r6 : ∀ (a : Act) (c : Value) (b : Bool), a.eval (.tmp m) = .bool b → a.eval (.tmp d5) = c → (execOp a.eval o6).run P w = .ok (.value (if b = true then c else .bool false)) w)
    (h : At a n A B pA pB m b) (k : ∀ a', At a' n A B pA pB d6 (b && q) → wpList P ops Q rest a' w) : wpList P ops Q (o1 :: o2 :: o3 :: o4 :: o5 :: o6 :: rest) a w := by
  obtain ⟨n1, n2, n3, n4, n5, n6⟩ := hd
  obtain ⟨s1, s2, s3, s4, s5⟩ := hs
  cases b with
  | false =>
    refine wpList_skip (by rw [h.wants g1 hj]; rfl) ?_
    rw [e1]
    have h1 := h.put d1 undef n1
    refine wpList_skip (by rw [h1.wants g2 hj]; rfl) ?_
    rw [e2]
    have h2 := h1.put d2 undef n2
    refine wpList_skip (by rw [h2.wants g3 hj]; rfl) ?_
    rw [e3]
    have h3 := h2.put d3 undef n3
    refine wpList_skip (by rw [h3.wants g4 hj]; rfl) ?_
    rw [e4]
    have h4 := h3.put d4 undef n4
    refine wpList_skip (by rw [h4.wants g5 hj]; rfl) ?_
    rw [e5]
    have h5 := h4.put d5 undef n5
    refine wpList_val (wanted_plain g6 _) (r6 _ _ false h5.bool rfl) ?_
    rw [e6]
    exact k _ (h5.turn d6 false n6)
  | true =>
    refine wpList_val (by rw [h.wants g1 hj]; rfl) (r1 _ h.hA) ?_
    rw [e1]
    have h1 := h.put d1 v1 n1
    refine wpList_val (by rw [h1.wants g2 hj]; rfl) (r2 _ (put_own _ _ _ (by rw [h.size]; exact s1))) ?_
    rw [e2]
    have h2 := h1.put d2 x n2
    refine wpList_val (by rw [h2.wants g3 hj]; rfl) (r3 _ h2.hB) ?_
    rw [e3]
    have h3 := h2.put d3 v2 n3
    refine wpList_val (by rw [h3.wants g4 hj]; rfl) (r4 _ (put_own _ _ _ (by rw [h2.size]; exact s3))) ?_
    rw [e4]
    have h4 := h3.put d4 y n4
    refine wpList_val (by rw [h4.wants g5 hj]; rfl) (r5 _ ?_ (put_own _ _ _ (by rw [h3.size]; exact s4))) ?_
    · rw [put_eval _ _ _ _ hx.2, put_eval _ _ _ _ hx.1]
      exact put_own _ _ _ (by rw [h1.size]; exact s2)
    rw [e5]
    have h5 := h4.put d5 (.bool q) n5
    refine wpList_val (wanted_plain g6 _) (r6 _ (.bool q) true h5.bool (put_own _ _ _ (by rw [h4.size]; exact s5))) ?_
    rw [e6]
    exact k _ (h5.turn d6 q n6)
theorem linkC {o1 o2 o3 o4 o5 o6 : Oper} {j d1 d2 d3 d4 d5 d6 : Nat} {v1 x v2 y : Value} {q : Bool} {f : FuncId}
    (g1 : o1.guard = some (j, true)) (g2 : o2.guard = some (j, true)) (g3 : o3.guard = some (j, true)) (g4 : o4.guard = some (j, true)) (g5 : o5.guard = some (j, true)) (g6 : o6.guard = none)
    (e1 : o1.dst = some d1) (e2 : o2.dst = some d2) (e3 : o3.dst = some d3) (e4 : o4.dst = some d4) (e5 : o5.dst = some d5) (e6 : o6.dst = some d6)
    (hj : (ops[j]?).bind (·.dst) = some m)
    (hd : (A ≠ d1 ∧ B ≠ d1 ∧ m ≠ d1) ∧ (A ≠ d2 ∧ B ≠ d2 ∧ m ≠ d2) ∧ (A ≠ d3 ∧ B ≠ d3 ∧ m ≠ d3) ∧ (A ≠ d4 ∧ B ≠ d4 ∧ m ≠ d4) ∧ (A ≠ d5 ∧ B ≠ d5 ∧ m ≠ d5) ∧ (A ≠ d6 ∧ B ≠ d6 ∧ d6 < n))
    (hs : d1 < n ∧ d2 < n ∧ d3 < n ∧ d4 < n ∧ d5 < n) (hx : d2 ≠ d3 ∧ d2 ≠ d4)
    (r1 : ∀ a : Act, a.eval (.tmp A) = pA → (execOp a.eval o1).run P w = .ok (.value v1) w)
    (r2 : ∀ a : Act, a.eval (.tmp d1) = v1 → (execOp a.eval o2).run P w = .ok (.value x) w)
    (r3 : ∀ a : Act, a.eval (.tmp B) = pB → (execOp a.eval o3).run P w = .ok (.value v2) w)
    (r4 : ∀ a : Act, a.eval (.tmp d3) = v2 → (execOp a.eval o4).run P w = .ok (.value y) w)
    (r5 : ∀ a : Act, a.eval (.tmp d2) = x → a.eval (.tmp d4) = y → (execOp a.eval o5).run P w = .ok (.enter f #[x, y]) w)
    (hc : Calls P f #[x, y] w (Gives (.bool q) w))
    (r6 : ∀ (a : Act) (w : World) (c : Value) (b : Bool), a.eval (.tmp m) = .bool b → a.eval (.tmp d5) = c → (execOp a.eval o6).run P w = .ok (.value (if b = true then c else .bool false)) w)
    (h : At a n A B pA pB m b) (k : ∀ a' w', At a' n A B pA pB d6 (b && q) → Below w.heap.size w w' → wpList P ops Q rest a' w') : wpList P ops Q (o1 :: o2 :: o3 :: o4 :: o5 :: o6 :: rest) a w := by
  obtain ⟨n1, n2, n3, n4, n5, n6⟩ := hd
  obtain ⟨s1, s2, s3, s4, s5⟩ := hs
  cases b with
  | false =>
    refine wpList_skip (by rw [h.wants g1 hj]; rfl) ?_
    rw [e1]
    have h1 := h.put d1 undef n1
    refine wpList_skip (by rw [h1.wants g2 hj]; rfl) ?_
    rw [e2]
    have h2 := h1.put d2 undef n2
    refine wpList_skip (by rw [h2.wants g3 hj]; rfl) ?_
    rw [e3]
    have h3 := h2.put d3 undef n3
    refine wpList_skip (by rw [h3.wants g4 hj]; rfl) ?_
    rw [e4]
    have h4 := h3.put d4 undef n4
    refine wpList_skip (by rw [h4.wants g5 hj]; rfl) ?_
    rw [e5]
    have h5 := h4.put d5 undef n5
    refine wpList_val (wanted_plain g6 _) (r6 _ _ _ false h5.bool rfl) ?_
    rw [e6]
    exact k _ _ (h5.turn d6 false n6) (Below.refl _ _)
  | true =>
    refine wpList_val (by rw [h.wants g1 hj]; rfl) (r1 _ h.hA) ?_
    rw [e1]
    have h1 := h.put d1 v1 n1
    refine wpList_val (by rw [h1.wants g2 hj]; rfl) (r2 _ (put_own _ _ _ (by rw [h.size]; exact s1))) ?_
    rw [e2]
    have h2 := h1.put d2 x n2
    refine wpList_val (by rw [h2.wants g3 hj]; rfl) (r3 _ h2.hB) ?_
    rw [e3]
    have h3 := h2.put d3 v2 n3
    refine wpList_val (by rw [h3.wants g4 hj]; rfl) (r4 _ (put_own _ _ _ (by rw [h2.size]; exact s3))) ?_
    rw [e4]
    have h4 := h3.put d4 y n4
    refine Go.BigFrame.wpList_want (by rw [h4.wants g5 hj]; rfl) fun K hK => ?_
    unfold Oper.wp
    rw [r5 _ (by rw [put_eval _ _ _ _ hx.2, put_eval _ _ _ _ hx.1]; exact put_own _ _ _ (by rw [h1.size]; exact s2)) (put_own _ _ _ (by rw [h3.size]; exact s4)), Oper.upon_enter]
    refine hc.mono ?_
    rintro e w' ⟨rfl, hb⟩
    refine hK _ _ ?_
    rw [e5]
    have h5 := h4.put d5 (.bool q) n5
    refine wpList_val (wanted_plain g6 _) (r6 _ _ (.bool q) true h5.bool (put_own _ _ _ (by rw [h4.size]; exact s5))) ?_
    rw [e6]
    exact k _ _ (h5.turn d6 q n6) hb
theorem linkM {o : Oper} {d : Nat} (g : o.guard = none) (e : o.dst = some d) (hd : A ≠ d ∧ B ≠ d ∧ d < n)
    (r : ∀ (a : Act) (b : Bool), a.eval (.tmp m) = .bool b → (execOp a.eval o).run P w = .ok (.value (.bool b)) w)
    (h : At a n A B pA pB m b) (k : ∀ a', At a' n A B pA pB d b → wpList P ops Q rest a' w) : wpList P ops Q (o :: rest) a w := by
  refine wpList_val (wanted_plain g _) (r _ _ h.bool) ?_
  rw [e]
  exact k _ (h.turn d b hd)
theorem at_gen (h : At a n A B pA pB m b) (k : ∀ a', At a' n A B pA pB m b → wpList P ops Q rest a' w) : wpList P ops Q rest a w := k a h
theorem link0 {o1 o2 o3 o4 o5 o6 : Oper} {d1 d2 d3 d4 d5 d6 : Nat} {v1 x v2 y : Value} {q : Bool}
    (g1 : o1.guard = none) (g2 : o2.guard = none) (g3 : o3.guard = none) (g4 : o4.guard = none) (g5 : o5.guard = none) (g6 : o6.guard = none)
    (e1 : o1.dst = some d1) (e2 : o2.dst = some d2) (e3 : o3.dst = some d3) (e4 : o4.dst = some d4) (e5 : o5.dst = some d5) (e6 : o6.dst = some d6)
    (hd : (A ≠ d1 ∧ B ≠ d1 ∧ m ≠ d1) ∧ (A ≠ d2 ∧ B ≠ d2 ∧ m ≠ d2) ∧ (A ≠ d3 ∧ B ≠ d3 ∧ m ≠ d3) ∧ (A ≠ d4 ∧ B ≠ d4 ∧ m ≠ d4) ∧ (A ≠ d5 ∧ B ≠ d5 ∧ m ≠ d5) ∧ (A ≠ d6 ∧ B ≠ d6 ∧ d6 < n))
    (hs : d1 < n ∧ d2 < n ∧ d3 < n ∧ d4 < n ∧ d5 < n) (hx : d2 ≠ d3 ∧ d2 ≠ d4)
    (r1 : ∀ a : Act, a.eval (.tmp A) = pA → (execOp a.eval o1).run P w = .ok (.value v1) w)
    (r2 : ∀ a : Act, a.eval (.tmp d1) = v1 → (execOp a.eval o2).run P w = .ok (.value x) w)
    (r3 : ∀ a : Act, a.eval (.tmp B) = pB → (execOp a.eval o3).run P w = .ok (.value v2) w)
    (r4 : ∀ a : Act, a.eval (.tmp d3) = v2 → (execOp a.eval o4).run P w = .ok (.value y) w)
    (r5 : ∀ a : Act, a.eval (.tmp d2) = x → a.eval (.tmp d4) = y → (execOp a.eval o5).run P w = .ok (.value (.bool q)) w)
    (r6 : ∀ (a : Act) (b : Bool), a.eval (.tmp d5) = .bool b → (execOp a.eval o6).run P w = .ok (.value (.bool b)) w)
    (h : At a n A B pA pB m b) (k : ∀ a', At a' n A B pA pB d6 q → wpList P ops Q rest a' w) : wpList P ops Q (o1 :: o2 :: o3 :: o4 :: o5 :: o6 :: rest) a w := by
  obtain ⟨n1, n2, n3, n4, n5, n6⟩ := hd
  obtain ⟨s1, s2, s3, s4, s5⟩ := hs
  refine wpList_val (wanted_plain g1 _) (r1 _ h.hA) ?_
  rw [e1]
  have h1 := h.put d1 v1 n1
  refine wpList_val (wanted_plain g2 _) (r2 _ (put_own _ _ _ (by rw [h.size]; exact s1))) ?_
  rw [e2]
  have h2 := h1.put d2 x n2
  refine wpList_val (wanted_plain g3 _) (r3 _ h2.hB) ?_
  rw [e3]
  have h3 := h2.put d3 v2 n3
  refine wpList_val (wanted_plain g4 _) (r4 _ (put_own _ _ _ (by rw [h2.size]; exact s3))) ?_
  rw [e4]
  have h4 := h3.put d4 y n4
  refine wpList_val (wanted_plain g5 _) (r5 _ ?_ (put_own _ _ _ (by rw [h3.size]; exact s4))) ?_
  · rw [put_eval _ _ _ _ hx.2, put_eval _ _ _ _ hx.1]
    exact put_own _ _ _ (by rw [h1.size]; exact s2)
  rw [e5]
  have h5 := h4.put d5 (.bool q) n5
  refine wpList_val (wanted_plain g6 _) (r6 _ q (put_own _ _ _ (by rw [h4.size]; exact s5))) ?_
  rw [e6]
  exact k _ (h5.turn d6 q n6)
end
end Go.Proofs.YtnlepnfdgdbkoaaGreatDoor
namespace Go.Proofs.YtnlepnfdgdbkoaaGreatDoor
open Go.RowKit M
set_option linter.unusedVariables false
set_option linter.unusedSimpArgs false
theorem todo_len {ls : List (List O)} (h : ls.length ≠ 4) : todoOkV ls = false := by unfold todoOkV; rw [decide_eq_false h]; rfl
theorem todo_no {ls : List (List O)} {t : Nat} (ht : t < ls.length) (h : queueOkV t (ls.getD t []) = false) : todoOkV ls = false := by
  unfold todoOkV
  have : ((List.range ls.length).all fun t => queueOkV t (ls.getD t [])) = false := by
    rw [List.all_eq_false]
    exact ⟨t, List.mem_range.2 ht, by rw [h]; simp⟩
  rw [this, Bool.and_false]
def TodoTo (ls : List (List O)) (t : Nat) : Prop := ∀ i, i < t → queueOkV i (ls.getD i []) = true
theorem todo_all {ls : List (List O)} (h : TodoTo ls ls.length) : todoOkV ls = decide (ls.length = 4) := by
  unfold todoOkV
  have : ((List.range ls.length).all fun t => queueOkV t (ls.getD t [])) = true := by
    rw [List.all_eq_true]
    exact fun t ht => h t (List.mem_range.1 ht)
  rw [this, Bool.and_true]
theorem queue_long {t : Nat} {q : List O} (h : 10 < q.length) : queueOkV t q = false := by unfold queueOkV; rw [decide_eq_false (by omega)]; rfl
def QueueTo (t : Nat) (q : List O) (k : Nat) : Prop := ∀ i, i < k → opInV t (q.getD i zeroO) = true
theorem queue_no {t : Nat} {q : List O} {k : Nat} (hk : k < q.length) (h : opInV t (q.getD k zeroO) = false) : queueOkV t q = false := by
  unfold queueOkV
  have : q.all (opInV t) = false := by
    rw [List.all_eq_false]
    refine ⟨q[k], List.getElem_mem hk, ?_⟩
    rw [List.getD_eq_getElem?_getD, List.getElem?_eq_getElem hk, Option.getD_some] at h
    rw [h]; simp
  rw [this, Bool.and_false]
theorem queue_all {t : Nat} {q : List O} (hl : q.length ≤ 10) (h : QueueTo t q q.length) : queueOkV t q = true := by
  unfold queueOkV
  rw [decide_eq_true hl, Bool.true_and, List.all_eq_true]
  intro x hx
  obtain ⟨i, hi, rfl⟩ := List.getElem_of_mem hx
  have := h i hi
  rw [List.getD_eq_getElem?_getD, List.getElem?_eq_getElem hi, Option.getD_some] at this
  exact this
theorem opIn_ok {t : Nat} {o : O} (h : opOkV o = true) : opInV t o = (decide (o.kind = 3) == decide (t = 3)) := by unfold opInV; rw [h, Bool.true_and]
theorem opIn_no {t : Nat} {o : O} (h : opOkV o = false) : opInV t o = false := by unfold opInV; rw [h, Bool.false_and]
end Go.Proofs.YtnlepnfdgdbkoaaGreatDoor
namespace Go.Proofs.YtnlepnfdgdbkoaaGreatDoor
open Go.RowKit M
set_option linter.unusedVariables false
set_option linter.unusedSimpArgs false
theorem ret_bl3 {a b : Bool} (h : a = b) : Ending.returned (.bool a) = .returned (.bool b) := by rw [h]
theorem int_beq3 (x y : Int) : (x == y) = decide (x = y) := by
  by_cases h : x = y
  · subst h; simp
  · rw [decide_eq_false h, beq_eq_false_iff_ne]; exact h
theorem below_one3 (w : World) (o : Obj) : Below w.heap.size w (w.alloc o) := (Below.refl _ _).alloc (Nat.le_refl _) o
theorem isKind_any (k : Int) (w : World) : Calls Tryz.prog 69 #[.int .i64 k] w (Same w (.bool (decide (1 ≤ k ∧ k ≤ 3)))) := by
  by_cases h : 1 ≤ k ∧ k ≤ 3
  · rw [decide_eq_true h]; exact isKind_yes k w h.1 h.2
  · rw [decide_eq_false h]; exact isKind_no k w h
theorem isValue_any (k : Int) (w : World) : Calls Tryz.prog 70 #[.int .i64 k] w (Same w (.bool (decide (0 ≤ k ∧ k ≤ 65535)))) := by
  by_cases h : 0 ≤ k ∧ k ≤ 65535
  · rw [decide_eq_true h]; exact isValue_yes k w h.1 h.2
  · rw [decide_eq_false h]; exact isValue_no k w h
theorem isIdx_any (x n m : Int) (w : World) (e : n = m + 1) : Calls Tryz.prog 44 #[.int .i64 x, .int .i64 n] w (Same w (.bool (decide (0 ≤ x ∧ x ≤ m)))) := by
  by_cases h : 0 ≤ x ∧ x ≤ m
  · rw [decide_eq_true h]; exact isIdx_yes x n w h.1 (by omega)
  · rw [decide_eq_false h]; exact isIdx_no x n w (by omega)
theorem isWord_any (x : Int) (w : World) : Calls Tryz.prog 58 #[.int .i64 x] w (Same w (.bool (decide (0 ≤ x ∧ x ≤ 281474976710655)))) := by
  cases h : isW x with
  | true =>
    have h' := h
    unfold isW at h'
    rw [show decide (0 ≤ x ∧ x ≤ 281474976710655) = true by simp at h' ⊢; omega]; exact isWord_yes x w h
  | false =>
    have h' := h
    unfold isW at h'
    rw [show decide (0 ≤ x ∧ x ≤ 281474976710655) = false by simp at h' ⊢; omega]; exact isWord_no x w h
set_option maxRecDepth 100000 in
theorem iMayRun_any (t k : Int) (w : World) : Calls Tryz.prog 57 #[.int .i64 t, .int .i64 k] w (Same w (.bool (decide (k = 3) == decide (t = 3)))) := by
  have b3 := int_beq3 k 3
  have b4 := int_beq3 t 3
  generalize decide (k = 3) = k3 at *
  generalize decide (t = 3) = t3 at *
  go_enter Tryz.func57, Tryz.ntmps57
  go_wp2
  go_ret
  exact ⟨ret_bl3 (by cases k3 <;> cases t3 <;> rfl), rfl⟩
set_option maxRecDepth 100000 in
set_option maxHeartbeats 4000000 in
theorem iOpOk_any (w : World) (o : O) (h : o.Fit) : Calls Tryz.prog 56 #[o.v] w (Gives (.bool (opOkV o)) w) := by
  have HKO := fun W => Lib.hid (iKeyOk_same W o.key h.key)
  have HKW := fun W => Lib.hid (isKind_any o.what W)
  have HKV := fun W => Lib.hid (isValue_any o.val W)
  clear h
  by_cases k1 : o.kind = 1
  · have HE := Lib.hid (opOk_1 k1)
    generalize opOkV o = r at *
    obtain ⟨kind, key, what, val⟩ := o
    unfold O.v
    simp only at *
    subst k1
    have b1 := int_beq3 val 0
    generalize keyOkV key = q0 at *
    generalize decide (1 ≤ what ∧ what ≤ 3) = q1 at *
    generalize decide (val = 0) = q2 at *
    go_enter Tryz.func56, Tryz.ntmps56
    cases q0 with
    | false =>
      go_wp2_with (go_at_call 68; refine (HKO _).out.mono ?_; rintro e w' ⟨rfl, rfl⟩)
      go_ret
      exact ⟨ret_bl3 (by rw [HE.out]; rfl), below_one3 _ _⟩
    | true =>
      cases q1 with
      | false =>
        go_wp2_with (first | (go_at_call 68; refine (HKO _).out.mono ?_; rintro e w' ⟨rfl, rfl⟩) | (go_at_call 69; refine (HKW _).out.mono ?_; rintro e w' ⟨rfl, rfl⟩))
        go_ret
        exact ⟨ret_bl3 (by rw [HE.out]; rfl), below_one3 _ _⟩
      | true =>
        go_wp2_with (first | (go_at_call 68; refine (HKO _).out.mono ?_; rintro e w' ⟨rfl, rfl⟩) | (go_at_call 69; refine (HKW _).out.mono ?_; rintro e w' ⟨rfl, rfl⟩))
        go_ret
        exact ⟨ret_bl3 (by rw [HE.out]; simp), below_one3 _ _⟩
  · have t1 : (o.kind == 1) = false := by rw [beq_eq_false_iff_ne]; exact k1
    by_cases k2 : o.kind = 2
    · have HE := Lib.hid (opOk_2 k2)
      clear t1 k1
      generalize opOkV o = r at *
      obtain ⟨kind, key, what, val⟩ := o
      unfold O.v
      simp only at *
      subst k2
      have b1 := int_beq3 what 0
      generalize keyOkV key = q0 at *
      generalize decide (what = 0) = q1 at *
      generalize decide (0 ≤ val ∧ val ≤ 65535) = q2 at *
      go_enter Tryz.func56, Tryz.ntmps56
      cases q0 with
      | false =>
        go_wp2_with (go_at_call 68; refine (HKO _).out.mono ?_; rintro e w' ⟨rfl, rfl⟩)
        go_ret
        exact ⟨ret_bl3 (by rw [HE.out]; rfl), below_one3 _ _⟩
      | true =>
        cases q1 with
        | false =>
          go_wp2_with (go_at_call 68; refine (HKO _).out.mono ?_; rintro e w' ⟨rfl, rfl⟩)
          go_ret
          exact ⟨ret_bl3 (by rw [HE.out]; rfl), below_one3 _ _⟩
        | true =>
          go_wp2_with (first | (go_at_call 68; refine (HKO _).out.mono ?_; rintro e w' ⟨rfl, rfl⟩) | (go_at_call 70; refine (HKV _).out.mono ?_; rintro e w' ⟨rfl, rfl⟩))
          go_ret
          exact ⟨ret_bl3 (by rw [HE.out]; simp), below_one3 _ _⟩
    · have t2 : (o.kind == 2) = false := by rw [beq_eq_false_iff_ne]; exact k2
      by_cases k3 : o.kind = 3
      · have HE := Lib.hid ((opOk_3 k3).trans (flush_eq o))
        have HQ := fun W => eql_op W o ⟨3, ⟨#[]⟩, 0, 0⟩
        clear t1 t2 k1 k2
        generalize decide (o = ⟨3, ⟨#[]⟩, 0, 0⟩) = b at *
        generalize opOkV o = r at *
        obtain ⟨kind, key, what, val⟩ := o
        unfold O.v at *
        simp only at *
        subst k3
        go_enter Tryz.func56, Tryz.ntmps56
        go_wp2_with fail
        go_ret
        exact ⟨ret_bl3 HE.out.symm, below_one3 _ _⟩
      · have HE := Lib.hid (opOk_no k1 k2 k3)
        have t3 : (o.kind == 3) = false := by rw [beq_eq_false_iff_ne]; exact k3
        generalize opOkV o = r at *
        obtain ⟨kind, key, what, val⟩ := o
        unfold O.v
        simp only at *
        go_enter Tryz.func56, Tryz.ntmps56
        go_wp2_with fail
        go_ret
        exact ⟨ret_bl3 HE.out.symm, below_one3 _ _⟩
end Go.Proofs.YtnlepnfdgdbkoaaGreatDoor
namespace Go.Proofs.YtnlepnfdgdbkoaaGreatDoor
open Go.ChangeShapes Go.WideShapes Go.ChangeAt Go.RowKit
theorem own : ownKnob Tryz.prog.godebug = none := by kernel_rfl
def accept : List Int := [128, 191, 160, 191, 128, 159, 144, 191, 128, 143, 0, 0, 0, 0, 0, 0, 0, 0, 0, 0, 0, 0, 0, 0, 0, 0, 0, 0, 0, 0, 0, 0]
def setTab (k : IntKind) (zs : List Int) : Obj → Obj
  | .cells _ t frozen => .cells (zs.map (Value.int k)).toArray t frozen
  | o => o
noncomputable def laidWorld (os : Os) : World :=
  let w0 := World.holding Tryz.prog os ⟨#[], #[], []⟩
  { w0 with heap := (w0.heap.modify 2 (setTab .u8 accept)).modify 1 (setTab .u8 (Go.Pinned.utf8FirstZ.map Int.ofNat)) }
end Go.Proofs.YtnlepnfdgdbkoaaGreatDoor
