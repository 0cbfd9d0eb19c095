/-
  Chapter 10's exact laws: what their copies read as.
-/
import Derived.Test.YtfemdhknnfmpcaaWorC
import Derived.Test.YtfemdhknnfmpcaaZa
namespace Go.Proofs.Ytfemdhknnfmpcaa
open Go.RowKit M
set_option linter.unusedVariables false
theorem below_oneL (w : World) (o : Obj) : Below w.heap.size w (w.alloc o) := (Below.refl _ _).alloc (Nat.le_refl _) o
theorem opCells_size (r : O) : (opCells r).size = 4 := rfl
theorem len_le_sum (ls : List (List O)) (j : Nat) (hj : j < ls.length) : (ls.getD j []).length ≤ (ls.map List.length).sum := by
  induction ls generalizing j with
  | nil => simp at hj
  | cons q ls ih =>
    cases j with
    | zero => simp
    | succ j =>
      have := ih j (by simpa using hj)
      simp only [List.getD_cons_succ, List.map_cons, List.sum_cons]
      omega
theorem heapE_ints {w : World} {B E : Nat} {v : Value} {zs : List Int} (h : HeapE w B E [intRw v zs]) : IntsArg w v zs := by
  have ho : w.ownsRow B 3 1 v zs.length (zs.map (Value.int .i64)) := h.1.own (intRw v zs) (List.mem_singleton.2 rfl)
  have h' := ho
  rcases ho.2 with ⟨rfl, h0⟩ | ⟨g, cap, cur, rfl, hb, hg, hn, hm, hc, ht⟩
  · have e : zs = [] := List.length_eq_zero_iff.1 h0
    subst e; exact IntsArg.nil w
  · refine ⟨_, cap, rfl, hn, hm, fun _ => ⟨g, 0, rfl, (World.ownsRow.lt h' g rfl).2, fun j hj => ?_⟩⟩
    rw [Nat.zero_add, World.ownsRow.cellAt h' j (by omega), List.getElem?_map, List.getElem?_eq_getElem hj, List.getD_eq_getElem?_getD, List.getElem?_eq_getElem hj]
    rfl
theorem worOwn_in {w : World} {B E1 E2 E3 E4 : Nat} {s : S} {vc vj vt vl : Value} (h : WorOwn w B E1 E2 E3 E4 s vc vj vt vl) : WorIn w s vc vj vt vl :=
  ⟨heapE_ints h.c, h.j.arg jobDat_len jobDat_wf zeroJ, OwnD.arg h.t.own opCells_size zeroO, h.l.arg evDat_len evDat_wf zeroE⟩
/-- What a world's law keeps through its last statement: the two boxes, the argument, the copy that was worked on. -/
structure LawW (w0 : World) (gw gx : Nat) (s : S) (vc vj vt vl xc xj xt xl : Value) (w : World) : Prop where
  g : Blk w gw 57 #[vc, vj, vt, vl, .int .i64 s.serial, .int .i64 s.now]
  y : Blk w gx 49 #[xc, xj, xt, xl, .int .i64 s.serial, .int .i64 s.now]
  a : WorIn w s vc vj vt vl
  x : WorIn w s xc xj xt xl
  b : Below w0.heap.size w0 w
theorem LawW.next {w0 w w' : World} {gw gx : Nat} {s : S} {vc vj vt vl xc xj xt xl : Value} (h : LawW w0 gw gx s vc vj vt vl xc xj xt xl w) (hb : Below w.heap.size w w') : LawW w0 gw gx s vc vj vt vl xc xj xt xl w' :=
  ⟨h.g.below hb, h.y.below hb, h.a.below hb, h.x.below hb, h.b.trans (hb.mono h.b.size)⟩
def LawS (w0 : World) (gw gx : Nat) (s : S) (vc vj vt vl xc xj xt xl : Value) (w : World) : Prop :=
  (w.cell? ⟨gw, 0, none⟩ = some vc ∧ w.cell? ⟨gw, 1, none⟩ = some vj ∧ w.cell? ⟨gw, 2, none⟩ = some vt ∧ w.cell? ⟨gw, 3, none⟩ = some vl ∧ w.cell? ⟨gw, 4, none⟩ = some (.int .i64 s.serial) ∧ w.cell? ⟨gw, 5, none⟩ = some (.int .i64 s.now) ∧
   w.cell? ⟨gx, 0, none⟩ = some xc ∧ w.cell? ⟨gx, 1, none⟩ = some xj ∧ w.cell? ⟨gx, 2, none⟩ = some xt ∧ w.cell? ⟨gx, 3, none⟩ = some xl ∧ w.cell? ⟨gx, 4, none⟩ = some (.int .i64 s.serial) ∧ w.cell? ⟨gx, 5, none⟩ = some (.int .i64 s.now)) ∧ LawW w0 gw gx s vc vj vt vl xc xj xt xl w
theorem LawW.all {w0 w : World} {gw gx : Nat} {s : S} {vc vj vt vl xc xj xt xl : Value} (h : LawW w0 gw gx s vc vj vt vl xc xj xt xl w) : LawS w0 gw gx s vc vj vt vl xc xj xt xl w :=
  ⟨⟨h.g.get 0, h.g.get 1, h.g.get 2, h.g.get 3, h.g.get 4, h.g.get 5, h.y.get 0, h.y.get 1, h.y.get 2, h.y.get 3, h.y.get 4, h.y.get 5⟩, h⟩
theorem lawS_next {w0 w w' : World} {gw gx : Nat} {s : S} {vc vj vt vl xc xj xt xl : Value} (hb : Below w.heap.size w w') (h : LawS w0 gw gx s vc vj vt vl xc xj xt xl w) : LawS w0 gw gx s vc vj vt vl xc xj xt xl w' := (h.2.next hb).all
end Go.Proofs.Ytfemdhknnfmpcaa
