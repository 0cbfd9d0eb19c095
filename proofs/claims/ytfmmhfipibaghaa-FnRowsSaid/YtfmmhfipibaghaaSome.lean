/-
  Drawing, told in less: some number within its bounds, some truth value; nothing but the cursor's block is turned.
-/
import Derived.Test.YtfmmhfipibaghaaDrawC
import Derived.Test.YtfmmhfipibaghaaInts
namespace Go.Proofs.Ytfmmhfipibaghaa
open Go.RowKit M
set_option linter.unusedVariables false
def SomeI (w : World) (g : Nat) (K : Code) (P : Int → Prop) (e : Ending) (w' : World) : Prop := ∃ x s, P x ∧ e = .returned (.int .i64 x) ∧ Cur w' g K s ∧ w.grownBy w' (some g)
def SomeB (w : World) (g : Nat) (K : Code) (e : Ending) (w' : World) : Prop := ∃ b s, e = .returned (.bool b) ∧ Cur w' g K s ∧ w.grownBy w' (some g)
theorem below_some (w : World) (g : Nat) (K : Code) (n : Int) (s : St) (c : Cur w g K s) (h0 : 0 < n) (h1 : n ≤ 4611686018427387904) :
    Calls Try.prog 34 #[.pointer (some ⟨g, 0, none⟩), .int .i64 n] w (SomeI w g K fun x => 0 ≤ x ∧ x < n) :=
  (below_any w g K n s c h1).mono fun _ _ ⟨a, b, d⟩ => ⟨_, _, belowV_bd K n s h0, a, b, d⟩
theorem once_some (w : World) (g : Nat) (K : Code) (n : Int) (s : St) (c : Cur w g K s) (h1 : n ≤ 4611686018427387904) :
    Calls Try.prog 33 #[.pointer (some ⟨g, 0, none⟩), .int .i64 n] w (SomeB w g K) :=
  (once_any w g K n s c h1).mono fun _ _ ⟨a, b, d⟩ => ⟨_, _, a, b, d⟩
theorem row_cells (w : World) (ls : List Int) (cs : Array Value) (h : cs = (ls.map (Value.int .i64)).toArray) : ∀ j, j < ls.length → (w.alloc (.cells cs 3)).cell? ⟨w.heap.size, j, none⟩ = some (.int .i64 (ls.getD j 0)) := by
  subst h
  intro j hj
  have e := heap_alloc_new w (.cells (ls.map (Value.int .i64)).toArray 3)
  rw [cell_of_row _ _ j _ _ _ e, List.getElem?_toArray, List.getElem?_map, List.getElem?_eq_getElem hj, List.getD_eq_getElem?_getD, List.getElem?_eq_getElem hj]
  rfl
theorem pick_some (w : World) (g : Nat) (K : Code) (s : St) (c : Cur w g K s) (ls : List Int) (n : Nat) (hn : ls.length = n) (hn0 : 0 < n) (hn1 : n ≤ 1000000) (cs : Array Value) (hcs : cs = (ls.map (Value.int .i64)).toArray) :
    Calls Try.prog 36 #[.pointer (some ⟨g, 0, none⟩), .slice (some ⟨w.heap.size, 0, none⟩) n n] (w.alloc (.cells cs 3)) (SomeI w g K fun x => x ∈ ls) := by
  refine (pick_any (w.alloc (.cells cs 3)) g K s (c.alloc _) w.heap.size (by have := c.lt; omega) ls n hn hn0 hn1 (by rw [← hn]; exact row_cells w ls cs hcs)).mono ?_
  rintro e w' ⟨rfl, h1, h2⟩
  have hb := belowV_bd K n s (by omega)
  refine ⟨_, _, ?_, rfl, h1, grown_trans (World.grownBy_alloc _ _ _) h2⟩
  rw [List.getD_eq_getElem?_getD, List.getElem?_eq_getElem (by omega)]
  exact List.getElem_mem _
/-- The code lies below base. -/
def CodeB (K : Code) (base : Nat) : Prop := ∀ a, 0 < K.len → K.A = some a → a.block < base
theorem CodeB.of_in {w : World} {K : Code} (h : CodeIn w K) : CodeB K w.heap.size := by
  intro a hp ha
  obtain ⟨b, off, e, hb, _⟩ := h.2 hp
  rw [e] at ha
  cases ha
  exact hb
theorem CodeB.mono {K : Code} {b b' : Nat} (h : CodeB K b) (hb : b ≤ b') : CodeB K b' := fun a hp ha => Nat.lt_of_lt_of_le (h a hp ha) hb
theorem Cur.setNew {w : World} {g base ga : Nat} {K : Code} {s : St} (c : Cur w g K s) (hK : CodeB K base) (hg : g < base) (hga : base ≤ ga) (j : Nat) (x : Value) : Cur (w.setCell ⟨ga, j, none⟩ x) g K s := by
  obtain ⟨h1, h2, h3⟩ := c
  refine ⟨(Below.heap_setCell w ⟨ga, j, none⟩ x g (show g ≠ ga by omega)).trans h1, ⟨h2.1, fun hp => ?_⟩, h3⟩
  obtain ⟨b, off, e, hb, hc⟩ := h2.2 hp
  have hlt := hK _ hp e
  exact ⟨b, off, e, hb, fun i hi => ⟨(World.cell?_of_block (w := w) (a := ⟨b, off + i, none⟩) (Below.heap_setCell w ⟨ga, j, none⟩ x b (show b ≠ ga by simp at hlt; omega))).trans (hc i hi).1, (hc i hi).2⟩⟩
theorem grown_setNew {w u : World} {g ga : Nat} (h : w.grownBy u (some g)) (hga : w.heap.size ≤ ga) (j : Nat) (x : Value) : w.grownBy (u.setCell ⟨ga, j, none⟩ x) (some g) :=
  ⟨h.os, h.tape, h.output, by simp [World.setCell]; exact h.size, fun k hk hne => (Below.heap_setCell u ⟨ga, j, none⟩ x k (show k ≠ ga by omega)).trans (h.block k hk hne)⟩
/-- A row in a block from base on. -/
def RowN (w : World) (base : Nat) (v : Value) (zs : List Int) : Prop := Ints w v zs ∧ ∃ b, v.ownBlock = some b ∧ base ≤ b
theorem OwnI.rowN {w : World} {base : Nat} {v : Value} {zs : List Int} (h : OwnI w base v zs) : RowN w base v zs := by
  obtain ⟨g, e, h1, _⟩ := h.block
  exact ⟨h.ints, g, e, h1⟩
theorem Ints.kept {w w' : World} {v : Value} {zs : List Int} {g : Nat} (h : Ints w v zs) (hg : w.grownBy w' (some g)) (hne : v.ownBlock ≠ some g) : Ints w' v zs := by
  obtain ⟨b, off, cap, rfl, h1, h2, h3, h4⟩ := h
  exact ⟨b, off, cap, rfl, h1, h2, Nat.lt_of_lt_of_le h3 hg.size, fun j hj => hg.cell (h4 j hj) (fun e => hne e)⟩
theorem RowN.kept {w w' : World} {base : Nat} {v : Value} {zs : List Int} {g : Nat} (h : RowN w base v zs) (hg : w.grownBy w' (some g)) (hb : g < base) : RowN w' base v zs := by
  obtain ⟨h1, b, e, h2⟩ := h
  refine ⟨h1.kept hg (by rw [e]; intro h; injection h with h; omega), b, e, h2⟩
end Go.Proofs.Ytfmmhfipibaghaa
