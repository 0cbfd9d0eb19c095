/-
  Rows of ints of the call's own: one that was just built, appending one; the law's helper that looks for a number in a row.
-/
import Derived.Test.YthfbacaamhkjpaaInts
import Derived.Test.YthfbacaamhkjpaaGive
namespace Go.Proofs.Ythfbacaamhkjpaa
open Go.RowKit M
set_option linter.unusedVariables false
theorem OwnI.alloc {w : World} {base : Nat} {v : Value} {zs : List Int} (h : OwnI w base v zs) (o : Obj) : OwnI (w.alloc o) base v zs := ⟨World.ownsRow.alloc h.1 o, h.2⟩
theorem OwnI.base_le {w : World} {base : Nat} {v : Value} {zs : List Int} (h : OwnI w base v zs) : ∀ k, v.ownBlock = some k → base ≤ k := fun k hk => (World.ownsRow.lt h.1 k hk).1
/-- An empty row that was just built ([]int{}). -/
theorem OwnI.empty (w : World) (base : Nat) (hb : base ≤ w.heap.size) : OwnI (w.alloc (.cells #[] 3)) base (.slice (some ⟨w.heap.size, 0, none⟩) 0 0) [] :=
  ⟨World.ownsRow_lit w #[] 0 hb (Nat.zero_le _) rfl, _, _, rfl⟩
/-- append(v, x) onto an own row of ints, x being a number that lies alone in a new block. -/
theorem wpI_append (w : World) {ops : Array Oper} {rest : List Oper} {o : Oper} {a : Act} {Q : Exit → Act → World → Prop} (hgd : o.guard = none) (s x : Operand)
    (ho : o.op = .call { callee := .builtin .append, args := #[s, x], argTypes := #[22, 22] })
    (base : Nat) (v : Value) (l : List Int) (hown : OwnI w base v l) (hs : a.eval s = v)
    (c : Int) (hx : a.eval x = .slice (some ⟨w.heap.size, 0, none⟩) 1 1)
    (hlen : l.length + 1 ≤ 8796093022208) (hbase : base ≤ w.heap.size)
    (h : ∀ v' w', OwnI w' base v' (l ++ [c]) → (w.alloc (.cells #[.int .i64 c] 3)).grownBy w' v.ownBlock → wpList Try.prog ops Q rest (a.put o.dst v') w') : wpList Try.prog ops Q (o :: rest) a (w.alloc (.cells #[.int .i64 c] 3)) := by
  obtain ⟨i0, hi, hz0, hz1, hz2⟩ := info_parts info_int
  refine wpList_append_own (w.alloc (.cells #[.int .i64 c] 3)) hgd s x 22 ho base 3 i0 (.int .i64 0) 1 8 Try.underlying22 hi hz0 hz1 hz2 rfl (by decide) v l.length (l.map (Value.int .i64)) hs (hown.alloc _).1 ⟨w.heap.size, 0, none⟩ 1 1 [.int .i64 c] hx rfl ?_ (by intro u hu; simp at hu; subst hu; rfl) (by unfold maxLen; omega) (by omega) (by simp [go_sem]; omega) ?_
  · intro j u hu
    cases j with
    | zero => obtain rfl : Value.int .i64 c = u := by simpa using hu
              simp [go_sem]
    | succ j => simp at hu
  · intro v' w' h1 h2 _
    have h1' : w'.ownsRow base 3 1 v' (l.length + 1) ((l ++ [c]).map (Value.int .i64)) := by rw [List.map_append]; exact h1
    refine h v' w' (OwnI.of_row h1' (by simp) ?_) h2
    intro e
    subst e
    rcases h1'.2 with ⟨_, h0⟩ | ⟨g, cap, cur, e, _⟩
    · omega
    · cases e
theorem own_set {w w0 : World} {base g n cap : Nat} {zs : List Int} (h : OwnI w base (.slice (some ⟨g, 0, none⟩) n cap) zs) (j : Nat) (z : Int) (hb : Below base w0 w) (hg : base ≤ w.heap.size) :
    OwnI (w.setCell ⟨g, j, none⟩ (.int .i64 z)) base (.slice (some ⟨g, 0, none⟩) n cap) (zs.set j z) ∧ Below base w0 (w.setCell ⟨g, j, none⟩ (.int .i64 z)) := by
  have hs := h.set j z
  obtain ⟨g', e, h2, _⟩ := h.block
  cases e
  exact ⟨hs.1, hb.grown hs.2 hg (by intro k hk; cases hk; exact h2)⟩
end Go.Proofs.Ythfbacaamhkjpaa
