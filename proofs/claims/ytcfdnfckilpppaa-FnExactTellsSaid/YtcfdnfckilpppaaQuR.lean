/-
  A slice that reads as so many cells, wherever in its block it begins (a queue whose head was cut off is no row of its own any more); the model's copy of queues that are such.
-/
import Derived.Test.YtcfdnfckilpppaaZc
import Derived.Test.YtcfdnfckilpppaaZd
import Derived.Test.YtcfdnfckilpppaaOwnS
namespace Go.Proofs.Ytcfdnfckilpppaa
open Go.RowKit M
set_option linter.unusedVariables false
set_option linter.unusedSimpArgs false
/-- The slice u holds n elements whose cells are cs, in a block of S. -/
def Rd (w : World) (S : Nat → Prop) (u : Value) (n : Nat) (cs : List Value) : Prop :=
  (u = .slice none 0 0 ∧ n = 0 ∧ cs = []) ∨ ∃ b off cap, u = .slice (some ⟨b, off, none⟩) n cap ∧ n ≤ cap ∧ cap ≤ maxLen ∧ S b ∧ b < w.heap.size ∧ ∀ k, k < cs.length → w.cell? ⟨b, off + k, none⟩ = cs[k]?
theorem Rd.below {w w' : World} {S : Nat → Prop} {u : Value} {n : Nat} {cs : List Value} (h : Rd w S u n cs) (hb : Below w.heap.size w w') : Rd w' S u n cs := by
  rcases h with h | ⟨b, off, cap, e, h1, h2, h3, h4, h5⟩
  · exact .inl h
  · exact .inr ⟨b, off, cap, e, h1, h2, h3, Nat.lt_of_lt_of_le h4 hb.size, fun k hk => (hb.cell (p := ⟨b, off + k, none⟩) h4).trans (h5 k hk)⟩
theorem Rd.mono {w : World} {S S' : Nat → Prop} {u : Value} {n : Nat} {cs : List Value} (h : Rd w S u n cs) (hs : ∀ k, S k → S' k) : Rd w S' u n cs := by
  rcases h with h | ⟨b, off, cap, e, h1, h2, h3, h4, h5⟩
  · exact .inl h
  · exact .inr ⟨b, off, cap, e, h1, h2, hs b h3, h4, h5⟩
theorem cell_chg {w w' : World} {S : Nat → Prop} {b o : Nat} (hc : Chg S w w') (hb : b < w.heap.size) (hn : ¬ S b) : w'.cell? ⟨b, o, none⟩ = w.cell? ⟨b, o, none⟩ := by
  unfold World.cell?
  simp only [hc.block b hb hn]
theorem Rd.chg {w w' : World} {S S' : Nat → Prop} {u : Value} {n : Nat} {cs : List Value} (h : Rd w S u n cs) (hc : Chg S' w w') (hd : ∀ k, S k → ¬ S' k) : Rd w' S u n cs := by
  rcases h with h | ⟨b, off, cap, e, h1, h2, h3, h4, h5⟩
  · exact .inl h
  · exact .inr ⟨b, off, cap, e, h1, h2, h3, Nat.lt_of_lt_of_le h4 hc.size, fun k hk => (cell_chg hc h4 (hd b h3)).trans (h5 k hk)⟩
theorem Rd.of {w : World} {S : Nat → Prop} {base : Nat} {t : TypeId} {F : Nat} {u : Value} {n : Nat} {cs : List Value} (h : w.ownsRow base t F u n cs) (hS : ∀ k, u.ownBlock = some k → S k) : Rd w S u n cs := by
  have h' := h
  rcases h.2 with ⟨e, h0⟩ | ⟨g, cap, cur, e, _, hg, hn, hm, _, _⟩
  · exact .inl ⟨e, h0, List.length_eq_zero_iff.1 (by have := h.1; rw [h0, Nat.zero_mul] at this; exact this)⟩
  · subst e
    refine .inr ⟨g, 0, cap, rfl, hn, hm, hS g rfl, (World.ownsRow.lt h' g rfl).2, fun k hk => ?_⟩
    rw [Nat.zero_add]
    exact World.ownsRow.cellAt h' k (by rw [← h.1]; exact hk)
/-- Its head cut off. -/
theorem Rd.tail {w : World} {S : Nat → Prop} {b off n cap F : Nat} {cs : List Value} (h : Rd w S (.slice (some ⟨b, off, none⟩) (n + 1) cap) (n + 1) cs) : Rd w S (.slice (some ⟨b, off + F, none⟩) n (cap - 1)) n (cs.drop F) := by
  rcases h with ⟨e, _⟩ | ⟨b', off', cap', e, h1, h2, h3, h4, h5⟩
  · cases e
  · injection e with e1 e2 e3
    injection e1 with e1
    injection e1 with e4 e5 e6
    subst e4; subst e5; subst e3
    refine .inr ⟨b, off + F, cap - 1, rfl, by omega, by omega, h3, h4, fun k hk => ?_⟩
    rw [List.length_drop] at hk
    rw [List.getElem?_drop, Nat.add_assoc]
    exact h5 (F + k) (by omega)
/-- 'append(s, x...)' where s is own and empty. -/
theorem wpList_append_rd {P : Program} {w : World} {ops : Array Oper} {rest : List Oper} {o : Oper} {a : Act} {Q : Exit → Act → World → Prop} (hgd : o.guard = none) (s x : Operand) (t : TypeId)
    (ho : o.op = .call { callee := .builtin .append, args := #[s, x], argTypes := #[t, t] })
    (base : Nat) (e : TypeId) (i : TypeInfo) (z : Value) (size bytes : Nat) (ht : P.underlying t = some (.slice e)) (hi : P.info? e = some i) (hz : i.zero = some z)
    (hsize : i.size = size) (hby : i.bytes = bytes) (hzs : z.cells.size = size) (hsz : 0 < size)
    (v : Value) (hs : a.eval s = v) (hown : w.ownsRow base e size v 0 []) (S : Nat → Prop) (m : Nat) (vx : Value) (cs : List Value) (hx : a.eval x = vx) (hvx : Rd w S vx m cs) (hl : cs.length = m * size)
    (h1 : ∀ u ∈ cs, u.oneCell' = true) (h63 : m ≤ maxLen) (hbytes : m * bytes ≤ 140737488355328) (hbase : base ≤ w.heap.size)
    (h : ∀ v' w', w'.ownsRow base e size v' m cs → w.grownBy w' v.ownBlock → wpList P ops Q rest (a.put o.dst v') w') : wpList P ops Q (o :: rest) a w := by
  rcases hvx with ⟨ev, h0, hcs⟩ | ⟨g, off, cap, ev, _, _, _, _, h5⟩
  · subst h0; subst hcs
    rw [ev] at hx
    exact wpList_append_own_none hgd s x t ho base e i size ht hi v 0 [] hs hown hx (h v w hown (World.grownBy.refl w _))
  · rw [ev] at hx
    refine wpList_append_own w hgd s x t ho base e i z size bytes ht hi hz hsize hby hzs hsz v 0 [] hs hown ⟨g, off, none⟩ m cap cs hx hl ?_ h1 (by rw [Nat.zero_add]; exact h63) (by rw [Nat.zero_add]; exact hbytes) hbase ?_
    · intro j u hj
      rw [Addr.add_lit]
      exact (h5 j (List.getElem?_eq_some_iff.1 hj).1).trans hj
    · intro v' w' h2 h3 _
      exact h v' w' (by simpa using h2) h3
/-- Queues: the row of them is own, each of them reads as it should. -/
def TodoS (w : World) (S T : Nat → Prop) (v : Value) (ls : List (List O)) : Prop :=
  ∃ us : List Value, HeapS w S [⟨v, 90, 1, ls.length, us⟩] ∧ ∀ j, j < ls.length → ∃ u, us[j]? = some u ∧ Rd w T u (ls.getD j []).length (cellsF opCells (ls.getD j []))
theorem TodoS.below {w w' : World} {S T : Nat → Prop} {v : Value} {ls : List (List O)} (h : TodoS w S T v ls) (hb : Below w.heap.size w w') : TodoS w' S T v ls := by
  obtain ⟨us, h1, h2⟩ := h
  exact ⟨us, h1.below hb, fun j hj => by obtain ⟨u, h3, h4⟩ := h2 j hj; exact ⟨u, h3, h4.below hb⟩⟩
theorem TodoS.chg {w w' : World} {S T S' : Nat → Prop} {v : Value} {ls : List (List O)} (h : TodoS w S T v ls) (hc : Chg S' w w') (hd : ∀ k, S k → ¬ S' k) (hd2 : ∀ k, T k → ¬ S' k) : TodoS w' S T v ls := by
  obtain ⟨us, h1, h2⟩ := h
  exact ⟨us, h1.chg hc hd, fun j hj => by obtain ⟨u, h3, h4⟩ := h2 j hj; exact ⟨u, h3, h4.chg hc hd2⟩⟩
theorem TodoS.at {w : World} {S T : Nat → Prop} {v : Value} {ls : List (List O)} (h : TodoS w S T v ls) (j : Nat) (hj : j < ls.length) :
    ∃ b cap u, v = .slice (some ⟨b, 0, none⟩) ls.length cap ∧ b < w.heap.size ∧ w.cell? ⟨b, j, none⟩ = some u ∧ Rd w T u (ls.getD j []).length (cellsF opCells (ls.getD j [])) := by
  obtain ⟨us, h1, h2⟩ := h
  obtain ⟨u, h3, h4⟩ := h2 j hj
  have ho : w.ownsRow 0 90 1 v ls.length us := h1.1.own _ List.mem_cons_self
  have ho' := ho
  rcases ho.2 with ⟨e, h0⟩ | ⟨g, cap, cur, e, _, hg, hn, hm, _, _⟩
  · omega
  · subst e
    exact ⟨g, cap, u, rfl, (World.ownsRow.lt ho' g rfl).2, (World.ownsRow.cellAt ho' j (by omega)).trans h3, h4⟩
theorem TodoS.slice {w : World} {S T : Nat → Prop} {v : Value} {ls : List (List O)} (h : TodoS w S T v ls) : ∃ A c, v = .slice A ls.length c := by
  obtain ⟨us, h1, h2⟩ := h
  exact Rw.slice (h1.1.own _ List.mem_cons_self)
end Go.Proofs.Ytcfdnfckilpppaa
