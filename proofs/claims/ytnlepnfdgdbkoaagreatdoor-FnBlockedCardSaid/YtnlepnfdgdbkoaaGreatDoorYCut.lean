/-
  Texts of this seat, laid together.
-/
import Derived.Test.YtnlepnfdgdbkoaaGreatDoorYStepN
namespace Go.Proofs.YtnlepnfdgdbkoaaGreatDoor
open Go.RowKit M
set_option linter.unusedVariables false
set_option linter.unusedSimpArgs false
def cutV (qb off n cap : Nat) : Value := .slice (if cap = 1 then some ⟨qb, off, none⟩ else some ⟨qb, off + 4, none⟩) (n - 1) (cap - 1)
theorem Rd.cut {w : World} {S : Nat → Prop} {qb off n cap : Nat} {o : O} {q : List O} (h : Rd w S (.slice (some ⟨qb, off, none⟩) n cap) (o :: q).length (cellsF opCells (o :: q))) : Rd w S (cutV qb off n cap) q.length (cellsF opCells q) := by
  rcases h with ⟨e, _⟩ | ⟨b', off', cap', e, h1, h2, h3, h4, h5⟩
  · cases e
  · injection e with e1 e2 e3
    injection e1 with e1
    injection e1 with e4 e5 e6
    subst e4; subst e5; subst e3; subst e2
    simp only [List.length_cons] at h1
    unfold cutV
    simp only [List.length_cons, Nat.add_sub_cancel]
    by_cases hc : cap = 1
    · rw [if_pos hc]
      have hq : q = [] := List.length_eq_zero_iff.1 (by omega)
      subst hq
      exact .inr ⟨qb, off, cap - 1, rfl, by simp, by omega, h3, h4, fun k hk => by simp [cellsF] at hk⟩
    · rw [if_neg hc]
      refine .inr ⟨qb, off + 4, cap - 1, rfl, by omega, by omega, h3, h4, fun k hk => ?_⟩
      have e0 : cellsF opCells (o :: q) = (opCells o).toList ++ cellsF opCells q := rfl
      have h6 := h5 (4 + k) (by rw [e0, List.length_append]; show 4 + k < 4 + _; omega)
      rw [Nat.add_assoc, h6, e0, List.getElem?_append_right (by show 4 ≤ 4 + k; omega)]
      show _[4 + k - 4]? = _
      rw [Nat.add_sub_cancel_left]
section
variable {w : World} {κ : Nat → Nat} {s : S} {vc vj vl : Value}
theorem WT.todoCut {tb n cap : Nat} (h : WT w κ s vc vj (.slice (some ⟨tb, 0, none⟩) n cap) vl) (hn : s.todo.length = n) (t : Nat) (ht : t < n) (u' : Value) (q' : List O) (hq : Rd w (fun k => κ k = 4) u' q'.length (cellsF opCells q')) {old : Value} (hold : w.cell? ⟨tb, t, none⟩ = some old) (hsl : ∀ b, slB u' = some b → slB old = some b) :
    WT (w.setCell ⟨tb, t, none⟩ u') κ { s with todo := s.todo.set t q' } vc vj (.slice (some ⟨tb, 0, none⟩) n cap) vl ∧ Mv κ κ w (w.setCell ⟨tb, t, none⟩ u') := by
  subst hn
  obtain ⟨us, h1, h2, hqo⟩ := h.t.t
  have hk : κ tb = 3 := h1.2 _ List.mem_cons_self tb rfl
  have hro : w.ownsRow 0 46 1 (.slice (some ⟨tb, 0, none⟩) s.todo.length cap) s.todo.length us := h1.1.own _ List.mem_cons_self
  have hul : us.length = s.todo.length := by have := hro.1; omega
  have hs := Heap.set (A := []) (M := []) h1.1 t u'
  have hc : Chg (fun k => κ k = 3) w (w.setCell ⟨tb, t, none⟩ u') := Chg.of_grown hs.2 (fun k e => by injection e with e; subst e; exact hk)
  have hut : us[t]? = some old := by rw [← World.ownsRow.cellAt hro t (by omega)]; exact hold
  have hget : ∀ (i : Nat) (u : Value) (b : Nat), (us.set t u')[i]? = some u → slB u = some b → ∃ v, us[i]? = some v ∧ slB v = some b := by
    intro i u b hi hb
    by_cases e : i = t
    · subst e
      rw [List.getElem?_set_self (by omega)] at hi
      obtain rfl := Option.some.inj hi
      exact ⟨old, hut, hsl b hb⟩
    · rw [List.getElem?_set_ne (Ne.symm e)] at hi
      exact ⟨u, hi, hb⟩
  have hqn : QOk (w.setCell ⟨tb, t, none⟩ u') (us.set t u') := by
    refine QOk.chg (S' := fun k => κ k = 3) ⟨fun i j u v b hij hi hj hb hb2 => ?_, fun i u b hi hb => ?_⟩ hc (fun i u b hi hb h3 => ?_)
    · obtain ⟨x, hx1, hx2⟩ := hget i u b hi hb
      obtain ⟨y, hy1, hy2⟩ := hget j v b hj hb2
      exact hqo.ap i j x y b hij hx1 hy1 hx2 hy2
    · obtain ⟨x, hx1, hx2⟩ := hget i u b hi hb
      exact hqo.frz i x b hx1 hx2
    · obtain ⟨x, hx1, hx2⟩ := hget i u b hi hb
      have h4 : κ b = 4 := TodoS.inT h1 h2 hx1 hx2
      have h3' : κ b = 3 := h3
      omega
  refine WT.todoIn h hc ⟨us.set t u', ⟨by rw [set_len]; exact hs.1, fun r hr k e => ?_⟩, fun j hj => ?_, hqn⟩
  · rw [List.mem_singleton.1 hr] at e
    injection e with e
    subst e
    exact hk
  · rw [set_len] at hj
    by_cases e : j = t
    · subst e
      refine ⟨u', by rw [List.getElem?_set_self (by omega)], ?_⟩
      rw [getD_set _ _ _ _ hj]
      exact hq.chg hc (fun k h4 => by have : κ k = 4 := h4; show ¬ (κ k = 3); omega)
    · obtain ⟨u, h3, h4⟩ := h2 j hj
      refine ⟨u, by rw [List.getElem?_set_ne (Ne.symm e)]; exact h3, ?_⟩
      rw [getD_ne _ _ _ _ _ e]
      exact h4.chg hc (fun k h4 => by have : κ k = 4 := h4; show ¬ (κ k = 3); omega)
theorem PJ.todoCut {g b cap tb tc t : Nat} {r : J} (h : PJ w κ g b cap (.slice (some ⟨tb, 0, none⟩) 4 tc) t s r vc vl) (hn : s.todo.length = 4) (u' : Value) (q' : List O) (hq : Rd w (fun k => κ k = 4) u' q'.length (cellsF opCells q')) {old : Value} (hold : w.cell? ⟨tb, t, none⟩ = some old) (hsl : ∀ b, slB u' = some b → slB old = some b) :
    PJ (w.setCell ⟨tb, t, none⟩ u') κ g b cap (.slice (some ⟨tb, 0, none⟩) 4 tc) t { s with todo := s.todo.set t q' } r vc vl ∧ Mv κ κ w (w.setCell ⟨tb, t, none⟩ u') := by
  have hs := WT.todoCut h.wt hn t h.tl u' q' hq hold hsl
  obtain ⟨us, h1, h2, hqo⟩ := h.wt.t.t
  have hk : κ tb = 3 := h1.2 _ List.mem_cons_self tb rfl
  exact ⟨⟨h.blk.far _ _ _ (fun e => by have := h.six; rw [e] at this; omega), hs.1, h.six, h.jl, h.tl⟩, hs.2⟩
theorem PJ.queue {g b cap t : Nat} {r : J} {vt : Value} (h : PJ w κ g b cap vt t s r vc vl) (hn : s.todo.length = 4) : ∃ tb tc u, vt = .slice (some ⟨tb, 0, none⟩) 4 tc ∧ κ tb = 3 ∧ w.cell? ⟨tb, t, none⟩ = some u ∧ (∀ j, w.frozen? ⟨tb, j, none⟩ = false) ∧ Rd w (fun k => κ k = 4) u (s.todo.getD t []).length (cellsF opCells (s.todo.getD t [])) := by
  obtain ⟨us, h1, h2, hqo⟩ := h.wt.t.t
  have hn' : ({ s with jobs := s.jobs.set t r } : S).todo.length = 4 := hn
  obtain ⟨u, h3, h4⟩ := h2 t (by rw [hn']; exact h.tl)
  have ho : w.ownsRow 0 46 1 vt ({ s with jobs := s.jobs.set t r } : S).todo.length us := h1.1.own _ List.mem_cons_self
  have ho' := ho
  rcases ho.2 with ⟨e, h0⟩ | ⟨tb, tc, cur, e, _, hg, hnc, hm, _, _⟩
  · omega
  · subst e
    refine ⟨tb, tc, u, by rw [hn'], h1.2 _ List.mem_cons_self tb rfl, ?_, fun j => World.ownsRow.frozenAt ho' j, h4⟩
    rw [World.ownsRow.cellAt ho' t (by rw [hn']; have := h.tl; omega)]
    exact h3
end
end Go.Proofs.YtnlepnfdgdbkoaaGreatDoor
