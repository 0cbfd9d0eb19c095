/-
  Chapter 12: elements picked out of a row of records with rows of their own; how a picked row reads.
-/
import Derived.Test.YtcfdnfckilpppaaZd
import Derived.Test.YtcfdnfckilpppaaEvK
namespace Go.Proofs.Ytcfdnfckilpppaa
open Go.RowKit M
set_option linter.unusedVariables false
set_option linter.unusedSimpArgs false
/-- The cells of the elements so numbered. -/
def picked (F : Nat) (cs : List Value) (js : List Nat) : List Value := js.flatMap (fun k => (cs.drop (k * F)).take F)
theorem picked_snoc (F : Nat) (cs : List Value) (js : List Nat) (k : Nat) : picked F cs (js ++ [k]) = picked F cs js ++ (cs.drop (k * F)).take F := by simp [picked]
theorem picked_one {F n : Nat} {cs : List Value} (hl : cs.length = n * F) {k : Nat} (hk : k < n) : ((cs.drop (k * F)).take F).length = F := by
  have h1 : k * F + F ≤ n * F := by rw [← Nat.succ_mul]; exact Nat.mul_le_mul_right F hk
  rw [List.length_take, List.length_drop, hl]
  omega
theorem picked_len {F n : Nat} {cs : List Value} (hl : cs.length = n * F) (js : List Nat) (h : ∀ k ∈ js, k < n) : (picked F cs js).length = js.length * F := by
  induction js with
  | nil => simp [picked]
  | cons k js ih =>
    have := ih (fun i hi => h i (List.mem_cons_of_mem _ hi))
    unfold picked at this ⊢
    rw [List.flatMap_cons, List.length_append, this, picked_one hl (h k List.mem_cons_self), List.length_cons, Nat.succ_mul]
    omega
theorem picked_at {F n : Nat} {cs : List Value} (hl : cs.length = n * F) (js : List Nat) (h : ∀ k ∈ js, k < n) (i r : Nat) (hi : i < js.length) (hr : r < F) : (picked F cs js)[i * F + r]? = cs[js.getD i 0 * F + r]? := by
  induction js generalizing i with
  | nil => simp at hi
  | cons k js ih =>
    have h1 := picked_one hl (h k List.mem_cons_self)
    show ((cs.drop (k * F)).take F ++ picked F cs js)[i * F + r]? = _
    cases i with
    | zero =>
      rw [List.getElem?_append_left (by omega), List.getElem?_take, if_pos (by omega), List.getElem?_drop]
      simp
    | succ i =>
      rw [List.getElem?_append_right (by rw [h1, Nat.succ_mul]; omega), h1, show (i + 1) * F + r - F = i * F + r by rw [Nat.succ_mul]; omega]
      have := ih (fun x hx => h x (List.mem_cons_of_mem _ hx)) i (by simpa using hi)
      rw [this]
      simp
/-- Events picked out of a log of the call's own: the two rows and the log's inner ones, in a stretch of blocks. -/
def PickE (w : World) (B E : Nat) (v : Value) (l : List M.E) : Prop := ∃ (log : List M.E) (js : List Nat) (vl : Value) (cs : List Value), l = js.map (fun k => log.getD k zeroE) ∧ (∀ k ∈ js, k < log.length) ∧ valsD cs (datL evDat log) ∧
  HeapE w B E (⟨v, 56, 13, js.length, picked 13 cs js⟩ :: ⟨vl, 56, 13, log.length, cs⟩ :: innerD cs (datL evDat log))
theorem PickE.below {w w' : World} {B E : Nat} {v : Value} {l : List M.E} (h : PickE w B E v l) (hb : Below w.heap.size w w') : PickE w' B E v l := by
  obtain ⟨log, js, vl, cs, h1, h2, h3, h4⟩ := h
  exact ⟨log, js, vl, cs, h1, h2, h3, h4.below hb⟩
theorem PickE.far {w w' : World} {B E B' E' : Nat} {v : Value} {l : List M.E} (h : PickE w B E v l) (hc : Chg (Within B' E') w w') (hd : E ≤ B' ∨ E' ≤ B) : PickE w' B E v l := by
  obtain ⟨log, js, vl, cs, h1, h2, h3, h4⟩ := h
  exact ⟨log, js, vl, cs, h1, h2, h3, h4.far hc hd⟩
theorem PickE.arg {w : World} {B E : Nat} {v : Value} {l : List M.E} (h : PickE w B E v l) : ArgT 13 evDat zeroE w v l := by
  obtain ⟨log, js, vl, cs, rfl, h2, h3, h4⟩ := h
  have ho : w.ownsRow B 56 13 v js.length (picked 13 cs js) := h4.1.own _ List.mem_cons_self
  have hlo : w.ownsRow B 56 13 vl log.length cs := h4.1.own _ (List.mem_cons_of_mem _ List.mem_cons_self)
  have hl : cs.length = log.length * 13 := hlo.1
  have hown : OwnY 56 13 evDat w B E vl log := ⟨cs, h3, ⟨⟨fun r hr => h4.1.own r (List.mem_cons_of_mem _ hr), (List.pairwise_cons.1 h4.1.ap).2⟩, fun r hr => h4.2 r (List.mem_cons_of_mem _ hr)⟩⟩
  have ha := OwnY.arg hown evDat_len evDat_wf zeroE
  rcases ho.2 with ⟨e, h0⟩ | ⟨g, cap, cur, e, hb, hg, hn, hm, hc, ht⟩
  · subst e
    obtain rfl : js = [] := List.length_eq_zero_iff.1 h0
    exact ⟨none, 0, rfl, Nat.le_refl _, Nat.zero_le _, fun h => absurd h (Nat.lt_irrefl _)⟩
  · refine ⟨some ⟨g, 0, none⟩, cap, by rw [e, List.length_map], by rw [List.length_map]; exact hn, hm, fun hp => ⟨g, 0, rfl, (World.ownsRow.lt ho g (by rw [e]; rfl)).2, fun i hi => ?_⟩⟩
    rw [List.length_map] at hi
    have hj : js.getD i 0 < log.length := h2 _ (by rw [List.getD_eq_getElem?_getD, List.getElem?_eq_getElem hi]; exact List.getElem_mem hi)
    have hge : (js.map (fun k => log.getD k zeroE)).getD i zeroE = log.getD (js.getD i 0) zeroE := by
      rw [List.getD_eq_getElem?_getD, List.getElem?_map, List.getElem?_eq_getElem hi, List.getD_eq_getElem?_getD (l := js), List.getElem?_eq_getElem hi]; rfl
    rw [hge, Nat.zero_add]
    obtain ⟨A, cap', ev, _, _, h5⟩ := ha
    obtain ⟨b, off, ea, hb2, h6⟩ := h5 (by omega)
    have hel := h6 _ hj
    intro k d hd
    obtain ⟨u, hu, hr⟩ := hel k d hd
    have hk : k < 13 := by
      have := (List.getElem?_eq_some_iff.1 hd).1
      rwa [evDat_len] at this
    refine ⟨u, ?_, hr⟩
    subst e
    have hin : i * 13 + k < js.length * 13 := by omega
    rw [World.ownsRow.cellAt ho (i * 13 + k) hin, picked_at hl js h2 i k hi hk]
    rcases hlo.2 with ⟨e2, h0⟩ | ⟨g2, cap2, cur2, e2, _⟩
    · omega
    · subst e2
      rw [ea] at ev
      injection ev with e1 e3 e4
      injection e1 with e1
      injection e1 with e5 e6
      subst e5
      subst e6
      rw [← World.ownsRow.cellAt hlo (js.getD i 0 * 13 + k) (by omega), ← hu, Nat.zero_add]
theorem filter_take_snoc {α : Type} (p : α → Bool) (z : α) (l : List α) (j : Nat) (hj : j < l.length) : (l.take (j + 1)).filter p = (l.take j).filter p ++ (if p (l.getD j z) then [l.getD j z] else []) := by
  rw [List.take_add_one, List.getElem?_eq_getElem hj, List.getD_eq_getElem?_getD, List.getElem?_eq_getElem hj, List.filter_append]
  congr 1
  simp [List.filter_cons]
end Go.Proofs.Ytcfdnfckilpppaa
