/-
  Chapter 12: the rows of reports picked out of a log's events; how they read.
-/
import Derived.Test.YtcfdnfckilpppaaTellV
import Derived.Test.YtcfdnfckilpppaaRowSSC
import Derived.Test.YtcfdnfckilpppaaTame
namespace Go.Proofs.Ytcfdnfckilpppaa
open Go.RowKit M
set_option linter.unusedVariables false
theorem totR_map (l : List M.E) : totR (l.map E.rows) = totE l := by
  unfold totR totE
  rw [List.map_map]
  rfl
theorem reports_hl {s : S} (hs : SmallS s) (he : totE s.log ≤ 1048576) : (reportsV s).length ≤ 1048576 ∧ totR (reportsV s) ≤ 1048576 ∧ endRS 1 (reportsV s) ≤ 900000000000 ∧ 1 ≤ endRS 1 (reportsV s) := by
  have h1 : (tellsV s).length ≤ s.log.length := List.length_filter_le _ _
  have h2 := hs.l
  have h3 : ((tellsV s).filter fun e => decide (e.op.kind = 3)).length ≤ (tellsV s).length := List.length_filter_le _ _
  have h4 : totE (tellsV s) ≤ totE s.log := totE_filter _ _
  have h5 := totE_filter (fun e => decide (e.op.kind = 3)) (tellsV s)
  have h6 : (reportsV s).length = ((tellsV s).filter fun e => decide (e.op.kind = 3)).length := List.length_map _
  have h7 : totR (reportsV s) = totE ((tellsV s).filter fun e => decide (e.op.kind = 3)) := totR_map _
  rw [endRS_tot]
  exact ⟨by omega, by omega, by omega, by omega⟩
/-- The cell of an event that holds its rows. -/
def rowCell (ps : List Value) (k : Nat) : Value := ps.getD (k * 13 + 12) undef
/-- Rows of rows whose inner rows are those of picked events, picked once more. -/
def PickR (w : World) (B E : Nat) (v : Value) (ls : List (List R)) : Prop := ∃ (log : List M.E) (js : List Nat) (vl : Value) (cs : List Value) (tv : Value) (ks : List Nat), (∀ k ∈ js, k < log.length) ∧ valsD cs (datL evDat log) ∧ (∀ k ∈ ks, k < js.length) ∧
  ls = ks.map (fun k => (log.getD (js.getD k 0) zeroE).rows) ∧
  HeapE w B E (⟨v, 54, 1, ks.length, ks.map (rowCell (picked 13 cs js))⟩ :: ⟨tv, 56, 13, js.length, picked 13 cs js⟩ :: ⟨vl, 56, 13, log.length, cs⟩ :: innerD cs (datL evDat log))
theorem PickR.below {w w' : World} {B E : Nat} {v : Value} {l : List (List R)} (h : PickR w B E v l) (hb : Below w.heap.size w w') : PickR w' B E v l := by
  obtain ⟨log, js, vl, cs, tv, ks, h1, h2, h3, h4, h5⟩ := h
  exact ⟨log, js, vl, cs, tv, ks, h1, h2, h3, h4, h5.below hb⟩
theorem PickR.far {w w' : World} {B E B' E' : Nat} {v : Value} {l : List (List R)} (h : PickR w B E v l) (hc : Chg (Within B' E') w w') (hd : E ≤ B' ∨ E' ≤ B) : PickR w' B E v l := by
  obtain ⟨log, js, vl, cs, tv, ks, h1, h2, h3, h4, h5⟩ := h
  exact ⟨log, js, vl, cs, tv, ks, h1, h2, h3, h4, h5.far hc hd⟩
theorem HeapE.tail {w : World} {B E : Nat} {r : Rw} {L : List Rw} (h : HeapE w B E (r :: L)) : HeapE w B E L :=
  ⟨⟨fun x hx => h.1.own x (List.mem_cons_of_mem _ hx), (List.pairwise_cons.1 h.1.ap).2⟩, fun x hx => h.2 x (List.mem_cons_of_mem _ hx)⟩
theorem PickR.arg {w : World} {B E : Nat} {v : Value} {ls : List (List R)} (h : PickR w B E v ls) : ArgRS w v ls := by
  obtain ⟨log, js, vl, cs, tv, ks, h1, h2, h3, rfl, h5⟩ := h
  have hpe : PickE w B E tv (js.map (fun k => log.getD k zeroE)) := ⟨log, js, vl, cs, rfl, h1, h2, h5.tail⟩
  have ha := hpe.arg
  have ho : w.ownsRow B 54 1 v ks.length (ks.map (rowCell (picked 13 cs js))) := h5.1.own _ List.mem_cons_self
  have hto : w.ownsRow B 56 13 tv js.length (picked 13 cs js) := h5.1.own _ (List.mem_cons_of_mem _ List.mem_cons_self)
  rcases ho.2 with ⟨e, h0⟩ | ⟨g, cap, cur, e, hb, hg, hn, hm, hc, ht⟩
  · subst e
    obtain rfl : ks = [] := List.length_eq_zero_iff.1 h0
    exact ⟨none, 0, rfl, Nat.le_refl _, Nat.zero_le _, fun h => absurd h (Nat.lt_irrefl _)⟩
  · refine ⟨some ⟨g, 0, none⟩, cap, by rw [e, List.length_map], by rw [List.length_map]; exact hn, hm, fun hp => ⟨g, 0, rfl, (World.ownsRow.lt ho g (by rw [e]; rfl)).2, fun i hi => ?_⟩⟩
    rw [List.length_map] at hi
    subst e
    have hk : ks.getD i 0 < js.length := h3 _ (by rw [List.getD_eq_getElem?_getD, List.getElem?_eq_getElem hi]; exact List.getElem_mem hi)
    obtain ⟨A, cap', ev, _, _, h6⟩ := ha
    rw [List.length_map] at ev h6
    obtain ⟨b, off, ea, hb2, h7⟩ := h6 (by omega)
    have hge : (js.map (fun k => log.getD k zeroE)).getD (ks.getD i 0) zeroE = log.getD (js.getD (ks.getD i 0) 0) zeroE := by
      rw [List.getD_eq_getElem?_getD, List.getElem?_map, List.getElem?_eq_getElem hk, List.getD_eq_getElem?_getD (l := js), List.getElem?_eq_getElem hk]; rfl
    have hel := h7 _ hk
    rw [hge] at hel
    obtain ⟨u, hu, hr⟩ := hel 12 _ rfl
    refine ⟨u, ?_, ?_⟩
    · have hcell := World.ownsRow.cellAt ho i (by omega : i < ks.length * 1)
      rw [Nat.zero_add, hcell, List.getElem?_map, List.getElem?_eq_getElem hi]
      rw [show ks[i] = ks.getD i 0 by rw [List.getD_eq_getElem?_getD, List.getElem?_eq_getElem hi]; rfl]
      rcases hto.2 with ⟨e2, h0⟩ | ⟨g2, cap2, cur2, e2, _⟩
      · omega
      · subst e2
        rw [ea] at ev
        injection ev with e1 e3 e4
        injection e1 with e1
        injection e1 with e5 e6
        subst e5
        subst e6
        have ht2 := World.ownsRow.cellAt hto (ks.getD i 0 * 13 + 12) (by omega)
        rw [Nat.zero_add, ht2] at hu
        show some ((picked 13 cs js).getD (ks.getD i 0 * 13 + 12) undef) = some u
        rw [List.getD_eq_getElem?_getD (l := picked 13 cs js), hu]
        rfl
    · have hg2 : (ks.map (fun k => (log.getD (js.getD k 0) zeroE).rows)).getD i [] = (log.getD (js.getD (ks.getD i 0) 0) zeroE).rows := by
        rw [List.getD_eq_getElem?_getD, List.getElem?_map, List.getElem?_eq_getElem hi, List.getD_eq_getElem?_getD (l := ks), List.getElem?_eq_getElem hi]; rfl
      rw [hg2]
      exact reads_rows hr
end Go.Proofs.Ytcfdnfckilpppaa
