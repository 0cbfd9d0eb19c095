/-
  Chapter 10 to 12's laws: a world that the law's budget holds may be marked, and so may events picked out of its log.
-/
import Derived.Test.YtcfdnfckilpppaaNewL
import Derived.Test.YtcfdnfckilpppaaWorZ
import Derived.Test.YtcfdnfckilpppaaZc
import Derived.Test.YtcfdnfckilpppaaZe
namespace Go.Proofs.Ytcfdnfckilpppaa
open Go.RowKit M
set_option linter.unusedVariables false
theorem szLJob_end : ∀ (ls : List J) (l k : Int), 0 ≤ szLJob ls l → endJobL k ls + szLJob ls l ≤ k + 16 * (ls.length : Int) + l
  | [], l, k, h => by simp only [endJobL, szLJob, List.length_nil]; omega
  | r :: rs, l, k, h => by
    have e : szLJob (r :: rs) l = if szJobV r l < 0 then -1 else szLJob rs (szJobV r l) := rfl
    rw [e] at h ⊢
    by_cases h2 : szJobV r l < 0
    · rw [if_pos h2] at h; simp at h
    · rw [if_neg h2] at h ⊢
      have h3 := szJobV_le (r := r) (l := l) (by omega)
      have h4 := szLJob_end rs (szJobV r l) (endJob k r) h
      have e2 : endJobL k (r :: rs) = endJobL (endJob k r) rs := rfl
      rw [e2, List.length_cons]
      unfold endJob at h4 ⊢
      omega
theorem szLEv_end : ∀ (ls : List M.E) (l k : Int), 0 ≤ szLEv ls l → endEvL k ls + 10 * szLEv ls l ≤ k + 12 * (ls.length : Int) + 10 * l
  | [], l, k, h => by simp only [endEvL, szLEv, List.length_nil]; omega
  | r :: rs, l, k, h => by
    have e : szLEv (r :: rs) l = if szEvV r l < 0 then -1 else szLEv rs (szEvV r l) := rfl
    rw [e] at h ⊢
    by_cases h2 : szEvV r l < 0
    · rw [if_pos h2] at h; simp at h
    · rw [if_neg h2] at h ⊢
      have h3 := szEvV_le (r := r) (l := l) (by omega)
      have h4 := szLEv_end rs (szEvV r l) (endEv k r) h
      have e2 : endEvL k (r :: rs) = endEvL (endEv k r) rs := rfl
      rw [e2, List.length_cons]
      unfold endEv at h4 ⊢
      omega
/-- How many rows the events hold. -/
def totE (l : List M.E) : Nat := (l.map (fun r => r.rows.length)).sum
theorem endEvL_tot (k : Int) (l : List M.E) : endEvL k l = k + 12 * (l.length : Int) + 10 * (totE l : Int) := by
  induction l generalizing k with
  | nil => simp [endEvL, totE]
  | cons r rs ih =>
    have e2 : endEvL k (r :: rs) = endEvL (endEv k r) rs := rfl
    rw [e2, ih]
    simp only [totE, List.map_cons, List.sum_cons, List.length_cons, endEv]
    omega
theorem totE_filter (p : M.E → Bool) (l : List M.E) : totE (l.filter p) ≤ totE l := by
  induction l with
  | nil => exact Nat.le_refl _
  | cons r rs ih =>
    rw [List.filter_cons]
    unfold totE at *
    split <;> simp only [List.map_cons, List.sum_cons] <;> omega
/-- What a budget of 2^20 holds may be marked. -/
theorem tame_arg {s : S} (h : 0 ≤ szWorV s 1048576) : TameW 1 s ∧ endEvL 1 s.log ≤ 900000000 ∧ totE s.log ≤ 1048576 := by
  have hsm := (szWor_small h (Int.le_refl _)).1
  unfold szWorV szBind at h
  by_cases a0 : szInt s.cells.length 1048576 < 0
  · rw [if_pos a0] at h; simp at h
  have b0 := szInt_le (n := s.cells.length) (l := 1048576) (by omega)
  rw [if_neg a0] at h
  generalize szInt s.cells.length 1048576 = x0 at *
  by_cases a1 : szJobSV s.jobs x0 < 0
  · rw [if_pos a1] at h; simp at h
  have c1 := szJobSV_le (ls := s.jobs) (l := x0) (by omega)
  have b1 : endJobL (1 + (s.cells.length : Int)) s.jobs + szJobSV s.jobs x0 ≤ (1 + (s.cells.length : Int)) + 15 * (s.jobs.length : Int) + x0 := by
    unfold szJobSV at a1 ⊢
    by_cases h2 : x0 - (s.jobs.length : Int) < 0
    · rw [if_pos h2] at a1; omega
    · rw [if_neg h2] at a1 ⊢
      have := szLJob_end s.jobs (x0 - (s.jobs.length : Int)) (1 + (s.cells.length : Int)) (by omega)
      omega
  rw [if_neg a1] at h
  generalize szJobSV s.jobs x0 = x1 at *
  by_cases a2 : szQV s.todo x1 < 0
  · rw [if_pos a2] at h; simp at h
  have b2 := szQV_tot (ls := s.todo) (l := x1) (by omega)
  rw [if_neg a2] at h
  generalize szQV s.todo x1 = x2 at *
  by_cases a3 : szEvSV s.log x2 < 0
  · rw [if_pos a3] at h; simp at h
  have c3 := szEvSV_le (ls := s.log) (l := x2) (by omega)
  have b3 : ∀ k : Int, endEvL k s.log + 10 * szEvSV s.log x2 ≤ k + 2 * (s.log.length : Int) + 10 * x2 := by
    intro k
    unfold szEvSV at a3 ⊢
    by_cases h2 : x2 - (s.log.length : Int) < 0
    · rw [if_pos h2] at a3; omega
    · rw [if_neg h2] at a3 ⊢
      have := szLEv_end s.log (x2 - (s.log.length : Int)) k (by omega)
      omega
  have b4 := b3 (endQ (endJobL (1 + (s.cells.length : Int)) s.jobs) s.todo)
  have b5 := b3 1
  rw [endQ_tot] at b4
  have e4 : totQ s.todo = (s.todo.map List.length).sum := rfl
  have hl := c3.2.1
  have hj := c1.2.1
  have e5 := endEvL_tot 1 s.log
  refine ⟨⟨hsm, by omega, by decide, ?_⟩, by omega, by omega⟩
  unfold endW
  rw [endQ_tot]
  omega
theorem endEvL_mono (k k' : Int) (l : List M.E) (h : k ≤ k') : endEvL k l ≤ endEvL k' l := by
  induction l generalizing k k' with
  | nil => exact h
  | cons r rs ih => exact ih _ _ (by unfold endEv; omega)
theorem endEvL_filter (p : M.E → Bool) (k : Int) (l : List M.E) : endEvL k (l.filter p) ≤ endEvL k l := by
  induction l generalizing k with
  | nil => exact Int.le_refl _
  | cons r rs ih =>
    rw [List.filter_cons]
    split
    · exact ih _
    · exact Int.le_trans (ih k) (endEvL_mono _ _ _ (by unfold endEv; omega))
theorem getD_filter {α : Type} (p : α → Bool) (z : α) (P : α → Prop) (l : List α) (h : ∀ j, j < l.length → P (l.getD j z)) (j : Nat) (hj : j < (l.filter p).length) : P ((l.filter p).getD j z) := by
  have hm : (l.filter p)[j] ∈ l := (List.mem_filter.1 (List.getElem_mem hj)).1
  obtain ⟨i, hi, e⟩ := List.getElem_of_mem hm
  have := h i hi
  rw [List.getD_eq_getElem?_getD, List.getElem?_eq_getElem hi, Option.getD_some, e] at this
  rw [List.getD_eq_getElem?_getD, List.getElem?_eq_getElem hj, Option.getD_some]
  exact this
/-- A law's copy of a world lies in the stretch that the call made. -/
theorem worOwn_p {w : World} {B E1 E2 E3 E4 : Nat} {s : S} {vc vj vt vl : Value} (h : WorOwn w B E1 E2 E3 E4 s vc vj vt vl) : WorP w B E4 s vc vj vt vl := by
  have h1 := h.h1
  have h2 := h.h2
  have h3 := h.h3
  have h4 := h.h4
  exact ⟨B, E1, E1, E2, E2, E3, E3, E4, ⟨⟨Nat.le_refl _, by omega, by omega, by omega⟩, ⟨by omega, by omega, by omega, by omega⟩, .inl (by omega), .inl (by omega), .inl (by omega), .inl (by omega), .inl (by omega), .inl (by omega)⟩, ⟨h.c, h.j, h.t, h.l⟩⟩
/-- What a law's copy of a world is: a new one. -/
def MadeP (w : World) (s : S) (e : Ending) (w' : World) : Prop := ∃ vc vj vt vl, e = .returned (.agg (worVals s vc vj vt vl)) ∧ WorP w' w.heap.size w'.heap.size s vc vj vt vl ∧ Below w.heap.size w w'
theorem toWorldP_any (w : World) (s : S) (vc vj vt vl : Value) (h : WorIn w s vc vj vt vl) (hs : SmallS s) : Calls Try.prog 8 #[.agg (worVals s vc vj vt vl)] w (MadeP w s) :=
  (toWorld_any w s vc vj vt vl h hs).mono (fun e w' ⟨vc, vj, vt, vl, _, _, _, h1, h2, h3⟩ => ⟨vc, vj, vt, vl, h1, worOwn_p h2, h3⟩)
/-- What such a law keeps while it copies its argument beside the copy that was worked on: two boxes, and whatever else (F) stands below. -/
structure LawP (F : World → Prop) (w0 : World) (gw gx : Nat) (s : S) (vc vj vt vl xc xj xt xl : Value) (B E : Nat) (w : World) : Prop where
  g : Blk w gw 27 (worVals s vc vj vt vl)
  y : Blk w gx 34 (worVals s xc xj xt xl)
  a : WorIn w s vc vj vt vl
  x : WorP w B E s xc xj xt xl
  b : Below w0.heap.size w0 w
  f : F w
theorem LawP.next {F : World → Prop} (hF : ∀ a b : World, Below a.heap.size a b → F a → F b) {w0 w w' : World} {gw gx B E : Nat} {s : S} {vc vj vt vl xc xj xt xl : Value} (h : LawP F w0 gw gx s vc vj vt vl xc xj xt xl B E w) (hb : Below w.heap.size w w') : LawP F w0 gw gx s vc vj vt vl xc xj xt xl B E w' :=
  ⟨h.g.below hb, h.y.below hb, h.a.below hb, h.x.below hb, h.b.trans (hb.mono h.b.size), hF _ _ hb h.f⟩
theorem tells_hl {s : S} (hs : SmallS s) (he : endEvL 1 s.log ≤ 900000000) : (tellsV s).length ≤ 1048576 ∧ (∀ j, j < (tellsV s).length → ((tellsV s).getD j zeroE).rows.length ≤ 1048576) ∧ endEvL 1 (tellsV s) ≤ 900000000000 ∧ 1 ≤ endEvL 1 (tellsV s) := by
  have h1 : (tellsV s).length ≤ s.log.length := List.length_filter_le _ _
  have h2 := hs.l
  have h3 := endEvL_filter (fun e => decide (e.kind = 3)) 1 s.log
  have h4 : endEvL 1 (tellsV s) ≤ endEvL 1 s.log := h3
  exact ⟨by omega, getD_filter _ zeroE (fun r => r.rows.length ≤ 1048576) s.log hs.lk, by omega, endEvL_le _ _⟩
end Go.Proofs.Ytcfdnfckilpppaa
