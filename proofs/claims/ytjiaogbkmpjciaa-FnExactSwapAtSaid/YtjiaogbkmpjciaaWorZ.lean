/-
  The exact laws' budget behind a world, and what it bounds.
-/
import Derived.Test.YtjiaogbkmpjciaaZc
import Derived.Test.YtjiaogbkmpjciaaZb
namespace Go.Proofs.Ytjiaogbkmpjciaa
open Go.RowKit M
set_option linter.unusedVariables false
set_option linter.unusedSimpArgs false
def szWorV (s : S) (l : Int) : Int := szBind (szBind (szBind (szBind (szInt s.cells.length l) (szJobSV s.jobs)) (szQV s.todo)) (szEvSV s.log)) (fun x => x)
theorem szJobSV_le {ls : List J} {l : Int} (h : 0 ≤ szJobSV ls l) : szJobSV ls l ≤ l ∧ (ls.length : Int) ≤ l ∧ ∀ j, j < ls.length → ((ls.getD j zeroJ).keys.length : Int) + ((ls.getD j zeroJ).raw.length : Int) ≤ l := by
  unfold szJobSV at *
  by_cases h2 : l - (ls.length : Int) < 0
  · rw [if_pos h2] at h; simp at h
  · rw [if_neg h2] at h ⊢
    have h3 := szLJob_le ls _ h
    refine ⟨by omega, by omega, fun j hj => ?_⟩
    rcases h3.2 j hj with h4 | ⟨x, hx, h4⟩
    · have := szJobV_le h4; omega
    · have := szJobV_le h4; omega
theorem szEvSV_le {ls : List E} {l : Int} (h : 0 ≤ szEvSV ls l) : szEvSV ls l ≤ l ∧ (ls.length : Int) ≤ l ∧ ∀ j, j < ls.length → ((ls.getD j zeroE).rows.length : Int) ≤ l := by
  unfold szEvSV at *
  by_cases h2 : l - (ls.length : Int) < 0
  · rw [if_pos h2] at h; simp at h
  · rw [if_neg h2] at h ⊢
    have h3 := szLEv_le ls _ h
    refine ⟨by omega, by omega, fun j hj => ?_⟩
    rcases h3.2 j hj with h4 | ⟨x, hx, h4⟩
    · have := szEvV_le h4; omega
    · have := szEvV_le h4; omega
/-- A world that a budget holds is small. -/
theorem szWor_small {s : S} {l : Int} (h : 0 ≤ szWorV s l) (hl : l ≤ 1048576) : SmallS s ∧ szWorV s l ≤ l := by
  unfold szWorV szBind at *
  by_cases a0 : szInt s.cells.length l < 0
  · rw [if_pos a0] at h; simp at h
  have b0 := szInt_le (n := s.cells.length) (l := l) (by omega)
  rw [if_neg a0] at h ⊢
  generalize szInt s.cells.length l = x0 at *
  by_cases a1 : szJobSV s.jobs x0 < 0
  · rw [if_pos a1] at h; simp at h
  have b1 := szJobSV_le (ls := s.jobs) (l := x0) (by omega)
  rw [if_neg a1] at h ⊢
  generalize szJobSV s.jobs x0 = x1 at *
  by_cases a2 : szQV s.todo x1 < 0
  · rw [if_pos a2] at h; simp at h
  have b2 := szQV_tot (ls := s.todo) (l := x1) (by omega)
  rw [if_neg a2] at h ⊢
  generalize szQV s.todo x1 = x2 at *
  by_cases a3 : szEvSV s.log x2 < 0
  · rw [if_pos a3] at h; simp at h
  have b3 := szEvSV_le (ls := s.log) (l := x2) (by omega)
  rw [if_neg a3] at h ⊢
  generalize szEvSV s.log x2 = x3 at *
  dsimp only at h ⊢
  have hq : ∀ j, j < s.todo.length → ((s.todo.getD j []).length : Int) ≤ ((s.todo.map List.length).sum : Int) := fun j hj => by
    have := totQ_take s.todo j hj
    unfold totQ at this
    omega
  refine ⟨⟨by omega, by omega, fun j hj => ?_, by omega, fun j hj => ?_, by omega, fun j hj => ?_⟩, by omega⟩
  · have := b1.2.2 j hj; omega
  · have := hq j hj; omega
  · have := b3.2.2 j hj; omega
/-- The texts in a world fit. -/
structure FitW (s : S) : Prop where
  j : ∀ j, j < s.jobs.length → (s.jobs.getD j zeroJ).op.key.size ≤ maxLen
  t : FitQ s.todo
  l : ∀ j, j < s.log.length → (s.log.getD j zeroE).op.key.size ≤ maxLen ∧ ∀ i, i < (s.log.getD j zeroE).rows.length → ((s.log.getD j zeroE).rows.getD i zeroR).key.size ≤ maxLen
end Go.Proofs.Ytjiaogbkmpjciaa
