/-
  Chapter 10's law on a new world: the marks on it stay small.
-/
import Derived.Test.YtcfdnfckilpppaaZe
import Derived.Test.YtcfdnfckilpppaaSamL
namespace Go.Proofs.Ytcfdnfckilpppaa
open Go.RowKit M
set_option linter.unusedVariables false
theorem four_jobs (k : Int) : endJobL k (List.replicate 4 zeroJ) = k + 64 := by
  simp only [List.replicate, endJobL, endJob, zeroJ, List.length_nil]
  omega
theorem tame_new {z : List (List O)} (hl : z.length ≤ 1048576) (hl1 : ∀ j, j < z.length → (z.getD j []).length ≤ 1048576) (ht : totQ z ≤ 1048576) : TameW 1 (worldNewV z) := by
  cases hok : todoOkV z with
  | false =>
    have e : worldNewV z = zeroS := by unfold worldNewV; rw [hok]; rfl
    rw [e]
    refine ⟨⟨by decide, by decide, fun j hj => absurd hj (Nat.not_lt_zero _), by decide, fun j hj => absurd hj (Nat.not_lt_zero _), by decide, fun j hj => absurd hj (Nat.not_lt_zero _)⟩, by decide, by decide, ?_⟩
    decide
  | true =>
    have e : worldNewV z = ⟨List.replicate 71 0, List.replicate 4 zeroJ, z, [], 0, 0⟩ := by unfold worldNewV; rw [hok]; rfl
    rw [e]
    refine ⟨⟨(by decide : (List.replicate 71 (0 : Int)).length ≤ 1048576), (by simp : (List.replicate 4 zeroJ).length ≤ 1048576), fun j hj => ?_, hl, hl1, (Nat.zero_le _ : ([] : List E).length ≤ 1048576), fun j hj => absurd hj (Nat.not_lt_zero _)⟩, ht, by decide, ?_⟩
    · have hz : (List.replicate 4 zeroJ).getD j zeroJ = zeroJ := by
        rw [List.getD_eq_getElem?_getD, List.getElem?_replicate]
        split <;> rfl
      show ((List.replicate 4 zeroJ).getD j zeroJ).keys.length ≤ 1048576 ∧ ((List.replicate 4 zeroJ).getD j zeroJ).raw.length ≤ 1048576
      rw [hz]
      exact ⟨by decide, by decide⟩
    · unfold endW
      simp only [endEvL, four_jobs, endQ_tot, List.length_replicate]
      omega
theorem endW_pos {k : Int} {s : S} (h : TameW k s) : ¬ endW k s < 0 := by
  obtain ⟨k1, k2, k3, k4⟩ := h.ks
  have := h.k0
  omega
theorem worP_one {w : World} {B E : Nat} {s : S} {vc vj vt vl : Value} (h : WorP w B E s vc vj vt vl) : Array.all (worVals s vc vj vt vl) (·.oneCell') = true := wor_one w s vc vj vt vl h.win
end Go.Proofs.Ytcfdnfckilpppaa
