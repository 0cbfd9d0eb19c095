/-
  Chapter 3 in plain words: the numbers of the cells.
-/
import Derived.WalkKit
namespace Go.Proofs.Ythfbacaamhkjpaa.M
/-- Buffer b's count of threads inside. -/
def inV (b : Int) : Int := if 0 ≤ b ∧ b ≤ 1 then 1 + b else -1
/-- The key cell of a slot. -/
def keyV (s : Int) : Int := if 0 ≤ s ∧ s ≤ 3 then 3 + s else -1
/-- Cell k of a slot of a buffer. -/
def cellV (b s k : Int) : Int := if (0 ≤ b ∧ b ≤ 1) ∧ (0 ≤ s ∧ s ≤ 3) then 7 + b * 32 + s * 8 + k else -1
/-- Cell k of n, behind the first 'at' of a slot of a buffer. -/
def partV (b s n at_ k : Int) : Int := if 0 ≤ k ∧ k < n then cellV b s (at_ + k) else -1
theorem inV_yes {b : Int} (h : 0 ≤ b ∧ b ≤ 1) : inV b = 1 + b := if_pos h
theorem inV_no {b : Int} (h : ¬ (0 ≤ b ∧ b ≤ 1)) : inV b = -1 := if_neg h
theorem keyV_yes {s : Int} (h : 0 ≤ s ∧ s ≤ 3) : keyV s = 3 + s := if_pos h
theorem keyV_no {s : Int} (h : ¬ (0 ≤ s ∧ s ≤ 3)) : keyV s = -1 := if_neg h
theorem cellV_yes {b s k : Int} (h : 0 ≤ b ∧ b ≤ 1) (h' : 0 ≤ s ∧ s ≤ 3) : cellV b s k = 7 + b * 32 + s * 8 + k := if_pos ⟨h, h'⟩
theorem cellV_noB {b s k : Int} (h : ¬ (0 ≤ b ∧ b ≤ 1)) : cellV b s k = -1 := if_neg fun x => h x.1
theorem cellV_noS {b s k : Int} (h : ¬ (0 ≤ s ∧ s ≤ 3)) : cellV b s k = -1 := if_neg fun x => h x.2
theorem partV_yes {b s n at_ k : Int} (h : 0 ≤ k ∧ k < n) : partV b s n at_ k = cellV b s (at_ + k) := if_pos h
theorem partV_no {b s n at_ k : Int} (h : ¬ (0 ≤ k ∧ k < n)) : partV b s n at_ k = -1 := if_neg h
end Go.Proofs.Ythfbacaamhkjpaa.M
