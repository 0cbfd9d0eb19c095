/-
  A law's code as it lies: where, how long, its bytes; what a walk is told of it; a law's look into it.
-/
import Derived.Test.YtfmmhfipibaghaaGive
import Derived.Test.YtfmmhfipibaghaaMath
import Derived.ChangeOld
namespace Go.Proofs.Ytfmmhfipibaghaa
open Go.RowKit M
set_option linter.unusedVariables false
/-- A code as it lies: where, how long, its bytes. -/
structure Code where
  A : Option Addr
  len : Nat
  cap : Nat
  zs : List Int
/-- What a walk is told of a slice of bytes that came in. -/
def IsRow (w : World) (a : Option Addr) (len cap : Nat) (zs : List Int) : Prop :=
  (a = none ∧ len = 0 ∧ cap = 0 ∧ zs = []) ∨
  ∃ x, a = some x ∧ len ≤ cap ∧ cap ≤ maxLen ∧ zs.length = cap ∧ (∀ i, i < zs.length → w.cell? (x.add i) = some (.int .u8 (zs.getD i 0))) ∧ ∀ n ∈ zs, (Lit.int .u8 n).wf = true
/-- A code can be read: its bytes lie in a block that is there. -/
def CodeIn (w : World) (K : Code) : Prop :=
  K.len ≤ maxLen ∧ (0 < K.len → ∃ b off, K.A = some ⟨b, off, none⟩ ∧ b < w.heap.size ∧ ∀ j, j < K.len → w.cell? ⟨b, off + j, none⟩ = some (.int .u8 (K.zs.getD j 0)) ∧ 0 ≤ K.zs.getD j 0 ∧ K.zs.getD j 0 ≤ 255)
theorem CodeIn.of_row {w : World} {a : Option Addr} {len cap : Nat} {zs : List Int} (h : IsRow w a len cap zs) : CodeIn w ⟨a, len, cap, zs⟩ := by
  rcases h with ⟨rfl, rfl, rfl, rfl⟩ | ⟨x, rfl, hl, hm, hz, hc, hw⟩
  · exact ⟨Nat.zero_le _, fun h => absurd h (by simp)⟩
  · refine ⟨Nat.le_trans hl hm, fun h => ?_⟩
    simp only at h
    obtain ⟨b, off, spot⟩ := x
    have h0 := hc 0 (by omega)
    have hspot : spot = none := by simpa [Addr.add] using World.cell?_spot h0
    subst hspot
    have hlt : b < w.heap.size := by
      rcases Nat.lt_or_ge b w.heap.size with h1 | h1
      · exact h1
      · have e : w.heap[b]? = none := Array.getElem?_eq_none h1
        simp [Addr.add, World.cell?, e] at h0
    refine ⟨b, off, rfl, hlt, fun j hj => ?_⟩
    simp only at hj
    have hj' : j < zs.length := by omega
    have hcj := hc j hj'
    have e : (⟨b, off, none⟩ : Addr).add j = ⟨b, off + j, none⟩ := by unfold Addr.add; split <;> simp_all
    rw [e] at hcj
    have hwf := hw (zs.getD j 0) (by rw [List.getD_eq_getElem?_getD, List.getElem?_eq_getElem hj']; exact List.getElem_mem hj')
    have hb : 0 ≤ zs.getD j 0 ∧ zs.getD j 0 ≤ 255 := by
      generalize zs.getD j 0 = z at hwf
      simp [Lit.wf] at hwf
      exact hwf
    exact ⟨hcj, hb⟩
theorem CodeIn.below {w w' : World} {K : Code} (h : CodeIn w K) (hb : Below w.heap.size w w') : CodeIn w' K := by
  refine ⟨h.1, fun hp => ?_⟩
  obtain ⟨b, off, e, hlt, hc⟩ := h.2 hp
  exact ⟨b, off, e, Nat.lt_of_lt_of_le hlt hb.size, fun j hj => ⟨(hb.cell (p := ⟨b, off + j, none⟩) hlt).trans (hc j hj).1, (hc j hj).2⟩⟩
/-- The byte of a code at a place, or one that follows from it. -/
def atV (K : Code) (i : Nat) : Nat := if i < K.len then (K.zs.getD i 0).toNat else (i * 37 + K.len * 11) % 256
theorem atV_bd {w : World} {K : Code} (k : CodeIn w K) (i : Nat) : atV K i ≤ 255 := by
  unfold atV
  split
  · rename_i h
    obtain ⟨b, off, hA, hb, hc⟩ := k.2 (by omega)
    have := hc i h
    omega
  · omega
end Go.Proofs.Ytfmmhfipibaghaa
