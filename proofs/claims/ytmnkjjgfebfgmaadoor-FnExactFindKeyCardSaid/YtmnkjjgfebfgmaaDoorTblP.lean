/-
  Chapter 6 in plain words, once more: the slot at which a key's way ends, and what is there.
-/
import Derived.Test.YtmnkjjgfebfgmaaDoorTblV
namespace Go.Proofs.YtmnkjjgfebfgmaaDoor
open Go.RowKit M
set_option linter.unusedVariables false
/-- What a slot at which the way ends says. -/
def Ends (zs : List Int) (key : ByteArray) (r : Int × Int × Int) : Prop :=
  ∃ p, 0 ≤ p ∧ p ≤ 3 ∧ ((r = (-1, 0, p) ∧ cellK zs p = 0) ∨ ∃ kd, r = (p, kd, -1) ∧ cellK zs p ≠ 0 ∧ untagV (cellK zs p) = some (key, kd))
theorem stepF_ends {zs : List Int} {key : ByteArray} (hk : keyOkV key = true) {n : Nat} (hn : n < 4) {r : Int × Int × Int} (h : stepF zs key n = some r) : Ends zs key r := by
  have hp := probe_bd hk hn
  unfold stepF at h
  split at h
  · rename_i hx
    injection h with h; subst h
    exact ⟨_, hp.1, hp.2, Or.inl ⟨rfl, hx⟩⟩
  · rename_i hx
    split at h
    · split at h
      · rename_i k kd hu he
        injection h with h; subst h; subst he
        exact ⟨_, hp.1, hp.2, Or.inr ⟨kd, rfl, hx, hu⟩⟩
      · cases h
    · cases h
theorem findV_ends (zs : List Int) {key : ByteArray} (hk : keyOkV key = true) : findV zs key = (-1, 0, -1) ∨ Ends zs key (findV zs key) := by
  cases h0 : stepF zs key (0 : Nat) with
  | some r => exact Or.inr (by rw [findV_at (n := 0) (by omega) (fun m hm => by omega) h0]; exact stepF_ends hk (by omega) h0)
  | none =>
    have n1 := none_next (n := 0) (fun m hm => absurd hm (Nat.not_lt_zero _)) h0
    cases h1 : stepF zs key (1 : Nat) with
    | some r => exact Or.inr (by rw [findV_at (n := 1) (by omega) n1 h1]; exact stepF_ends hk (by omega) h1)
    | none =>
      have n2 := none_next n1 h1
      cases h2 : stepF zs key (2 : Nat) with
      | some r => exact Or.inr (by rw [findV_at (n := 2) (by omega) n2 h2]; exact stepF_ends hk (by omega) h2)
      | none =>
        have n3 := none_next n2 h2
        cases h3 : stepF zs key (3 : Nat) with
        | some r => exact Or.inr (by rw [findV_at (n := 3) (by omega) n3 h3]; exact stepF_ends hk (by omega) h3)
        | none => exact Or.inl (findV_none (none_next n3 h3))
/-- The slot of such an answer: the key's, or the free one; -1 for none. -/
def slotE (r : Int × Int × Int) : Int := if 0 ≤ r.1 then r.1 else r.2.2
theorem slotE_free (p : Int) : slotE (-1, 0, p) = p := rfl
theorem slotE_found {p : Int} (h : 0 ≤ p) (kd e : Int) : slotE (p, kd, e) = p := if_pos h
theorem untagV_zero : untagV 0 = none := rfl
/-- A valid table's cell that is found again carries the very tag. -/
theorem tag_same {zs : List Int} {p : Int} {key : ByteArray} {kd k : Int} (hu : untagV (cellK zs p) = some (key, kd)) (hk : 1 ≤ k ∧ k ≤ 3) : (cellK zs p != tagV key k) = !decide (kd = k) := by
  obtain ⟨e, hkey, hd⟩ := tag_untag hu
  rw [← e, tagV_yes hkey hd, tagV_yes hkey hk]
  by_cases h : kd = k
  · subst h; simp
  · rw [decide_eq_false h, Bool.not_false, bne_iff_ne]; omega
end Go.Proofs.YtmnkjjgfebfgmaaDoor
