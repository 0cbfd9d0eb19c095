/-
  Plain mathematics of decimal numerals, with no program in sight: the numeral of a number, what reading its digits one by one comes to, and when a numeral of at most nine digits is read.
-/
import Derived.Test.YtmnkjjgfebfgmaaDoorMathB
import Derived.Lib.AtoiAllCases
import Derived.Lib.ItoaNum
import Derived.Lib.Hide
namespace Go.Proofs.YtmnkjjgfebfgmaaDoor.M
open Go.RowKit
theorem dec_small {u : Nat} (h : u < 10) : Lib.decDigits u = [UInt8.ofNat (48 + u)] := by rw [Lib.decDigits, dif_pos h]
theorem dec_big {u : Nat} (h : ¬ u < 10) : Lib.decDigits u = Lib.decDigits (u / 10) ++ [UInt8.ofNat (48 + u % 10)] := by rw [Lib.decDigits, dif_neg h]
/-- What a call that writes the numeral of m from its last digit on knows: u is what is left, acc what lies already. -/
def DecAt (m u : Nat) (acc : List UInt8) : Prop := (u = 0 ∧ acc = Lib.decDigits m) ∨ (0 < u ∧ Lib.decDigits u ++ acc = Lib.decDigits m)
theorem DecAt.start {m : Nat} (h : 0 < m) : DecAt m m [] := Or.inr ⟨h, by simp⟩
theorem DecAt.step {m u : Nat} {acc : List UInt8} (h : DecAt m u acc) (hu : 0 < u) : DecAt m (u / 10) (UInt8.ofNat (48 + u % 10) :: acc) := by
  rcases h with ⟨h0, _⟩ | ⟨_, h1⟩
  · omega
  · by_cases hs : u < 10
    · left
      rw [dec_small hs] at h1
      rw [Nat.mod_eq_of_lt hs]
      exact ⟨by omega, by rw [← h1]; rfl⟩
    · right
      rw [dec_big hs] at h1
      exact ⟨by omega, by rw [← h1]; simp⟩
theorem DecAt.stop {m : Nat} {acc : List UInt8} (h : DecAt m 0 acc) : acc = Lib.decDigits m := by
  rcases h with ⟨_, h1⟩ | ⟨h0, _⟩
  · exact h1
  · omega
theorem nDigits_le {u : Nat} (h : u ≤ 9223372036854775808) : Lib.nDigits u ≤ 19 := by
  rcases Nat.lt_or_ge 19 (Lib.nDigits u) with hc | hc
  · exfalso
    have : ∀ k u, 10 ^ k ≤ u → k + 1 ≤ Lib.nDigits u := by
      intro k
      induction k with
      | zero => intro u _; exact Lib.nDigits_pos u
      | succ k ih =>
        intro u hu
        have h10 : ¬ u < 10 := by
          have : 10 ^ 1 ≤ 10 ^ (k + 1) := Nat.pow_le_pow_right (by decide) (by omega)
          omega
        rw [Lib.nDigits_big h10]
        have := ih (u / 10) (by rw [Nat.pow_succ] at hu; omega)
        omega
    have h2 : ∀ k u, u < 10 ^ k → 1 ≤ k → Lib.nDigits u ≤ k := by
      intro k
      induction k with
      | zero => intro u _ h; omega
      | succ k ih =>
        intro u hu _
        by_cases h10 : u < 10
        · rw [Lib.nDigits_small h10]; omega
        · rw [Lib.nDigits_big h10]
          have hk : 1 ≤ k := by
            rcases Nat.eq_zero_or_pos k with h0 | h0
            · subst h0; simp at hu; omega
            · exact h0
          have := ih (u / 10) (by rw [Nat.pow_succ] at hu; omega) hk
          omega
    have := h2 19 u (by omega) (by decide)
    omega
  · exact hc
theorem DecAt.len {m u : Nat} {acc : List UInt8} (h : DecAt m u acc) (hm : m ≤ 9223372036854775808) : acc.length ≤ 19 := by
  have hl : (Lib.decDigits m).length ≤ 19 := by rw [Lib.decDigits_length]; exact nDigits_le hm
  rcases h with ⟨_, h1⟩ | ⟨_, h1⟩
  · rw [h1]; exact hl
  · rw [← h1, List.length_append] at hl; omega
def decs (n : Int) : ByteArray := ⟨(Lib.itoa n).toArray⟩
theorem mod10_neg (u : Nat) : (-(u : Int)).tmod 10 = -((u % 10 : Nat) : Int) := by
  rw [Int.neg_tmod, Int.tmod_eq_emod_of_nonneg (by omega)]; rfl
theorem div10_neg (u : Nat) : (-(u : Int)).tdiv 10 = -((u / 10 : Nat) : Int) := by
  rw [Int.neg_tdiv, Int.tdiv_eq_ediv_of_nonneg (by omega)]; rfl
def accs (acc : List UInt8) : ByteArray := ⟨acc.toArray⟩
theorem d48 (k : Nat) : (48 : UInt8) + UInt8.ofNat k = UInt8.ofNat (48 + k) := by rw [UInt8.ofNat_add]; rfl
theorem accs_size (acc : List UInt8) : (accs acc).size = acc.length := by simp [accs, ByteArray.size]
theorem accs_cons (c : UInt8) (acc : List UInt8) : (⟨#[c]⟩ : ByteArray) ++ accs acc = accs (c :: acc) := ByteArray.mk_append_mk [c] acc
theorem decs_pos {n : Int} (h : 0 ≤ n) (acc : List UInt8) (ha : acc = Lib.decDigits n.toNat) : accs acc = decs n := by
  unfold decs Lib.itoa; rw [if_neg (by omega), ha]; rfl
theorem decs_neg {n : Int} (h : n < 0) (acc : List UInt8) (ha : acc = Lib.decDigits n.natAbs) : accs (45 :: acc) = decs n := by
  unfold decs Lib.itoa; rw [if_pos h, ha]; rfl
end Go.Proofs.YtmnkjjgfebfgmaaDoor.M
