/-
  Plain mathematics of reading a decimal numeral of at most nine digits, with no program in sight.
-/
import Derived.Test.YtkcepbncjlbpbaaDoorMathE
import Derived.Lib.AtoiTie
namespace Go.Proofs.YtkcepbncjlbpbaaDoor.M
open Go.RowKit
theorem decFrom_append (l m : List UInt8) : ∀ acc, Lib.decFrom acc (l ++ m) = (Lib.decFrom acc l).bind fun n => Lib.decFrom n m := by
  induction l with
  | nil => intro acc; rfl
  | cons c l ih =>
    intro acc
    simp only [List.cons_append, Lib.decFrom]
    cases Lib.digitVal c with
    | none => rfl
    | some d => exact ih _
theorem digit_val (k : Nat) (h : k < 10) : Lib.digitVal (UInt8.ofNat (48 + k)) = some k := by
  unfold Lib.digitVal
  have e : (UInt8.ofNat (48 + k)).toNat = 48 + k := by
    rw [UInt8.toNat_ofNat']
    omega
  rw [e, if_pos (by omega)]
  congr 1; omega
theorem dec_ind {P : Nat → Prop} (h0 : ∀ u, u < 10 → P u) (h1 : ∀ u, ¬ u < 10 → P (u / 10) → P u) : ∀ u, P u := by
  intro u
  induction u using Nat.strongRecOn with
  | ind u ih =>
    by_cases h : u < 10
    · exact h0 u h
    · exact h1 u h (ih (u / 10) (by omega))
theorem decFrom_dec : ∀ u, Lib.decFrom 0 (Lib.decDigits u) = some u := by
  apply dec_ind
  · intro u h
    rw [dec_small h]
    simp only [Lib.decFrom, digit_val u h]
    congr 1; omega
  · intro u h ih
    rw [dec_big h, decFrom_append, ih]
    simp only [Option.bind_some, Lib.decFrom, digit_val (u % 10) (by omega)]
    congr 1; omega
theorem dec_mem : ∀ u, ∀ c ∈ Lib.decDigits u, 48 ≤ c.toNat ∧ c.toNat ≤ 57 := by
  apply dec_ind
  · intro u h c hc
    rw [dec_small h] at hc
    obtain rfl : c = UInt8.ofNat (48 + u) := by simpa using hc
    rw [UInt8.toNat_ofNat']
    omega
  · intro u h ih c hc
    rw [dec_big h, List.mem_append] at hc
    rcases hc with hc | hc
    · exact ih c hc
    · obtain rfl : c = UInt8.ofNat (48 + u % 10) := by simpa using hc
      rw [UInt8.toNat_ofNat']
      omega
theorem dec_ne (u : Nat) : Lib.decDigits u ≠ [] := by
  intro h
  have := Lib.nDigits_pos u
  rw [← Lib.decDigits_length, h] at this
  simp at this
theorem nDigits_lt (u : Nat) (k : Nat) (h : u < 10 ^ k) (hk : 1 ≤ k) : Lib.nDigits u ≤ k := by
  have : ∀ u, ∀ k, u < 10 ^ k → 1 ≤ k → Lib.nDigits u ≤ k := by
    apply dec_ind
    · intro u h k _ hk; rw [Lib.nDigits_small h]; exact hk
    · intro u h ih k hu hk
      rw [Lib.nDigits_big h]
      cases k with
      | zero => omega
      | succ k =>
        have hk1 : 1 ≤ k := by
          rcases Nat.eq_zero_or_pos k with h0 | h0
          · subst h0; simp at hu; omega
          · exact h0
        have := ih k (by rw [Nat.pow_succ] at hu; omega) hk1
        omega
  exact this u k h hk
theorem decNat_dec (u : Nat) : Lib.decNat (Lib.decDigits u) = some u := by
  unfold Lib.decNat
  have : (Lib.decDigits u).isEmpty = false := by
    rw [List.isEmpty_eq_false_iff]; exact dec_ne u
  rw [this]
  exact decFrom_dec u
theorem itoa_len {v : Int} (h0 : -999999999 ≤ v) (h1 : v ≤ 999999999) : (Lib.itoa v).length ≤ 10 := by
  unfold Lib.itoa
  split
  · have := nDigits_lt v.natAbs 9 (by omega) (by decide)
    rw [List.length_cons, Lib.decDigits_length]; omega
  · have := nDigits_lt v.toNat 9 (by omega) (by decide)
    rw [Lib.decDigits_length]; omega
theorem atoi_itoa (v : Int) : Lib.atoi (Lib.itoa v) = some v := by
  unfold Lib.itoa
  split
  · simp only [Lib.atoi]
    rw [if_pos (by decide), decNat_dec]
    simp; omega
  · cases hd : Lib.decDigits v.toNat with
    | nil => exact absurd hd (dec_ne _)
    | cons c r =>
      have hm := dec_mem v.toNat c (by rw [hd]; simp)
      have h45 : (c == 45) = false := by rw [beq_eq_false_iff_ne]; rintro rfl; exact absurd hm.1 (by decide)
      have h43 : (c == 43) = false := by rw [beq_eq_false_iff_ne]; rintro rfl; exact absurd hm.1 (by decide)
      simp only [Lib.atoi, h45, h43]
      rw [← hd, decNat_dec]
      simp; omega
theorem atoiAll_itoa {v : Int} (h0 : -999999999 ≤ v) (h1 : v ≤ 999999999) : Lib.atoiAll (Lib.itoa v) = .ok v := by
  rw [Lib.atoiAll_short _ (Nat.le_trans (itoa_len h0 h1) (by decide)), atoi_itoa]; rfl
def stepN (n : Nat) (c : UInt8) : Nat := if 48 ≤ c.toNat ∧ c.toNat ≤ 57 then n * 10 + (c.toNat - 48) else n
def stepK (k : Nat) (c : UInt8) : Nat := if 48 ≤ c.toNat ∧ c.toNat ≤ 57 then k + 1 else k
/-- The number that the digits among the bytes spell, and how many there are. -/
def rdA (l : List UInt8) : Nat := l.foldl stepN 0
def rdC (l : List UInt8) : Nat := l.foldl stepK 0
theorem rdA_snoc (l : List UInt8) (c : UInt8) : rdA (l ++ [c]) = stepN (rdA l) c := by simp [rdA, List.foldl_append]
theorem rdC_snoc (l : List UInt8) (c : UInt8) : rdC (l ++ [c]) = stepK (rdC l) c := by simp [rdC, List.foldl_append]
theorem rd_bound (l : List UInt8) : ∀ n k, n < 10 ^ k → l.foldl stepN n < 10 ^ l.foldl stepK k ∧ l.foldl stepK k ≤ k + l.length := by
  induction l with
  | nil => intro n k h; exact ⟨h, by simp⟩
  | cons c l ih =>
    intro n k h
    simp only [List.foldl_cons, List.length_cons]
    by_cases hc : 48 ≤ c.toNat ∧ c.toNat ≤ 57
    · have e1 : stepN n c = n * 10 + (c.toNat - 48) := if_pos hc
      have e2 : stepK k c = k + 1 := if_pos hc
      rw [e1, e2]
      have := ih (n * 10 + (c.toNat - 48)) (k + 1) (by rw [Nat.pow_succ]; omega)
      exact ⟨this.1, by omega⟩
    · have e1 : stepN n c = n := if_neg hc
      have e2 : stepK k c = k := if_neg hc
      rw [e1, e2]
      have := ih n k h
      exact ⟨this.1, by omega⟩
theorem rdA_lt (l : List UInt8) : rdA l < 10 ^ rdC l := (rd_bound l 0 0 (by decide)).1
theorem rdC_le (l : List UInt8) : rdC l ≤ l.length := by have := (rd_bound l 0 0 (by decide)).2; rw [Nat.zero_add] at this; exact this
theorem rdA_dec : ∀ u, rdA (Lib.decDigits u) = u := by
  apply dec_ind
  · intro u h
    rw [dec_small h]
    have e : (UInt8.ofNat (48 + u)).toNat = 48 + u := by rw [UInt8.toNat_ofNat']; omega
    simp only [rdA, List.foldl_cons, List.foldl_nil, stepN, e]
    rw [if_pos (by omega)]; omega
  · intro u h ih
    have e : (UInt8.ofNat (48 + u % 10)).toNat = 48 + u % 10 := by rw [UInt8.toNat_ofNat']; omega
    rw [dec_big h, rdA_snoc, ih, stepN, e, if_pos (by omega)]; omega
theorem rdA_minus (l : List UInt8) : rdA (45 :: l) = rdA l := rfl
theorem rdC_minus (l : List UInt8) : rdC (45 :: l) = rdC l := rfl
/-- What the bytes say with their sign. -/
def rdS (l : List UInt8) : Int := if l.head? = some 45 then -(rdA l : Int) else (rdA l : Int)
theorem rdS_itoa (v : Int) : rdS (Lib.itoa v) = v := by
  unfold rdS
  by_cases hv : v < 0
  · have e : Lib.itoa v = 45 :: Lib.decDigits v.natAbs := by unfold Lib.itoa; rw [if_pos hv]
    rw [e, List.head?_cons, if_pos rfl, rdA_minus, rdA_dec]; omega
  · have e : Lib.itoa v = Lib.decDigits v.toNat := by unfold Lib.itoa; rw [if_neg hv]
    rw [e, rdA_dec]
    have h : ¬ (Lib.decDigits v.toNat).head? = some 45 := by
      intro h
      cases hd : Lib.decDigits v.toNat with
      | nil => exact absurd hd (dec_ne _)
      | cons c r =>
        rw [hd] at h
        have hm := dec_mem v.toNat c (by rw [hd]; simp)
        obtain rfl : c = 45 := by simpa using h
        exact absurd hm.1 (by decide)
    rw [if_neg h]; omega
/-- How a string of bytes is read: the number whose numeral it is, where that has at most nine digits. -/
def rd (l : List UInt8) : Option Int :=
  match Lib.atoiAll l with
  | .ok v => if -999999999 ≤ v ∧ v ≤ 999999999 ∧ Lib.itoa v = l then some v else none
  | _ => none
def rdV (l : List UInt8) : Int := (rd l).getD 0
def rdT (l : List UInt8) : Bool := (rd l).isSome
theorem rd_of {l : List UInt8} {v : Int} (h0 : -999999999 ≤ v) (h1 : v ≤ 999999999) (h : Lib.itoa v = l) : rd l = some v := by
  unfold rd
  have e : Lib.atoiAll l = .ok v := by rw [← h]; exact atoiAll_itoa h0 h1
  rw [e]
  exact if_pos ⟨h0, h1, h⟩
theorem rd_inv {l : List UInt8} {v : Int} (h : rd l = some v) : -999999999 ≤ v ∧ v ≤ 999999999 ∧ Lib.itoa v = l ∧ Lib.atoiAll l = .ok v := by
  unfold rd at h
  split at h
  · rename_i u hu
    split at h
    · rename_i hc
      obtain rfl : u = v := by simpa using h
      exact ⟨hc.1, hc.2.1, hc.2.2, hu⟩
    · cases h
  · cases h
theorem rd_no_long {l : List UInt8} (h : 10 < l.length) : rd l = none := by
  cases hr : rd l with
  | none => rfl
  | some v =>
    obtain ⟨a, b, c, _⟩ := rd_inv hr
    have := itoa_len a b
    rw [c] at this; omega
theorem rdC_itoa {v : Int} (h0 : -999999999 ≤ v) (h1 : v ≤ 999999999) : rdC (Lib.itoa v) ≤ 9 := by
  unfold Lib.itoa
  split
  · rw [rdC_minus]
    have := rdC_le (Lib.decDigits v.natAbs)
    rw [Lib.decDigits_length] at this
    have := nDigits_lt v.natAbs 9 (by omega) (by decide)
    omega
  · have := rdC_le (Lib.decDigits v.toNat)
    rw [Lib.decDigits_length] at this
    have := nDigits_lt v.toNat 9 (by omega) (by decide)
    omega
theorem rd_no_digits {l : List UInt8} (h : 9 < rdC l) : rd l = none := by
  cases hr : rd l with
  | none => rfl
  | some v =>
    obtain ⟨a, b, c, _⟩ := rd_inv hr
    have := rdC_itoa a b
    rw [c] at this; omega
theorem rdS_bound {l : List UInt8} (h : rdC l ≤ 9) : -999999999 ≤ rdS l ∧ rdS l ≤ 999999999 := by
  have h1 := rdA_lt l
  have h2 : 10 ^ rdC l ≤ 10 ^ 9 := Nat.pow_le_pow_right (by decide) h
  unfold rdS
  split <;> omega
theorem rd_yes {l : List UInt8} (h : rdC l ≤ 9) (hi : Lib.itoa (rdS l) = l) : rd l = some (rdS l) := rd_of (rdS_bound h).1 (rdS_bound h).2 hi
theorem rd_no {l : List UInt8} (hi : Lib.itoa (rdS l) ≠ l) : rd l = none := by
  cases hr : rd l with
  | none => rfl
  | some v =>
    obtain ⟨a, b, c, _⟩ := rd_inv hr
    rw [← c, rdS_itoa] at hi
    exact absurd rfl hi
theorem rdV_some {l : List UInt8} {v : Int} (h : rd l = some v) : rdV l = v := by unfold rdV; rw [h]; rfl
theorem rdT_some {l : List UInt8} {v : Int} (h : rd l = some v) : rdT l = true := by unfold rdT; rw [h]; rfl
theorem rdV_none {l : List UInt8} (h : rd l = none) : rdV l = 0 := by unfold rdV; rw [h]; rfl
theorem rdT_none {l : List UInt8} (h : rd l = none) : rdT l = false := by unfold rdT; rw [h]; rfl
theorem decs_eq (n : Int) (s : ByteArray) : ((decs n).toList == s.toList) = decide (Lib.itoa n = s.data.toList) := by
  have : (decs n).toList = Lib.itoa n := ByteArray.toList_mk _
  rw [this, ByteArray.toList_eq]
  by_cases h : Lib.itoa n = s.data.toList
  · rw [decide_eq_true h, beq_iff_eq]; exact h
  · rw [decide_eq_false h, beq_eq_false_iff_ne]; exact h
theorem rdA_take (s : ByteArray) (k : Nat) (h : k < s.size) : rdA (s.data.toList.take (k + 1)) = stepN (rdA (s.data.toList.take k)) s[k] := by rw [take_snoc s k h, rdA_snoc]
theorem rdC_take (s : ByteArray) (k : Nat) (h : k < s.size) : rdC (s.data.toList.take (k + 1)) = stepK (rdC (s.data.toList.take k)) s[k] := by rw [take_snoc s k h, rdC_snoc]
theorem rdA_take_lt (s : ByteArray) (k : Nat) (h : k ≤ 11) : rdA (s.data.toList.take k) < 100000000000 ∧ rdC (s.data.toList.take k) ≤ 11 := by
  have h1 := rdA_lt (s.data.toList.take k)
  have h2 := rdC_le (s.data.toList.take k)
  have h3 : (s.data.toList.take k).length ≤ k := List.length_take_le _ _
  have h4 : 10 ^ rdC (s.data.toList.take k) ≤ 10 ^ 11 := Nat.pow_le_pow_right (by decide) (by omega)
  have h5 : (10 : Nat) ^ 11 = 100000000000 := by decide
  omega
theorem head_45 (s : ByteArray) (h : 0 < s.size) : (s.data.toList.head? = some 45) ↔ s[0].toNat = 45 := by
  have e := get_data s 0 h
  rw [List.head?_eq_getElem?, e]
  constructor
  · intro h; obtain h : s[0] = 45 := by simpa using h
    rw [h]; rfl
  · intro h; congr 1; exact UInt8.toNat_inj.1 h
end Go.Proofs.YtkcepbncjlbpbaaDoor.M
