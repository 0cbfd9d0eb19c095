/-
  Plain mathematics of reading a varint, with no program in sight: how many bytes of a string are the varint of the number that they say, and which number.
-/
import Derived.Test.YtmnkjjgfebfgmaaDoorMath
namespace Go.Proofs.YtmnkjjgfebfgmaaDoor.M
open Go.RowKit
theorem len_data (s : ByteArray) : s.data.toList.length = s.size := Array.length_toList
/-- The number of a varint's bytes, least significant group first, high bits ignored. -/
def val : List UInt8 → Nat
  | [] => 0
  | c :: l => c.toNat % 128 + 128 * val l
theorem val_append (l m : List UInt8) : val (l ++ m) = val l + 128 ^ l.length * val m := by
  induction l with
  | nil => simp [val]
  | cons c l ih =>
    simp only [List.cons_append, val, ih, List.length_cons, Nat.pow_succ, Nat.mul_add, Nat.mul_assoc, Nat.mul_comm, Nat.add_assoc]
theorem val_lt (l : List UInt8) : val l < 128 ^ l.length := by
  induction l with
  | nil => simp [val]
  | cons c l ih =>
    have : c.toNat % 128 < 128 := Nat.mod_lt _ (by decide)
    simp only [val, List.length_cons, Nat.pow_succ]
    omega
theorem val_take_le (l : List UInt8) (k : Nat) (h : k ≤ 7) : val (l.take k) ≤ 562949953421311 := by
  have h1 := val_lt (l.take k)
  have h2 : (l.take k).length ≤ 7 := Nat.le_trans (List.length_take_le _ _) h
  have h3 : 128 ^ (l.take k).length ≤ 128 ^ 7 := Nat.pow_le_pow_right (by decide) h2
  have h4 : (128 : Nat) ^ 7 = 562949953421312 := by decide
  omega
theorem val_take (s : ByteArray) (k : Nat) (h : k < s.size) : val (s.data.toList.take (k + 1)) = val (s.data.toList.take k) + 128 ^ k * (s[k].toNat % 128) := by
  rw [take_snoc s k h, val_append]
  have : (s.data.toList.take k).length = k := by rw [List.length_take, len_data]; omega
  rw [this]
  simp [val]
theorem val_drop (s : ByteArray) (k j : Nat) (hk : k ≤ s.size) (h : j < k) : val ((s.data.toList.take k).drop j) = s[j].toNat % 128 + 128 * val ((s.data.toList.take k).drop (j + 1)) := by
  have hl : j < (s.data.toList.take k).length := by rw [List.length_take, len_data]; omega
  rw [List.drop_eq_getElem_cons hl, val]
  simp only [List.getElem_take]
  rfl
theorem val_drop_lt (s : ByteArray) (k j : Nat) (h7 : k ≤ 7) : val ((s.data.toList.take k).drop j) ≤ 562949953421311 := by
  have h1 := val_lt ((s.data.toList.take k).drop j)
  have h2 : ((s.data.toList.take k).drop j).length ≤ 7 := by rw [List.length_drop, List.length_take]; omega
  have h3 : 128 ^ ((s.data.toList.take k).drop j).length ≤ 128 ^ 7 := Nat.pow_le_pow_right (by decide) h2
  have h4 : (128 : Nat) ^ 7 = 562949953421312 := by decide
  omega
theorem take_all (s : ByteArray) : s.data.toList.take s.size = s.data.toList := List.take_of_length_le (Nat.le_of_eq (len_data s))
/-- The first k bytes are the varint of their number. -/
def good (l : List UInt8) (k : Nat) : Bool := vb 6 (val (l.take k)) == l.take k
/-- How many bytes of l are a varint (0: it begins with none). -/
def rvK (l : List UInt8) : Nat := ((List.range 8).find? fun k => decide (1 ≤ k) && (decide (k ≤ l.length) && good l k)).getD 0
def rvN (l : List UInt8) : Nat := if rvK l = 0 then 0 else val (l.take (rvK l))
theorem rvK_first (l : List UInt8) (k : Nat) (h1 : 1 ≤ k) (h7 : k ≤ 7) (hk : k ≤ l.length) (hg : good l k = true) (hn : ∀ j, 1 ≤ j → j < k → good l j = false) : rvK l = k := by
  unfold rvK
  have : (List.range 8).find? (fun k => decide (1 ≤ k) && (decide (k ≤ l.length) && good l k)) = some k := by
    rw [List.find?_range_eq_some]
    refine ⟨by simp [h1, hk, hg], by simp; omega, ?_⟩
    intro j hj
    by_cases h : 1 ≤ j
    · simp [hn j h hj]
    · simp [h]
  rw [this]; rfl
theorem rvK_none (l : List UInt8) (hn : ∀ j, 1 ≤ j → j ≤ 7 → j ≤ l.length → good l j = false) : rvK l = 0 := by
  unfold rvK
  have : (List.range 8).find? (fun k => decide (1 ≤ k) && (decide (k ≤ l.length) && good l k)) = none := by
    rw [List.find?_range_eq_none]
    intro j hj
    by_cases h : 1 ≤ j
    · by_cases hl : j ≤ l.length
      · simp [hn j h (by omega) hl]
      · simp [hl]
    · simp [h]
  rw [this]; rfl
theorem vb_high (f : Nat) : ∀ (n i : Nat) (c : UInt8), (vb f n)[i]? = some c → i + 1 < (vb f n).length → 128 ≤ c.toNat := by
  induction f with
  | zero => intro n i c _ h; simp [vb] at h
  | succ f ih =>
    intro n i c hc h
    by_cases hn : n < 128
    · rw [vb_small _ _ hn] at h; simp at h
    · rw [vb_big _ _ hn] at h hc
      cases i with
      | zero =>
        obtain rfl : UInt8.ofNat (128 + n % 128) = c := by simpa using hc
        simp; omega
      | succ i =>
        simp only [List.getElem?_cons_succ, List.length_cons] at hc h
        exact ih _ i c hc (by omega)
theorem vb_low (f : Nat) : ∀ (n i : Nat) (c : UInt8), n < 128 ^ (f + 1) → (vb f n)[i]? = some c → i + 1 = (vb f n).length → c.toNat < 128 := by
  induction f with
  | zero =>
    intro n i c hn hc h
    simp [vb] at h hn hc
    subst h
    obtain rfl : UInt8.ofNat n = c := by simpa using hc
    simp; omega
  | succ f ih =>
    intro n i c hb hc h
    by_cases hn : n < 128
    · rw [vb_small _ _ hn] at h hc
      simp at h
      subst h
      obtain rfl : UInt8.ofNat n = c := by simpa using hc
      simp; omega
    · rw [vb_big _ _ hn] at h hc
      cases i with
      | zero => have := (vb_le f (n / 128)).1; simp only [List.length_cons] at h; omega
      | succ i =>
        simp only [List.getElem?_cons_succ, List.length_cons] at hc h
        exact ih _ i c (by rw [Nat.pow_succ] at hb; omega) hc (by omega)
/-- Where the first k bytes are a varint, the last of them has no high bit and all others have it. -/
theorem good_high (l : List UInt8) (k i : Nat) (c : UInt8) (hk : k ≤ l.length) (hg : good l k = true) (hc : l[i]? = some c) (hi : i + 1 < k) : 128 ≤ c.toNat := by
  have h : vb 6 (val (l.take k)) = l.take k := by simpa [good] using hg
  have hc' : (l.take k)[i]? = some c := by rw [List.getElem?_take_of_lt (by omega)]; exact hc
  rw [← h] at hc'
  exact vb_high 6 _ i c hc' (by rw [h, List.length_take]; omega)
theorem good_low (l : List UInt8) (k i : Nat) (c : UInt8) (hk : k ≤ l.length) (h7 : k ≤ 7) (hg : good l k = true) (hc : l[i]? = some c) (hi : i + 1 = k) : c.toNat < 128 := by
  have h : vb 6 (val (l.take k)) = l.take k := by simpa [good] using hg
  have hc' : (l.take k)[i]? = some c := by rw [List.getElem?_take_of_lt (by omega)]; exact hc
  rw [← h] at hc'
  refine vb_low 6 _ i c ?_ hc' (by rw [h, List.length_take]; omega)
  have := val_take_le l k h7
  have h4 : (128 : Nat) ^ 7 = 562949953421312 := by decide
  show _ < 128 ^ 7
  omega
theorem extract_front (s : ByteArray) (k : Nat) : (s.extract 0 k).toList = s.data.toList.take k := by
  simp [ByteArray.toList_eq, ByteArray.data_extract, Array.toList_extract]
theorem good_eq (s : ByteArray) (k : Nat) : ((vbs (val (s.data.toList.take k))).toList == (s.extract 0 k).toList) = good s.data.toList k := by
  rw [extract_front]
  have : (vbs (val (s.data.toList.take k))).toList = vb 6 (val (s.data.toList.take k)) := ByteArray.toList_mk _
  rw [this]; rfl
theorem u8_and127 (x : Nat) (h : x < 256) : bits .and .u8 (x : Int) 127 = (x : Int) % 128 :=
  bits_mask .u8 8 (by decide) wraps_u8 7 (by decide) _ (by omega) (by omega)
theorem wrap64_small (n : Int) (h0 : 0 ≤ n) (h1 : n < 9223372036854775808) : wrap64 n = n := by unfold wrap64; omega
/-- Or-ing seven bits onto a number below them adds them. -/
theorem or_val (v c j : Nat) (hv : v < 128 ^ j) (hj : j < 7) : bits .or .i64 (v : Int) (wrap64 ((c : Int) % 128 * 2 ^ (7 * j))) = ((v + 128 ^ j * (c % 128) : Nat) : Int) := by
  have hp : (2 : Int) ^ (7 * j) = ((128 ^ j : Nat) : Int) := by rw [Int.pow_mul, Int.natCast_pow]; rfl
  have hm : c % 128 < 128 := Nat.mod_lt _ (by decide)
  have hle : 128 ^ j ≤ 128 ^ 6 := Nat.pow_le_pow_right (by decide) (by omega)
  have h6 : (128 : Nat) ^ 6 = 4398046511104 := by decide
  have hx : 128 ^ j * (c % 128) ≤ 4398046511104 * 127 := Nat.mul_le_mul (by omega) (by omega)
  have e : (c : Int) % 128 * 2 ^ (7 * j) = ((128 ^ j * (c % 128) : Nat) : Int) := by
    rw [hp, Int.natCast_mul, Int.mul_comm]; rfl
  rw [e, wrap64_small _ (by omega) (by omega)]
  have hcomm : ∀ a b : Int, bits .or .i64 a b = bits .or .i64 b a := fun a b => by simp only [bits, BitVec.or_comm]
  rw [hcomm, bits_join .i64 63 (by decide) wraps_i64 (7 * j) _ _ (by omega) ?_ (by omega) (by omega) ?_ (by omega)]
  · rw [← Int.natCast_add, Nat.add_comm]
  · rw [hp, ← Int.natCast_emod, Nat.mul_mod_right]; rfl
  · rw [hp]; omega
/-- The first p bytes all have the high bit. -/
def HighTo (l : List UInt8) (p : Nat) : Prop := ∀ (i : Nat) (c : UInt8), i < p → l[i]? = some c → 128 ≤ c.toNat
theorem HighTo.bad {l : List UInt8} {p j : Nat} (h : HighTo l p) (h1 : 1 ≤ j) (h7 : j ≤ 7) (hj : j ≤ p) (hl : j ≤ l.length) : good l j = false := by
  cases hg : good l j with
  | false => rfl
  | true =>
    exfalso
    have hlt : j - 1 < l.length := by omega
    have hc := List.getElem?_eq_getElem hlt
    have h2 := good_low l j (j - 1) _ hl h7 hg hc (by omega)
    have h3 := h (j - 1) _ (by omega) hc
    omega
theorem HighTo.succ {s : ByteArray} {p : Nat} (h : HighTo s.data.toList p) (hp : p < s.size) (hc : 127 < s[p].toNat) : HighTo s.data.toList (p + 1) := by
  intro i c hi hget
  rcases Nat.lt_or_ge i p with h1 | h1
  · exact h i c h1 hget
  · obtain rfl : i = p := by omega
    have e : s.data.toList[i]? = some s[i] := by rw [List.getElem?_eq_getElem (by rw [len_data]; exact hp)]; rfl
    rw [e] at hget
    obtain rfl : s[i] = c := by simpa using hget
    omega
theorem get_data (s : ByteArray) (p : Nat) (hp : p < s.size) : s.data.toList[p]? = some s[p] := by
  rw [List.getElem?_eq_getElem (by rw [len_data]; exact hp)]; rfl
theorem val_take_lt (l : List UInt8) (k : Nat) : val (l.take k) < 128 ^ k :=
  Nat.lt_of_lt_of_le (val_lt _) (Nat.pow_le_pow_right (by decide) (List.length_take_le _ _))
theorem rvK_high {l : List UInt8} {p : Nat} (h : HighTo l p) (hp : p = 7 ∨ l.length ≤ p) : rvK l = 0 :=
  rvK_none l fun j h1 h7 hl => h.bad h1 h7 (by omega) hl
theorem rvK_hit {l : List UInt8} {p : Nat} (h : HighTo l p) (h7 : p < 7) (hl : p < l.length) (hg : good l (p + 1) = true) : rvK l = p + 1 :=
  rvK_first l (p + 1) (by omega) (by omega) (by omega) hg fun j h1 hj => h.bad h1 (by omega) (by omega) (by omega)
theorem rvK_miss {l : List UInt8} {p : Nat} {c : UInt8} (h : HighTo l p) (hc : l[p]? = some c) (hlow : c.toNat < 128) (hg : good l (p + 1) = false) : rvK l = 0 := by
  refine rvK_none l fun j h1 h7 hl => ?_
  rcases Nat.lt_trichotomy j (p + 1) with hj | hj | hj
  · exact h.bad h1 h7 (by omega) hl
  · rw [hj]; exact hg
  · cases hg' : good l j with
    | false => rfl
    | true =>
      have := good_high l j p c hl hg' hc (by omega)
      omega
theorem rvN_of {l : List UInt8} {k : Nat} (h : rvK l = k) (hk : k ≠ 0) : rvN l = val (l.take k) := by unfold rvN; rw [h, if_neg hk]
theorem rvN_zero {l : List UInt8} (h : rvK l = 0) : rvN l = 0 := by unfold rvN; rw [if_pos h]
end Go.Proofs.YtmnkjjgfebfgmaaDoor.M
