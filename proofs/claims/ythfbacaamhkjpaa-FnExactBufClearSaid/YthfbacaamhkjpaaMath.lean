/-
  Plain mathematics of bytes and digits, with no program in sight: the number that a row of bytes encodes, most significant byte first; what shifting and or-ing by eight bits comes to.
-/
import Derived.WalkKit
namespace Go.Proofs.Ythfbacaamhkjpaa.M
open Go.RowKit

theorem ret_int {k : IntKind} {a b : Int} (h : a = b) : Ending.returned (.int k a) = .returned (.int k b) := by rw [h]
theorem ret_str {a b : ByteArray} (h : a = b) : Ending.returned (.string a) = .returned (.string b) := by rw [h]
theorem ret_bool {a b : Bool} (h : a = b) : Ending.returned (.bool a) = .returned (.bool b) := by rw [h]
/-- The number that the bytes encode, most significant byte first. -/
def be (l : List UInt8) : Nat := l.foldl (fun n c => n * 256 + c.toNat) 0
theorem be_snoc (l : List UInt8) (c : UInt8) : be (l ++ [c]) = be l * 256 + c.toNat := by
  simp [be, List.foldl_append]
theorem be_lt_aux (l : List UInt8) : ∀ a : Nat, l.foldl (fun n c => n * 256 + c.toNat) a < (a + 1) * 256 ^ l.length := by
  induction l with
  | nil => intro a; simp
  | cons c l ih =>
    intro a
    have h := ih (a * 256 + c.toNat)
    have hc := c.toNat_lt
    have e : (a * 256 + c.toNat + 1) * 256 ^ l.length ≤ ((a + 1) * 256) * 256 ^ l.length := Nat.mul_le_mul_right _ (by omega)
    rw [List.foldl_cons, List.length_cons, Nat.pow_succ, Nat.mul_comm (256 ^ l.length) 256, ← Nat.mul_assoc]
    omega
theorem be_lt (l : List UInt8) : be l < 256 ^ l.length := by
  have h := be_lt_aux l 0
  simpa [be] using h
theorem take_snoc (s : ByteArray) (k : Nat) (h : k < s.size) : s.data.toList.take (k + 1) = s.data.toList.take k ++ [s[k]] := by
  rw [List.take_succ_eq_append_getElem (by simpa using h)]; rfl
theorem be_take (s : ByteArray) (k : Nat) (h : k < s.size) : be (s.data.toList.take (k + 1)) = be (s.data.toList.take k) * 256 + s[k].toNat := by
  rw [take_snoc s k h, be_snoc]
theorem be_take_lt (s : ByteArray) (k : Nat) (h : k < 7) : be (s.data.toList.take k) < 281474976710656 := by
  have h1 := be_lt (s.data.toList.take k)
  have h2 : (s.data.toList.take k).length ≤ k := List.length_take_le _ _
  have h3 : 256 ^ (s.data.toList.take k).length ≤ 256 ^ 6 := Nat.pow_le_pow_right (by decide) (by omega)
  have h4 : (256 : Nat) ^ 6 = 281474976710656 := by decide
  omega
theorem wraps_i64 (n : Int) (h0 : 0 ≤ n) (h1 : n < 2 ^ 63) : IntKind.i64.wrap n = n := by rw [IntKind.wrap_i64]; omega
/-- Or-ing a byte onto a number that was moved up by eight bits adds it. -/
theorem or256 (x c : Nat) (hx : x < 281474976710656) (hc : c < 256) : bits .or .i64 ((x : Int) * 256) (c : Int) = (x : Int) * 256 + c :=
  bits_join .i64 63 (by decide) wraps_i64 8 _ _ (by omega) (by omega) (by omega) (by omega) (by omega) (by omega)
/-- n without its last k bytes. -/
def dv (n k : Nat) : Nat := n / 256 ^ k
theorem dv_zero (n : Nat) : dv n 0 = n := by simp [dv]
theorem dv_succ (n k : Nat) : dv n (k + 1) = dv n k / 256 := by simp only [dv, Nat.pow_succ, Nat.div_div_eq_div_mul]
theorem dv_le (n k : Nat) : dv n k ≤ n := Nat.div_le_self _ _
theorem dv_pos (n k : Nat) : 0 < dv n k ↔ 256 ^ k ≤ n := by
  unfold dv
  exact Nat.div_pos_iff.trans ⟨fun h => h.2, fun h => ⟨Nat.pow_pos (by decide), h⟩⟩
/-- The last k bytes of n, most significant first. -/
def fx (n : Nat) : Nat → List UInt8
  | 0 => []
  | k + 1 => UInt8.ofNat (dv n k) :: fx n k
theorem fx_length (n k : Nat) : (fx n k).length = k := by
  induction k with
  | zero => rfl
  | succ k ih => simp [fx, ih]
def fxs (n k : Nat) : ByteArray := ⟨(fx n k).toArray⟩
theorem fxs_size (n k : Nat) : (fxs n k).size = k := by simp [fxs, ByteArray.size, fx_length]
theorem fxs_zero (n : Nat) : fxs n 0 = ⟨#[]⟩ := rfl
theorem fxs_succ (n k : Nat) : (⟨#[UInt8.ofNat (dv n k)]⟩ : ByteArray) ++ fxs n k = fxs n (k + 1) := by
  have h := ByteArray.mk_append_mk [UInt8.ofNat (dv n k)] (fx n k)
  simpa [fxs, fx] using h
theorem fx_get (n : Nat) : ∀ k i, i < k → (fx n k)[i]? = some (UInt8.ofNat (dv n (k - 1 - i))) := by
  intro k
  induction k with
  | zero => intro i h; omega
  | succ k ih =>
    intro i h
    cases i with
    | zero => simp [fx]
    | succ i =>
      simp only [fx, List.getElem?_cons_succ]
      rw [ih i (by omega)]
      congr 3
      omega
theorem ofNat_mod (m : Nat) : UInt8.ofNat (m % 256) = UInt8.ofNat m := by
  apply UInt8.toNat_inj.1
  simp
theorem shr_dv (n k : Nat) : (n : Int) / 2 ^ (8 * k) = (dv n k : Int) := by
  unfold dv
  rw [Int.natCast_ediv, Int.natCast_pow, Int.pow_mul]
  rfl
theorem shr_dv_ne (n k : Nat) (h : 256 ^ k ≤ n) : ((n : Int) / 2 ^ (8 * k) != 0) = true := by
  have := (dv_pos n k).2 h
  rw [shr_dv, bne_iff_ne]; omega
theorem shr_dv_eq (n k : Nat) (h : ¬ 256 ^ k ≤ n) : ((n : Int) / 2 ^ (8 * k) != 0) = false := by
  have := dv_pos n k
  rw [shr_dv, bne_eq_false_iff_eq]; omega
/-- The varint of n, least significant group first, with at most f bytes that have the high bit. -/
def vb : Nat → Nat → List UInt8
  | 0, n => [UInt8.ofNat n]
  | f + 1, n => if n < 128 then [UInt8.ofNat n] else UInt8.ofNat (128 + n % 128) :: vb f (n / 128)
theorem vb_small (f n : Nat) (h : n < 128) : vb f n = [UInt8.ofNat n] := by
  cases f with
  | zero => rfl
  | succ f => simp [vb, h]
theorem vb_big (f n : Nat) (h : ¬ n < 128) : vb (f + 1) n = UInt8.ofNat (128 + n % 128) :: vb f (n / 128) := by simp [vb, h]
theorem vb_le (f : Nat) : ∀ n, 1 ≤ (vb f n).length ∧ (vb f n).length ≤ f + 1 := by
  induction f with
  | zero => intro n; simp [vb]
  | succ f ih =>
    intro n
    by_cases h : n < 128
    · rw [vb_small _ _ h]; simp
    · rw [vb_big _ _ h]; have := ih (n / 128); simp only [List.length_cons]; omega
/-- What a call that writes the varint of n0 knows between two bytes: what lies already, what is left. -/
def VarAt (n0 f m : Nat) (acc : List UInt8) : Prop := acc ++ vb f m = vb 6 n0 ∧ acc.length + f = 6 ∧ m < 128 ^ (f + 1)
theorem VarAt.start (n : Nat) (h : n ≤ 562949953421311) : VarAt n 6 n [] := ⟨rfl, rfl, by show n < 128 ^ 7; omega⟩
theorem VarAt.step {n0 f m : Nat} {acc : List UInt8} (h : VarAt n0 f m acc) (hm : ¬ m < 128) : ∃ g, f = g + 1 ∧ VarAt n0 g (m / 128) (acc ++ [UInt8.ofNat (128 + m % 128)]) := by
  obtain ⟨h1, h2, h3⟩ := h
  cases f with
  | zero => simp at h3; omega
  | succ g =>
    refine ⟨g, rfl, ?_, ?_, ?_⟩
    · rw [vb_big _ _ hm] at h1
      rw [← h1]; simp
    · simp; omega
    · rw [Nat.pow_succ] at h3
      omega
theorem VarAt.stop {n0 f m : Nat} {acc : List UInt8} (h : VarAt n0 f m acc) (hm : m < 128) : acc ++ [UInt8.ofNat m] = vb 6 n0 := by
  rw [← vb_small f m hm]; exact h.1
theorem VarAt.len {n0 f m : Nat} {acc : List UInt8} (h : VarAt n0 f m acc) : acc.length ≤ 6 := by have := h.2.1; omega
def vbs (n : Nat) : ByteArray := ⟨(vb 6 n).toArray⟩
theorem i64_or128 (y : Int) (h0 : 0 ≤ y) (h1 : y < 128) : bits .or .i64 y 128 = 128 + y := by
  have hc : bits .or .i64 y 128 = bits .or .i64 128 y := by simp only [bits, BitVec.or_comm]
  rw [hc]
  exact bits_join .i64 63 (by decide) wraps_i64 7 _ _ (by decide) (by decide) (by decide) h0 h1 (by omega)
end Go.Proofs.Ythfbacaamhkjpaa.M
