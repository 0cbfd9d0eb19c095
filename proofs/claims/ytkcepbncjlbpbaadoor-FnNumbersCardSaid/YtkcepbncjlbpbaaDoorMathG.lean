/-
  Plain mathematics: each decoder of chapter 1 gives back what its encoder was handed, whatever bytes follow.
-/
import Derived.Test.YtkcepbncjlbpbaaDoorMathD
import Derived.Test.YtkcepbncjlbpbaaDoorMathF
namespace Go.Proofs.YtkcepbncjlbpbaaDoor.M
open Go.RowKit
theorem data_append (a b : ByteArray) : (a ++ b).data.toList = a.data.toList ++ b.data.toList := by simp [ByteArray.data_append]
theorem val_vb (f : Nat) : ∀ n, n < 128 ^ (f + 1) → val (vb f n) = n := by
  induction f with
  | zero => intro n h; simp [vb, val]; omega
  | succ f ih =>
    intro n h
    by_cases hn : n < 128
    · rw [vb_small _ _ hn]; simp [val]; omega
    · rw [vb_big _ _ hn, val, ih (n / 128) (by rw [Nat.pow_succ] at h; omega)]
      simp; omega
theorem vbs_data (n : Nat) : (vbs n).data.toList = vb 6 n := rfl
theorem vbs_len (n : Nat) : (vbs n).size = (vb 6 n).length := by simp [vbs, ByteArray.size]
/-- Reading the varint of n off a string that begins with it. -/
theorem rv_vbs (n : Nat) (h : n ≤ 562949953421311) (m : List UInt8) : rvK (vb 6 n ++ m) = (vb 6 n).length ∧ rvN (vb 6 n ++ m) = n := by
  have hl := vb_le 6 n
  have h7 : n < 128 ^ (6 + 1) := by
    have h4 : (128 : Nat) ^ 7 = 562949953421312 := by decide
    show n < 128 ^ 7
    omega
  have htake : (vb 6 n ++ m).take (vb 6 n).length = vb 6 n := List.take_left
  obtain ⟨p, hp⟩ : ∃ p, (vb 6 n).length = p + 1 := ⟨(vb 6 n).length - 1, by omega⟩
  have hg : good (vb 6 n ++ m) (p + 1) = true := by
    rw [← hp]; unfold good; rw [htake, val_vb 6 n h7, beq_iff_eq]
  have hh : HighTo (vb 6 n ++ m) p := by
    intro i c hi hc
    rw [List.getElem?_append_left (by omega)] at hc
    exact vb_high 6 n i c hc (by omega)
  have hk : rvK (vb 6 n ++ m) = p + 1 := rvK_hit hh (by omega) (by rw [List.length_append]; omega) hg
  refine ⟨by rw [hk, hp], ?_⟩
  rw [rvN_of hk (by omega), ← hp, htake, val_vb 6 n h7]
/-- What is read is a varint that stands there. -/
theorem rv_good {l : List UInt8} (h : rvK l ≠ 0) : 1 ≤ rvK l ∧ rvK l ≤ 7 ∧ rvK l ≤ l.length ∧ good l (rvK l) = true := by
  unfold rvK at h ⊢
  cases hf : (List.range 8).find? (fun k => decide (1 ≤ k) && (decide (k ≤ l.length) && good l k)) with
  | none => rw [hf] at h; exact absurd rfl h
  | some k =>
    rw [List.find?_range_eq_some] at hf
    obtain ⟨h1, h2, _⟩ := hf
    simp only [Bool.and_eq_true, decide_eq_true_eq] at h1
    simp only [List.mem_range] at h2
    exact ⟨h1.1, by simp only [Option.getD_some]; omega, h1.2.1, h1.2.2⟩
theorem foldl_be (l : List UInt8) : ∀ a : Nat, l.foldl (fun n c => n * 256 + c.toNat) a = a * 256 ^ l.length + be l := by
  induction l with
  | nil => intro a; simp [be]
  | cons c l ih =>
    intro a
    have e : be (c :: l) = l.foldl (fun n c => n * 256 + c.toNat) (0 * 256 + c.toNat) := rfl
    rw [List.foldl_cons, ih, e, ih, List.length_cons, Nat.pow_succ, Nat.add_mul, Nat.zero_mul, Nat.zero_add, Nat.mul_assoc, Nat.mul_comm 256 (256 ^ l.length), Nat.add_assoc]
theorem be_cons (c : UInt8) (l : List UInt8) : be (c :: l) = c.toNat * 256 ^ l.length + be l := by
  have e : be (c :: l) = l.foldl (fun n c => n * 256 + c.toNat) (0 * 256 + c.toNat) := rfl
  rw [e, foldl_be, Nat.zero_mul, Nat.zero_add]
theorem be_fx (n k : Nat) : be (fx n k) = n % 256 ^ k := by
  induction k with
  | zero => simp [fx, be, Nat.mod_one]
  | succ k ih =>
    rw [fx, be_cons, fx_length, ih, Nat.pow_succ, Nat.mod_mul, dv]
    have : (UInt8.ofNat (n / 256 ^ k)).toNat = n / 256 ^ k % 256 := by simp
    rw [this, Nat.add_comm, Nat.mul_comm]
/-- Reading a fixed width off a string that begins with the encoding. -/
theorem be_fxs (n : Nat) (h : n < 256 ^ 7) (m : ByteArray) : be ((fxs n 7 ++ m).data.toList.take 7) = n := by
  have e : (fxs n 7).data.toList = fx n 7 := rfl
  rw [data_append, e]
  have : (fx n 7 ++ m.data.toList).take 7 = fx n 7 := by
    have := fx_length n 7
    conv => lhs; rw [← this]
    exact List.take_left
  rw [this, be_fx, Nat.mod_eq_of_lt h]
/-- Which numerals are read. -/
theorem rd_itoa_in {v : Int} (h0 : -999999999 ≤ v) (h1 : v ≤ 999999999) : rd (Lib.itoa v) = some v := rd_of h0 h1 rfl
theorem rd_itoa_out {v : Int} (h : v < -999999999 ∨ 999999999 < v) : rd (Lib.itoa v) = none := by
  cases hr : rd (Lib.itoa v) with
  | none => rfl
  | some u =>
    obtain ⟨a, b, c, _⟩ := rd_inv hr
    have := congrArg rdS c
    rw [rdS_itoa, rdS_itoa] at this
    omega
theorem decs_data (n : Int) : (decs n).data.toList = Lib.itoa n := rfl
theorem hexl_get (l : List UInt8) : ∀ (j : Nat) (c : UInt8), l[j]? = some c → (hexl l)[2 * j]? = some (hexd (c.toNat / 16)) ∧ (hexl l)[2 * j + 1]? = some (hexd (c.toNat % 16)) := by
  induction l with
  | nil => intro j c h; simp at h
  | cons a l ih =>
    intro j c h
    cases j with
    | zero =>
      obtain rfl : a = c := by simpa using h
      simp [hexl]
    | succ j =>
      have := ih j c (by simpa using h)
      have e : 2 * (j + 1) = 2 * j + 1 + 1 := by omega
      rw [e]
      simpa [hexl] using this
theorem hexs_data (s : ByteArray) : (hexs s).data.toList = hexl s.data.toList := rfl
theorem hexs_size (s : ByteArray) : (hexs s).size = 2 * s.size := by
  rw [← len_data, hexs_data, hexl_length, len_data]
theorem hvAt_hexs (s : ByteArray) (j : Nat) (h : j < s.size) : hvAt (hexs s) (2 * j) = ((s[j].toNat / 16 : Nat) : Int) ∧ hvAt (hexs s) (2 * j + 1) = ((s[j].toNat % 16 : Nat) : Int) := by
  have hg := hexl_get s.data.toList j s[j] (get_data s j h)
  have hc := s[j].toNat_lt
  unfold hvAt
  rw [hexs_data, List.getD_eq_getElem?_getD, List.getD_eq_getElem?_getD, hg.1, hg.2]
  exact ⟨hv_hexd _ (by omega), hv_hexd _ (by omega)⟩
theorem ubAt_hexs (s : ByteArray) (j : Nat) (h : j < s.size) : ubAt (hexs s) j = s[j] := by
  have hh := hvAt_hexs s j h
  unfold ubAt
  rw [hh.1, hh.2]
  apply UInt8.toNat_inj.1
  have hc := s[j].toNat_lt
  have e : (16 * ((s[j].toNat / 16 : Nat) : Int) + ((s[j].toNat % 16 : Nat) : Int)).toNat = s[j].toNat := by omega
  rw [e]; simp
theorem uhl_hexs (s : ByteArray) : ∀ k, k ≤ s.size → uhl (hexs s) k = s.data.toList.take k := by
  intro k
  induction k with
  | zero => intro _; simp [uhl]
  | succ k ih =>
    intro h
    rw [uhl, ih (by omega), ubAt_hexs s k (by omega), take_snoc s k (by omega)]
/-- Reading the digits of a string's bytes gives the string back. -/
theorem uh_hexs (s : ByteArray) : uhT (hexs s) = true ∧ uhV (hexs s) = s := by
  have hT : uhT (hexs s) = true := by
    refine uh_good (by rw [hexs_size]; omega) ?_
    intro i hi
    rw [hexs_size] at hi
    rcases Nat.mod_two_eq_zero_or_one i with h | h
    · obtain ⟨j, rfl⟩ : ∃ j, i = 2 * j := ⟨i / 2, by omega⟩
      rw [(hvAt_hexs s j (by omega)).1]; omega
    · obtain ⟨j, rfl⟩ : ∃ j, i = 2 * j + 1 := ⟨i / 2, by omega⟩
      rw [(hvAt_hexs s j (by omega)).2]; omega
  refine ⟨hT, ?_⟩
  rw [uhV_yes hT, hexs_size, Nat.mul_div_cancel_left _ (by decide), uhl_hexs s s.size (Nat.le_refl _), take_all]
end Go.Proofs.YtkcepbncjlbpbaaDoor.M
