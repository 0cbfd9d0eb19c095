/-
  The contracts that the law on the encodings needs, each told in one form: the answer, and that nothing that was there is turned.
-/
import Derived.Test.YtkcepbncjlbpbaaDoorDrawR
import Derived.Test.YtkcepbncjlbpbaaDoorMathG
import Derived.Test.YtkcepbncjlbpbaaDoorFxI
import Derived.Test.YtkcepbncjlbpbaaDoorRfI
import Derived.Test.YtkcepbncjlbpbaaDoorRvI
import Derived.Test.YtkcepbncjlbpbaaDoorHxI
import Derived.Test.YtkcepbncjlbpbaaDoorUhI
import Derived.Test.YtkcepbncjlbpbaaDoorRdI
import Derived.Test.YtkcepbncjlbpbaaDoorErrs
namespace Go.Proofs.YtkcepbncjlbpbaaDoor
open Go.RowKit M
set_option linter.unusedVariables false
/-- A function answers v, and turns nothing that was there. -/
def Gives (v : Value) (w : World) (e : Ending) (w' : World) : Prop := e = .returned v ∧ Below w.heap.size w w'
theorem gives_same {v : Value} {w w' : World} {e : Ending} (h : e = .returned v ∧ w = w') : Gives v w e w' := ⟨h.1, by rw [h.2]; exact Below.refl _ _⟩
theorem nVar_in (N : Nat) (W : World) (h : N ≤ 562949953421311) : Calls Tryd.prog 9 #[.int .i64 N] W (Gives (.string (vbs N)) W) := iVar_good N W h
theorem nVar_out (n : Int) (W : World) (h : n < 0 ∨ 562949953421311 < n) : Calls Tryd.prog 9 #[.int .i64 n] W (Gives (.string ⟨#[]⟩) W) := (iVar_bad n W h).mono fun _ _ h => gives_same h
theorem nRv_any (t : ByteArray) (W : World) (h : t.size ≤ 1000) : Calls Tryd.prog 10 #[.string t] W (Gives (.tuple #[.int .i64 (rvN t.data.toList), .int .i64 (rvK t.data.toList)]) W) := iRv t W (by unfold maxLen; omega)
theorem nRv_in (N : Nat) (t : ByteArray) (W : World) (h : t.size ≤ 40) (hN : N ≤ 562949953421311) : Calls Tryd.prog 10 #[.string (vbs N ++ t)] W (Gives (.tuple #[.int .i64 N, .int .i64 ((vbs N).size : Nat)]) W) := by
  have hs := (vbs_size N).2
  have h1 := nRv_any (vbs N ++ t) W (by rw [ByteArray.size_append]; omega)
  have h2 := rv_vbs N hN t.data.toList
  rw [data_append, vbs_data, h2.1, h2.2] at h1
  rw [vbs_len]
  exact h1
theorem nFx_in (N : Nat) (W : World) (h : N < 256 ^ 7) : Calls Tryd.prog 11 #[.int .i64 N, .int .i64 7] W (Gives (.string (fxs N 7)) W) := by
  have e : (256 : Nat) ^ 7 = 72057594037927936 := by decide
  exact iFx_good N 7 W (by omega) (by decide) (by decide) (by omega)
theorem nFx_big (N : Nat) (W : World) (hN : N ≤ 9223372036854775807) (h : 256 ^ 7 ≤ N) : Calls Tryd.prog 11 #[.int .i64 N, .int .i64 7] W (Gives (.string ⟨#[]⟩) W) :=
  (iFx_big N 7 W hN (by decide) (by decide) h).mono fun _ _ h => gives_same h
theorem nFx_neg (n : Int) (W : World) (h : n < 0) : Calls Tryd.prog 11 #[.int .i64 n, .int .i64 7] W (Gives (.string ⟨#[]⟩) W) :=
  (iFx_bad n 7 W (Or.inr (Or.inr h))).mono fun _ _ h => gives_same h
theorem nRf_in (N : Nat) (t : ByteArray) (W : World) (ht : t.size ≤ 40) (h : N < 256 ^ 7) : Calls Tryd.prog 12 #[.string (fxs N 7 ++ t), .int .i64 7] W (Gives (.tuple #[.int .i64 N, .bool true]) W) := by
  have hs : (fxs N 7).size = 7 := fxs_size N 7
  have h1 := iRf_good (fxs N 7 ++ t) 7 W (by rw [ByteArray.size_append]; unfold maxLen; omega) (by decide) (by decide) (by rw [ByteArray.size_append]; omega)
  rw [be_fxs N h t] at h1
  exact h1.mono fun _ _ h => gives_same h
def SomeRf (W : World) (e : Ending) (w' : World) : Prop := ∃ (y : Int) (b : Bool), e = .returned (.tuple #[.int .i64 y, .bool b]) ∧ Below W.heap.size W w'
theorem nRf_any (t : ByteArray) (W : World) (ht : t.size ≤ 40) : Calls Tryd.prog 12 #[.string t, .int .i64 7] W (SomeRf W) := by
  by_cases h : 7 ≤ t.size
  · exact (iRf_good t 7 W (by unfold maxLen; omega) (by decide) (by decide) h).mono fun _ _ h => ⟨_, _, (gives_same h).1, (gives_same h).2⟩
  · exact (iRf_bad t 7 W (by unfold maxLen; omega) (by omega)).mono fun _ _ h => ⟨_, _, (gives_same h).1, (gives_same h).2⟩
theorem nDec (n : Int) (W : World) (h0 : -9223372036854775808 ≤ n) (h1 : n ≤ 9223372036854775807) (ht : Lib.TabIs Tryd.prog W "internal/strconv.uint64pow10" .u64 Lib.pow10Tab) : Calls Tryd.prog 14 #[.int .i64 n] W (Gives (.string (decs n)) W) := iDec n W h0 h1 ht
theorem decs_size (n : Int) (h0 : -9223372036854775808 ≤ n) (h1 : n ≤ 9223372036854775807) : (decs n).size ≤ 20 := by
  rw [← len_data, decs_data]
  unfold Lib.itoa
  split
  · have := nDigits_le (u := n.natAbs) (by omega)
    rw [List.length_cons, Lib.decDigits_length]; omega
  · have := nDigits_le (u := n.toNat) (by omega)
    rw [Lib.decDigits_length]; omega
theorem nRd_in (n : Int) (W : World) (h0 : -999999999 ≤ n) (h1 : n ≤ 999999999) (he : ErrsLaid W) (ht : Lib.TabIs Tryd.prog W "internal/strconv.uint64pow10" .u64 Lib.pow10Tab) : Calls Tryd.prog 13 #[.string (decs n)] W (Gives (.tuple #[.int .i64 n, .bool true]) W) := by
  have h := iRd (decs n) W (by have := decs_size n (by omega) (by omega); omega) he ht
  unfold RdPost at h
  rw [decs_data, rdV_some (rd_itoa_in h0 h1), rdT_some (rd_itoa_in h0 h1)] at h
  exact h
theorem nRd_out (n : Int) (W : World) (b0 : -9223372036854775808 ≤ n) (b1 : n ≤ 9223372036854775807) (h : n < -999999999 ∨ 999999999 < n) (he : ErrsLaid W) (ht : Lib.TabIs Tryd.prog W "internal/strconv.uint64pow10" .u64 Lib.pow10Tab) : Calls Tryd.prog 13 #[.string (decs n)] W (Gives (.tuple #[.int .i64 0, .bool false]) W) := by
  have h2 := iRd (decs n) W (by have := decs_size n b0 b1; omega) he ht
  unfold RdPost at h2
  rw [decs_data, rdV_none (rd_itoa_out h), rdT_none (rd_itoa_out h)] at h2
  exact h2
theorem nHex (t : ByteArray) (W : World) (h : t.size ≤ 40) : Calls Tryd.prog 16 #[.string t] W (Gives (.string (hexs t)) W) := iHx t W (by omega)
theorem nUnhex (t : ByteArray) (W : World) (h : t.size ≤ 40) : Calls Tryd.prog 15 #[.string (hexs t)] W (Gives (.tuple #[.string t, .bool true]) W) := by
  have h2 := iUh (hexs t) W (by rw [hexs_size]; omega)
  unfold UhPost at h2
  rw [(uh_hexs t).1, (uh_hexs t).2] at h2
  exact h2
theorem nBig (A : Option Addr) (len cap : Nat) (W : World) : Calls Tryd.prog 6 #[.slice A len cap] W (Gives (.bool (decide ((1048576 : Int) < (len : Int)))) W) := by
  go_enter Tryd.func6, Tryd.ntmps6
  go_wp2
  go_ret
  exact ⟨rfl, Below.refl _ _⟩
theorem drawHex_size (K : Code) : (drawHexV K).size ≤ 40 := by
  have h2 := textN_le K 40 (newS K) (by decide)
  unfold drawHexV
  rw [textV_size]; omega
theorem ext_le (t : ByteArray) (a b : Nat) : (t.extract a b).size ≤ t.size := by rw [ByteArray.size_extract]; omega
theorem byte1_size (n : Int) : (byte1 n).size = 1 := rfl
theorem drawReadVar_size (K : Code) : (drawReadVarV K).size ≤ 1000 := by
  have h1 := rvT_size K
  unfold drawReadVarV
  split
  · unfold spoilV
    split
    · have h2 := textN_le K 3 (belowS K 4 (rvS K)) (by decide)
      rw [textV_size]; omega
    · have e1 := fun a b => ext_le (rvT K) a b
      split
      · rw [ByteArray.size_append]
        have := e1 0 (spK K (rvT K) (belowS K 4 (rvS K)))
        have := e1 (spK K (rvT K) (belowS K 4 (rvS K)) + 1) (rvT K).size
        omega
      · split
        · rw [ByteArray.size_append, ByteArray.size_append, byte1_size]
          have := e1 0 (spK K (rvT K) (belowS K 4 (rvS K)))
          have := e1 (spK K (rvT K) (belowS K 4 (rvS K))) (rvT K).size
          omega
        · split
          · have := e1 0 (spK K (rvT K) (belowS K 4 (rvS K)))
            omega
          · rw [ByteArray.size_append, ByteArray.size_append, byte1_size]
            have := e1 0 (spK K (rvT K) (belowS K 4 (rvS K)))
            have := e1 (spK K (rvT K) (belowS K 4 (rvS K)) + 1) (rvT K).size
            omega
  · omega
theorem vbs_ne (N : Nat) : (vbs N).toList.isEmpty = false := by
  have : (vbs N).toList = vb 6 N := ByteArray.toList_mk _
  rw [this, List.isEmpty_eq_false_iff]
  intro h
  have := (vb_le 6 N).1
  rw [h] at this
  simp at this
theorem fxs_ne (N : Nat) : (fxs N 7).toList.isEmpty = false := by
  have : (fxs N 7).toList = fx N 7 := ByteArray.toList_mk _
  rw [this, List.isEmpty_eq_false_iff]
  intro h
  have := fx_length N 7
  rw [h] at this
  simp at this
theorem mVar_in (n : Int) (W : World) (h0 : 0 ≤ n) (h : n ≤ 562949953421311) : Calls Tryd.prog 9 #[.int .i64 n] W (Gives (.string (vbs n.toNat)) W) := by
  obtain ⟨N, rfl⟩ := Int.eq_ofNat_of_zero_le h0
  rw [Int.toNat_natCast]
  exact nVar_in N W (by omega)
theorem mRv_in (n : Int) (t : ByteArray) (W : World) (ht : t.size ≤ 40) (h0 : 0 ≤ n) (h : n ≤ 562949953421311) : Calls Tryd.prog 10 #[.string (vbs n.toNat ++ t)] W (Gives (.tuple #[.int .i64 n, .int .i64 ((vbs n.toNat).size : Nat)]) W) := by
  obtain ⟨N, rfl⟩ := Int.eq_ofNat_of_zero_le h0
  rw [Int.toNat_natCast]
  exact nRv_in N t W ht (by omega)
theorem empty_size {t : ByteArray} (h : t.size ≤ 40) : ((⟨#[]⟩ : ByteArray) ++ t).size ≤ 1000 := by
  rw [ByteArray.size_append]
  have : (⟨#[]⟩ : ByteArray).size = 0 := rfl
  omega
theorem pow7 : (256 : Nat) ^ 7 = 72057594037927936 := by decide
theorem mFx_in (n : Int) (W : World) (h0 : 0 ≤ n) (h : n < 72057594037927936) : Calls Tryd.prog 11 #[.int .i64 n, .int .i64 7] W (Gives (.string (fxs n.toNat 7)) W) := by
  obtain ⟨N, rfl⟩ := Int.eq_ofNat_of_zero_le h0
  rw [Int.toNat_natCast]
  exact nFx_in N W (by rw [pow7]; omega)
theorem mFx_out (n : Int) (W : World) (h1 : n ≤ 9223372036854775807) (h : n < 0 ∨ 72057594037927936 ≤ n) : Calls Tryd.prog 11 #[.int .i64 n, .int .i64 7] W (Gives (.string ⟨#[]⟩) W) := by
  rcases h with h | h
  · exact nFx_neg n W h
  · obtain ⟨N, rfl⟩ := Int.eq_ofNat_of_zero_le (show 0 ≤ n by omega)
    exact nFx_big N W (by omega) (by rw [pow7]; omega)
theorem mRf_in (n : Int) (t : ByteArray) (W : World) (ht : t.size ≤ 40) (h0 : 0 ≤ n) (h : n < 72057594037927936) : Calls Tryd.prog 12 #[.string (fxs n.toNat 7 ++ t), .int .i64 7] W (Gives (.tuple #[.int .i64 n, .bool true]) W) := by
  obtain ⟨N, rfl⟩ := Int.eq_ofNat_of_zero_le h0
  rw [Int.toNat_natCast]
  exact nRf_in N t W ht (by rw [pow7]; omega)
end Go.Proofs.YtkcepbncjlbpbaaDoor
