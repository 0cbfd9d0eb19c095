/-
  The model's Fixed and the program's: each returns the last width bytes of n, most significant first, where width is from 1 to 7, n is not negative and fits; else the empty string. Each makes new memory and turns none that was there.
-/
import Derived.Test.YtkcepbncjlbpbaaIn
import Derived.Test.YtkcepbncjlbpbaaOwn
namespace Go.Proofs.Ytkcepbncjlbpbaa
open Go.RowKit M
set_option linter.unusedVariables false
/-- A slice of one byte that was just built, as a string. -/
theorem conv_one (W : World) (n : Int) :
    (convert 36 9 (.slice (some ⟨W.heap.size, 0, none⟩) 1 1)).run Try.prog (W.alloc (.cells #[.int .u8 n] 5)) = .ok (.string ⟨#[UInt8.ofNat n.toNat]⟩) (W.alloc (.cells #[.int .u8 n] 5)) := by
  have h := run_convert_bytes_arg (P := Try.prog) (W.alloc (.cells #[.int .u8 n] 5)) 36 5 Try.underlying36 Try.underlying5 W.heap.size 0 1 1 [n] rfl (by
    intro i hi
    obtain rfl : i = 0 := by omega
    simp [go_sem]) 9 Try.underlying9
  simpa [strOfNums] using h
theorem sFx_bad (n k : Int) (w : World) (h : k < 1 ∨ 7 < k ∨ n < 0) :
    Calls Try.prog 9 #[.int .i64 n, .int .i64 k] w fun e w' => e = .returned (.string ⟨#[]⟩) ∧ w = w' := by
  by_cases h1 : k < 1 ∨ 7 < k
  · go_enter Try.func9, Try.ntmps9
    go_wp2_with (go_at_call 21; refine (l1In_no _ _ _ _ (by omega)).mono ?_; rintro e w' ⟨rfl, rfl⟩)
    go_ret
    exact ⟨rfl, rfl⟩
  · have h2 : n < 0 := by omega
    go_enter Try.func9, Try.ntmps9
    go_wp2_with (go_at_call 21; refine (l1In_yes _ _ _ _ (by omega) (by omega)).mono ?_; rintro e w' ⟨rfl, rfl⟩)
    go_ret
    exact ⟨rfl, rfl⟩
def fxOut (n k : Nat) : ByteArray := if 256 ^ k ≤ n then ⟨#[]⟩ else fxs n k
theorem sFx_good (n k : Nat) (w : World) (hn : n ≤ 9223372036854775807) (h1 : 1 ≤ k) (h2 : k ≤ 7) :
    Calls Try.prog 9 #[.int .i64 n, .int .i64 k] w fun e w' => e = .returned (.string (fxOut n k)) ∧ Below w.heap.size w w' := by
  have hcv := conv_one
  go_enter Try.func9, Try.ntmps9
  go_wp2_with (go_at_call 21; refine (l1In_yes _ _ _ _ (by omega) (by omega)).mono ?_; rintro e w' ⟨rfl, rfl⟩)
  go_loopw [0, 5, 6] (fun x o i wr => ∃ j : Nat, j ≤ k ∧ i = .int .i64 j ∧ x = .int .i64 (dv n j) ∧ o = .string (fxs n j) ∧ Below w.heap.size w wr) (fun _ _ i _ => k - (intOf i).toNat)
  case atStart => exact ⟨0, Nat.zero_le _, rfl, by rw [dv_zero], rfl, Below.refl _ _⟩
  case round =>
    obtain ⟨j, hj, rfl, rfl, rfl, hb⟩ := hrel
    have hs : (fxs n j).size ≤ 7 := by rw [fxs_size]; omega
    have hd := dv_le n j
    by_cases hlt : j < k
    · go_wp2
      go_roundw
      case rel => exact ⟨j + 1, by omega, by go_num, by rw [dv_succ]; go_num, by rw [ofNat_mod, fxs_succ], hb.alloc hb.size _⟩
      case measure => simp [intOf]; omega
    · obtain rfl : j = k := by omega
      by_cases hp : 256 ^ j ≤ n
      · have hpos : (0 : Int) < (dv n j : Int) := by have := (dv_pos n j).2 hp; omega
        have HO : Hid (fxOut n j = ⟨#[]⟩) := by unfold Hid fxOut; rw [if_pos hp]
        go_wp2
        go_ret
        exact ⟨ret_str HO.out.symm, hb⟩
      · have hz : ¬ (0 : Int) < (dv n j : Int) := by have := dv_pos n j; omega
        have HO : Hid (fxOut n j = fxs n j) := by unfold Hid fxOut; rw [if_neg hp]
        go_wp2
        go_ret
        exact ⟨ret_str HO.out.symm, hb⟩
theorem fx_val (n m : Nat) : Value.int .u8 ((n : Int) / 2 ^ (8 * m) % 256) = b2v (UInt8.ofNat (dv n m)) := by
  rw [shr_dv]; unfold b2v; congr 1
theorem iFx_bad (n k : Int) (w : World) (h : k < 1 ∨ 7 < k ∨ n < 0) :
    Calls Try.prog 10 #[.int .i64 n, .int .i64 k] w fun e w' => e = .returned (.string ⟨#[]⟩) ∧ w = w' := by
  by_cases h1 : k < 1
  · go_enter Try.func10, Try.ntmps10
    go_wp2
    go_ret
    exact ⟨rfl, rfl⟩
  · by_cases h2 : 7 < k
    · go_enter Try.func10, Try.ntmps10
      go_wp2
      go_ret
      exact ⟨rfl, rfl⟩
    · have h3 : n < 0 := by omega
      go_enter Try.func10, Try.ntmps10
      go_wp2
      go_ret
      exact ⟨rfl, rfl⟩
theorem iFx_big (n k : Nat) (w : World) (hn : n ≤ 9223372036854775807) (h1 : 1 ≤ k) (h2 : k ≤ 7) (hb : 256 ^ k ≤ n) :
    Calls Try.prog 10 #[.int .i64 n, .int .i64 k] w fun e w' => e = .returned (.string ⟨#[]⟩) ∧ w = w' := by
  have hne := shr_dv_ne n k hb
  go_enter Try.func10, Try.ntmps10
  go_wp2
  go_ret
  exact ⟨rfl, rfl⟩
theorem iFx_good (n k : Nat) (w : World) (hn : n ≤ 9223372036854775807) (h1 : 1 ≤ k) (h2 : k ≤ 7) (hb : ¬ 256 ^ k ≤ n) :
    Calls Try.prog 10 #[.int .i64 n, .int .i64 k] w fun e w' => e = .returned (.string (fxs n k)) ∧ Below w.heap.size w w' := by
  have hne := shr_dv_eq n k hb
  obtain ⟨i0, hi, hz0, hz1, hz2⟩ := info_parts info_u8
  go_enter Try.func10, Try.ntmps10
  go_wp2_with (refine wpList_make_full _ rfl _ _ 36 rfl w.heap.size 5 i0 (.int .u8 0) 1 Try.underlying36 hi hz0 hz1 .i64 .i64 _ _ k rfl rfl rfl rfl ?c1 ?c2 ?c3 ?_; rotate_left 3; intro w1 hown hg; have HO := Lib.hid hown; have HG := Lib.hid hg; clear hown hg)
  case c1 => omega
  case c2 => unfold maxLen; omega
  go_loopw [6, 28] (fun _ i wr => ∃ j : Nat, j ≤ k ∧ i = .int .i64 j ∧ OwnB wr w.heap.size (.slice (some ⟨w.heap.size, 0, none⟩) k k) (part (fx n k) j) ∧ Below w.heap.size w wr) (fun _ i _ => k - (intOf i).toNat)
  case atStart => exact ⟨0, Nat.zero_le _, rfl, OwnB.made HO.out _ (fx_length n k), (Below.refl _ _).grown HG.out (Nat.le_refl _) (by intro _ h; cases h)⟩
  case round =>
    obtain ⟨j, hj, rfl, ho, hbl⟩ := hrel
    by_cases hlt : j < k
    · obtain ⟨z, hc⟩ := ho.cellEx (by rw [part_length, fx_length]) hlt
      have hf := ho.frz (by rw [part_length, fx_length]) j
      have HO2 := Lib.hid ho
      clear ho
      go_wp2
      go_roundw
      case rel =>
        rw [fx_val]
        have hst := HO2.out.store (fx_length n k) _ (fx_get n k j hlt)
        exact ⟨j + 1, by omega, by go_num, hst.1, hbl.grown hst.2 hbl.size (by intro _ h; cases h; exact Nat.le_refl _)⟩
      case measure => simp [intOf]; omega
    · obtain rfl : j = k := by omega
      have hcv := conv_own ho
      have hp := Lib.hid (part_all (fx n j))
      rw [fx_length] at hp
      have HO2 := Lib.hid ho
      clear ho
      go_wp2
      go_ret
      exact ⟨ret_str (by rw [hp.out]; rfl), hbl⟩
end Go.Proofs.Ytkcepbncjlbpbaa
