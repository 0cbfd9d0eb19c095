/-
  The program's Fixed: the last width bytes of n, most significant first, where width is from 1 to 7, n is not negative and fits; else the empty string. It turns nothing that was there.
-/
import Derived.Test.YtmnkjjgfebfgmaaDoorIn
import Derived.Test.YtmnkjjgfebfgmaaDoorOwn
namespace Go.Proofs.YtmnkjjgfebfgmaaDoor
open Go.RowKit M
set_option linter.unusedVariables false
def fxOut (n k : Nat) : ByteArray := if 256 ^ k ≤ n then ⟨#[]⟩ else fxs n k
theorem fx_val (n m : Nat) : Value.int .u8 ((n : Int) / 2 ^ (8 * m) % 256) = b2v (UInt8.ofNat (dv n m)) := by
  rw [shr_dv]; unfold b2v; congr 1
theorem iFx_bad (n k : Int) (w : World) (h : k < 1 ∨ 7 < k ∨ n < 0) :
    Calls Tryd.prog 56 #[.int .i64 n, .int .i64 k] w fun e w' => e = .returned (.string ⟨#[]⟩) ∧ w = w' := by
  by_cases h1 : k < 1
  · go_enter Tryd.func56, Tryd.ntmps56
    go_wp2
    go_ret
    exact ⟨rfl, rfl⟩
  · by_cases h2 : 7 < k
    · go_enter Tryd.func56, Tryd.ntmps56
      go_wp2
      go_ret
      exact ⟨rfl, rfl⟩
    · have h3 : n < 0 := by omega
      go_enter Tryd.func56, Tryd.ntmps56
      go_wp2
      go_ret
      exact ⟨rfl, rfl⟩
theorem iFx_big (n k : Nat) (w : World) (hn : n ≤ 9223372036854775807) (h1 : 1 ≤ k) (h2 : k ≤ 7) (hb : 256 ^ k ≤ n) :
    Calls Tryd.prog 56 #[.int .i64 n, .int .i64 k] w fun e w' => e = .returned (.string ⟨#[]⟩) ∧ w = w' := by
  have hne := shr_dv_ne n k hb
  go_enter Tryd.func56, Tryd.ntmps56
  go_wp2
  go_ret
  exact ⟨rfl, rfl⟩
theorem iFx_good (n k : Nat) (w : World) (hn : n ≤ 9223372036854775807) (h1 : 1 ≤ k) (h2 : k ≤ 7) (hb : ¬ 256 ^ k ≤ n) :
    Calls Tryd.prog 56 #[.int .i64 n, .int .i64 k] w fun e w' => e = .returned (.string (fxs n k)) ∧ Below w.heap.size w w' := by
  have hne := shr_dv_eq n k hb
  obtain ⟨i0, hi, hz0, hz1, hz2⟩ := info_parts info_u8
  go_enter Tryd.func56, Tryd.ntmps56
  go_wp2_with (refine wpList_make_full _ rfl _ _ 58 rfl w.heap.size 5 i0 (.int .u8 0) 1 Tryd.underlying58 hi hz0 hz1 .i64 .i64 _ _ k rfl rfl rfl rfl ?c1 ?c2 ?c3 ?_; rotate_left 3; intro w1 hown hg; have HO := Lib.hid hown; have HG := Lib.hid hg; clear hown hg)
  case c1 => omega
  case c2 => unfold maxLen; omega
  go_loopw [6, 28] (fun _ i wr => ∃ j : Nat, j ≤ k ∧ i = .int .i64 j ∧ OwnB wr w.heap.size (.slice (some ⟨w.heap.size, 0, none⟩) k k) (part (fx n k) j) ∧ Below w.heap.size w wr) (fun _ i _ => k - (intOf i).toNat)
  case atStart => exact ⟨0, Nat.zero_le _, rfl, OwnB.made HO.out _ (fx_length n k), (Below.refl _ _).grown HG.out (Nat.le_refl _) (by intro _ h; cases h)⟩
  case round =>
    obtain ⟨j, hj, rfl, ho, hbl⟩ := hrel
    by_cases hlt : j < k
    · obtain ⟨z, hc⟩ := ho.cellEx (by rw [part_length, fx_length]) hlt
      have hf := ho.frz (by rw [part_length, fx_length]) j
      have HO2 := Lib.hid ho
      clear ho
      go_wp2
      go_roundw
      case rel =>
        rw [fx_val]
        have hst := HO2.out.store (fx_length n k) _ (fx_get n k j hlt)
        exact ⟨j + 1, by omega, by go_num, hst.1, hbl.grown hst.2 hbl.size (by intro _ h; cases h; exact Nat.le_refl _)⟩
      case measure => simp [intOf]; omega
    · obtain rfl : j = k := by omega
      have hcv := conv_own ho
      have hp := Lib.hid (part_all (fx n j))
      rw [fx_length] at hp
      have HO2 := Lib.hid ho
      clear ho
      go_wp2
      go_ret
      exact ⟨ret_str (by rw [hp.out]; rfl), hbl⟩
end Go.Proofs.YtmnkjjgfebfgmaaDoor
