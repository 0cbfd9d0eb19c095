/-
  The program's Unhex: the bytes that the string's pairs of lowercase hexadecimal digits say, and true; the empty string and false where the length is odd or a byte is no such digit. It turns nothing that was there.
-/
import Derived.Test.YtkcepbncjlbpbaaDoorIn
import Derived.Test.YtkcepbncjlbpbaaDoorOwn
import Derived.Test.YtkcepbncjlbpbaaDoorMathD
import Derived.Deep.QuietTactic
import Derived.BigQuiet
namespace Go.Proofs.YtkcepbncjlbpbaaDoor
open Go.RowKit M
set_option linter.unusedVariables false
theorem iHexValue (x : Int) (w : World) (h0 : 0 ≤ x) (h1 : x ≤ 255) :
    Calls Tryd.prog 25 #[.int .u8 x] w fun e w' => e = .returned (.int .i64 (hv x)) ∧ w' = w := by
  by_cases a : 48 ≤ x
  · by_cases b : x ≤ 57
    · have HE := Lib.hid (hv_low a b)
      go_enter Tryd.func25, Tryd.ntmps25
      go_wp2
      go_ret
      exact ⟨ret_int HE.out.symm, rfl⟩
    · by_cases c : 97 ≤ x
      · by_cases d : x ≤ 102
        · have HE := Lib.hid (hv_high c d)
          go_enter Tryd.func25, Tryd.ntmps25
          go_wp2
          go_ret
          exact ⟨ret_int HE.out.symm, rfl⟩
        · have HE := Lib.hid (hv_none (x := x) (by omega) (by omega))
          go_enter Tryd.func25, Tryd.ntmps25
          go_wp2
          go_ret
          exact ⟨ret_int HE.out.symm, rfl⟩
      · have HE := Lib.hid (hv_none (x := x) (by omega) (by omega))
        go_enter Tryd.func25, Tryd.ntmps25
        go_wp2
        go_ret
        exact ⟨ret_int HE.out.symm, rfl⟩
  · have HE := Lib.hid (hv_none (x := x) (by omega) (by omega))
    go_enter Tryd.func25, Tryd.ntmps25
    go_wp2
    go_ret
    exact ⟨ret_int HE.out.symm, rfl⟩
def NotYet (x : Int) (j : Nat) : Prop := ∀ k : Nat, k < j → ((hexd k).toNat : Int) ≠ x
theorem NotYet.succ {x : Int} {j : Nat} (h : NotYet x j) (hj : ((hexd j).toNat : Int) ≠ x) : NotYet x (j + 1) := by
  intro k hk
  rcases Nat.lt_or_ge k j with h1 | h1
  · exact h k h1
  · rw [show k = j by omega]; exact hj
def UhPost (s : ByteArray) (w : World) (e : Ending) (w' : World) : Prop := e = .returned (.tuple #[.string (uhV s), .bool (uhT s)]) ∧ Below w.heap.size w w'
theorem uh_byte (s : ByteArray) (j : Nat) (h0 : 0 ≤ hvAt s (2 * j)) (h1 : 0 ≤ hvAt s (2 * j + 1)) : Value.int .u8 (16 * hvAt s (2 * j) + hvAt s (2 * j + 1)) = b2v (ubAt s j) := by
  unfold b2v; rw [ub_val s j h0 h1]
theorem len_uhl (s : ByteArray) (j : Nat) (hj : 2 * j ≤ s.size) (hs : s.size ≤ 1099511627776) : (uhl s j).length + 1 ≤ 140737488355328 := by rw [uhl_length]; omega
theorem hvAt_bd (s : ByteArray) (i : Nat) : -1 ≤ hvAt s i ∧ hvAt s i ≤ 15 := hv_bd _
theorem hexValueAt (s : ByteArray) (i : Nat) (h : i < s.size) : ∀ W : World, Calls Tryd.prog 25 #[.int .u8 (s[i].toNat : Int)] W fun e w' => e = .returned (.int .i64 (hvAt s i)) ∧ w' = W := by
  intro W
  have := s[i].toNat_lt
  rw [hvAt_eq s i h]
  exact iHexValue _ W (by omega) (by omega)
theorem OwnB.drewN {w : World} {base : Nat} {v : Value} {l : List UInt8} (h : OwnB w base v l) (n : Nat) : OwnB (w.drewN n) base v l := h
theorem below_drewN {B : Nat} {a w : World} (h : Below B a w) (n : Nat) : Below B a (w.drewN n) := ⟨h.os, h.tape, h.output, h.size, h.block⟩
set_option maxRecDepth 100000 in
set_option maxHeartbeats 400000 in
theorem iUh (s : ByteArray) (w : World) (hs : s.size ≤ 1099511627776) :
    Calls Tryd.prog 15 #[.string s] w (UhPost s w) := by
  obtain ⟨i0, hi, hz0, hz1, hz2⟩ := info_parts info_u8
  have hs2 : s.size ≤ 9223372036854775807 := by omega
  rcases Nat.mod_two_eq_zero_or_one s.size with hm | hm
  · have ht : (((s.size : Int) % 2) != 0) = false := by rw [bne_eq_false_iff_eq]; omega
    obtain ⟨M, hM⟩ : ∃ M : Nat, (s.size : Int) / 2 = (M : Int) := ⟨s.size / 2, by omega⟩
    have hM1 : 2 * M ≤ s.size := by omega
    have hM2 : s.size ≤ 2 * M := by omega
    have hM3 := Lib.hid (show M ≤ 549755813888 by omega)
    have hM4 := Lib.hid (show s.size / 2 = M by omega)
    have HM := Lib.hid hm
    have HS := Lib.hid hs
    clear hm hs
    go_enter Tryd.func15, Tryd.ntmps15
    go_wp2_with (refine wpList_make_full _ rfl _ _ 22 rfl w.heap.size 5 i0 (.int .u8 0) 1 Tryd.underlying22 hi hz0 hz1 .i64 .i64 _ _ M rfl rfl rfl rfl ?m1 ?m2 ?m3 ?_; rotate_left 3; intro w1 hown hg; have HO := Lib.hid hown; have HG := Lib.hid hg; clear hown hg)
    case m1 => have := hM3.out; rw [hz2]; omega
    case m2 => have := hM3.out; unfold maxLen; omega
    case m3 => exact Nat.le_refl _
    clear hi hz0 hz1 hz2
    go_loopw [5, 6, 7, 18] (fun _ _ _ i wr => ∃ j : Nat, j ≤ M ∧ i = .int .i64 j ∧ OwnB wr w.heap.size (.slice (some ⟨w.heap.size, 0, none⟩) M M) (part (uhl s M) j) ∧ OkTo s (2 * j) ∧ Below w.heap.size w wr) (fun _ _ _ i _ => M - (intOf i).toNat)
    case atStart => exact ⟨0, Nat.zero_le _, rfl, OwnB.made HO.out _ (uhl_length s M), by intro i h; omega, (Below.refl _ _).grown HG.out (Nat.le_refl _) (by intro _ h; cases h)⟩
    case round =>
      obtain ⟨j, hj, rfl, ho, hk, hb⟩ := hrel
      by_cases hlt : j < M
      · have h0 : 2 * j < s.size := by omega
        have h1 : 2 * j + 1 < s.size := by omega
        have c0 := Lib.hid (hexValueAt s (2 * j) h0)
        have c1 := Lib.hid (hexValueAt s (2 * j + 1) h1)
        obtain ⟨b0, b1⟩ := hvAt_bd s (2 * j)
        obtain ⟨b2, b3⟩ := hvAt_bd s (2 * j + 1)
        obtain ⟨z, hc⟩ := ho.cellEx (by rw [part_length, uhl_length]) hlt
        have hf := ho.frz (by rw [part_length, uhl_length]) j
        have HO2 := Lib.hid ho
        clear ho
        have i0 : (0 : Int) ≤ 2 * (j : Int) := by omega
        have i1 : 2 * (j : Int) < (s.size : Int) := by omega
        have i2 : (0 : Int) ≤ 2 * (j : Int) + 1 := by omega
        have i3 : 2 * (j : Int) + 1 < (s.size : Int) := by omega
        go_wp2
        have e1 : IntKind.i64.wrap (2 * (j : Int)) = 2 * (j : Int) := IntWalk.i64_in _ (by omega)
        have e2 : IntKind.i64.wrap (2 * (j : Int) + 1) = 2 * (j : Int) + 1 := IntWalk.i64_in _ (by omega)
        have e3 : (2 * (j : Int)).toNat = 2 * j := by omega
        have e4 : (2 * (j : Int) + 1).toNat = 2 * j + 1 := by omega
        go_quiet ((go_at_call 25; (first | (with_reducible exact Calls.quiet_of_same (c0.out _)) | (with_reducible exact Calls.quiet_of_same (c1.out _)))))
        clear e1 e2
        by_cases g0 : hvAt s (2 * j) < 0
        · have hT := uh_bad h0 g0
          have HV := Lib.hid (uhV_no hT)
          have HT := Lib.hid hT
          clear hT
          go_wp2
          go_ret2
          exact ⟨by rw [HV.out, HT.out]; rfl, below_drewN hb _⟩
        · by_cases g1 : hvAt s (2 * j + 1) < 0
          · have hT := uh_bad h1 g1
            have HV := Lib.hid (uhV_no hT)
            have HT := Lib.hid hT
            clear hT
            go_wp2
            go_ret2
            exact ⟨by rw [HV.out, HT.out]; rfl, below_drewN hb _⟩
          · have g0' : 0 ≤ hvAt s (2 * j) := by omega
            have g1' : 0 ≤ hvAt s (2 * j + 1) := by omega
            have hor := or16 _ _ g0' b1 g1' b3
            have HU := Lib.hid (uh_byte s j g0' g1')
            go_wp2
            go_roundw
            case rel =>
              rw [HU.out]
              have hst := fun n => OwnB.store (uhl_length s M) (OwnB.drewN HO2.out n) _ (uhl_get s M j hlt)
              exact ⟨j + 1, by omega, by go_num, (hst _).1, hk.two g0' g1', (below_drewN hb _).grown (hst _).2 hb.size (by intro _ h; cases h; exact Nat.le_refl _)⟩
            case measure => simp [intOf]; omega
      · obtain rfl : j = M := by omega
        have hT := uh_good HM.out (show 2 * j = s.size by omega ▸ hk)
        have HV := Lib.hid (uhV_yes hT)
        have HT := Lib.hid hT
        have hp := Lib.hid (part_all (uhl s j))
        rw [uhl_length] at hp
        have hcv := conv_own ho
        have HO2 := Lib.hid ho
        clear ho hT
        go_wp2
        go_ret2
        exact ⟨by rw [HV.out, HT.out, hM4.out, hp.out]; rfl, hb⟩
  · have ht : (((s.size : Int) % 2) != 0) = true := by rw [bne_iff_ne]; omega
    have hT := uh_odd hm
    have HV := Lib.hid (uhV_no hT)
    have HT := Lib.hid hT
    clear hT hm
    go_enter Tryd.func15, Tryd.ntmps15
    go_wp2
    go_ret2
    exact ⟨by rw [HV.out, HT.out]; rfl, Below.refl _ _⟩
end Go.Proofs.YtkcepbncjlbpbaaDoor
