/-
  The model's ReadVar and the program's: each returns the number whose varint the string begins with, and the length of that varint; 0 and 0 where it begins with none. Each makes new memory and turns none that was there.
-/
import Derived.Test.YtkcepbncjlbpbaaVar
import Derived.Test.YtkcepbncjlbpbaaMathB
import Derived.Deep.RegionWith
import Derived.Deep.DrawnRows
namespace Go.Proofs.Ytkcepbncjlbpbaa
open Go.RowKit M
set_option linter.unusedVariables false
attribute [local go_sem ↓] Go.wp_at_zero Go.wp_at_succ
/-- No beginning of fewer than k bytes is a varint. -/
def NoneTo (l : List UInt8) (k : Nat) : Prop := ∀ j, 1 ≤ j → j < k → good l j = false
theorem NoneTo.succ {l : List UInt8} {k : Nat} (h : NoneTo l k) (hg : good l k = false) : NoneTo l (k + 1) := by
  intro j h1 h2
  rcases Nat.lt_or_ge j k with hj | hj
  · exact h j h1 hj
  · rw [show j = k by omega]; exact hg
theorem below_of_drew {B : Nat} {w w' : World} (h : Below B w.drew w') : Below B w w' := ⟨h.os, h.tape, h.output, h.size, h.block⟩
theorem wrap_succ (j : Nat) (h : j < 7) : IntKind.i64.wrap ((j : Int) + 1) = (j : Int) + 1 := by rw [IntKind.wrap_i64]; omega
def RvPost (s : ByteArray) (w : World) (e : Ending) (w' : World) : Prop := e = .returned (.tuple #[.int .i64 (rvN s.data.toList), .int .i64 (rvK s.data.toList)]) ∧ Below w.heap.size w w'
set_option maxRecDepth 100000 in
set_option maxHeartbeats 400000 in
theorem sRv (s : ByteArray) (w : World) (hs : s.size ≤ maxLen) :
    Calls Try.prog 15 #[.string s] w (RvPost s w) := by
  unfold maxLen at hs
  go_enter Try.func15, Try.ntmps15
  go_wp2
  go_loopw [4] (fun i wr => ∃ k : Nat, 1 ≤ k ∧ k ≤ 8 ∧ i = .int .i64 k ∧ NoneTo s.data.toList k ∧ Below w.heap.size w wr) (fun i _ => 8 - (intOf i).toNat)
  case atStart => exact ⟨1, Nat.le_refl _, by omega, rfl, by intro j h1 h2; omega, Below.refl _ _⟩
  case round =>
    obtain ⟨k, h1, h8, rfl, hn, hb⟩ := hrel
    by_cases h7 : k ≤ 7
    · by_cases hl : k ≤ s.size
      · have hd : decide (k ≤ s.size) = true := by simp; omega
        have hd7 : decide ((k : Int) ≤ 7) = true := by simp; omega
        go_wp2
        go_loop [5, 6] (fun n i => ∃ (x : Int) (j : Nat), x + 1 = j ∧ j ≤ k ∧ i = .int .i64 x ∧ n = .int .i64 (val ((s.data.toList.take k).drop j))) (fun _ i => (intOf i + 1).toNat)
        case atStart => exact ⟨(k : Int) - 1, k, by omega, Nat.le_refl _, rfl, by rw [List.drop_of_length_le (List.length_take_le _ _)]; rfl⟩
        case round =>
          obtain ⟨x, j, hx, hj, rfl, rfl⟩ := hrel
          by_cases h0 : 0 ≤ x
          · obtain ⟨m, rfl⟩ := Int.eq_ofNat_of_zero_le h0
            obtain rfl : j = m + 1 := by omega
            have HV := Lib.hid (val_drop s k m hl (by omega))
            have hbd := val_drop_lt s k (m + 1) h7
            have hc := s[m].toNat_lt
            clear hx
            go_wp2
            go_round
            case rel => exact ⟨(m : Int) - 1, m, by omega, by omega, rfl, by rw [HV.out]; go_num⟩
            case measure => simp [intOf]
          · obtain rfl : x = -1 := by omega
            obtain rfl : j = 0 := by omega
            clear hx
            have hle := Lib.hid (val_take_le s.data.toList k h7)
            rw [List.drop_zero]
            have hb3 := fun (w' : World) (h : Below wr.drew.heap.size wr.drew w') => Lib.hid (hb.trans ((below_of_drew h).mono hb.size))
            cases hg : good s.data.toList k with
            | true =>
              have ht := (good_eq s k).trans hg
              have hk : rvK s.data.toList = k := rvK_first _ k h1 h7 (by rw [len_data]; exact hl) hg hn
              have HN := Lib.hid (rvN_of hk (by omega))
              have HK := Lib.hid hk
              clear hk hg
              go_wp2
              go_region_with (go_at_call 13; refine (sVar_good _ _ hle.out).mono ?_; rintro e w' ⟨rfl, hb2⟩)
              go_wp2
              go_ret2
              exact ⟨by rw [HN.out, HK.out]; rfl, (hb3 _ hb2).out⟩
            | false =>
              have ht := (good_eq s k).trans hg
              have HG := Lib.hid hg
              clear hg
              go_wp2
              go_region_with (go_at_call 13; refine (sVar_good _ _ hle.out).mono ?_; rintro e w' ⟨rfl, hb2⟩)
              go_wp2
              go_roundw
              case rel => exact ⟨k + 1, by omega, by omega, by go_num, hn.succ HG.out, (hb3 _ hb2).out⟩
              case measure => simp [intOf]; omega
      · have hd : decide (k ≤ s.size) = false := by simp; omega
        have hd7 : decide ((k : Int) ≤ 7) = true := by simp; omega
        have hnone : rvK s.data.toList = 0 := rvK_none _ fun j a b c => hn j a (by rw [len_data] at c; omega)
        have HN := Lib.hid (rvN_zero hnone)
        have HK := Lib.hid hnone
        clear hnone
        go_wp2
        go_ret2
        exact ⟨by rw [HN.out, HK.out]; rfl, hb⟩
    · have hnone : rvK s.data.toList = 0 := rvK_none _ fun j a b c => hn j a (by omega)
      have HN := Lib.hid (rvN_zero hnone)
      have HK := Lib.hid hnone
      clear hnone
      go_wp2
      go_ret2
      exact ⟨by rw [HN.out, HK.out]; rfl, hb⟩
set_option maxRecDepth 100000 in
set_option maxHeartbeats 400000 in
theorem iRv (s : ByteArray) (w : World) (hs : s.size ≤ maxLen) :
    Calls Try.prog 16 #[.string s] w (RvPost s w) := by
  unfold maxLen at hs
  go_enter Try.func16, Try.ntmps16
  by_cases hM : s.size ≤ 7
  · have hM' : (s.size : Int) ≤ 7 := by omega
    go_wp2
    go_loopw [4, 5, 9] (fun n _ i wr => ∃ j : Nat, j ≤ s.size ∧ i = .int .i64 j ∧ n = .int .i64 (val (s.data.toList.take j)) ∧ HighTo s.data.toList j ∧ Below w.heap.size w wr) (fun _ _ i _ => s.size - (intOf i).toNat)
    case atStart => exact ⟨0, Nat.zero_le _, rfl, rfl, by intro i c h; omega, Below.refl _ _⟩
    case round =>
      obtain ⟨j, hj, rfl, rfl, hh, hb⟩ := hrel
      by_cases hlt : j < s.size
      · have hlts : j < s.size := by omega
        have hc : s[j].toNat < 256 := s[j].toNat_lt
        have ha := u8_and127 s[j].toNat hc
        have hor := or_val (val (s.data.toList.take j)) s[j].toNat j (val_take_lt _ _) (by omega)
        rw [← val_take s j hlts] at hor
        have hle := Lib.hid (val_take_le s.data.toList (j + 1) (by omega))
        have hb3 := fun (w' : World) (h : Below wr.drew.heap.size wr.drew w') => Lib.hid (hb.trans ((below_of_drew h).mono hb.size))
        by_cases hhi : 127 < s[j].toNat
        · have hhi' : (127 : Int) < (s[j].toNat : Int) := by omega
          have HH := Lib.hid (hh.succ hlts hhi)
          go_wp2
          go_roundw
          case rel => exact ⟨j + 1, by omega, by go_num, rfl, HH.out, hb⟩
          case measure => simp [intOf]; omega
        · have hhi' : (s[j].toNat : Int) ≤ 127 := by omega
          cases hg : good s.data.toList (j + 1) with
          | true =>
            have ht := (good_eq s (j + 1)).trans hg
            have hk : rvK s.data.toList = j + 1 := rvK_hit hh (by omega) (by rw [len_data]; exact hlts) hg
            have HN := Lib.hid (rvN_of hk (by omega))
            have HK := Lib.hid hk
            clear hk hg
            go_wp2
            have hw := wrap_succ j (by omega)
            have hw1 : (0 : Int) ≤ (j : Int) + 1 := by omega
            have hw2 : (j : Int) + 1 ≤ (s.size : Int) := by omega
            go_region_with (go_at_call 14; refine (iVar_good _ _ hle.out).mono ?_; rintro e w' ⟨rfl, hb2⟩)
            clear hw
            go_wp2
            go_ret2
            exact ⟨by rw [HN.out, HK.out]; rfl, (hb3 _ hb2).out⟩
          | false =>
            have ht := (good_eq s (j + 1)).trans hg
            have hk : rvK s.data.toList = 0 := rvK_miss hh (get_data s j hlts) (by omega) hg
            have HN := Lib.hid (rvN_zero hk)
            have HK := Lib.hid hk
            clear hk hg
            go_wp2
            have hw := wrap_succ j (by omega)
            have hw1 : (0 : Int) ≤ (j : Int) + 1 := by omega
            have hw2 : (j : Int) + 1 ≤ (s.size : Int) := by omega
            go_region_with (go_at_call 14; refine (iVar_good _ _ hle.out).mono ?_; rintro e w' ⟨rfl, hb2⟩)
            clear hw
            go_wp2
            go_ret2
            exact ⟨by rw [HN.out, HK.out]; rfl, (hb3 _ hb2).out⟩
      · have hk : rvK s.data.toList = 0 := rvK_high (p := j) hh (by rw [len_data]; omega)
        have HN := Lib.hid (rvN_zero hk)
        have HK := Lib.hid hk
        clear hk
        go_wp2
        go_ret2
        exact ⟨by rw [HN.out, HK.out]; rfl, hb⟩
  · have hM' : (7 : Int) < (s.size : Int) := by omega
    go_wp2
    go_loopw [4, 5, 9] (fun n _ i wr => ∃ j : Nat, j ≤ 7 ∧ i = .int .i64 j ∧ n = .int .i64 (val (s.data.toList.take j)) ∧ HighTo s.data.toList j ∧ Below w.heap.size w wr) (fun _ _ i _ => 7 - (intOf i).toNat)
    case atStart => exact ⟨0, Nat.zero_le _, rfl, rfl, by intro i c h; omega, Below.refl _ _⟩
    case round =>
      obtain ⟨j, hj, rfl, rfl, hh, hb⟩ := hrel
      by_cases hlt : j < 7
      · have hlts : j < s.size := by omega
        have hc : s[j].toNat < 256 := s[j].toNat_lt
        have ha := u8_and127 s[j].toNat hc
        have hor := or_val (val (s.data.toList.take j)) s[j].toNat j (val_take_lt _ _) (by omega)
        rw [← val_take s j hlts] at hor
        have hle := Lib.hid (val_take_le s.data.toList (j + 1) (by omega))
        have hb3 := fun (w' : World) (h : Below wr.drew.heap.size wr.drew w') => Lib.hid (hb.trans ((below_of_drew h).mono hb.size))
        by_cases hhi : 127 < s[j].toNat
        · have hhi' : (127 : Int) < (s[j].toNat : Int) := by omega
          have HH := Lib.hid (hh.succ hlts hhi)
          go_wp2
          go_roundw
          case rel => exact ⟨j + 1, by omega, by go_num, rfl, HH.out, hb⟩
          case measure => simp [intOf]; omega
        · have hhi' : (s[j].toNat : Int) ≤ 127 := by omega
          cases hg : good s.data.toList (j + 1) with
          | true =>
            have ht := (good_eq s (j + 1)).trans hg
            have hk : rvK s.data.toList = j + 1 := rvK_hit hh (by omega) (by rw [len_data]; exact hlts) hg
            have HN := Lib.hid (rvN_of hk (by omega))
            have HK := Lib.hid hk
            clear hk hg
            go_wp2
            have hw := wrap_succ j (by omega)
            have hw1 : (0 : Int) ≤ (j : Int) + 1 := by omega
            have hw2 : (j : Int) + 1 ≤ (s.size : Int) := by omega
            go_region_with (go_at_call 14; refine (iVar_good _ _ hle.out).mono ?_; rintro e w' ⟨rfl, hb2⟩)
            clear hw
            go_wp2
            go_ret2
            exact ⟨by rw [HN.out, HK.out]; rfl, (hb3 _ hb2).out⟩
          | false =>
            have ht := (good_eq s (j + 1)).trans hg
            have hk : rvK s.data.toList = 0 := rvK_miss hh (get_data s j hlts) (by omega) hg
            have HN := Lib.hid (rvN_zero hk)
            have HK := Lib.hid hk
            clear hk hg
            go_wp2
            have hw := wrap_succ j (by omega)
            have hw1 : (0 : Int) ≤ (j : Int) + 1 := by omega
            have hw2 : (j : Int) + 1 ≤ (s.size : Int) := by omega
            go_region_with (go_at_call 14; refine (iVar_good _ _ hle.out).mono ?_; rintro e w' ⟨rfl, hb2⟩)
            clear hw
            go_wp2
            go_ret2
            exact ⟨by rw [HN.out, HK.out]; rfl, (hb3 _ hb2).out⟩
      · have hk : rvK s.data.toList = 0 := rvK_high (p := j) hh (by left; omega)
        have HN := Lib.hid (rvN_zero hk)
        have HK := Lib.hid hk
        clear hk
        go_wp2
        go_ret2
        exact ⟨by rw [HN.out, HK.out]; rfl, hb⟩
end Go.Proofs.Ytkcepbncjlbpbaa
