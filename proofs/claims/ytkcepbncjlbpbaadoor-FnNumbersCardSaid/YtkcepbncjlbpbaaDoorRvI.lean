/-
  The program's ReadVar: the number whose varint the string begins with, and the length of that varint; 0 and 0 where it begins with none. It turns nothing that was there.
-/
import Derived.Test.YtkcepbncjlbpbaaDoorIn
import Derived.Test.YtkcepbncjlbpbaaDoorVar
import Derived.Test.YtkcepbncjlbpbaaDoorMathB
import Derived.Deep.RegionWith
import Derived.Deep.DrawnRows
namespace Go.Proofs.YtkcepbncjlbpbaaDoor
open Go.RowKit M
set_option linter.unusedVariables false
attribute [local go_sem ↓] Go.wp_at_zero Go.wp_at_succ
/-- No beginning of fewer than k bytes is a varint. -/
def NoneTo (l : List UInt8) (k : Nat) : Prop := ∀ j, 1 ≤ j → j < k → good l j = false
theorem NoneTo.succ {l : List UInt8} {k : Nat} (h : NoneTo l k) (hg : good l k = false) : NoneTo l (k + 1) := by
  intro j h1 h2
  rcases Nat.lt_or_ge j k with hj | hj
  · exact h j h1 hj
  · rw [show j = k by omega]; exact hg
theorem below_of_drew {B : Nat} {w w' : World} (h : Below B w.drew w') : Below B w w' := ⟨h.os, h.tape, h.output, h.size, h.block⟩
theorem wrap_succ (j : Nat) (h : j < 7) : IntKind.i64.wrap ((j : Int) + 1) = (j : Int) + 1 := by rw [IntKind.wrap_i64]; omega
def RvPost (s : ByteArray) (w : World) (e : Ending) (w' : World) : Prop := e = .returned (.tuple #[.int .i64 (rvN s.data.toList), .int .i64 (rvK s.data.toList)]) ∧ Below w.heap.size w w'
set_option maxRecDepth 100000 in
set_option maxHeartbeats 400000 in
theorem iRv (s : ByteArray) (w : World) (hs : s.size ≤ maxLen) :
    Calls Tryd.prog 10 #[.string s] w (RvPost s w) := by
  unfold maxLen at hs
  go_enter Tryd.func10, Tryd.ntmps10
  by_cases hM : s.size ≤ 7
  · have hM' : (s.size : Int) ≤ 7 := by omega
    go_wp2
    go_loopw [4, 5, 9] (fun n _ i wr => ∃ j : Nat, j ≤ s.size ∧ i = .int .i64 j ∧ n = .int .i64 (val (s.data.toList.take j)) ∧ HighTo s.data.toList j ∧ Below w.heap.size w wr) (fun _ _ i _ => s.size - (intOf i).toNat)
    case atStart => exact ⟨0, Nat.zero_le _, rfl, rfl, by intro i c h; omega, Below.refl _ _⟩
    case round =>
      obtain ⟨j, hj, rfl, rfl, hh, hb⟩ := hrel
      by_cases hlt : j < s.size
      · have hlts : j < s.size := by omega
        have hc : s[j].toNat < 256 := s[j].toNat_lt
        have ha := u8_and127 s[j].toNat hc
        have hor := or_val (val (s.data.toList.take j)) s[j].toNat j (val_take_lt _ _) (by omega)
        rw [← val_take s j hlts] at hor
        have hle := Lib.hid (val_take_le s.data.toList (j + 1) (by omega))
        have hb3 := fun (w' : World) (h : Below wr.drew.heap.size wr.drew w') => Lib.hid (hb.trans ((below_of_drew h).mono hb.size))
        by_cases hhi : 127 < s[j].toNat
        · have hhi' : (127 : Int) < (s[j].toNat : Int) := by omega
          have HH := Lib.hid (hh.succ hlts hhi)
          go_wp2
          go_roundw
          case rel => exact ⟨j + 1, by omega, by go_num, rfl, HH.out, hb⟩
          case measure => simp [intOf]; omega
        · have hhi' : (s[j].toNat : Int) ≤ 127 := by omega
          cases hg : good s.data.toList (j + 1) with
          | true =>
            have ht := (good_eq s (j + 1)).trans hg
            have hk : rvK s.data.toList = j + 1 := rvK_hit hh (by omega) (by rw [len_data]; exact hlts) hg
            have HN := Lib.hid (rvN_of hk (by omega))
            have HK := Lib.hid hk
            clear hk hg
            go_wp2
            have hw := wrap_succ j (by omega)
            have hw1 : (0 : Int) ≤ (j : Int) + 1 := by omega
            have hw2 : (j : Int) + 1 ≤ (s.size : Int) := by omega
            go_region_with (go_at_call 9; refine (iVar_good _ _ hle.out).mono ?_; rintro e w' ⟨rfl, hb2⟩)
            clear hw
            go_wp2
            go_ret2
            exact ⟨by rw [HN.out, HK.out]; rfl, (hb3 _ hb2).out⟩
          | false =>
            have ht := (good_eq s (j + 1)).trans hg
            have hk : rvK s.data.toList = 0 := rvK_miss hh (get_data s j hlts) (by omega) hg
            have HN := Lib.hid (rvN_zero hk)
            have HK := Lib.hid hk
            clear hk hg
            go_wp2
            have hw := wrap_succ j (by omega)
            have hw1 : (0 : Int) ≤ (j : Int) + 1 := by omega
            have hw2 : (j : Int) + 1 ≤ (s.size : Int) := by omega
            go_region_with (go_at_call 9; refine (iVar_good _ _ hle.out).mono ?_; rintro e w' ⟨rfl, hb2⟩)
            clear hw
            go_wp2
            go_ret2
            exact ⟨by rw [HN.out, HK.out]; rfl, (hb3 _ hb2).out⟩
      · have hk : rvK s.data.toList = 0 := rvK_high (p := j) hh (by rw [len_data]; omega)
        have HN := Lib.hid (rvN_zero hk)
        have HK := Lib.hid hk
        clear hk
        go_wp2
        go_ret2
        exact ⟨by rw [HN.out, HK.out]; rfl, hb⟩
  · have hM' : (7 : Int) < (s.size : Int) := by omega
    go_wp2
    go_loopw [4, 5, 9] (fun n _ i wr => ∃ j : Nat, j ≤ 7 ∧ i = .int .i64 j ∧ n = .int .i64 (val (s.data.toList.take j)) ∧ HighTo s.data.toList j ∧ Below w.heap.size w wr) (fun _ _ i _ => 7 - (intOf i).toNat)
    case atStart => exact ⟨0, Nat.zero_le _, rfl, rfl, by intro i c h; omega, Below.refl _ _⟩
    case round =>
      obtain ⟨j, hj, rfl, rfl, hh, hb⟩ := hrel
      by_cases hlt : j < 7
      · have hlts : j < s.size := by omega
        have hc : s[j].toNat < 256 := s[j].toNat_lt
        have ha := u8_and127 s[j].toNat hc
        have hor := or_val (val (s.data.toList.take j)) s[j].toNat j (val_take_lt _ _) (by omega)
        rw [← val_take s j hlts] at hor
        have hle := Lib.hid (val_take_le s.data.toList (j + 1) (by omega))
        have hb3 := fun (w' : World) (h : Below wr.drew.heap.size wr.drew w') => Lib.hid (hb.trans ((below_of_drew h).mono hb.size))
        by_cases hhi : 127 < s[j].toNat
        · have hhi' : (127 : Int) < (s[j].toNat : Int) := by omega
          have HH := Lib.hid (hh.succ hlts hhi)
          go_wp2
          go_roundw
          case rel => exact ⟨j + 1, by omega, by go_num, rfl, HH.out, hb⟩
          case measure => simp [intOf]; omega
        · have hhi' : (s[j].toNat : Int) ≤ 127 := by omega
          cases hg : good s.data.toList (j + 1) with
          | true =>
            have ht := (good_eq s (j + 1)).trans hg
            have hk : rvK s.data.toList = j + 1 := rvK_hit hh (by omega) (by rw [len_data]; exact hlts) hg
            have HN := Lib.hid (rvN_of hk (by omega))
            have HK := Lib.hid hk
            clear hk hg
            go_wp2
            have hw := wrap_succ j (by omega)
            have hw1 : (0 : Int) ≤ (j : Int) + 1 := by omega
            have hw2 : (j : Int) + 1 ≤ (s.size : Int) := by omega
            go_region_with (go_at_call 9; refine (iVar_good _ _ hle.out).mono ?_; rintro e w' ⟨rfl, hb2⟩)
            clear hw
            go_wp2
            go_ret2
            exact ⟨by rw [HN.out, HK.out]; rfl, (hb3 _ hb2).out⟩
          | false =>
            have ht := (good_eq s (j + 1)).trans hg
            have hk : rvK s.data.toList = 0 := rvK_miss hh (get_data s j hlts) (by omega) hg
            have HN := Lib.hid (rvN_zero hk)
            have HK := Lib.hid hk
            clear hk hg
            go_wp2
            have hw := wrap_succ j (by omega)
            have hw1 : (0 : Int) ≤ (j : Int) + 1 := by omega
            have hw2 : (j : Int) + 1 ≤ (s.size : Int) := by omega
            go_region_with (go_at_call 9; refine (iVar_good _ _ hle.out).mono ?_; rintro e w' ⟨rfl, hb2⟩)
            clear hw
            go_wp2
            go_ret2
            exact ⟨by rw [HN.out, HK.out]; rfl, (hb3 _ hb2).out⟩
      · have hk : rvK s.data.toList = 0 := rvK_high (p := j) hh (by left; omega)
        have HN := Lib.hid (rvN_zero hk)
        have HK := Lib.hid hk
        clear hk
        go_wp2
        go_ret2
        exact ⟨by rw [HN.out, HK.out]; rfl, hb⟩
end Go.Proofs.YtkcepbncjlbpbaaDoor
