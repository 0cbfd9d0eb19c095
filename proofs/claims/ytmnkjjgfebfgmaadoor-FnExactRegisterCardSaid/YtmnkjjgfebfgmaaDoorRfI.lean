/-
  The program's ReadFixed: the number that the first width bytes encode, and true; or 0 and false where width is not from 1 to 7 or the string is shorter. It does not turn the world.
-/
import Derived.Test.YtmnkjjgfebfgmaaDoorIn
import Derived.Test.YtmnkjjgfebfgmaaDoorMath
import Derived.WalkKit
import Derived.Lib.Hide
import Derived.Test.YtmnkjjgfebfgmaaDoorChecked
import Derived.BigGuardPart
namespace Go.Proofs.YtmnkjjgfebfgmaaDoor
open Go.RowKit M
theorem iRf_bad (s : ByteArray) (k : Int) (w : World) (_hs : s.size ≤ maxLen) (h : k < 1 ∨ 7 < k ∨ (s.size : Int) < k) :
    Calls Tryd.prog 57 #[.string s, .int .i64 k] w fun e w' => e = .returned (.tuple #[.int .i64 0, .bool false]) ∧ w = w' := by
  by_cases h1 : k < 1
  · go_enter Tryd.func57, Tryd.ntmps57
    go_wp2
    go_ret2
    exact ⟨rfl, rfl⟩
  · by_cases h2 : 7 < k
    · go_enter Tryd.func57, Tryd.ntmps57
      go_wp2
      go_ret2
      exact ⟨rfl, rfl⟩
    · have h3 : (s.size : Int) < k := by omega
      go_enter Tryd.func57, Tryd.ntmps57
      go_wp2
      go_ret2
      exact ⟨rfl, rfl⟩
theorem iRf_good (s : ByteArray) (k : Nat) (w : World) (hs : s.size ≤ maxLen) (h1 : 1 ≤ k) (h2 : k ≤ 7) (h3 : k ≤ s.size) :
    Calls Tryd.prog 57 #[.string s, .int .i64 k] w fun e w' => e = .returned (.tuple #[.int .i64 (be (s.data.toList.take k)), .bool true]) ∧ w = w' := by
  unfold maxLen at hs
  go_enter Tryd.func57, Tryd.ntmps57
  go_wp2
  go_loop [6, 7, 21] (fun n _ i => ∃ j : Nat, j ≤ k ∧ i = .int .i64 j ∧ n = .int .i64 (be (s.data.toList.take j))) (fun _ _ i => k - (intOf i).toNat)
  case atStart => exact ⟨0, Nat.zero_le _, rfl, rfl⟩
  case round =>
    obtain ⟨j, hj, rfl, rfl⟩ := hrel
    by_cases hlt : j < k
    · have hjs : j < s.size := by omega
      have hb := be_take_lt s j (by omega)
      have hc := s[j].toNat_lt
      have HS : Hid (be (s.data.toList.take (j + 1)) = be (s.data.toList.take j) * 256 + s[j].toNat) := be_take s j hjs
      go_wp2
      go_round
      case rel => exact ⟨j + 1, by omega, by go_num, by rw [HS.out, or256 _ _ hb hc]; go_num⟩
      case measure => simp [intOf]; omega
    · obtain rfl : j = k := by omega
      go_wp2
      go_ret2
      exact ⟨rfl, rfl⟩
end Go.Proofs.YtmnkjjgfebfgmaaDoor
