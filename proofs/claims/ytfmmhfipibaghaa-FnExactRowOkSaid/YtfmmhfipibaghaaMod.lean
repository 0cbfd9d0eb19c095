/-
  A number modulo the word, the model's way: from 0 to the word less one, whatever the number.
-/
import Derived.Test.YtfmmhfipibaghaaGive
import Derived.BigGuardPart
namespace Go.Proofs.Ytfmmhfipibaghaa
open Go.RowKit
set_option linter.unusedVariables false
theorem tmod_all (x : Int) : (x.tmod 281474976710656 + 281474976710656) % 281474976710656 = x % 281474976710656 := by
  have h := Int.tmod_eq_emod (a := x) (b := 281474976710656)
  split at h <;> simp at h <;> omega
theorem tmod_word (x : Int) (h0 : -1000000000000000 ≤ x) (h1 : x ≤ 1000000000000000) : (x.tmod 281474976710656 + 281474976710656) % 281474976710656 = x % 281474976710656 := tmod_all x
theorem tmod_bd (x : Int) : -281474976710656 < x.tmod 281474976710656 ∧ x.tmod 281474976710656 < 281474976710656 := by
  have h := Int.tmod_eq_emod (a := x) (b := 281474976710656)
  split at h <;> simp at h <;> omega
theorem sMod_any (x : Int) (w : World) : Calls Try.prog 45 #[.int .i64 x] w (Same w (.int .i64 (x % 281474976710656))) := by
  have HT := Lib.hid (tmod_all x)
  obtain ⟨b0, b1⟩ := tmod_bd x
  go_enter Try.func45, Try.ntmps45
  go_wp2
  go_ret
  exact ⟨ret_i (by rw [← HT.out]), rfl⟩
theorem mod_any (x : Int) (w : World) (h0 : -1000000000000000 ≤ x) (h1 : x ≤ 1000000000000000) :
    Calls Try.prog 45 #[.int .i64 x] w (Same w (.int .i64 (x % 281474976710656))) := sMod_any x w
end Go.Proofs.Ytfmmhfipibaghaa
